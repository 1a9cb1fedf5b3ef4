/- Texts NsL NsM, joined: what each part says stands ahead of it. -/
import Derived.Test.YtpnhefjiobnelaaGTd
/- Layer 7 of the program: a module. -/
namespace Rp
open Go Lg
def gB (x : List Dc) (j : Nat) : Option Bool := match x[j]? with | some (.b z) => some z | _ => none
def pkK (o r : Bool) : Int := if o = false then 1 else if r = true then 3 else 2
/-- the names of ports -/
def pL : Nat → Nat → Nat → List Dc → Asc → Nat → Option (Asc × Nat)
  | 0, _, _, _, _, _ => none
  | F + 1, n, i, l, f, k => if i = n then some (f, k) else match gB (chk 17 l i) 0, gB (chk 17 l i) 1, gT (chk 17 l i) 15, gI (chk 17 l i) 16 with
    | some o, some r, some nm, some _ => (match dcl f k nm (pkK o r) with
      | some (f1, k1) => pL F n (i + 1) l f1 k1
      | none => none)
    | _, _, _, _ => none
/-- a module -/
def mM (AL : List Dc → Asc → Asc → List (Asc × Asc) → Nat → Rs) (F : Nat) (x : List Dc) (k : Nat) : Rs := match gS x 1, gS x 2, gS x 3 with
  | some (np0, _), some (np, ps), some (ni, its) => if np0 = 0 ∧ np ≤ 100000 ∧ ni ≤ 100000 then (match pL F np 0 ps [] k with
      | some (f, k1) => match nL F ni 0 its f k1 with
        | some (f2, k2) => iM AL F (.its ni 0 its) f2 [] [] k2
        | none => none
      | none => none) else none
  | _, _, _ => none
end Rp
namespace Go.Proofs.Ytpnhefjiobnelaa
open Go.RowKit Lg Rp Go.Maps
set_option linter.unusedVariables false
set_option linter.unusedSimpArgs false

theorem gB_eq {x : List Dc} {j : Nat} {z : Bool} (h : gB x j = some z) : x[j]? = some (.b z) := by
  unfold gB at h; split at h
  · rename_i e; injection h with h; subst h; exact e
  · cases h
theorem Xa.b {w : World} {cb g o : Nat} {x : List Dc} {vs : List Value} (h : Xa w cb g o x vs) {j : Nat} {z : Bool} (hj : gB x j = some z) : w.cell? ⟨g, o + j, none⟩ = some (.bool z) := by
  obtain ⟨v, h1, h2⟩ := h.d.get (gB_eq hj)
  cases h2 with | b _ => exact h.cs _ _ h1
set_option maxRecDepth 100000 in
set_option maxHeartbeats 1000000 in
theorem sPortKind {g o : Nat} {b0 b1 : Bool} {w : World} (h0 : w.cell? ⟨g, o, none⟩ = some (.bool b0)) (h1 : w.cell? ⟨g, o + 1, none⟩ = some (.bool b1)) (hg : g < w.heap.size) :
    Calls Try.prog 36 #[.pointer (some ⟨g, o, none⟩)] w fun e w' => e = .returned (.int .i64 (pkK b0 b1)) ∧ w' = w := by
  unfold pkK
  cases b0 <;> cases b1
  all_goals
    go_enter Try.func36, Try.ntmps36
    go_wp2
    go_ret
    exact ⟨rfl, rfl⟩
theorem pkK_ok (o r : Bool) : pkK o r ≠ 0 ∧ (-10 ≤ pkK o r ∧ pkK o r ≤ 10) := by cases o <;> cases r <;> decide
theorem pL_step {F n i k k1 : Nat} {l : List Dc} {f f1 : Asc} (h : pL (F + 1) n i l f k = some (f1, k1)) : (i = n ∧ f1 = f ∧ k1 = k) ∨ (i ≠ n ∧ ∃ o r nm at_ f2 k2, gB (chk 17 l i) 0 = some o ∧ gB (chk 17 l i) 1 = some r ∧ gT (chk 17 l i) 15 = some nm ∧ gI (chk 17 l i) 16 = some at_ ∧ dcl f k nm (pkK o r) = some (f2, k2) ∧ pL F n (i + 1) l f2 k2 = some (f1, k1)) := by
  rw [pL] at h
  split at h
  · rename_i hi; injection h with h; injection h with e1 e2; exact Or.inl ⟨hi, e1.symm, e2.symm⟩
  · rename_i hi
    right
    cases h1 : gB (chk 17 l i) 0 with
    | none => rw [h1] at h; cases h
    | some o =>
      cases h2 : gB (chk 17 l i) 1 with
      | none => rw [h1, h2] at h; cases h
      | some r =>
        cases h3 : gT (chk 17 l i) 15 with
        | none => rw [h1, h2, h3] at h; cases h
        | some nm =>
          cases h4 : gI (chk 17 l i) 16 with
          | none => rw [h1, h2, h3, h4] at h; cases h
          | some at_ =>
            rw [h1, h2, h3, h4] at h
            simp only at h
            cases h5 : dcl f k nm (pkK o r) with
            | none => rw [h5] at h; cases h
            | some a => obtain ⟨f2, k2⟩ := a; rw [h5] at h; exact ⟨hi, o, r, nm, at_, f2, k2, rfl, rfl, rfl, rfl, h5, h⟩
theorem mM_way {AL : ALt} {F k : Nat} {x : List Dc} {r : Sum (Int × Int) (Nat × Asc)} (h : mM AL F x k = some r) : ∃ z np ps ni its f k1 f2 k2, gS x 1 = some (0, z) ∧ gS x 2 = some (np, ps) ∧ gS x 3 = some (ni, its) ∧ np ≤ 100000 ∧ ni ≤ 100000 ∧ pL F np 0 ps [] k = some (f, k1) ∧ nL F ni 0 its f k1 = some (f2, k2) ∧ iM AL F (.its ni 0 its) f2 [] [] k2 = some r := by
  unfold mM at h
  cases h1 : gS x 1 with
  | none => rw [h1] at h; cases h
  | some a =>
    obtain ⟨np0, z⟩ := a
    cases h2 : gS x 2 with
    | none => rw [h1, h2] at h; cases h
    | some a =>
      obtain ⟨np, ps⟩ := a
      cases h3 : gS x 3 with
      | none => rw [h1, h2, h3] at h; cases h
      | some a =>
        obtain ⟨ni, its⟩ := a
        rw [h1, h2, h3] at h
        simp only at h
        split at h
        · rename_i hc
          obtain ⟨rfl, hc1, hc2⟩ := hc
          cases h4 : pL F np 0 ps [] k with
          | none => rw [h4] at h; cases h
          | some a =>
            obtain ⟨f, k1⟩ := a
            rw [h4] at h
            simp only at h
            cases h5 : nL F ni 0 its f k1 with
            | none => rw [h5] at h; cases h
            | some a =>
              obtain ⟨f2, k2⟩ := a
              rw [h5] at h
              exact ⟨z, np, ps, ni, its, f, k1, f2, k2, rfl, rfl, rfl, hc1, hc2, h4, h5, h⟩
        · cases h
set_option maxRecDepth 100000 in
set_option maxHeartbeats 8000000 in
theorem sModule {AL : ALt} {cb mb F k g o : Nat} (HAL : AlC AL cb mb) {x : List Dc} {vs : List Value} {r : Sum (Int × Int) (Nat × Asc)} {w : World} (hq : mM AL F x k = some r) (hc : Cb cb mb k w) (hX : Xa w cb g o x vs) :
    Calls Try.prog 21 #[.pointer (some ⟨cb, 0, none⟩), .pointer (some ⟨g, o, none⟩)] w fun e w' => LpR cb mb w r e w' := by
  obtain ⟨z, np, ps, ni, its, f, k1, f2, k2, h1, h2, h3, hnp, hni, hp, hn, hi⟩ := mM_way hq
  have hcb := heap_lt hc
  have HN := sNewS (w := w) (cb := cb) (B := cb + 1) (.nil (Nat.lt_succ_self _)) (by omega)
  obtain ⟨ao1, cp1, _, hcell1, _⟩ := hX.s h1
  obtain ⟨ao2, cp2, _, hcell2, hkid2⟩ := hX.s h2
  obtain ⟨ao3, cp3, _, hcell3, hkid3⟩ := hX.s h3
  have hgl := hX.hl
  have hgc := hX.hg
  have HI := fun w' (hc' : Cb cb mb k1 w') hs hk => sItems (sItC HAL F) (sb := w.heap.size + 2) (nb := w.heap.size) (db := w.heap.size + 1) (d := []) (fs := []) (p := none) (ao := ao3) (cp := cp3) (w := w') hn hi hni hc' hs hk
  have HC : Hid _ := hc
  have HK2 : Hid _ := hkid2
  have HK3 : Hid _ := hkid3
  have HP : Hid _ := hp
  have HR3 : Hid (∀ w', Kp cb w w' → w'.cell? ⟨g, o + 1, none⟩ = some (.slice ao1 0 cp1) ∧ w'.cell? ⟨g, o + 2, none⟩ = some (.slice ao2 np cp2) ∧ w'.cell? ⟨g, o + 3, none⟩ = some (.slice ao3 ni cp3) ∧ g < w'.heap.size) := fun w' hw => by
    have e : ∀ j, w'.cell? ⟨g, o + j, none⟩ = w.cell? ⟨g, o + j, none⟩ := fun j => World.cell?_of_block (w := w) (a := ⟨g, o + j, none⟩) (hw.block g hgl (by omega))
    exact ⟨(e 1).trans hcell1, (e 2).trans hcell2, (e 3).trans hcell3, Nat.lt_of_lt_of_le hgl hw.size⟩
  have hw1 : ∀ i : Nat, i ≤ 100000 → IntKind.i64.wrap ((i : Int) + 1) = ((i + 1 : Nat) : Int) := fun i hi => by rw [IntKind.wrap_i64]; omega
  clear h1 h2 h3 hp hn hi hc hX hkid2 hkid3 hq hcell1 hcell2 hcell3 HAL
  go_enter Try.func21, Try.ntmps21
  go_wp2_with (first
    | (go_at_call 37; refine HN.mono ?_; rintro e w1 ⟨rfl, hs1, hb1⟩; have hc1 := Cb.keep (mb := mb) (k := k) HC.out (hb1.block cb hcb); have hr1 := HR3.out _ (Kp.of hb1); obtain ⟨a1, a2, a3, a4⟩ := hr1))
  go_loopw [13] (fun v wr => v = .int .i64 0 ∧ Hid (wr = w1)) (fun _ _ => 0)
  case atStart => exact ⟨rfl, rfl⟩
  case round =>
    obtain ⟨rfl, HW⟩ := hrel
    have hwr := HW.out
    subst hwr
    clear HW
    go_wp2
    go_loopw [41] (fun v w2 => ∃ (F' i kz : Nat) (a : Asc), i ≤ np ∧ v = .int .i64 i ∧ Hid (pL F' np i ps a kz = some (f, k1)) ∧ Hid (Cb cb mb kz w2) ∧ Hid (Sc w2 cb (w.heap.size + 2) w.heap.size (w.heap.size + 1) a [] [] none) ∧ Hid (Kp cb w w2)) (fun v _ => np - (intOf v).toNat)
    case atStart => exact ⟨F, 0, k, [], Nat.zero_le _, rfl, HP, hc1, hs1, Kp.of hb1⟩
    case round =>
      obtain ⟨F', i, kz, a, hi, rfl, HQ2, HCB, HS2, HKZ⟩ := hrel
      obtain ⟨r1, r2, r3, r4⟩ := HR3.out _ HKZ.out
      have hnI : (np : Int) ≤ 100000 := by omega
      cases F' with
      | zero => have := HQ2.out; rw [pL] at this; cases this
      | succ F' =>
        rcases pL_step HQ2.out with ⟨rfl, rfl, rfl⟩ | ⟨hne, po, pr, nm, at_, f3, k3, g0, g1, g15, g16, hd, hrest⟩
        · have hkid : ni = 0 ∨ ∃ gk us, ao3 = some ⟨gk, 0, none⟩ ∧ ni ≤ cp3 ∧ Xa wr cb gk 0 its us := by
            rcases HK3.out with h0 | ⟨gk, us, e1, e2, e3⟩
            · exact Or.inl h0
            · exact Or.inr ⟨gk, us, e1, e2, e3.kp HKZ.out⟩
          have HI2 := HI _ HCB.out HS2.out hkid
          unfold IpR at HI2
          clear hkid
          cases r with
          | inr a =>
            obtain ⟨k', d'⟩ := a
            go_wp2_with (first
              | (go_at_call 39; refine HI2.mono ?_; rintro e w3 ⟨rfl, hc3, hs3, hk3⟩))
            go_end0
            exact ⟨rfl, hc3, Kp.ofz HKZ.out hk3 (Nat.le_refl _) (Nat.le_succ _)⟩
          | inl q =>
            obtain ⟨q1, q2⟩ := q
            go_wp2_with (first
              | (go_at_call 39; refine HI2.mono ?_; rintro e w3 ⟨rfl, hb3⟩))
            exact ⟨rfl, rfl, Kp.ofz HKZ.out hb3 (Nat.le_refl _) (Nat.le_succ _)⟩
        · have hlt : i < np := by omega
          have hltI : (i : Int) < (np : Int) := by omega
          rcases HK2.out with h0 | ⟨gk, us, rfl, hcp, hXk⟩
          · omega
          · have hX3 := hXk.kp HKZ.out
            have hXi : Xa wr cb gk (i * 17) (chk 17 ps i) (chk 17 us i) := ⟨by have := hX3.cs.chk 17 i; rwa [Nat.zero_add] at this, hX3.hg, hX3.hl, hX3.d.chk 17 i⟩
            have p0 := hXi.b g0
            have p1 := hXi.b g1
            have p15 := hXi.t g15
            have p16 := hXi.i g16
            rw [Nat.add_zero] at p0
            have hgk := hXi.hl
            have hgk2 := hXi.hg
            have hww := hw1 i (by omega)
            have HPK := sPortKind (w := wr.drew) p0 p1 hgk
            have HD := sDcl (w := wr.drew) hd (pkK_ok po pr) (Cb.keep HCB.out (by rfl)) (HS2.out.below belD) at_
            have HNX : Hid _ := hrest
            obtain ⟨sx, hsx⟩ : ∃ sx, sx = S nm := ⟨_, rfl⟩
            rw [← hsx] at p15 HD
            obtain ⟨pk, hpk⟩ : ∃ pk, pk = pkK po pr := ⟨_, rfl⟩
            rw [← hpk] at HPK HD
            clear hXi hX3 hXk g0 g1 g15 g16 hd hrest hsx hpk
            go_wp2
            go_region_held (fun w' => w'.cell? ⟨g, o + 2, none⟩ = some (.slice (some ⟨gk, 0, none⟩) np cp2) ∧ w'.cell? ⟨gk, i * 17 + 15, none⟩ = some (.string sx) ∧ w'.cell? ⟨gk, i * 17 + 16, none⟩ = some (.int .i64 at_)) (go_keep) (first
              | (go_at_call 36; refine HPK.mono ?_; rintro e w4 ⟨rfl, hw⟩; have hw2 := hw.symm; subst hw2)
              | (go_at_call 38; refine HD.mono ?_; rintro e w5 ⟨rfl, hc5, hs5, hkd5⟩; have hK5 : Kp cb w w5 := Kp.ofz HKZ.out ((Kz.of belD).trans hkd5) (Nat.le_refl _) (Nat.le_succ _); have b5 : ∀ j, j < cb → j < wr.heap.size → w5.heap[j]? = wr.heap[j]? := (fun j h1 h2 => (hkd5.block j h2 (by omega) (by omega) (by omega))); have s1 : w5.cell? ⟨g, o + 2, none⟩ = _ := (World.cell?_of_block (w := wr) (a := ⟨g, o + 2, none⟩) (b5 g hgc r4)).trans r2; have s2 : w5.cell? ⟨gk, i * 17 + 15, none⟩ = _ := (World.cell?_of_block (w := wr) (a := ⟨gk, i * 17 + 15, none⟩) (b5 gk hgk2 hgk)).trans p15; have s3 : w5.cell? ⟨gk, i * 17 + 16, none⟩ = _ := (World.cell?_of_block (w := wr) (a := ⟨gk, i * 17 + 16, none⟩) (b5 gk hgk2 hgk)).trans p16))
            all_goals go_wp2
            all_goals
              go_roundw
              case rel => exact ⟨F', i + 1, k3, f3, by omega, by go_num, HNX.out, hc5, hs5, hK5⟩
              case measure => simp [intOf]; omega
end Go.Proofs.Ytpnhefjiobnelaa

/- Layer 7 of the program: a module's outline. -/
namespace Go.Proofs.Ytpnhefjiobnelaa
open Go.RowKit Lg Rp Go.Maps
set_option linter.unusedVariables false
set_option linter.unusedSimpArgs false

/-- an outline under way -/
structure Ol (cb mb k R m1 m2 ob : Nat) (a : Asc) (w w' : World) : Prop where
  c : Cb cb mb k w'
  r : w'.heap[R]? = some (.cells #[.map none, .map none] 64 (0, 0))
  o : w'.heap[ob]? = some (.cells #[.map (some m1), .map (some m2)] 64 (0, 0))
  n : Nm m2 a w'
  kp : Kp cb w w'
  l1 : R < m2
  l2 : m2 < ob
theorem Ol.look {cb mb k k' R m1 m2 ob : Nat} {a : Asc} {w w1 w2 : World} (h : Ol cb mb k R m1 m2 ob a w w1) (hR : cb < R) (hc : Cb cb mb k' w2) (hk : Kp cb w1 w2) : Ol cb mb k' R m1 m2 ob a w w2 := by
  have h1 := h.l1
  have h2 := h.l2
  exact ⟨hc, (hk.block R (heap_lt h.r) (by omega)).trans h.r, (hk.block ob (heap_lt h.o) (by omega)).trans h.o, h.n.keep (hk.block m2 h.n.lt (by omega)), h.kp.trans hk, h1, h2⟩
theorem Ol.add {cb mb k R m1 m2 ob : Nat} {a a' : Asc} {w w1 w2 : World} (h : Ol cb mb k R m1 m2 ob a w w1) (hR : cb < R) (hs : w.heap.size ≤ R) (hn : Nm m2 a' w2) (hk : Kp m2 w1 w2) : Ol cb mb k R m1 m2 ob a' w w2 := by
  have h1 := h.l1
  have h2 := h.l2
  exact ⟨h.c.keep (hk.block cb (heap_lt h.c) (by omega)), (hk.block R (heap_lt h.r) (by omega)).trans h.r, (hk.block ob (heap_lt h.o) (by omega)).trans h.o, hn,
    ⟨hk.os.trans h.kp.os, hk.tape.trans h.kp.tape, hk.output.trans h.kp.output, Nat.le_trans h.kp.size hk.size, fun j hj hb => (hk.block j (Nat.lt_of_lt_of_le hj h.kp.size) (by omega)).trans (h.kp.block j hj hb)⟩, h1, h2⟩
theorem Ol.drew {cb mb k R m1 m2 ob : Nat} {a : Asc} {w w1 : World} (h : Ol cb mb k R m1 m2 ob a w w1) : Ol cb mb k R m1 m2 ob a w w1.drew := ⟨h.c, h.r, h.o, h.n.keep rfl, h.kp.drew, h.l1, h.l2⟩
theorem Ol.at_ {cb mb k R m1 m2 ob : Nat} {a : Asc} {w w1 : World} (h : Ol cb mb k R m1 m2 ob a w w1) : w1.cell? ⟨R, 0, none⟩ = some (.map none) ∧ w1.cell? ⟨R, 1, none⟩ = some (.map none) ∧ (∀ j, w1.frozen? ⟨R, j, none⟩ = false) ∧ R < w1.heap.size ∧ w1.cell? ⟨ob, 0, none⟩ = some (.map (some m1)) ∧ w1.cell? ⟨ob, 1, none⟩ = some (.map (some m2)) ∧ (∀ j, w1.frozen? ⟨ob, j, none⟩ = false) ∧ ob < w1.heap.size :=
  ⟨by rw [Lib.cell_of_heap h.r]; rfl, by rw [Lib.cell_of_heap h.r]; rfl, fun j => Lib.frozen_of_heap h.r j, heap_lt h.r, by rw [Lib.cell_of_heap h.o]; rfl, by rw [Lib.cell_of_heap h.o]; rfl, fun j => Lib.frozen_of_heap h.o j, heap_lt h.o⟩
theorem ol_new {cb mb k m1 m2 ob : Nat} {w : World} (hcb : cb < w.heap.size) (hc : Cb cb mb k w) (hm2 : w.heap.size + 2 = m2) (hob : w.heap.size + 3 = ob) : Ol cb mb k w.heap.size m1 m2 ob [] w ((((w.alloc (.cells #[.map none, .map none] 64)).alloc (.map #[] 0)).alloc (.map #[] 0)).alloc (.cells #[.map (some m1), .map (some m2)] 64)) := by
  obtain ⟨w1, h1⟩ : ∃ w1, w1 = w.alloc (.cells #[.map none, .map none] 64) := ⟨_, rfl⟩
  have e1 : w1.heap.size = w.heap.size + 1 := by rw [h1]; simp
  have b1 : Below w.heap.size w w1 := by rw [h1]; exact bxS
  have l1 : w1.heap[w.heap.size]? = some (.cells #[.map none, .map none] 64 (0, 0)) := by rw [h1]; exact heap_alloc_last _ _
  rw [← h1]
  clear h1
  have e2 : (w1.alloc (.map #[] 0)).heap.size = m2 := by simp [e1]; omega
  have n2 : Nm m2 [] ((w1.alloc (.map #[] 0)).alloc (.map #[] 0)) := by rw [← e2]; exact nm_new (World.ownsMap_made _ _ _ _)
  have e3 : ((w1.alloc (.map #[] 0)).alloc (.map #[] 0)).heap.size = ob := by simp [e1]; omega
  have hb : Below w1.heap.size w1 (((w1.alloc (.map #[] 0)).alloc (.map #[] 0)).alloc (.cells #[.map (some m1), .map (some m2)] 64)) := bel (bel bxS bxS) bxS
  refine ⟨hc.keep ((hb.block cb (by omega)).trans (b1.block cb hcb)), (hb.block _ (by omega)).trans l1, ?_, n2.keep (bxS.block m2 (by omega)), (Kp.of b1).trans (Kp.of hb), by omega, by omega⟩
  rw [← e3]; exact heap_alloc_last _ _
set_option maxRecDepth 100000 in
set_option maxHeartbeats 8000000 in
theorem sOutline {cb mb F k k1 g o np : Nat} {x z ps : List Dc} {f : Asc} {vs : List Value} {w : World} (h1 : gS x 1 = some (0, z)) (h2 : gS x 2 = some (np, ps)) (hnp : np ≤ 100000) (hp : pL F np 0 ps [] k = some (f, k1)) (hc : Cb cb mb k w) (hX : Xa w cb g o x vs) :
    Calls Try.prog 20 #[.pointer (some ⟨cb, 0, none⟩), .pointer (some ⟨g, o, none⟩)] w fun e w' => (∃ m1 m2, e = .returned (.agg #[.map (some m1), .map (some m2)])) ∧ Cb cb mb k1 w' ∧ Kp cb w w' := by
  have hmm := @run_makeMap Try.prog
  have hcb := heap_lt hc
  obtain ⟨ao1, cp1, _, hcell1, _⟩ := hX.s h1
  obtain ⟨ao2, cp2, _, hcell2, hkid2⟩ := hX.s h2
  have hgl := hX.hl
  have hgc := hX.hg
  have HC : Hid _ := hc
  have HK2 : Hid _ := hkid2
  have HP : Hid _ := hp
  have HR3 : Hid (∀ w', Kp cb w w' → w'.cell? ⟨g, o + 1, none⟩ = some (.slice ao1 0 cp1) ∧ w'.cell? ⟨g, o + 2, none⟩ = some (.slice ao2 np cp2) ∧ g < w'.heap.size) := fun w' hw => by
    have e : ∀ j, w'.cell? ⟨g, o + j, none⟩ = w.cell? ⟨g, o + j, none⟩ := fun j => World.cell?_of_block (w := w) (a := ⟨g, o + j, none⟩) (hw.block g hgl (by omega))
    exact ⟨(e 1).trans hcell1, (e 2).trans hcell2, Nat.lt_of_lt_of_le hgl hw.size⟩
  have hw1 : ∀ i : Nat, i ≤ 100000 → IntKind.i64.wrap ((i : Int) + 1) = ((i + 1 : Nat) : Int) := fun i hi => by rw [IntKind.wrap_i64]; omega
  have c1A : ∀ o1 o2 o3 o4 : Obj, ((((w.alloc o1).alloc o2).alloc o3).alloc o4).cell? ⟨g, o + 1, none⟩ = some (.slice ao1 0 cp1) := fun o1 o2 o3 o4 => (World.cell?_of_block (w := w) (a := ⟨g, o + 1, none⟩) ((bel (bel (bel bxS bxS) bxS) bxS).block g hgl)).trans hcell1
  clear h1 h2 hp hc hX hkid2 hcell1 hcell2
  go_enter Try.func20, Try.ntmps20
  go_wp2
  generalize hob : w.heap.size + 1 + 1 + 1 = ob
  generalize hm2 : w.heap.size + 1 + 1 = m2
  generalize hm1 : w.heap.size + 1 = m1
  have HOB : Hid _ := hob
  have HM2 : Hid _ := hm2
  clear hob hm2 hm1
  go_loopw [16] (fun v wr => v = .int .i64 0 ∧ Hid (Ol cb mb k w.heap.size m1 m2 ob [] w wr)) (fun _ _ => 0)
  case atStart => exact ⟨rfl, ol_new hcb HC.out HM2.out HOB.out⟩
  case round =>
    obtain ⟨rfl, HO⟩ := hrel
    obtain ⟨a1, a2, a3⟩ := HR3.out _ HO.out.kp
    go_wp2
    go_loopw [38, 7] (fun v _ w2 => ∃ (F' i kz : Nat) (a : Asc), i ≤ np ∧ v = .int .i64 i ∧ Hid (pL F' np i ps a kz = some (f, k1)) ∧ Hid (Ol cb mb kz w.heap.size m1 m2 ob a w w2)) (fun v _ _ => np - (intOf v).toNat)
    case atStart => exact ⟨F, 0, k, [], Nat.zero_le _, rfl, HP, HO⟩
    case round =>
      obtain ⟨F', i, kz, a, hi, rfl, HQ2, HO2⟩ := hrel
      obtain ⟨r1, r2, r3⟩ := HR3.out _ HO2.out.kp
      have hnI : (np : Int) ≤ 100000 := by omega
      cases F' with
      | zero => have := HQ2.out; rw [pL] at this; cases this
      | succ F' =>
        rcases pL_step HQ2.out with ⟨rfl, rfl, rfl⟩ | ⟨hne, po, pr, nm, at_, f3, k3, g0, g1, g15, g16, hd, hrest⟩
        · obtain ⟨o0, o1, oz, ol, q0, q1, qz, ql⟩ := HO2.out.at_
          go_wp2
          refine bodyPost_ret (v := .agg #[.map (some m1), .map (some m2)]) (by simp [results, Try.results20, go_sem, o0, o1, oz, ol, q0, q1]) rfl ?_
          exact ⟨⟨_, _, rfl⟩, HO2.out.c.keep ((Below.heap_setCell _ _ _ _ (show cb ≠ w.heap.size by omega)).trans (Below.heap_setCell _ _ _ _ (show cb ≠ w.heap.size by omega))), (HO2.out.kp.setR (Nat.le_refl _)).setR (Nat.le_refl _)⟩
        · have hlt : i < np := by omega
          have hltI : (i : Int) < (np : Int) := by omega
          rcases HK2.out with h0 | ⟨gk, us, rfl, hcp, hXk⟩
          · omega
          · have hX3 := hXk.kp HO2.out.kp
            have hXi : Xa wr cb gk (i * 17) (chk 17 ps i) (chk 17 us i) := ⟨by have := hX3.cs.chk 17 i; rwa [Nat.zero_add] at this, hX3.hg, hX3.hl, hX3.d.chk 17 i⟩
            have p0 := hXi.b g0
            have p1 := hXi.b g1
            have p15 := hXi.t g15
            rw [Nat.add_zero] at p0
            have hgk := hXi.hl
            have hgk2 := hXi.hg
            have hww := hw1 i (by omega)
            obtain ⟨hkk, hxl, hal, hno, rfl, rfl⟩ := dcl_eq hd
            have HL := sLookC HO2.out.c hkk
            have HPK : ∀ w', Kp cb wr w' → Calls Try.prog 36 _ w'.drew _ := fun w' hk => sPortKind (w := w'.drew) ((World.cell?_of_block (w := wr) (a := ⟨gk, i * 17, none⟩) (hk.block gk hgk (by omega))).trans p0) ((World.cell?_of_block (w := wr) (a := ⟨gk, i * 17 + 1, none⟩) (hk.block gk hgk (by omega))).trans p1) (Nat.lt_of_lt_of_le hgk hk.size)
            have HA := fun w' (h : Nm m2 a w') => sAddY h (S nm) (by rw [size_S]; unfold maxLen; omega) (pkK po pr) (pkK_ok po pr) (by rw [L_S]; exact hno) hal
            rw [L_S] at HA
            obtain ⟨sx, hsx⟩ : ∃ sx, sx = S nm := ⟨_, rfl⟩
            rw [← hsx] at p15 HA
            obtain ⟨pk, hpk⟩ : ∃ pk, pk = pkK po pr := ⟨_, rfl⟩
            rw [← hpk] at HPK HA hrest
            have HNX : Hid _ := hrest
            clear hXi hX3 hXk g0 g1 g15 g16 hd hrest hsx hno hal hxl hpk
            go_wp2_with (first
              | (go_at_call 34; refine HL.mono ?_; rintro e w3 ⟨rfl, hc3, hk3⟩; have ho3 := HO2.out.look hcb hc3 hk3; have hr3 := HR3.out _ ho3.kp; obtain ⟨a1, a2, a3⟩ := hr3; have p15' := (World.cell?_of_block (w := wr) (a := ⟨gk, i * 17 + 15, none⟩) (hk3.block gk hgk (by omega))).trans p15; have hgk' := Nat.lt_of_lt_of_le hgk hk3.size; have hq := ho3.at_; obtain ⟨o0, o1, oz, ol, q0, q1, qz, ql⟩ := hq))
            have HA2 := HA w3.drew ho3.drew.n
            have HPK2 := HPK w3 hk3
            have hgm : gk ≠ m2 := by have := ho3.l1; omega
            clear r1 r2 r3 o0 o1 oz ol p0 p1 p15 HPK HA hgk HL
            go_wp2
            go_region_held (fun w' => w'.cell? ⟨g, o + 2, none⟩ = some (.slice (some ⟨gk, 0, none⟩) np cp2) ∧ w'.cell? ⟨gk, i * 17 + 15, none⟩ = some (.string sx) ∧ w'.cell? ⟨ob, 1, none⟩ = some (.map (some m2))) (go_keep) (first
              | (go_at_call 36; refine HPK2.mono ?_; rintro e w4 ⟨rfl, hw⟩; have hw2 := hw.symm; subst hw2)
              | (go_at_call 35; refine HA2.mono ?_; rintro e w5 ⟨rfl, hn5, hk5⟩; have ho5 := ho3.drew.add hcb (Nat.le_refl _) hn5 hk5; have s1 : w5.cell? ⟨g, o + 2, none⟩ = some (.slice (some ⟨gk, 0, none⟩) np cp2) := (HR3.out _ ho5.kp).2.1; have s2 : w5.cell? ⟨gk, i * 17 + 15, none⟩ = some (.string sx) := (World.cell?_of_block (w := w3.drew) (a := ⟨gk, i * 17 + 15, none⟩) (hk5.block gk hgk' hgm)).trans p15'; have s3 : w5.cell? ⟨ob, 1, none⟩ = some (.map (some m2)) := ho5.at_.2.2.2.2.2.1))
            all_goals go_wp2
            all_goals
              go_roundw
              case rel => exact ⟨F', i + 1, kz + 1, _, by omega, by go_num, HNX.out, ho5⟩
              case measure => simp [intOf]; omega
end Go.Proofs.Ytpnhefjiobnelaa

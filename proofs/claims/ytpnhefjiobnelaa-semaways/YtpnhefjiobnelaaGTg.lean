/- Texts NsT NsU NsV, joined: what each part says stands ahead of it. -/
import Derived.Test.YtpnhefjiobnelaaGTf
/- Layer 7 of the program: an always in its scope; assignments. -/
namespace Rp
open Go Lg
/-- a target, once -/
def adN (a : Asc) (x : List UInt8) (k : Int) : Asc := if (lk a x).isSome then a else (x, k) :: a
end Rp
namespace Go.Proofs.Ytpnhefjiobnelaa
open Go.RowKit Lg Rp Go.Maps
set_option linter.unusedVariables false
set_option linter.unusedSimpArgs false

/-- an always under way, no clock -/
structure Pr (cb mb k pb tb sb nb db : Nat) (f d : Asc) (fs : List (Asc × Asc)) (p : Option Addr) (tg : Asc) (w : World) : Prop where
  c : Cb cb mb k w
  s : Sc w cb sb nb db f d fs p
  blk : w.heap[pb]? = some (.cells #[.pointer (some ⟨cb, 0, none⟩), .pointer (some ⟨sb, 0, none⟩), .bool false, .map (some tb)] 131 (0, 0))
  t : Nm tb tg w
  l1 : sb < tb
  l2 : tb < pb
theorem Pr.at_ {cb mb k pb tb sb nb db : Nat} {f d : Asc} {fs : List (Asc × Asc)} {p : Option Addr} {tg : Asc} {w : World} (h : Pr cb mb k pb tb sb nb db f d fs p tg w) : w.cell? ⟨pb, 0, none⟩ = some (.pointer (some ⟨cb, 0, none⟩)) ∧ w.cell? ⟨pb, 1, none⟩ = some (.pointer (some ⟨sb, 0, none⟩)) ∧ w.cell? ⟨pb, 2, none⟩ = some (.bool false) ∧ w.cell? ⟨pb, 3, none⟩ = some (.map (some tb)) ∧ pb < w.heap.size :=
  ⟨by rw [Lib.cell_of_heap h.blk]; rfl, by rw [Lib.cell_of_heap h.blk]; rfl, by rw [Lib.cell_of_heap h.blk]; rfl, by rw [Lib.cell_of_heap h.blk]; rfl, heap_lt h.blk⟩
theorem Pr.look {cb mb k k' pb tb sb nb db : Nat} {f d : Asc} {fs : List (Asc × Asc)} {p : Option Addr} {tg : Asc} {w w' : World} (h : Pr cb mb k pb tb sb nb db f d fs p tg w) (hc : Cb cb mb k' w') (hk : Kp cb w w') : Pr cb mb k' pb tb sb nb db f d fs p tg w' := by
  have h1 := h.l1
  have h2 := h.l2
  have h3 := h.s.lo
  have h4 := h.s.l1
  have h5 := h.s.l2
  exact ⟨hc, h.s.kp hk, (hk.block pb (heap_lt h.blk) (by omega)).trans h.blk, h.t.keep (hk.block tb h.t.lt (by omega)), h1, h2⟩
theorem Pr.add {cb mb k pb tb sb nb db : Nat} {f d : Asc} {fs : List (Asc × Asc)} {p : Option Addr} {tg tg' : Asc} {w w' : World} (h : Pr cb mb k pb tb sb nb db f d fs p tg w) (ht : Nm tb tg' w') (hk : Kp tb w w') : Pr cb mb k pb tb sb nb db f d fs p tg' w' := by
  have h1 := h.l1
  have h2 := h.l2
  have h3 := h.s.lo
  have h4 := h.s.l1
  have h5 := h.s.l2
  have h6 := heap_lt h.s.blk
  obtain ⟨B0, hch, hB⟩ := h.s.ex
  have e : ∀ j, j < w.heap.size → j ≠ tb → w'.heap[j]? = w.heap[j]? := fun j => hk.block j
  exact ⟨h.c.keep (e cb (heap_lt h.c) (by omega)), ⟨⟨B0, hch.keep fun j _ hj => e j (by omega) (by omega), hB⟩, h4, h5, (e sb h6 (by omega)).trans h.s.blk, h.s.hn.keep (e nb (by omega) (by omega)), h.s.hd.keep (e db (by omega) (by omega))⟩, (e pb (heap_lt h.blk) (by omega)).trans h.blk, ht, h1, h2⟩
theorem Pr.drew {cb mb k pb tb sb nb db : Nat} {f d : Asc} {fs : List (Asc × Asc)} {p : Option Addr} {tg : Asc} {w : World} (h : Pr cb mb k pb tb sb nb db f d fs p tg w) : Pr cb mb k pb tb sb nb db f d fs p tg w.drew := ⟨h.c, h.s.below belD, h.blk, h.t.keep rfl, h.l1, h.l2⟩
theorem sAddB {mb : Nat} {a : Asc} {w : World} (h : Nm mb a w) (x : ByteArray) (hx : x.size ≤ maxLen) (k : Int) (hk : k ≠ 0 ∧ (-10 ≤ k ∧ k ≤ 10)) (hl : a.length + 1 < 1000000) :
    Calls Try.prog 35 #[.map (some mb), .string x, .int .i64 k] w fun e w' => (∃ b, e = .returned (.bool b)) ∧ Nm mb (adN a (L x) k) w' ∧ Kp mb w w' := by
  unfold adN
  cases hn : lk a (L x) with
  | none => exact (sAddY h x hx k hk hn hl).mono fun e w' ⟨h1, h2, h3⟩ => ⟨⟨_, h1⟩, h2, h3⟩
  | some v => exact (sAddN h x hx k v hn).mono fun e w' ⟨h1, h2⟩ => by subst h2; exact ⟨⟨_, h1⟩, h, Kp.refl _ _⟩
theorem Xa.kz2 {w w' : World} {cb tb g o : Nat} {x : List Dc} {vs : List Value} (h : Xa w cb g o x vs) (hk : Kz cb tb tb w w') (h1 : cb < tb) : Xa w' cb g o x vs := h.kz hk h1 h1
set_option maxRecDepth 100000 in
set_option maxHeartbeats 4000000 in
theorem sAssignment {cb mb k k' pb tb sb nb db F g o : Nat} {f d : Asc} {fs : List (Asc × Asc)} {p : Option Addr} {tg : Asc} {w : World} {x : List Dc} {vs : List Value} {nm : List UInt8} {at_ : Int} (h0 : gI x 0 = some 1) (h1 : gT x 1 = some nm) (h11 : gI x 11 = some at_) (hnl : nm.length ≤ 1000000) (hf : lk f nm = some 3) (htl : tg.length + 1 < 1000000) (hv : vM ((f, d) :: fs) F (.ex ((x.drop 2).take 6)) k = some k') (h : Pr cb mb k pb tb sb nb db f d fs p tg w) (hX : Xa w cb g o x vs) :
    Calls Try.prog 89 #[.pointer (some ⟨pb, 0, none⟩), .pointer (some ⟨g, o, none⟩)] w fun e w' => e = .returned (.tuple #[]) ∧ Pr cb mb k' pb tb sb nb db f d fs p (adN tg nm 3) w' ∧ Kz cb tb tb w w' := by
  have hlo := h.s.lo
  have hl1 := h.s.l1
  have hl2 := h.s.l2
  have hl3 := h.l1
  have hl4 := h.l2
  have c0 := hX.i h0
  have c1 := hX.t h1
  have c11 := hX.i h11
  rw [Nat.add_zero] at c0
  have hgl := hX.hl
  have hgc := hX.hg
  obtain ⟨q0, q1, q2, q3, ql⟩ := h.at_
  have hxm : (S nm).size ≤ maxLen := by rw [size_S]; unfold maxLen; omega
  have HTg := sTarget (w := w.drew.drew) (h.drew.drew.s.ch) (S nm) hxm 3 (by rw [L_S]; exact hf) at_ at_
  have HA := sAddB (w := w.drew.drew.drew) h.drew.drew.drew.t (S nm) hxm 3 (by decide) htl
  rw [L_S] at HA
  have HV := fun w' (hp : Pr cb mb k pb tb sb nb db f d fs p (adN tg nm 3) w') (hx : Xa w' cb g o x vs) => sValue hv hp.c hp.s (hx.sub 2 6)
  obtain ⟨sx, hsx⟩ : ∃ sx, sx = S nm := ⟨_, rfl⟩
  rw [← hsx] at c1 HTg HA
  have HP : Hid _ := h
  have HX : Hid _ := hX
  clear h hX h0 h1 h11 hv hf hsx hxm
  go_enter Try.func89, Try.ntmps89
  go_wp2
  go_region
  all_goals go_wp2
  all_goals go_region_held (fun w' => w'.cell? ⟨pb, 1, none⟩ = some (.pointer (some ⟨sb, 0, none⟩)) ∧ w'.cell? ⟨g, o + 1, none⟩ = some (.string sx) ∧ w'.cell? ⟨g, o + 11, none⟩ = some (.int .i64 at_)) (go_keep) (first
    | (go_at_call 64; refine HTg.mono ?_; rintro e w2 ⟨rfl, hw⟩; have hw2 := hw.symm; subst hw2))
  all_goals go_wp2
  all_goals go_region_held (fun w' => w'.cell? ⟨pb, 3, none⟩ = some (.map (some tb)) ∧ w'.cell? ⟨g, o + 1, none⟩ = some (.string sx)) (go_keep) (first
    | (go_at_call 35; refine HA.mono ?_; rintro e w3 ⟨⟨b3, rfl⟩, hn3, hk3⟩; have hp3 := HP.out.drew.drew.drew.add hn3 hk3; have hkz3 : Kz cb tb tb w w3 := (Kz.of (bel (bel belD belD) belD)).trans (Kz.of2 hk3); have hx3 := HX.out.kz2 hkz3 (by omega); have hq3 := hp3.at_; obtain ⟨r0, r1, r2, r3, rl⟩ := hq3; have s1 : w3.cell? ⟨g, o + 1, none⟩ = some (.string sx) := (World.cell?_of_block (w := w) (a := ⟨g, o + 1, none⟩) (hkz3.block g hgl (by omega) (by omega) (by omega))).trans c1; have sl := hx3.hl))
  all_goals go_wp2
  all_goals go_region_held (fun w' => w'.cell? ⟨pb, 0, none⟩ = some (.pointer (some ⟨cb, 0, none⟩)) ∧ w'.cell? ⟨pb, 1, none⟩ = some (.pointer (some ⟨sb, 0, none⟩))) (go_keep) (first
    | (go_at_call 66; refine (HV _ hp3.drew (hx3.kp (Kp.of belD))).mono ?_; rintro e w4 ⟨rfl, hc4, hk4⟩; have hp4 := hp3.drew.look hc4 hk4; have hq4 := hp4.at_; obtain ⟨t0, t1, t2, t3, tl⟩ := hq4))
  all_goals go_wp2
  all_goals
    go_end0
    exact ⟨rfl, hp4, (hkz3.trans (Kz.of belD)).trans (Kz.of1 hk4)⟩
end Go.Proofs.Ytpnhefjiobnelaa

/- Layer 7 of the program: statements of an always. -/
namespace Rp
open Go Lg
inductive Ps where
  | one (x : List Dc)
  | many (n i : Nat) (l : List Dc)
/-- statements: their targets -/
def psM (fs : List (Asc × Asc)) (f : Asc) : Nat → Ps → Asc → Nat → Option (Asc × Nat)
  | 0, _, _, _ => none
  | F + 1, .one x, tg, k => if 32768 ≤ k then none else match gI x 0 with
    | some kd => if kd = 1 then (match gT x 1, gI x 11, vM fs F (.ex ((x.drop 2).take 6)) (k + 1) with
        | some nm, some _, some k' => if nm.length ≤ 1000000 ∧ lk f nm = some 3 ∧ tg.length + 1 < 1000000 then some (adN tg nm 3, k') else none
        | _, _, _ => none)
      else if kd = 3 then (match vM fs F (.ex ((x.drop 2).take 6)) (k + 1), gS x 8, gS x 9 with
        | some k1, some (nb, bd), some (ne, el) => if nb ≤ 100000 ∧ ne ≤ 100000 then (match psM fs f F (.many nb 0 bd) tg k1 with
            | some (tg1, k2) => psM fs f F (.many ne 0 el) tg1 k2
            | none => none) else none
        | _, _, _ => none)
      else none
    | none => none
  | F + 1, .many n i l, tg, k => if i = n then some (tg, k) else match psM fs f F (.one (chk 12 l i)) tg k with
    | some (tg1, k1) => psM fs f F (.many n (i + 1) l) tg1 k1
    | none => none
end Rp
namespace Go.Proofs.Ytpnhefjiobnelaa
open Go.RowKit Lg Rp Go.Maps
set_option linter.unusedVariables false
set_option linter.unusedSimpArgs false

theorem psM_one {fs : List (Asc × Asc)} {f tg tg' : Asc} {F k k' : Nat} {x : List Dc} (h : psM fs f (F + 1) (.one x) tg k = some (tg', k')) : k < 32768 ∧
    ((∃ nm at_, gI x 0 = some 1 ∧ gT x 1 = some nm ∧ gI x 11 = some at_ ∧ vM fs F (.ex ((x.drop 2).take 6)) (k + 1) = some k' ∧ nm.length ≤ 1000000 ∧ lk f nm = some 3 ∧ tg.length + 1 < 1000000 ∧ tg' = adN tg nm 3) ∨
     (∃ k1 nb bd ne el tg1 k2, gI x 0 = some 3 ∧ vM fs F (.ex ((x.drop 2).take 6)) (k + 1) = some k1 ∧ gS x 8 = some (nb, bd) ∧ gS x 9 = some (ne, el) ∧ nb ≤ 100000 ∧ ne ≤ 100000 ∧ psM fs f F (.many nb 0 bd) tg k1 = some (tg1, k2) ∧ psM fs f F (.many ne 0 el) tg1 k2 = some (tg', k'))) := by
  rw [psM] at h
  split at h
  · cases h
  · rename_i hk
    refine ⟨by omega, ?_⟩
    cases h0 : gI x 0 with
    | none => rw [h0] at h; cases h
    | some kd =>
      rw [h0] at h
      simp only at h
      split at h
      · rename_i e1
        subst e1
        left
        cases h1 : gT x 1 with
        | none => rw [h1] at h; cases h
        | some nm =>
          cases h2 : gI x 11 with
          | none => rw [h1, h2] at h; cases h
          | some at_ =>
            cases h3 : vM fs F (.ex ((x.drop 2).take 6)) (k + 1) with
            | none => rw [h1, h2, h3] at h; cases h
            | some k1 =>
              rw [h1, h2, h3] at h
              simp only at h
              split at h
              · rename_i hc
                injection h with h; injection h with a1 a2
                subst a2
                exact ⟨nm, at_, rfl, rfl, rfl, rfl, hc.1, hc.2.1, hc.2.2, a1.symm⟩
              · cases h
      · split at h
        · rename_i e1
          subst e1
          right
          cases h1 : vM fs F (.ex ((x.drop 2).take 6)) (k + 1) with
          | none => rw [h1] at h; cases h
          | some k1 =>
            cases h2 : gS x 8 with
            | none => rw [h1, h2] at h; cases h
            | some a =>
              obtain ⟨nb, bd⟩ := a
              cases h3 : gS x 9 with
              | none => rw [h1, h2, h3] at h; cases h
              | some a =>
                obtain ⟨ne, el⟩ := a
                rw [h1, h2, h3] at h
                simp only at h
                split at h
                · rename_i hc
                  cases h4 : psM fs f F (.many nb 0 bd) tg k1 with
                  | none => rw [h4] at h; cases h
                  | some a =>
                    obtain ⟨tg1, k2⟩ := a
                    rw [h4] at h
                    exact ⟨k1, nb, bd, ne, el, tg1, k2, rfl, rfl, rfl, rfl, hc.1, hc.2, h4, h⟩
                · cases h
        · cases h
theorem psM_many {fs : List (Asc × Asc)} {f tg tg' : Asc} {F n i k k' : Nat} {l : List Dc} (h : psM fs f (F + 1) (.many n i l) tg k = some (tg', k')) : (i = n ∧ tg' = tg ∧ k' = k) ∨ (i ≠ n ∧ ∃ tg1 k1, psM fs f F (.one (chk 12 l i)) tg k = some (tg1, k1) ∧ psM fs f F (.many n (i + 1) l) tg1 k1 = some (tg', k')) := by
  rw [psM] at h
  split at h
  · rename_i hi; injection h with h; injection h with e1 e2; exact Or.inl ⟨hi, e1.symm, e2.symm⟩
  · rename_i hi
    cases h1 : psM fs f F (.one (chk 12 l i)) tg k with
    | none => rw [h1] at h; cases h
    | some a => obtain ⟨tg1, k1⟩ := a; rw [h1] at h; exact Or.inr ⟨hi, tg1, k1, rfl, h⟩
/-- one statement's contract -/
def PsC (cb mb pb tb sb nb db : Nat) (f d : Asc) (fs : List (Asc × Asc)) (p : Option Addr) (F : Nat) : Prop := ∀ x g o vs tg tg' k k' w, psM ((f, d) :: fs) f F (.one x) tg k = some (tg', k') → Pr cb mb k pb tb sb nb db f d fs p tg w → Xa w cb g o x vs →
  Calls Try.prog 87 #[.pointer (some ⟨pb, 0, none⟩), .pointer (some ⟨g, o, none⟩)] w fun e w' => e = .returned (.tuple #[]) ∧ Pr cb mb k' pb tb sb nb db f d fs p tg' w' ∧ Kz cb tb tb w w'
set_option maxRecDepth 100000 in
set_option maxHeartbeats 4000000 in
theorem sStmts {cb mb pb tb sb nb db : Nat} {f d : Asc} {fs : List (Asc × Asc)} {p : Option Addr} {F : Nat} (IH0 : ∀ F', F' < F → PsC cb mb pb tb sb nb db f d fs p F') {n k k' cp : Nat} {l : List Dc} {tg tg' : Asc} {ao : Option Addr} {w : World} (hq : psM ((f, d) :: fs) f F (.many n 0 l) tg k = some (tg', k')) (hn : n ≤ 100000) (h : Pr cb mb k pb tb sb nb db f d fs p tg w) (hkid : n = 0 ∨ ∃ gk us, ao = some ⟨gk, 0, none⟩ ∧ n ≤ cp ∧ Xa w cb gk 0 l us) :
    Calls Try.prog 81 #[.pointer (some ⟨pb, 0, none⟩), .slice ao n cp] w fun e w' => e = .returned (.tuple #[]) ∧ Pr cb mb k' pb tb sb nb db f d fs p tg' w' ∧ Kz cb tb tb w w' := by
  have hlt0 : cb < tb := by have := h.s.lo; have := h.s.l1; have := h.s.l2; have := h.l1; omega
  have IH : Hid _ := IH0
  have HQ : Hid _ := hq
  have HP : Hid _ := h
  have HK : Hid _ := hkid
  have hw1 : ∀ i : Nat, i ≤ 100000 → IntKind.i64.wrap ((i : Int) + 1) = ((i + 1 : Nat) : Int) := fun i hi => by rw [IntKind.wrap_i64]; omega
  have hnI : (n : Int) ≤ 100000 := by omega
  clear IH0 hq h hkid
  go_enter Try.func81, Try.ntmps81
  go_wp2
  go_loopw [7] (fun v w2 => ∃ (F' i kz : Nat) (a : Asc), F' ≤ F ∧ i ≤ n ∧ v = .int .i64 i ∧ Hid (psM ((f, d) :: fs) f F' (.many n i l) a kz = some (tg', k')) ∧ Hid (Pr cb mb kz pb tb sb nb db f d fs p a w2) ∧ Hid (Kz cb tb tb w w2)) (fun v _ => n - (intOf v).toNat)
  case atStart => exact ⟨F, 0, k, tg, Nat.le_refl _, Nat.zero_le _, rfl, HQ, HP, Kz.refl _ _ _ _⟩
  case round =>
    obtain ⟨F', i, kz, a, hF, hi, rfl, HQ2, HP2, HKZ⟩ := hrel
    cases F' with
    | zero => have := HQ2.out; rw [psM] at this; cases this
    | succ F' =>
      rcases psM_many HQ2.out with ⟨rfl, rfl, rfl⟩ | ⟨hne, tg1, k1, h1, hrest⟩
      · go_wp2
        go_end0
        exact ⟨rfl, HP2.out, HKZ.out⟩
      · have hlt : i < n := by omega
        have hltI : (i : Int) < (n : Int) := by omega
        rcases HK.out with h0 | ⟨gk, us, rfl, hcp, hXk⟩
        · omega
        · have hX3 := hXk.kz2 HKZ.out hlt0
          have hXi : Xa wr cb gk (i * 12) (chk 12 l i) (chk 12 us i) := ⟨by have := hX3.cs.chk 12 i; rwa [Nat.zero_add] at this, hX3.hg, hX3.hl, hX3.d.chk 12 i⟩
          have HS := IH.out F' (by omega) _ _ _ _ _ _ _ _ _ h1 HP2.out hXi
          have hww := hw1 i (by omega)
          have HNX : Hid _ := hrest
          clear hX3 hXi hXk h1 hrest
          go_wp2_with (first
            | (go_at_call 87; refine HS.mono ?_; rintro e w5 ⟨rfl, hp5, hk5⟩))
          go_roundw
          case rel => exact ⟨F', i + 1, k1, tg1, by omega, by omega, by go_num, HNX.out, hp5, HKZ.out.trans hk5⟩
          case measure => simp [intOf]; omega
end Go.Proofs.Ytpnhefjiobnelaa

/- Layer 7 of the program: one statement of an always. -/
namespace Go.Proofs.Ytpnhefjiobnelaa
open Go.RowKit Lg Rp Go.Maps
set_option linter.unusedVariables false
set_option linter.unusedSimpArgs false

set_option maxRecDepth 100000 in
set_option maxHeartbeats 4000000 in
theorem sStmt {cb mb pb tb sb nb db : Nat} {f d : Asc} {fs : List (Asc × Asc)} {p : Option Addr} {F : Nat} (IH0 : ∀ F', F' < F → PsC cb mb pb tb sb nb db f d fs p F') : PsC cb mb pb tb sb nb db f d fs p (F + 1) := by
  intro x g o vs tg tg' k k' w hq h hX
  have hlt0 : cb < tb := by have := h.s.lo; have := h.s.l1; have := h.s.l2; have := h.l1; omega
  have hgl := hX.hl
  have hgc := hX.hg
  obtain ⟨q0, q1, q2, q3, ql⟩ := h.at_
  rcases psM_one hq with ⟨hk, ⟨nm, at_, h0, h1, h11, hv, hnl, hf, htl, rfl⟩ | ⟨k1, n1, bd, n2, el, tg1, k2, h0, hv, h8, h9, hb1, hb2, hm1, hm2⟩⟩
  · have HL := sLookC h.c hk
    have HA := fun w' (hp : Pr cb mb (k + 1) pb tb sb nb db f d fs p tg w') (hx : Xa w' cb g o x vs) => sAssignment h0 h1 h11 hnl hf htl hv hp hx
    have HP : Hid _ := h
    have HX : Hid _ := hX
    have H0 : Hid _ := h0
    clear IH0 hq h hX h0 h1 h11 hv hf
    go_enter Try.func87, Try.ntmps87
    go_wp2_with (first
      | (go_at_call 34; refine HL.mono ?_; rintro e w1 ⟨rfl, hc1, hk1⟩; have hp1 := HP.out.look hc1 hk1; have hx1 := HX.out.kp hk1; have c0 := hx1.i H0.out; rw [Nat.add_zero] at c0; have gl1 := hx1.hl)
      | (go_at_call 89; refine (HA _ hp1 hx1).mono ?_; rintro e w2 ⟨rfl, hp2, hk2⟩))
    go_end0
    exact ⟨rfl, hp2, (Kz.of1 hk1).trans hk2⟩
  · have HL := sLookC h.c hk
    have HV := fun w' (hp : Pr cb mb (k + 1) pb tb sb nb db f d fs p tg w') (hx : Xa w' cb g o x vs) => sValue hv hp.c hp.s (hx.sub 2 6)
    obtain ⟨a8, c8, _, hc8, hkid8⟩ := hX.s h8
    obtain ⟨a9, c9, _, hc9, hkid9⟩ := hX.s h9
    have HB1 : Hid (∀ w', Pr cb mb k1 pb tb sb nb db f d fs p tg w' → Kz cb tb tb w w' → Calls Try.prog 81 #[.pointer (some ⟨pb, 0, none⟩), .slice a8 n1 c8] w' fun e w'' => e = .returned (.tuple #[]) ∧ Pr cb mb k2 pb tb sb nb db f d fs p tg1 w'' ∧ Kz cb tb tb w' w'') := fun w' hp hk => sStmts IH0 hm1 hb1 hp (by
      rcases hkid8 with e | ⟨gk, us, e1, e2, e3⟩
      · exact Or.inl e
      · exact Or.inr ⟨gk, us, e1, e2, e3.kz2 hk hlt0⟩)
    have HB2 : Hid (∀ w', Pr cb mb k2 pb tb sb nb db f d fs p tg1 w' → Kz cb tb tb w w' → Calls Try.prog 81 #[.pointer (some ⟨pb, 0, none⟩), .slice a9 n2 c9] w' fun e w'' => e = .returned (.tuple #[]) ∧ Pr cb mb k' pb tb sb nb db f d fs p tg' w'' ∧ Kz cb tb tb w' w'') := fun w' hp hk => sStmts IH0 hm2 hb2 hp (by
      rcases hkid9 with e | ⟨gk, us, e1, e2, e3⟩
      · exact Or.inl e
      · exact Or.inr ⟨gk, us, e1, e2, e3.kz2 hk hlt0⟩)
    have HC : Hid (∀ w', Kz cb tb tb w w' → w'.cell? ⟨g, o + 8, none⟩ = some (.slice a8 n1 c8) ∧ w'.cell? ⟨g, o + 9, none⟩ = some (.slice a9 n2 c9) ∧ g < w'.heap.size) := fun w' hk => by
      have e : ∀ j, w'.cell? ⟨g, o + j, none⟩ = w.cell? ⟨g, o + j, none⟩ := fun j => World.cell?_of_block (w := w) (a := ⟨g, o + j, none⟩) (hk.block g hgl (by omega) (by omega) (by omega))
      exact ⟨(e 8).trans hc8, (e 9).trans hc9, Nat.lt_of_lt_of_le hgl hk.size⟩
    have HP : Hid _ := h
    have HX : Hid _ := hX
    have H0 : Hid _ := h0
    clear IH0 hq h hX h0 hv h8 h9 hm1 hm2 hkid8 hkid9 hc8 hc9
    go_enter Try.func87, Try.ntmps87
    go_wp2_with (first
      | (go_at_call 34; refine HL.mono ?_; rintro e w1 ⟨rfl, hc1, hk1⟩; have hp1 := HP.out.look hc1 hk1; have hx1 := HX.out.kp hk1; have c0 := hx1.i H0.out; rw [Nat.add_zero] at c0; have gl1 := hx1.hl; have hq1 := hp1.at_; obtain ⟨r0, r1, r2, r3, rl⟩ := hq1))
    go_region_held (fun w' => w'.cell? ⟨pb, 0, none⟩ = some (.pointer (some ⟨cb, 0, none⟩)) ∧ w'.cell? ⟨pb, 1, none⟩ = some (.pointer (some ⟨sb, 0, none⟩))) (go_keep) (first
      | (go_at_call 66; refine (HV _ hp1.drew (hx1.kp (Kp.of belD))).mono ?_; rintro e w4 ⟨rfl, hc4, hk4⟩; have hp4 := hp1.drew.look hc4 hk4; have hq4 := hp4.at_; obtain ⟨t0, t1, t2, t3, tl⟩ := hq4; have hz4 : Kz cb tb tb w w4 := ((Kz.of1 hk1).trans (Kz.of belD)).trans (Kz.of1 hk4); have hg4 := HC.out _ hz4; obtain ⟨y8, y9, yl⟩ := hg4))
    all_goals go_wp2_with (first
      | (have hz5' := hz5; go_at_call 81; refine (HB2.out _ hp5 hz5).mono ?_; rintro e w6 ⟨rfl, hp6, hk6⟩)
      | (go_at_call 81; refine (HB1.out _ hp4 hz4).mono ?_; rintro e w5 ⟨rfl, hp5, hk5⟩; have hz5 := hz4.trans hk5; have hg5 := HC.out _ hz5; obtain ⟨z8, z9, zl⟩ := hg5))
    all_goals
      go_end0
      exact ⟨rfl, hp6, hz5.trans hk6⟩
theorem sStmtC {cb mb pb tb sb nb db : Nat} {f d : Asc} {fs : List (Asc × Asc)} {p : Option Addr} : ∀ F, PsC cb mb pb tb sb nb db f d fs p F := by
  have H : ∀ F F', F' ≤ F → PsC cb mb pb tb sb nb db f d fs p F' := by
    intro F
    induction F with
    | zero =>
      intro F' hF x g o vs tg tg' k k' w h
      have : F' = 0 := by omega
      subst this
      rw [psM] at h; cases h
    | succ F ih =>
      intro F' hF
      cases F' with
      | zero => intro x g o vs tg tg' k k' w h; rw [psM] at h; cases h
      | succ F' => exact sStmt fun F2 h2 => ih F2 (by omega)
  exact fun F => H F F (Nat.le_refl _)
end Go.Proofs.Ytpnhefjiobnelaa

/- Texts NsW NsX, joined: what each part says stands ahead of it. -/
import Derived.Test.YtpnhefjiobnelaaGTg
/- Layer 7 of the program: what an always reads. -/
namespace Rp
open Go Lg
/-- how often parts are looked at, none of the names being a target -/
def rM (tg : Asc) : Nat → Mv → Nat → Option Nat
  | 0, _, _ => none
  | f + 1, .ex x, k => match isX x with
    | some (op, nm, n, l, _) => if op = 4 ∨ 32768 ≤ k ∨ n * 6 ≠ l.length ∨ 100000 < n ∨ 1000000 < nm.length ∨ ((op = 2 ∨ op = 3) ∧ (lk tg nm).isSome = true) then none else rM tg f (.ks n 0 l) (k + 1)
    | none => none
  | f + 1, .ks n i l, k => if i = n then some k else match rM tg f (.ex (chk 6 l i)) k with
    | some k1 => rM tg f (.ks n (i + 1) l) k1
    | none => none
end Rp
namespace Go.Proofs.Ytpnhefjiobnelaa
open Go.RowKit Lg Rp Go.Maps
set_option linter.unusedVariables false
set_option linter.unusedSimpArgs false

/-- a path's block, and its targets -/
structure Ph (cb ab tb ub : Nat) (tg : Asc) (w : World) : Prop where
  blk : w.heap[ab]? = some (.cells #[.pointer (some ⟨cb, 0, none⟩), .map (some tb), .map (some ub)] 146 (0, 0))
  t : Nm tb tg w
  l1 : cb < tb
  l2 : cb < ab
theorem Ph.kp {cb ab tb ub : Nat} {tg : Asc} {w w' : World} (h : Ph cb ab tb ub tg w) (hk : Kp cb w w') : Ph cb ab tb ub tg w' := by
  have h1 := h.l1
  have h2 := h.l2
  exact ⟨(hk.block ab (heap_lt h.blk) (by omega)).trans h.blk, h.t.keep (hk.block tb h.t.lt (by omega)), h1, h2⟩
set_option maxRecDepth 100000 in
set_option maxHeartbeats 1000000 in
/-- the closure of read: the name is no target -/
theorem sRd1 {cb ab tb ub g o bx : Nat} {tg : Asc} {w : World} (hb : w.cell? ⟨bx, 0, none⟩ = some (.pointer (some ⟨ab, 0, none⟩))) (hC : Ph cb ab tb ub tg w) (nm : List UInt8) (hnm : w.cell? ⟨g, o + 1, none⟩ = some (.string (S nm))) (hx : nm.length ≤ 1000000) (hv : lk tg nm = none) :
    Calls Try.prog 97 #[.pointer (some ⟨g, o, none⟩), .pointer (some ⟨bx, 0, none⟩)] w fun e w' => e = .returned (.tuple #[]) ∧ Below w.heap.size w w' := by
  have hrun := sLook (w := w.drew) (hC.t.keep rfl) (S nm) (by rw [size_S]; unfold maxLen; omega)
  rw [L_S, hv] at hrun
  replace hrun : (Instr.lookup 62 (.map (some tb)) (.string (S nm)) false).run Try.prog w.drew = .ok (.int .i64 0) w.drew := hrun
  have c1 : w.cell? ⟨ab, 1, none⟩ = some (.map (some tb)) := by rw [Lib.cell_of_heap hC.blk]; rfl
  have cl := heap_lt hC.blk
  obtain ⟨sn, hsn⟩ : ∃ sn, sn = S nm := ⟨_, rfl⟩
  rw [← hsn] at hrun hnm
  clear hC hv hx hsn
  go_enter Try.func97, Try.ntmps97
  go_wp2
  go_region
  all_goals go_wp2
  all_goals
    go_end0
    exact ⟨rfl, belD⟩
theorem rM_ex {tg : Asc} {f k k' : Nat} {x : List Dc} (h : rM tg (f + 1) (.ex x) k = some k') : ∃ op nm n l p, isX x = some (op, nm, n, l, p) ∧ op ≠ 4 ∧ k < 32768 ∧ n * 6 = l.length ∧ n ≤ 100000 ∧ nm.length ≤ 1000000 ∧ ((op = 2 ∨ op = 3) → lk tg nm = none) ∧ rM tg f (.ks n 0 l) (k + 1) = some k' := by
  rw [rM] at h
  cases hx : isX x with
  | none => rw [hx] at h; cases h
  | some r =>
    obtain ⟨op, nm, n, l, p⟩ := r
    rw [hx] at h
    simp only at h
    split at h
    · cases h
    · rename_i hc
      simp only [not_or] at hc
      obtain ⟨h1, h2, h3, h4, h5, h6⟩ := hc
      refine ⟨op, nm, n, l, p, rfl, h1, by omega, by omega, by omega, by omega, fun ho => ?_, h⟩
      cases hv : lk tg nm with
      | none => rfl
      | some v => exact absurd ⟨ho, by rw [hv]; rfl⟩ h6
theorem rM_ks {tg : Asc} {f n i k k' : Nat} {l : List Dc} (h : rM tg (f + 1) (.ks n i l) k = some k') : (i = n ∧ k' = k) ∨ (i ≠ n ∧ ∃ k1, rM tg f (.ex (chk 6 l i)) k = some k1 ∧ rM tg f (.ks n (i + 1) l) k1 = some k') := by
  rw [rM] at h
  split at h
  · rename_i hi; injection h with h; exact Or.inl ⟨hi, h.symm⟩
  · rename_i hi
    cases h1 : rM tg f (.ex (chk 6 l i)) k with
    | none => rw [h1] at h; cases h
    | some k1 => rw [h1] at h; exact Or.inr ⟨hi, k1, rfl, h⟩
def RdC (cb mb ab tb ub bx : Nat) (tg : Asc) (f : Nat) : Prop := ∀ x k k', rM tg f (.ex x) k = some k' → ∀ w g o vs, Cb cb mb k w → Xa w cb g o x vs → w.heap[bx]? = some (.cells #[.pointer (some ⟨ab, 0, none⟩)] 152 (0, 0)) → bx ≠ cb → Ph cb ab tb ub tg w →
  Calls Try.prog 77 #[.pointer (some ⟨cb, 0, none⟩), .pointer (some ⟨g, o, none⟩), .func (.func 97) #[] #[.pointer (some ⟨bx, 0, none⟩)]] w fun e w' => e = .returned (.tuple #[]) ∧ Cb cb mb k' w' ∧ Kp cb w w'
set_option maxRecDepth 100000 in
set_option maxHeartbeats 4000000 in
theorem sNamedR {cb mb ab tb ub bx : Nat} {tg : Asc} {F : Nat} (IH0 : ∀ f, f ≤ F → RdC cb mb ab tb ub bx tg f) : RdC cb mb ab tb ub bx tg (F + 1) := by
  intro x k k' hq w g o vs hc hX hbx hbn hC
  obtain ⟨op, nm, n, l, p, hx, ho4, hk, hnl, hn, hnm, hv, hks⟩ := rM_ex hq
  obtain ⟨vl, pl, rfl⟩ := isX_eq hx
  have IH : Hid _ := IH0
  have HL := sLookC hc hk
  have HX : Hid _ := hX
  have HC : Hid _ := hC
  have HB : Hid _ := hbx
  have HQ : Hid _ := hks
  have hlo := hX.hg
  have HE := fun w' (hw : Kp cb w w') (ho : op = 2 ∨ op = 3) => sRd1 (cb := cb) (ab := ab) (tb := tb) (ub := ub) (g := g) (o := o) (bx := bx) (tg := tg) (w := w') (by rw [Lib.cell_of_heap (hw.at_ hbx hbn)]; rfl) (hC.kp hw) nm ((hX.kp hw).at_.2.1) hnm (hv ho)
  have o4 : (op == 4) = false := by simpa using ho4
  obtain ⟨ao, cp, rfl, hkid⟩ := hX.op
  have HKID : Hid _ := hkid
  have hG : ∀ w', Kp cb w w' → w'.cell? ⟨g, o, none⟩ = some (.int .i64 op) ∧ w'.cell? ⟨g, o + 4, none⟩ = some (.slice ao n cp) ∧ g < w'.heap.size := fun w' hw => ⟨(hX.kp hw).cs 0 _ rfl, (hX.kp hw).cs 4 _ rfl, (hX.kp hw).hl⟩
  have HG : Hid _ := hG
  have HBN : Hid _ := hbn
  have hw1 : ∀ i : Nat, i ≤ 100000 → IntKind.i64.wrap ((i : Int) + 1) = ((i + 1 : Nat) : Int) := fun i hi => by rw [IntKind.wrap_i64]; omega
  clear hq hc hX hbx hC hks hv hx ho4 IH0 hkid hG
  by_cases ho : op = 2 ∨ op = 3
  · have HE2 := fun w' hw => HE w' hw ho
    have o23 : (op == 2) = true ∨ ((op == 2) = false ∧ (op == 3) = true) := by
      rcases ho with rfl | rfl
      · exact Or.inl rfl
      · exact Or.inr ⟨rfl, rfl⟩
    clear HE ho
    rcases o23 with o2 | ⟨o2, o3⟩
    all_goals
      go_enter Try.func77, Try.ntmps77
      go_wp2_with (first
        | (go_at_call 97; refine (HE2 _ hk1).mono ?_; rintro e w2 ⟨rfl, hb2⟩; have hK2 : Kp cb w w2 := hk1.trans (Kp.of hb2); have hc2 := hc1.keep (hb2.block cb (heap_lt hc1)); have hg2 := HG.out _ hK2; obtain ⟨q0, q4, ql⟩ := hg2)
        | (go_at_call 34; refine HL.mono ?_; rintro e w1 ⟨rfl, hc1, hk1⟩; have hg1 := HG.out _ hk1; obtain ⟨x0, x4, xl⟩ := hg1))
      go_loopw [29] (fun v wr => ∃ (f' i kz : Nat), f' ≤ F ∧ i ≤ n ∧ v = .int .i64 i ∧ Hid (rM tg f' (.ks n i l) kz = some k') ∧ Hid (Cb cb mb kz wr) ∧ Hid (Kp cb w wr)) (fun v _ => n - (intOf v).toNat)
      case atStart => exact ⟨F, 0, k + 1, Nat.le_refl _, Nat.zero_le _, rfl, HQ, hc2, hK2⟩
      case round =>
        obtain ⟨f', i, kz, hf', hi, rfl, HQ2, HCB, HKP⟩ := hrel
        have hnI : (n : Int) ≤ 100000 := by omega
        cases f' with
        | zero => have := HQ2.out; rw [rM] at this; cases this
        | succ f' =>
          rcases rM_ks HQ2.out with ⟨rfl, rfl⟩ | ⟨hne, k1', h1, h2⟩
          · go_wp2
            go_end0
            exact ⟨rfl, HCB.out, HKP.out⟩
          · have hlt : i < n := by omega
            have hltI : (i : Int) < (n : Int) := by omega
            obtain ⟨r0, r4, rl⟩ := HG.out _ HKP.out
            rcases HKID.out with h0 | ⟨gk, us, rfl, hcp, hXk⟩
            · omega
            · have hX3 := hXk.kp HKP.out
              have HR := IH.out f' (by omega) _ _ _ h1 wr gk (i * 6) (chk 6 us i) HCB.out ⟨by have := hX3.cs.chk 6 i; rwa [Nat.zero_add] at this, hX3.hg, hX3.hl, hX3.d.chk 6 i⟩ (HKP.out.at_ HB.out HBN.out) HBN.out (HC.out.kp HKP.out)
              have HN : Hid _ := h2
              have hww := hw1 i (by omega)
              clear h1 h2
              go_wp2_with (first
                | (go_at_call 77; refine HR.mono ?_; rintro e w5 ⟨rfl, hc5, hk5⟩))
              go_roundw
              case rel => exact ⟨f', i + 1, k1', by omega, by omega, by go_num, HN.out, hc5, HKP.out.trans hk5⟩
              case measure => simp [intOf]; omega
  · have o2 : (op == 2) = false := by simp; exact fun e => ho (Or.inl e)
    have o3 : (op == 3) = false := by simp; exact fun e => ho (Or.inr e)
    clear HE ho
    go_enter Try.func77, Try.ntmps77
    go_wp2_with (first
      | (go_at_call 34; refine HL.mono ?_; rintro e w1 ⟨rfl, hc1, hk1⟩; have hg1 := HG.out _ hk1; obtain ⟨x0, x4, xl⟩ := hg1))
    go_loopw [29] (fun v wr => ∃ (f' i kz : Nat), f' ≤ F ∧ i ≤ n ∧ v = .int .i64 i ∧ Hid (rM tg f' (.ks n i l) kz = some k') ∧ Hid (Cb cb mb kz wr) ∧ Hid (Kp cb w wr)) (fun v _ => n - (intOf v).toNat)
    case atStart => exact ⟨F, 0, k + 1, Nat.le_refl _, Nat.zero_le _, rfl, HQ, hc1, hk1⟩
    case round =>
      obtain ⟨f', i, kz, hf', hi, rfl, HQ2, HCB, HKP⟩ := hrel
      have hnI : (n : Int) ≤ 100000 := by omega
      cases f' with
      | zero => have := HQ2.out; rw [rM] at this; cases this
      | succ f' =>
        rcases rM_ks HQ2.out with ⟨rfl, rfl⟩ | ⟨hne, k1', h1, h2⟩
        · go_wp2
          go_end0
          exact ⟨rfl, HCB.out, HKP.out⟩
        · have hlt : i < n := by omega
          have hltI : (i : Int) < (n : Int) := by omega
          obtain ⟨r0, r4, rl⟩ := HG.out _ HKP.out
          rcases HKID.out with h0 | ⟨gk, us, rfl, hcp, hXk⟩
          · omega
          · have hX3 := hXk.kp HKP.out
            have HR := IH.out f' (by omega) _ _ _ h1 wr gk (i * 6) (chk 6 us i) HCB.out ⟨by have := hX3.cs.chk 6 i; rwa [Nat.zero_add] at this, hX3.hg, hX3.hl, hX3.d.chk 6 i⟩ (HKP.out.at_ HB.out HBN.out) HBN.out (HC.out.kp HKP.out)
            have HN : Hid _ := h2
            have hww := hw1 i (by omega)
            clear h1 h2
            go_wp2_with (first
              | (go_at_call 77; refine HR.mono ?_; rintro e w5 ⟨rfl, hc5, hk5⟩))
            go_roundw
            case rel => exact ⟨f', i + 1, k1', by omega, by omega, by go_num, HN.out, hc5, HKP.out.trans hk5⟩
            case measure => simp [intOf]; omega
end Go.Proofs.Ytpnhefjiobnelaa

/- Layer 7 of the program: a path's reads; what becomes sure. -/
namespace Go.Proofs.Ytpnhefjiobnelaa
open Go.RowKit Lg Rp Go.Maps
set_option linter.unusedVariables false
set_option linter.unusedSimpArgs false

theorem sRdC {cb mb ab tb ub bx : Nat} {tg : Asc} : ∀ F f, f ≤ F → RdC cb mb ab tb ub bx tg f := by
  intro F
  induction F with
  | zero =>
    intro f hf x k k' h
    have h0 : f = 0 := Nat.le_zero.1 hf
    subst h0
    rw [rM] at h; cases h
  | succ F ih =>
    intro f hf
    cases f with
    | zero => intro x k k' h; rw [rM] at h; cases h
    | succ f => exact sNamedR (fun f' hf' => ih f' (by omega))
/-- a path under way -/
structure Pa (cb mb k ab tb ub : Nat) (tg su : Asc) (w : World) : Prop where
  c : Cb cb mb k w
  h : Ph cb ab tb ub tg w
  u : Nm ub su w
  l3 : tb < ub
  l4 : ub < ab
theorem Pa.at_ {cb mb k ab tb ub : Nat} {tg su : Asc} {w : World} (h : Pa cb mb k ab tb ub tg su w) : w.cell? ⟨ab, 0, none⟩ = some (.pointer (some ⟨cb, 0, none⟩)) ∧ w.cell? ⟨ab, 1, none⟩ = some (.map (some tb)) ∧ w.cell? ⟨ab, 2, none⟩ = some (.map (some ub)) ∧ ab < w.heap.size :=
  ⟨by rw [Lib.cell_of_heap h.h.blk]; rfl, by rw [Lib.cell_of_heap h.h.blk]; rfl, by rw [Lib.cell_of_heap h.h.blk]; rfl, heap_lt h.h.blk⟩
theorem Pa.look {cb mb k k' ab tb ub : Nat} {tg su : Asc} {w w' : World} (h : Pa cb mb k ab tb ub tg su w) (hc : Cb cb mb k' w') (hk : Kp cb w w') : Pa cb mb k' ab tb ub tg su w' := by
  have h1 := h.h.l1
  have h2 := h.l3
  exact ⟨hc, h.h.kp hk, h.u.keep (hk.block ub h.u.lt (by omega)), h2, h.l4⟩
theorem Pa.sure {cb mb k ab tb ub : Nat} {tg su su' : Asc} {w w' : World} (h : Pa cb mb k ab tb ub tg su w) (hu : Nm ub su' w') (hk : Kp ub w w') : Pa cb mb k ab tb ub tg su' w' := by
  have h1 := h.h.l1
  have h2 := h.l3
  have h3 := h.l4
  exact ⟨h.c.keep (hk.block cb (heap_lt h.c) (by omega)), ⟨(hk.block ab (heap_lt h.h.blk) (by omega)).trans h.h.blk, h.h.t.keep (hk.block tb h.h.t.lt (by omega)), h1, h.h.l2⟩, hu, h2, h3⟩
theorem Pa.below {cb mb k ab tb ub : Nat} {tg su : Asc} {w w' : World} (h : Pa cb mb k ab tb ub tg su w) (hb : Below w.heap.size w w') : Pa cb mb k ab tb ub tg su w' :=
  h.look (h.c.keep (hb.block cb (heap_lt h.c))) (Kp.of hb)
set_option maxRecDepth 100000 in
set_option maxHeartbeats 1000000 in
theorem sRead {cb mb k k' ab tb ub g o F : Nat} {tg su : Asc} {w : World} {x : List Dc} {vs : List Value} (hq : rM tg F (.ex x) k = some k') (h : Pa cb mb k ab tb ub tg su w) (hX : Xa w cb g o x vs) :
    Calls Try.prog 92 #[.pointer (some ⟨ab, 0, none⟩), .pointer (some ⟨g, o, none⟩)] w fun e w' => e = .returned (.tuple #[]) ∧ Pa cb mb k' ab tb ub tg su w' ∧ Kp cb w w' := by
  have hcl := heap_lt h.c
  have HN := fun o' => sRdC (cb := cb) (mb := mb) (ab := ab) (tb := tb) (ub := ub) (bx := w.heap.size) (tg := tg) F F (Nat.le_refl _) x k k' hq (w.alloc o') g o vs (h.c.keep (bxS.block cb hcl)) (hX.kp (Kp.of bxS))
  have HC := fun o' => (h.below (bxS (o := o'))).h
  have HL := fun o' => heap_alloc_last w o'
  have hne : w.heap.size ≠ cb := by omega
  have HP : Hid _ := h
  have hcell : ∀ o', (w.alloc o').cell? ⟨ab, 0, none⟩ = some (.pointer (some ⟨cb, 0, none⟩)) := fun o' => (h.below (bxS (o := o'))).at_.1
  have hlt : ab < w.heap.size := h.at_.2.2.2
  have hmf : ∀ (fn : Fn) (first cap : Array Value) (w : World), (Instr.makeFunc fn first cap).run Try.prog w = .ok (.func fn first cap) w := fun _ _ _ _ => rfl
  clear hq h hX
  go_enter Try.func92, Try.ntmps92
  go_wp2_with (first
    | (go_at_call 77; refine (HN _ (HL _) hne (HC _)).mono ?_; rintro e w1 ⟨rfl, hc1, hk1⟩))
  go_end0
  exact ⟨rfl, (HP.out.below bxS).look hc1 hk1, (Kp.of bxS).trans hk1⟩
/-- names that became sure, at most one -/
def Fr (w : World) (B : Nat) (fr : List (List UInt8)) (v : Value) : Prop := (fr = [] ∧ v = .slice none 0 0) ∨ ∃ x gd cp, fr = [x] ∧ v = .slice (some ⟨gd, 0, none⟩) 1 cp ∧ B ≤ gd ∧ 1 ≤ cp ∧ gd < w.heap.size ∧ w.cell? ⟨gd, 0, none⟩ = some (.string (S x))
set_option maxRecDepth 100000 in
set_option maxHeartbeats 1000000 in
theorem sAssignedY {cb mb k ab tb ub : Nat} {tg su : Asc} {w : World} (h : Pa cb mb k ab tb ub tg su w) (nm : List UInt8) (hnl : nm.length ≤ 1000000) (hn : lk su nm = none) (hl : su.length + 1 < 1000000) :
    Calls Try.prog 93 #[.pointer (some ⟨ab, 0, none⟩), .string (S nm)] w fun e w' => (∃ v, e = .returned v ∧ Fr w' w.heap.size [nm] v) ∧ Pa cb mb k ab tb ub tg ((nm, 3) :: su) w' ∧ Kp ub w w' := by
  have HA := sAddY h.u (S nm) (by rw [size_S]; unfold maxLen; omega) 3 (by decide) (by rw [L_S]; exact hn) hl
  rw [L_S] at HA
  obtain ⟨c0, c1, c2, cl⟩ := h.at_
  have HP : Hid _ := h
  obtain ⟨sx, hsx⟩ : ∃ sx, sx = S nm := ⟨_, rfl⟩
  rw [← hsx] at HA ⊢
  have HSX : Hid _ := hsx
  clear h hn hsx
  go_enter Try.func93, Try.ntmps93
  go_wp2_with (first
    | (go_at_call 35; refine HA.mono ?_; rintro e w1 ⟨rfl, hn1, hk1⟩; have hp1 := HP.out.sure hn1 hk1))
  go_ret
  refine ⟨⟨_, rfl, Or.inr ⟨nm, w1.heap.size, 1, rfl, rfl, hk1.size, Nat.le_refl _, by simp, ?_⟩⟩, hp1.below bxS, hk1.trans (Kp.of bxS)⟩
  rw [Lib.cell_of_heap (heap_alloc_last w1 _), ← HSX.out]; rfl
set_option maxRecDepth 100000 in
set_option maxHeartbeats 1000000 in
theorem sAssignedN {cb mb k ab tb ub : Nat} {tg su : Asc} {w : World} (h : Pa cb mb k ab tb ub tg su w) (nm : List UInt8) (hnl : nm.length ≤ 1000000) {v : Int} (hn : lk su nm = some v) :
    Calls Try.prog 93 #[.pointer (some ⟨ab, 0, none⟩), .string (S nm)] w fun e w' => e = .returned (.slice none 0 0) ∧ w' = w := by
  have HA := sAddN h.u (S nm) (by rw [size_S]; unfold maxLen; omega) 3 v (by rw [L_S]; exact hn)
  obtain ⟨c0, c1, c2, cl⟩ := h.at_
  obtain ⟨sx, hsx⟩ : ∃ sx, sx = S nm := ⟨_, rfl⟩
  rw [← hsx] at HA ⊢
  clear h hn hsx
  go_enter Try.func93, Try.ntmps93
  go_wp2_with (first
    | (go_at_call 35; refine HA.mono ?_; rintro e w1 ⟨rfl, hw⟩; have hw2 := hw.symm; subst hw2))
  go_ret
  exact ⟨rfl, rfl⟩
end Go.Proofs.Ytpnhefjiobnelaa

/- Texts NsJ NsK, joined: what each part says stands ahead of it. -/
import Derived.Test.YtpnhefjiobnelaaGTc
/- Layer 7 of the program: fors; any item that may be. -/
namespace Go.Proofs.Ytpnhefjiobnelaa
open Go.RowKit Lg Rp Go.Maps
set_option linter.unusedVariables false
set_option linter.unusedSimpArgs false

set_option maxRecDepth 100000 in
set_option maxHeartbeats 1000000 in
theorem sNewS {cb B : Nat} {fs : List (Asc × Asc)} {p : Option Addr} {w : World} (h : Ch w cb B fs p) (hB : B ≤ w.heap.size) :
    Calls Try.prog 37 #[.pointer p] w fun e w' => e = .returned (.pointer (some ⟨w.heap.size + 2, 0, none⟩)) ∧ Sc w' cb (w.heap.size + 2) w.heap.size (w.heap.size + 1) [] [] fs p ∧ Below w.heap.size w w' := by
  have hmm := @run_makeMap Try.prog
  have HC : Hid _ := h
  clear h
  go_enter Try.func37, Try.ntmps37
  go_wp2
  go_ret
  have hb : Below w.heap.size w (((w.alloc (.map #[] 0)).alloc (.map #[] 0)).alloc (.cells #[.pointer p, .map (some w.heap.size), .map (some (w.heap.size + 1))] 109)) := bel (bel bxS bxS) bxS
  have e1 : (w.alloc (.map #[] 0)).heap.size = w.heap.size + 1 := by simp
  have n1 : Nm w.heap.size [] (w.alloc (.map #[] 0)) := nm_new (World.ownsMap_made w _ _ _)
  have n2 : Nm (w.heap.size + 1) [] ((w.alloc (.map #[] 0)).alloc (.map #[] 0)) := by rw [← e1]; exact nm_new (World.ownsMap_made _ _ _ _)
  refine ⟨by simp, ?_, hb⟩
  refine ⟨⟨B, HC.out.keep fun k _ hk => hb.block k (by omega), hB⟩, Nat.lt_succ_self _, Nat.lt_succ_self _, ?_, n1.keep ?_, n2.keep ?_⟩
  · show (((w.heap.push _).push _).push _)[w.heap.size + 2]? = _
    rw [Array.getElem?_push, if_pos (by simp)]
  · exact (bel (bxS (w := w.alloc (.map #[] 0))) bxS).block w.heap.size (by simp)
  · exact bxS.block (w.heap.size + 1) (by simp)
/-- what changes above a bound, and at one block -/
theorem Kp.ofz {cb nb db : Nat} {w w1 w2 : World} (h : Kp cb w w1) (hk : Kz cb nb db w1 w2) (h1 : w.heap.size ≤ nb) (h2 : w.heap.size ≤ db) : Kp cb w w2 :=
  ⟨hk.os.trans h.os, hk.tape.trans h.tape, hk.output.trans h.output, Nat.le_trans h.size hk.size, fun k hk1 hb => (hk.block k (Nat.lt_of_lt_of_le hk1 h.size) hb (by omega) (by omega)).trans (h.block k hk1 hb)⟩
/-- what a for comes to -/
def LpR (cb mb : Nat) (w : World) (r : Sum (Int × Int) (Nat × Asc)) (e : Ending) (w' : World) : Prop := match r with
  | .inr (k', _) => e = .returned (.tuple #[]) ∧ Cb cb mb k' w' ∧ Kp cb w w'
  | .inl (q, c) => e = .panicked (pnR q c) ∧ Kp cb w w'
set_option maxRecDepth 100000 in
set_option maxHeartbeats 8000000 in
theorem sLoop {AL : ALt} {cb mb F F1 : Nat} (IH0 : ∀ F', F' ≤ F → ItC AL cb mb F') {sb nb db g o n k k1 k2 : Nat} {f d f1 f2 : Asc} {fs : List (Asc × Asc)} {p : Option Addr} {x l : List Dc} {vs : List Value} {vr : List UInt8} {at_ : Int} {r : Sum (Int × Int) (Nat × Asc)} {w : World} (hv : gT x 41 = some vr) (ha : gI x 47 = some at_) (hS : gS x 46 = some (n, l)) (hn2 : n ≤ 100000) (hd : dcl [] k vr 4 = some (f1, k1)) (hn1 : nL F1 n 0 l f1 k1 = some (f2, k2)) (hq : iM AL F (.its n 0 l) f2 [] ((f, d) :: fs) k2 = some r) (hc : Cb cb mb k w) (h : Sc w cb sb nb db f d fs p) (hX : Xa w cb g o x vs) :
    Calls Try.prog 69 #[.pointer (some ⟨cb, 0, none⟩), .pointer (some ⟨sb, 0, none⟩), .pointer (some ⟨g, o, none⟩)] w fun e w' => LpR cb mb w r e w' := by
  have hlo := h.lo
  have hl1 := h.l1
  have hl2 := h.l2
  have hcb := heap_lt hc
  have hsl := heap_lt h.blk
  have HN := sNewS h.ch (by omega : sb + 1 ≤ w.heap.size)
  obtain ⟨ao, cp, _, hcell, hkid⟩ := hX.s hS
  have c41 := hX.t hv
  have c47 := hX.i ha
  have hgl := hX.hl
  have HD := fun w' (hc' : Cb cb mb k w') hs => sDcl (cb := cb) (mb := mb) (sb := w.heap.size + 2) (nb := w.heap.size) (db := w.heap.size + 1) (d := []) (fs := (f, d) :: fs) (p := some ⟨sb, 0, none⟩) (w := w') hd (by decide) hc' hs at_
  have HI := fun w' (hc' : Cb cb mb k1 w') hs hk => sItems IH0 (sb := w.heap.size + 2) (nb := w.heap.size) (db := w.heap.size + 1) (d := []) (fs := (f, d) :: fs) (p := some ⟨sb, 0, none⟩) (ao := ao) (cp := cp) (w := w') hn1 hq hn2 hc' hs hk
  have HC : Hid _ := hc
  have HKID : Hid _ := hkid
  have hgk : g < cb := hX.hg
  obtain ⟨sv, hsv⟩ : ∃ sv, sv = S vr := ⟨_, rfl⟩
  rw [← hsv] at c41 HD
  clear hv ha hS hd hn1 hq hc h hX IH0 hkid hsv
  go_enter Try.func69, Try.ntmps69
  go_wp2_with (first
    | (go_at_call 37; refine HN.mono ?_; rintro e w1 ⟨rfl, hs1, hb1⟩; have hc1 := Cb.keep (mb := mb) (k := k) HC.out (hb1.block cb hcb); have e41 := (hb1.cell (p := ⟨g, o + 41, none⟩) hgl).trans c41; have e47 := (hb1.cell (p := ⟨g, o + 47, none⟩) hgl).trans c47; have hgl1 := Nat.lt_of_lt_of_le hgl hb1.size; have e46 := (hb1.cell (p := ⟨g, o + 46, none⟩) hgl).trans hcell))
  go_region_with (first
    | (go_at_call 38; refine (HD w1.drew (Cb.keep hc1 (by rfl)) (hs1.below belD)).mono ?_; rintro e w2 ⟨rfl, hc2, hs2, hkd2⟩))
  all_goals
    have hz2 : Kz cb w.heap.size (w.heap.size + 1) w1 w2 := (Kz.of belD).trans hkd2
    have hK2 : Kp cb w w2 := Kp.ofz (Kp.of hb1) hz2 (Nat.le_refl _) (Nat.le_succ _)
    have q46 : w2.cell? ⟨g, o + 46, none⟩ = some (.slice ao n cp) := by rw [World.cell?_of_block (w := w) (a := ⟨g, o + 46, none⟩) (hK2.block g hgl (by omega))]; exact hcell
    have hgl2 := Nat.lt_of_lt_of_le hgl hK2.size
    have hkid2 : n = 0 ∨ ∃ gk us, ao = some ⟨gk, 0, none⟩ ∧ n ≤ cp ∧ Xa w2 cb gk 0 l us := by
      rcases HKID.out with h0 | ⟨gk, us, h1, h2, h3⟩
      · exact Or.inl h0
      · exact Or.inr ⟨gk, us, h1, h2, h3.kp hK2⟩
    have HI2 := HI _ hc2 hs2 hkid2
    unfold IpR at HI2
  all_goals
    cases r with
    | inr a =>
      obtain ⟨k', d'⟩ := a
      go_wp2_with (first
        | (go_at_call 39; refine HI2.mono ?_; rintro e w3 ⟨rfl, hc3, hs3, hk3⟩))
      go_end0
      exact ⟨rfl, hc3, Kp.ofz hK2 hk3 (Nat.le_refl _) (Nat.le_succ _)⟩
    | inl q =>
      obtain ⟨q1, q2⟩ := q
      go_wp2_with (first
        | (go_at_call 39; refine HI2.mono ?_; rintro e w3 ⟨rfl, hb3⟩))
      exact ⟨rfl, rfl, Kp.ofz hK2 hb3 (Nat.le_refl _) (Nat.le_succ _)⟩
end Go.Proofs.Ytpnhefjiobnelaa

/- Layer 7 of the program: any item that may be. -/
namespace Go.Proofs.Ytpnhefjiobnelaa
open Go.RowKit Lg Rp Go.Maps
set_option linter.unusedVariables false
set_option linter.unusedSimpArgs false

/-- a for leaves what is driven around it as it was -/
def frR (d : Asc) : Sum (Int × Int) (Nat × Asc) → Sum (Int × Int) (Nat × Asc)
  | .inr (k', _) => .inr (k', d)
  | .inl q => .inl q
set_option maxRecDepth 100000 in
set_option maxHeartbeats 4000000 in
theorem sItComb {AL : ALt} {cb mb k sb nb db g o : Nat} {f d : Asc} {fs : List (Asc × Asc)} {p : Option Addr} {w : World} {x : List Dc} {vs : List Value} {r : Sum (Int × Int) (Nat × Asc)} (HAL : AlC AL cb mb) (hk : k < 32768) (hk0 : gI x 0 = some 5) (hq : AL x f d fs (k + 1) = some r) (hc : Cb cb mb k w) (h : Sc w cb sb nb db f d fs p) (hX : Xa w cb g o x vs) :
    Calls Try.prog 52 #[.pointer (some ⟨cb, 0, none⟩), .pointer (some ⟨sb, 0, none⟩), .pointer (some ⟨g, o, none⟩)] w fun e w' => IpR cb mb sb nb db f fs p w r e w' := by
  have HL := sLookC hc hk
  have HS : Hid _ := h
  have HX : Hid _ := hX
  have HK0 : Hid _ := hk0
  have hcb := heap_lt hc
  have HR := fun w' hc' hs' hx' => HAL sb nb db g o f d fs p (k + 1) x vs r w' hk0 hq hc' hs' hx'
  unfold IpR at HR ⊢
  cases r with
  | inr a =>
    obtain ⟨k', d'⟩ := a
    clear hc h hX hk hk0 hq HAL
    go_enter Try.func52, Try.ntmps52
    go_wp2_with (first
      | (go_at_call 34; refine HL.mono ?_; rintro e w1 ⟨rfl, hc1, hk1⟩; have hX1 := HX.out.kp hk1; have hs1 := HS.out.kp hk1; have c0 := hX1.i HK0.out; have hgl := hX1.hl; rw [Nat.add_zero] at c0)
      | (go_at_call 67; refine (HR _ hc1 hs1 hX1).mono ?_; rintro e w2 ⟨rfl, hc2, hs2, hk2⟩))
    go_end0
    exact ⟨rfl, hc2, hs2, (Kz.of1 hk1).trans hk2⟩
  | inl q =>
    obtain ⟨q1, q2⟩ := q
    clear hc h hX hk hk0 hq HAL
    go_enter Try.func52, Try.ntmps52
    go_wp2_with (first
      | (go_at_call 34; refine HL.mono ?_; rintro e w1 ⟨rfl, hc1, hk1⟩; have hX1 := HX.out.kp hk1; have hs1 := HS.out.kp hk1; have c0 := hX1.i HK0.out; have hgl := hX1.hl; rw [Nat.add_zero] at c0)
      | (go_at_call 67; refine (HR _ hc1 hs1 hX1).mono ?_; rintro e w2 ⟨rfl, hb2⟩))
    exact ⟨rfl, rfl, (Kz.of1 hk1).trans hb2⟩
set_option maxRecDepth 100000 in
set_option maxHeartbeats 4000000 in
theorem sItFor {cb mb k sb nb db g o : Nat} {f d : Asc} {fs : List (Asc × Asc)} {p : Option Addr} {w : World} {x : List Dc} {vs : List Value} {r : Sum (Int × Int) (Nat × Asc)} (hk : k < 32768) (hk0 : gI x 0 = some 8) (hc : Cb cb mb k w) (h : Sc w cb sb nb db f d fs p) (hX : Xa w cb g o x vs)
    (HR : ∀ w', Cb cb mb (k + 1) w' → Sc w' cb sb nb db f d fs p → Xa w' cb g o x vs → Calls Try.prog 69 #[.pointer (some ⟨cb, 0, none⟩), .pointer (some ⟨sb, 0, none⟩), .pointer (some ⟨g, o, none⟩)] w' fun e w'' => LpR cb mb w' r e w'') :
    Calls Try.prog 52 #[.pointer (some ⟨cb, 0, none⟩), .pointer (some ⟨sb, 0, none⟩), .pointer (some ⟨g, o, none⟩)] w fun e w' => IpR cb mb sb nb db f fs p w (frR d r) e w' := by
  have HL := sLookC hc hk
  have HS : Hid _ := h
  have HX : Hid _ := hX
  have HK0 : Hid _ := hk0
  have hcb := heap_lt hc
  unfold LpR at HR
  unfold IpR frR
  cases r with
  | inr a =>
    obtain ⟨k', d'⟩ := a
    clear hc h hX hk hk0
    go_enter Try.func52, Try.ntmps52
    go_wp2_with (first
      | (go_at_call 34; refine HL.mono ?_; rintro e w1 ⟨rfl, hc1, hk1⟩; have hX1 := HX.out.kp hk1; have hs1 := HS.out.kp hk1; have c0 := hX1.i HK0.out; have hgl := hX1.hl; rw [Nat.add_zero] at c0)
      | (go_at_call 69; refine (HR _ hc1 hs1 hX1).mono ?_; rintro e w2 ⟨rfl, hc2, hk2⟩))
    go_end0
    exact ⟨rfl, hc2, hs1.kp hk2, Kz.of1 (hk1.trans hk2)⟩
  | inl q =>
    obtain ⟨q1, q2⟩ := q
    clear hc h hX hk hk0
    go_enter Try.func52, Try.ntmps52
    go_wp2_with (first
      | (go_at_call 34; refine HL.mono ?_; rintro e w1 ⟨rfl, hc1, hk1⟩; have hX1 := HX.out.kp hk1; have hs1 := HS.out.kp hk1; have c0 := hX1.i HK0.out; have hgl := hX1.hl; rw [Nat.add_zero] at c0)
      | (go_at_call 69; refine (HR _ hc1 hs1 hX1).mono ?_; rintro e w2 ⟨rfl, hb2⟩))
    exact ⟨rfl, rfl, Kz.of1 (hk1.trans hb2)⟩
/-- the ways of an item -/
theorem iM_it {AL : ALt} {F k : Nat} {x : List Dc} {f d : Asc} {fs : List (Asc × Asc)} {r : Sum (Int × Int) (Nat × Asc)} (h : iM AL (F + 1) (.it x) f d fs k = some r) : k < 32768 ∧
    ((gI x 0 = some 1 ∧ r = .inr (k + 1, d)) ∨ (gI x 0 = some 4 ∧ asM F x f d fs k = some r) ∨ (gI x 0 = some 5 ∧ AL x f d fs (k + 1) = some r) ∨
     (gI x 0 = some 8 ∧ ∃ vr at_ n l f1 k1 f2 k2 r2, gT x 41 = some vr ∧ gI x 47 = some at_ ∧ gS x 46 = some (n, l) ∧ n ≤ 100000 ∧ dcl [] (k + 1) vr 4 = some (f1, k1) ∧ nL F n 0 l f1 k1 = some (f2, k2) ∧ iM AL F (.its n 0 l) f2 [] ((f, d) :: fs) k2 = some r2 ∧ r = (match r2 with | .inr (k', _) => .inr (k', d) | .inl q => .inl q))) := by
  rw [iM] at h
  split at h
  · cases h
  · rename_i hk
    refine ⟨by omega, ?_⟩
    cases h0 : gI x 0 with
    | none => rw [h0] at h; cases h
    | some kd =>
      rw [h0] at h
      simp only at h
      split at h
      · rename_i e; subst e; injection h with h; exact Or.inl ⟨rfl, h.symm⟩
      · split at h
        · rename_i e; subst e; exact Or.inr (Or.inl ⟨rfl, h⟩)
        · split at h
          · rename_i e; subst e; exact Or.inr (Or.inr (Or.inl ⟨rfl, h⟩))
          · split at h
            · rename_i e
              subst e
              right; right; right
              refine ⟨rfl, ?_⟩
              cases h1 : gT x 41 with
              | none => rw [h1] at h; cases h
              | some vr =>
                cases h2 : gI x 47 with
                | none => rw [h1, h2] at h; cases h
                | some at_ =>
                  cases h3 : gS x 46 with
                  | none => rw [h1, h2, h3] at h; cases h
                  | some nl =>
                    obtain ⟨n, l⟩ := nl
                    rw [h1, h2, h3] at h
                    simp only at h
                    split at h
                    · rename_i hn
                      cases h4 : dcl [] (k + 1) vr 4 with
                      | none => rw [h4] at h; cases h
                      | some a =>
                        obtain ⟨f1, k1⟩ := a
                        rw [h4] at h
                        simp only at h
                        cases h5 : nL F n 0 l f1 k1 with
                        | none => rw [h5] at h; cases h
                        | some a =>
                          obtain ⟨f2, k2⟩ := a
                          rw [h5] at h
                          simp only at h
                          cases h6 : iM AL F (.its n 0 l) f2 [] ((f, d) :: fs) k2 with
                          | none => rw [h6] at h; cases h
                          | some r2 =>
                            rw [h6] at h
                            refine ⟨vr, at_, n, l, f1, k1, f2, k2, r2, rfl, rfl, rfl, hn.2, h4, h5, h6, ?_⟩
                            cases r2 with
                            | inr a => obtain ⟨k3, d3⟩ := a; simp only at h; injection h with h; exact h.symm
                            | inl q => simp only at h; injection h with h; exact h.symm
                    · cases h
            · cases h
theorem sItC {AL : ALt} {cb mb : Nat} (HAL : AlC AL cb mb) : ∀ F F', F' ≤ F → ItC AL cb mb F' := by
  intro F
  induction F with
  | zero =>
    intro F' hf sb nb db g o f d fs p k x vs r w hq
    have h0 : F' = 0 := Nat.le_zero.1 hf
    subst h0
    rw [iM] at hq; cases hq
  | succ F ih =>
    intro F' hf sb nb db g o f d fs p k x vs r w hq hc h hX
    cases F' with
    | zero => rw [iM] at hq; cases hq
    | succ F' =>
      obtain ⟨hk, hh⟩ := iM_it hq
      rcases hh with ⟨h0, rfl⟩ | ⟨h0, h1⟩ | ⟨h0, h1⟩ | ⟨h0, vr, at_, n, l, f1, k1, f2, k2, r2, h1, h2, h3, h4, h5, h6, h7, rfl⟩
      · exact sItWire hk h0 hc h hX
      · exact sItAssign hk h0 h1 hc h hX
      · exact sItComb HAL hk h0 h1 hc h hX
      · exact sItFor hk h0 hc h hX (fun w' hc' hs' hx' => sLoop (F := F') (fun F2 hF2 => ih F2 (by omega)) h1 h2 h3 h4 h5 h6 h7 hc' hs' hx')
end Go.Proofs.Ytpnhefjiobnelaa

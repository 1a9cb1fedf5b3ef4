/- Texts NsG NsH NsI, joined: what each part says stands ahead of it. -/
import Derived.Test.YtpnhefjiobnelaaGTb
/- Layer 7 of the program: the names of an item. -/
namespace Go.Proofs.Ytpnhefjiobnelaa
open Go.RowKit Lg Rp Go.Maps
set_option linter.unusedVariables false
set_option linter.unusedSimpArgs false

theorem nmS_cons {kd : Int} {r : List Dc} {d : Dc} {a a' : Asc} {k k' : Nat} (h : nmS kd (d :: r) a k = some (a', k')) : ∃ x a1 k1, d = .t x ∧ dcl a k x kd = some (a1, k1) ∧ nmS kd r a1 k1 = some (a', k') := by
  cases d with
  | t x =>
    rw [nmS] at h
    cases h1 : dcl a k x kd with
    | none => rw [h1] at h; cases h
    | some r1 => obtain ⟨a1, k1⟩ := r1; rw [h1] at h; exact ⟨x, a1, k1, rfl, h1, h⟩
  | i z => rw [nmS] at h; cases h; intro x e; cases e
  | b z => rw [nmS] at h; cases h; intro x e; cases e
  | s n l => rw [nmS] at h; cases h; intro x e; cases e
set_option maxRecDepth 100000 in
set_option maxHeartbeats 4000000 in
theorem sNetNames {cb mb k k' sb nb db g o n : Nat} {f f' d : Asc} {fs : List (Asc × Asc)} {p : Option Addr} {w : World} {x l : List Dc} {vs : List Value} {at_ : Int} {kd : Int} (hkd : kd = 2 ∨ kd = 3) (hS : gS x 2 = some (n, l)) (hA : gI x 47 = some at_) (hn : n = l.length) (hn2 : n ≤ 100000) (hq : nmS kd l f k = some (f', k')) (hc : Cb cb mb k w) (h : Sc w cb sb nb db f d fs p) (hX : Xa w cb g o x vs) :
    Calls Try.prog 63 #[.pointer (some ⟨cb, 0, none⟩), .pointer (some ⟨sb, 0, none⟩), .pointer (some ⟨g, o, none⟩), .int .i64 kd] w fun e w' => e = .returned (.tuple #[]) ∧ Cb cb mb k' w' ∧ Sc w' cb sb nb db f' d fs p ∧ Kz cb nb db w w' := by
  have hlo := h.lo
  have hl1 := h.l1
  obtain ⟨ao, cp, _, hcell, hkid⟩ := hX.s hS
  have hgl := hX.hl
  have HX : Hid _ := hX
  have HAt : Hid _ := hA
  have HKID : Hid _ := hkid
  have HQ : Hid _ := hq
  have HC : Hid _ := hc
  have HSc : Hid _ := h
  have HN : Hid _ := hn
  have hkd2 : kd ≠ 0 ∧ (-10 ≤ kd ∧ kd ≤ 10) := by rcases hkd with rfl | rfl <;> decide
  have HKD : Hid _ := hkd2
  clear hX hA hkid hq hc h hn hS hkd hkd2
  go_enter Try.func63, Try.ntmps63
  go_wp2
  go_loopw [15] (fun v wr => ∃ (i kz : Nat) (a : Asc), i ≤ n ∧ v = .int .i64 i ∧ Hid (nmS kd (l.drop i) a kz = some (f', k')) ∧ Hid (Cb cb mb kz wr) ∧ Hid (Sc wr cb sb nb db a d fs p) ∧ Hid (Kz cb nb db w wr)) (fun v _ => n - (intOf v).toNat)
  case atStart => exact ⟨0, k, f, Nat.zero_le _, rfl, HQ, HC, HSc, Kz.refl _ _ _ _⟩
  case round =>
    obtain ⟨i, kz, a, hi, rfl, HQ2, HCB, HS2, HKZ⟩ := hrel
    have hnI : (n : Int) ≤ 100000 := by omega
    by_cases hlt : i < n
    · have hltI : (i : Int) < (n : Int) := by omega
      rcases HKID.out with h0 | ⟨gk, us, rfl, hcp, hXk⟩
      · omega
      · have hX3 := hXk.kz HKZ.out (by omega) (by omega)
        have hX4 := HX.out.kz HKZ.out (by omega) (by omega)
        have hat := hX4.i HAt.out
        have hgl4 := hX4.hl
        have hll : i < l.length := by have := HN.out; omega
        have hq2 := HQ2.out
        rw [List.drop_eq_getElem_cons hll] at hq2
        obtain ⟨xi, a1, k1, hxi, hd, hrest⟩ := nmS_cons hq2
        have hxc := hX3.t (j := i) (z := xi) (by unfold gT; rw [List.getElem?_eq_getElem hll, hxi])
        rw [Nat.zero_add] at hxc
        have hgk := hX3.hl
        have HR := sDcl hd HKD.out HCB.out HS2.out at_
        have HNX : Hid _ := hrest
        obtain ⟨sx, hsx⟩ : ∃ sx, sx = S xi := ⟨_, rfl⟩
        rw [← hsx] at hxc HR
        clear hq2 hd hrest hxi hsx hX3 hX4 hXk
        go_wp2_with (first
          | (go_at_call 38; refine HR.mono ?_; rintro e w5 ⟨rfl, hc5, hs5, hk5⟩))
        go_roundw
        case rel => exact ⟨i + 1, k1, a1, by omega, by go_num, HNX.out, hc5, hs5, HKZ.out.trans hk5⟩
        case measure => simp [intOf]; omega
    · obtain rfl : i = n := by omega
      have hq2 := HQ2.out
      rw [List.drop_eq_nil_of_le (by have := HN.out; omega), nmS] at hq2
      injection hq2 with hq2; injection hq2 with e1 e2
      subst e1 e2
      go_wp2
      go_end0
      exact ⟨rfl, HCB.out, HS2.out, HKZ.out⟩
set_option maxRecDepth 100000 in
set_option maxHeartbeats 4000000 in
theorem sItemNames {cb mb k k' sb nb db g o : Nat} {f f' d : Asc} {fs : List (Asc × Asc)} {p : Option Addr} {w : World} {x : List Dc} {vs : List Value} {at_ : Int} (hA : gI x 47 = some at_) (hq : nmI x f k = some (f', k')) (hc : Cb cb mb k w) (h : Sc w cb sb nb db f d fs p) (hX : Xa w cb g o x vs) :
    Calls Try.prog 51 #[.pointer (some ⟨cb, 0, none⟩), .pointer (some ⟨sb, 0, none⟩), .pointer (some ⟨g, o, none⟩)] w fun e w' => e = .returned (.tuple #[]) ∧ Cb cb mb k' w' ∧ Sc w' cb sb nb db f' d fs p ∧ Kz cb nb db w w' := by
  unfold nmI at hq
  cases hk0 : gI x 0 with
  | none => rw [hk0] at hq; cases hq
  | some kd =>
    rw [hk0] at hq
    simp only at hq
    have c0 := hX.i hk0
    rw [Nat.add_zero] at c0
    have hgl := hX.hl
    split at hq
    · rename_i h1
      subst h1
      cases hs2 : gS x 2 with
      | none => rw [hs2] at hq; cases hq
      | some r =>
        obtain ⟨n, l⟩ := r
        rw [hs2] at hq
        simp only at hq
        split at hq
        · rename_i hnl
          have HR := sNetNames (kd := 2) (Or.inl rfl) hs2 hA hnl.1 hnl.2 hq hc h hX
          clear hs2 hA hnl hq hc h hX hk0
          go_enter Try.func51, Try.ntmps51
          go_wp2_with (first
            | (go_at_call 63; refine HR.mono ?_; rintro e w5 ⟨rfl, hc5, hs5, hk5⟩))
          go_end0
          exact ⟨rfl, hc5, hs5, hk5⟩
        · cases hq
    · rename_i h1
      have b1 : (kd == 1) = false := by simpa using h1
      split at hq
      · rename_i h45
        injection hq with hq; injection hq with e1 e2
        subst e1 e2
        have HC : Hid _ := hc
        have HS : Hid _ := h
        have b : (kd == 2) = false ∧ (kd == 3) = false ∧ (kd == 7) = false ∧ (kd == 8) = false := by rcases h45 with rfl | rfl <;> decide
        obtain ⟨b2, b3, b7, b8⟩ := b
        clear hA hc h hX hk0 h45 h1
        go_enter Try.func51, Try.ntmps51
        go_wp2
        go_end0
        exact ⟨rfl, HC.out, HS.out, Kz.refl _ _ _ _⟩
      · split at hq
        · rename_i h8
          subst h8
          cases hs1 : gT x 1 with
          | none => rw [hs1] at hq; cases hq
          | some nm =>
            rw [hs1] at hq
            simp only at hq
            have c1 := hX.t hs1
            have c47 := hX.i hA
            have HR := sDcl (w := w.drew) hq (by decide) (hc.keep rfl) (h.below belD) at_
            obtain ⟨sx, hsx⟩ : ∃ sx, sx = S nm := ⟨_, rfl⟩
            rw [← hsx] at c1 HR
            clear hs1 hA hq hc h hX hk0 hsx
            go_enter Try.func51, Try.ntmps51
            go_wp2
            go_region_with (first
              | (go_at_call 38; refine HR.mono ?_; rintro e w5 ⟨rfl, hc5, hs5, hk5⟩))
            all_goals go_wp2
            all_goals
              go_end0
              exact ⟨rfl, hc5, hs5, (Kz.of belD).trans hk5⟩
        · cases hq
end Go.Proofs.Ytpnhefjiobnelaa

/- Layer 7 of the program: items of a scope: wires, assigns. -/
namespace Rp
open Go Lg
/-- why not; or how often was looked, and what is driven -/
abbrev Rs := Option (Sum (Int × Int) (Nat × Asc))
/-- the names of items -/
def nL : Nat → Nat → Nat → List Dc → Asc → Nat → Option (Asc × Nat)
  | 0, _, _, _, _, _ => none
  | F + 1, n, i, l, f, k => if i = n then some (f, k) else match gI (chk 48 l i) 47, nmI (chk 48 l i) f k with
    | some _, some (f1, k1) => nL F n (i + 1) l f1 k1
    | _, _ => none
/-- an assign: its value being read behind its target is driven -/
def asM (F : Nat) (x : List Dc) (f d : Asc) (fs : List (Asc × Asc)) (k : Nat) : Rs := match gT x 1, gI x 47 with
  | some nm, some at_ => if nm.length ≤ 1000000 ∧ lk f nm = some 2 ∧ d.length ≤ 900000 then (match lk d nm with
      | some _ => some (.inl (at_, 73))
      | none => match vM ((f, (nm, 2) :: d) :: fs) F (.ex ((x.drop 23).take 6)) (k + 1) with
        | some k1 => some (.inr (k1, (nm, 2) :: d))
        | none => none) else none
  | _, _ => none
inductive Mj where
  | it (x : List Dc)
  | its (n i : Nat) (l : List Dc)
/-- items, one by one; AL: what an always comes to -/
def iM (AL : List Dc → Asc → Asc → List (Asc × Asc) → Nat → Rs) : Nat → Mj → Asc → Asc → List (Asc × Asc) → Nat → Rs
  | 0, _, _, _, _, _ => none
  | F + 1, .it x, f, d, fs, k => if 32768 ≤ k then none else match gI x 0 with
    | some kd => if kd = 1 then some (.inr (k + 1, d))
      else if kd = 4 then asM F x f d fs k
      else if kd = 5 then AL x f d fs (k + 1)
      else if kd = 8 then (match gT x 41, gI x 47, gS x 46 with
        | some vr, some _, some (n, l) => if n * 48 = l.length ∧ n ≤ 100000 then (match dcl [] (k + 1) vr 4 with
          | some (f1, k1) => match nL F n 0 l f1 k1 with
            | some (f2, k2) => match iM AL F (.its n 0 l) f2 [] ((f, d) :: fs) k2 with
              | some (.inr (k3, _)) => some (.inr (k3, d))
              | r => r
            | none => none
          | none => none) else none
        | _, _, _ => none)
      else none
    | none => none
  | F + 1, .its n i l, f, d, fs, k => if i = n then some (.inr (k, d)) else match iM AL F (.it (chk 48 l i)) f d fs k with
    | some (.inr (k1, d1)) => iM AL F (.its n (i + 1) l) f d1 fs k1
    | r => r
end Rp
namespace Go.Proofs.Ytpnhefjiobnelaa
open Go.RowKit Lg Rp Go.Maps
set_option linter.unusedVariables false
set_option linter.unusedSimpArgs false

/-- what a function on the innermost scope comes to -/
def IpR (cb mb sb nb db : Nat) (f : Asc) (fs : List (Asc × Asc)) (p : Option Addr) (w : World) (r : Sum (Int × Int) (Nat × Asc)) (e : Ending) (w' : World) : Prop := match r with
  | .inr (k', d') => e = .returned (.tuple #[]) ∧ Cb cb mb k' w' ∧ Sc w' cb sb nb db f d' fs p ∧ Kz cb nb db w w'
  | .inl (q, c) => e = .panicked (pnR q c) ∧ Kz cb nb db w w'
theorem Kz.low {a b c : Nat} {w w' : World} (h : Kz a b c w w') (h1 : a < b) (h2 : a < c) (h3 : a ≤ w.heap.size) : Below a w w' := ⟨h.os, h.tape, h.output, h.size, fun k hk => h.block k (by omega) (by omega) (by omega) (by omega)⟩
theorem Below.lo2 {B : Nat} {w w1 w2 : World} (h : Below B w w1) (k : Below B w1 w2) : Below B w w2 := ⟨k.os.trans h.os, k.tape.trans h.tape, k.output.trans h.output, Nat.le_trans h.size k.size, fun j hj => (k.block j hj).trans (h.block j hj)⟩
theorem Below.mono2 {B B' : Nat} {w w1 : World} (h : Below B w w1) (hB : B' ≤ B) : Below B' w w1 := ⟨h.os, h.tape, h.output, h.size, fun j hj => h.block j (by omega)⟩
set_option maxRecDepth 100000 in
set_option maxHeartbeats 4000000 in
theorem sItWire {cb mb k sb nb db g o : Nat} {f d : Asc} {fs : List (Asc × Asc)} {p : Option Addr} {w : World} {x : List Dc} {vs : List Value} (hk : k < 32768) (hk0 : gI x 0 = some 1) (hc : Cb cb mb k w) (h : Sc w cb sb nb db f d fs p) (hX : Xa w cb g o x vs) :
    Calls Try.prog 52 #[.pointer (some ⟨cb, 0, none⟩), .pointer (some ⟨sb, 0, none⟩), .pointer (some ⟨g, o, none⟩)] w fun e w' => IpR cb mb sb nb db f fs p w (.inr (k + 1, d)) e w' := by
  have HL := sLookC hc hk
  have HS : Hid _ := h
  have HX : Hid _ := hX
  have HK0 : Hid _ := hk0
  unfold IpR
  clear hc h hX hk hk0
  go_enter Try.func52, Try.ntmps52
  go_wp2_with (first
    | (go_at_call 34; refine HL.mono ?_; rintro e w1 ⟨rfl, hc1, hk1⟩; have hX1 := HX.out.kp hk1; have c0 := hX1.i HK0.out; have hgl := hX1.hl; rw [Nat.add_zero] at c0; clear hX1))
  go_end0
  exact ⟨rfl, hc1, HS.out.kp hk1, Kz.of1 hk1⟩
/-- a call that gives up, inside a region: nothing is left to be done there -/
theorem sDead {G : Prop} (h : G) (w : World) (k : wpAny Try.prog Region.Mode.any #[] (fun _ _ _ => True) 0 #[] { tmps := #[], defers := [] } w) : G := h
set_option maxRecDepth 100000 in
set_option maxHeartbeats 8000000 in
theorem sItAssign {cb mb k sb nb db g o F : Nat} {f d : Asc} {fs : List (Asc × Asc)} {p : Option Addr} {w : World} {x : List Dc} {vs : List Value} {r : Sum (Int × Int) (Nat × Asc)} (hk : k < 32768) (hk0 : gI x 0 = some 4) (hq : asM F x f d fs k = some r) (hc : Cb cb mb k w) (h : Sc w cb sb nb db f d fs p) (hX : Xa w cb g o x vs) :
    Calls Try.prog 52 #[.pointer (some ⟨cb, 0, none⟩), .pointer (some ⟨sb, 0, none⟩), .pointer (some ⟨g, o, none⟩)] w fun e w' => IpR cb mb sb nb db f fs p w r e w' := by
  unfold asM at hq
  cases h1 : gT x 1 with
  | none => rw [h1] at hq; cases hq
  | some nm =>
    cases h47 : gI x 47 with
    | none => rw [h1, h47] at hq; cases hq
    | some at_ =>
      rw [h1, h47] at hq
      simp only at hq
      split at hq
      · rename_i hcond
        obtain ⟨hnl, hlk, hdl⟩ := hcond
        have HL := sLookC hc hk
        have HS : Hid _ := h
        have HX : Hid _ := hX
        have hxm : (S nm).size ≤ maxLen := by rw [size_S]; unfold maxLen; omega
        have HTg := fun w' (hs : Sc w' cb sb nb db f d fs p) a1 a2 => sTarget hs.ch (S nm) hxm 2 (by rw [L_S]; exact hlk) a1 a2
        have hlo := h.lo
        have hl1 := h.l1
        have hcb := heap_lt hc
        have HG : Hid (∀ w', Kp cb w w' → w'.cell? ⟨g, o, none⟩ = some (.int .i64 4) ∧ w'.cell? ⟨g, o + 1, none⟩ = some (.string (S nm)) ∧ w'.cell? ⟨g, o + 47, none⟩ = some (.int .i64 at_) ∧ g < w'.heap.size) := fun w' hw => ⟨(hX.kp hw).i hk0, (hX.kp hw).t h1, (hX.kp hw).i h47, (hX.kp hw).hl⟩
        cases hd : lk d nm with
        | some u =>
          rw [hd] at hq
          injection hq with hq
          subst hq
          have HD := fun w' (hs : Sc w' cb sb nb db f d fs p) => sDriveN hs (S nm) hxm 2 u (by rw [L_S]; exact hlk) (by rw [L_S]; exact hd) at_
          unfold IpR
          obtain ⟨sx, hsx⟩ : ∃ sx, sx = S nm := ⟨_, rfl⟩
          rw [← hsx] at HTg HD HG hxm
          clear hc h hX hk hk0 h1 h47 hlk hd hsx hxm
          go_enter Try.func52, Try.ntmps52
          go_wp2_with (first
            | (go_at_call 34; refine HL.mono ?_; rintro e w1 ⟨rfl, hc1, hk1⟩; have hg1 := HG.out _ hk1; obtain ⟨c0, c1, c47, hgl⟩ := hg1; have hs1 := HS.out.kp hk1))
          go_region_held (fun w' => w'.cell? ⟨g, o + 1, none⟩ = some (.string sx) ∧ w'.cell? ⟨g, o + 47, none⟩ = some (.int .i64 at_)) (go_keep) (first
            | (go_at_call 64; refine (HTg _ (hs1.below belD) _ _).mono ?_; rintro e w2 ⟨rfl, hw⟩; have hw2 := hw.symm; subst hw2))
          all_goals go_wp2
          all_goals go_region_with (first
            | (go_at_call 65; refine (HD _ ((hs1.below belD).below belD)).mono ?_; rintro e w3 ⟨rfl, hb3⟩; go_loud (have hB1 : Kz cb nb db w w1 := Kz.of1 hk1; have hB3 : Kz cb nb db w1 w3 := Kz.of (bel (bel belD belD) hb3); refine sDead ⟨rfl, rfl, hB1.trans hB3⟩ w ?_)))
          all_goals trivial
        | none =>
          rw [hd] at hq
          simp only at hq
          cases hv : vM ((f, (nm, 2) :: d) :: fs) F (.ex ((x.drop 23).take 6)) (k + 1) with
          | none => rw [hv] at hq; cases hq
          | some k1 =>
            rw [hv] at hq
            injection hq with hq
            subst hq
            have HD := fun w' (hs : Sc w' cb sb nb db f d fs p) => sDriveY hs (S nm) hxm 2 (by rw [L_S]; exact hlk) (by rw [L_S]; exact hd) (by omega) at_
            rw [L_S] at HD
            have HV := fun w' (hs : Sc w' cb sb nb db f ((nm, 2) :: d) fs p) (hc : Cb cb mb (k + 1) w') (hx : Xa w' cb g (o + 23) ((x.drop 23).take 6) ((vs.drop 23).take 6)) => sValue hv hc hs hx
            unfold IpR
            obtain ⟨sx, hsx⟩ : ∃ sx, sx = S nm := ⟨_, rfl⟩
            rw [← hsx] at HTg HD HG hxm
            clear hc h hX hk hk0 h1 h47 hlk hd hsx hxm hv
            go_enter Try.func52, Try.ntmps52
            go_wp2_with (first
              | (go_at_call 34; refine HL.mono ?_; rintro e w1 ⟨rfl, hc1, hk1⟩; have hg1 := HG.out _ hk1; obtain ⟨c0, c1, c47, hgl⟩ := hg1; have hs1 := HS.out.kp hk1))
            go_region_held (fun w' => w'.cell? ⟨g, o + 1, none⟩ = some (.string sx) ∧ w'.cell? ⟨g, o + 47, none⟩ = some (.int .i64 at_)) (go_keep) (first
              | (go_at_call 64; refine (HTg _ (hs1.below belD) _ _).mono ?_; rintro e w2 ⟨rfl, hw⟩; have hw2 := hw.symm; subst hw2))
            all_goals go_wp2
            all_goals go_region_with (first
              | (go_at_call 65; refine (HD _ ((hs1.below belD).below belD)).mono ?_; rintro e w3 ⟨rfl, hs3, hk3⟩))
            all_goals
              have hK3 : Kp db w1 w3 := (Kp.refl db w1).drew.drew.trans hk3
              have hc3 := hc1.keep (hK3.block cb (heap_lt hc1) (by omega))
              have hz3 : Kz cb nb db w w3 := (Kz.of1 hk1).trans (Kz.of3 hK3)
              have hx3 := (HX.out.kz hz3 (by omega) (by omega)).sub 23 6
            all_goals go_wp2_with (first
              | (go_at_call 66; refine (HV _ hs3 hc3 hx3).mono ?_; rintro e w4 ⟨rfl, hc4, hk4⟩))
            all_goals
              go_end0
              exact ⟨rfl, hc4, hs3.kp hk4, hz3.trans (Kz.of1 hk4)⟩
      · cases hq
end Go.Proofs.Ytpnhefjiobnelaa

/- Layer 7 of the program: items of a scope, one by one; fors. -/
namespace Go.Proofs.Ytpnhefjiobnelaa
open Go.RowKit Lg Rp Go.Maps
set_option linter.unusedVariables false
set_option linter.unusedSimpArgs false

abbrev ALt := List Dc → Asc → Asc → List (Asc × Asc) → Nat → Rs
def ItC (AL : ALt) (cb mb F : Nat) : Prop := ∀ sb nb db g o f d fs p k x vs r w, iM AL F (.it x) f d fs k = some r → Cb cb mb k w → Sc w cb sb nb db f d fs p → Xa w cb g o x vs →
  Calls Try.prog 52 #[.pointer (some ⟨cb, 0, none⟩), .pointer (some ⟨sb, 0, none⟩), .pointer (some ⟨g, o, none⟩)] w fun e w' => IpR cb mb sb nb db f fs p w r e w'
def AlC (AL : ALt) (cb mb : Nat) : Prop := ∀ sb nb db g o f d fs p k x vs r w, gI x 0 = some 5 → AL x f d fs k = some r → Cb cb mb k w → Sc w cb sb nb db f d fs p → Xa w cb g o x vs →
  Calls Try.prog 67 #[.pointer (some ⟨cb, 0, none⟩), .pointer (some ⟨sb, 0, none⟩), .pointer (some ⟨g, o, none⟩)] w fun e w' => IpR cb mb sb nb db f fs p w r e w'
theorem nL_step {F n i k k1 : Nat} {l : List Dc} {f f1 : Asc} (h : nL (F + 1) n i l f k = some (f1, k1)) : (i = n ∧ f1 = f ∧ k1 = k) ∨ (i ≠ n ∧ ∃ at_ f2 k2, gI (chk 48 l i) 47 = some at_ ∧ nmI (chk 48 l i) f k = some (f2, k2) ∧ nL F n (i + 1) l f2 k2 = some (f1, k1)) := by
  rw [nL] at h
  split at h
  · rename_i hi; injection h with h; injection h with e1 e2; exact Or.inl ⟨hi, e1.symm, e2.symm⟩
  · rename_i hi
    cases h1 : gI (chk 48 l i) 47 with
    | none => rw [h1] at h; cases h
    | some at_ =>
      cases h2 : nmI (chk 48 l i) f k with
      | none => rw [h1, h2] at h; cases h
      | some r => obtain ⟨f2, k2⟩ := r; rw [h1, h2] at h; exact Or.inr ⟨hi, at_, f2, k2, rfl, rfl, h⟩
theorem iM_its {AL : ALt} {F n i k : Nat} {l : List Dc} {f d : Asc} {fs : List (Asc × Asc)} {r : Sum (Int × Int) (Nat × Asc)} (h : iM AL (F + 1) (.its n i l) f d fs k = some r) :
    (i = n ∧ r = .inr (k, d)) ∨ (i ≠ n ∧ ((∃ k1 d1, iM AL F (.it (chk 48 l i)) f d fs k = some (.inr (k1, d1)) ∧ iM AL F (.its n (i + 1) l) f d1 fs k1 = some r) ∨ (∃ q, iM AL F (.it (chk 48 l i)) f d fs k = some (.inl q) ∧ r = .inl q))) := by
  rw [iM] at h
  split at h
  · rename_i hi; injection h with h; exact Or.inl ⟨hi, h.symm⟩
  · rename_i hi
    right
    refine ⟨hi, ?_⟩
    cases h1 : iM AL F (.it (chk 48 l i)) f d fs k with
    | none => rw [h1] at h; cases h
    | some r1 =>
      rw [h1] at h
      cases r1 with
      | inr a => obtain ⟨k1, d1⟩ := a; exact Or.inl ⟨k1, d1, rfl, h⟩
      | inl q => simp only at h; injection h with h; exact Or.inr ⟨q, rfl, h.symm⟩
set_option maxRecDepth 100000 in
set_option maxHeartbeats 8000000 in
theorem sItems {AL : ALt} {cb mb F F1 : Nat} (IH0 : ∀ F', F' ≤ F → ItC AL cb mb F') {sb nb db n k0 k1 cp : Nat} {ao : Option Addr} {f0 f d : Asc} {fs : List (Asc × Asc)} {p : Option Addr} {l : List Dc} {r : Sum (Int × Int) (Nat × Asc)} {w : World} (hn1 : nL F1 n 0 l f0 k0 = some (f, k1)) (hq : iM AL F (.its n 0 l) f d fs k1 = some r) (hn2 : n ≤ 100000) (hc : Cb cb mb k0 w) (h : Sc w cb sb nb db f0 d fs p) (hkid : n = 0 ∨ ∃ gk us, ao = some ⟨gk, 0, none⟩ ∧ n ≤ cp ∧ Xa w cb gk 0 l us) :
    Calls Try.prog 39 #[.pointer (some ⟨cb, 0, none⟩), .pointer (some ⟨sb, 0, none⟩), .slice ao n cp] w fun e w' => IpR cb mb sb nb db f fs p w r e w' := by
  have hlo := h.lo
  have hl1 := h.l1
  have hcb := heap_lt hc
  have HKID : Hid _ := hkid
  have HQ : Hid _ := hq
  have HQ1 : Hid _ := hn1
  have HC : Hid _ := hc
  have HSc : Hid _ := h
  have IH : Hid _ := IH0
  have hw1 : ∀ i : Nat, i ≤ 100000 → IntKind.i64.wrap ((i : Int) + 1) = ((i + 1 : Nat) : Int) := fun i hi => by rw [IntKind.wrap_i64]; omega
  have HSub : Hid (∀ w' i, Kz cb nb db w w' → i < n → ∃ gk vs, ao = some ⟨gk, 0, none⟩ ∧ n ≤ cp ∧ Xa w' cb gk (i * 48) (chk 48 l i) vs) := by
    intro w' i hz hi
    rcases hkid with h0 | ⟨gk, us, rfl, hcp, hX⟩
    · omega
    · have hX2 := hX.kz hz (by omega) (by omega)
      refine ⟨gk, chk 48 us i, rfl, hcp, ⟨?_, hX2.hg, hX2.hl, hX2.d.chk 48 i⟩⟩
      have := hX2.cs.chk 48 i
      rwa [Nat.zero_add] at this
  clear hkid hq hn1 hc h IH0
  go_enter Try.func39, Try.ntmps39
  go_wp2
  go_loopw [10] (fun v wr => ∃ (F' i kz : Nat) (a : Asc), i ≤ n ∧ v = .int .i64 i ∧ Hid (nL F' n i l a kz = some (f, k1)) ∧ Hid (Cb cb mb kz wr) ∧ Hid (Sc wr cb sb nb db a d fs p) ∧ Hid (Kz cb nb db w wr)) (fun v _ => n - (intOf v).toNat)
  case atStart => exact ⟨F1, 0, k0, f0, Nat.zero_le _, rfl, HQ1, HC, HSc, Kz.refl _ _ _ _⟩
  case round =>
    obtain ⟨F', i, kz, a, hi, rfl, HQ2, HCB, HS2, HKZ⟩ := hrel
    have hnI : (n : Int) ≤ 100000 := by omega
    cases F' with
    | zero => have := HQ2.out; rw [nL] at this; cases this
    | succ F' =>
      rcases nL_step HQ2.out with ⟨rfl, rfl, rfl⟩ | ⟨hne, at_, f2, k2, ha, hni, hrest⟩
      · go_wp2
        go_loopw [22] (fun v wr2 => ∃ (F2 i2 kz2 : Nat) (dd : Asc), F2 ≤ F ∧ i2 ≤ i ∧ v = .int .i64 i2 ∧ Hid (iM AL F2 (.its i i2 l) f dd fs kz2 = some r) ∧ Hid (Cb cb mb kz2 wr2) ∧ Hid (Sc wr2 cb sb nb db f dd fs p) ∧ Hid (Kz cb nb db w wr2)) (fun v _ => i - (intOf v).toNat)
        case atStart => exact ⟨F, 0, k1, d, Nat.le_refl _, Nat.zero_le _, rfl, HQ, HCB, HS2, HKZ⟩
        case round =>
          obtain ⟨F2, i2, kz2, dd, hF2, hi2, rfl, HQ3, HCB3, HS3, HKZ3⟩ := hrel
          cases F2 with
          | zero => have := HQ3.out; rw [iM] at this; cases this
          | succ F2 =>
            rcases iM_its HQ3.out with ⟨rfl, rfl⟩ | ⟨hne, hways⟩
            · go_wp2
              go_end0
              exact ⟨rfl, HCB3.out, HS3.out, HKZ3.out⟩
            · have hlt : i2 < i := by omega
              have hltI : (i2 : Int) < (i : Int) := by omega
              obtain ⟨gk, vs, rfl, hcp, hX⟩ := HSub.out _ i2 HKZ3.out hlt
              have hgk := hX.hl
              have hww := hw1 i2 (by omega)
              rcases hways with ⟨k3, d3, hit, hrest⟩ | ⟨⟨q1, q2⟩, hit, rfl⟩
              · have HR := IH.out F2 (by omega) _ _ _ _ _ _ _ _ _ _ _ _ _ _ hit HCB3.out HS3.out hX
                unfold IpR at HR
                have HNX : Hid _ := hrest
                clear hX hit hrest
                go_wp2_with (first
                  | (go_at_call 52; refine HR.mono ?_; rintro e w5 ⟨rfl, hc5, hs5, hk5⟩))
                go_roundw
                case rel => exact ⟨F2, i2 + 1, k3, d3, by omega, by omega, by go_num, HNX.out, hc5, hs5, HKZ3.out.trans hk5⟩
                case measure => simp [intOf]; omega
              · have HR := IH.out F2 (by omega) _ _ _ _ _ _ _ _ _ _ _ _ _ _ hit HCB3.out HS3.out hX
                unfold IpR at HR
                clear hX hit
                go_wp2_with (first
                  | (go_at_call 52; refine HR.mono ?_; rintro e w5 ⟨rfl, hb5⟩))
                exact ⟨rfl, rfl, HKZ3.out.trans hb5⟩
      · have hlt : i < n := by omega
        have hltI : (i : Int) < (n : Int) := by omega
        obtain ⟨gk, vs, rfl, hcp, hX⟩ := HSub.out _ i HKZ.out hlt
        have hgk := hX.hl
        have hww := hw1 i (by omega)
        have HR := sItemNames ha hni HCB.out HS2.out hX
        have HNX : Hid _ := hrest
        clear hX ha hni hrest
        go_wp2_with (first
          | (go_at_call 51; refine HR.mono ?_; rintro e w5 ⟨rfl, hc5, hs5, hk5⟩))
        go_roundw
        case rel => exact ⟨F', i + 1, k2, f2, by omega, by go_num, HNX.out, hc5, hs5, HKZ.out.trans hk5⟩
        case measure => simp [intOf]; omega
end Go.Proofs.Ytpnhefjiobnelaa

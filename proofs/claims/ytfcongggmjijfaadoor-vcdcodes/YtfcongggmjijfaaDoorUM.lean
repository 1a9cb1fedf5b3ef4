/- Layer 19 of the program: codes in their map; a value is read. -/
import Derived.Test.YtfcongggmjijfaaDoorUL
namespace Go.Proofs.YtfcongggmjijfaaDoor
set_option maxRecDepth 100000
open Go.RowKit Lg Nl Go.Maps Wf Vd
set_option linter.unusedVariables false
set_option linter.unusedSimpArgs false

/-- codes with their nets -/
abbrev Cds := List (List UInt8 × Int)
def cdL (a : Cds) (x : List UInt8) : Option Int := match a with
  | [] => none
  | (y, v) :: r => if x = y then some v else cdL r x
theorem cZero (w : World) : (zeroValue 3).run Tryd.prog w = .ok (.int .i64 0) w := by kernel_rfl
theorem cKey {s : ByteArray} (h : s.size ≤ maxLen) : keyOf Tryd.prog 9 (.string s) = some (.string (L s)) := Go.WideMaps.keyOf_string_mk Tryd.underlying9 h
theorem cStr (x : List UInt8) : WideAt.IsKeyLit (.string x) := by simp [WideAt.IsKeyLit]
theorem cLaw : Keyed Tryd.prog 9 := string_keyed Tryd.underlying9
def cMp (mb n : Nat) (D : DataW Unit) (w : World) : Prop := w.ownsMap Tryd.prog 9 (plainElem Tryd.prog 3) mb n D
def cNm (D : DataW Unit) (f : List UInt8 → Option Int) : Prop :=
  IsMap D ∧ ∀ x : List UInt8, (f x = none → Maps.has D (.string x) = false) ∧ (∀ n, f x = some n → Maps.has D (.string x) = true ∧ ∀ z, D.atKey (.string x) z = .lit (.int .i64 n))
theorem cNm_put {D : DataW Unit} {a : Cds} (h : cNm D (cdL a)) (x : List UInt8) (n : Int) : cNm (D.put (.string x) (.lit (.int .i64 n))) (cdL ((x, n) :: a)) := by
  refine ⟨h.1.put _ _, fun y => ?_⟩
  by_cases e : y = x
  · subst e
    have e2 : cdL ((y, n) :: a) y = some n := by show (if y = y then some n else _) = _; rw [if_pos rfl]
    rw [e2]
    refine ⟨(fun h => by cases h), fun m hm => ?_⟩
    injection hm with hm
    subst hm
    exact ⟨has_put_same h.1 (cStr _) _, fun z => atKey_put_same h.1 (cStr _) _ _⟩
  · have e2 : cdL ((x, n) :: a) y = cdL a y := by show (if y = x then some n else _) = _; rw [if_neg e]
    have hne : (Lit.string y) ≠ Lit.string x := fun h => e (by injection h)
    rw [e2, has_put_other hne]
    refine ⟨(h.2 y).1, fun m hm => ?_⟩
    obtain ⟨a1, a2⟩ := (h.2 y).2 m hm
    exact ⟨a1, fun z => by rw [atKey_put_other hne]; exact a2 z⟩
/-- codes in a map's block -/
structure Mc (mb : Nat) (a : Cds) (w : World) : Prop where
  ex : ∃ D, cMp mb a.length D w ∧ cNm D (cdL a)
theorem Mc.lt {mb : Nat} {a : Cds} {w : World} (h : Mc mb a w) : mb < w.heap.size := by obtain ⟨D, h1, _⟩ := h.ex; exact World.ownsMap.lt h1
theorem Mc.keep {mb : Nat} {a : Cds} {w w' : World} (h : Mc mb a w) (hb : w'.heap[mb]? = w.heap[mb]?) : Mc mb a w' := by
  obtain ⟨D, ⟨es, clock, h1, h2⟩, h3⟩ := h.ex
  exact ⟨⟨D, ⟨es, clock, hb.trans h1, h2⟩, h3⟩⟩
set_option maxRecDepth 100000 in
theorem cLook {mb : Nat} {a : Cds} {w : World} (h : Mc mb a w) (x : ByteArray) (hx : x.size ≤ maxLen) : (Instr.lookup 65 (.map (some mb)) (.string x) true).run Tryd.prog w = .ok (.tuple #[.int .i64 ((cdL a (L x)).getD 0), .bool (cdL a (L x)).isSome]) w := by
  obtain ⟨D, hm, hf⟩ := h.ex
  obtain ⟨v, ps, hrun, hv⟩ := World.ownsMap.look_ok hm cLaw Tryd.underlying65 (cZero w) (plainElem_int Tryd.underlying3 (by decide)) (cKey hx)
  obtain ⟨c, rfl, hc, _⟩ := plainElem_int_inv Tryd.underlying3 hv
  have hc1 := congrArg Prod.fst hc
  simp only at hc1
  cases hk : cdL a (L x) with
  | none =>
    have hh := (hf.2 (L x)).1 hk
    rw [atKey_of_not_has hh] at hc1
    injection hc1 with h1
    injection h1 with _ h1
    rw [hrun, ← h1, hh]; rfl
  | some n =>
    have hh := ((hf.2 (L x)).2 n hk)
    rw [hh.2] at hc1
    injection hc1 with h1
    injection h1 with _ h1
    rw [hrun, ← h1, hh.1]; rfl
/-- what a value's line is cut in: its value, its code -/
def vcM (x : UInt8) (r : List UInt8) : List UInt8 × List UInt8 := if x = 98 then (match cutO 32 r with | some p => p | none => (r, [])) else ([x], r)
def valM (a : Cds) : List UInt8 → Option (Int × List UInt8)
  | [] => none
  | x :: r => (cdL a (vcM x r).2).map fun n => (n, (vcM x r).1)
def RvQ (w : World) (q : Option (Int × List UInt8)) (e : Ending) (w' : World) : Prop := Below w.heap.size w w' ∧ match q with
  | some (n, v) => e = .returned (.tuple #[.int .i64 n, .string (S v)])
  | none => e = .panicked pnV
theorem RvQ.yes {w w' : World} {q : Option (Int × List UInt8)} {n : Int} {v : List UInt8} (hq : q = some (n, v)) (hk : Below w.heap.size w w') : RvQ w q (.returned (.tuple #[.int .i64 n, .string (S v)])) w' := by
  subst hq; exact ⟨hk, rfl⟩
theorem RvQ.no {w w' : World} {q : Option (Int × List UInt8)} (hq : q = none) (hk : Below w.heap.size w w') : RvQ w q (.panicked pnV) w' := by
  subst hq; exact ⟨hk, rfl⟩
theorem head_S (x : UInt8) (r : List UInt8) : (S (x :: r)).extract 0 1 = S [x] ∧ (S (x :: r)).extract 1 (S (x :: r)).size = S r := by
  refine ⟨L_inj ?_, L_inj ?_⟩
  · rw [L_extract, L_S, L_S]; rfl
  · rw [L_extract, L_S, L_S, size_S, List.length_cons]
    show (List.drop 1 (x :: r)).take _ = r
    rw [List.drop_one, List.tail_cons, List.take_of_length_le (by omega)]
set_option maxHeartbeats 2000000 in
set_option maxRecDepth 100000 in
theorem rvalue_c (R mb : Nat) (a : Cds) (s : ByteArray) (v2 v3 v4 v5 : Value) (t : List UInt8) (w : World) (h : w.heap[R]? = some (.cells #[.string s, .map (some mb), v2, v3, v4, v5] 67 (0, 0))) (hm : Mc mb a w) (ht : t.length ≤ 4294967280) :
    Calls Tryd.prog 45 #[.pointer (some ⟨R, 0, none⟩), .string (S t)] w fun e w' => RvQ w (valM a t) e w' := by
  cases t with
  | nil =>
    go_enter Tryd.func45, Tryd.ntmps45
    have e0 : (S []).toList.isEmpty = true := by rw [toL, L_S]; rfl
    go_wp2_with fail
    exact ⟨rfl, RvQ.no rfl (Below.refl _ _)⟩
  | cons x r =>
    have HH := hidV h
    have HMc := hidV hm
    have HT : Hid (r.length ≤ 4294967279) := by rw [List.length_cons] at ht; show _ ≤ _; omega
    obtain ⟨e1, e2⟩ := head_S x r
    have hz : (S (x :: r)).size = r.length + 1 := by rw [size_S, List.length_cons]
    have c1 : (1 : Int) ≤ ((S (x :: r)).size : Int) := by omega
    have HV : Hid (valM a (x :: r) = (cdL a (vcM x r).2).map fun n => (n, (vcM x r).1)) := rfl
    have e0 : (S (x :: r)).toList.isEmpty = false := by rw [toL, L_S]; rfl
    have HSn : Hid (L (S [x]) = [x] ∧ L (S r) = r) := ⟨L_S _, L_S _⟩
    have mixed : Tryd.prog.follows .mixedOrders = true := by kernel_rfl
    have HVc : Hid (vcM x r = if x = 98 then (match cutO 32 r with | some p => p | none => (r, [])) else ([x], r)) := rfl
    obtain ⟨q, hq⟩ : ∃ q, q = valM a (x :: r) := ⟨_, rfl⟩
    rw [← hq]
    have HQ : Hid (q = (cdL a (vcM x r).2).map fun n => (n, (vcM x r).1)) := hq
    clear HV hq hz h hm ht
    generalize S (x :: r) = sx at *
    have HLk : Hid (∀ (W : World) (y : ByteArray), W.heap[mb]? = w.heap[mb]? → y.size ≤ maxLen → (Instr.lookup 65 (.map (some mb)) (.string y) true).run Tryd.prog W = .ok (.tuple #[.int .i64 ((cdL a (L y)).getD 0), .bool (cdL a (L y)).isSome]) W) := fun W y hW hy => cLook (HMc.out.keep hW) y hy
    go_enter Tryd.func45, Tryd.ntmps45
    go_upto_region 3 with fail
    go_region_o
    by_cases hx : x = 98
    · have hx' : ((S [x]).toList == [98]) = true := by rw [beq_iff_eq, toL, L_S, hx]
      generalize S [x] = q1 at *
      cases hcut : cutO 32 r with
      | none =>
        have HCt := hidV (fun W => cut_no (S r) 32 W (by rw [L_S]; exact cutO_none hcut))
        obtain ⟨vl, hvl⟩ : ∃ v, v = r := ⟨_, rfl⟩
        obtain ⟨cl, hcl⟩ : ∃ c : List UInt8, c = [] := ⟨_, rfl⟩
        have HQ2 : Hid (q = (cdL a cl).map fun n => (n, vl)) := by show _ = _; rw [HQ.out, HVc.out, if_pos hx, hcut, hcl, hvl]
        have HLc : Hid (L (⟨#[]⟩ : ByteArray) = cl) := by show _ = _; rw [hcl]; rfl
        have HSz : Hid ((⟨#[]⟩ : ByteArray).size ≤ 4294967280) := by show (0 : Nat) ≤ _; decide
        have HVq : Hid (S r = S vl) := by show _ = _; rw [hvl]
        clear hcut hvl hcl hx HQ HVc
        generalize S r = q2 at *
        go_upto_region 6 with (first
          | (go_at_call 53; refine (HCt.out _).mono ?_; rintro e w1 ⟨rfl, n, rfl⟩))
        clear HCt hx'
        have hrun := HLk.out (w.drewN (1 + n)) ⟨#[]⟩ rfl (by have := HSz.out; show _ ≤ _; first | (unfold maxLen; omega) | omega)
        rw [HLc.out] at hrun
        have b1 : w.cell? ⟨R, 1, none⟩ = some (.map (some mb)) := by rw [Lib.cell_of_heap HH.out]; rfl
        cases hk : cdL a cl with
        | none =>
          rw [hk] at hrun
          replace hrun : (Instr.lookup 65 (.map (some mb)) (.string ⟨#[]⟩) true).run Tryd.prog (w.drewN (1 + n)) = .ok (.tuple #[.int .i64 0, .bool false]) (w.drewN (1 + n)) := hrun
          have HY : Hid (q = none) := by show q = none; rw [HQ2.out, hk]; rfl
          clear hk
          go_wp2_with fail
          exact ⟨rfl, RvQ.no HY.out (bdn (Below.refl _ _) _)⟩
        | some m =>
          rw [hk] at hrun
          replace hrun : (Instr.lookup 65 (.map (some mb)) (.string ⟨#[]⟩) true).run Tryd.prog (w.drewN (1 + n)) = .ok (.tuple #[.int .i64 m, .bool true]) (w.drewN (1 + n)) := hrun
          have HY : Hid (q = some (m, vl)) := by show q = _; rw [HQ2.out, hk]; rfl
          clear hk
          go_wp2_with fail
          go_ret2
          rw [HVq.out]
          exact RvQ.yes HY.out (bdn (Below.refl _ _) _)
      | some p =>
        obtain ⟨vl, cl⟩ := p
        have HCt := hidV (fun W => cut_ok (S r) 32 vl cl W (by rw [L_S]; exact (cutO_inv hcut).1) (cutO_inv hcut).2 (by rw [size_S]; exact Nat.le_succ_of_le HT.out))
        have HQ2 : Hid (q = (cdL a cl).map fun n => (n, vl)) := by show _ = _; rw [HQ.out, HVc.out, if_pos hx, hcut]
        have HLc : Hid (L (S cl) = cl) := L_S _
        have HSz : Hid ((S cl).size ≤ 4294967280) := by show _ ≤ _; rw [size_S]; have h := (cutO_inv hcut).1; have h2 := HT.out; rw [h, List.length_append, List.length_cons] at h2; omega
        obtain ⟨qv, hqv⟩ : ∃ q, q = S vl := ⟨_, rfl⟩
        rw [← hqv] at HCt
        have HVq : Hid (qv = S vl) := hqv
        clear hcut hx HQ HVc hqv
        generalize S r = q2 at *
        generalize S cl = qc at *
        go_upto_region 6 with (first
          | (go_at_call 53; refine (HCt.out _).mono ?_; rintro e w1 ⟨rfl, n, rfl⟩))
        clear HCt hx'
        have hrun := HLk.out (w.drewN (1 + n)) qc rfl (by have := HSz.out; show _ ≤ _; first | (unfold maxLen; omega) | omega)
        rw [HLc.out] at hrun
        have b1 : w.cell? ⟨R, 1, none⟩ = some (.map (some mb)) := by rw [Lib.cell_of_heap HH.out]; rfl
        cases hk : cdL a cl with
        | none =>
          rw [hk] at hrun
          replace hrun : (Instr.lookup 65 (.map (some mb)) (.string qc) true).run Tryd.prog (w.drewN (1 + n)) = .ok (.tuple #[.int .i64 0, .bool false]) (w.drewN (1 + n)) := hrun
          have HY : Hid (q = none) := by show q = none; rw [HQ2.out, hk]; rfl
          clear hk
          go_wp2_with fail
          exact ⟨rfl, RvQ.no HY.out (bdn (Below.refl _ _) _)⟩
        | some m =>
          rw [hk] at hrun
          replace hrun : (Instr.lookup 65 (.map (some mb)) (.string qc) true).run Tryd.prog (w.drewN (1 + n)) = .ok (.tuple #[.int .i64 m, .bool true]) (w.drewN (1 + n)) := hrun
          have HY : Hid (q = some (m, vl)) := by show q = _; rw [HQ2.out, hk]; rfl
          clear hk
          go_wp2_with fail
          go_ret2
          rw [HVq.out]
          exact RvQ.yes HY.out (bdn (Below.refl _ _) _)
    · have hx' : ((S [x]).toList == [98]) = false := by rw [beq_eq_false_iff_ne, toL, L_S]; intro e; injection e with e _; exact hx e
      obtain ⟨vl, hvl⟩ : ∃ v, v = [x] := ⟨_, rfl⟩
      obtain ⟨cl, hcl⟩ : ∃ c, c = r := ⟨_, rfl⟩
      have HQ2 : Hid (q = (cdL a cl).map fun n => (n, vl)) := by show _ = _; rw [HQ.out, HVc.out, if_neg hx, hcl, hvl]
      have HLc : Hid (L (S r) = cl) := by show _ = _; rw [L_S, hcl]
      have HSz : Hid ((S r).size ≤ 4294967280) := by show _ ≤ _; rw [size_S]; have h2 := HT.out; omega
      have HVq : Hid (S [x] = S vl) := by show _ = _; rw [hvl]
      clear hvl hcl hx HQ HVc
      generalize S [x] = q1 at *
      generalize S r = q2 at *
      go_upto_region 6 with fail
      clear hx'
      have hrun := HLk.out w.drew q2 rfl (by have := HSz.out; show _ ≤ _; first | (unfold maxLen; omega) | omega)
      rw [HLc.out] at hrun
      have b1 : w.cell? ⟨R, 1, none⟩ = some (.map (some mb)) := by rw [Lib.cell_of_heap HH.out]; rfl
      cases hk : cdL a cl with
      | none =>
        rw [hk] at hrun
        replace hrun : (Instr.lookup 65 (.map (some mb)) (.string q2) true).run Tryd.prog w.drew = .ok (.tuple #[.int .i64 0, .bool false]) w.drew := hrun
        have HY : Hid (q = none) := by show q = none; rw [HQ2.out, hk]; rfl
        clear hk
        go_wp2_with fail
        exact ⟨rfl, RvQ.no HY.out (Below.drew (Below.refl _ _))⟩
      | some n =>
        rw [hk] at hrun
        replace hrun : (Instr.lookup 65 (.map (some mb)) (.string q2) true).run Tryd.prog w.drew = .ok (.tuple #[.int .i64 n, .bool true]) w.drew := hrun
        have HY : Hid (q = some (n, vl)) := by show q = _; rw [HQ2.out, hk]; rfl
        clear hk
        go_wp2_with fail
        go_ret2
        rw [HVq.out]
        exact RvQ.yes HY.out (Below.drew (Below.refl _ _))
end Go.Proofs.YtfcongggmjijfaaDoor

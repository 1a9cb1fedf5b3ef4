/- Texts UM UN, joined: what each part says stands ahead of it. -/
import Derived.Test.YtodpljgajjcdoaaGreatDoorGUj
import Derived.Deep.RegionLaw
/- Layer 19 of the program: codes in their map; a value is read. -/
namespace Go.Proofs.YtodpljgajjcdoaaGreatDoor
set_option maxRecDepth 100000
open Go.RowKit Lg Nl Go.Maps Wf Vd
set_option linter.unusedVariables false
set_option linter.unusedSimpArgs false

/-- codes with their nets -/
abbrev Cds := List (List UInt8 × Int)
def cdL (a : Cds) (x : List UInt8) : Option Int := match a with
  | [] => none
  | (y, v) :: r => if x = y then some v else cdL r x
theorem cZero (w : World) : (zeroValue 3).run Tryz.prog w = .ok (.int .i64 0) w := by kernel_rfl
theorem cKey {s : ByteArray} (h : s.size ≤ maxLen) : keyOf Tryz.prog 9 (.string s) = some (.string (L s)) := Go.WideMaps.keyOf_string_mk Tryz.underlying9 h
theorem cStr (x : List UInt8) : WideAt.IsKeyLit (.string x) := by simp [WideAt.IsKeyLit]
theorem cLaw : Keyed Tryz.prog 9 := string_keyed Tryz.underlying9
def cMp (mb n : Nat) (D : DataW Unit) (w : World) : Prop := w.ownsMap Tryz.prog 9 (plainElem Tryz.prog 3) mb n D
def cNm (D : DataW Unit) (f : List UInt8 → Option Int) : Prop :=
  IsMap D ∧ ∀ x : List UInt8, (f x = none → Maps.has D (.string x) = false) ∧ (∀ n, f x = some n → Maps.has D (.string x) = true ∧ ∀ z, D.atKey (.string x) z = .lit (.int .i64 n))
theorem cNm_put {D : DataW Unit} {a : Cds} (h : cNm D (cdL a)) (x : List UInt8) (n : Int) : cNm (D.put (.string x) (.lit (.int .i64 n))) (cdL ((x, n) :: a)) := by
  refine ⟨h.1.put _ _, fun y => ?_⟩
  by_cases e : y = x
  · subst e
    have e2 : cdL ((y, n) :: a) y = some n := by show (if y = y then some n else _) = _; rw [if_pos rfl]
    rw [e2]
    refine ⟨(fun h => by cases h), fun m hm => ?_⟩
    injection hm with hm
    subst hm
    exact ⟨has_put_same h.1 (cStr _) _, fun z => atKey_put_same h.1 (cStr _) _ _⟩
  · have e2 : cdL ((x, n) :: a) y = cdL a y := by show (if y = x then some n else _) = _; rw [if_neg e]
    have hne : (Lit.string y) ≠ Lit.string x := fun h => e (by injection h)
    rw [e2, has_put_other hne]
    refine ⟨(h.2 y).1, fun m hm => ?_⟩
    obtain ⟨a1, a2⟩ := (h.2 y).2 m hm
    exact ⟨a1, fun z => by rw [atKey_put_other hne]; exact a2 z⟩
/-- codes in a map's block -/
structure Mc (mb : Nat) (a : Cds) (w : World) : Prop where
  ex : ∃ D, cMp mb a.length D w ∧ cNm D (cdL a)
theorem Mc.lt {mb : Nat} {a : Cds} {w : World} (h : Mc mb a w) : mb < w.heap.size := by obtain ⟨D, h1, _⟩ := h.ex; exact World.ownsMap.lt h1
theorem Mc.keep {mb : Nat} {a : Cds} {w w' : World} (h : Mc mb a w) (hb : w'.heap[mb]? = w.heap[mb]?) : Mc mb a w' := by
  obtain ⟨D, ⟨es, clock, h1, h2⟩, h3⟩ := h.ex
  exact ⟨⟨D, ⟨es, clock, hb.trans h1, h2⟩, h3⟩⟩
set_option maxRecDepth 100000 in
theorem cLook {mb : Nat} {a : Cds} {w : World} (h : Mc mb a w) (x : ByteArray) (hx : x.size ≤ maxLen) : (Instr.lookup 53 (.map (some mb)) (.string x) true).run Tryz.prog w = .ok (.tuple #[.int .i64 ((cdL a (L x)).getD 0), .bool (cdL a (L x)).isSome]) w := by
  obtain ⟨D, hm, hf⟩ := h.ex
  obtain ⟨v, ps, hrun, hv⟩ := World.ownsMap.look_ok hm cLaw Tryz.underlying53 (cZero w) (plainElem_int Tryz.underlying3 (by decide)) (cKey hx)
  obtain ⟨c, rfl, hc, _⟩ := plainElem_int_inv Tryz.underlying3 hv
  have hc1 := congrArg Prod.fst hc
  simp only at hc1
  cases hk : cdL a (L x) with
  | none =>
    have hh := (hf.2 (L x)).1 hk
    rw [atKey_of_not_has hh] at hc1
    injection hc1 with h1
    injection h1 with _ h1
    rw [hrun, ← h1, hh]; rfl
  | some n =>
    have hh := ((hf.2 (L x)).2 n hk)
    rw [hh.2] at hc1
    injection hc1 with h1
    injection h1 with _ h1
    rw [hrun, ← h1, hh.1]; rfl
/-- what a value's line is cut in: its value, its code -/
def vcM (x : UInt8) (r : List UInt8) : List UInt8 × List UInt8 := if x = 98 then (match cutO 32 r with | some p => p | none => (r, [])) else ([x], r)
def valM (a : Cds) : List UInt8 → Option (Int × List UInt8)
  | [] => none
  | x :: r => (cdL a (vcM x r).2).map fun n => (n, (vcM x r).1)
def RvQ (w : World) (q : Option (Int × List UInt8)) (e : Ending) (w' : World) : Prop := Below w.heap.size w w' ∧ match q with
  | some (n, v) => e = .returned (.tuple #[.int .i64 n, .string (S v)])
  | none => e = .panicked pnV
theorem RvQ.yes {w w' : World} {q : Option (Int × List UInt8)} {n : Int} {v : List UInt8} (hq : q = some (n, v)) (hk : Below w.heap.size w w') : RvQ w q (.returned (.tuple #[.int .i64 n, .string (S v)])) w' := by
  subst hq; exact ⟨hk, rfl⟩
theorem RvQ.no {w w' : World} {q : Option (Int × List UInt8)} (hq : q = none) (hk : Below w.heap.size w w') : RvQ w q (.panicked pnV) w' := by
  subst hq; exact ⟨hk, rfl⟩
theorem head_S (x : UInt8) (r : List UInt8) : (S (x :: r)).extract 0 1 = S [x] ∧ (S (x :: r)).extract 1 (S (x :: r)).size = S r := by
  refine ⟨L_inj ?_, L_inj ?_⟩
  · rw [L_extract, L_S, L_S]; rfl
  · rw [L_extract, L_S, L_S, size_S, List.length_cons]
    show (List.drop 1 (x :: r)).take _ = r
    rw [List.drop_one, List.tail_cons, List.take_of_length_le (by omega)]
set_option maxHeartbeats 2000000 in
set_option maxRecDepth 100000 in
theorem rvalue_c (R mb : Nat) (a : Cds) (s : ByteArray) (v2 v3 v4 v5 : Value) (t : List UInt8) (w : World) (h : w.heap[R]? = some (.cells #[.string s, .map (some mb), v2, v3, v4, v5] 55 (0, 0))) (hm : Mc mb a w) (ht : t.length ≤ 4294967280) :
    Calls Tryz.prog 38 #[.pointer (some ⟨R, 0, none⟩), .string (S t)] w fun e w' => RvQ w (valM a t) e w' := by
  cases t with
  | nil =>
    go_enter Tryz.func38, Tryz.ntmps38
    have e0 : (S []).toList.isEmpty = true := by rw [toL, L_S]; rfl
    go_wp2_with fail
    exact ⟨rfl, RvQ.no rfl (Below.refl _ _)⟩
  | cons x r =>
    have HH := hidV h
    have HMc := hidV hm
    have HT : Hid (r.length ≤ 4294967279) := by rw [List.length_cons] at ht; show _ ≤ _; omega
    obtain ⟨e1, e2⟩ := head_S x r
    have hz : (S (x :: r)).size = r.length + 1 := by rw [size_S, List.length_cons]
    have c1 : (1 : Int) ≤ ((S (x :: r)).size : Int) := by omega
    have HV : Hid (valM a (x :: r) = (cdL a (vcM x r).2).map fun n => (n, (vcM x r).1)) := rfl
    have e0 : (S (x :: r)).toList.isEmpty = false := by rw [toL, L_S]; rfl
    have HSn : Hid (L (S [x]) = [x] ∧ L (S r) = r) := ⟨L_S _, L_S _⟩
    have mixed : Tryz.prog.follows .mixedOrders = true := by kernel_rfl
    have HVc : Hid (vcM x r = if x = 98 then (match cutO 32 r with | some p => p | none => (r, [])) else ([x], r)) := rfl
    obtain ⟨q, hq⟩ : ∃ q, q = valM a (x :: r) := ⟨_, rfl⟩
    rw [← hq]
    have HQ : Hid (q = (cdL a (vcM x r).2).map fun n => (n, (vcM x r).1)) := hq
    clear HV hq hz h hm ht
    generalize S (x :: r) = sx at *
    have HLk : Hid (∀ (W : World) (y : ByteArray), W.heap[mb]? = w.heap[mb]? → y.size ≤ maxLen → (Instr.lookup 53 (.map (some mb)) (.string y) true).run Tryz.prog W = .ok (.tuple #[.int .i64 ((cdL a (L y)).getD 0), .bool (cdL a (L y)).isSome]) W) := fun W y hW hy => cLook (HMc.out.keep hW) y hy
    go_enter Tryz.func38, Tryz.ntmps38
    go_upto_region 3 with fail
    go_region_o
    by_cases hx : x = 98
    · have hx' : ((S [x]).toList == [98]) = true := by rw [beq_iff_eq, toL, L_S, hx]
      generalize S [x] = q1 at *
      cases hcut : cutO 32 r with
      | none =>
        have HCt := hidV (fun W => cut_no (S r) 32 W (by rw [L_S]; exact cutO_none hcut))
        obtain ⟨vl, hvl⟩ : ∃ v, v = r := ⟨_, rfl⟩
        obtain ⟨cl, hcl⟩ : ∃ c : List UInt8, c = [] := ⟨_, rfl⟩
        have HQ2 : Hid (q = (cdL a cl).map fun n => (n, vl)) := by show _ = _; rw [HQ.out, HVc.out, if_pos hx, hcut, hcl, hvl]
        have HLc : Hid (L (⟨#[]⟩ : ByteArray) = cl) := by show _ = _; rw [hcl]; rfl
        have HSz : Hid ((⟨#[]⟩ : ByteArray).size ≤ 4294967280) := by show (0 : Nat) ≤ _; decide
        have HVq : Hid (S r = S vl) := by show _ = _; rw [hvl]
        clear hcut hvl hcl hx HQ HVc
        generalize S r = q2 at *
        go_upto_region 6 with (first
          | (go_at_call 53; refine (HCt.out _).mono ?_; rintro e w1 ⟨rfl, n, rfl⟩))
        clear HCt hx'
        have hrun := HLk.out (w.drewN (1 + n)) ⟨#[]⟩ rfl (by have := HSz.out; show _ ≤ _; first | (unfold maxLen; omega) | omega)
        rw [HLc.out] at hrun
        have b1 : w.cell? ⟨R, 1, none⟩ = some (.map (some mb)) := by rw [Lib.cell_of_heap HH.out]; rfl
        cases hk : cdL a cl with
        | none =>
          rw [hk] at hrun
          replace hrun : (Instr.lookup 53 (.map (some mb)) (.string ⟨#[]⟩) true).run Tryz.prog (w.drewN (1 + n)) = .ok (.tuple #[.int .i64 0, .bool false]) (w.drewN (1 + n)) := hrun
          have HY : Hid (q = none) := by show q = none; rw [HQ2.out, hk]; rfl
          clear hk
          go_wp2_with fail
          exact ⟨rfl, RvQ.no HY.out (bdn (Below.refl _ _) _)⟩
        | some m =>
          rw [hk] at hrun
          replace hrun : (Instr.lookup 53 (.map (some mb)) (.string ⟨#[]⟩) true).run Tryz.prog (w.drewN (1 + n)) = .ok (.tuple #[.int .i64 m, .bool true]) (w.drewN (1 + n)) := hrun
          have HY : Hid (q = some (m, vl)) := by show q = _; rw [HQ2.out, hk]; rfl
          clear hk
          go_wp2_with fail
          go_ret2
          rw [HVq.out]
          exact RvQ.yes HY.out (bdn (Below.refl _ _) _)
      | some p =>
        obtain ⟨vl, cl⟩ := p
        have HCt := hidV (fun W => cut_ok (S r) 32 vl cl W (by rw [L_S]; exact (cutO_inv hcut).1) (cutO_inv hcut).2 (by rw [size_S]; exact Nat.le_succ_of_le HT.out))
        have HQ2 : Hid (q = (cdL a cl).map fun n => (n, vl)) := by show _ = _; rw [HQ.out, HVc.out, if_pos hx, hcut]
        have HLc : Hid (L (S cl) = cl) := L_S _
        have HSz : Hid ((S cl).size ≤ 4294967280) := by show _ ≤ _; rw [size_S]; have h := (cutO_inv hcut).1; have h2 := HT.out; rw [h, List.length_append, List.length_cons] at h2; omega
        obtain ⟨qv, hqv⟩ : ∃ q, q = S vl := ⟨_, rfl⟩
        rw [← hqv] at HCt
        have HVq : Hid (qv = S vl) := hqv
        clear hcut hx HQ HVc hqv
        generalize S r = q2 at *
        generalize S cl = qc at *
        go_upto_region 6 with (first
          | (go_at_call 53; refine (HCt.out _).mono ?_; rintro e w1 ⟨rfl, n, rfl⟩))
        clear HCt hx'
        have hrun := HLk.out (w.drewN (1 + n)) qc rfl (by have := HSz.out; show _ ≤ _; first | (unfold maxLen; omega) | omega)
        rw [HLc.out] at hrun
        have b1 : w.cell? ⟨R, 1, none⟩ = some (.map (some mb)) := by rw [Lib.cell_of_heap HH.out]; rfl
        cases hk : cdL a cl with
        | none =>
          rw [hk] at hrun
          replace hrun : (Instr.lookup 53 (.map (some mb)) (.string qc) true).run Tryz.prog (w.drewN (1 + n)) = .ok (.tuple #[.int .i64 0, .bool false]) (w.drewN (1 + n)) := hrun
          have HY : Hid (q = none) := by show q = none; rw [HQ2.out, hk]; rfl
          clear hk
          go_wp2_with fail
          exact ⟨rfl, RvQ.no HY.out (bdn (Below.refl _ _) _)⟩
        | some m =>
          rw [hk] at hrun
          replace hrun : (Instr.lookup 53 (.map (some mb)) (.string qc) true).run Tryz.prog (w.drewN (1 + n)) = .ok (.tuple #[.int .i64 m, .bool true]) (w.drewN (1 + n)) := hrun
          have HY : Hid (q = some (m, vl)) := by show q = _; rw [HQ2.out, hk]; rfl
          clear hk
          go_wp2_with fail
          go_ret2
          rw [HVq.out]
          exact RvQ.yes HY.out (bdn (Below.refl _ _) _)
    · have hx' : ((S [x]).toList == [98]) = false := by rw [beq_eq_false_iff_ne, toL, L_S]; intro e; injection e with e _; exact hx e
      obtain ⟨vl, hvl⟩ : ∃ v, v = [x] := ⟨_, rfl⟩
      obtain ⟨cl, hcl⟩ : ∃ c, c = r := ⟨_, rfl⟩
      have HQ2 : Hid (q = (cdL a cl).map fun n => (n, vl)) := by show _ = _; rw [HQ.out, HVc.out, if_neg hx, hcl, hvl]
      have HLc : Hid (L (S r) = cl) := by show _ = _; rw [L_S, hcl]
      have HSz : Hid ((S r).size ≤ 4294967280) := by show _ ≤ _; rw [size_S]; have h2 := HT.out; omega
      have HVq : Hid (S [x] = S vl) := by show _ = _; rw [hvl]
      clear hvl hcl hx HQ HVc
      generalize S [x] = q1 at *
      generalize S r = q2 at *
      go_upto_region 6 with fail
      clear hx'
      have hrun := HLk.out w.drew q2 rfl (by have := HSz.out; show _ ≤ _; first | (unfold maxLen; omega) | omega)
      rw [HLc.out] at hrun
      have b1 : w.cell? ⟨R, 1, none⟩ = some (.map (some mb)) := by rw [Lib.cell_of_heap HH.out]; rfl
      cases hk : cdL a cl with
      | none =>
        rw [hk] at hrun
        replace hrun : (Instr.lookup 53 (.map (some mb)) (.string q2) true).run Tryz.prog w.drew = .ok (.tuple #[.int .i64 0, .bool false]) w.drew := hrun
        have HY : Hid (q = none) := by show q = none; rw [HQ2.out, hk]; rfl
        clear hk
        go_wp2_with fail
        exact ⟨rfl, RvQ.no HY.out (Below.drew (Below.refl _ _))⟩
      | some n =>
        rw [hk] at hrun
        replace hrun : (Instr.lookup 53 (.map (some mb)) (.string q2) true).run Tryz.prog w.drew = .ok (.tuple #[.int .i64 n, .bool true]) w.drew := hrun
        have HY : Hid (q = some (n, vl)) := by show q = _; rw [HQ2.out, hk]; rfl
        clear hk
        go_wp2_with fail
        go_ret2
        rw [HVq.out]
        exact RvQ.yes HY.out (Below.drew (Below.refl _ _))
end Go.Proofs.YtodpljgajjcdoaaGreatDoor

/- Layer 19 of the program: a net's line is read. -/
namespace Go.Proofs.YtodpljgajjcdoaaGreatDoor
set_option maxRecDepth 100000
open Go.RowKit Lg Nl Go.Maps Wf Vd
set_option linter.unusedVariables false
set_option linter.unusedSimpArgs false

/-- what a text tells that is no number -/
def NumF (w : World) : Prop := ∀ (W : World) (s : ByteArray), Below w.heap.size w W → s.size ≤ 4294967280 → numA (L s) = none → Calls Tryz.prog 40 #[.string s] W fun e w' => e = .panicked pnV ∧ Below W.heap.size W w'
/-- a name as it is read -/
def unN (n : List UInt8) : List UInt8 := if n = [95] then [] else n
def netM (t : List UInt8) : Option (List UInt8 × List UInt8 × Int) := match spl 32 t with
  | [_, _, wd, cd, nm, _] => (numA wd).map fun v => (cd, unN nm, v)
  | _ => none
theorem Mc.put {mb : Nat} {a : Cds} {w : World} (h : Mc mb a w) (x : ByteArray) (hx : x.size ≤ maxLen) (k : Nat) (hk : k ≤ 4294967280) (ha : a.length ≤ 4294967280) :
    ∃ w', (Instr.mapUpdate 53 (.map (some mb)) (.string x) (.int .i64 k)).run Tryz.prog w = .ok () w' ∧ Mc mb ((L x, (k : Int)) :: a) w' ∧ w.grownBy w' (some mb) := by
  obtain ⟨D, hm, hf⟩ := h.ex
  obtain ⟨w', hr, ho, hg⟩ := World.ownsMap.update hm cLaw Tryz.underlying53 (by unfold maxLen; omega) (cKey hx) (plainElem_int Tryz.underlying3 (WalkArith.wf_i64 (n := (k : Int)) (by omega)))
  exact ⟨w', hr, ⟨⟨_, ho, cNm_put hf _ _⟩⟩, hg⟩
/-- the reader while nets are told -/
structure N1 (B R mb : Nat) (w : World) (s : ByteArray) (a : Cds) (nm : List ByteArray) (wd : List Int) : Prop where
  bx : ∃ (an : Option Addr) (cn : Nat) (aw : Option Addr) (cw : Nat), w.heap[R]? = some (.cells #[.string s, .map (some mb), .slice an nm.length cn, .slice aw wd.length cw, .slice none 0 0, .slice none 0 0] 55 (0, 0)) ∧ w.ownsRow B 9 1 (.slice an nm.length cn) nm.length (sC nm) ∧ w.ownsRow B 3 1 (.slice aw wd.length cw) wd.length (iC wd)
  mc : Mc mb a w
  la : a.length = nm.length
  lw : wd.length = nm.length
  rb : B ≤ R ∧ B ≤ mb
theorem spl_len (c : UInt8) (l : List UInt8) : ∀ x ∈ spl c l, x.length ≤ l.length := by
  induction l with
  | nil => intro x hx; simp [spl] at hx; subst hx; exact Nat.le_refl _
  | cons y l ih =>
    intro x hx
    unfold spl at hx
    by_cases e : y = c
    · rw [if_pos e] at hx
      rcases List.mem_cons.1 hx with rfl | hx
      · exact Nat.zero_le _
      · have := ih x hx; rw [List.length_cons]; omega
    · rw [if_neg e] at hx
      cases hs : spl c l with
      | nil => rw [hs] at hx; simp at hx; subst hx; simp
      | cons h t =>
        rw [hs] at hx ih
        rcases List.mem_cons.1 hx with rfl | hx
        · have := ih h List.mem_cons_self; rw [List.length_cons, List.length_cons]; omega
        · have := ih x (List.mem_cons_of_mem _ hx); rw [List.length_cons]; omega
def RnQ (B R mb : Nat) (w : World) (s : ByteArray) (a : Cds) (nm : List ByteArray) (wd : List Int) (q : Option (List UInt8 × List UInt8 × Int)) (e : Ending) (w' : World) : Prop := Below B w w' ∧ match q with
  | some (c, n, v) => e = .returned (.tuple #[]) ∧ N1 B R mb w' s ((c, (nm.length : Int)) :: a) (nm ++ [S n]) (wd ++ [v])
  | none => e = .panicked pnV
theorem RnQ.no {B R mb : Nat} {w w' : World} {s : ByteArray} {a : Cds} {nm : List ByteArray} {wd : List Int} {q : Option (List UInt8 × List UInt8 × Int)} (hq : q = none) (hb : Below B w w') : RnQ B R mb w s a nm wd q (.panicked pnV) w' := by
  subst hq; exact ⟨hb, rfl⟩
theorem RnQ.yes {B R mb : Nat} {w w' : World} {s : ByteArray} {a : Cds} {nm : List ByteArray} {wd : List Int} {q : Option (List UInt8 × List UInt8 × Int)} {c n : List UInt8} {v : Int} (hq : q = some (c, n, v)) (hb : Below B w w') (h : N1 B R mb w' s ((c, (nm.length : Int)) :: a) (nm ++ [S n]) (wd ++ [v])) : RnQ B R mb w s a nm wd q (.returned (.tuple #[])) w' := by
  subst hq; exact ⟨hb, rfl, h⟩
theorem net_no6 {t : List UInt8} (h : (spl 32 t).length ≠ 6) : netM t = none := by
  unfold netM
  split
  · rename_i e; rw [e] at h; exact absurd rfl h
  · rfl
theorem deadN {G : Prop} (h : G) (w : World) (k : wpAny Tryz.prog Region.Mode.any #[] (fun _ _ _ => True) 0 #[] { tmps := #[], defers := [] } w) : G := h
theorem own_ne {B e z n : Nat} {v : Value} {xs : List Value} {w : World} {k : Nat} {o : Obj} (h : w.ownsRow B e z v n xs) (hk : w.heap[k]? = some o) (ho : ∀ cs fr, o ≠ .cells cs e fr) : v.ownBlock ≠ some k := by
  intro e1
  rcases h.2 with ⟨rfl, _⟩ | ⟨g, cap, cur, rfl, _, hh, _⟩
  · cases e1
  · injection e1 with e1
    have e1 : g = k := e1
    subst e1
    rw [hk] at hh
    injection hh with hh
    exact ho _ _ hh
theorem own_own {B e1 e2 z n B' z' n' : Nat} {v v' : Value} {xs xs' : List Value} {w : World} (h : w.ownsRow B e1 z v n xs) (h' : w.ownsRow B' e2 z' v' n' xs') (hne : e1 ≠ e2) : ∀ g, v.ownBlock = some g → some g ≠ v'.ownBlock := by
  intro g hg e
  rcases h.2 with ⟨rfl, _⟩ | ⟨g1, cap, cur, rfl, _, hh, _⟩
  · cases hg
  · injection hg with hg
    have hg : g1 = g := hg
    subst hg
    exact own_ne h' hh (fun cs fr e => by injection e with _ e _; exact hne e) e.symm
theorem own_grown {B e z n : Nat} {v : Value} {xs : List Value} {w w' : World} {row : Option Nat} (h : w.ownsRow B e z v n xs) (hg : w.grownBy w' row) (hne : ∀ g, v.ownBlock = some g → some g ≠ row) : w'.ownsRow B e z v n xs := own_keep h fun g e => hg.block g (World.ownsRow.lt h g e).2 (hne g e)
theorem gB {B : Nat} {w W W' : World} {row : Option Nat} (h : Below B w W) (hg : W.grownBy W' row) (hr : ∀ g, row = some g → B ≤ g) (hB : B ≤ W.heap.size) : Below B w W' :=
  ⟨hg.os.trans h.os, hg.tape.trans h.tape, hg.output.trans h.output, Nat.le_trans h.size hg.size, fun k hk => (hg.block k (Nat.lt_of_lt_of_le hk hB) fun e => by have := hr k e.symm; omega).trans (h.block k hk)⟩
theorem set62 {W : World} {b : Nat} {y0 y1 y2 y3 y4 y5 y : Value} {t : TypeId} (h : W.heap[b]? = some (.cells #[y0, y1, y2, y3, y4, y5] t (0, 0))) : (W.setCell ⟨b, 2, none⟩ y).heap[b]? = some (.cells #[y0, y1, y, y3, y4, y5] t (0, 0)) := by
  simp only [World.setCell]
  rw [Array.getElem?_modify, if_pos rfl, h]; rfl
theorem set63 {W : World} {b : Nat} {y0 y1 y2 y3 y4 y5 y : Value} {t : TypeId} (h : W.heap[b]? = some (.cells #[y0, y1, y2, y3, y4, y5] t (0, 0))) : (W.setCell ⟨b, 3, none⟩ y).heap[b]? = some (.cells #[y0, y1, y2, y, y4, y5] t (0, 0)) := by
  simp only [World.setCell]
  rw [Array.getElem?_modify, if_pos rfl, h]; rfl
theorem set64 {W : World} {b : Nat} {y0 y1 y2 y3 y4 y5 y : Value} {t : TypeId} (h : W.heap[b]? = some (.cells #[y0, y1, y2, y3, y4, y5] t (0, 0))) : (W.setCell ⟨b, 4, none⟩ y).heap[b]? = some (.cells #[y0, y1, y2, y3, y, y5] t (0, 0)) := by
  simp only [World.setCell]
  rw [Array.getElem?_modify, if_pos rfl, h]; rfl
theorem set65 {W : World} {b : Nat} {y0 y1 y2 y3 y4 y5 y : Value} {t : TypeId} (h : W.heap[b]? = some (.cells #[y0, y1, y2, y3, y4, y5] t (0, 0))) : (W.setCell ⟨b, 5, none⟩ y).heap[b]? = some (.cells #[y0, y1, y2, y3, y4, y] t (0, 0)) := by
  simp only [World.setCell]
  rw [Array.getElem?_modify, if_pos rfl, h]; rfl
theorem own_set {B e z n : Nat} {v : Value} {xs : List Value} {w : World} {k j : Nat} {y : Value} (h : w.ownsRow B e z v n xs) (hne : v.ownBlock ≠ some k) : (w.setCell ⟨k, j, none⟩ y).ownsRow B e z v n xs := own_keep h fun g e => Below.heap_setCell _ _ _ _ (show g ≠ k from fun e2 => hne (by rw [e, e2]))
theorem rd_ne_s (cs : Array Value) (fr : Nat × Nat) : ∀ cs' fr', (Obj.cells cs 55 fr) ≠ .cells cs' 9 fr' := fun cs' fr' e => by injection e with _ e _; exact absurd e (by decide)
theorem rd_ne_i (cs : Array Value) (fr : Nat × Nat) : ∀ cs' fr', (Obj.cells cs 55 fr) ≠ .cells cs' 3 fr' := fun cs' fr' e => by injection e with _ e _; exact absurd e (by decide)
theorem rd_ne_c (cs : Array Value) (fr : Nat × Nat) : ∀ cs' fr', (Obj.cells cs 55 fr) ≠ .cells cs' 34 fr' := fun cs' fr' e => by injection e with _ e _; exact absurd e (by decide)
theorem Mc.block {mb : Nat} {a : Cds} {w : World} (h : Mc mb a w) : ∃ es clock, w.heap[mb]? = some (.map es clock) := by
  obtain ⟨D, ⟨es, clock, h1, _⟩, _⟩ := h.ex
  exact ⟨es, clock, h1⟩
theorem Mc.neRow {mb : Nat} {a : Cds} {w : World} {B e z n : Nat} {v : Value} {xs : List Value} (h : Mc mb a w) (ho : w.ownsRow B e z v n xs) : some mb ≠ v.ownBlock := by
  obtain ⟨es, clock, h1⟩ := h.block
  exact fun e => own_ne ho h1 (fun cs fr e => by cases e) e.symm
set_option maxHeartbeats 4000000 in
set_option maxRecDepth 100000 in
theorem net_c (w0 w : World) (R mb : Nat) (s : ByteArray) (a : Cds) (nm : List ByteArray) (wd : List Int) (t : List UInt8) (h : N1 w0.heap.size R mb w s a nm wd) (hW : Below w0.heap.size w0 w) (ht : t.length ≤ 4294967280) (hn : nm.length ≤ 4000000) (hF : netM t = none → NumF w0) :
    Calls Tryz.prog 37 #[.pointer (some ⟨R, 0, none⟩), .string (S t)] w fun e w' => RnQ w0.heap.size R mb w s a nm wd (netM t) e w' := by
  have HSp := hidV (split_c (S t) 32 w (by rw [size_S]; exact ht))
  rw [L_S] at HSp
  have hlenW : w0.heap.size ≤ w.heap.size := hW.size
  by_cases h6 : (spl 32 t).length = 6
  case neg =>
    have HQ := hidV (net_no6 h6)
    obtain ⟨q, hq⟩ : ∃ q, q = netM t := ⟨_, rfl⟩
    rw [← hq] at HQ ⊢
    have h6' : (((spl 32 t).length : Int) == 6) = false := by rw [beq_eq_false_iff_ne]; omega
    have HB : Hid (Below w0.heap.size w (w.alloc (.cells ((spl 32 t).map fun l => Value.string (S l)).toArray 9))) := (belA (Below.refl _ _) _).mono hlenW
    clear hq h6
    generalize ((spl 32 t).map fun l => Value.string (S l)).toArray = cs at *
    generalize (spl 32 t).length = k at *
    go_enter Tryz.func37, Tryz.ntmps37
    go_wp2_with (first
      | (go_at_call 54; refine HSp.out.mono ?_; rintro e w1 ⟨rfl, rfl⟩))
    exact ⟨rfl, RnQ.no HQ.out HB.out⟩
  obtain ⟨x0, x1, xw, xc, xn, x5, hsp⟩ : ∃ x0 x1 xw xc xn x5, spl 32 t = [x0, x1, xw, xc, xn, x5] := by
    match hs : spl 32 t, h6 with
    | [x0, x1, xw, xc, xn, x5], _ => exact ⟨x0, x1, xw, xc, xn, x5, rfl⟩
  have hmem := spl_len 32 t
  rw [hsp] at hmem
  have hlw := hmem xw (by simp)
  have hlc := hmem xc (by simp)
  have hln := hmem xn (by simp)
  have HQ : Hid (netM t = (numA xw).map fun v => (xc, unN xn, v)) := by show netM t = _; unfold netM; rw [hsp]
  rw [hsp] at HSp
  have HF := hidV hF
  obtain ⟨q, hq⟩ : ∃ q, q = netM t := ⟨_, rfl⟩
  rw [← hq] at HQ HF ⊢
  clear hF hmem hsp h6 hq
  have HSz : Hid ((S xw).size ≤ 4294967280 ∧ (S xc).size ≤ 4294967280) := by show _ ∧ _; rw [size_S, size_S]; omega
  obtain ⟨W1, hW1⟩ : ∃ W1, W1 = w.alloc (.cells #[.string (S x0), .string (S x1), .string (S xw), .string (S xc), .string (S xn), .string (S x5)] 9) := ⟨_, rfl⟩
  have HB1 : Hid (Below w.heap.size w W1) := by rw [hW1]; exact belA (Below.refl _ _) _
  have HX1 : Hid (W1.heap[w.heap.size]? = some (.cells #[.string (S x0), .string (S x1), .string (S xw), .string (S xc), .string (S xn), .string (S x5)] 9 (0, 0))) := by rw [hW1]; exact alAt rfl
  have HSp2 : Hid (Calls Tryz.prog 54 #[.string (S t), .string ⟨#[32]⟩] w fun e w' => e = .returned (.slice (some ⟨w.heap.size, 0, none⟩) 6 6) ∧ W1 = w') := HSp.out.mono fun e w' h => ⟨h.1, by rw [hW1, h.2]; rfl⟩
  obtain ⟨an, cn, aw, cw, hbx, hon, how⟩ := h.bx
  have HL : Hid (R < w.heap.size ∧ mb < w.heap.size ∧ R ≠ mb) := ⟨hLt hbx, h.mc.lt, fun e => by
    obtain ⟨D, ⟨es, clock, h1, _⟩, _⟩ := h.mc.ex
    rw [← e, hbx] at h1
    injection h1 with h1
    cases h1⟩
  have HBx : Hid (W1.heap[R]? = some (.cells #[.string s, .map (some mb), .slice an nm.length cn, .slice aw wd.length cw, .slice none 0 0, .slice none 0 0] 55 (0, 0))) := (HB1.out.block R HL.out.1).trans hbx
  have HOn : Hid (W1.ownsRow w0.heap.size 9 1 (.slice an nm.length cn) nm.length (sC nm)) := own_below hon HB1.out
  have HOw : Hid (W1.ownsRow w0.heap.size 3 1 (.slice aw wd.length cw) wd.length (iC wd)) := own_below how HB1.out
  have HMc : Hid (Mc mb a W1) := h.mc.keep (HB1.out.block mb HL.out.2.1)
  have HN : Hid (a.length = nm.length ∧ wd.length = nm.length ∧ nm.length ≤ 4000000) := ⟨h.la, h.lw, hn⟩
  have HRb : Hid (w0.heap.size ≤ R ∧ w0.heap.size ≤ mb ∧ w0.heap.size ≤ w.heap.size) := ⟨h.rb.1, h.rb.2, hlenW⟩
  have HW1 : Hid (Below w0.heap.size w W1) := HB1.out.mono hlenW
  have HW0 : Hid (Below w0.heap.size w0 W1) := hW.trans HW1.out
  clear HSp hbx hon how h hn hW1 hlenW hlw hlc hln
  obtain ⟨G, hG⟩ : ∃ G, G = w.heap.size := ⟨_, rfl⟩
  rw [← hG] at HX1
  have HGe := hidV hG
  rw [← hG] at HSp2
  clear hG
  have g2 : W1.cell? ⟨G, 2, none⟩ = some (.string (S xw)) := by rw [Lib.cell_of_heap HX1.out]; rfl
  have g3 : W1.cell? ⟨G, 3, none⟩ = some (.string (S xc)) := by rw [Lib.cell_of_heap HX1.out]; rfl
  have g4 : W1.cell? ⟨G, 4, none⟩ = some (.string (S xn)) := by rw [Lib.cell_of_heap HX1.out]; rfl
  have mixed : Tryz.prog.follows .mixedOrders = true := by kernel_rfl
  obtain ⟨W2, hW2⟩ : ∃ W2, W2 = W1.drew := ⟨_, rfl⟩
  obtain ⟨W6, hput, HM6, HG6⟩ : ∃ W6, (Instr.mapUpdate 53 (.map (some mb)) (.string (S xc)) (.int .i64 (nm.length : Int))).run Tryz.prog W2.drew = .ok () W6 ∧ Hid (Mc mb ((xc, (nm.length : Int)) :: a) W6) ∧ Hid (W2.drew.grownBy W6 (some mb)) := by
    obtain ⟨W6, h1, h2, h3⟩ := Mc.put (w := W2.drew) (HMc.out.keep (by rw [hW2]; rfl)) (S xc) (by have := HSz.out; unfold maxLen; omega) nm.length (by have := HN.out; omega) (by have := HN.out; omega)
    rw [L_S] at h2
    exact ⟨W6, h1, h2, h3⟩
  have HBx2 : Hid (W2.heap[R]? = some (.cells #[.string s, .map (some mb), .slice an nm.length cn, .slice aw wd.length cw, .slice none 0 0, .slice none 0 0] 55 (0, 0))) := by rw [hW2]; exact HBx.out
  obtain ⟨b0, b1, b2, b3, b4, b5⟩ := cells6 HBx2.out
  have HU : Hid (S (unN xn) = if xn = [95] then ⟨#[]⟩ else S xn) := by show _ = _; unfold unN; by_cases e : xn = [95]; rw [if_pos e, if_pos e]; rfl; rw [if_neg e, if_neg e]
  have HQ2 : Hid (∀ v, numA xw = some v → q = some (xc, unN xn, v)) := fun v hv => by rw [HQ.out, hv]; rfl
  have HQ3 : Hid (numA xw = none → q = none) := fun hv => by rw [HQ.out, hv]; rfl
  have HNw : Hid (L (S xw) = xw) := L_S _
  have HW00 : Hid (Below w0.heap.size w0 w) := hW
  by_cases hu : xn = [95]
  · have hu' : ((S xn).toList == [95]) = true := by rw [beq_iff_eq, toL, L_S]; exact hu
    have HNm : Hid (S (unN xn) = ⟨#[]⟩) := by show _ = _; rw [HU.out, if_pos hu]
    clear hu HU HQ
    generalize S xn = qn at *
    generalize S xw = qw at *
    generalize S xc = qc at *
    go_enter Tryz.func37, Tryz.ntmps37
    go_upto_region 3 with (first
      | (go_at_call 54; refine HSp2.out.mono ?_; rintro e w1 ⟨rfl, rfl⟩))
    go_region_o
    go_upto_region 6 with fail
    rw [← hW2]
    have HW2 : Hid (Below w0.heap.size w W2) := by rw [hW2]; exact HW1.out.drew
    have HOn2 : Hid (W2.ownsRow w0.heap.size 9 1 (.slice an nm.length cn) nm.length (sC nm)) := by rw [hW2]; exact own_keep HOn.out fun _ _ => rfl
    have HOw2 : Hid (W2.ownsRow w0.heap.size 3 1 (.slice aw wd.length cw) wd.length (iC wd)) := by rw [hW2]; exact own_keep HOw.out fun _ _ => rfl
    have HMc2 : Hid (Mc mb a W2) := by rw [hW2]; exact HMc.out.keep rfl
    have HLt2 : Hid (R < W2.heap.size ∧ mb < W2.heap.size) := ⟨hLt HBx2.out, HMc2.out.lt⟩
    clear hW2 g2 g3 g4 hu'
    go_region_o
    clear b0 b1 b2 b3 b4 b5 hput
    have HBx6 : Hid (W6.heap[R]? = some (.cells #[.string s, .map (some mb), .slice an nm.length cn, .slice aw wd.length cw, .slice none 0 0, .slice none 0 0] 55 (0, 0))) := (HG6.out.block R HLt2.out.1 (fun e => HL.out.2.2 (by injection e))).trans HBx2.out
    have HB6 : Hid (Below w0.heap.size w W6) := gB HW2.out.drew HG6.out (fun g e => by injection e with e; rw [← e]; exact HRb.out.2.1) (Nat.le_trans HRb.out.2.2 HW2.out.size)
    have HOn6 : Hid (W6.ownsRow w0.heap.size 9 1 (.slice an nm.length cn) nm.length (sC nm)) := own_grown (w := W2.drew) (own_keep HOn2.out fun _ _ => rfl) HG6.out (fun g e e2 => (HMc2.out.neRow HOn2.out) (by rw [e]; exact e2.symm))
    have HOw6 : Hid (W6.ownsRow w0.heap.size 3 1 (.slice aw wd.length cw) wd.length (iC wd)) := own_grown (w := W2.drew) (own_keep HOw2.out fun _ _ => rfl) HG6.out (fun g e e2 => (HMc2.out.neRow HOw2.out) (by rw [e]; exact e2.symm))
    have HZ6 : Hid (w0.heap.size ≤ W6.heap.size) := Nat.le_trans HRb.out.2.2 HB6.out.size
    obtain ⟨b0, b1, b2, b3, b4, b5⟩ := cells6 HBx6.out
    have hlR := hLt HBx6.out
    obtain ⟨jj, HJ⟩ : ∃ jj, Hid (Tryz.prog.info? 9 = some jj ∧ jj.zero = some (.string ⟨#[]⟩) ∧ jj.size = 1 ∧ jj.bytes = 16) := infoStr
    clear HBx HOn HOw HMc HBx2 HOn2 HOw2 HMc2 HG6 HX1
    have a2 : (W6.alloc (.cells #[.string ⟨#[]⟩] 9)).cell? ⟨R, 2, none⟩ = some (.slice an nm.length cn) := by rw [Lib.cell_of_heap ((alOld hlR).trans HBx6.out)]; rfl
    go_upto_region 8 with (first
      | (at_builtin; refine wpList_append_own_at _ rfl _ _ 23 rfl w0.heap.size 9 jj _ 1 16 Tryz.underlying23 HJ.out.1 HJ.out.2.1 HJ.out.2.2.1 HJ.out.2.2.2 rfl (by decide) (.slice an nm.length cn) nm.length (sC nm) rfl (HOn6.out.alloc _) ⟨W6.heap.size, 0, none⟩ 1 1 [.string ⟨#[]⟩] rfl rfl (fun j u hj => new1i _ _ _ _ rfl j u hj) (one_sC [⟨#[]⟩]) (by have := HN.out; unfold maxLen; omega) (by have := HN.out; omega) (Nat.le_trans HZ6.out (by simp)) ?_; intro v7 w7 hown7 hgrow7 hnil7 hloc7; obtain ⟨a7, c7, rfl⟩ := own_slice hown7; have HO7 := hidV hown7; have HG7 := hidV hgrow7; have hx7 : w7.heap[R]? = some (.cells #[.string s, .map (some mb), .slice an nm.length cn, .slice aw wd.length cw, .slice none 0 0, .slice none 0 0] 55 (0, 0)) := (hgrow7.block R (by simp; omega) (fun e => own_ne HOn6.out HBx6.out (rd_ne_s _ _) e.symm)).trans ((alOld hlR).trans HBx6.out); have HX7 := hidV hx7; have d7 : w7.cell? ⟨R, 2, none⟩ = some (.slice an nm.length cn) := (by rw [Lib.cell_of_heap hx7]; rfl); have f7 : w7.frozen? ⟨R, 2, none⟩ = false := Lib.frozen_of_heap hx7 2; clear hown7 hgrow7 hnil7 hloc7 hx7))
    obtain ⟨W8, hW8⟩ : ∃ W8, W8 = w7.setCell ⟨R, 2, none⟩ (.slice a7 (nm.length + 1) c7) := ⟨_, rfl⟩
    rw [← hW8]
    have HBx8 : Hid (W8.heap[R]? = some (.cells #[.string s, .map (some mb), .slice a7 (nm.length + 1) c7, .slice aw wd.length cw, .slice none 0 0, .slice none 0 0] 55 (0, 0))) := by rw [hW8]; exact set62 HX7.out
    have HB7 : Hid (Below w0.heap.size w w7) := gB (HB6.out.alloc HZ6.out (.cells #[.string ⟨#[]⟩] 9)) HG7.out (fun g e => (World.ownsRow.lt HOn6.out g e).1) (Nat.le_trans HZ6.out (by simp))
    have HB8 : Hid (Below w0.heap.size w W8) := by rw [hW8]; exact HB7.out.setCell (p := ⟨R, 2, none⟩) HRb.out.1 _
    have HOn8 : Hid (W8.ownsRow w0.heap.size 9 1 (.slice a7 (nm.length + 1) c7) (nm.length + 1) (sC (nm ++ [⟨#[]⟩]))) := by rw [hW8]; have h := own_set (j := 2) (y := .slice a7 (nm.length + 1) c7) HO7.out (own_ne HO7.out HX7.out (rd_ne_s _ _)); rw [show sC (nm ++ [⟨#[]⟩]) = sC nm ++ [.string ⟨#[]⟩] from by unfold sC; rw [List.map_append]; rfl]; exact h
    have HOw7 : Hid (w7.ownsRow w0.heap.size 3 1 (.slice aw wd.length cw) wd.length (iC wd)) := own_grown (HOw6.out.alloc _) HG7.out (own_own HOw6.out HOn6.out (by decide))
    have HOw8 : Hid (W8.ownsRow w0.heap.size 3 1 (.slice aw wd.length cw) wd.length (iC wd)) := by rw [hW8]; exact own_set HOw7.out (own_ne HOw7.out HX7.out (rd_ne_i _ _))
    have HM7 : Hid (Mc mb ((xc, (nm.length : Int)) :: a) w7) := HM6.out.keep ((HG7.out.block mb (by have := HM6.out.lt; simp; omega) (HM6.out.neRow HOn6.out)).trans (alOld HM6.out.lt))
    have HM8 : Hid (Mc mb ((xc, (nm.length : Int)) :: a) W8) := by rw [hW8]; exact HM7.out.keep (Below.heap_setCell _ _ _ _ (show mb ≠ R from fun e => HL.out.2.2 e.symm))
    have HW08 : Hid (Below w0.heap.size w0 W8) := HW00.out.trans HB8.out
    clear hW8 d7 f7 b0 b1 b2 b3 b4 b5 a2 HX7 HBx6 HOn6 HOw6 HO7 HOw7 HM6 HM7 HG7 HJ hlR
    obtain ⟨b0, b1, b2, b3, b4, b5⟩ := cells6 HBx8.out
    have HZ8 : Hid (w0.heap.size ≤ W8.heap.size) := Nat.le_trans HRb.out.2.2 HB8.out.size
    obtain ⟨ji, HJi⟩ : ∃ jj, Hid (Tryz.prog.info? 3 = some jj ∧ jj.zero = some (.int .i64 0) ∧ jj.size = 1 ∧ jj.bytes = 8) := infoInt
    cases hnum : numA xw with
    | none =>
      have HNo := hidV ((HF.out (HQ3.out hnum)) W8.drew qw HW08.out.drew HSz.out.1 (by rw [HNw.out]; exact hnum))
      have HY := hidV (HQ3.out hnum)
      clear hnum
      go_region_with (first
        | (go_at_call 40; refine HNo.out.mono ?_; rintro e w9 ⟨rfl, hb9⟩; have hfin := RnQ.no (R := R) (mb := mb) (s := s) (a := a) (nm := nm) (wd := wd) HY.out (HB8.out.trans ((Below.refl w0.heap.size W8).drew.trans (hb9.mono HZ8.out))); refine deadN ⟨rfl, hfin⟩ w ?_))
      all_goals trivial
    | some v =>
      have HNo := hidV (fun W => number_ok qw v W (by rw [HNw.out]; exact hnum) HSz.out.1)
      have HY := hidV (HQ2.out v hnum)
      clear hnum
      go_region_law (first
        | (refine step_own rfl _ _ 24 rfl w0.heap.size 3 ji _ 1 8 Tryz.underlying24 HJi.out.1 HJi.out.2.1 HJi.out.2.2.1 HJi.out.2.2.2 rfl (by decide) (.slice aw wd.length cw) wd.length (iC wd) (by simp [Act.eval, Act.put]) (HO9.out.alloc _) ⟨w9.heap.size, 0, none⟩ 1 1 [.int .i64 v] (by simp [Act.eval, Act.put]) rfl (fun j u hj => new1i _ _ _ _ rfl j u hj) (one1 v) (by have := HN.out; unfold maxLen; omega) (by have := HN.out; omega) (Nat.le_trans HZ9.out (by simp)) ?_; intro va wa howna hgrowa; obtain ⟨aa, ca, rfl⟩ := own_slice howna; have HOa := hidV howna; have HGa := hidV hgrowa; have hxa : wa.heap[R]? = some (.cells #[.string s, .map (some mb), .slice a7 (nm.length + 1) c7, .slice aw wd.length cw, .slice none 0 0, .slice none 0 0] 55 (0, 0)) := (hgrowa.block R (by have := hLt HX9.out; simp; omega) (fun e => own_ne HO9.out HX9.out (rd_ne_i _ _) e.symm)).trans ((alOld (hLt HX9.out)).trans HX9.out); have HXa := hidV hxa; have da : wa.cell? ⟨R, 3, none⟩ = some (.slice aw wd.length cw) := (by rw [Lib.cell_of_heap hxa]; rfl); have fa : wa.frozen? ⟨R, 3, none⟩ = false := Lib.frozen_of_heap hxa 3; clear howna hgrowa hxa)
        | (go_simp; go_wp2_with (go_at_call 40; refine (HNo.out _).mono ?_; rintro e w9 ⟨rfl, hb9⟩; have HX9 : Hid (w9.heap[R]? = some (.cells #[.string s, .map (some mb), .slice a7 (nm.length + 1) c7, .slice aw wd.length cw, .slice none 0 0, .slice none 0 0] 55 (0, 0))) := (hb9.block R (hLt HBx8.out)).trans HBx8.out; have HO9 : Hid (w9.ownsRow w0.heap.size 3 1 (.slice aw wd.length cw) wd.length (iC wd)) := own_below (w := W8.drew) (own_keep HOw8.out fun _ _ => rfl) hb9; have HN9 : Hid (w9.ownsRow w0.heap.size 9 1 (.slice a7 (nm.length + 1) c7) (nm.length + 1) (sC (nm ++ [⟨#[]⟩]))) := own_below (w := W8.drew) (own_keep HOn8.out fun _ _ => rfl) hb9; have HM9 : Hid (Mc mb ((xc, (nm.length : Int)) :: a) w9) := HM8.out.keep (hb9.block mb HM8.out.lt); have HB9 : Hid (Below w0.heap.size w w9) := HB8.out.trans ((Below.refl w0.heap.size W8).drew.trans (hb9.mono HZ8.out)); have HZ9 : Hid (w0.heap.size ≤ w9.heap.size) := Nat.le_trans HZ8.out hb9.size; obtain ⟨d0, d1, d2, d3, d4, d5⟩ := cells6 HX9.out; have da9 : (w9.alloc (.cells #[.int .i64 v] 3)).cell? ⟨R, 3, none⟩ = some (.slice aw wd.length cw) := (by rw [Lib.cell_of_heap ((alOld (hLt HX9.out)).trans HX9.out)]; rfl); clear hb9)))
      all_goals (
        go_wp2_with fail
        go_end0
        have hl : wd.length + 1 = nm.length + 1 := by have := HN.out; omega
        have HBa : Below w0.heap.size w wa := gB (HB9.out.alloc HZ9.out (.cells #[.int .i64 v] 3)) HGa.out (fun g e => (World.ownsRow.lt HO9.out g e).1) (Nat.le_trans HZ9.out (by simp))
        have hna : wa.ownsRow w0.heap.size 9 1 (.slice a7 (nm.length + 1) c7) (nm.length + 1) (sC (nm ++ [⟨#[]⟩])) := own_grown (HN9.out.alloc _) HGa.out (own_own HN9.out HO9.out (by decide))
        have hma : Mc mb ((xc, (nm.length : Int)) :: a) wa := HM9.out.keep ((HGa.out.block mb (by have := HM9.out.lt; simp; omega) (HM9.out.neRow HO9.out)).trans (alOld HM9.out.lt))
        refine RnQ.yes HY.out (HBa.setCell (p := ⟨R, 3, none⟩) HRb.out.1 _) ⟨⟨a7, c7, aa, ca, ?_, ?_, ?_⟩, ?_, ?_, ?_, ⟨HRb.out.1, HRb.out.2.1⟩⟩
        · rw [List.length_append, List.length_append, HNm.out]
          exact set63 HXa.out
        · rw [HNm.out, List.length_append]
          exact own_set hna (own_ne hna HXa.out (rd_ne_s _ _))
        · rw [List.length_append]
          have h := own_set (j := 3) (y := .slice aa (wd.length + 1) ca) HOa.out (own_ne HOa.out HXa.out (rd_ne_i _ _))
          rw [show iC (wd ++ [v]) = iC wd ++ [.int .i64 v] from by unfold iC; rw [List.map_append]; rfl]
          exact h
        · exact hma.keep (Below.heap_setCell _ _ _ _ (show mb ≠ R from fun e => HL.out.2.2 e.symm))
        · rw [List.length_cons, List.length_append, HN.out.1]; rfl
        · rw [List.length_append, List.length_append, HN.out.2.1]; rfl)
  · have hu' : ((S xn).toList == [95]) = false := by rw [beq_eq_false_iff_ne, toL, L_S]; exact hu
    have HNm : Hid (S (unN xn) = S xn) := by show _ = _; rw [HU.out, if_neg hu]
    clear hu HU HQ
    generalize S xn = qn at *
    generalize S xw = qw at *
    generalize S xc = qc at *
    go_enter Tryz.func37, Tryz.ntmps37
    go_upto_region 3 with (first
      | (go_at_call 54; refine HSp2.out.mono ?_; rintro e w1 ⟨rfl, rfl⟩))
    go_region_o
    go_upto_region 6 with fail
    rw [← hW2]
    have HW2 : Hid (Below w0.heap.size w W2) := by rw [hW2]; exact HW1.out.drew
    have HOn2 : Hid (W2.ownsRow w0.heap.size 9 1 (.slice an nm.length cn) nm.length (sC nm)) := by rw [hW2]; exact own_keep HOn.out fun _ _ => rfl
    have HOw2 : Hid (W2.ownsRow w0.heap.size 3 1 (.slice aw wd.length cw) wd.length (iC wd)) := by rw [hW2]; exact own_keep HOw.out fun _ _ => rfl
    have HMc2 : Hid (Mc mb a W2) := by rw [hW2]; exact HMc.out.keep rfl
    have HLt2 : Hid (R < W2.heap.size ∧ mb < W2.heap.size) := ⟨hLt HBx2.out, HMc2.out.lt⟩
    clear hW2 g2 g3 g4 hu'
    go_region_o
    clear b0 b1 b2 b3 b4 b5 hput
    have HBx6 : Hid (W6.heap[R]? = some (.cells #[.string s, .map (some mb), .slice an nm.length cn, .slice aw wd.length cw, .slice none 0 0, .slice none 0 0] 55 (0, 0))) := (HG6.out.block R HLt2.out.1 (fun e => HL.out.2.2 (by injection e))).trans HBx2.out
    have HB6 : Hid (Below w0.heap.size w W6) := gB HW2.out.drew HG6.out (fun g e => by injection e with e; rw [← e]; exact HRb.out.2.1) (Nat.le_trans HRb.out.2.2 HW2.out.size)
    have HOn6 : Hid (W6.ownsRow w0.heap.size 9 1 (.slice an nm.length cn) nm.length (sC nm)) := own_grown (w := W2.drew) (own_keep HOn2.out fun _ _ => rfl) HG6.out (fun g e e2 => (HMc2.out.neRow HOn2.out) (by rw [e]; exact e2.symm))
    have HOw6 : Hid (W6.ownsRow w0.heap.size 3 1 (.slice aw wd.length cw) wd.length (iC wd)) := own_grown (w := W2.drew) (own_keep HOw2.out fun _ _ => rfl) HG6.out (fun g e e2 => (HMc2.out.neRow HOw2.out) (by rw [e]; exact e2.symm))
    have HZ6 : Hid (w0.heap.size ≤ W6.heap.size) := Nat.le_trans HRb.out.2.2 HB6.out.size
    obtain ⟨b0, b1, b2, b3, b4, b5⟩ := cells6 HBx6.out
    have hlR := hLt HBx6.out
    obtain ⟨jj, HJ⟩ : ∃ jj, Hid (Tryz.prog.info? 9 = some jj ∧ jj.zero = some (.string ⟨#[]⟩) ∧ jj.size = 1 ∧ jj.bytes = 16) := infoStr
    clear HBx HOn HOw HMc HBx2 HOn2 HOw2 HMc2 HG6 HX1
    have a2 : (W6.alloc (.cells #[.string qn] 9)).cell? ⟨R, 2, none⟩ = some (.slice an nm.length cn) := by rw [Lib.cell_of_heap ((alOld hlR).trans HBx6.out)]; rfl
    go_upto_region 8 with (first
      | (at_builtin; refine wpList_append_own_at _ rfl _ _ 23 rfl w0.heap.size 9 jj _ 1 16 Tryz.underlying23 HJ.out.1 HJ.out.2.1 HJ.out.2.2.1 HJ.out.2.2.2 rfl (by decide) (.slice an nm.length cn) nm.length (sC nm) rfl (HOn6.out.alloc _) ⟨W6.heap.size, 0, none⟩ 1 1 [.string qn] rfl rfl (fun j u hj => new1i _ _ _ _ rfl j u hj) (one_sC [qn]) (by have := HN.out; unfold maxLen; omega) (by have := HN.out; omega) (Nat.le_trans HZ6.out (by simp)) ?_; intro v7 w7 hown7 hgrow7 hnil7 hloc7; obtain ⟨a7, c7, rfl⟩ := own_slice hown7; have HO7 := hidV hown7; have HG7 := hidV hgrow7; have hx7 : w7.heap[R]? = some (.cells #[.string s, .map (some mb), .slice an nm.length cn, .slice aw wd.length cw, .slice none 0 0, .slice none 0 0] 55 (0, 0)) := (hgrow7.block R (by simp; omega) (fun e => own_ne HOn6.out HBx6.out (rd_ne_s _ _) e.symm)).trans ((alOld hlR).trans HBx6.out); have HX7 := hidV hx7; have d7 : w7.cell? ⟨R, 2, none⟩ = some (.slice an nm.length cn) := (by rw [Lib.cell_of_heap hx7]; rfl); have f7 : w7.frozen? ⟨R, 2, none⟩ = false := Lib.frozen_of_heap hx7 2; clear hown7 hgrow7 hnil7 hloc7 hx7))
    obtain ⟨W8, hW8⟩ : ∃ W8, W8 = w7.setCell ⟨R, 2, none⟩ (.slice a7 (nm.length + 1) c7) := ⟨_, rfl⟩
    rw [← hW8]
    have HBx8 : Hid (W8.heap[R]? = some (.cells #[.string s, .map (some mb), .slice a7 (nm.length + 1) c7, .slice aw wd.length cw, .slice none 0 0, .slice none 0 0] 55 (0, 0))) := by rw [hW8]; exact set62 HX7.out
    have HB7 : Hid (Below w0.heap.size w w7) := gB (HB6.out.alloc HZ6.out (.cells #[.string qn] 9)) HG7.out (fun g e => (World.ownsRow.lt HOn6.out g e).1) (Nat.le_trans HZ6.out (by simp))
    have HB8 : Hid (Below w0.heap.size w W8) := by rw [hW8]; exact HB7.out.setCell (p := ⟨R, 2, none⟩) HRb.out.1 _
    have HOn8 : Hid (W8.ownsRow w0.heap.size 9 1 (.slice a7 (nm.length + 1) c7) (nm.length + 1) (sC (nm ++ [qn]))) := by rw [hW8]; have h := own_set (j := 2) (y := .slice a7 (nm.length + 1) c7) HO7.out (own_ne HO7.out HX7.out (rd_ne_s _ _)); rw [show sC (nm ++ [qn]) = sC nm ++ [.string qn] from by unfold sC; rw [List.map_append]; rfl]; exact h
    have HOw7 : Hid (w7.ownsRow w0.heap.size 3 1 (.slice aw wd.length cw) wd.length (iC wd)) := own_grown (HOw6.out.alloc _) HG7.out (own_own HOw6.out HOn6.out (by decide))
    have HOw8 : Hid (W8.ownsRow w0.heap.size 3 1 (.slice aw wd.length cw) wd.length (iC wd)) := by rw [hW8]; exact own_set HOw7.out (own_ne HOw7.out HX7.out (rd_ne_i _ _))
    have HM7 : Hid (Mc mb ((xc, (nm.length : Int)) :: a) w7) := HM6.out.keep ((HG7.out.block mb (by have := HM6.out.lt; simp; omega) (HM6.out.neRow HOn6.out)).trans (alOld HM6.out.lt))
    have HM8 : Hid (Mc mb ((xc, (nm.length : Int)) :: a) W8) := by rw [hW8]; exact HM7.out.keep (Below.heap_setCell _ _ _ _ (show mb ≠ R from fun e => HL.out.2.2 e.symm))
    have HW08 : Hid (Below w0.heap.size w0 W8) := HW00.out.trans HB8.out
    clear hW8 d7 f7 b0 b1 b2 b3 b4 b5 a2 HX7 HBx6 HOn6 HOw6 HO7 HOw7 HM6 HM7 HG7 HJ hlR
    obtain ⟨b0, b1, b2, b3, b4, b5⟩ := cells6 HBx8.out
    have HZ8 : Hid (w0.heap.size ≤ W8.heap.size) := Nat.le_trans HRb.out.2.2 HB8.out.size
    obtain ⟨ji, HJi⟩ : ∃ jj, Hid (Tryz.prog.info? 3 = some jj ∧ jj.zero = some (.int .i64 0) ∧ jj.size = 1 ∧ jj.bytes = 8) := infoInt
    cases hnum : numA xw with
    | none =>
      have HNo := hidV ((HF.out (HQ3.out hnum)) W8.drew qw HW08.out.drew HSz.out.1 (by rw [HNw.out]; exact hnum))
      have HY := hidV (HQ3.out hnum)
      clear hnum
      go_region_with (first
        | (go_at_call 40; refine HNo.out.mono ?_; rintro e w9 ⟨rfl, hb9⟩; have hfin := RnQ.no (R := R) (mb := mb) (s := s) (a := a) (nm := nm) (wd := wd) HY.out (HB8.out.trans ((Below.refl w0.heap.size W8).drew.trans (hb9.mono HZ8.out))); refine deadN ⟨rfl, hfin⟩ w ?_))
      all_goals trivial
    | some v =>
      have HNo := hidV (fun W => number_ok qw v W (by rw [HNw.out]; exact hnum) HSz.out.1)
      have HY := hidV (HQ2.out v hnum)
      clear hnum
      go_region_law (first
        | (refine step_own rfl _ _ 24 rfl w0.heap.size 3 ji _ 1 8 Tryz.underlying24 HJi.out.1 HJi.out.2.1 HJi.out.2.2.1 HJi.out.2.2.2 rfl (by decide) (.slice aw wd.length cw) wd.length (iC wd) (by simp [Act.eval, Act.put]) (HO9.out.alloc _) ⟨w9.heap.size, 0, none⟩ 1 1 [.int .i64 v] (by simp [Act.eval, Act.put]) rfl (fun j u hj => new1i _ _ _ _ rfl j u hj) (one1 v) (by have := HN.out; unfold maxLen; omega) (by have := HN.out; omega) (Nat.le_trans HZ9.out (by simp)) ?_; intro va wa howna hgrowa; obtain ⟨aa, ca, rfl⟩ := own_slice howna; have HOa := hidV howna; have HGa := hidV hgrowa; have hxa : wa.heap[R]? = some (.cells #[.string s, .map (some mb), .slice a7 (nm.length + 1) c7, .slice aw wd.length cw, .slice none 0 0, .slice none 0 0] 55 (0, 0)) := (hgrowa.block R (by have := hLt HX9.out; simp; omega) (fun e => own_ne HO9.out HX9.out (rd_ne_i _ _) e.symm)).trans ((alOld (hLt HX9.out)).trans HX9.out); have HXa := hidV hxa; have da : wa.cell? ⟨R, 3, none⟩ = some (.slice aw wd.length cw) := (by rw [Lib.cell_of_heap hxa]; rfl); have fa : wa.frozen? ⟨R, 3, none⟩ = false := Lib.frozen_of_heap hxa 3; clear howna hgrowa hxa)
        | (go_simp; go_wp2_with (go_at_call 40; refine (HNo.out _).mono ?_; rintro e w9 ⟨rfl, hb9⟩; have HX9 : Hid (w9.heap[R]? = some (.cells #[.string s, .map (some mb), .slice a7 (nm.length + 1) c7, .slice aw wd.length cw, .slice none 0 0, .slice none 0 0] 55 (0, 0))) := (hb9.block R (hLt HBx8.out)).trans HBx8.out; have HO9 : Hid (w9.ownsRow w0.heap.size 3 1 (.slice aw wd.length cw) wd.length (iC wd)) := own_below (w := W8.drew) (own_keep HOw8.out fun _ _ => rfl) hb9; have HN9 : Hid (w9.ownsRow w0.heap.size 9 1 (.slice a7 (nm.length + 1) c7) (nm.length + 1) (sC (nm ++ [qn]))) := own_below (w := W8.drew) (own_keep HOn8.out fun _ _ => rfl) hb9; have HM9 : Hid (Mc mb ((xc, (nm.length : Int)) :: a) w9) := HM8.out.keep (hb9.block mb HM8.out.lt); have HB9 : Hid (Below w0.heap.size w w9) := HB8.out.trans ((Below.refl w0.heap.size W8).drew.trans (hb9.mono HZ8.out)); have HZ9 : Hid (w0.heap.size ≤ w9.heap.size) := Nat.le_trans HZ8.out hb9.size; obtain ⟨d0, d1, d2, d3, d4, d5⟩ := cells6 HX9.out; have da9 : (w9.alloc (.cells #[.int .i64 v] 3)).cell? ⟨R, 3, none⟩ = some (.slice aw wd.length cw) := (by rw [Lib.cell_of_heap ((alOld (hLt HX9.out)).trans HX9.out)]; rfl); clear hb9)))
      all_goals (
        go_wp2_with fail
        go_end0
        have hl : wd.length + 1 = nm.length + 1 := by have := HN.out; omega
        have HBa : Below w0.heap.size w wa := gB (HB9.out.alloc HZ9.out (.cells #[.int .i64 v] 3)) HGa.out (fun g e => (World.ownsRow.lt HO9.out g e).1) (Nat.le_trans HZ9.out (by simp))
        have hna : wa.ownsRow w0.heap.size 9 1 (.slice a7 (nm.length + 1) c7) (nm.length + 1) (sC (nm ++ [qn])) := own_grown (HN9.out.alloc _) HGa.out (own_own HN9.out HO9.out (by decide))
        have hma : Mc mb ((xc, (nm.length : Int)) :: a) wa := HM9.out.keep ((HGa.out.block mb (by have := HM9.out.lt; simp; omega) (HM9.out.neRow HO9.out)).trans (alOld HM9.out.lt))
        refine RnQ.yes HY.out (HBa.setCell (p := ⟨R, 3, none⟩) HRb.out.1 _) ⟨⟨a7, c7, aa, ca, ?_, ?_, ?_⟩, ?_, ?_, ?_, ⟨HRb.out.1, HRb.out.2.1⟩⟩
        · rw [List.length_append, List.length_append, HNm.out]
          exact set63 HXa.out
        · rw [HNm.out, List.length_append]
          exact own_set hna (own_ne hna HXa.out (rd_ne_s _ _))
        · rw [List.length_append]
          have h := own_set (j := 3) (y := .slice aa (wd.length + 1) ca) HOa.out (own_ne HOa.out HXa.out (rd_ne_i _ _))
          rw [show iC (wd ++ [v]) = iC wd ++ [.int .i64 v] from by unfold iC; rw [List.map_append]; rfl]
          exact h
        · exact hma.keep (Below.heap_setCell _ _ _ _ (show mb ≠ R from fun e => HL.out.2.2 e.symm))
        · rw [List.length_cons, List.length_append, HN.out.1]; rfl
        · rw [List.length_append, List.length_append, HN.out.2.1]; rfl)
end Go.Proofs.YtodpljgajjcdoaaGreatDoor

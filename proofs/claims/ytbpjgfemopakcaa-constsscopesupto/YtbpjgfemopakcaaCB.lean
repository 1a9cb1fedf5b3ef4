/- Layer 6 of the program: scopes. -/
import Derived.Test.YtbpjgfemopakcaaCA
import Derived.LaidEqlPtr
namespace Go.Proofs.Ytbpjgfemopakcaa
open Go.RowKit Lg Go.Maps
set_option linter.unusedVariables false
set_option linter.unusedSimpArgs false

theorem kLt {w : World} {g : Nat} {o : Obj} (h : w.heap[g]? = some o) : g < w.heap.size := (Array.getElem?_eq_some_iff.1 h).1
theorem kInf {P : Program} {t : TypeId} {n : Nat} (h : (P.info? t).map (·.size) = some n) (hn : n ≠ 0) : ∃ j, P.info? t = some j ∧ j.size ≠ 0 := by
  cases hj : P.info? t with
  | none => rw [hj] at h; cases h
  | some j => rw [hj] at h; injection h with h; exact ⟨j, rfl, fun e => hn (h.symm.trans e)⟩
theorem kInfo : ∃ j, Try.prog.info? 55 = some j ∧ j.size ≠ 0 := kInf (n := 2) (by kernel_rfl) (by decide)
theorem kInfoX : ∃ j, Try.prog.info? 44 = some j ∧ j.size ≠ 0 := kInf (n := 6) (by kernel_rfl) (by decide)
theorem run_eql_nil_ptr {P : Program} (w : World) {tp te : TypeId} {b : Addr} (hp : P.underlying tp = some (.pointer te)) : (binOp .eql tp (.pointer none) (.pointer (some b))).run P w = .ok (.bool false) w := by
  have h : ∀ d : Nat, (Op.equalIn (d + 1) tp (.pointer none) (.pointer (some b))).run P w = .ok false w := fun d => by simp [Op.equalIn, run_underlying hp]
  simp only [binOp]
  simp [Op.equal, Op.maxDepth, h 9999]
theorem kLawS : Keyed Try.prog 9 := string_keyed Try.underlying9
theorem kZero (w : World) : (zeroValue 3).run Try.prog w = .ok (.int .i64 0) w := by kernel_rfl
theorem kKey {s : ByteArray} (h : s.size ≤ maxLen) : keyOf Try.prog 9 (.string s) = some (.string (L s)) := Go.WideMaps.keyOf_string_mk Try.underlying9 h
theorem kStr (x : List UInt8) : WideAt.IsKeyLit (.string x) := by simp [WideAt.IsKeyLit]
/-- a scope at its block, its names at theirs -/
def ScAt (sb mb : Nat) (w : World) : Prop := w.heap[sb]? = some (.cells #[.pointer (some ⟨sb, 0, none⟩), .map (some mb)] 55 (0, 0))
/-- the names' map -/
def MpAt (mb n : Nat) (D : DataW Unit) (w : World) : Prop := w.ownsMap Try.prog 9 (plainElem Try.prog 3) mb n D
/-- names with numbers, as a map's datum -/
def NmI (D : DataW Unit) (f : List UInt8 → Option Int) : Prop :=
  IsMap D ∧ ∀ x : List UInt8, (f x = none → Maps.has D (.string x) = false) ∧ (∀ n, f x = some n → Maps.has D (.string x) = true ∧ ∀ z, D.atKey (.string x) z = .lit (.int .i64 n))
def fPut (f : List UInt8 → Option Int) (x : List UInt8) (n : Int) : List UInt8 → Option Int := fun y => if y = x then some n else f y
theorem nmI0 : NmI (.map []) (fun _ => none) := ⟨isMap_empty, fun x => ⟨fun _ => rfl, fun b h => by cases h⟩⟩
theorem nmI_put {D : DataW Unit} {f : List UInt8 → Option Int} (h : NmI D f) (x : List UInt8) (n : Int) : NmI (D.put (.string x) (.lit (.int .i64 n))) (fPut f x n) := by
  refine ⟨h.1.put _ _, fun y => ?_⟩
  by_cases e : y = x
  · subst e
    have e2 : fPut f y n y = some n := by unfold fPut; rw [if_pos rfl]
    rw [e2]
    refine ⟨(fun h => by cases h), fun m hm => ?_⟩
    injection hm with hm
    subst hm
    exact ⟨has_put_same h.1 (kStr _) _, fun z => atKey_put_same h.1 (kStr _) _ _⟩
  · have e2 : fPut f x n y = f y := by unfold fPut; rw [if_neg e]
    have hne : (Lit.string y) ≠ Lit.string x := fun h => e (by injection h)
    rw [e2, has_put_other hne]
    refine ⟨(h.2 y).1, fun m hm => ?_⟩
    obtain ⟨a1, a2⟩ := (h.2 y).2 m hm
    exact ⟨a1, fun z => by rw [atKey_put_other hne]; exact a2 z⟩
theorem ScAt.at_ {sb mb : Nat} {w : World} (h : ScAt sb mb w) : w.cell? ⟨sb, 0, none⟩ = some (.pointer (some ⟨sb, 0, none⟩)) ∧ w.cell? ⟨sb, 1, none⟩ = some (.map (some mb)) ∧ sb < w.heap.size :=
  ⟨by rw [Lib.cell_of_heap h]; rfl, by rw [Lib.cell_of_heap h]; rfl, kLt h⟩
theorem ScAt.below {sb mb : Nat} {w w' : World} (h : ScAt sb mb w) (hb : Below w.heap.size w w') : ScAt sb mb w' := (hb.block sb (kLt h)).trans h
theorem MpAt.below {mb n : Nat} {D : DataW Unit} {w w' : World} (h : MpAt mb n D w) (hb : Below w.heap.size w w') : MpAt mb n D w' := by
  have hlt := World.ownsMap.lt h
  obtain ⟨es, clock, h1, h2⟩ := h
  exact ⟨es, clock, (hb.block mb hlt).trans h1, h2⟩
set_option maxHeartbeats 400000 in
theorem kGiven_c {sb mb : Nat} {w : World} (h : ScAt sb mb w) : Calls Try.prog 20 #[.pointer (some ⟨sb, 0, none⟩)] w fun e w' => e = .returned (.bool true) ∧ w' = w := by
  obtain ⟨c0, c1, hl⟩ := h.at_
  obtain ⟨j, hj, _⟩ := kInfo
  have heq := run_eql_ptr_same (P := Try.prog) w ⟨sb, 0, none⟩ Try.underlying23 hj
  clear h hj
  go_enter Try.func20, Try.ntmps20
  go_wp2
  go_ret
  exact ⟨rfl, rfl⟩
set_option maxHeartbeats 400000 in
theorem kGiven_nil (w : World) : Calls Try.prog 20 #[.pointer none] w fun e w' => e = .returned (.bool false) ∧ w' = w := by
  go_enter Try.func20, Try.ntmps20
  go_wp2
  go_ret
  exact ⟨rfl, rfl⟩
set_option maxHeartbeats 400000 in
theorem kGiven_zero {z : Nat} {w : World} (h : w.heap[z]? = some (.cells #[.pointer none, .map none] 55 (0, 0))) : Calls Try.prog 20 #[.pointer (some ⟨z, 0, none⟩)] w fun e w' => e = .returned (.bool false) ∧ w' = w := by
  have c0 : w.cell? ⟨z, 0, none⟩ = some (.pointer none) := by rw [Lib.cell_of_heap h]; rfl
  have heq := run_eql_nil_ptr (P := Try.prog) w (b := ⟨z, 0, none⟩) Try.underlying23
  clear h
  go_enter Try.func20, Try.ntmps20
  go_wp2
  go_ret
  exact ⟨rfl, rfl⟩
set_option maxHeartbeats 400000 in
theorem kScopeOf_c (mb : Nat) (w : World) : Calls Try.prog 21 #[.map (some mb)] w fun e w' => e = .returned (.pointer (some ⟨w.heap.size, 0, none⟩)) ∧ ScAt w.heap.size mb w' ∧ Below w.heap.size w w' := by
  go_enter Try.func21, Try.ntmps21
  go_wp2
  go_ret
  refine ⟨rfl, ?_, ?_⟩
  · unfold ScAt; show (w.heap.push _)[w.heap.size]? = _; simp
  · exact belA (Below.refl _ _) _
set_option maxHeartbeats 400000 in
theorem kNew_c (w : World) : Calls Try.prog 16 #[] w fun e w' => e = .returned (.pointer (some ⟨w.heap.size + 1, 0, none⟩)) ∧ ScAt (w.heap.size + 1) w.heap.size w' ∧ MpAt w.heap.size 0 (.map []) w' ∧ Below w.heap.size w w' := by
  have hmm := @run_makeMap Try.prog
  go_enter Try.func16, Try.ntmps16
  go_wp2_with (first | (go_at_call 21; refine (kScopeOf_c _ _).mono ?_; rintro e w' ⟨rfl, hsc, hb⟩))
  go_ret
  have e : (w.alloc (.map #[] 0)).heap.size = w.heap.size + 1 := by simp
  rw [e] at hsc hb
  refine ⟨by rw [← e]; rfl, hsc, ?_, (belA (Below.refl _ _) _).trans (hb.mono (by omega))⟩
  exact MpAt.below (World.ownsMap_made w _ _ _) (by rw [e]; exact hb)
set_option maxHeartbeats 1000000 in
/-- a name is set -/
theorem kSet_c {sb mb n : Nat} {D : DataW Unit} {w : World} (h : ScAt sb mb w) (hm : MpAt mb n D w) (hne : sb ≠ mb) (hn : n < 1000000) (x : ByteArray) (hx : x.size ≤ maxLen) (k : Int) (hk : fitB k = true) :
    Calls Try.prog 11 #[.pointer (some ⟨sb, 0, none⟩), .string x, .int .i64 k] w fun e w' => e = .returned (.int .i64 0) ∧ MpAt mb (n + 1) (D.put (.string (L x)) (.lit (.int .i64 k))) w' ∧ w.grownBy w' (some mb) := by
  have HG := kGiven_c h
  have HF := fun w => kFits_c k w
  rw [hk] at HF
  obtain ⟨c0, c1, hl⟩ := h.at_
  have hkk : -2147483647 ≤ k ∧ k ≤ 2147483647 := by simpa [fitB] using hk
  unfold MpAt at hm ⊢
  clear h hk
  go_enter Try.func11, Try.ntmps11
  go_wp2_with (first
    | (go_at_call 20; refine HG.mono ?_; rintro e w' ⟨rfl, hw⟩; have hw2 := hw.symm; subst hw2)
    | (go_at_call 23; refine (HF _).mono ?_; rintro e w' ⟨rfl, hw⟩; have hw2 := hw.symm; subst hw2)
    | (at_mapUpdate; refine wpList_mapUpdate_own _ rfl _ _ _ 53 rfl 9 3 kLawS Try.underlying53 _ mb n _ rfl hm (by unfold maxLen; omega) _ _ _ rfl rfl (kKey hx) _ [] (plainElem_int Try.underlying3 (WalkArith.wf_i64 (by omega))) ?_; intro w1 hown1 hgrow1))
  go_ret
  exact ⟨rfl, hown1, hgrow1⟩
set_option maxHeartbeats 1000000 in
/-- a number that may not be is refused -/
theorem kSet_no {sb mb : Nat} {w : World} (h : ScAt sb mb w) (x : ByteArray) (k : Int) (hk : fitB k = false) :
    Calls Try.prog 11 #[.pointer (some ⟨sb, 0, none⟩), .string x, .int .i64 k] w fun e w' => e = .returned (.int .i64 1) ∧ w' = w := by
  have HG := kGiven_c h
  have HF := fun w => kFits_c k w
  rw [hk] at HF
  clear h hk
  go_enter Try.func11, Try.ntmps11
  go_wp2_with (first
    | (go_at_call 20; refine HG.mono ?_; rintro e w' ⟨rfl, hw⟩; have hw2 := hw.symm; subst hw2)
    | (go_at_call 23; refine (HF _).mono ?_; rintro e w' ⟨rfl, hw⟩; have hw2 := hw.symm; subst hw2))
  go_ret
  exact ⟨rfl, rfl⟩
/-- nobody made the scope -/
def Nobody (p : Value) (w : World) : Prop := Calls Try.prog 20 #[p] w fun e w' => e = .returned (.bool false) ∧ w' = w
set_option maxHeartbeats 1000000 in
theorem kSet_nobody {p : Option Addr} {w : World} (HG : Nobody (.pointer p) w) (x : ByteArray) (k : Int) :
    Calls Try.prog 11 #[.pointer p, .string x, .int .i64 k] w fun e w' => e = .returned (.int .i64 1) ∧ w' = w := by
  unfold Nobody at HG
  go_enter Try.func11, Try.ntmps11
  go_wp2_with (first
    | (go_at_call 20; refine HG.mono ?_; rintro e w' ⟨rfl, hw⟩; have hw2 := hw.symm; subst hw2))
  go_ret
  exact ⟨rfl, rfl⟩
set_option maxHeartbeats 1000000 in
theorem kGet_nobody {p : Option Addr} {w : World} (HG : Nobody (.pointer p) w) (x : ByteArray) :
    Calls Try.prog 12 #[.pointer p, .string x] w fun e w' => e = .returned (.tuple #[.int .i64 0, .bool false]) ∧ w' = w := by
  unfold Nobody at HG
  go_enter Try.func12, Try.ntmps12
  go_wp2_with (first
    | (go_at_call 20; refine HG.mono ?_; rintro e w' ⟨rfl, hw⟩; have hw2 := hw.symm; subst hw2))
  go_ret2
  exact ⟨rfl, rfl⟩
set_option maxHeartbeats 1000000 in
theorem kWithin_nobody {p : Option Addr} {w : World} (HG : Nobody (.pointer p) w) :
    Calls Try.prog 9 #[.pointer p] w fun e w' => e = .returned (.pointer none) ∧ w' = w := by
  unfold Nobody at HG
  go_enter Try.func9, Try.ntmps9
  go_wp2_with (first
    | (go_at_call 20; refine HG.mono ?_; rintro e w' ⟨rfl, hw⟩; have hw2 := hw.symm; subst hw2))
  go_ret
  exact ⟨rfl, rfl⟩
set_option maxHeartbeats 1000000 in
theorem kEval_nobody {p : Option Addr} {w : World} (HG : ∀ w', Below w.heap.size w w' → Nobody (.pointer p) w') (op : Int) (nm vl : ByteArray) (pl : Bool) (ao : Option Addr) (n c : Nat) (at_ : Int) :
    Calls Try.prog 17 #[.pointer p, .agg #[.int .i64 op, .string nm, .string vl, .bool pl, .slice ao n c, .int .i64 at_]] w fun e w' => e = .returned (.tuple #[.int .i64 0, .agg #[.int .i64 0, .int .i64 1]]) ∧ Below w.heap.size w w' := by
  unfold Nobody at HG
  go_enter Try.func17, Try.ntmps17
  go_wp2_with (first
    | (go_at_call 20; refine (HG _ (belA (belA (Below.refl _ _) _) _)).mono ?_; rintro e w' ⟨rfl, hw⟩; have hw2 := hw.symm; subst hw2))
  refine bodyPost_ret (v := .tuple #[.int .i64 0, .agg #[.int .i64 0, .int .i64 1]]) (by simp [results, Try.results17, go_sem]) rfl ?_
  exact ⟨rfl, belA (belA (Below.refl _ _) _) _⟩
end Go.Proofs.Ytbpjgfemopakcaa

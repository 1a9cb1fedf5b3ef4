/- Layer 18: the library's Equal of texts, of numbers, of changes. -/
import Derived.Test.YtfefgldngkpgjaaVLi
import Derived.Laws.StructEq
namespace Go.Proofs.Ytfefgldngkpgjaa
set_option maxRecDepth 100000
open Go.RowKit Lg Nl Go.Maps Wf Go.Shelf
set_option linter.unusedVariables false
set_option linter.unusedSimpArgs false

theorem allEq_dec {α β : Type} [DecidableEq β] (f : α → β) (eq : α → α → Bool) (h : ∀ x y, eq x y = decide (f x = f y)) : ∀ xs ys : List α, Lib.allEq eq xs ys = decide (xs.map f = ys.map f)
  | [], [] => rfl
  | [], _ :: _ => by simp [Lib.allEq]
  | _ :: _, [] => by simp [Lib.allEq]
  | x :: xs, y :: ys => by
    simp only [Lib.allEq, List.map_cons, List.cons.injEq]
    rw [allEq_dec f eq h xs ys, h, Bool.decide_and]
theorem strEq (x y : ByteArray) : (x.toList == y.toList) = decide (x = y) := by
  by_cases h : x = y
  · subst h; simp
  · rw [ne_listV h, decide_eq_false h]
abbrev inhCh : Inhabited Ch := ⟨ch0⟩
theorem getCh (l : List Ch) (j : Nat) (hj : j < l.length) : (@GetElem?.getElem! (List Ch) Nat Ch _ _ inhCh l j) = l[j] := by letI := inhCh; exact getElem!_pos l j hj
def eqCh (x y : Ch) : Bool := x.t == y.t && x.n == y.n && (x.v.toList == y.v.toList)
theorem eqCh_is (x y : Ch) : eqCh x y = decide (tri x = tri y) := by
  unfold eqCh tri
  rw [strEq]
  by_cases h1 : x.t = y.t <;> by_cases h2 : x.n = y.n <;> by_cases h3 : x.v = y.v <;> simp [h1, h2, h3]
set_option maxHeartbeats 1000000 in
theorem neqCh : NeqAt Try.prog 46 (fun x => .agg (chC x).toArray) eqCh := by
  refine ⟨fun x y w => ?_, GuardAt.agg _ (by kernel_rfl)⟩
  have u3 := Try.underlying3
  have a3 := Try.isAgg3
  have z3 := Try.sizeOf3
  have u9 := Try.underlying9
  have a9 := Try.isAgg9
  have z9 := Try.sizeOf9
  have hS : Try.prog.underlying 46 = some (.struct (Try.prog.fieldsOf 46)) := by kernel_rfl
  have hp : Try.prog.stoodInHeld 46 = false := by kernel_rfl
  simp only [chC]
  rw [run_neq_struct, show (10000 : Nat) = 9999 + 1 from rfl, run_equalIn_agg w 9999 46 _ _ hS hp]
  simp only [Program.fieldsOf, Try.underlying46]
  unfold eqCh
  go_simp
  by_cases h1 : x.t = y.t <;> by_cases h2 : x.n = y.n <;> by_cases h3 : x.v.toList = y.v.toList <;> simp [h1, h2, h3]
set_option maxHeartbeats 1000000 in
theorem equalS_c (v u : Value) (a b : List ByteArray) (w : World) (ha : StrAt w v a) (hb : StrAt w u b) (hn : a.length ≤ 140737488355328) (hm : b.length ≤ 140737488355328) : Calls Try.prog 45 #[v, u] w fun e w' => e = .returned (.bool (decide (a = b))) ∧ Below w.heap.size w w' := by
  have HA : Hid (StrAt w v a) := ha
  have HB : Hid (StrAt w u b) := hb
  obtain ⟨ao, ac, rfl, _, _⟩ := ha
  obtain ⟨bo, bc, rfl, _, _⟩ := hb
  by_cases hl : a.length = b.length
  · by_cases h0 : a.length = 0
    · have e1 : a = [] := List.eq_nil_of_length_eq_zero h0
      have e2 : b = [] := List.eq_nil_of_length_eq_zero (by omega)
      subst e1 e2
      clear HA HB hn hm hl h0
      go_enter Try.func45, Try.ntmps45
      go_wp2_with fail
      go_loopw [13] (fun s W => s = .int .i64 0 ∧ W = w) (fun s W => 0)
      case atStart => exact ⟨rfl, rfl⟩
      case round =>
        obtain ⟨rfl, rfl⟩ := hrel
        go_wp2_with fail
        go_ret
        exact ⟨by simp, Below.refl _ _⟩
    · obtain ⟨b1, o1, e1, _, _⟩ := StrAt.at_ HA.out 0 (by omega)
      obtain ⟨b2, o2, e2, _, _⟩ := StrAt.at_ HB.out 0 (by omega)
      subst e1 e2
      have hS := AnyE.slices_Equal Try.equalS Value.string _ (NeqAt.string _ _) b1 o1 a.length ac b2 o2 b.length bc a b w (Nat.le_refl _) (Nat.le_refl _) (by omega) (by omega) (fun j hj => by
          obtain ⟨g, o, e, _, hc⟩ := StrAt.at_ HA.out j hj
          injection e with e; injection e with e1 e2
          rw [e1, e2, hc, sA_at hj, getElem!_pos _ j hj]) (fun j hj => by
          obtain ⟨g, o, e, _, hc⟩ := StrAt.at_ HB.out j hj
          injection e with e; injection e with e1 e2
          rw [e1, e2, hc, sA_at hj, getElem!_pos _ j hj])
      rw [List.take_of_length_le (Nat.le_refl _), List.take_of_length_le (Nat.le_refl _), allEq_dec (fun s : ByteArray => s) _ strEq a b, List.map_id', List.map_id'] at hS
      have hS := hS.mono (R' := fun e w' => e = .returned (.bool (decide (a = b))) ∧ Below w.heap.size w w') (by rintro e w' ⟨he, q, rfl⟩; exact ⟨he, bdn (Below.refl _ _) q⟩)
      exact hS
  · have HN : Hid (false = decide (a = b)) := (decide_eq_false fun h => hl (by rw [h])).symm
    have hl' : ((a.length : Int) == (b.length : Int)) = false := by rw [beq_eq_false_iff_ne]; omega
    clear hl HA HB
    generalize decide (a = b) = r at HN ⊢
    go_enter Try.func45, Try.ntmps45
    go_wp2_with fail
    go_ret
    exact ⟨ret_bool HN.out, Below.refl _ _⟩
set_option maxHeartbeats 1000000 in
theorem equalI_c (v u : Value) (a b : List Int) (w : World) (ha : IntsAt w v a) (hb : IntsAt w u b) (hn : a.length ≤ 140737488355328) (hm : b.length ≤ 140737488355328) : Calls Try.prog 46 #[v, u] w fun e w' => e = .returned (.bool (decide (a = b))) ∧ Below w.heap.size w w' := by
  have HA : Hid (IntsAt w v a) := ha
  have HB : Hid (IntsAt w u b) := hb
  obtain ⟨ao, ac, rfl, _, _⟩ := ha
  obtain ⟨bo, bc, rfl, _, _⟩ := hb
  by_cases hl : a.length = b.length
  · by_cases h0 : a.length = 0
    · have e1 : a = [] := List.eq_nil_of_length_eq_zero h0
      have e2 : b = [] := List.eq_nil_of_length_eq_zero (by omega)
      subst e1 e2
      clear HA HB hn hm hl h0
      go_enter Try.func46, Try.ntmps46
      go_wp2_with fail
      go_loopw [13] (fun s W => s = .int .i64 0 ∧ W = w) (fun s W => 0)
      case atStart => exact ⟨rfl, rfl⟩
      case round =>
        obtain ⟨rfl, rfl⟩ := hrel
        go_wp2_with fail
        go_ret
        exact ⟨by simp, Below.refl _ _⟩
    · obtain ⟨b1, o1, e1, _, _⟩ := IntsAt.at_ HA.out 0 (by omega)
      obtain ⟨b2, o2, e2, _, _⟩ := IntsAt.at_ HB.out 0 (by omega)
      subst e1 e2
      have hS := AnyE.slices_Equal Try.equalI (Value.int .i64) _ (NeqAt.int _ _ .i64) b1 o1 a.length ac b2 o2 b.length bc a b w (Nat.le_refl _) (Nat.le_refl _) (by omega) (by omega) (fun j hj => by
          obtain ⟨g, o, e, _, hc⟩ := IntsAt.at_ HA.out j hj
          injection e with e; injection e with e1 e2
          rw [e1, e2, hc, iA_at hj, getElem!_pos _ j hj]) (fun j hj => by
          obtain ⟨g, o, e, _, hc⟩ := IntsAt.at_ HB.out j hj
          injection e with e; injection e with e1 e2
          rw [e1, e2, hc, iA_at hj, getElem!_pos _ j hj])
      rw [List.take_of_length_le (Nat.le_refl _), List.take_of_length_le (Nat.le_refl _), allEq_dec (fun s : Int => s) _ (fun x y => by by_cases h : x = y <;> simp [h]) a b, List.map_id', List.map_id'] at hS
      have hS := hS.mono (R' := fun e w' => e = .returned (.bool (decide (a = b))) ∧ Below w.heap.size w w') (by rintro e w' ⟨he, q, rfl⟩; exact ⟨he, bdn (Below.refl _ _) q⟩)
      exact hS
  · have HN : Hid (false = decide (a = b)) := (decide_eq_false fun h => hl (by rw [h])).symm
    have hl' : ((a.length : Int) == (b.length : Int)) = false := by rw [beq_eq_false_iff_ne]; omega
    clear hl HA HB
    generalize decide (a = b) = r at HN ⊢
    go_enter Try.func46, Try.ntmps46
    go_wp2_with fail
    go_ret
    exact ⟨ret_bool HN.out, Below.refl _ _⟩
set_option maxHeartbeats 1000000 in
theorem equalC_c (v u : Value) (a b : List Ch) (w : World) (ha : ChAt w v a) (hb : ChAt w u b) (hn : a.length ≤ 140737488355328) (hm : b.length ≤ 140737488355328) : Calls Try.prog 33 #[v, u] w fun e w' => e = .returned (.bool (decide (a.map tri = b.map tri))) ∧ Below w.heap.size w w' := by
  have HA : Hid (ChAt w v a) := ha
  have HB : Hid (ChAt w u b) := hb
  obtain ⟨ao, ac, rfl, _, _⟩ := ha
  obtain ⟨bo, bc, rfl, _, _⟩ := hb
  by_cases hl : a.length = b.length
  · by_cases h0 : a.length = 0
    · have e1 : a = [] := List.eq_nil_of_length_eq_zero h0
      have e2 : b = [] := List.eq_nil_of_length_eq_zero (by omega)
      subst e1 e2
      clear HA HB hn hm hl h0
      go_enter Try.func33, Try.ntmps33
      go_wp2_with fail
      go_loopw [13] (fun s W => s = .int .i64 0 ∧ W = w) (fun s W => 0)
      case atStart => exact ⟨rfl, rfl⟩
      case round =>
        obtain ⟨rfl, rfl⟩ := hrel
        go_wp2_with fail
        go_ret
        exact ⟨by simp, Below.refl _ _⟩
    · obtain ⟨b1, o1, e1, _, _⟩ := ChAt.at_ HA.out 0 (by omega)
      obtain ⟨b2, o2, e2, _, _⟩ := ChAt.at_ HB.out 0 (by omega)
      subst e1 e2
      have hS := @AnyQ.slices_Equal Try.prog Try.equalC_ren Ch inhCh Try.equalC 3 Try.isAgg46 Try.sizeOf46 chC (fun _ => rfl) eqCh neqCh b1 o1 a.length ac b2 o2 b.length bc a b w (Nat.le_refl _) (Nat.le_refl _) (by omega) (by omega) (fun j hj i v hv => by
          obtain ⟨ao', cap', e, hc, h⟩ := HA.out
          injection e with e1 e2 e3
          rcases h with h | ⟨g, o, e4, hg, h⟩
          · subst h; simp at hj
          · rw [e4] at e1; injection e1 with e1; injection e1 with e5 e6
            rw [e5, e6]
            rw [getCh _ j hj] at hv
            exact h j hj i v hv) (fun j hj i v hv => by
          obtain ⟨ao', cap', e, hc, h⟩ := HB.out
          injection e with e1 e2 e3
          rcases h with h | ⟨g, o, e4, hg, h⟩
          · subst h; simp at hj
          · rw [e4] at e1; injection e1 with e1; injection e1 with e5 e6
            rw [e5, e6]
            rw [getCh _ j hj] at hv
            exact h j hj i v hv)
      rw [List.take_of_length_le (Nat.le_refl _), List.take_of_length_le (Nat.le_refl _), allEq_dec tri _ eqCh_is a b] at hS
      have hS := hS.mono (R' := fun e w' => e = .returned (.bool (decide (a.map tri = b.map tri))) ∧ Below w.heap.size w w') (by rintro e w' ⟨he, q, rfl⟩; exact ⟨he, bdn (Below.refl _ _) q⟩)
      exact hS
  · have HN : Hid (false = decide (a.map tri = b.map tri)) := (decide_eq_false fun h => hl (by have := congrArg List.length h; simpa using this)).symm
    have hl' : ((a.length : Int) == (b.length : Int)) = false := by rw [beq_eq_false_iff_ne]; omega
    clear hl HA HB
    generalize decide (a.map tri = b.map tri) = r at HN ⊢
    go_enter Try.func33, Try.ntmps33
    go_wp2_with fail
    go_ret
    exact ⟨ret_bool HN.out, Below.refl _ _⟩
end Go.Proofs.Ytfefgldngkpgjaa

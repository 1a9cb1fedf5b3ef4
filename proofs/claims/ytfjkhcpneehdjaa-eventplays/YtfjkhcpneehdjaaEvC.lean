/- Which of two events is ahead. -/
import Derived.Test.YtfjkhcpneehdjaaEvB
namespace Go.Proofs.Ytfjkhcpneehdjaa
open Go.RowKit Qu Go.Maps
set_option linter.unusedVariables false
set_option linter.unusedSimpArgs false

def evC (e : Ev) : List Value := [.int .i64 e.t, .int .i64 e.nd, .string e.v, .int .i64 e.fr, .int .i64 e.sq, .bool e.an]
def evG (e : Ev) : Value := .agg #[.int .i64 e.t, .int .i64 e.nd, .string e.v, .int .i64 e.fr, .int .i64 e.sq, .bool e.an]
def ord (a b : Ev) : Int := or4 (cm a.t b.t) (cm a.nd b.nd) (cm a.fr b.fr) (cm a.sq b.sq)
theorem cm_lt {x y : Int} : cm x y < 0 ↔ x < y := by unfold cm; repeat' split <;> omega
theorem cm_eq {x y : Int} : cm x y = 0 ↔ x = y := by unfold cm; repeat' split <;> omega
theorem ord_lt (a b : Ev) : ord a b < 0 ↔ lt a b := by
  unfold ord or4 lt
  have h1 := cm_lt (x := a.t) (y := b.t)
  have h2 := cm_lt (x := a.nd) (y := b.nd)
  have h3 := cm_lt (x := a.fr) (y := b.fr)
  have h4 := cm_lt (x := a.sq) (y := b.sq)
  have e1 := cm_eq (x := a.t) (y := b.t)
  have e2 := cm_eq (x := a.nd) (y := b.nd)
  have e3 := cm_eq (x := a.fr) (y := b.fr)
  split
  · omega
  · split
    · omega
    · split <;> omega
theorem belA {w a : World} (h : Below w.heap.size w a) (o : Obj) : Below w.heap.size w (a.alloc o) := h.alloc h.size o
theorem hLt {w : World} {g : Nat} {o : Obj} (h : w.heap[g]? = some o) : g < w.heap.size := (Array.getElem?_eq_some_iff.1 h).1
theorem alAt {W : World} {o : Obj} {n : Nat} (h : W.heap.size = n) : (W.alloc o).heap[n]? = some o := by subst h; show (W.heap.push o)[W.heap.size]? = _; simp
theorem alOld {W : World} {o : Obj} {k : Nat} (h : k < W.heap.size) : (W.alloc o).heap[k]? = W.heap[k]? := (belA (Below.refl W.heap.size W) o).block k h
theorem or_new (W : World) (a b c d : Int) (t : TypeId) : Calls Try.prog 55 #[.slice (some ⟨W.heap.size, 0, none⟩) 4 4] (W.alloc (.cells #[.int .i64 a, .int .i64 b, .int .i64 c, .int .i64 d] t)).drew fun e w' => e = .returned (.int .i64 (or4 a b c d)) ∧ w' = (W.alloc (.cells #[.int .i64 a, .int .i64 b, .int .i64 c, .int .i64 d] t)).drew := by
  have h : ((W.alloc (.cells #[.int .i64 a, .int .i64 b, .int .i64 c, .int .i64 d] t)).drew).heap[W.heap.size]? = some (.cells #[.int .i64 a, .int .i64 b, .int .i64 c, .int .i64 d] t) := alAt rfl
  exact or_c _ a b c d _ (by rw [Lib.cell_of_heap h]; rfl) (by rw [Lib.cell_of_heap h]; rfl) (by rw [Lib.cell_of_heap h]; rfl) (by rw [Lib.cell_of_heap h]; rfl)
set_option maxHeartbeats 4000000 in
theorem order_c (a b : Ev) (w : World) : Calls Try.prog 54 #[evG a, evG b] w fun e w' => e = .returned (.int .i64 (ord a b)) ∧ Below w.heap.size w w' := by
  obtain ⟨at_, an, av, af, as_, aa⟩ := a
  obtain ⟨bt, bn, bv, bf, bs, ba⟩ := b
  unfold evG ord
  dsimp only
  go_enter Try.func54, Try.ntmps54
  go_wp2
  obtain ⟨W, hW⟩ : ∃ W, W = (w.alloc (.cells #[.int .i64 at_, .int .i64 an, .string av, .int .i64 af, .int .i64 as_, .bool aa] 34)).alloc (.cells #[.int .i64 bt, .int .i64 bn, .string bv, .int .i64 bf, .int .i64 bs, .bool ba] 34) := ⟨_, rfl⟩
  have HB : Hid (Below w.heap.size w W) := by rw [hW]; exact belA (belA (Below.refl _ _) _) _
  have a0 : W.cell? ⟨w.heap.size, 0, none⟩ = some (.int .i64 at_) := by rw [hW]; go_simp
  have a1 : W.cell? ⟨w.heap.size, 1, none⟩ = some (.int .i64 an) := by rw [hW]; go_simp
  have a3 : W.cell? ⟨w.heap.size, 3, none⟩ = some (.int .i64 af) := by rw [hW]; go_simp
  have a4 : W.cell? ⟨w.heap.size, 4, none⟩ = some (.int .i64 as_) := by rw [hW]; go_simp
  have b0 : W.cell? ⟨w.heap.size + 1, 0, none⟩ = some (.int .i64 bt) := by rw [hW]; go_simp
  have b1 : W.cell? ⟨w.heap.size + 1, 1, none⟩ = some (.int .i64 bn) := by rw [hW]; go_simp
  have b3 : W.cell? ⟨w.heap.size + 1, 3, none⟩ = some (.int .i64 bf) := by rw [hW]; go_simp
  have b4 : W.cell? ⟨w.heap.size + 1, 4, none⟩ = some (.int .i64 bs) := by rw [hW]; go_simp
  rw [← hW]
  clear hW
  obtain ⟨N, hN⟩ : ∃ N, w.heap.size = N := ⟨_, rfl⟩
  rw [hN] at a0 a1 a3 a4 b0 b1 b3 b4 ⊢
  rw [← hN]
  rw [hN]
  have hN' : Hid (w.heap.size = N) := hN
  clear hN
  go_region_held (fun w' => w'.cell? ⟨N, 0, none⟩ = some (.int .i64 at_) ∧ w'.cell? ⟨N, 1, none⟩ = some (.int .i64 an) ∧ w'.cell? ⟨N, 3, none⟩ = some (.int .i64 af) ∧ w'.cell? ⟨N, 4, none⟩ = some (.int .i64 as_) ∧ w'.cell? ⟨N + 1, 0, none⟩ = some (.int .i64 bt) ∧ w'.cell? ⟨N + 1, 1, none⟩ = some (.int .i64 bn) ∧ w'.cell? ⟨N + 1, 3, none⟩ = some (.int .i64 bf) ∧ w'.cell? ⟨N + 1, 4, none⟩ = some (.int .i64 bs)) (go_keep) (first
    | (go_at_call 56; refine (compare_c _ _ _).mono ?_; rintro e w' ⟨rfl, rfl⟩)
    | (go_at_call 55; refine (or_new W (cm at_ bt) (cm an bn) (cm af bf) (cm as_ bs) _).mono ?_; rintro e w' ⟨rfl, rfl⟩))
  all_goals (go_wp2; go_ret; exact ⟨rfl, (belA HB.out _).drew⟩)
end Go.Proofs.Ytfjkhcpneehdjaa

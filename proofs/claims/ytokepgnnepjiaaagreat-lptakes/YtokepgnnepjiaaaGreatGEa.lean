/- Texts EvA EvB EvC EvD EvE, joined: what each part says stands ahead of it. -/
import Derived.Test.YtokepgnnepjiaaaGreatProg
import Derived.WalkKit
import Derived.WalkLawsBesides
import Derived.WalkSpells
import Derived.Deep.QuietTactic
import Derived.BigQuiet
import Derived.Maps.AppendAt
import Derived.Deep.RegionLaw
import Derived.Deep.RegionHeld3
import Derived.Handy
import Derived.BigRegion
import Derived.Laws.OwnMore
/- Events, their order, heaps of them: plain. -/
namespace Go.Proofs.YtokepgnnepjiaaaGreat.Q
set_option maxRecDepth 100000
namespace Qu
set_option linter.unusedVariables false

/-- an event -/
structure Ev where
  t : Int
  nd : Int
  v : ByteArray
  fr : Int
  sq : Int
  an : Bool
def ev0 : Ev := ⟨0, 0, ⟨#[]⟩, 0, 0, false⟩
/-- which event comes ahead -/
def lt (a b : Ev) : Prop := a.t < b.t ∨ a.t = b.t ∧ (a.nd < b.nd ∨ a.nd = b.nd ∧ (a.fr < b.fr ∨ a.fr = b.fr ∧ a.sq < b.sq))
instance (a b : Ev) : Decidable (lt a b) := by unfold lt; infer_instance
def le (a b : Ev) : Prop := ¬ lt b a
theorem lt_le {a b : Ev} (h : lt a b) : le a b := by unfold le lt at *; omega
theorem le_refl (a : Ev) : le a a := by unfold le lt; omega
theorem le_trans {a b c : Ev} (h : le a b) (k : le b c) : le a c := by unfold le lt at *; omega
theorem le_total (a b : Ev) : le a b ∨ le b a := by unfold le lt; omega
/-- the event at a place -/
def g (l : List Ev) (i : Nat) : Ev := l.getD i ev0
theorem g_at {l : List Ev} {i : Nat} (h : i < l.length) : g l i = l[i] := by unfold g; rw [List.getD_eq_getElem?_getD, List.getElem?_eq_getElem h]; rfl
theorem g_some {l : List Ev} {i : Nat} (h : i < l.length) : l[i]? = some (g l i) := by rw [g_at h, List.getElem?_eq_getElem h]
def swp (l : List Ev) (i k : Nat) : List Ev := (l.set i (g l k)).set k (g l i)
theorem swp_len (l : List Ev) (i k : Nat) : (swp l i k).length = l.length := by simp [swp]
theorem g_swp {l : List Ev} {i k : Nat} (hi : i < l.length) (hk : k < l.length) (c : Nat) : g (swp l i k) c = if c = k then g l i else if c = i then g l k else g l c := by
  unfold swp g
  rw [List.getD_eq_getElem?_getD, List.getElem?_set, List.getElem?_set]
  simp only [List.length_set]
  by_cases e1 : c = k
  · subst e1; simp [hk]
  · by_cases e2 : c = i
    · subst e2; simp [e1, Ne.symm e1, hi]
    · simp [e1, e2, Ne.symm e1, Ne.symm e2]
theorem swp_same {l : List Ev} {i : Nat} (hi : i < l.length) : swp l i i = l := by
  apply List.ext_getElem (by simp [swp])
  intro n h1 h2
  simp [swp, List.getElem_set]
  rintro rfl
  exact g_at hi
theorem swp_perm {l : List Ev} {i k : Nat} (hi : i < l.length) (hk : k < l.length) : (swp l i k).Perm l := by
  unfold swp
  rw [g_at hi, g_at hk]
  exact List.set_set_perm hi hk
/-- a heap, of the first n -/
def Hp (l : List Ev) (n : Nat) : Prop := ∀ c, 1 ≤ c → c < n → le (g l ((c - 1) / 2)) (g l c)
/-- a heap but for one place -/
structure Ho (l : List Ev) (n i : Nat) : Prop where
  p : ∀ c, 1 ≤ c → c < n → c ≠ i → (c - 1) / 2 ≠ i → le (g l ((c - 1) / 2)) (g l c)
  s : ∀ c, 1 ≤ c → c < n → (c - 1) / 2 = i → 1 ≤ i → le (g l ((i - 1) / 2)) (g l c)
def Ch (l : List Ev) (n i : Nat) : Prop := ∀ c, 1 ≤ c → c < n → (c - 1) / 2 = i → le (g l i) (g l c)
theorem up_step {l : List Ev} {n j : Nat} (h : Ho l n j) (hc : Ch l n j) (hj : 1 ≤ j) (hn : j < n) (hl : n ≤ l.length) (hlt : lt (g l j) (g l ((j - 1) / 2))) : Ho (swp l ((j - 1) / 2) j) n ((j - 1) / 2) ∧ Ch (swp l ((j - 1) / 2) j) n ((j - 1) / 2) := by
  obtain ⟨i, hi⟩ : ∃ i, i = (j - 1) / 2 := ⟨_, rfl⟩
  rw [← hi] at hlt ⊢
  have hij : i < j := by omega
  have G := g_swp (l := l) (i := i) (k := j) (by omega) (by omega)
  refine ⟨⟨fun c c1 cn ci pi => ?_, fun c c1 cn pi i1 => ?_⟩, fun c c1 cn pi => ?_⟩
  · rw [G, G]
    have hcj : c ≠ j := fun e => by subst e; exact pi hi.symm
    by_cases e : (c - 1) / 2 = j
    · rw [if_pos e, if_neg hcj, if_neg ci]
      have := h.s c c1 cn e hj
      rw [← hi] at this
      exact this
    · rw [if_neg e, if_neg pi, if_neg hcj, if_neg ci]
      exact h.p c c1 cn hcj e
  · rw [G, G]
    have k1 : (i - 1) / 2 ≠ j := by omega
    have k2 : (i - 1) / 2 ≠ i := by omega
    have p1 := h.p i i1 (by omega) (by omega) k1
    rw [if_neg k1, if_neg k2]
    by_cases e : c = j
    · subst e; rw [if_pos rfl]; exact p1
    · rw [if_neg e, if_neg (by omega)]
      have := h.p c c1 cn e (by omega)
      rw [pi] at this
      exact le_trans p1 this
  · rw [G, G, if_neg (by omega), if_pos rfl]
    by_cases e : c = j
    · subst e; rw [if_pos rfl]; exact lt_le hlt
    · rw [if_neg e, if_neg (by omega)]
      have := h.p c c1 cn e (by omega)
      rw [pi] at this
      exact le_trans (lt_le hlt) this
theorem up_end {l : List Ev} {n j : Nat} (h : Ho l n j) (hc : Ch l n j) (he : j = 0 ∨ ¬ lt (g l j) (g l ((j - 1) / 2))) : Hp l n := fun c c1 cn => by
  by_cases e1 : (c - 1) / 2 = j
  · have := hc c c1 cn e1; rw [e1]; exact this
  · by_cases e2 : c = j
    · subst e2
      rcases he with he | he
      · omega
      · exact he
    · exact h.p c c1 cn e2 e1
theorem down_step {l : List Ev} {n i j : Nat} (h : Ho l n i) (hj1 : 1 ≤ j) (hjn : j < n) (hp : (j - 1) / 2 = i) (hl : n ≤ l.length) (hlt : lt (g l j) (g l i)) (hm : ∀ c, 1 ≤ c → c < n → (c - 1) / 2 = i → le (g l j) (g l c)) : Ho (swp l i j) n j ∧ le (g (swp l i j) ((j - 1) / 2)) (g (swp l i j) j) := by
  have G := g_swp (l := l) (i := i) (k := j) (by omega) (by omega)
  refine ⟨⟨fun c c1 cn cj pj => ?_, fun c c1 cn pj j1 => ?_⟩, ?_⟩
  · rw [G, G, if_neg pj, if_neg cj]
    by_cases e1 : (c - 1) / 2 = i
    · rw [if_pos e1, if_neg (by omega)]
      exact hm c c1 cn e1
    · rw [if_neg e1]
      by_cases e2 : c = i
      · subst e2
        rw [if_pos rfl]
        exact h.s j hj1 hjn hp c1
      · rw [if_neg e2]
        exact h.p c c1 cn e2 e1
  · rw [G, G, hp, if_neg (by omega), if_pos rfl, if_neg (by omega), if_neg (by omega)]
    have := h.p c c1 cn (by omega) (by omega)
    rw [pj] at this
    exact this
  · rw [G, G, hp, if_neg (by omega), if_pos rfl, if_pos rfl]
    exact lt_le hlt
theorem down_end {l : List Ev} {n i : Nat} (h : Ho l n i) (hc : Ch l n i) (he : 1 ≤ i → le (g l ((i - 1) / 2)) (g l i)) : Hp l n := up_end h hc (by
  rcases Nat.eq_zero_or_pos i with e | e
  · exact Or.inl e
  · exact Or.inr (he e))
theorem Hp.push {l : List Ev} (h : Hp l l.length) (e : Ev) : Ho (l ++ [e]) (l.length + 1) l.length ∧ Ch (l ++ [e]) (l.length + 1) l.length := by
  have G : ∀ c, c < l.length → g (l ++ [e]) c = g l c := fun c hc => by unfold g; rw [List.getD_eq_getElem?_getD, List.getElem?_append_left hc, List.getD_eq_getElem?_getD]
  refine ⟨⟨fun c c1 cn ci pi => ?_, fun c c1 cn pi => by omega⟩, fun c c1 cn pi => by omega⟩
  rw [G _ (by omega), G _ (by omega)]
  exact h c c1 (by omega)
theorem Hp.hole {l : List Ev} {m i : Nat} (h : Hp l (m + 1)) (hl : l.length = m + 1) (hi : i < m) : Ho (swp l i m) m i := by
  have G := g_swp (l := l) (i := i) (k := m) (by omega) (by omega)
  refine ⟨fun c c1 cn ci pi => ?_, fun c c1 cn pi i1 => ?_⟩
  · rw [G, G, if_neg (by omega), if_neg pi, if_neg (by omega), if_neg ci]
    exact h c c1 (by omega)
  · rw [G, G, if_neg (by omega), if_neg (by omega), if_neg (by omega), if_neg (by omega)]
    have a := h i i1 (by omega)
    have b := h c c1 (by omega)
    rw [pi] at b
    exact le_trans a b
theorem Hp.root {l : List Ev} {n : Nat} (h : Hp l n) : ∀ c, c < n → le (g l 0) (g l c) := by
  intro c
  induction c using Nat.strongRecOn with
  | _ c ih =>
    intro hc
    rcases Nat.eq_zero_or_pos c with e | e
    · subst e; exact le_refl _
    · exact le_trans (ih ((c - 1) / 2) (by omega) (by omega)) (h c e hc)
theorem Hp.congr {l l' : List Ev} {n : Nat} (h : Hp l n) (e : ∀ c, c < n → g l' c = g l c) : Hp l' n := fun c c1 cn => by rw [e _ (by omega), e _ cn]; exact h c c1 cn
theorem Hp.mono {l : List Ev} {n m : Nat} (h : Hp l n) (hm : m ≤ n) : Hp l m := fun c c1 cn => h c c1 (by omega)
/-- what a walk within a heap leaves as it was: which events, those from n on -/
structure Wk (l0 l : List Ev) (n : Nat) : Prop where
  perm : l.Perm l0
  tail : ∀ c, n ≤ c → g l c = g l0 c
theorem Wk.refl (l : List Ev) (n : Nat) : Wk l l n := ⟨List.Perm.refl _, fun _ _ => rfl⟩
theorem Wk.len {l0 l : List Ev} {n : Nat} (h : Wk l0 l n) : l.length = l0.length := h.perm.length_eq
theorem Wk.swp {l0 l : List Ev} {n i k : Nat} (h : Wk l0 l n) (hi : i < n) (hk : k < n) (hn : n ≤ l.length) : Wk l0 (swp l i k) n :=
  ⟨(swp_perm (by omega) (by omega)).trans h.perm, fun c hc => by rw [g_swp (by omega) (by omega), if_neg (by omega), if_neg (by omega)]; exact h.tail c hc⟩
theorem Wk.trans {l0 l1 l2 : List Ev} {n : Nat} (h : Wk l0 l1 n) (k : Wk l1 l2 n) : Wk l0 l2 n := ⟨k.perm.trans h.perm, fun c hc => (k.tail c hc).trans (h.tail c hc)⟩
theorem take_last {l : List Ev} {m : Nat} (h : l.length = m + 1) : l = l.take m ++ [g l m] := by
  rw [g_at (by omega), ← List.take_succ_eq_append_getElem (by omega), ← h, List.take_length]
theorem g_take {l : List Ev} {m c : Nat} (hc : c < m) : g (l.take m) c = g l c := by
  unfold g; rw [List.getD_eq_getElem?_getD, List.getElem?_take, if_pos hc, List.getD_eq_getElem?_getD]
end Qu
end Go.Proofs.YtokepgnnepjiaaaGreat.Q

/- Events in memory; order, Less, Swap, Len. -/
namespace Go.Proofs.YtokepgnnepjiaaaGreat.Q
set_option maxRecDepth 100000
open Go.RowKit Qu Go.Maps
set_option linter.unusedVariables false
set_option linter.unusedSimpArgs false

theorem ret_int {k : IntKind} {a b : Int} (h : a = b) : Ending.returned (.int k a) = .returned (.int k b) := by rw [h]
theorem ret_bool {a b : Bool} (h : a = b) : Ending.returned (.bool a) = .returned (.bool b) := by rw [h]
theorem isNaN_c (x : Int) (w : World) : Calls Tryz.prog 93 #[.int .i64 x] w fun e w' => e = .returned (.bool false) ∧ w' = w := by
  have h : (x != x) = false := by simp
  go_enter Tryz.func93, Tryz.ntmps93
  go_wp2
  go_ret
  exact ⟨ret_bool (by simp), rfl⟩
/-- how two numbers stand -/
def cm (x y : Int) : Int := if x < y then -1 else if y < x then 1 else 0
set_option maxHeartbeats 400000 in
theorem compare_c (x y : Int) (w : World) : Calls Tryz.prog 69 #[.int .i64 x, .int .i64 y] w fun e w' => e = .returned (.int .i64 (cm x y)) ∧ w' = w := by
  go_enter Tryz.func69, Tryz.ntmps69
  go_wp2_with (first
    | (go_at_call 93; refine (isNaN_c _ _).mono ?_; rintro e w' ⟨rfl, rfl⟩))
  all_goals (go_ret; exact ⟨ret_int (by unfold cm; repeat' split <;> omega), rfl⟩)
/-- the first that isn't 0 -/
def or4 (a b c d : Int) : Int := if a ≠ 0 then a else if b ≠ 0 then b else if c ≠ 0 then c else d
set_option maxHeartbeats 1000000 in
theorem or_c (B : Nat) (a b c d : Int) (w : World) (h0 : w.cell? ⟨B, 0, none⟩ = some (.int .i64 a)) (h1 : w.cell? ⟨B, 1, none⟩ = some (.int .i64 b)) (h2 : w.cell? ⟨B, 2, none⟩ = some (.int .i64 c)) (h3 : w.cell? ⟨B, 3, none⟩ = some (.int .i64 d)) : Calls Tryz.prog 175 #[.slice (some ⟨B, 0, none⟩) 4 4] w fun e w' => e = .returned (.int .i64 (or4 a b c d)) ∧ w' = w := by
  go_enter Tryz.func175, Tryz.ntmps175
  go_wp2
  go_rounds 5
  all_goals (go_ret; exact ⟨ret_int (by unfold or4; simp_all), rfl⟩)
end Go.Proofs.YtokepgnnepjiaaaGreat.Q

/- Which of two events is ahead. -/
namespace Go.Proofs.YtokepgnnepjiaaaGreat.Q
set_option maxRecDepth 100000
open Go.RowKit Qu Go.Maps
set_option linter.unusedVariables false
set_option linter.unusedSimpArgs false

def evC (e : Ev) : List Value := [.int .i64 e.t, .int .i64 e.nd, .string e.v, .int .i64 e.fr, .int .i64 e.sq, .bool e.an]
def evG (e : Ev) : Value := .agg #[.int .i64 e.t, .int .i64 e.nd, .string e.v, .int .i64 e.fr, .int .i64 e.sq, .bool e.an]
def ord (a b : Ev) : Int := or4 (cm a.t b.t) (cm a.nd b.nd) (cm a.fr b.fr) (cm a.sq b.sq)
theorem cm_lt {x y : Int} : cm x y < 0 ↔ x < y := by unfold cm; repeat' split <;> omega
theorem cm_eq {x y : Int} : cm x y = 0 ↔ x = y := by unfold cm; repeat' split <;> omega
theorem ord_lt (a b : Ev) : ord a b < 0 ↔ lt a b := by
  unfold ord or4 lt
  have h1 := cm_lt (x := a.t) (y := b.t)
  have h2 := cm_lt (x := a.nd) (y := b.nd)
  have h3 := cm_lt (x := a.fr) (y := b.fr)
  have h4 := cm_lt (x := a.sq) (y := b.sq)
  have e1 := cm_eq (x := a.t) (y := b.t)
  have e2 := cm_eq (x := a.nd) (y := b.nd)
  have e3 := cm_eq (x := a.fr) (y := b.fr)
  split
  · omega
  · split
    · omega
    · split <;> omega
theorem belA {w a : World} (h : Below w.heap.size w a) (o : Obj) : Below w.heap.size w (a.alloc o) := h.alloc h.size o
theorem hLt {w : World} {g : Nat} {o : Obj} (h : w.heap[g]? = some o) : g < w.heap.size := (Array.getElem?_eq_some_iff.1 h).1
theorem alAt {W : World} {o : Obj} {n : Nat} (h : W.heap.size = n) : (W.alloc o).heap[n]? = some o := by subst h; show (W.heap.push o)[W.heap.size]? = _; simp
theorem alOld {W : World} {o : Obj} {k : Nat} (h : k < W.heap.size) : (W.alloc o).heap[k]? = W.heap[k]? := (belA (Below.refl W.heap.size W) o).block k h
theorem or_new (W : World) (a b c d : Int) (t : TypeId) : Calls Tryz.prog 175 #[.slice (some ⟨W.heap.size, 0, none⟩) 4 4] (W.alloc (.cells #[.int .i64 a, .int .i64 b, .int .i64 c, .int .i64 d] t)).drew fun e w' => e = .returned (.int .i64 (or4 a b c d)) ∧ w' = (W.alloc (.cells #[.int .i64 a, .int .i64 b, .int .i64 c, .int .i64 d] t)).drew := by
  have h : ((W.alloc (.cells #[.int .i64 a, .int .i64 b, .int .i64 c, .int .i64 d] t)).drew).heap[W.heap.size]? = some (.cells #[.int .i64 a, .int .i64 b, .int .i64 c, .int .i64 d] t) := alAt rfl
  exact or_c _ a b c d _ (by rw [Lib.cell_of_heap h]; rfl) (by rw [Lib.cell_of_heap h]; rfl) (by rw [Lib.cell_of_heap h]; rfl) (by rw [Lib.cell_of_heap h]; rfl)
set_option maxHeartbeats 4000000 in
theorem order_c (a b : Ev) (w : World) : Calls Tryz.prog 174 #[evG a, evG b] w fun e w' => e = .returned (.int .i64 (ord a b)) ∧ Below w.heap.size w w' := by
  obtain ⟨at_, an, av, af, as_, aa⟩ := a
  obtain ⟨bt, bn, bv, bf, bs, ba⟩ := b
  unfold evG ord
  dsimp only
  go_enter Tryz.func174, Tryz.ntmps174
  go_wp2
  obtain ⟨W, hW⟩ : ∃ W, W = (w.alloc (.cells #[.int .i64 at_, .int .i64 an, .string av, .int .i64 af, .int .i64 as_, .bool aa] 39)).alloc (.cells #[.int .i64 bt, .int .i64 bn, .string bv, .int .i64 bf, .int .i64 bs, .bool ba] 39) := ⟨_, rfl⟩
  have HB : Hid (Below w.heap.size w W) := by rw [hW]; exact belA (belA (Below.refl _ _) _) _
  have a0 : W.cell? ⟨w.heap.size, 0, none⟩ = some (.int .i64 at_) := by rw [hW]; go_simp
  have a1 : W.cell? ⟨w.heap.size, 1, none⟩ = some (.int .i64 an) := by rw [hW]; go_simp
  have a3 : W.cell? ⟨w.heap.size, 3, none⟩ = some (.int .i64 af) := by rw [hW]; go_simp
  have a4 : W.cell? ⟨w.heap.size, 4, none⟩ = some (.int .i64 as_) := by rw [hW]; go_simp
  have b0 : W.cell? ⟨w.heap.size + 1, 0, none⟩ = some (.int .i64 bt) := by rw [hW]; go_simp
  have b1 : W.cell? ⟨w.heap.size + 1, 1, none⟩ = some (.int .i64 bn) := by rw [hW]; go_simp
  have b3 : W.cell? ⟨w.heap.size + 1, 3, none⟩ = some (.int .i64 bf) := by rw [hW]; go_simp
  have b4 : W.cell? ⟨w.heap.size + 1, 4, none⟩ = some (.int .i64 bs) := by rw [hW]; go_simp
  rw [← hW]
  clear hW
  obtain ⟨N, hN⟩ : ∃ N, w.heap.size = N := ⟨_, rfl⟩
  rw [hN] at a0 a1 a3 a4 b0 b1 b3 b4 ⊢
  rw [← hN]
  rw [hN]
  have hN' : Hid (w.heap.size = N) := hN
  clear hN
  go_region_held (fun w' => w'.cell? ⟨N, 0, none⟩ = some (.int .i64 at_) ∧ w'.cell? ⟨N, 1, none⟩ = some (.int .i64 an) ∧ w'.cell? ⟨N, 3, none⟩ = some (.int .i64 af) ∧ w'.cell? ⟨N, 4, none⟩ = some (.int .i64 as_) ∧ w'.cell? ⟨N + 1, 0, none⟩ = some (.int .i64 bt) ∧ w'.cell? ⟨N + 1, 1, none⟩ = some (.int .i64 bn) ∧ w'.cell? ⟨N + 1, 3, none⟩ = some (.int .i64 bf) ∧ w'.cell? ⟨N + 1, 4, none⟩ = some (.int .i64 bs)) (go_keep) (first
    | (go_at_call 69; refine (compare_c _ _ _).mono ?_; rintro e w' ⟨rfl, rfl⟩)
    | (go_at_call 175; refine (or_new W (cm at_ bt) (cm an bn) (cm af bf) (cm as_ bs) _).mono ?_; rintro e w' ⟨rfl, rfl⟩))
  all_goals (go_wp2; go_ret; exact ⟨rfl, (belA HB.out _).drew⟩)
end Go.Proofs.YtokepgnnepjiaaaGreat.Q

/- Rows of events in memory: Len, Less, Swap. -/
namespace Go.Proofs.YtokepgnnepjiaaaGreat.Q
set_option maxRecDepth 100000
open Go.RowKit Qu Go.Maps
set_option linter.unusedVariables false
set_option linter.unusedSimpArgs false

def evs (l : List Ev) : List Value := l.flatMap evC
theorem evs_cons (e : Ev) (l : List Ev) : evs (e :: l) = evC e ++ evs l := rfl
theorem evs_app (a b : List Ev) : evs (a ++ b) = evs a ++ evs b := by unfold evs; rw [List.flatMap_append]
theorem evs_len (l : List Ev) : (evs l).length = l.length * 6 := by
  induction l with
  | nil => rfl
  | cons e l ih => rw [evs_cons, List.length_append, ih]; simp [evC]; omega
theorem evs_at (l : List Ev) (i c : Nat) (hi : i < l.length) (hc : c < 6) : (evs l)[i * 6 + c]? = (evC (g l i))[c]? := by
  induction l generalizing i with
  | nil => cases hi
  | cons e l ih =>
    rw [evs_cons]
    match i with
    | 0 => rw [List.getElem?_append_left (by simp [evC]; omega)]; simp [g]
    | i + 1 =>
      rw [List.getElem?_append_right (by simp [evC]; omega), show (i + 1) * 6 + c - (evC e).length = i * 6 + c by simp [evC]; omega, ih i (by simpa using hi)]
      rfl
def set6 (xs : List Value) (i : Nat) (e : Ev) : List Value := (((((xs.set (i * 6) (.int .i64 e.t)).set (i * 6 + 1) (.int .i64 e.nd)).set (i * 6 + 2) (.string e.v)).set (i * 6 + 3) (.int .i64 e.fr)).set (i * 6 + 4) (.int .i64 e.sq)).set (i * 6 + 5) (.bool e.an)
theorem evs_set (l : List Ev) (i : Nat) (e : Ev) (hi : i < l.length) : set6 (evs l) i e = evs (l.set i e) := by
  induction l generalizing i with
  | nil => cases hi
  | cons a l ih =>
    match i with
    | 0 => rfl
    | i + 1 =>
      have := ih i (by simpa using hi)
      rw [List.set_cons_succ, evs_cons, evs_cons, ← this]
      unfold set6
      rw [show (i + 1) * 6 = i * 6 + 1 + 1 + 1 + 1 + 1 + 1 by omega]
      rfl
/-- a row of events -/
def EvR (B : Nat) (W : World) (gb cap : Nat) (l : List Ev) : Prop := W.ownsRow B 39 6 (.slice (some ⟨gb, 0, none⟩) l.length cap) l.length (evs l)
theorem EvR.cells {B : Nat} {W : World} {gb cap : Nat} {l : List Ev} (h : EvR B W gb cap l) (i : Nat) (hi : i < l.length) :
    W.cell? ⟨gb, i * 6, none⟩ = some (.int .i64 (g l i).t) ∧ W.cell? ⟨gb, i * 6 + 1, none⟩ = some (.int .i64 (g l i).nd) ∧ W.cell? ⟨gb, i * 6 + 2, none⟩ = some (.string (g l i).v) ∧ W.cell? ⟨gb, i * 6 + 3, none⟩ = some (.int .i64 (g l i).fr) ∧ W.cell? ⟨gb, i * 6 + 4, none⟩ = some (.int .i64 (g l i).sq) ∧ W.cell? ⟨gb, i * 6 + 5, none⟩ = some (.bool (g l i).an) := by
  have k : ∀ c, c < 6 → W.cell? ⟨gb, i * 6 + c, none⟩ = (evC (g l i))[c]? := fun c hc => (h.cellAt _ (by omega)).trans (evs_at l i c hi hc)
  exact ⟨k 0 (by omega), k 1 (by omega), k 2 (by omega), k 3 (by omega), k 4 (by omega), k 5 (by omega)⟩
theorem EvR.frozen {B : Nat} {W : World} {gb cap : Nat} {l : List Ev} (h : EvR B W gb cap l) (j : Nat) : W.frozen? ⟨gb, j, none⟩ = false := World.ownsRow.frozenAt h j
theorem EvR.lt {B : Nat} {W : World} {gb cap : Nat} {l : List Ev} (h : EvR B W gb cap l) : gb < W.heap.size := (World.ownsRow.lt h gb rfl).2
theorem EvR.ge {B : Nat} {W : World} {gb cap : Nat} {l : List Ev} (h : EvR B W gb cap l) : B ≤ gb := (World.ownsRow.lt h gb rfl).1
theorem own_at {w w' : World} {B e z n : Nat} {v : Value} {xs : List Value} (h : w.ownsRow B e z v n xs) (hb : ∀ k, v.ownBlock = some k → w'.heap[k]? = w.heap[k]?) : w'.ownsRow B e z v n xs := by
  obtain ⟨h1, h2⟩ := h
  refine ⟨h1, ?_⟩
  rcases h2 with h2 | ⟨g, cap, cur, rfl, hg, hh, r⟩
  · exact Or.inl h2
  · exact Or.inr ⟨g, cap, cur, rfl, hg, (hb g rfl).trans hh, r⟩
theorem EvR.at_ {B : Nat} {W W' : World} {gb cap : Nat} {l : List Ev} (h : EvR B W gb cap l) (e : W'.heap[gb]? = W.heap[gb]?) : EvR B W' gb cap l := own_at h fun k hk => by injection hk with hk; subst hk; exact e
theorem EvR.drew {B : Nat} {W : World} {gb cap : Nat} {l : List Ev} (h : EvR B W gb cap l) : EvR B W.drew gb cap l := h.at_ rfl
/-- the world with the six cells of an event set -/
def sw6 (W : World) (gb i : Nat) (e : Ev) : World := (((((W.setCell ⟨gb, i * 6, none⟩ (.int .i64 e.t)).setCell ⟨gb, i * 6 + 1, none⟩ (.int .i64 e.nd)).setCell ⟨gb, i * 6 + 2, none⟩ (.string e.v)).setCell ⟨gb, i * 6 + 3, none⟩ (.int .i64 e.fr)).setCell ⟨gb, i * 6 + 4, none⟩ (.int .i64 e.sq)).setCell ⟨gb, i * 6 + 5, none⟩ (.bool e.an)
theorem EvR.set {B : Nat} {W : World} {gb cap : Nat} {l : List Ev} (h : EvR B W gb cap l) (i : Nat) (hi : i < l.length) (e : Ev) : EvR B (sw6 W gb i e) gb cap (l.set i e) := by
  unfold EvR
  rw [List.length_set, ← evs_set l i e hi]
  exact ((((((h.stored _ _).1.stored _ _).1.stored _ _).1.stored _ _).1.stored _ _).1.stored _ _).1
/-- one block alone has turned; more may be there -/
structure But (T : Nat) (w w' : World) : Prop where
  os : w'.os = w.os
  tape : w'.tape = w.tape
  output : w'.output = w.output
  size : w.heap.size ≤ w'.heap.size
  block : ∀ k, k < w.heap.size → k ≠ T → w'.heap[k]? = w.heap[k]?
theorem But.refl (T : Nat) (w : World) : But T w w := ⟨rfl, rfl, rfl, Nat.le_refl _, fun _ _ _ => rfl⟩
theorem But.trans {T : Nat} {a b c : World} (h : But T a b) (k : But T b c) : But T a c := ⟨k.os.trans h.os, k.tape.trans h.tape, k.output.trans h.output, Nat.le_trans h.size k.size, fun i hi ne => (k.block i (Nat.lt_of_lt_of_le hi h.size) ne).trans (h.block i hi ne)⟩
theorem But.set {T : Nat} {w w' : World} (h : But T w w') (i : Nat) (v : Value) : But T w (w'.setCell ⟨T, i, none⟩ v) :=
  ⟨h.os, h.tape, h.output, by rw [show (w'.setCell ⟨T, i, none⟩ v).heap.size = w'.heap.size by simp [World.setCell]]; exact h.size, fun k hk ne => (Below.heap_setCell _ _ _ _ (by show k ≠ T; exact ne)).trans (h.block k hk ne)⟩
theorem But.below {T : Nat} {w w' w2 : World} (h : But T w w') (k : Below w'.heap.size w' w2) : But T w w2 := ⟨k.os.trans h.os, k.tape.trans h.tape, k.output.trans h.output, Nat.le_trans h.size k.size, fun i hi ne => (k.block i (Nat.lt_of_lt_of_le hi h.size)).trans (h.block i hi ne)⟩
theorem But.of {T : Nat} {w w' : World} (k : Below w.heap.size w w') : But T w w' := (But.refl T w).below k
theorem But.drew {T : Nat} {w w' : World} (h : But T w w') : But T w w'.drew := ⟨h.os, h.tape, h.output, h.size, h.block⟩
theorem But.cell {T : Nat} {w w' : World} (h : But T w w') {a : Addr} (hl : a.block < w.heap.size) (ne : a.block ≠ T) : w'.cell? a = w.cell? a := World.cell?_of_block (h.block _ hl ne)
theorem But.six {T : Nat} {w w' : World} (h : But T w w') (i : Nat) (e : Ev) : But T w (sw6 w' T i e) := (((((h.set _ _).set _ _).set _ _).set _ _).set _ _).set _ _
theorem lenE_c (v : Option Addr) (n cap : Nat) (w : World) : Calls Tryz.prog 171 #[.slice v n cap] w fun e w' => e = .returned (.int .i64 (n : Int)) ∧ w' = w := by
  go_enter Tryz.func171, Tryz.ntmps171
  go_wp2
  go_ret
  exact ⟨rfl, rfl⟩
set_option maxHeartbeats 4000000 in
theorem less_c (B gb cap : Nat) (l : List Ev) (i k : Nat) (w : World) (h : EvR B w gb cap l) (hi : i < l.length) (hk : k < l.length) (hn : l.length ≤ 4611686018427387904) : Calls Tryz.prog 172 #[.slice (some ⟨gb, 0, none⟩) l.length cap, .int .i64 (i : Int), .int .i64 (k : Int)] w fun e w' => e = .returned (.bool (decide (lt (g l i) (g l k)))) ∧ Below w.heap.size w w' := by
  have HO : Hid (∀ a b W, Calls Tryz.prog 174 #[evG a, evG b] W fun e w' => e = .returned (.int .i64 (ord a b)) ∧ Below W.heap.size W w') := order_c
  obtain ⟨a0, a1, a2, a3, a4, a5⟩ := h.cells i hi
  obtain ⟨b0, b1, b2, b3, b4, b5⟩ := h.cells k hk
  have HD : Hid (decide (lt (g l i) (g l k)) = decide (ord (g l i) (g l k) < 0)) := by show _ = _; rw [decide_eq_decide]; exact (ord_lt _ _).symm
  have hl := h.lt
  clear h
  generalize g l i = a at a0 a1 a2 a3 a4 a5 HD ⊢
  generalize g l k = b at b0 b1 b2 b3 b4 b5 HD ⊢
  rw [HD.out]
  clear HD
  generalize l.length = n at hi hk hn ⊢
  have i1 : (0 : Int) ≤ (i : Int) := by omega
  have i2 : (i : Int) < (n : Int) := by omega
  have k1 : (0 : Int) ≤ (k : Int) := by omega
  have k2 : (k : Int) < (n : Int) := by omega
  have HR := HO.out a b w.drew
  unfold evG at HR
  have HR' : Hid (Calls Tryz.prog 174 #[.agg #[.int .i64 a.t, .int .i64 a.nd, .string a.v, .int .i64 a.fr, .int .i64 a.sq, .bool a.an], .agg #[.int .i64 b.t, .int .i64 b.nd, .string b.v, .int .i64 b.fr, .int .i64 b.sq, .bool b.an]] w.drew fun e w' => e = .returned (.int .i64 (ord a b)) ∧ Below w.drew.heap.size w.drew w') := HR
  clear HR HO
  generalize ord a b = z at HR' ⊢
  go_enter Tryz.func172, Tryz.ntmps172
  go_wp2
  go_region_with (first
    | (go_at_call 174; refine HR'.out.mono ?_; rintro e w' ⟨rfl, hb⟩))
  all_goals (go_wp2; go_ret; exact ⟨rfl, (Below.refl _ w).drew.trans hb⟩)
set_option maxHeartbeats 4000000 in
theorem swap_ne (B gb cap : Nat) (l : List Ev) (i k : Nat) (w : World) (h : EvR B w gb cap l) (hi : i < l.length) (hk : k < l.length) (hik : i ≠ k) : Calls Tryz.prog 173 #[.slice (some ⟨gb, 0, none⟩) l.length cap, .int .i64 (i : Int), .int .i64 (k : Int)] w fun e w' => e = .returned (.tuple #[]) ∧ EvR B w' gb cap (swp l i k) ∧ But gb w w' := by
  obtain ⟨a0, a1, a2, a3, a4, a5⟩ := h.cells i hi
  obtain ⟨b0, b1, b2, b3, b4, b5⟩ := h.cells k hk
  have hl := h.lt
  have f0 := h.frozen (i * 6)
  have f1 := h.frozen (i * 6 + 1)
  have f2 := h.frozen (i * 6 + 2)
  have f3 := h.frozen (i * 6 + 3)
  have f4 := h.frozen (i * 6 + 4)
  have f5 := h.frozen (i * 6 + 5)
  have k0 := h.frozen (k * 6)
  have k1 := h.frozen (k * 6 + 1)
  have k2 := h.frozen (k * 6 + 2)
  have k3 := h.frozen (k * 6 + 3)
  have k4 := h.frozen (k * 6 + 4)
  have k5 := h.frozen (k * 6 + 5)
  have HE : Hid (EvR B (sw6 (sw6 w gb i (g l k)) gb k (g l i)) gb cap (swp l i k)) := (h.set i hi _).set k (by simpa using hk) _
  clear h
  have i1 : (0 : Int) ≤ (i : Int) := by omega
  have i2 : (i : Int) < (l.length : Int) := by omega
  have k1' : (0 : Int) ≤ (k : Int) := by omega
  have k2' : (k : Int) < (l.length : Int) := by omega
  have HG : Hid (But gb w (sw6 (sw6 w gb i (g l k)) gb k (g l i))) := ((But.refl gb w).six _ _).six _ _
  generalize swp l i k = l' at HE ⊢
  unfold sw6 at HE HG
  generalize g l i = a at a0 a1 a2 a3 a4 a5 HE HG ⊢
  generalize g l k = b at b0 b1 b2 b3 b4 b5 HE HG ⊢
  generalize l.length = n at *
  go_enter Tryz.func173, Tryz.ntmps173
  go_region
  all_goals (go_end0; exact ⟨rfl, HE.out.drew, HG.out.drew⟩)
set_option maxHeartbeats 4000000 in
theorem swap_eq (B gb cap : Nat) (l : List Ev) (i : Nat) (w : World) (h : EvR B w gb cap l) (hi : i < l.length) : Calls Tryz.prog 173 #[.slice (some ⟨gb, 0, none⟩) l.length cap, .int .i64 (i : Int), .int .i64 (i : Int)] w fun e w' => e = .returned (.tuple #[]) ∧ EvR B w' gb cap (swp l i i) ∧ But gb w w' := by
  obtain ⟨a0, a1, a2, a3, a4, a5⟩ := h.cells i hi
  have hl := h.lt
  have f0 := h.frozen (i * 6)
  have f1 := h.frozen (i * 6 + 1)
  have f2 := h.frozen (i * 6 + 2)
  have f3 := h.frozen (i * 6 + 3)
  have f4 := h.frozen (i * 6 + 4)
  have f5 := h.frozen (i * 6 + 5)
  have HE : Hid (EvR B (sw6 (sw6 w gb i (g l i)) gb i (g l i)) gb cap (swp l i i)) := (h.set i hi _).set i (by simpa using hi) _
  clear h
  have i1 : (0 : Int) ≤ (i : Int) := by omega
  have i2 : (i : Int) < (l.length : Int) := by omega
  have HG : Hid (But gb w (sw6 (sw6 w gb i (g l i)) gb i (g l i))) := ((But.refl gb w).six _ _).six _ _
  generalize swp l i i = l' at HE ⊢
  unfold sw6 at HE HG
  generalize g l i = a at a0 a1 a2 a3 a4 a5 HE HG ⊢
  generalize l.length = n at *
  go_enter Tryz.func173, Tryz.ntmps173
  go_region
  all_goals (go_end0; exact ⟨rfl, HE.out.drew, HG.out.drew⟩)
theorem swap_c (B gb cap : Nat) (l : List Ev) (i k : Nat) (w : World) (h : EvR B w gb cap l) (hi : i < l.length) (hk : k < l.length) : Calls Tryz.prog 173 #[.slice (some ⟨gb, 0, none⟩) l.length cap, .int .i64 (i : Int), .int .i64 (k : Int)] w fun e w' => e = .returned (.tuple #[]) ∧ EvR B w' gb cap (swp l i k) ∧ But gb w w' := by
  by_cases e : i = k
  · subst e; exact swap_eq B gb cap l i w h hi
  · exact swap_ne B gb cap l i k w h hi hk e
end Go.Proofs.YtokepgnnepjiaaaGreat.Q

/- The library's heap over a row of events: up, down. -/
namespace Go.Proofs.YtokepgnnepjiaaaGreat.Q
set_option maxRecDepth 100000
open Go.RowKit Qu Go.Maps
set_option linter.unusedVariables false
set_option linter.unusedSimpArgs false

theorem mLess (a : Addr) (ao : Option Addr) (n cap : Nat) (W : World) (h : W.cell? a = some (.slice ao n cap)) : (method 330 104 (.pointer (some a)) "Less").run Tryz.prog W = .ok (172, .slice ao n cap) W := by
  have e : (method 330 104 (.pointer (some a)) "Less").run Tryz.prog W = (do let v ← loadVar 99 a; pure (172, v) : Sem (FuncId × Value)).run Tryz.prog W := by kernel_rfl
  rw [e]
  go_simp
theorem mSwap (a : Addr) (ao : Option Addr) (n cap : Nat) (W : World) (h : W.cell? a = some (.slice ao n cap)) : (method 330 104 (.pointer (some a)) "Swap").run Tryz.prog W = .ok (173, .slice ao n cap) W := by
  have e : (method 330 104 (.pointer (some a)) "Swap").run Tryz.prog W = (do let v ← loadVar 99 a; pure (173, v) : Sem (FuncId × Value)).run Tryz.prog W := by kernel_rfl
  rw [e]
  go_simp
theorem mLen (a : Addr) (ao : Option Addr) (n cap : Nat) (W : World) (h : W.cell? a = some (.slice ao n cap)) : (method 330 104 (.pointer (some a)) "Len").run Tryz.prog W = .ok (171, .slice ao n cap) W := by
  have e : (method 330 104 (.pointer (some a)) "Len").run Tryz.prog W = (do let v ← loadVar 99 a; pure (171, v) : Sem (FuncId × Value)).run Tryz.prog W := by kernel_rfl
  rw [e]
  go_simp
theorem mPush (a : Addr) (W : World) : (method 330 104 (.pointer (some a)) "Push").run Tryz.prog W = .ok (177, .pointer (some a)) W := by kernel_rfl
theorem mPop (a : Addr) (W : World) : (method 330 104 (.pointer (some a)) "Pop").run Tryz.prog W = .ok (176, .pointer (some a)) W := by kernel_rfl
end Go.Proofs.YtokepgnnepjiaaaGreat.Q

/- Texts KP KQ, joined: what each part says stands ahead of it. -/
import Derived.Test.YtokepgnnepjiaaaGreatGKd
/- The reference's Levels. -/
namespace Go.Proofs.YtokepgnnepjiaaaGreat
set_option maxRecDepth 100000
open Go.RowKit Lg Nl Go.Maps
set_option linter.unusedVariables false
set_option linter.unusedSimpArgs false

theorem hang_mem {l : List Nd} (hk : Ok l) {x : Nd} (hx : x ∈ l) : ∀ z ∈ hangL x, inB l.length z = true := by
  intro z hz
  have h := hk.i x hx
  rw [List.all_eq_true] at h
  unfold hangL at hz
  split at hz
  · cases hz
  · split at hz
    · exact h z (List.mem_of_mem_take hz)
    · exact h z hz
theorem hang_len {l : List Nd} (hk : Ok l) {x : Nd} (hx : x ∈ l) : (hangL x).length ≤ 256 := by
  have := hk.q x hx
  unfold hangL
  split
  · simp
  · split
    · rw [List.length_take]; omega
    · exact this
theorem hgs_take (x : Nd) (k : Nat) (hk : k < (hangL x).length) : (hgs x).take (k + 1) = (hgs x).take k ++ [((hangL x)[k]).toNat] := by
  have h : k < (hgs x).length := by simpa [hgs] using hk
  rw [List.take_succ_eq_append_getElem h]
  simp [hgs]
theorem hgs_len (x : Nd) : (hgs x).length = (hangL x).length := by simp [hgs]
theorem mulE (r n : Nat) : (r + 1) * (n * 256) = r * (n * 256) + n * 256 := by rw [Nat.add_mul, Nat.one_mul]
theorem S1.drewN {w W : World} {bx : Obj} (h : S1 w bx W) (n : Nat) : S1 w bx (W.drewN n) := ⟨belDN h.bel n, h.x⟩
end Go.Proofs.YtokepgnnepjiaaaGreat

/- A netlist that grows: the shared book's adds. -/
namespace Go.Proofs.YtokepgnnepjiaaaGreat
set_option maxRecDepth 100000
open Go.RowKit Lg Nl Go.Maps
set_option linter.unusedVariables false
set_option linter.unusedSimpArgs false

/-- blocks from B on, but two -/
def Nb1 (B b : Nat) (v : Value) : Nat → Prop := fun g => B ≤ g ∧ g ≠ b ∧ v.ownBlock ≠ some g
def Nb (B b : Nat) (v vT : Value) : Nat → Prop := fun g => Nb1 B b v g ∧ vT.ownBlock ≠ some g
/-- numbers in a block such as N tells -/
def IntsN (w : World) (N : Nat → Prop) (v : Value) (l : List Int) : Prop :=
  ∃ ao cap, v = .slice ao l.length cap ∧ l.length ≤ cap ∧ (l = [] ∨ ∃ g o, ao = some ⟨g, o, none⟩ ∧ N g ∧ g < w.heap.size ∧ ∀ i (h : i < l.length), w.cell? ⟨g, o + i, none⟩ = some (.int .i64 l[i]))
def KeepN (N : Nat → Prop) (w w' : World) : Prop := w.heap.size ≤ w'.heap.size ∧ ∀ k, k < w.heap.size → N k → w'.heap[k]? = w.heap[k]?
theorem IntsN.keep {w w' : World} {N : Nat → Prop} {v : Value} {l : List Int} (h : IntsN w N v l) (hk : KeepN N w w') : IntsN w' N v l := by
  obtain ⟨ao, cap, rfl, hc, h⟩ := h
  refine ⟨ao, cap, rfl, hc, ?_⟩
  rcases h with h | ⟨g, o, rfl, hN, hg, h⟩
  · exact Or.inl h
  · exact Or.inr ⟨g, o, rfl, hN, Nat.lt_of_lt_of_le hg hk.1, fun i hi => by rw [World.cell?_of_block (w := w) (a := ⟨g, o + i, none⟩) (hk.2 g hg hN)]; exact h i hi⟩
theorem IntsN.mono {w : World} {N N' : Nat → Prop} {v : Value} {l : List Int} (h : IntsN w N v l) (hm : ∀ g, g < w.heap.size → N g → N' g) : IntsN w N' v l := by
  obtain ⟨ao, cap, rfl, hc, h⟩ := h
  refine ⟨ao, cap, rfl, hc, ?_⟩
  rcases h with h | ⟨g, o, rfl, hN, hg, h⟩
  · exact Or.inl h
  · exact Or.inr ⟨g, o, rfl, hm g hg hN, hg, h⟩
theorem IntsN.ints {w : World} {N : Nat → Prop} {v : Value} {l : List Int} (h : IntsN w N v l) : IntsAt w v l := by
  obtain ⟨ao, cap, rfl, hc, h⟩ := h
  refine ⟨ao, cap, rfl, hc, ?_⟩
  rcases h with h | ⟨g, o, rfl, hN, hg, h⟩
  · exact Or.inl h
  · exact Or.inr ⟨g, o, rfl, hg, h⟩
/-- cells are those of nodes -/
inductive NcAt (w : World) (N : Nat → Prop) : List Nd → List Value → Prop
  | nil : NcAt w N [] []
  | cons {x : Nd} {vi : Value} {l : List Nd} {xs : List Value} (hi : IntsN w N vi x.ins) (h : NcAt w N l xs) : NcAt w N (x :: l) (ndC x vi ++ xs)
theorem NcAt.keep {w w' : World} {N : Nat → Prop} (hk : KeepN N w w') {l : List Nd} {xs : List Value} (h : NcAt w N l xs) : NcAt w' N l xs := by
  induction h with
  | nil => exact .nil
  | cons hi _ ih => exact .cons (hi.keep hk) ih
theorem NcAt.mono {w : World} {N N' : Nat → Prop} (hm : ∀ g, g < w.heap.size → N g → N' g) {l : List Nd} {xs : List Value} (h : NcAt w N l xs) : NcAt w N' l xs := by
  induction h with
  | nil => exact .nil
  | cons hi _ ih => exact .cons (hi.mono hm) ih
theorem NcAt.snoc {w : World} {N : Nat → Prop} {l : List Nd} {xs : List Value} (h : NcAt w N l xs) {x : Nd} {vi : Value} (hi : IntsN w N vi x.ins) : NcAt w N (l ++ [x]) (xs ++ ndC x vi) := by
  induction h with
  | nil => have := NcAt.cons hi (NcAt.nil (w := w) (N := N)); simpa using this
  | cons hi' _ ih => rw [List.append_assoc]; exact .cons hi' ih
theorem NcAt.at_ {w : World} {N : Nat → Prop} {l : List Nd} {xs : List Value} (h : NcAt w N l xs) : ∀ i (hi : i < l.length), ∃ vi, IntsN w N vi l[i].ins ∧ ∀ j u, (ndC l[i] vi)[j]? = some u → xs[i * 8 + j]? = some u := by
  induction h with
  | nil => intro i hi; cases hi
  | @cons x vi l xs h1 _ ih =>
    intro i hi
    cases i with
    | zero =>
      refine ⟨vi, h1, fun j u hu => ?_⟩
      have hu' : (ndC x vi)[j]? = some u := hu
      rw [Nat.zero_mul, Nat.zero_add, List.getElem?_append_left (List.getElem?_eq_some_iff.1 hu').1]
      exact hu'
    | succ i =>
      obtain ⟨vi', a, b⟩ := ih i (by simpa using hi)
      refine ⟨vi', a, fun j u hu => ?_⟩
      have e : (i + 1) * 8 + j = (ndC x vi).length + (i * 8 + j) := by show _ = 8 + _; omega
      rw [e, List.getElem?_append_right (by omega), Nat.add_sub_cancel_left]
      exact b j u hu
/-- its ports' number, and its nets -/
structure Pt where
  z : Int
  nets : List Int
theorem own_keep {w w' : World} {N : Nat → Prop} {B e z n : Nat} {v : Value} {xs : List Value} (h : w.ownsRow B e z v n xs) (hN : ∀ g, v.ownBlock = some g → N g) (hk : KeepN N w w') : w'.ownsRow B e z v n xs := by
  obtain ⟨h1, h2⟩ := h
  refine ⟨h1, ?_⟩
  rcases h2 with h2 | ⟨g, cap, cur, rfl, hg, hh, r⟩
  · exact Or.inl h2
  · exact Or.inr ⟨g, cap, cur, rfl, hg, (hk.2 g (hLt hh) (hN g rfl)).trans hh, r⟩
theorem own_neT {w : World} {B n b : Nat} {v : Value} {xs : List Value} {c : Array Value} {e t z : Nat} (ho : w.ownsRow B e z v n xs) (hb : w.heap[b]? = some (.cells c t (0, 0))) (ht : t ≠ e) : v.ownBlock ≠ some b := by
  intro h
  rcases ho.2 with ⟨rfl, _⟩ | ⟨g, cap, cur, rfl, _, hh, _⟩
  · cases h
  · simp [Value.ownBlock] at h
    subst h
    rw [hb] at hh
    injection hh with hh
    injection hh with _ h2
    exact ht h2
/-- what a call that adds nodes leaves: below B, and in blocks that are neither the netlist's nor its row's, all is as it was -/
structure Bx (B b : Nat) (v v' : Value) (w w' : World) : Prop where
  bel : Below B w w'
  kp : KeepN (Nb1 B b v) w w'
  nx : ∀ g, g < w.heap.size → Nb1 B b v g → Nb1 B b v' g
theorem Bx.of_below {B b : Nat} {v : Value} {w w' : World} (hB : B ≤ w.heap.size) (h : Below w.heap.size w w') : Bx B b v v w w' := ⟨h.mono hB, ⟨h.size, fun k hk _ => h.block k hk⟩, fun _ _ h => h⟩
theorem Bx.refl {B b : Nat} {v : Value} {w : World} : Bx B b v v w w := ⟨Below.refl _ _, ⟨Nat.le_refl _, fun _ _ _ => rfl⟩, fun _ _ h => h⟩
theorem Bx.trans {B b : Nat} {v v1 v2 : Value} {w w1 w2 : World} (h : Bx B b v v1 w w1) (k : Bx B b v1 v2 w1 w2) : Bx B b v v2 w w2 :=
  ⟨h.bel.trans k.bel, ⟨Nat.le_trans h.kp.1 k.kp.1, fun g hg hN => (k.kp.2 g (Nat.lt_of_lt_of_le hg h.kp.1) (h.nx g hg hN)).trans (h.kp.2 g hg hN)⟩, fun g hg hN => k.nx g (Nat.lt_of_lt_of_le hg h.kp.1) (h.nx g hg hN)⟩
theorem infoNd : ∃ i, Tryz.prog.info? 61 = some i ∧ i.zero = some (.agg #[.int .i64 0, .int .i64 0, .int .i64 0, .slice none 0 0, .string ⟨#[]⟩, .int .i64 0, .int .i64 0, .int .i64 0]) ∧ i.size = 8 ∧ i.bytes = 88 := info_parts (by kernel_rfl)
end Go.Proofs.YtokepgnnepjiaaaGreat

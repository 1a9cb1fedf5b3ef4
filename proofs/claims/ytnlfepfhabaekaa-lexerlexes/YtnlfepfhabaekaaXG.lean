/- Layer 2 of the program: the reader keeps a token. -/
import Derived.Test.YtnlfepfhabaekaaXC5
import Derived.Test.YtnlfepfhabaekaaMathM
import Derived.Deep.RegionLaw
import Derived.Laws.AppendOwn
namespace Go.Proofs.Ytnlfepfhabaekaa
open Go.RowKit Lg
set_option linter.unusedVariables false
set_option linter.unusedSimpArgs false

theorem step_append_own {P : Program} {ops : Array Oper} {o : Oper} {a : Act} {w : World} {K : Act → World → Prop} {Q : Exit → Act → World → Prop} {E : Prop}
    (hg : o.guard = none) (s x : Operand) (t : TypeId) (hop : o.op = Op.call { callee := Callee.builtin Builtin.append, args := #[s, x], argTypes := #[t, t] })
    (base : Nat) (e : TypeId) (i : TypeInfo) (z : Value) (size bytes : Nat) (h1 : P.underlying t = some (.slice e)) (h2 : P.info? e = some i) (h3 : i.zero = some z) (h4 : i.size = size) (h5 : i.bytes = bytes) (h6 : z.cells.size = size) (h7 : 0 < size)
    (v : Value) (n : Nat) (xs : List Value) (hs : a.eval s = v) (hown : w.ownsRow base e size v n xs)
    (ad : Addr) (m c : Nat) (news : List Value) (hx : a.eval x = .slice (some ad) m c) (hn : news.length = m * size) (hc : ∀ j u, news[j]? = some u → w.cell? (ad.add j) = some u) (h1c : ∀ u ∈ news, u.oneCell' = true)
    (b1 : n + m ≤ maxLen) (b2 : (n + m) * bytes ≤ 140737488355328) (hbase : base ≤ w.heap.size)
    (hK : ∀ v' w', w'.ownsRow base e size v' (n + m) (xs ++ news) → w.grownBy w' v.ownBlock → K (a.put o.dst v') w') :
    if Region.wanted o (yielded ops a.tmps) = true then Oper.wp P o a w K Q else E := by
  have hw : Region.wanted o (yielded ops a.tmps) = true := by simp [Region.wanted, hg]
  rw [if_pos hw]
  exact wp_append_own w s x t hop base e i z size bytes h1 h2 h3 h4 h5 h6 h7 v n xs hs hown ad m c news hx hn hc h1c b1 b2 hbase fun v' w' p q _ => hK v' w' p q

def tcell (t : Tok) : List Value := [.int .i64 t.k, .string (S t.x), .int .i64 t.p]
def tcells (ts : List Tok) : List Value := ts.flatMap tcell
theorem tcells_app (a b : List Tok) : tcells (a ++ b) = tcells a ++ tcells b := List.flatMap_append
theorem tcells_one (t : Tok) : tcells [t] = tcell t := by simp [tcells]
theorem tcells_len (a : List Tok) : (tcells a).length = a.length * 3 := by
  induction a with
  | nil => rfl
  | cons t a ih => rw [show tcells (t :: a) = tcell t ++ tcells a from rfl, List.length_append, ih, List.length_cons]; show 3 + _ = _; omega
/-- the reader at its block -/
def RdAt (B b : Nat) (s : ByteArray) (p : Nat) (df : Bool) (ts : List Tok) (v : Value) (w : World) : Prop :=
  B ≤ b ∧ w.heap[b]? = some (.cells #[.string s, .int .i64 p, .bool df, v] 42 (0, 0)) ∧ w.ownsRow B 37 3 v ts.length (tcells ts) ∧ v.ownBlock ≠ some b
def Rd (B b : Nat) (s : ByteArray) (p : Nat) (df : Bool) (ts : List Tok) (w : World) : Prop := ∃ v, RdAt B b s p df ts v w
theorem slice_of {w : World} {B e z n : Nat} {v : Value} {xs : List Value} (h : w.ownsRow B e z v n xs) : ∃ ao cap, v = .slice ao n cap := by
  rcases h.2 with ⟨rfl, rfl⟩ | ⟨g, cap, cur, rfl, _⟩
  · exact ⟨none, 0, rfl⟩
  · exact ⟨_, _, rfl⟩
theorem rd_cells {w : World} {b : Nat} {x0 x1 x2 x3 : Value} {t : TypeId} (h : w.heap[b]? = some (.cells #[x0, x1, x2, x3] t (0, 0))) :
    w.cell? ⟨b, 0, none⟩ = some x0 ∧ w.cell? ⟨b, 1, none⟩ = some x1 ∧ w.cell? ⟨b, 2, none⟩ = some x2 ∧ w.cell? ⟨b, 3, none⟩ = some x3 ∧ (∀ j, w.frozen? ⟨b, j, none⟩ = false) := by
  refine ⟨?_, ?_, ?_, ?_, fun j => Lib.frozen_of_heap h j⟩ <;> (rw [Lib.cell_of_heap h]; rfl)
theorem rd_keep {w w' : World} (hb : Below w.heap.size w w') {B b : Nat} {s : ByteArray} {p : Nat} {df : Bool} {ts : List Tok} (h : Rd B b s p df ts w) : Rd B b s p df ts w' := by
  obtain ⟨v, h1, hh, ho, hn⟩ := h
  exact ⟨v, h1, by rw [hb.block b (heap_lt hh)]; exact hh, owns_keep hb ho, hn⟩
theorem infoTok : ∃ i, Try.prog.info? 37 = some i ∧ i.zero = some (.agg #[.int .i64 0, .string .empty, .int .i64 0]) ∧ i.size = 3 ∧ i.bytes = 32 := info_parts (by kernel_rfl)

set_option maxHeartbeats 1000000 in
theorem take_full (B b : Nat) (s : ByteArray) (p : Nat) (df : Bool) (ts : List Tok) (k : Int) (x : ByteArray) (n : Nat) (w : World) (h : Rd B b s p df ts w) (hl : ts.length = 16384) :
    Calls Try.prog 43 #[.pointer (some ⟨b, 0, none⟩), .int .i64 k, .string x, .int .i64 n] w fun e w' => e = .returned (.int .i64 2) ∧ w' = w := by
  obtain ⟨v, h1, hh, ho, hn⟩ := h
  obtain ⟨ao, cap, rfl⟩ := slice_of ho
  obtain ⟨c0, c1, c2, c3, cf⟩ := rd_cells hh
  rw [hl] at c3
  go_enter Try.func43, Try.ntmps43
  go_wp2
  go_ret
  exact ⟨rfl, rfl⟩

theorem new3 (w : World) (a b c : Value) (t : TypeId) (j : Nat) (u : Value) (h : [a, b, c][j]? = some u) : (w.alloc (.cells #[a, b, c] t)).cell? ((⟨w.heap.size, 0, none⟩ : Addr).add j) = some u := by
  have e : ((⟨w.heap.size, 0, none⟩ : Addr).add j) = ⟨w.heap.size, j, none⟩ := by simp [Addr.add]; intro h; exact h.symm
  rw [e, World.cell?_alloc_at _ _ _ _ rfl]
  match j, h with
  | 0, h => exact h
  | 1, h => exact h
  | 2, h => exact h
theorem put_cells {w : World} {b : Nat} {x0 x1 x2 x3 : Value} {t : TypeId} (h : w.heap[b]? = some (.cells #[x0, x1, x2, x3] t (0, 0))) :
    (∀ y, (w.setCell ⟨b, 3, none⟩ y).heap[b]? = some (.cells #[x0, x1, x2, y] t (0, 0))) ∧ (∀ y, (w.setCell ⟨b, 1, none⟩ y).heap[b]? = some (.cells #[x0, y, x2, x3] t (0, 0))) ∧ (∀ y, (w.setCell ⟨b, 2, none⟩ y).heap[b]? = some (.cells #[x0, x1, y, x3] t (0, 0))) := by
  refine ⟨?_, ?_, ?_⟩ <;> (intro y; simp only [World.setCell]; rw [Array.getElem?_modify, if_pos rfl, h]; rfl)
theorem owns_set {w : World} {B e z n b j : Nat} {v y : Value} {xs : List Value} (h : w.ownsRow B e z v n xs) (hn : v.ownBlock ≠ some b) : (w.setCell ⟨b, j, none⟩ y).ownsRow B e z v n xs := by
  obtain ⟨h1, h2⟩ := h
  refine ⟨h1, ?_⟩
  rcases h2 with h2 | ⟨g, cap, cur, rfl, hg, hh, r⟩
  · exact Or.inl h2
  · refine Or.inr ⟨g, cap, cur, rfl, hg, ?_, r⟩
    rw [Below.heap_setCell _ _ _ _ (by intro e; exact hn (by rw [e]; rfl))]; exact hh

theorem one3 (k : Int) (x : ByteArray) (p : Int) : ∀ u ∈ [Value.int .i64 k, .string x, .int .i64 p], u.oneCell' = true := by
  intro u hu
  simp at hu
  rcases hu with rfl | rfl | rfl <;> rfl
theorem own_ne {w : World} {B n b : Nat} {v : Value} {xs : List Value} {c : Array Value} {e t z : Nat} (ho : w.ownsRow B e z v n xs) (hb : w.heap[b]? = some (.cells c t (0, 0))) (ht : t ≠ e) : v.ownBlock ≠ some b := by
  rcases ho.2 with ⟨rfl, _⟩ | ⟨g, cap, cur, rfl, _, hg, _⟩
  · simp [Value.ownBlock]
  · intro e1
    simp [Value.ownBlock] at e1
    subst e1
    rw [hb] at hg
    simp at hg
    exact ht hg.2
theorem take_end {B b : Nat} {s x : ByteArray} {p n : Nat} {df : Bool} {ts : List Tok} {k : Int} {v0 v2 : Value} {w w2 : World} {o : Obj} (h1 : B ≤ b) (hBw : B ≤ w.heap.size)
    (hh : w.heap[b]? = some (.cells #[.string s, .int .i64 p, .bool df, v0] 42 (0, 0))) (ho : w.ownsRow B 37 3 v0 ts.length (tcells ts)) (hne : v0.ownBlock ≠ some b)
    (hg : (w.drew.alloc o).grownBy w2 v0.ownBlock) (ho2 : w2.ownsRow B 37 3 v2 (ts.length + 1) (tcells ts ++ [.int .i64 k, .string x, .int .i64 p])) :
    Rd B b s (p + n) df (ts ++ [⟨k, L x, p⟩]) ((w2.setCell ⟨b, 3, none⟩ v2).setCell ⟨b, 1, none⟩ (.int .i64 ((p : Int) + (n : Int)))) ∧ Below B w ((w2.setCell ⟨b, 3, none⟩ v2).setCell ⟨b, 1, none⟩ (.int .i64 ((p : Int) + (n : Int)))) := by
  have hb2 : w2.heap[b]? = some (.cells #[.string s, .int .i64 p, .bool df, v0] 42 (0, 0)) := by
    rw [hg.block b (by have := heap_lt hh; simp; omega) (fun e => hne e.symm), Below.heap_alloc w.drew _ _ (heap_lt hh)]
    exact hh
  have hn2 := own_ne ho2 hb2 (by decide)
  have hb3 := (put_cells hb2).1 v2
  have hb4 := (put_cells hb3).2.1 (.int .i64 ((p : Int) + (n : Int)))
  refine ⟨⟨v2, h1, hb4, ?_, hn2⟩, ?_⟩
  · rw [tcells_app, tcells_one, List.length_append]
    have e : tcell ⟨k, L x, p⟩ = [.int .i64 k, .string x, .int .i64 p] := by unfold tcell; rw [S_L]
    rw [e]
    exact owns_set (owns_set ho2 hn2) hn2
  · have hb0 : Below B w (w.drew.alloc o) := (Below.refl _ _).drew.alloc hBw o
    exact ((hb0.grown hg (by simp; omega) (fun k hk => (ho.lt k hk).1)).setCell h1 _).setCell h1 _

set_option maxHeartbeats 2000000 in
theorem take_ok (B b : Nat) (s : ByteArray) (p : Nat) (df : Bool) (ts : List Tok) (k : Int) (x : ByteArray) (n : Nat) (w : World) (h : Rd B b s p df ts w) (hl : ts.length < 16384) (hp : p ≤ 65536) (hn : n ≤ 65536) (hBw : B ≤ w.heap.size) :
    Calls Try.prog 43 #[.pointer (some ⟨b, 0, none⟩), .int .i64 k, .string x, .int .i64 n] w fun e w' => e = .returned (.int .i64 0) ∧ (Rd B b s (p + n) df (ts ++ [⟨k, L x, p⟩]) w' ∧ Below B w w') := by
  obtain ⟨v, h1, hh, ho, hne⟩ := h
  obtain ⟨ao, cap, rfl⟩ := slice_of ho
  obtain ⟨c0, c1, c2, c3, cf⟩ := rd_cells hh
  obtain ⟨i0, hi, hz0, hz1, hz2⟩ := infoTok
  have f3 := cf 3
  have f1 := cf 1
  have hlen : ((ts.length : Nat) : Int) ≠ 16384 := by omega
  have hlenb : (((ts.length : Nat) : Int) == 16384) = false := by simpa using hlen
  have HO : Hid _ := ho
  have HH : Hid _ := hh
  have HN : Hid _ := hne
  have hblt := heap_lt hh
  have HB2 : ∀ {o : Obj} {w2 : World}, (w.drew.alloc o).grownBy w2 (Value.ownBlock (.slice ao ts.length cap)) → w2.heap[b]? = some (.cells #[.string s, .int .i64 p, .bool df, .slice ao ts.length cap] 42 (0, 0)) := by
    intro o w2 hg
    rw [hg.block b (by simp; omega) (fun e => hne e.symm), Below.heap_alloc w.drew _ _ hblt]
    exact hh
  clear ho hh hne cf hlen
  go_enter Try.func43, Try.ntmps43
  go_wp2
  go_region_law (refine step_append_own rfl _ _ 22 rfl B 37 i0 _ 3 32 Try.underlying22 hi hz0 hz1 hz2 rfl (by decide) _ ts.length (tcells ts) (by simp [Act.eval, Act.put]) (World.ownsRow.alloc (World.ownsRow.drew HO.out) _) ⟨w.heap.size, 0, none⟩ 1 1 [.int .i64 k, .string x, .int .i64 p] (by simp [Act.eval, Act.put]) rfl (new3 w.drew _ _ _ _) (one3 _ _ _) (by simp [maxLen]; omega) (by omega) (by simp; omega) ?_; intro v' w2 hown2 hgrow2; obtain ⟨ao2, cap2, rfl⟩ := slice_of hown2; obtain ⟨d0, d1, d2, d3, df⟩ := rd_cells (HB2 hgrow2); have g1 := df 1; have g3 := df 3)
  all_goals go_wp2
  all_goals go_ret
  all_goals exact ⟨rfl, take_end h1 hBw HH.out HO.out HN.out hgrow2 hown2⟩
end Go.Proofs.Ytnlfepfhabaekaa

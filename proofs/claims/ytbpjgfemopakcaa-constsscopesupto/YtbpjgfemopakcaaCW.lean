/- Layer 6: all names in a row. -/
import Derived.Test.YtbpjgfemopakcaaCU
namespace Go.Proofs.Ytbpjgfemopakcaa
open Go.RowKit Lg Go.Maps
set_option linter.unusedVariables false
set_option linter.unusedSimpArgs false

def nc (ps : List (ByteArray × Int)) : List Value := ps.flatMap fun p => [.string p.1, .int .i64 p.2]
theorem nc_app (a b : List (ByteArray × Int)) : nc (a ++ b) = nc a ++ nc b := by simp [nc]
theorem nc_len (ps : List (ByteArray × Int)) : (nc ps).length = ps.length * 2 := by
  induction ps with
  | nil => rfl
  | cons p r ih => show (([.string p.1, .int .i64 p.2] : List Value) ++ nc r).length = _; rw [List.length_append, ih]; simp; omega
theorem nc_at : ∀ (ps : List (ByteArray × Int)) (i : Nat) (hi : i < ps.length), (nc ps)[i * 2]? = some (.string ps[i].1) ∧ (nc ps)[i * 2 + 1]? = some (.int .i64 ps[i].2)
  | [], i, hi => by simp at hi
  | p :: r, 0, _ => ⟨rfl, rfl⟩
  | p :: r, i + 1, hi => by
    have ih := nc_at r i (by simpa using hi)
    have e : (i + 1) * 2 = i * 2 + 1 + 1 := by omega
    rw [e]
    exact ih
theorem nc_of {ps : List (ByteArray × Int)} {j : Nat} {u : Value} (h : (nc ps)[j]? = some u) : ∃ i, ∃ hi : i < ps.length, (j = i * 2 ∧ u = .string ps[i].1) ∨ (j = i * 2 + 1 ∧ u = .int .i64 ps[i].2) := by
  have hj : j < (nc ps).length := (List.getElem?_eq_some_iff.1 h).1
  rw [nc_len] at hj
  refine ⟨j / 2, by omega, ?_⟩
  obtain ⟨h1, h2⟩ := nc_at ps (j / 2) (by omega)
  rcases Nat.mod_two_eq_zero_or_one j with e | e
  · left
    have e2 : j = j / 2 * 2 := by omega
    rw [← e2, h] at h1
    exact ⟨e2, by injection h1⟩
  · right
    have e2 : j = j / 2 * 2 + 1 := by omega
    rw [← e2, h] at h2
    exact ⟨e2, by injection h2⟩
theorem nc_one (ps : List (ByteArray × Int)) : ∀ u ∈ nc ps, u.oneCell' = true := by
  intro u hu
  unfold nc at hu
  obtain ⟨p, _, h⟩ := List.mem_flatMap.1 hu
  simp at h
  rcases h with rfl | rfl <;> rfl
/-- a row of names of the call's own -/
def AllAt (B : Nat) (ps : List (ByteArray × Int)) (v : Value) (w : World) : Prop := w.ownsRow B 35 2 v ps.length (nc ps)
theorem AllAt.slice_ {B : Nat} {ps : List (ByteArray × Int)} {v : Value} {w : World} (h : AllAt B ps v w) : ∃ ao cap, v = .slice ao ps.length cap ∧ ps.length ≤ cap := by
  rcases h.2 with ⟨rfl, h0⟩ | ⟨g, cap, cur, rfl, _, _, hc, _⟩
  · exact ⟨none, 0, by rw [h0], by omega⟩
  · exact ⟨_, cap, rfl, hc⟩
theorem wpl_append_ls {W : World} {ops : Array Oper} {rest : List Oper} {o : Oper} {a : Act} {Q : Exit → Act → World → Prop} (hg : o.guard = none) (s x : Operand) (hop : o.op = Op.call { callee := Callee.builtin Builtin.append, args := #[s, x], argTypes := #[22, 22] })
    (B : Nat) (ps l : List (ByteArray × Int)) (v vl : Value) (hs : a.eval s = v) (hv : AllAt B ps v W) (hx : a.eval x = vl) (hl : LsAt vl l W) (hn : ps.length + l.length < 500000) (hB : B ≤ W.heap.size)
    (hK : ∀ ao n cap W', Hid (n = (ps ++ l).length) → AllAt B (ps ++ l) (.slice ao n cap) W' → W.grownBy W' v.ownBlock → wpList Try.prog ops Q rest (a.put o.dst (.slice ao n cap)) W') : wpList Try.prog ops Q (o :: rest) a W := by
  rcases hl with ⟨rfl, ao, cap, rfl⟩ | ⟨g, off, cap, rfl, hgl, hc, hcell⟩
  · refine wpList_plain hg fun K' hK' => ?_
    obtain ⟨ao', cap', rfl, hle⟩ := hv.slice_
    have hr := run_append_zero W o.type ao' ao ps.length cap' cap hle
    unfold Oper.wp execOp
    simp only [hop, resolve, invoke, builtin, Sem.run_bind, Sem.run_pure, Result.andThen_ok, List.map_toArray, List.map_cons, List.map_nil, hs, hx, hr]
    rw [List.append_nil] at hK
    exact hK' _ _ (hK ao' _ cap' W rfl hv ⟨rfl, rfl, rfl, Nat.le_refl _, fun _ _ _ => rfl⟩)
  · obtain ⟨i0, hi, hz0, hz1, hz2⟩ := kInfoNm
    have ea : ∀ j, ((⟨g, off, none⟩ : Addr).add j) = ⟨g, off + j, none⟩ := fun j => by simp [Addr.add]
    refine wpList_append_own_at W hg s x 22 hop B 35 i0 _ 2 24 Try.underlying22 hi hz0 hz1 hz2 rfl (by decide) v ps.length (nc ps) hs hv ⟨g, off, none⟩ l.length cap (nc l) hx (nc_len l) ?_ (nc_one l) (by unfold maxLen; omega) (by omega) hB ?_
    · intro j u hu
      obtain ⟨i, hi', h⟩ := nc_of hu
      rw [ea]
      rcases h with ⟨rfl, rfl⟩ | ⟨rfl, rfl⟩
      · exact (hcell i hi').1
      · rw [← Nat.add_assoc]; exact (hcell i hi').2
    · intro v' W' ho hgr _ _
      have ho' : AllAt B (ps ++ l) v' W' := by unfold AllAt; rw [List.length_append, nc_app]; exact ho
      obtain ⟨ao', cap', rfl, _⟩ := ho'.slice_
      exact hK ao' _ cap' W' rfl ho' hgr
theorem lsOne {w : World} (x : ByteArray) (k : Int) : LsAt (.slice (some ⟨w.heap.size, 0, none⟩) 1 1) [(x, k)] (w.alloc (.cells #[.string x, .int .i64 k] 35)) := by
  refine Or.inr ⟨w.heap.size, 0, 1, rfl, by simp, Nat.le_refl _, fun i hi => ?_⟩
  have h0 : i = 0 := by simpa using hi
  subst h0
  have h := allocAt (W := w) (o := .cells #[.string x, .int .i64 k] 35 (0, 0)) rfl
  exact ⟨by rw [Lib.cell_of_heap h]; rfl, by rw [Lib.cell_of_heap h]; rfl⟩
/-- blocks of other kinds stay while the row grows -/
theorem keep_blk {W W' : World} {row : Option Nat} {b : Nat} {o : Obj} (hg : W.grownBy W' row) (hb : W.heap[b]? = some o) (hr : ∀ g, row = some g → ∃ cur, W.heap[g]? = some (.cells cur 35 (0, 0))) (ho : ∀ cur, o ≠ .cells cur 35 (0, 0)) : W'.heap[b]? = some o := by
  refine (hg.block b (kLt hb) ?_).trans hb
  intro e
  obtain ⟨cur, hc⟩ := hr b e.symm
  rw [hb] at hc
  exact ho cur (by injection hc)
theorem AllAt.row {B : Nat} {ps : List (ByteArray × Int)} {v : Value} {w : World} (h : AllAt B ps v w) : ∀ g, v.ownBlock = some g → ∃ cur, w.heap[g]? = some (.cells cur 35 (0, 0)) := by
  intro g e
  rcases h.2 with ⟨rfl, _⟩ | ⟨g', cap, cur, rfl, _, hh, _⟩
  · cases e
  · simp [Value.ownBlock] at e; subst e; exact ⟨cur, hh⟩
theorem AllAt.ge {B : Nat} {ps : List (ByteArray × Int)} {v : Value} {w : World} (h : AllAt B ps v w) : ∀ g, v.ownBlock = some g → B ≤ g := fun g e => (World.ownsRow.lt h g e).1
theorem PrAt.row {sb mb : Nat} {qs : List (ByteArray × Int)} {W W' : World} {row : Option Nat} (h : PrAt sb mb qs W) (hg : W.grownBy W' row) (hr : ∀ g, row = some g → ∃ cur, W.heap[g]? = some (.cells cur 35 (0, 0))) : PrAt sb mb qs W' := by
  obtain ⟨D, cnt, a1, ⟨es, clock, a2, a3⟩, a4, a5⟩ := h
  exact ⟨D, cnt, keep_blk hg a1 hr (fun cur e => by injection e with _ e; exact absurd e (by decide)), ⟨es, clock, keep_blk hg a2 hr (fun cur e => by cases e), a3⟩, a4, a5⟩
theorem own_row {W W' : World} {row : Option Nat} {B e z n : Nat} {v : Value} {xs : List Value} (h : W.ownsRow B e z v n xs) (hne : e ≠ 35) (hg : W.grownBy W' row) (hr : ∀ g, row = some g → ∃ cur, W.heap[g]? = some (.cells cur 35 (0, 0))) : W'.ownsRow B e z v n xs := by
  obtain ⟨h1, h2⟩ := h
  refine ⟨h1, ?_⟩
  rcases h2 with h2 | ⟨g, cap, cur, rfl, hb, hh, r⟩
  · exact Or.inl h2
  · exact Or.inr ⟨g, cap, cur, rfl, hb, keep_blk hg hh hr (fun cur' e => by injection e with _ e; exact hne e), r⟩
theorem RqAt.row {T B : Nat} {qs : List (ByteArray × Int)} {W W' : World} {row : Option Nat} (h : RqAt T B qs W) (hg : W.grownBy W' row) (hr : ∀ g, row = some g → ∃ cur, W.heap[g]? = some (.cells cur 35 (0, 0))) : RqAt T B qs W' := by
  obtain ⟨ao, n1, c1, bo, n2, c2, h1, h2⟩ := h
  refine ⟨ao, n1, c1, bo, n2, c2, keep_blk hg h1 hr (fun cur e => by injection e with _ e; exact absurd e (by decide)), ?_⟩
  rcases h2 with h2 | ⟨a, b, c⟩
  · exact Or.inl h2
  · exact Or.inr ⟨a, own_row b (by decide) hg hr, own_row c (by decide) hg hr⟩
theorem SS.row {w : World} {sb mb T st mt U : Nat} {Q1 R1 Q2 R2 : List (ByteArray × Int)} {W W' : World} {v : Value} {ps : List (ByteArray × Int)} (h : SS w sb mb T st mt U Q1 R1 Q2 R2 W) (ha : AllAt w.heap.size ps v W) (hg : W.grownBy W' v.ownBlock) : SS w sb mb T st mt U Q1 R1 Q2 R2 W' := by
  have hs := h.bel.size
  refine ⟨h.bel.trans ⟨hg.os, hg.tape, hg.output, hg.size, fun k hk => hg.block k (by omega) (fun e => by have := ha.ge k e.symm; omega)⟩, h.p1.row hg ha.row, h.r1.row hg ha.row, h.p2.row hg ha.row, h.r2.row hg ha.row⟩
end Go.Proofs.Ytbpjgfemopakcaa

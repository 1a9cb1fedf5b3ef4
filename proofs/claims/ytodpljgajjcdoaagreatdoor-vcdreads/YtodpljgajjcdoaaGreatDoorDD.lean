/- Layer 19: numbers as texts; rows of bytes that grow. -/
import Derived.Test.YtodpljgajjcdoaaGreatDoorDC
import Derived.Test.YtodpljgajjcdoaaGreatDoorShD
namespace Go.Proofs.YtodpljgajjcdoaaGreatDoor
set_option maxRecDepth 100000
open Go.RowKit Lg Nl Go.Maps Wf Vd Go.Sort
set_option linter.unusedVariables false
set_option linter.unusedSimpArgs false

/-- the library's table of tens, as it is laid -/
def PowT (w : World) : Prop := Lib.TabIs Tryz.prog w "internal\x2fstrconv.uint64pow10" .u64 Lib.pow10Tab
theorem PowT.below {w w' : World} {B : Nat} (h : PowT w) (hb : Below B w w') (hB : ∀ g, Tryz.prog.globalNamed "internal\x2fstrconv.uint64pow10" = some g → g < B) : PowT w' := by
  unfold PowT Lib.TabIs World.var? at *
  cases hg : Tryz.prog.globalNamed "internal\x2fstrconv.uint64pow10" with
  | none => rw [hg] at h; exact h
  | some g =>
    rw [hg] at h
    simp only [Option.bind_some] at h ⊢
    rw [hb.block g (hB g hg)]
    exact h
theorem PowT.lt {w : World} (h : PowT w) : ∀ g, Tryz.prog.globalNamed "internal\x2fstrconv.uint64pow10" = some g → g < w.heap.size := by
  intro g hg
  unfold PowT Lib.TabIs World.var? at h
  rw [hg] at h
  simp only [Option.bind_some] at h
  rcases Nat.lt_or_ge g w.heap.size with e | e
  · exact e
  · rw [Array.getElem?_eq_none e] at h; cases h
theorem PowT.bel {w w' : World} (h : PowT w) (hb : Below w.heap.size w w') : PowT w' := h.below hb h.lt
theorem itoa_c (n : Int) (w : World) (h0 : 0 ≤ n) (h1 : n ≤ 9223372036854775807) (hp : PowT w) : Calls Tryz.prog 45 #[.int .i64 n] w fun e w' => e = .returned (.string (S (Lib.itoa n))) ∧ Below w.heap.size w w' := by
  refine (Any.strconv_Itoa Tryz.itoaD n (by omega) h1 w hp).mono ?_
  rintro e w' ⟨rfl, k, os, rfl⟩
  refine ⟨rfl, rfl, rfl, rfl, ?_, fun j hj => ?_⟩
  · show w.heap.size ≤ (w.heap ++ os).size
    simp
  · show (w.heap ++ os)[j]? = _
    exact Array.getElem?_append_left hj
/-- a row of bytes of its own -/
structure Ob (B : Nat) (W : World) (a : Option Addr) (n c : Nat) (l : List UInt8) : Prop where
  o : W.ownsRow B 5 1 (.slice a n c) n (bC l)
  e : n = l.length
theorem Ob.below {B : Nat} {W W' : World} {a : Option Addr} {n c : Nat} {l : List UInt8} (h : Ob B W a n c l) (hb : Below W.heap.size W W') : Ob B W' a n c l := ⟨own_below h.o hb, h.e⟩
theorem Ob.nil (B : Nat) (W : World) : Ob B W none 0 0 [] := ⟨World.ownsRow_nil _ _ _ _, rfl⟩
theorem Ob.ne {B : Nat} {W : World} {a : Option Addr} {n c F : Nat} {l : List UInt8} {cs : Array Value} {t : TypeId} {fr : Nat × Nat} (h : Ob B W a n c l) (hF : W.heap[F]? = some (.cells cs t fr)) (ht : t ≠ 5) : (Value.slice a n c).ownBlock ≠ some F := by
  rcases h.o.2 with ⟨e1, _⟩ | ⟨g, cap, cur, e1, _, hh, _⟩
  · rw [e1]; intro e; cases e
  · rw [e1]
    intro e
    injection e with e
    have e : g = F := e
    subst e
    rw [hh] at hF
    injection hF with hF
    injection hF with _ e2 _
    exact ht e2.symm
theorem app_str {ops : Array Oper} {rest : List Oper} {o : Oper} {act : Act} {Q : Exit → Act → World → Prop} {w : World} (hgd : o.guard = none) (sl x : Operand)
    (ho : o.op = .call { callee := .builtin .append, args := #[sl, x], argTypes := #[49, 9] }) (B : Nat) (a : Option Addr) (n c : Nat) (l : List UInt8)
    (hs : act.eval sl = .slice a n c) (h : Ob B w a n c l) (s : ByteArray) (hx : act.eval x = .string s) (hb : n + s.size ≤ 70368744177664) (hB : B ≤ w.heap.size)
    (hk : ∀ a' n' c' w', Ob B w' a' n' c' (l ++ L s) → Hid (n' = n + s.size) → Below B w w' → Hid (∀ k, k < w.heap.size → (Value.slice a n c).ownBlock ≠ some k → w'.heap[k]? = w.heap[k]?) → wpList Tryz.prog ops Q rest (act.put o.dst (.slice a' n' c')) w') : wpList Tryz.prog ops Q (o :: rest) act w := by
  obtain ⟨jj, HJ⟩ := infoU8
  refine Lib.wpList_append_own_string w hgd sl x 49 9 ho B 5 jj Tryz.underlying49 Tryz.underlying9 HJ.1 HJ.2.1 HJ.2.2.1 HJ.2.2.2 (.slice a n c) n (bC l) hs h.o s hx (by unfold maxLen; omega) (by omega) hB ?_
  intro v' w' hown hgrow _
  obtain ⟨a', c', rfl⟩ := own_slice hown
  refine hk a' (n + s.size) c' w' ⟨by rw [bC_app, ← bC_str]; exact hown, by rw [List.length_append, h.e]; simp [L]⟩ rfl ⟨hgrow.os, hgrow.tape, hgrow.output, hgrow.size, fun k hk => hgrow.block k (Nat.lt_of_lt_of_le hk hB) fun e => by have := World.ownsRow.lt h.o k e.symm; omega⟩ fun k hk hne => hgrow.block k hk fun e => hne e.symm
theorem app_byte {ops : Array Oper} {rest : List Oper} {o : Oper} {act : Act} {Q : Exit → Act → World → Prop} {w : World} (hgd : o.guard = none) (sl x : Operand)
    (ho : o.op = .call { callee := .builtin .append, args := #[sl, x], argTypes := #[49, 49] }) (B : Nat) (a : Option Addr) (n c : Nat) (l : List UInt8) (b : UInt8) (z : Int) (hz : (b.toNat : Int) = z)
    (hs : act.eval sl = .slice a n c) (h : Ob B w a n c l) (hx : act.eval x = .slice (some ⟨w.heap.size, 0, none⟩) 1 1) (hb : n + 1 ≤ 70368744177664) (hB : B ≤ w.heap.size)
    (hk : ∀ a' n' c' w', Ob B w' a' n' c' (l ++ [b]) → Hid (n' = n + 1) → Below B w w' → Hid (∀ k, k < w.heap.size → (Value.slice a n c).ownBlock ≠ some k → w'.heap[k]? = w.heap[k]?) → wpList Tryz.prog ops Q rest (act.put o.dst (.slice a' n' c')) w') : wpList Tryz.prog ops Q (o :: rest) act (w.alloc (.cells #[.int .u8 z] 5)) := by
  subst hz
  obtain ⟨jj, HJ⟩ := infoU8
  refine wpList_append_own_at _ hgd sl x 49 ho B 5 jj _ 1 1 Tryz.underlying49 HJ.1 HJ.2.1 HJ.2.2.1 HJ.2.2.2 rfl (by decide) (.slice a n c) n (bC l) hs (h.o.alloc _) ⟨w.heap.size, 0, none⟩ 1 1 (bC [b]) hx rfl (fun j u hj => new1 _ _ _ rfl _ j u hj) (bC_one _) (by unfold maxLen; omega) (by omega) (Nat.le_trans hB (by simp)) ?_
  intro v' w' hown hgrow _ _
  obtain ⟨a', c', rfl⟩ := own_slice hown
  have hb1 : Below w.heap.size w (w.alloc (.cells #[.int .u8 b.toNat] 5)) := belA (Below.refl _ _) _
  refine hk a' (n + 1) c' w' ⟨by rw [bC_app]; exact hown, by rw [List.length_append, h.e]; rfl⟩ rfl ?_ fun k hk hne => (hgrow.block k (by simp; omega) fun e => hne e.symm).trans (hb1.block k hk)
  have hb2 : Below B w (w.alloc (.cells #[.int .u8 b.toNat] 5)) := ⟨hb1.os, hb1.tape, hb1.output, hb1.size, fun k hk => hb1.block k (Nat.lt_of_lt_of_le hk hB)⟩
  exact ⟨hgrow.os.trans hb2.os, hgrow.tape.trans hb2.tape, hgrow.output.trans hb2.output, Nat.le_trans hb2.size hgrow.size, fun k hk => (hgrow.block k (by simp; omega) fun e => by have := World.ownsRow.lt h.o k e.symm; omega).trans (hb2.block k hk)⟩
end Go.Proofs.YtodpljgajjcdoaaGreatDoor

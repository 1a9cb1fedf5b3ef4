/- Layer 6 of the program: an expression with parts is begun. -/
import Derived.Test.YtbpjgfemopakcaaCC
import Derived.Maps.AppendAt
import Derived.Deep.RegionLaw
namespace Go.Proofs.Ytbpjgfemopakcaa
open Go.RowKit Lg Go.Maps
set_option linter.unusedVariables false
set_option linter.unusedSimpArgs false

/-- all blocks but two are as they were -/
structure K2 (b c : Nat) (w w' : World) : Prop where
  os : w'.os = w.os
  tape : w'.tape = w.tape
  output : w'.output = w.output
  size : w.heap.size ≤ w'.heap.size
  block : ∀ k, k < w.heap.size → k ≠ b → k ≠ c → w'.heap[k]? = w.heap[k]?
theorem K2.trans {b c : Nat} {x y z : World} (h : K2 b c x y) (k : K2 b c y z) : K2 b c x z :=
  ⟨k.os.trans h.os, k.tape.trans h.tape, k.output.trans h.output, Nat.le_trans h.size k.size, fun i hi hb hc => (k.block i (Nat.lt_of_lt_of_le hi h.size) hb hc).trans (h.block i hi hb hc)⟩
theorem K2.of {b c : Nat} {w w' : World} (h : Below w.heap.size w w') : K2 b c w w' := ⟨h.os, h.tape, h.output, h.size, fun k hk _ _ => h.block k hk⟩
theorem K2.below {b c B : Nat} {w w' : World} (h : K2 b c w w') (hb : B ≤ b) (hc : B ≤ c) (hB : B ≤ w.heap.size) : Below B w w' := ⟨h.os, h.tape, h.output, h.size, fun k hk => h.block k (by omega) (by omega) (by omega)⟩
theorem K2.set {b c j : Nat} {w : World} {y : Value} : K2 b c w (w.setCell ⟨b, j, none⟩ y) := ⟨rfl, rfl, rfl, by simp [World.setCell], fun k _ h _ => Below.heap_setCell _ _ _ _ h⟩
theorem K2.grown {b c : Nat} {w w' : World} (h : w.grownBy w' (some c)) : K2 b c w w' := ⟨h.os, h.tape, h.output, h.size, fun k hk _ h2 => h.block k hk (fun e => h2 (by injection e))⟩
theorem K2.drew {b c : Nat} {w w' : World} (h : K2 b c w w') : K2 b c w w'.drew := ⟨h.os, h.tape, h.output, h.size, h.block⟩
theorem kDesc : Try.prog.underlying 70 = some (.pointer 44) := by kernel_rfl
theorem kZeroF (w : World) : (zeroValue 86).run Try.prog w = .ok (.agg #[.bool false, .int .i64 0]) w := by kernel_rfl
theorem run_checkKey_ptr {w : World} {p : Option Addr} (em : Bool) (d : Nat) : (Instr.checkKey em (d + 1) 70 (.pointer p)).run Try.prog w = .ok () w := by
  unfold Instr.checkKey
  simp only [Sem.run_bind, run_underlying kDesc, Result.andThen]
  rfl
theorem run_find_nil {w : World} {k : Value} : (Instr.findKey 70 k []).run Try.prog w = .ok none w := by
  simp [Instr.findKey, run_underlying kDesc, Result.andThen, Instr.findNow]
theorem run_lookup_empty {w : World} {ms : Nat} {ad : Addr} (h : w.heap[ms]? = some (.map #[] 0)) :
    (Instr.lookup 65 (.map (some ms)) (.pointer (some ad)) true).run Try.prog w = .ok (.tuple #[.agg #[.bool false, .int .i64 0], .bool false]) w := by
  simp [Instr.lookup, run_underlying Try.underlying65, MapKept.run_getObj_map h, run_checkKey_ptr _ 9999, run_find_nil, kZeroF, Result.andThen]
theorem run_update_empty {w : World} {ms : Nat} {ad : Addr} {val : Value} (h : w.heap[ms]? = some (.map #[] 0)) :
    ∃ w', (Instr.mapUpdate 65 (.map (some ms)) (.pointer (some ad)) val).run Try.prog w = .ok () w' ∧ w'.heap[ms]? = some (.map #[{ key := .pointer (some ad), val := val, born := 0 }] 1) ∧ w.grownBy w' (some ms) ∧ w'.heap.size = w.heap.size := by
  refine ⟨ChangeMaps.setBlock w ms (.map #[{ key := .pointer (some ad), val := val, born := 0 }] 1), ?_, ChangeMaps.heap_setBlock_same h _, ⟨rfl, rfl, rfl, by simp [ChangeMaps.setBlock], fun i _ hi => ChangeMaps.heap_setBlock_other h _ (fun e => hi (by rw [e]))⟩, by simp [ChangeMaps.setBlock]⟩
  simp [Instr.mapUpdate, run_underlying Try.underlying65, MapKept.run_getObj_map h, run_checkKey_ptr _ 9999, run_find_nil, MapKept.run_setObj_map _ h, Result.andThen, ChangeMaps.setBlock]
theorem run_equal_same {w : World} {ad : Addr} : (Op.equal 70 (.pointer (some ad)) (.pointer (some ad))).run Try.prog w = .ok true w := by
  obtain ⟨j, hj, _⟩ := kInfoX
  have h : ∀ d : Nat, (Op.equalIn (d + 1) 70 (.pointer (some ad)) (.pointer (some ad))).run Try.prog w = .ok true w := fun d => by
    simp [Op.equalIn, run_underlying kDesc, sizeOf, typeInfo, hj, run_sameAddr_same]
  simp [Op.equal, Op.maxDepth, h 9999]
theorem run_find_one {w : World} {ad : Addr} {val : Value} {n : Nat} : (Instr.findKey 70 (.pointer (some ad)) [{ key := .pointer (some ad), val := val, born := n }]).run Try.prog w = .ok (some (0, val)) w := by
  simp [Instr.findKey, run_underlying kDesc, Result.andThen, Instr.findNow, Instr.sameNow, Instr.findAsking, run_equal_same]
theorem run_stays {w : World} {ad : Addr} : (Instr.keyThatStays (.pointer (some ad)) (.pointer (some ad))).run Try.prog w = .ok (.pointer (some ad)) w := by
  simp [Instr.keyThatStays, Instr.sameBits]
theorem run_update_one {w : World} {ms : Nat} {ad : Addr} {val old : Value} (h : w.heap[ms]? = some (.map #[{ key := .pointer (some ad), val := old, born := 0 }] 1)) :
    ∃ w', (Instr.mapUpdate 65 (.map (some ms)) (.pointer (some ad)) val).run Try.prog w = .ok () w' ∧ w.grownBy w' (some ms) ∧ w'.heap.size = w.heap.size := by
  refine ⟨ChangeMaps.setBlock w ms (.map #[{ key := .pointer (some ad), val := val, born := 0 }] 1), ?_, ⟨rfl, rfl, rfl, by simp [ChangeMaps.setBlock], fun i _ hi => ChangeMaps.heap_setBlock_other h _ (fun e => hi (by rw [e]))⟩, by simp [ChangeMaps.setBlock]⟩
  simp [Instr.mapUpdate, run_underlying Try.underlying65, MapKept.run_getObj_map h, run_checkKey_ptr _ 9999, run_find_one, run_stays, MapKept.run_setObj_map _ h, Result.andThen, ChangeMaps.setBlock]
theorem wpl_update_empty {w : World} {ops : Array Oper} {rest : List Oper} {o : Oper} {a : Act} {Q : Exit → Act → World → Prop} (hg : o.guard = none) (m x v : Operand) (hop : o.op = Op.mapUpdate 65 m x v)
    (ms : Nat) (ad : Addr) (val : Value) (hm : a.eval m = .map (some ms)) (hx : a.eval x = .pointer (some ad)) (hv : a.eval v = val) (h : w.heap[ms]? = some (.map #[] 0))
    (hK : ∀ w', w'.heap[ms]? = some (.map #[{ key := .pointer (some ad), val := val, born := 0 }] 1) → w.grownBy w' (some ms) → w'.heap.size = w.heap.size → wpList Try.prog ops Q rest (a.put o.dst undef) w') : wpList Try.prog ops Q (o :: rest) a w := by
  refine wpList_plain hg fun K' hK' => ?_
  obtain ⟨w', hrun, r1, r2, r3⟩ := run_update_empty (ad := ad) (val := val) h
  unfold Oper.wp
  simp [execOp, hop, hm, hx, hv, hrun, Result.andThen]
  exact hK' _ _ (hK w' r1 r2 r3)
theorem kInfoS : ∃ i, Try.prog.info? 81 = some i ∧ i.zero = some (.agg #[.pointer none, .int .i64 0, .int .i64 0, .int .i64 0]) ∧ i.size = 4 ∧ i.bytes = 32 := info_parts (by kernel_rfl)
theorem new4 (w : World) (a b c d : Value) (t : TypeId) (j : Nat) (u : Value) (h : [a, b, c, d][j]? = some u) : (w.alloc (.cells #[a, b, c, d] t)).cell? ((⟨w.heap.size, 0, none⟩ : Addr).add j) = some u := by
  have e : ((⟨w.heap.size, 0, none⟩ : Addr).add j) = ⟨w.heap.size, j, none⟩ := by simp [Addr.add]; intro h; exact h.symm
  rw [e, World.cell?_alloc_at _ _ _ _ rfl]
  match j, h with
  | 0, h => exact h
  | 1, h => exact h
  | 2, h => exact h
  | 3, h => exact h
  | n + 4, h => simp at h
theorem one4 (ad : Addr) (x y z : Int) : ∀ u ∈ [Value.pointer (some ad), .int .i64 x, .int .i64 y, .int .i64 z], u.oneCell' = true := by
  intro u hu
  simp at hu
  rcases hu with rfl | rfl | rfl | rfl <;> rfl
theorem kOwns_set {w : World} {B e z n b j : Nat} {v y : Value} {xs : List Value} (h : w.ownsRow B e z v n xs) (hn : v.ownBlock ≠ some b) : (w.setCell ⟨b, j, none⟩ y).ownsRow B e z v n xs := by
  obtain ⟨h1, h2⟩ := h
  refine ⟨h1, ?_⟩
  rcases h2 with h2 | ⟨g, cap, cur, rfl, hg, hh, r⟩
  · exact Or.inl h2
  · refine Or.inr ⟨g, cap, cur, rfl, hg, ?_, r⟩
    rw [Below.heap_setCell _ _ _ _ (by intro e; exact hn (by rw [e]; rfl))]; exact hh
theorem kOwn_new {w : World} {B e z : Nat} {v : Value} {xs : List Value} {k : Nat} (h : w.ownsRow B e z v 1 xs) (hl : v.ownBlock = Value.ownBlock (.slice none 0 0) ∨ v.ownBlock = some k) : ∃ cap, v = .slice (some ⟨k, 0, none⟩) 1 cap := by
  rcases h.2 with ⟨_, h2⟩ | ⟨g, cap, cur, rfl, _⟩
  · cases h2
  · rcases hl with hl | hl
    · cases hl
    · injection hl with hl; simp only at hl; subst hl; exact ⟨cap, rfl⟩
theorem hset3 {w : World} {b : Nat} {x0 x1 x2 y : Value} {t : TypeId} (h : w.heap[b]? = some (.cells #[x0, x1, x2] t (0, 0))) : (w.setCell ⟨b, 1, none⟩ y).heap[b]? = some (.cells #[x0, y, x2] t (0, 0)) := by
  simp only [World.setCell]; rw [Array.getElem?_modify, if_pos rfl, h]; rfl
/-- the way: one step -/
def Row1 (B g cap : Nat) (X : Nat) (c n0 n1 : Int) (w : World) : Prop := w.ownsRow B 81 4 (.slice (some ⟨g, 0, none⟩) 1 cap) 1 [.pointer (some ⟨X, 0, none⟩), .int .i64 c, .int .i64 n0, .int .i64 n1]
set_option maxRecDepth 100000 in
set_option maxHeartbeats 2000000 in
theorem kLook_push {b mn ms X : Nat} {op : Int} {nm vl : ByteArray} {pl : Bool} {sl : Value} {p : Int} {w : World} (h : Wk b mn ms (.slice none 0 0) w) (hm : w.heap[ms]? = some (.map #[] 0)) (hx : XAt X 0 op nm vl pl sl p w) (h1 : 13 ≤ op) (h2 : op ≤ 27) (hne : b ≠ ms) :
    Calls Try.prog 28 #[.pointer (some ⟨b, 0, none⟩), .pointer (some ⟨X, 0, none⟩)] w fun e w' => e = .returned (.tuple #[.int .i64 0, .bool false]) ∧ (∃ g cap, Wk b mn ms (.slice (some ⟨g, 0, none⟩) 1 cap) w' ∧ Row1 w.heap.size g cap X 0 0 0 w') ∧ w'.heap[ms]? = some (.map #[{ key := .pointer (some ⟨X, 0, none⟩), val := .agg #[.bool false, .int .i64 0], born := 0 }] 1) ∧ K2 b ms w w' := by
  obtain ⟨b0, b1, b2, bf, bl⟩ := h.at_
  have hml := kLt hm
  have c0 := hx.c0
  have e1 : (op == 1) = false := by rw [beq_eq_false_iff_ne]; omega
  have e2 : (op == 2) = false := by rw [beq_eq_false_iff_ne]; omega
  have e3 : (op == 3) = false := by rw [beq_eq_false_iff_ne]; omega
  have e4 : (op == 4) = false := by rw [beq_eq_false_iff_ne]; omega
  have e5 : (op == 5) = false := by rw [beq_eq_false_iff_ne]; omega
  have e7 : (op == 7) = false := by rw [beq_eq_false_iff_ne]; omega
  have e10 : (op == 10) = false := by rw [beq_eq_false_iff_ne]; omega
  have e11 : (op == 11) = false := by rw [beq_eq_false_iff_ne]; omega
  have e12 : (op == 12) = false := by rw [beq_eq_false_iff_ne]; omega
  have hlk := run_lookup_empty (ad := ⟨X, 0, none⟩) hm
  have HH : Hid _ := h
  have HM : Hid _ := hm
  obtain ⟨i0, hi, hz0, hz1, hz2⟩ := kInfoS
  clear h hx hm h1 h2
  have hmA : Hid (∀ o, (w.alloc o).heap[ms]? = some (.map #[] 0)) := fun o => ((belA (Below.refl w.heap.size w) o).block ms hml).trans HM.out
  go_enter Try.func28, Try.ntmps28
  go_wp2_with (first
    | (at_mapUpdate; refine wpl_update_empty rfl _ _ _ rfl ms ⟨X, 0, none⟩ _ rfl rfl rfl (hmA.out _) ?_; intro w1 hm1 hg1 hs1; have hS1 : w.heap.size < w1.heap.size := by { rw [hs1]; simp }; clear hs1; have hW1 : Hid (Wk b mn ms (.slice none 0 0) w1) := (hg1.block b (by simp; omega) (by simpa using hne)).trans (((belA (Below.refl w.heap.size w) _).block b bl).trans HH.out); obtain ⟨d0, d1, d2, df, dl⟩ := hW1.out.at_; have hF1 : Hid (w1.heap[w.heap.size]? = some (.cells #[.bool false, .int .i64 0] 86 (0, 0))) := (hg1.block w.heap.size (by simp) (by simp; omega)).trans (by show (w.heap.push _)[w.heap.size]? = _; simp))
    | (at_builtin; refine wpList_append_own_at _ rfl _ _ 66 rfl w.heap.size 81 i0 _ 4 32 Try.underlying66 hi hz0 hz1 hz2 rfl (by decide) (.slice none 0 0) 0 [] rfl (World.ownsRow_nil _ _ _ _) ⟨w1.heap.size, 0, none⟩ 1 1 [.pointer (some ⟨X, 0, none⟩), .int .i64 0, .int .i64 0, .int .i64 0] rfl rfl (new4 _ _ _ _ _ _) (one4 _ _ _ _) (by simp [maxLen]) (by omega) (by simp; omega) ?_; intro v' w2 hown2 hgrow2 hnil hloc; obtain ⟨cap, rfl⟩ := kOwn_new hown2 hloc; have hW2 : Hid (Wk b mn ms (.slice none 0 0) w2) := (hgrow2.block b (by simp; omega) (by simp [Value.ownBlock])).trans (((belA (Below.refl w1.heap.size w1) _).block b dl).trans hW1.out); obtain ⟨f0, f1, f2, ff, fl⟩ := hW2.out.at_; have hF2 : w2.heap[w.heap.size]? = some (.cells #[.bool false, .int .i64 0] 86 (0, 0)) := (hgrow2.block w.heap.size (by simp; omega) (by simp [Value.ownBlock])).trans (((belA (Below.refl w1.heap.size w1) _).block w.heap.size (by omega)).trans hF1.out); have g0 : w2.cell? ⟨w.heap.size, 0, none⟩ = some (.bool false) := by { rw [Lib.cell_of_heap hF2]; rfl }; have g1 : w2.cell? ⟨w.heap.size, 1, none⟩ = some (.int .i64 0) := by { rw [Lib.cell_of_heap hF2]; rfl }; have hm2 : Hid (w2.heap[ms]? = some (.map #[{ key := .pointer (some ⟨X, 0, none⟩), val := .agg #[.bool false, .int .i64 0], born := 0 }] 1)) := (hgrow2.block ms (by simp; omega) (by simp [Value.ownBlock])).trans (((belA (Below.refl w1.heap.size w1) _).block ms (by omega)).trans hm1); clear hF2 hnil))
  go_region
  all_goals go_wp2
  all_goals go_ret2
  all_goals
    refine ⟨rfl, ⟨_, cap, hset3 hW2.out, ?_⟩, ?_, ?_⟩
    · have ho : w2.ownsRow w.heap.size 81 4 (.slice (some ⟨w1.heap.size + 1, 0, none⟩) 1 cap) 1 [.pointer (some ⟨X, 0, none⟩), .int .i64 0, .int .i64 0, .int .i64 0] := by simpa using hown2
      exact kOwns_set ho (by simp [Value.ownBlock]; omega)
    · exact (Below.heap_setCell _ _ _ _ (fun e => hne e.symm)).trans hm2.out
    · have a1 : K2 b ms w w1 := (K2.of (belA (Below.refl _ _) _)).trans (K2.grown hg1)
      have a2 : Below w1.heap.size w1 w2 := ⟨hgrow2.os, hgrow2.tape, hgrow2.output, by have := hgrow2.size; simp at this; omega, fun k hk => (hgrow2.block k (by simp; omega) (by simp [Value.ownBlock])).trans ((belA (Below.refl w1.heap.size w1) _).block k hk)⟩
      have a3 := (a1.trans (K2.of a2)).trans (K2.set (j := 1) (y := .slice (some ⟨w1.heap.size + 1, 0, none⟩) 1 cap))
      exact ⟨a3.os, a3.tape, a3.output, a3.size, a3.block⟩
end Go.Proofs.Ytbpjgfemopakcaa

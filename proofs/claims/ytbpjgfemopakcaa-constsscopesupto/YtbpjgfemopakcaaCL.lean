/- Layer 6: awake. -/
import Derived.Test.YtbpjgfemopakcaaCK
namespace Go.Proofs.Ytbpjgfemopakcaa
open Go.RowKit Lg Go.Maps
set_option linter.unusedVariables false
set_option linter.unusedSimpArgs false

theorem eqD0 (w : World) : (binOp .eql 48 (.agg #[.int .i64 0, .int .i64 0]) (.agg #[.int .i64 0, .int .i64 0])).run Try.prog w = .ok (.bool true) w := by kernel_rfl
theorem eqD7 (w : World) : (binOp .eql 48 (.agg #[.int .i64 7, .int .i64 71]) (.agg #[.int .i64 7, .int .i64 71])).run Try.prog w = .ok (.bool true) w := by kernel_rfl
theorem neD1 (w : World) : (binOp .neq 48 (.agg #[.int .i64 0, .int .i64 1]) (.agg #[.int .i64 0, .int .i64 1])).run Try.prog w = .ok (.bool false) w := by kernel_rfl
theorem neD9 (w : World) : (binOp .neq 48 (.agg #[.int .i64 9, .int .i64 61]) (.agg #[.int .i64 9, .int .i64 61])).run Try.prog w = .ok (.bool false) w := by kernel_rfl
set_option maxHeartbeats 400000 in
theorem kNum_c (v : ByteArray) (w : World) : Calls Try.prog 19 #[.string v] w fun e w' => e = .returned (.agg #[.int .i64 1, .string ⟨#[]⟩, .string v, .bool false, .slice none 0 0, .int .i64 0]) ∧ Below w.heap.size w w' := by
  go_enter Try.func19, Try.ntmps19
  go_wp2
  refine bodyPost_ret (v := .agg #[.int .i64 1, .string ⟨#[]⟩, .string v, .bool false, .slice none 0 0, .int .i64 0]) (by simp [results, Try.results19, go_sem]) rfl ?_
  exact ⟨rfl, belA (Below.refl _ _) _⟩
/-- two expressions in a row of their own -/
theorem xPair {w : World} {op0 op1 : Int} {nm0 nm1 vl0 vl1 : ByteArray} {pl0 pl1 : Bool} {sl0 sl1 : Value} {p0 p1 : Int} :
    XAt w.heap.size 0 op0 nm0 vl0 pl0 sl0 p0 (w.alloc (.cells #[.int .i64 op0, .string nm0, .string vl0, .bool pl0, sl0, .int .i64 p0, .int .i64 op1, .string nm1, .string vl1, .bool pl1, sl1, .int .i64 p1] 44)) ∧
    XAt w.heap.size 6 op1 nm1 vl1 pl1 sl1 p1 (w.alloc (.cells #[.int .i64 op0, .string nm0, .string vl0, .bool pl0, sl0, .int .i64 p0, .int .i64 op1, .string nm1, .string vl1, .bool pl1, sl1, .int .i64 p1] 44)) := by
  have h := allocAt (W := w) (o := .cells #[.int .i64 op0, .string nm0, .string vl0, .bool pl0, sl0, .int .i64 p0, .int .i64 op1, .string nm1, .string vl1, .bool pl1, sl1, .int .i64 p1] 44 (0, 0)) rfl
  exact ⟨⟨by rw [Lib.cell_of_heap h]; rfl, by rw [Lib.cell_of_heap h]; rfl, by rw [Lib.cell_of_heap h]; rfl, by rw [Lib.cell_of_heap h]; rfl, by rw [Lib.cell_of_heap h]; rfl, by rw [Lib.cell_of_heap h]; rfl⟩, ⟨by rw [Lib.cell_of_heap h]; rfl, by rw [Lib.cell_of_heap h]; rfl, by rw [Lib.cell_of_heap h]; rfl, by rw [Lib.cell_of_heap h]; rfl, by rw [Lib.cell_of_heap h]; rfl, by rw [Lib.cell_of_heap h]; rfl⟩⟩
theorem grown_below {mb B : Nat} {w w' : World} (h : w.grownBy w' (some mb)) (hB : B ≤ mb) (hs : B ≤ w.heap.size) : Below B w w' := ⟨h.os, h.tape, h.output, h.size, fun k hk => h.block k (by omega) (fun e => by injection e with e; omega)⟩
theorem scAt_grown {sb mb m : Nat} {w w' : World} (hs : ScAt sb mb w) (h : w.grownBy w' (some m)) (hne : sb ≠ m) : ScAt sb mb w' := (h.block sb (kLt hs) (fun e => hne (by injection e))).trans hs
def nN : List UInt8 → Option Int := fPut (fun _ => none) [78] 3
theorem leafN : Leaf nN 2 ⟨#[78]⟩ ⟨#[]⟩ 3 := Or.inr ⟨rfl, by decide, by decide⟩
theorem leaf01 : Leaf nN 1 ⟨#[]⟩ ⟨#[48, 49]⟩ 1 := Or.inl ⟨rfl, by decide, by decide, by decide⟩
set_option maxRecDepth 100000 in
set_option maxHeartbeats 4000000 in
theorem awake6 (w : World) : Calls Try.prog 14 #[] w fun e w' => e = .returned (.bool true) ∧ Below w.heap.size w w' := by
  have HW : Hid (w.heap.size = w.heap.size) := rfl
  have q0 := eqD0
  have q7 := eqD7
  go_enter Try.func14, Try.ntmps14
  go_wp2_with (first
    | (go_at_call 16; refine (kNew_c _).mono ?_; rintro e w1 ⟨rfl, hs1, hm1, hb1⟩)
    | (go_at_call 11; refine (kSet_c hs1 hm1 (by omega) (by omega) ⟨#[78]⟩ (by decide) 3 (by decide)).mono ?_; rintro e w2 ⟨rfl, hm2, hg2⟩; have hs2 := scAt_grown hs1 hg2 (by omega); have hb2 : Below w.heap.size w w2 := hb1.trans (grown_below hg2 (Nat.le_refl _) hb1.size); have hf2 : NmI _ nN := nmI_put nmI0 [78] 3)
    | (go_at_call 19; refine (kNum_c _ _).mono ?_; rintro e w3 ⟨rfl, hb3⟩; have hs3 := hs2.below hb3; have hm3 := hm2.below hb3)
    | (go_at_call 17; have hx := hs5; refine (kEval_un (hs5.below (belA (Below.refl _ _) _)) (hm5.below (belA (Below.refl _ _) _)) hf2 ⟨#[77]⟩ ⟨#[]⟩ false none 0 0 7 (by decide) (by decide)).mono ?_; rintro e w6 ⟨rfl, hb6⟩; have hD : w6.heap[w5.heap.size]? = some (.cells #[.int .i64 0, .int .i64 0] 48 (0, 0)) := (hb6.block _ (by simp)).trans (allocAt rfl); have d0 : w6.cell? ⟨w5.heap.size, 0, none⟩ = some (.int .i64 0) := by { rw [Lib.cell_of_heap hD]; rfl }; have d1 : w6.cell? ⟨w5.heap.size, 1, none⟩ = some (.int .i64 0) := by { rw [Lib.cell_of_heap hD]; rfl }; have hl6 := kLt hD)
    | (go_at_call 17; refine (kEval_bin (hs3.below (belA (Below.refl _ _) _)) (hm3.below (belA (Below.refl _ _) _)) hf2 13 ⟨#[]⟩ ⟨#[]⟩ false 0 (by omega) (by omega) xPair.1 xPair.2 (by simp) leafN leaf01 (Or.inl rfl) (by decide) (by decide) 4 0 0 (by rw [if_pos (by decide)]; decide)).mono ?_; rintro e w5 ⟨rfl, hb5⟩; have hb5' : Below w3.heap.size w3 w5 := bel (belA (Below.refl _ _) _) hb5; have hs5 := hs3.below hb5'; have hm5 := hm3.below hb5'))
  go_ret
  have hb7 : Below w.heap.size w w5 := (hb2.trans (hb3.mono hb2.size)).trans (hb5'.mono (Nat.le_trans hb2.size hb3.size))
  have hz7 := hb7.size
  exact ⟨rfl, belA (bel (belA hb7 _) hb6) _⟩
end Go.Proofs.Ytbpjgfemopakcaa

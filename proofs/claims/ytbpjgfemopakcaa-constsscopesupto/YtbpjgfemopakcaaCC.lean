/- Layer 6 of the program: numbers and names are looked at. -/
import Derived.Test.YtbpjgfemopakcaaCB
namespace Go.Proofs.Ytbpjgfemopakcaa
open Go.RowKit Lg Go.Maps
set_option linter.unusedVariables false
set_option linter.unusedSimpArgs false

/-- a name without a number -/
def pnU (p : Int) : List PanicEntry := [{ v := .iface 74 (.int .i64 p), recovered := false }]
/-- too much -/
def pnV (p : Int) : List PanicEntry := [{ v := .iface 75 (.int .i64 p), recovered := false }]
/-- the walk's block -/
def Wk (b mn ms : Nat) (v : Value) (w : World) : Prop := w.heap[b]? = some (.cells #[.map (some mn), v, .map (some ms)] 68 (0, 0))
theorem Wk.at_ {b mn ms : Nat} {v : Value} {w : World} (h : Wk b mn ms v w) : w.cell? ⟨b, 0, none⟩ = some (.map (some mn)) ∧ w.cell? ⟨b, 1, none⟩ = some v ∧ w.cell? ⟨b, 2, none⟩ = some (.map (some ms)) ∧ (∀ j, w.frozen? ⟨b, j, none⟩ = false) ∧ b < w.heap.size :=
  ⟨by rw [Lib.cell_of_heap h]; rfl, by rw [Lib.cell_of_heap h]; rfl, by rw [Lib.cell_of_heap h]; rfl, fun j => Lib.frozen_of_heap h j, kLt h⟩
/-- an expression's cells -/
structure XAt (g o : Nat) (op : Int) (nm vl : ByteArray) (pl : Bool) (sl : Value) (p : Int) (w : World) : Prop where
  c0 : w.cell? ⟨g, o, none⟩ = some (.int .i64 op)
  c1 : w.cell? ⟨g, o + 1, none⟩ = some (.string nm)
  c2 : w.cell? ⟨g, o + 2, none⟩ = some (.string vl)
  c3 : w.cell? ⟨g, o + 3, none⟩ = some (.bool pl)
  c4 : w.cell? ⟨g, o + 4, none⟩ = some sl
  c5 : w.cell? ⟨g, o + 5, none⟩ = some (.int .i64 p)
theorem XAt.below {g o : Nat} {op : Int} {nm vl : ByteArray} {pl : Bool} {sl : Value} {p : Int} {w w' : World} {B : Nat} (h : XAt g o op nm vl pl sl p w) (hb : Below B w w') (hg : g < B) : XAt g o op nm vl pl sl p w' := by
  have e : ∀ j, w'.cell? ⟨g, j, none⟩ = w.cell? ⟨g, j, none⟩ := fun j => hb.cell (p := ⟨g, j, none⟩) hg
  exact ⟨(e _).trans h.c0, (e _).trans h.c1, (e _).trans h.c2, (e _).trans h.c3, (e _).trans h.c4, (e _).trans h.c5⟩
set_option maxHeartbeats 1000000 in
theorem kLiteral_c {g o : Nat} {vl : ByteArray} {w : World} (c2 : w.cell? ⟨g, o + 2, none⟩ = some (.string vl)) (hn : numE (L vl) = 0) (hs : vl.size ≤ maxLen) (k : Int) (hk : k = numA (L vl)) :
    Calls Try.prog 32 #[.pointer (some ⟨g, o, none⟩)] w fun e w' => e = .returned (.int .i64 k) ∧ Below w.heap.size w w' := by
  have HN := fun w => Number_c vl w hs
  rw [hn, ← hk] at HN
  clear hn hk
  go_enter Try.func32, Try.ntmps32
  go_wp2_with (first | (go_at_call 37; refine (HN _).mono ?_; rintro e w' ⟨rfl, hb⟩))
  go_ret
  exact ⟨rfl, hb⟩
theorem kLook_run {mn n : Nat} {nm : ByteArray} {D : DataW Unit} {f : List UInt8 → Option Int} {w : World} (hm : MpAt mn n D w) (hf : NmI D f) (hs : nm.size ≤ maxLen) :
    (∀ k, f (L nm) = some k → (Instr.lookup 53 (.map (some mn)) (.string nm) true).run Try.prog w = .ok (.tuple #[.int .i64 k, .bool true]) w) ∧
    (f (L nm) = none → ∃ c, (Instr.lookup 53 (.map (some mn)) (.string nm) true).run Try.prog w = .ok (.tuple #[.int .i64 c, .bool false]) w) := by
  obtain ⟨v, ps, hrun, hv⟩ := World.ownsMap.look_ok hm kLawS Try.underlying53 (kZero w) (plainElem_int Try.underlying3 (by decide)) (kKey hs)
  obtain ⟨c, rfl, hc, _⟩ := plainElem_int_inv Try.underlying3 hv
  have hc1 := congrArg Prod.fst hc
  refine ⟨fun k hk => ?_, fun hk => ?_⟩
  · obtain ⟨hh, hat⟩ := (hf.2 (L nm)).2 k hk
    simp only at hc1
    rw [hat] at hc1
    rw [hrun, hh]
    injection hc1 with h1
    injection h1 with _ h1
    rw [h1]
  · have hh := (hf.2 (L nm)).1 hk
    exact ⟨c, by rw [hrun, hh]⟩
set_option maxHeartbeats 1000000 in
theorem kNamed_c {b mn ms g o n : Nat} {v : Value} {nm : ByteArray} {D : DataW Unit} {f : List UInt8 → Option Int} {w : World} (h : Wk b mn ms v w) (hm : MpAt mn n D w) (hf : NmI D f) (c1 : w.cell? ⟨g, o + 1, none⟩ = some (.string nm)) (hs : nm.size ≤ maxLen) (k : Int) (hk : f (L nm) = some k) :
    Calls Try.prog 33 #[.pointer (some ⟨b, 0, none⟩), .pointer (some ⟨g, o, none⟩)] w fun e w' => e = .returned (.int .i64 k) ∧ Below w.heap.size w w' := by
  obtain ⟨b0, b1, b2, bf, bl⟩ := h.at_
  have r1 := (kLook_run hm hf hs).1 k hk
  have r2 := (kLook_run (w := w.drew) (World.ownsMap.drew hm) hf hs).1 k hk
  clear h hf hm
  go_enter Try.func33, Try.ntmps33
  go_wp2
  go_region
  all_goals go_wp2
  all_goals go_ret
  all_goals exact ⟨rfl, (Below.refl _ _).drew⟩
set_option maxHeartbeats 1000000 in
theorem kNamed_no {b mn ms g o n : Nat} {v : Value} {nm : ByteArray} {p : Int} {D : DataW Unit} {f : List UInt8 → Option Int} {w : World} (h : Wk b mn ms v w) (hm : MpAt mn n D w) (hf : NmI D f) (c1 : w.cell? ⟨g, o + 1, none⟩ = some (.string nm)) (c5 : w.cell? ⟨g, o + 5, none⟩ = some (.int .i64 p)) (hs : nm.size ≤ maxLen) (hk : f (L nm) = none) :
    Calls Try.prog 33 #[.pointer (some ⟨b, 0, none⟩), .pointer (some ⟨g, o, none⟩)] w fun e w' => e = .panicked (pnU p) ∧ Below w.heap.size w w' := by
  obtain ⟨b0, b1, b2, bf, bl⟩ := h.at_
  obtain ⟨c, r1⟩ := (kLook_run hm hf hs).2 hk
  obtain ⟨c', r2⟩ := (kLook_run (w := w.drew) (World.ownsMap.drew hm) hf hs).2 hk
  clear h hf hm
  go_enter Try.func33, Try.ntmps33
  go_wp2
  go_region
  all_goals go_wp2
  all_goals exact ⟨rfl, rfl, (Below.refl _ _).drew⟩
set_option maxHeartbeats 1000000 in
theorem kLook_num {b g o : Nat} {nm vl : ByteArray} {pl : Bool} {sl : Value} {p : Int} {w : World} (hx : XAt g o 1 nm vl pl sl p w) (hn : numE (L vl) = 0) (hs : vl.size ≤ maxLen) (k : Int) (hk : k = numA (L vl)) :
    Calls Try.prog 28 #[.pointer (some ⟨b, 0, none⟩), .pointer (some ⟨g, o, none⟩)] w fun e w' => e = .returned (.tuple #[.int .i64 k, .bool true]) ∧ Below w.heap.size w w' := by
  have HL := kLiteral_c hx.c2 hn hs k hk
  have c0 := hx.c0
  clear hx hn hk
  go_enter Try.func28, Try.ntmps28
  go_wp2_with (first | (go_at_call 32; refine HL.mono ?_; rintro e w' ⟨rfl, hb⟩))
  go_ret2
  exact ⟨rfl, hb⟩
set_option maxHeartbeats 1000000 in
theorem kLook_name {b g o : Nat} {nm vl : ByteArray} {pl : Bool} {sl : Value} {p : Int} {w : World} (hx : XAt g o 2 nm vl pl sl p w) (k : Int) (HL : Calls Try.prog 33 #[.pointer (some ⟨b, 0, none⟩), .pointer (some ⟨g, o, none⟩)] w fun e w' => e = .returned (.int .i64 k) ∧ Below w.heap.size w w') :
    Calls Try.prog 28 #[.pointer (some ⟨b, 0, none⟩), .pointer (some ⟨g, o, none⟩)] w fun e w' => e = .returned (.tuple #[.int .i64 k, .bool true]) ∧ Below w.heap.size w w' := by
  have c0 := hx.c0
  clear hx
  go_enter Try.func28, Try.ntmps28
  go_wp2_with (first | (go_at_call 33; refine HL.mono ?_; rintro e w' ⟨rfl, hb⟩))
  go_ret2
  exact ⟨rfl, hb⟩
set_option maxHeartbeats 1000000 in
theorem kLook_no {b g o : Nat} {nm vl : ByteArray} {pl : Bool} {sl : Value} {p : Int} {w : World} (hx : XAt g o 2 nm vl pl sl p w) (HL : Calls Try.prog 33 #[.pointer (some ⟨b, 0, none⟩), .pointer (some ⟨g, o, none⟩)] w fun e w' => e = .panicked (pnU p) ∧ Below w.heap.size w w') :
    Calls Try.prog 28 #[.pointer (some ⟨b, 0, none⟩), .pointer (some ⟨g, o, none⟩)] w fun e w' => e = .panicked (pnU p) ∧ Below w.heap.size w w' := by
  have c0 := hx.c0
  clear hx
  go_enter Try.func28, Try.ntmps28
  go_wp2_with (first | (go_at_call 33; refine HL.mono ?_; rintro e w' ⟨rfl, hb⟩))
  exact ⟨rfl, rfl, hb⟩
end Go.Proofs.Ytbpjgfemopakcaa

/- Layer 4 of the program: reading that is given up is caught. -/
import Derived.Test.YthdhmlojihpfkaaGreatSU
namespace Go.Proofs.YthdhmlojihpfkaaGreat
open Go.RowKit Lg
set_option linter.unusedVariables false
set_option linter.unusedSimpArgs false

set_option maxRecDepth 100000 in
set_option maxHeartbeats 2000000 in
theorem catchW (rb : Nat) (v0 : Value) (p : Int) (w : World) (hc : w.cell? ⟨rb, 0, none⟩ = some v0) (hz : w.frozen? ⟨rb, 0, none⟩ = false) (hlt : rb < w.heap.size) :
    CallsD Tryz.prog 34 #[.pointer (some ⟨rb, 0, none⟩)] (.panicking (pnW p)) w fun e u' w' =>
      e = .returned (.tuple #[]) ∧ u' = .panicking [{ v := .iface 86 (.int .i64 p), recovered := true }] ∧ w' = (w.setCell ⟨rb, 0, none⟩ (.slice (some ⟨w.heap.size, 0, none⟩) 1 1)).alloc (.cells #[.int .i64 p, .int .i64 40] 36) := by
  have hcA : ∀ o1, (w.alloc o1).cell? ⟨rb, 0, none⟩ = some v0 := fun o1 => ((bxS (w := w) (o := o1)).cell (p := ⟨rb, 0, none⟩) hlt).trans hc
  have hzA : ∀ o1, (w.alloc o1).frozen? ⟨rb, 0, none⟩ = false := fun o1 => ((bxS (w := w) (o := o1)).frozen (p := ⟨rb, 0, none⟩) hlt).trans hz
  refine callsD_of_wpS Tryz.func34 rfl fun c₀ cs hu => ?_
  have hu2 : c₀.mode = .panicking [{ v := .iface 86 (.int .i64 p), recovered := false }] := hu
  apply wpS_seq
  apply wpS_region
  simp [wpOpsS, go_sem, recoverD, hu2, Tryz.ntmps34, Exit.thenS, asW_yes, Array.replicate]
  refine wpS_of_wp ?_
  have hy := asW_yes
  go_wp2_with fail
  simp [bodyPostS, results, Tryz.results34]
set_option maxRecDepth 100000 in
set_option maxHeartbeats 2000000 in
theorem catchI (rb : Nat) (w : World) :
    CallsD Tryz.prog 34 #[.pointer (some ⟨rb, 0, none⟩)] .returning w fun e u' w' => e = .returned (.tuple #[]) ∧ u' = .returning ∧ w' = w := by
  refine callsD_of_wpS Tryz.func34 rfl fun c₀ cs hu => ?_
  apply wpS_seq
  apply wpS_region
  simp [wpOpsS, go_sem, recoverD, hu, Tryz.ntmps34, Exit.thenS, asW_no, Array.replicate]
  refine wpS_of_wp ?_
  have hy := asW_no
  have hx := asX_no
  go_wp2_with fail
  cases c₀
  simp_all [bodyPostS, results, Tryz.results34]
theorem res1 {w w1 : World} {bb : Nat} {a : Value} {t : TypeId} (h : Kp bb (w.alloc (.cells #[a] t)) w1) (hb : bb < w.heap.size) : w1.heap[w.heap.size]? = some (.cells #[a] t (0, 0)) := (h.block w.heap.size (by simp) (by omega)).trans (heap_alloc_last _ _)
theorem set_cell1 {W : World} {rb : Nat} {v0 y : Value} {t : TypeId} (h : W.heap[rb]? = some (.cells #[v0] t (0, 0))) : (W.setCell ⟨rb, 0, none⟩ y).cell? ⟨rb, 0, none⟩ = some y := by
  have e := hset h 0 y
  rw [Lib.cell_of_heap e]; rfl
set_option maxRecDepth 100000 in
set_option maxHeartbeats 4000000 in
theorem pAllY {b g cap ke np : Nat} {l : List Tok} {nm : Value} {x : X} {p : Nat} {w : World} (hb : b < w.heap.size) (HS : ∀ w', Below w.heap.size w w' → Calls Tryz.prog 35 #[.pointer (some ⟨b, 0, none⟩)] w' fun e w'' => (∃ gm, e = .returned (.slice (some ⟨gm, 0, none⟩) 1 1) ∧ ModsAt w'' w'.heap.size gm np nm x p) ∧ St b g cap l ke w'' ∧ Kp b w' w'') :
    Calls Tryz.prog 16 #[.pointer (some ⟨b, 0, none⟩)] w fun e w' => (∃ gm, e = .returned (.tuple #[.slice (some ⟨gm, 0, none⟩) 1 1, .slice none 0 0]) ∧ ModsAt w' w.heap.size gm np nm x p) ∧ Kp b w w' := by
  have hmf : ∀ (fn : Fn) (first cap : Array Value) (w : World), (Instr.makeFunc fn first cap).run Tryz.prog w = .ok (.func fn first cap) w := fun _ _ _ _ => rfl
  go_enter_defers Tryz.func16, Tryz.ntmps16
  go_wp2_with (first
    | (go_at_call 35; refine (HS _ bxS).mono ?_; rintro e w1 ⟨⟨gm, rfl, hm⟩, hs1, hk1⟩; have hR := res1 hk1 hb; have hc : w1.cell? ⟨w.heap.size, 0, none⟩ = some (.slice none 0 0) := by { rw [Lib.cell_of_heap hR]; rfl }; have hz := Lib.frozen_of_heap hR 0; have hl := heap_lt hR))
  refine leaves_cons (f := 34) (args := #[.pointer (some ⟨w.heap.size, 0, none⟩)]) (by simp) (by simp [go_sem]) ?_
  refine (catchI w.heap.size _).mono ?_
  rintro e u' w'' ⟨rfl, rfl, rfl⟩
  have hset1 : ∀ y, (w1.setCell ⟨w.heap.size, 0, none⟩ y).cell? ⟨w.heap.size, 0, none⟩ = some y := fun y => set_cell1 hR
  simp [Leaves, settle, results, Tryz.results16, go_sem, hset1]
  have hm2 : ModsAt w1 (w.heap.size + 1) gm np nm x p := by simpa using hm
  exact ⟨(hm2.oth (Oth.set (Oth.refl w.heap.size w1)) (by omega)).mono (by omega), ((Kp.of bxS).trans hk1).setR (Nat.le_refl _)⟩
set_option maxRecDepth 100000 in
set_option maxHeartbeats 4000000 in
theorem pAllN {b p : Nat} {w : World} (hb : b < w.heap.size) (HS : ∀ w', Below w.heap.size w w' → Calls Tryz.prog 35 #[.pointer (some ⟨b, 0, none⟩)] w' fun e w'' => e = .panicked (pnW p) ∧ Kp b w' w'') :
    Calls Tryz.prog 16 #[.pointer (some ⟨b, 0, none⟩)] w fun e w' => (∃ gd, e = .returned (.tuple #[.slice none 0 0, .slice (some ⟨gd, 0, none⟩) 1 1]) ∧ w.heap.size ≤ gd ∧ w'.heap[gd]? = some (.cells #[.int .i64 p, .int .i64 40] 36 (0, 0))) ∧ Kp b w w' := by
  have hmf : ∀ (fn : Fn) (first cap : Array Value) (w : World), (Instr.makeFunc fn first cap).run Tryz.prog w = .ok (.func fn first cap) w := fun _ _ _ _ => rfl
  go_enter_defers Tryz.func16, Tryz.ntmps16
  go_wp2_with (first
    | (go_at_call 35; refine (HS _ bxS).mono ?_; rintro e w1 ⟨rfl, hk1⟩; have hR := res1 hk1 hb; have hc : w1.cell? ⟨w.heap.size, 0, none⟩ = some (.slice none 0 0) := by { rw [Lib.cell_of_heap hR]; rfl }; have hz := Lib.frozen_of_heap hR 0; have hl := heap_lt hR))
  refine leaves_cons (f := 34) (args := #[.pointer (some ⟨w.heap.size, 0, none⟩)]) (by simp) (by simp [go_sem]) ?_
  refine (catchW w.heap.size (.slice none 0 0) p w1 hc hz hl).mono ?_
  rintro e u' w'' ⟨rfl, rfl, rfl⟩
  have hset1 : ∀ o y, ((w1.setCell ⟨w.heap.size, 0, none⟩ y).alloc o).cell? ⟨w.heap.size, 0, none⟩ = some y := fun o y => ((bxS (w := w1.setCell ⟨w.heap.size, 0, none⟩ y) (o := o)).cell (p := ⟨w.heap.size, 0, none⟩) (by simp [World.setCell]; exact hl)).trans (set_cell1 hR)
  simp [Leaves, settle, results, Tryz.results16, go_sem, hset1]
  have z1 := hk1.size
  refine ⟨⟨by simp at z1; omega, ?_⟩, (((Kp.of bxS).trans hk1).setR (Nat.le_refl _)).trans (Kp.of bxS)⟩
  have := heap_alloc_last (w1.setCell ⟨w.heap.size, 0, none⟩ (.slice (some ⟨w1.heap.size, 0, none⟩) 1 1)) (.cells #[.int .i64 p, .int .i64 40] 36)
  rw [show (w1.setCell ⟨w.heap.size, 0, none⟩ (.slice (some ⟨w1.heap.size, 0, none⟩) 1 1)).heap.size = w1.heap.size by simp [World.setCell]] at this
  exact (Array.getElem?_eq_some_iff.1 this).2
end Go.Proofs.YthdhmlojihpfkaaGreat

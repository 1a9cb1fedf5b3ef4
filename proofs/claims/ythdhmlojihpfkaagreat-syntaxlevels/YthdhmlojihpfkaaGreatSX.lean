/- Layer 4 of the program: Parse. -/
import Derived.Test.YthdhmlojihpfkaaGreatSV
namespace Go.Proofs.YthdhmlojihpfkaaGreat
open Go.RowKit Lg
set_option linter.unusedVariables false
set_option linter.unusedSimpArgs false

/-- tokens, and where they lie -/
structure Tks (g cap : Nat) (l : List Tok) (w : World) : Prop where
  lt : g < w.heap.size
  cap : l.length ≤ cap
  len : l.length ≤ 100000
  pos : 0 < l.length
  last : (tk l (l.length - 1)).k = 6
  src : ∀ j u, (tcells l)[j]? = some u → w.cell? ⟨g, j, none⟩ = some u
theorem Tks.below {g cap : Nat} {l : List Tok} {w w' : World} (h : Tks g cap l w) (hb : Below w.heap.size w w') : Tks g cap l w' :=
  ⟨Nat.lt_of_lt_of_le h.lt hb.size, h.cap, h.len, h.pos, h.last, fun j u hu => by rw [hb.cell (p := ⟨g, j, none⟩) h.lt]; exact h.src j u hu⟩
theorem Tks.st {g cap : Nat} {l : List Tok} {w : World} (h : Tks g cap l w) : St w.heap.size g cap l 0 (w.alloc (.cells #[.slice (some ⟨g, 0, none⟩) l.length cap, .int .i64 0] 58)) := by
  have h1 := h.lt
  exact ⟨heap_alloc_last _ _, by omega, by simp; omega, h.cap, h.len, h.pos, h.last, fun j u hu => by rw [(bxS (w := w)).cell (p := ⟨g, j, none⟩) h.lt]; exact h.src j u hu⟩
theorem Kp.fresh {w w' : World} {o : Obj} (h : Kp w.heap.size (w.alloc o) w') : Below w.heap.size w w' := ⟨h.os, h.tape, h.output, by have := h.size; simp at this; omega, fun k hk => (h.block k (by simp; omega) (by omega)).trans (Below.heap_alloc _ _ _ hk)⟩
set_option maxRecDepth 100000 in
set_option maxHeartbeats 4000000 in
theorem pParseY {g cap ke np : Nat} {l : List Tok} {nm : Value} {x : X} {p : Nat} {w : World} (h : Tks g cap l w) (hk6 : (tk l ke).k = 6) (HM : ∀ b w', St b g cap l 0 w' → Calls Tryz.prog 52 #[.pointer (some ⟨b, 0, none⟩)] w' fun e w'' => MoO w'' w'.heap.size e np nm x p ∧ St b g cap l ke w'' ∧ Kp b w' w'') :
    Calls Tryz.prog 9 #[.slice (some ⟨g, 0, none⟩) l.length cap] w fun e w' => (∃ gm, e = .returned (.tuple #[.slice (some ⟨gm, 0, none⟩) 1 1, .slice none 0 0]) ∧ ModsAt w' w.heap.size gm np nm x p) ∧ Below w.heap.size w w' := by
  have HA := pAllY (b := w.heap.size) (w := w.alloc (.cells #[.slice (some ⟨g, 0, none⟩) l.length cap, .int .i64 0] 58)) (by simp) (fun w' hb => pSourceY (h.st.below hb) hk6 (HM _ _ (h.st.below hb)))
  obtain ⟨n, hn⟩ : ∃ n, n = l.length := ⟨_, rfl⟩
  rw [← hn] at HA ⊢
  clear HM hk6 hn h
  go_enter Tryz.func9, Tryz.ntmps9
  go_wp2_with (first
    | (go_at_call 16; refine HA.mono ?_; rintro e w1 ⟨⟨gm, rfl, hm⟩, hk1⟩))
  go_ret2
  exact ⟨⟨gm, rfl, hm.mono (by simp)⟩, hk1.fresh⟩
set_option maxRecDepth 100000 in
set_option maxHeartbeats 4000000 in
theorem pParseN {g cap p : Nat} {l : List Tok} {w : World} (h : Tks g cap l w) (HM : ∀ b w', St b g cap l 0 w' → Calls Tryz.prog 52 #[.pointer (some ⟨b, 0, none⟩)] w' fun e w'' => e = .panicked (pnW p) ∧ Kp b w' w'') :
    Calls Tryz.prog 9 #[.slice (some ⟨g, 0, none⟩) l.length cap] w fun e w' => (∃ gd, e = .returned (.tuple #[.slice none 0 0, .slice (some ⟨gd, 0, none⟩) 1 1]) ∧ w.heap.size ≤ gd ∧ w'.heap[gd]? = some (.cells #[.int .i64 p, .int .i64 40] 36 (0, 0))) ∧ Below w.heap.size w w' := by
  have HA := pAllN (b := w.heap.size) (w := w.alloc (.cells #[.slice (some ⟨g, 0, none⟩) l.length cap, .int .i64 0] 58)) (by simp) (fun w' hb => pSourceN (HM _ _ (h.st.below hb)))
  obtain ⟨n, hn⟩ : ∃ n, n = l.length := ⟨_, rfl⟩
  rw [← hn] at HA ⊢
  clear HM hn h
  go_enter Tryz.func9, Tryz.ntmps9
  go_wp2_with (first
    | (go_at_call 16; refine HA.mono ?_; rintro e w1 ⟨⟨gd, rfl, hg1, hg2⟩, hk1⟩))
  go_ret2
  exact ⟨⟨gd, rfl, by simp at hg1; omega, hg2⟩, hk1.fresh⟩
end Go.Proofs.YthdhmlojihpfkaaGreat

/- Layer 4 of the program: a source of one module; reading that is given up is caught. -/
import Derived.Test.YthdhmlojihpfkaaGreatST
import Derived.Test.YthdhmlojihpfkaaGreatSTn
import Derived.Test.YthdhmlojihpfkaaGreatSTp
namespace Go.Proofs.YthdhmlojihpfkaaGreat
open Go.RowKit Lg
set_option linter.unusedVariables false
set_option linter.unusedSimpArgs false

theorem fld0 (a b c : Value) (w : World) : (Instr.field 33 (.agg #[a, b, c]) 0).run Tryz.prog w = .ok a w := by kernel_rfl
theorem build_mods (w : World) (a b c d e : Value) : (Instr.buildSlice 25 1 #[(0, .agg (moC a b c d e))]).run Tryz.prog w = .ok (.slice (some ⟨w.heap.size, 0, none⟩) 1 1) (w.alloc (.cells (moC a b c d e) 44)) := by kernel_rfl
/-- one module, and where it lies -/
def ModsAt (w : World) (B gm np : Nat) (nm : Value) (x : X) (p : Nat) : Prop := ∃ sn pa pc ao n cp pt, B ≤ gm ∧ w.heap[gm]? = some (.cells (moC (.string sn) (.slice none 0 0) (.slice pa np pc) (.slice ao n cp) (.int .i64 pt)) 44 (0, 0)) ∧ ItsAt w B (.slice ao n cp) nm x p
theorem ModsAt.keep {w w' : World} {B b gm np : Nat} {nm : Value} {x : X} {p : Nat} (h : ModsAt w B gm np nm x p) (hk : Kp b w w') (hb : b < B) : ModsAt w' B gm np nm x p := by
  obtain ⟨sn, pa, pc, ao, n, cp, pt, h1, h2, h3⟩ := h
  exact ⟨sn, pa, pc, ao, n, cp, pt, h1, (hk.block gm (heap_lt h2) (by omega)).trans h2, h3.keep hk hb⟩
theorem ModsAt.oth {w w' : World} {B R gm np : Nat} {nm : Value} {x : X} {p : Nat} (h : ModsAt w B gm np nm x p) (hk : Oth R w w') (hb : R < B) : ModsAt w' B gm np nm x p := by
  obtain ⟨sn, pa, pc, ao, n, cp, pt, h1, h2, h3⟩ := h
  exact ⟨sn, pa, pc, ao, n, cp, pt, h1, (hk.block gm (by omega)).trans h2, h3.oth hk hb⟩
theorem ModsAt.mono {w : World} {B B' gm np : Nat} {nm : Value} {x : X} {p : Nat} (h : ModsAt w B gm np nm x p) (hb : B' ≤ B) : ModsAt w B' gm np nm x p := by
  obtain ⟨sn, pa, pc, ao, n, cp, pt, h1, h2, h3⟩ := h
  exact ⟨sn, pa, pc, ao, n, cp, pt, by omega, h2, h3.mono hb⟩
set_option maxRecDepth 100000 in
set_option maxHeartbeats 4000000 in
theorem pSourceY {b g cap k ke np : Nat} {l : List Tok} {nm : Value} {x : X} {p : Nat} {w : World} (h : St b g cap l k w) (hk6 : (tk l ke).k = 6) (HM : Calls Tryz.prog 52 #[.pointer (some ⟨b, 0, none⟩)] w fun e w' => MoO w' w.heap.size e np nm x p ∧ St b g cap l ke w' ∧ Kp b w w') :
    Calls Tryz.prog 35 #[.pointer (some ⟨b, 0, none⟩)] w fun e w' => (∃ gm, e = .returned (.slice (some ⟨gm, 0, none⟩) 1 1) ∧ ModsAt w' w.heap.size gm np nm x p) ∧ St b g cap l ke w' ∧ Kp b w w' := by
  have HH := fun w' (h : St b g cap l ke w') => pHere h
  have HX : Hid _ := h
  obtain ⟨⟨kk, tx, pt0⟩, ht⟩ : ∃ t, t = tk l ke := ⟨_, rfl⟩
  rw [← ht] at HH hk6
  unfold tkV at HH
  simp only at HH hk6
  subst hk6
  obtain ⟨sx, hsx⟩ : ∃ sx, sx = S tx := ⟨_, rfl⟩
  rw [← hsx] at HH
  have hbl := HX.out.blt
  have hf0 := fld0
  unfold MoO at HM
  clear h ht hsx
  go_enter Tryz.func35, Tryz.ntmps35
  go_wp2_with (first
    | (go_at_call 52; refine HM.mono ?_; rintro e w1 ⟨⟨sn, pa, pc, ao, n, cp, pt, rfl, hit⟩, hs1, hk1⟩)
    | (refine wpl_bslice rfl 25 1 _ rfl #[(0, .agg (moC (.string sn) (.slice none 0 0) (.slice pa np pc) (.slice ao n cp) (.int .i64 pt)))] (by kernel_rfl) _ _ (build_mods _ _ _ _ _ _) ?_))
  have HS : Hid _ := hs1.below (bxS (o := .cells (moC (.string sn) (.slice none 0 0) (.slice pa np pc) (.slice ao n cp) (.int .i64 pt)) 44))
  have HIT : Hid _ := hit
  clear hs1 hit
  go_loopw [3] (fun iv wr => iv = .slice (some ⟨w1.heap.size, 0, none⟩) 1 1 ∧ wr = w1.alloc (.cells (moC (.string sn) (.slice none 0 0) (.slice pa np pc) (.slice ao n cp) (.int .i64 pt)) 44)) (fun _ _ => 0)
  case atStart => exact ⟨rfl, rfl⟩
  case round =>
    obtain ⟨rfl, rfl⟩ := hrel
    go_wp2_with (first
      | (go_at_call 53; refine (HH _ HS.out).mono ?_; rintro e w2 ⟨rfl, hb2⟩))
    go_ret
    have z1 := hk1.size
    exact ⟨⟨_, rfl, ⟨sn, pa, pc, ao, n, cp, pt, hk1.size, (hb2.block _ (by simp)).trans (heap_alloc_last _ _), ItsAt.keep HIT.out (Kp.of (b := b) (bel bxS hb2)) (by omega)⟩⟩, HS.out.below hb2, hk1.trans (Kp.of (bel bxS hb2))⟩
set_option maxRecDepth 100000 in
set_option maxHeartbeats 4000000 in
theorem pSourceN {b p : Nat} {w : World} (HM : Calls Tryz.prog 52 #[.pointer (some ⟨b, 0, none⟩)] w fun e w' => e = .panicked (pnW p) ∧ Kp b w w') :
    Calls Tryz.prog 35 #[.pointer (some ⟨b, 0, none⟩)] w fun e w' => e = .panicked (pnW p) ∧ Kp b w w' := by
  go_enter Tryz.func35, Tryz.ntmps35
  go_wp2_with (first
    | (go_at_call 52; refine HM.mono ?_; rintro e w1 ⟨rfl, hk1⟩))
  exact ⟨rfl, rfl, hk1⟩
theorem asW_yes (v : Value) (w : World) : (Instr.typeAssert (.iface 86 v) 20 86 true).run Tryz.prog w = .ok (.tuple #[v, .bool true]) w := by kernel_rfl
theorem asW_no (w : World) : (Instr.typeAssert .nilIface 20 86 true).run Tryz.prog w = .ok (.tuple #[.int .i64 0, .bool false]) w := by kernel_rfl
theorem asX_no (w : World) : (Instr.typeAssert .nilIface 20 87 true).run Tryz.prog w = .ok (.tuple #[.int .i64 0, .bool false]) w := by kernel_rfl
end Go.Proofs.YthdhmlojihpfkaaGreat

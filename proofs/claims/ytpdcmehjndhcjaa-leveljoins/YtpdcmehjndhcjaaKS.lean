/- The shared book's fit, binary, clock. -/
import Derived.Test.YtpdcmehjndhcjaaKR
namespace Go.Proofs.Ytpdcmehjndhcjaa
open Go.RowKit Lg Nl Go.Maps
set_option linter.unusedVariables false
set_option linter.unusedSimpArgs false

theorem KeepN.below {N : Nat → Prop} {w w' : World} (h : Below w.heap.size w w') : KeepN N w w' := ⟨h.size, fun k hk _ => h.block k hk⟩
theorem LsW.below {B b : Nat} {l : List Nd} {vN vT : Value} {pt : Pt} {w w' : World} (h : LsW B b l vN vT pt w) (hb : Below w.heap.size w w') : LsW B b l vN vT pt w' := by
  obtain ⟨xs, ho, hn⟩ := h.row
  exact ⟨(hb.block b (hLt h.blk)).trans h.blk, ⟨xs, own_below ho hb, hn.keep (KeepN.below hb)⟩, h.hb, own_below h.nt.1 hb, h.nt.2⟩
theorem LsW.newN {B b : Nat} {l : List Nd} {vN vT : Value} {pt : Pt} {w : World} (h : LsW B b l vN vT pt w) : Nb B b vN vT w.heap.size := by
  obtain ⟨xs, ho, _⟩ := h.row
  have h1 := hLt h.blk
  have h2 := h.hb
  refine ⟨⟨by omega, by omega, fun e => ?_⟩, fun e => ?_⟩
  · have := (World.ownsRow.lt ho w.heap.size e).2
    omega
  · have := (World.ownsRow.lt h.nt.1 w.heap.size e).2
    omega
theorem LsW.slice_ {B b : Nat} {l : List Nd} {vN vT : Value} {pt : Pt} {w : World} (h : LsW B b l vN vT pt w) : ∃ ao cap, vN = .slice ao l.length cap := by
  obtain ⟨xs, ho, _⟩ := h.row
  exact own_slice ho
/-- one number in a new block -/
theorem one_new {B b : Nat} {l : List Nd} {vN vT : Value} {pt : Pt} {w : World} (h : LsW B b l vN vT pt w) (z : Int) : IntsN (w.alloc (.cells #[.int .i64 z] 3)) (Nb B b vN vT) (.slice (some ⟨w.heap.size, 0, none⟩) 1 1) [z] := by
  refine ⟨_, 1, rfl, Nat.le_refl _, Or.inr ⟨w.heap.size, 0, rfl, h.newN, by simp, fun i hi => ?_⟩⟩
  have h0 : i = 0 := by simpa using hi
  subst h0
  rw [Lib.cell_of_heap (alAt rfl)]; rfl
def fitL (l : List Nd) (k : Nat) (wd : Int) : Nat × List Nd := if wdAt l k = wd then (k, l) else (l.length, l ++ [⟨6, 0, wd, [(k : Int)], [], 0, 0, 0⟩])
set_option maxHeartbeats 1000000 in
theorem kFit_c (B b : Nat) (l : List Nd) (vN vT : Value) (pt : Pt) (w : World) (k : Nat) (wd : Int) (h : LsW B b l vN vT pt w) (hk : k < l.length) (hl : l.length ≤ 100000) :
    Calls Try.prog 23 #[.pointer (some ⟨b, 0, none⟩), .int .i64 k, .int .i64 wd] w fun e w' => e = .returned (.int .i64 ((fitL l k wd).1 : Nat)) ∧ ∃ vN', LsW B b (fitL l k wd).2 vN' vT pt w' ∧ Bx B b vN vN' w w' := by
  have hN := h.nds
  obtain ⟨g, o, cap, rfl⟩ := hN.some_ (by omega)
  obtain ⟨gl, gd⟩ := hN.wd k hk
  rw [← wdAt_eq hk] at gd
  obtain ⟨n, hn⟩ : ∃ n, n = l.length := ⟨_, rfl⟩
  rw [← hn] at h hk hl
  obtain ⟨p0, p1, p2⟩ := cells3n h.blk
  have hbl := hLt h.blk
  have hBb := h.hb
  have k1 : (0 : Int) ≤ (k : Int) := by omega
  have k2 : (k : Int) < (n : Int) := by omega
  have HA : Hid (∀ W, Below w.heap.size w W → IntsN W (Nb B b (.slice (some ⟨g, o, none⟩) n cap) vT) (.slice (some ⟨w.heap.size, 0, none⟩) 1 1) [(k : Int)] → Calls Try.prog 21 #[.pointer (some ⟨b, 0, none⟩), .agg #[.int .i64 6, .int .i64 0, .int .i64 wd, .slice (some ⟨w.heap.size, 0, none⟩) 1 1, .string (S []), .int .i64 0, .int .i64 0, .int .i64 0]] W fun e w' => e = .returned (.int .i64 (n : Nat)) ∧ ∃ vN', LsW B b (l ++ [⟨6, 0, wd, [(k : Int)], [], 0, 0, 0⟩]) vN' vT pt w' ∧ Bx B b (.slice (some ⟨g, o, none⟩) n cap) vN' W w') := fun W hW hI => by
    have := kAdds_c B b l _ vT pt W ⟨6, 0, wd, [(k : Int)], [], 0, 0, 0⟩ (some ⟨w.heap.size, 0, none⟩) 1 1 (h.below hW) hI (by rw [← hn]; exact hl)
    rw [← hn] at this
    exact this
  have HON := one_new h (k : Int)
  replace HON : Hid _ := HON
  have HL : Hid (LsW B b l (.slice (some ⟨g, o, none⟩) n cap) vT pt w) := h
  have HNL : Hid (n = l.length) := hn
  obtain ⟨x, hx⟩ : ∃ x, x = wdAt l k := ⟨_, rfl⟩
  rw [← hx] at gd
  by_cases he : x = wd
  · subst he
    have HF : Hid (fitL l k x = (k, l)) := by show fitL l k x = (k, l); unfold fitL; rw [if_pos hx.symm]
    clear h hN hx HA HON
    go_enter Try.func23, Try.ntmps23
    go_wp2_with fail
    go_ret
    rw [HF.out]
    exact ⟨rfl, _, HL.out, by rw [← HNL.out]; exact Bx.refl⟩
  · have HF : Hid (fitL l k wd = (n, l ++ [⟨6, 0, wd, [(k : Int)], [], 0, 0, 0⟩])) := by show fitL l k wd = _; unfold fitL; rw [if_neg (by rw [← hx]; exact he), hn]
    have hs0 : (⟨#[]⟩ : ByteArray) = S [] := rfl
    clear h hN hx hn
    go_enter Try.func23, Try.ntmps23
    go_wp2_with (first | (go_at_call 21; refine (HA.out _ (belA (Below.refl _ _) _) HON.out).mono ?_; rintro e w5 ⟨rfl, v5, h5, hb5⟩))
    go_ret
    rw [HF.out]
    refine ⟨rfl, v5, h5, ?_⟩
    rw [← HNL.out]
    exact (Bx.of_below (by omega) (belA (Below.refl _ _) _)).trans hb5
end Go.Proofs.Ytpdcmehjndhcjaa

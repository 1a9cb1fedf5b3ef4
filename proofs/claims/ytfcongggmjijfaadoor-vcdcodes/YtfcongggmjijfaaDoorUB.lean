/- Layer 19 of the program: a line is put. -/
import Derived.Test.YtfcongggmjijfaaDoorUA
import Derived.Deep.LoopGhost
namespace Go.Proofs.YtfcongggmjijfaaDoor
set_option maxRecDepth 100000
open Go.RowKit Lg Nl Go.Maps Wf Vd
set_option linter.unusedVariables false
set_option linter.unusedSimpArgs false

/-- what is thrown where a dump would be too long, or bytes are none -/
def pnV : List PanicEntry := [{ v := .iface 54 (.agg #[]), recovered := false }]
def maxO : Nat := 1048576
/-- the writer has put a text, or has given up, since it would be too long -/
def Ln (b : Nat) (w : World) (t : List UInt8) (e : Ending) (w' : World) : Prop :=
  Kb b w w' ∧ ((t.length ≤ maxO ∧ e = .returned (.tuple #[]) ∧ Bu b w' t) ∨ (maxO < t.length ∧ e = .panicked pnV))
/-- the parts of a line, and its end -/
def flatB (ps : List ByteArray) : List UInt8 := ps.flatMap L
def lineT (ps : List ByteArray) : List UInt8 := flatB ps ++ [10]
theorem flatB_succ (ps : List ByteArray) (i : Nat) (h : i < ps.length) : flatB (ps.take (i + 1)) = flatB (ps.take i) ++ L ps[i] := by
  unfold flatB
  rw [List.take_succ_eq_append_getElem h, List.flatMap_append]
  simp
theorem flatB_le : ∀ (ps : List ByteArray) (m : Nat), (∀ s ∈ ps, s.size ≤ m) → (flatB ps).length ≤ ps.length * m
  | [], m, _ => by simp [flatB]
  | s :: ps, m, h => by
    have h1 := flatB_le ps m fun x hx => h x (List.mem_cons_of_mem _ hx)
    have h2 := h s List.mem_cons_self
    have h3 : (flatB (s :: ps)).length = s.size + (flatB ps).length := by
      have : flatB (s :: ps) = L s ++ flatB ps := rfl
      rw [this, List.length_append, len_L]
    rw [h3, List.length_cons, Nat.succ_mul]
    omega
theorem part_at {w : World} {g : Nat} {ps : List ByteArray} {fr : Nat × Nat} (h : w.heap[g]? = some (.cells (ps.map Value.string).toArray 9 fr)) (i : Nat) (hi : i < ps.length) : w.cell? ⟨g, i, none⟩ = some (.string ps[i]) := by
  rw [Lib.cell_of_heap h]
  simp [hi]
theorem sN8 : 9 ≠ 5 := by decide
set_option maxHeartbeats 2000000 in
set_option maxRecDepth 100000 in
theorem line_c (b g : Nat) (l : List UInt8) (ps : List ByteArray) (w : World) (h : Bu b w l) (hp : w.heap[g]? = some (.cells (ps.map Value.string).toArray 9 (0, 0))) (hgb : g ≠ b) (hl : l.length ≤ maxO) (hn : ps.length ≤ 16) (hs : ∀ s ∈ ps, s.size ≤ 100000) :
    Calls Tryd.prog 39 #[.pointer (some ⟨b, 0, none⟩), .slice (some ⟨g, 0, none⟩) ps.length ps.length] w fun e w' => Ln b w (l ++ lineT ps) e w' := by
  have HU := hidV h
  have HP := hidV hp
  have HG := hidV hgb
  have HL : Hid (l.length ≤ 1048576) := hl
  have HN := hidV hn
  have HS := hidV hs
  clear h hp hgb hl hn hs
  go_enter Tryd.func39, Tryd.ntmps39
  go_upto_region 1 with fail
  go_loopg [8] ps.length (fun gh s8 wr => ∃ i : Nat, i ≤ ps.length ∧ gh = ps.length - i ∧ s8 = .int .i64 i ∧ Hid (Bu b wr (l ++ flatB (ps.take i))) ∧ Hid (Kb b w wr))
  case atStart => exact ⟨0, Nat.zero_le _, rfl, rfl, by show Bu _ _ _; simpa [flatB] using HU.out, Kb.refl _ _⟩
  case round =>
    obtain ⟨i, hi, rfl, rfl, HB, HK⟩ := hrel
    obtain ⟨wx, hwx⟩ : ∃ wx, wx = wr := ⟨_, rfl⟩
    rw [← hwx] at HB HK ⊢
    clear hwx
    by_cases hin : i < ps.length
    · have HP1 := hidV (HK.out.far g _ _ _ HP.out sN8 HG.out)
      obtain ⟨s, hse⟩ : ∃ s, s = ps[i]'hin := ⟨_, rfl⟩
      have c0 : wx.cell? ⟨g, i, none⟩ = some (.string s) := by rw [hse]; exact part_at HP1.out i hin
      have lg := hLt HP1.out
      have i0 : (0 : Int) ≤ (i : Int) := by omega
      have i1 : (i : Int) < (ps.length : Int) := by omega
      have HI : Hid (i < ps.length) := hin
      have HF : Hid (flatB (ps.take (i + 1)) = flatB (ps.take i) ++ L s) := by show _ = _; rw [hse]; exact flatB_succ ps i hin
      have HZ : Hid ((L s).length = s.size ∧ s.size ≤ 100000) := ⟨len_L _, HS.out _ (by rw [hse]; exact List.getElem_mem hin)⟩
      have HT : Hid ((flatB (ps.take i)).length ≤ 16 * 100000) := Nat.le_trans (flatB_le _ 100000 fun s hs => HS.out s (List.mem_of_mem_take hs)) (Nat.mul_le_mul_right _ (Nat.le_trans (by rw [List.length_take]; exact Nat.min_le_right _ _) HN.out))
      clear hin hse
      have HW : Hid (Calls Tryd.prog 49 #[.pointer (some ⟨b, 0, none⟩), .string s] wx fun e w' => (∃ v, e = .returned v) ∧ Bu b w' ((l ++ flatB (ps.take i)) ++ L s) ∧ Kb b wx w') := wstr_c b _ s wx HB.out (by rw [List.length_append]; have := HT.out; have := HL.out; have := HZ.out; omega)
      go_wp2_with (first
        | (go_at_call 49; refine HW.out.mono ?_; rintro e w2 ⟨⟨v, rfl⟩, hu2, hk2⟩; have HU2 := hidV hu2; have HK2 := hidV hk2; clear hu2 hk2))
      go_roundg (ps.length - (i + 1))
      case measure => omega
      case rel =>
        exact ⟨i + 1, HI.out, rfl, wrap_succ (n := 16) (by have := HI.out; have := HN.out; omega) (by decide), by show Bu _ _ _; rw [HF.out, ← List.append_assoc]; exact HU2.out, HK.out.trans HK2.out⟩
    · have hie : i = ps.length := by omega
      have HBf : Hid (Bu b wx (l ++ flatB ps)) := by show Bu _ _ _; have h := HB.out; rw [hie, List.take_length] at h; exact h
      have HT : Hid ((flatB ps).length ≤ 16 * 100000) := Nat.le_trans (flatB_le _ 100000 fun s hs => HS.out s hs) (Nat.mul_le_mul_right _ HN.out)
      have HW : Hid (Calls Tryd.prog 50 #[.pointer (some ⟨b, 0, none⟩), .int .u8 10] wx fun e w' => (∃ v, e = .returned v) ∧ Bu b w' ((l ++ flatB ps) ++ [10]) ∧ Kb b wx w') := wbyte_c b _ 10 10 rfl wx HBf.out (by rw [List.length_append]; have := HT.out; have := HL.out; omega)
      have i5 : ¬ (i : Int) < (ps.length : Int) := by omega
      clear hin hie
      have HTe : Hid ((l ++ flatB ps) ++ [10] = l ++ lineT ps) := by show _ = _; unfold lineT; rw [List.append_assoc]
      have HW2 : Hid (Calls Tryd.prog 50 #[.pointer (some ⟨b, 0, none⟩), .int .u8 10] wx fun e w' => (∃ v, e = .returned v) ∧ Bu b w' (l ++ lineT ps) ∧ Kb b wx w') := by have h := HW.out; rw [HTe.out] at h; exact h
      clear HW HTe
      obtain ⟨t, hte⟩ : ∃ t, t = l ++ lineT ps := ⟨_, rfl⟩
      rw [← hte] at HW2
      have HTt := hidV hte
      clear hte
      have HLn : Hid (∀ W, Bu b W t → Calls Tryd.prog 51 #[.pointer (some ⟨b, 0, none⟩)] W fun e w' => e = .returned (.int .i64 t.length) ∧ w' = W) := fun W h => wlen_c b t W h
      by_cases hlen : t.length ≤ maxO
      · have q1 : ¬ (1048576 : Int) < (t.length : Int) := by unfold maxO at hlen; omega
        have HQ := hidV hlen
        clear hlen
        go_wp2_with (first
          | (go_at_call 50; refine HW2.out.mono ?_; rintro e w2 ⟨⟨v, rfl⟩, hu2, hk2⟩; have HU2 := hidV hu2; have HK2 := hidV hk2; clear hu2 hk2)
          | (go_at_call 51; refine (HLn.out _ HU2.out).mono ?_; rintro e w3 ⟨rfl, rfl⟩))
        go_end0
        rw [← HTt.out]
        exact ⟨HK.out.trans HK2.out, Or.inl ⟨HQ.out, rfl, HU2.out⟩⟩
      · have q1 : (1048576 : Int) < (t.length : Int) := by unfold maxO at hlen; omega
        have HQ : Hid (maxO < t.length) := by show maxO < _; omega
        clear hlen
        go_wp2_with (first
          | (go_at_call 50; refine HW2.out.mono ?_; rintro e w2 ⟨⟨v, rfl⟩, hu2, hk2⟩; have HU2 := hidV hu2; have HK2 := hidV hk2; clear hu2 hk2)
          | (go_at_call 51; refine (HLn.out _ HU2.out).mono ?_; rintro e w3 ⟨rfl, rfl⟩))
        refine ⟨rfl, ?_⟩
        rw [← HTt.out]
        exact ⟨HK.out.trans HK2.out, Or.inr ⟨HQ.out, rfl⟩⟩
/-- a line where there is room -/
theorem line_ok (b g : Nat) (l : List UInt8) (ps : List ByteArray) (t : List UInt8) (n : Nat) (w : World) (ht : t = l ++ lineT ps) (hn : n = ps.length) (h : Bu b w l) (hp : w.heap[g]? = some (.cells (ps.map Value.string).toArray 9 (0, 0))) (hgb : g ≠ b) (hl : t.length ≤ maxO) (hn16 : n ≤ 16) (hs : ∀ s ∈ ps, s.size ≤ 100000) :
    Calls Tryd.prog 39 #[.pointer (some ⟨b, 0, none⟩), .slice (some ⟨g, 0, none⟩) n n] w fun e w' => e = .returned (.tuple #[]) ∧ Bu b w' t ∧ Kb b w w' := by
  subst ht hn
  refine (line_c b g l ps w h hp hgb (by rw [List.length_append] at hl; omega) hn16 hs).mono ?_
  rintro e w' ⟨hk, ⟨h1, h2, h3⟩ | ⟨h1, h2⟩⟩
  · exact ⟨h2, h3, hk⟩
  · omega
/-- a line where there is none -/
theorem line_no (b g : Nat) (l : List UInt8) (ps : List ByteArray) (t : List UInt8) (n : Nat) (w : World) (ht : t = l ++ lineT ps) (hn : n = ps.length) (h : Bu b w l) (hp : w.heap[g]? = some (.cells (ps.map Value.string).toArray 9 (0, 0))) (hgb : g ≠ b) (hll : l.length ≤ maxO) (hl : maxO < t.length) (hn16 : n ≤ 16) (hs : ∀ s ∈ ps, s.size ≤ 100000) :
    Calls Tryd.prog 39 #[.pointer (some ⟨b, 0, none⟩), .slice (some ⟨g, 0, none⟩) n n] w fun e w' => e = .panicked pnV ∧ Kb b w w' := by
  subst ht hn
  refine (line_c b g l ps w h hp hgb hll hn16 hs).mono ?_
  rintro e w' ⟨hk, ⟨h1, h2, h3⟩ | ⟨h1, h2⟩⟩
  · omega
  · exact ⟨h2, hk⟩
end Go.Proofs.YtfcongggmjijfaaDoor

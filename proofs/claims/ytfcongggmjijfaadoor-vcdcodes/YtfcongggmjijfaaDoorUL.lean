/- Layer 19 of the program: the reader at its box: a line, fixed lines. -/
import Derived.Test.YtfcongggmjijfaaDoorUK
import Derived.Maps.OwnSet
import Derived.StringKeys
namespace Go.Proofs.YtfcongggmjijfaaDoor
set_option maxRecDepth 100000
open Go.RowKit Lg Nl Go.Maps Wf Vd
set_option linter.unusedVariables false
set_option linter.unusedSimpArgs false

/-- a text up to a byte, and behind it -/
def cutO (c : UInt8) : List UInt8 → Option (List UInt8 × List UInt8)
  | [] => none
  | x :: l => if x = c then some ([], l) else (cutO c l).map fun p => (x :: p.1, p.2)
theorem cutO_no (c : UInt8) : ∀ l : List UInt8, c ∉ l → cutO c l = none
  | [], _ => rfl
  | x :: l, h => by
    have h1 : x ≠ c := fun e => h (by rw [e]; exact List.mem_cons_self)
    have h2 := cutO_no c l fun e => h (List.mem_cons_of_mem _ e)
    unfold cutO
    rw [if_neg h1, h2]; rfl
theorem cutO_at (c : UInt8) : ∀ (a b : List UInt8), c ∉ a → cutO c (a ++ c :: b) = some (a, b)
  | [], b, _ => by show (if c = c then _ else _) = _; rw [if_pos rfl]
  | x :: a, b, h => by
    have h1 : x ≠ c := fun e => h (by rw [e]; exact List.mem_cons_self)
    have h2 := cutO_at c a b fun e => h (List.mem_cons_of_mem _ e)
    show (if x = c then _ else (cutO c (a ++ c :: b)).map fun p => (x :: p.1, p.2)) = _
    rw [if_neg h1, h2]; rfl
theorem cutO_inv {c : UInt8} {l a b : List UInt8} (h : cutO c l = some (a, b)) : l = a ++ c :: b ∧ c ∉ a := by
  rcases first_at c l with hc | ⟨a', b', rfl, hc⟩
  · rw [cutO_no c l hc] at h; cases h
  · rw [cutO_at c a' b' hc] at h
    injection h with h
    injection h with h1 h2
    subst h1 h2
    exact ⟨rfl, hc⟩
theorem cutO_none {c : UInt8} {l : List UInt8} (h : cutO c l = none) : c ∉ l := by
  rcases first_at c l with hc | ⟨a', b', rfl, hc⟩
  · exact hc
  · rw [cutO_at c a' b' hc] at h; cases h
theorem cells6 {w : World} {b : Nat} {y0 y1 y2 y3 y4 y5 : Value} {t : TypeId} (h : w.heap[b]? = some (.cells #[y0, y1, y2, y3, y4, y5] t (0, 0))) : w.cell? ⟨b, 0, none⟩ = some y0 ∧ w.cell? ⟨b, 1, none⟩ = some y1 ∧ w.cell? ⟨b, 2, none⟩ = some y2 ∧ w.cell? ⟨b, 3, none⟩ = some y3 ∧ w.cell? ⟨b, 4, none⟩ = some y4 ∧ w.cell? ⟨b, 5, none⟩ = some y5 := by
  refine ⟨?_, ?_, ?_, ?_, ?_, ?_⟩ <;> (rw [Lib.cell_of_heap h]; rfl)
theorem set60 {W : World} {b : Nat} {y0 y1 y2 y3 y4 y5 y : Value} {t : TypeId} (h : W.heap[b]? = some (.cells #[y0, y1, y2, y3, y4, y5] t (0, 0))) : (W.setCell ⟨b, 0, none⟩ y).heap[b]? = some (.cells #[y, y1, y2, y3, y4, y5] t (0, 0)) := by
  simp only [World.setCell]
  rw [Array.getElem?_modify, if_pos rfl, h]; rfl
theorem kx_drewN (b : Nat) (w : World) (n : Nat) : Kx b w (w.drewN n) := ⟨bdn (Below.refl _ _) n, fun _ _ => rfl⟩
theorem Kx.trans {b : Nat} {u v w : World} (h : Kx b u v) (k : Kx b v w) : Kx b u w := ⟨h.low.trans k.low, fun i hi => (k.far i hi).trans (h.far i hi)⟩
/-- what a line tells -/
def RlR (R : Nat) (w : World) (s : ByteArray) (v1 v2 v3 v4 v5 : Value) (e : Ending) (w' : World) : Prop := Kx R w w' ∧ match cutO 10 (L s) with
  | some (t, r) => e = .returned (.string (S t)) ∧ w'.heap[R]? = some (.cells #[.string (S r), v1, v2, v3, v4, v5] 67 (0, 0))
  | none => e = .panicked pnV
theorem rline_ok (R : Nat) (s : ByteArray) (v1 v2 v3 v4 v5 : Value) (t r : List UInt8) (w : World) (h : w.heap[R]? = some (.cells #[.string s, v1, v2, v3, v4, v5] 67 (0, 0))) (hs : s.size ≤ 4294967280) (hc : cutO 10 (L s) = some (t, r)) :
    Calls Tryd.prog 43 #[.pointer (some ⟨R, 0, none⟩)] w fun e w' => e = .returned (.string (S t)) ∧ w'.heap[R]? = some (.cells #[.string (S r), v1, v2, v3, v4, v5] 67 (0, 0)) ∧ Kx R w w' := by
  obtain ⟨h1, h2⟩ := cutO_inv hc
  have HC := hidV (fun W => cut_ok s 10 t r W h1 h2 hs)
  obtain ⟨c0, c1, c2, c3, c4, c5⟩ := cells6 h
  have HH := hidV h
  clear h1 h2 hc hs h c1 c2 c3 c4 c5
  go_enter Tryd.func43, Tryd.ntmps43
  go_wp2_with (first
    | (go_at_call 53; refine (HC.out _).mono ?_; rintro e w1 ⟨rfl, n, rfl⟩; have c9 : (w.drewN n).cell? ⟨R, 0, none⟩ = some (.string s) := c0; have f9 : (w.drewN n).frozen? ⟨R, 0, none⟩ = false := Lib.frozen_of_heap HH.out 0))
  go_ret
  exact ⟨rfl, set60 (W := w.drewN n) HH.out, (kx_drewN R w n).trans (Kx.set R 0 _ _)⟩
theorem rline_no (R : Nat) (s : ByteArray) (v1 v2 v3 v4 v5 : Value) (w : World) (h : w.heap[R]? = some (.cells #[.string s, v1, v2, v3, v4, v5] 67 (0, 0))) (hc : cutO 10 (L s) = none) :
    Calls Tryd.prog 43 #[.pointer (some ⟨R, 0, none⟩)] w fun e w' => e = .panicked pnV ∧ Kx R w w' := by
  have HC := hidV (fun W => cut_no s 10 W (cutO_none hc))
  obtain ⟨c0, c1, c2, c3, c4, c5⟩ := cells6 h
  clear hc h c1 c2 c3 c4 c5
  go_enter Tryd.func43, Tryd.ntmps43
  go_wp2_with (first
    | (go_at_call 53; refine (HC.out _).mono ?_; rintro e w1 ⟨rfl, n, rfl⟩))
  exact ⟨rfl, rfl, kx_drewN R w n⟩
/-- lines that have to stand there -/
def fixM : List (List UInt8) → List UInt8 → Option (List UInt8)
  | [], l => some l
  | t :: ts, l => match cutO 10 l with
    | none => none
    | some (a, b) => if a = t then fixM ts b else none
def RfQ (R : Nat) (w : World) (q : Option (List UInt8)) (v1 v2 v3 v4 v5 : Value) (e : Ending) (w' : World) : Prop := Kx R w w' ∧ match q with
  | some r => e = .returned (.tuple #[]) ∧ w'.heap[R]? = some (.cells #[.string (S r), v1, v2, v3, v4, v5] 67 (0, 0))
  | none => e = .panicked pnV
theorem RfQ.yes {R : Nat} {w w' : World} {q : Option (List UInt8)} {r : List UInt8} {v1 v2 v3 v4 v5 : Value} (hq : q = some r) (hk : Kx R w w') (hh : w'.heap[R]? = some (.cells #[.string (S r), v1, v2, v3, v4, v5] 67 (0, 0))) : RfQ R w q v1 v2 v3 v4 v5 (.returned (.tuple #[])) w' := by
  subst hq; exact ⟨hk, rfl, hh⟩
theorem RfQ.no {R : Nat} {w w' : World} {q : Option (List UInt8)} {v1 v2 v3 v4 v5 : Value} (hq : q = none) (hk : Kx R w w') : RfQ R w q v1 v2 v3 v4 v5 (.panicked pnV) w' := by
  subst hq; exact ⟨hk, rfl⟩
set_option maxHeartbeats 2000000 in
theorem fixed_c (R g : Nat) (ts : List ByteArray) (l : List UInt8) (v1 v2 v3 v4 v5 : Value) (w : World) (h : w.heap[R]? = some (.cells #[.string (S l), v1, v2, v3, v4, v5] 67 (0, 0))) (hl : l.length ≤ 4294967280) (hp : w.heap[g]? = some (.cells (ts.map Value.string).toArray 9 (0, 0))) (hg : g ≠ R) (hn : ts.length ≤ 16) :
    Calls Tryd.prog 42 #[.pointer (some ⟨R, 0, none⟩), .slice (some ⟨g, 0, none⟩) ts.length ts.length] w fun e w' => RfQ R w (fixM (ts.map L) l) v1 v2 v3 v4 v5 e w' := by
  have HH := hidV h
  have HP := hidV hp
  have HG := hidV hg
  have HN := hidV hn
  have HL := hidV hl
  obtain ⟨q, hq⟩ : ∃ q, q = fixM (ts.map L) l := ⟨_, rfl⟩
  rw [← hq]
  have HF := hidV hq
  clear h hp hg hn hl hq
  go_enter Tryd.func42, Tryd.ntmps42
  go_upto_region 1 with fail
  go_loopg [8] ts.length (fun gh s8 wr => ∃ (i : Nat) (m : List UInt8), i ≤ ts.length ∧ gh = ts.length - i ∧ s8 = .int .i64 i ∧ Hid (wr.heap[R]? = some (.cells #[.string (S m), v1, v2, v3, v4, v5] 67 (0, 0))) ∧ Hid (m.length ≤ 4294967280) ∧ Hid (q = fixM ((ts.drop i).map L) m) ∧ Hid (Kx R w wr))
  case atStart => exact ⟨0, l, Nat.zero_le _, rfl, rfl, HH.out, HL.out, HF.out, Kx.refl _ _⟩
  case round =>
    obtain ⟨i, m, hi, rfl, rfl, HM, HMl, HFm, HK⟩ := hrel
    obtain ⟨wx, hwx⟩ : ∃ wx, wx = wr := ⟨_, rfl⟩
    rw [← hwx] at HM HK ⊢
    clear hwx
    by_cases hin : i < ts.length
    · have HP1 : Hid (wx.heap[g]? = some (.cells (ts.map Value.string).toArray 9 (0, 0))) := (HK.out.far g HG.out).trans HP.out
      obtain ⟨s, hse⟩ : ∃ s, s = ts[i]'hin := ⟨_, rfl⟩
      have c0 : wx.cell? ⟨g, i, none⟩ = some (.string s) := by rw [hse]; exact part_at HP1.out i hin
      have lg := hLt HP1.out
      have i0 : (0 : Int) ≤ (i : Int) := by omega
      have i1 : (i : Int) < (ts.length : Int) := by omega
      have HI : Hid (i < ts.length) := hin
      have HD : Hid ((ts.drop i).map L = L s :: (ts.drop (i + 1)).map L) := by show _ = _; rw [List.drop_eq_getElem_cons hin, hse]; rfl
      clear hin hse
      cases hcut : cutO 10 m with
      | none =>
        have hL : cutO 10 (L (S m)) = none := by rw [L_S]; exact hcut
        have HY : Hid (q = none) := by show _ = _; rw [HFm.out, HD.out]; unfold fixM; rw [hcut]
        have HC := hidV (rline_no R (S m) v1 v2 v3 v4 v5 wx HM.out hL)
        clear hL hcut
        go_wp2_with (first
          | (go_at_call 43; refine HC.out.mono ?_; rintro e w2 ⟨rfl, hk2⟩))
        exact ⟨rfl, RfQ.no HY.out (HK.out.trans hk2)⟩
      | some p =>
        obtain ⟨a, b⟩ := p
        have hL : cutO 10 (L (S m)) = some (a, b) := by rw [L_S]; exact hcut
        have HY : Hid (q = if a = L s then fixM ((ts.drop (i + 1)).map L) b else none) := by show _ = _; rw [HFm.out, HD.out]; show (match cutO 10 m with | none => none | some (a, b) => if a = L s then fixM ((ts.drop (i + 1)).map L) b else none) = _; rw [hcut]
        have HBl : Hid (b.length ≤ 4294967280) := by have := (cutO_inv hcut).1; have h := HMl.out; rw [this, List.length_append, List.length_cons] at h; show _ ≤ _; omega
        have HC := hidV (rline_ok R (S m) v1 v2 v3 v4 v5 a b wx HM.out (by rw [size_S]; exact HMl.out) hL)
        clear hL hcut
        by_cases hab : a = L s
        · have hab' : ((S a).toList == s.toList) = true := by rw [beq_iff_eq, toL, toL, L_S]; exact hab
          have HZ : Hid (q = fixM ((ts.drop (i + 1)).map L) b) := by show _ = _; rw [HY.out, if_pos hab]
          clear hab HY
          generalize S a = sa at *
          go_wp2_with (first
            | (go_at_call 43; refine HC.out.mono ?_; rintro e w2 ⟨rfl, hh2, hk2⟩; have HH2 := hidV hh2; have HK2 := hidV hk2; clear hh2 hk2))
          go_roundg (ts.length - (i + 1))
          case measure => have := HI.out; omega
          case rel => exact ⟨i + 1, b, HI.out, rfl, wrap_succ (n := 16) (by have := HI.out; have := HN.out; omega) (by decide), HH2.out, HBl.out, HZ.out, HK.out.trans HK2.out⟩
        · have hab' : ((S a).toList == s.toList) = false := by rw [beq_eq_false_iff_ne, toL, toL, L_S]; exact hab
          have HZ : Hid (q = none) := by show _ = _; rw [HY.out, if_neg hab]
          clear hab HY
          generalize S a = sa at *
          go_wp2_with (first
            | (go_at_call 43; refine HC.out.mono ?_; rintro e w2 ⟨rfl, hh2, hk2⟩; have HK2 := hidV hk2; clear hh2 hk2))
          exact ⟨rfl, RfQ.no HZ.out (HK.out.trans HK2.out)⟩
    · have hie : i = ts.length := by omega
      have HZ : Hid (q = some m) := by show _ = _; rw [HFm.out, hie, List.drop_length]; rfl
      have i5 : ¬ (i : Int) < (ts.length : Int) := by omega
      clear hin hie
      go_wp2_with fail
      go_end0
      exact RfQ.yes HZ.out HK.out HM.out
end Go.Proofs.YtfcongggmjijfaaDoor

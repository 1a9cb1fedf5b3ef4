/- Layer 2 of the program: the reader's steps. -/
import Derived.Test.YtnlfepfhabaekaaXG
import Derived.Test.YtnlfepfhabaekaaXF
import Derived.Test.YtnlfepfhabaekaaXD
namespace Go.Proofs.Ytnlfepfhabaekaa
open Go.RowKit Lg
set_option linter.unusedVariables false
set_option linter.unusedSimpArgs false

def codeO (n : Nat) : Stp → Int
  | .skip _ => 0
  | .err c => c
  | .tk _ _ _ => if n = 16384 then 2 else 0
def TkAfter (B b : Nat) (s : ByteArray) (p : Nat) (d : Bool) (ts : List Tok) (k : Int) (x : List UInt8) (m : Nat) (w : World) : Prop :=
  if ts.length = 16384 then ∃ d, Rd B b s p d ts w else Rd B b s (p + m) d (ts ++ [⟨k, x, p⟩]) w
def After (B b : Nat) (s : ByteArray) (p : Nat) (df : Bool) (ts : List Tok) (o : Stp) (w : World) : Prop :=
  match o with
  | .skip m => Rd B b s (p + m) df ts w
  | .err _ => ∃ d, Rd B b s p d ts w
  | .tk k x m => TkAfter B b s p (dfN df k x) ts k x m w
theorem rd_setd {B b : Nat} {s : ByteArray} {p : Nat} {df : Bool} {ts : List Tok} {w : World} (h : Rd B b s p df ts w) (d : Bool) : Rd B b s p d ts (w.setCell ⟨b, 2, none⟩ (.bool d)) ∧ Below B w (w.setCell ⟨b, 2, none⟩ (.bool d)) := by
  obtain ⟨v, h1, hh, ho, hn⟩ := h
  exact ⟨⟨v, h1, (put_cells hh).2.2 _, owns_set ho hn, hn⟩, (Below.refl _ _).setCell h1 _⟩
theorem rd_seta {B b : Nat} {s : ByteArray} {p : Nat} {df : Bool} {ts : List Tok} {w : World} (h : Rd B b s p df ts w) (m : Nat) : Rd B b s (p + m) df ts (w.setCell ⟨b, 1, none⟩ (.int .i64 ((p : Int) + (m : Int)))) ∧ Below B w (w.setCell ⟨b, 1, none⟩ (.int .i64 ((p : Int) + (m : Int)))) := by
  obtain ⟨v, h1, hh, ho, hn⟩ := h
  exact ⟨⟨v, h1, (put_cells hh).2.1 _, owns_set ho hn, hn⟩, (Below.refl _ _).setCell h1 _⟩
theorem take_c (B b : Nat) (s : ByteArray) (p : Nat) (d : Bool) (ts : List Tok) (k : Int) (x : ByteArray) (n : Nat) (w : World) (h : Rd B b s p d ts w) (hl : ts.length ≤ 16384) (hp : p ≤ 65536) (hn : n ≤ 65536) (hBw : B ≤ w.heap.size) :
    Calls Try.prog 43 #[.pointer (some ⟨b, 0, none⟩), .int .i64 k, .string x, .int .i64 n] w fun e w' => e = .returned (.int .i64 (codeO ts.length (.tk k (L x) n))) ∧ (TkAfter B b s p d ts k (L x) n w' ∧ Below B w w') := by
  by_cases hf : ts.length = 16384
  · refine (take_full B b s p d ts k x n w h hf).mono ?_
    rintro e w' ⟨rfl, rfl⟩
    unfold TkAfter codeO
    rw [if_pos hf, if_pos hf]
    exact ⟨rfl, ⟨d, h⟩, Below.refl _ _⟩
  · refine (take_ok B b s p d ts k x n w h (by omega) hp hn hBw).mono ?_
    rintro e w' ⟨rfl, h1, h2⟩
    unfold TkAfter codeO
    rw [if_neg hf, if_neg hf]
    exact ⟨rfl, h1, h2⟩
theorem take_n (B b : Nat) (s : ByteArray) (p : Nat) (d : Bool) (ts : List Tok) (k : Int) (x : ByteArray) (n : Int) (m : Nat) (w : World) (h : Rd B b s p d ts w) (hl : ts.length ≤ 16384) (hp : p ≤ 65536) (hn : m ≤ 65536) (hBw : B ≤ w.heap.size) (hnm : n = (m : Int)) :
    Calls Try.prog 43 #[.pointer (some ⟨b, 0, none⟩), .int .i64 k, .string x, .int .i64 n] w fun e w' => e = .returned (.int .i64 (codeO ts.length (.tk k (L x) m))) ∧ (TkAfter B b s p d ts k (L x) m w' ∧ Below B w w') := by
  subst hnm; exact take_c B b s p d ts k x m w h hl hp hn hBw

set_option maxHeartbeats 1000000 in
theorem name_c (B b : Nat) (s : ByteArray) (p : Nat) (df : Bool) (ts : List Tok) (w : World) (h : Rd B b s p df ts w) (hl : ts.length ≤ 16384) (hp : p ≤ 65536) (hBw : B ≤ w.heap.size) (x : ByteArray) (hx : x.size ≤ 65536) :
    Calls Try.prog 39 #[.pointer (some ⟨b, 0, none⟩), .string x] w fun e w' => e = .returned (.int .i64 (codeO ts.length (if 64 < (L x).length then .err 4 else .tk 1 (L x) (L x).length))) ∧ (After B b s p df ts (if 64 < (L x).length then .err 4 else .tk 1 (L x) (L x).length) w' ∧ Below B w w') := by
  rw [len_L]
  by_cases h1 : 64 < x.size
  · rw [if_pos h1]
    go_enter Try.func39, Try.ntmps39
    go_wp2
    go_ret
    exact ⟨rfl, ⟨df, h⟩, Below.refl _ _⟩
  · rw [if_neg h1]
    have hd : dfN df 1 (L x) = df := by unfold dfN; simp
    have HA : Hid (∀ w', TkAfter B b s p df ts 1 (L x) x.size w' → After B b s p df ts (.tk 1 (L x) x.size) w') := fun w' a => by show TkAfter B b s p (dfN df 1 (L x)) ts 1 (L x) x.size w'; rw [hd]; exact a
    clear hd
    go_enter Try.func39, Try.ntmps39
    go_wp2_with (first | (go_at_call 43; refine (take_c B b s p df ts 1 x x.size _ h hl hp hx hBw).mono ?_; rintro e w' ⟨rfl, ha, hb⟩))
    go_ret
    exact ⟨rfl, HA.out _ ha, hb⟩

set_option maxHeartbeats 1000000 in
theorem number_c (B b : Nat) (s : ByteArray) (p : Nat) (df : Bool) (ts : List Tok) (w : World) (h : Rd B b s p df ts w) (hl : ts.length ≤ 16384) (hp : p ≤ 65536) (hBw : B ≤ w.heap.size) (x : ByteArray) (hx : x.size ≤ 65536) :
    Calls Try.prog 41 #[.pointer (some ⟨b, 0, none⟩), .string x] w fun e w' => e = .returned (.int .i64 (codeO ts.length (match numV (L x) with | none => .err 21 | some _ => .tk 2 (L x) (L x).length))) ∧ (After B b s p df ts (match numV (L x) with | none => .err 21 | some _ => .tk 2 (L x) (L x).length) w' ∧ Below B w w') := by
  have hxm : x.size ≤ maxLen := by unfold maxLen; omega
  have hBlt : ∀ w1, Below w.heap.size w w1 → Below B w w1 := fun w1 hb => hb.mono hBw
  cases hv : numV (L x) with
  | none =>
    have hE : numE2 (L x) = 21 := (num_none hv).2.2
    clear hv
    go_enter Try.func41, Try.ntmps41
    go_wp2_with (first | (go_at_call 25; refine (Number_c x _ hxm).mono ?_; rintro e w1 ⟨rfl, hb1⟩; rw [hE]))
    go_ret
    exact ⟨rfl, ⟨df, rd_keep hb1 h⟩, hBlt _ hb1⟩
  | some v =>
    have hE : numE2 (L x) = 0 := (num_some (v := v.1) (b := v.2) hv).2.2
    have hd : dfN df 2 (L x) = df := by unfold dfN; simp
    have HA : Hid (∀ w', TkAfter B b s p df ts 2 (L x) x.size w' → After B b s p df ts (.tk 2 (L x) (L x).length) w') := fun w' a => by show TkAfter B b s p (dfN df 2 (L x)) ts 2 (L x) (L x).length w'; rw [hd, len_L]; exact a
    have HL : Hid (codeO ts.length (.tk 2 (L x) x.size) = codeO ts.length (.tk 2 (L x) (L x).length)) := rfl
    clear hd hv
    go_enter Try.func41, Try.ntmps41
    go_wp2_with (first
      | (go_at_call 25; refine (Number_c x _ hxm).mono ?_; rintro e w1 ⟨rfl, hb1⟩; rw [hE])
      | (go_at_call 43; refine (take_c B b s p df ts 2 x x.size _ (rd_keep hb1 h) hl hp hx (Nat.le_trans hBw hb1.size)).mono ?_; rintro e w' ⟨rfl, ha, hb⟩))
    go_ret
    exact ⟨rfl, HA.out _ ha, (hBlt _ (by assumption)).trans hb⟩

set_option maxHeartbeats 1000000 in
theorem line_c (B b : Nat) (s : ByteArray) (p : Nat) (df : Bool) (ts : List Tok) (w : World) (h : Rd B b s p df ts w) (hl : ts.length ≤ 16384) (hp : p ≤ 65536) (hBw : B ≤ w.heap.size) :
    Calls Try.prog 36 #[.pointer (some ⟨b, 0, none⟩)] w fun e w' => e = .returned (.int .i64 (codeO ts.length (.tk 5 [] 1))) ∧ (After B b s p df ts (.tk 5 [] 1) w' ∧ Below B w w') := by
  have hr := rd_setd h false
  have hsz : (w.setCell ⟨b, 2, none⟩ (.bool false)).heap.size = w.heap.size := by simp [World.setCell]
  obtain ⟨v, h1, hh, ho, hn⟩ := h
  obtain ⟨c0, c1, c2, c3, cf⟩ := rd_cells hh
  have f2 := cf 2
  have HR : Hid _ := hr
  have HZ : Hid (B ≤ (w.setCell ⟨b, 2, none⟩ (.bool false)).heap.size) := by rw [hsz]; exact hBw
  have HA : Hid (∀ w', TkAfter B b s p false ts 5 [] 1 w' → After B b s p df ts (.tk 5 [] 1) w') := fun w' a => a
  clear hr hh ho hn cf hsz
  go_enter Try.func36, Try.ntmps36
  go_wp2_with (first | (go_at_call 43; refine (take_c B b s p false ts 5 ⟨#[]⟩ 1 _ HR.out.1 hl hp (by omega) HZ.out).mono ?_; rintro e w' ⟨rfl, ha, hb⟩))
  go_ret
  exact ⟨rfl, HA.out _ ha, HR.out.2.trans hb⟩

set_option maxHeartbeats 1000000 in
theorem comment_c (B b : Nat) (s : ByteArray) (p : Nat) (df : Bool) (ts : List Tok) (w : World) (h : Rd B b s p df ts w) (hl : ts.length ≤ 16384) (hp : p ≤ 65536) (hBw : B ≤ w.heap.size) (x : ByteArray) (m : Int) (hx : x.size ≤ 65536) (hm : w.cell? ⟨0, 0, none⟩ = some (.int .i64 m)) (hcw : comW (L x) ≤ 65536) :
    Calls Try.prog 37 #[.pointer (some ⟨b, 0, none⟩), .string x] w fun e w' => e = .returned (.int .i64 (codeO ts.length (if comW (L x) = 0 then .err 20 else .skip (comW (L x))))) ∧ (After B b s p df ts (if comW (L x) = 0 then .err 20 else .skip (comW (L x))) w' ∧ Below B w w') := by
  obtain ⟨n, hn⟩ : ∃ n, n = comW (L x) := ⟨_, rfl⟩
  have hc := fun w hm => commentWide_c x m w hx hm
  rw [← hn] at hc hcw ⊢
  have hr := rd_seta h n
  obtain ⟨v, h1, hh, ho, hne⟩ := h
  obtain ⟨c0, c1, c2, c3, cf⟩ := rd_cells hh
  have f1 := cf 1
  have HR : Hid _ := hr
  have hrd : Rd B b s p df ts w := ⟨v, h1, hh, ho, hne⟩
  have HD : Hid _ := hrd
  clear hr hh ho hne cf hn hrd
  by_cases hz : n = 0
  · subst hz
    rw [if_pos rfl]
    go_enter Try.func37, Try.ntmps37
    go_wp2_with (first | (go_at_call 62; refine (hc _ hm).mono ?_; rintro e w' ⟨rfl, rfl⟩))
    go_ret
    exact ⟨rfl, ⟨df, HD.out⟩, Below.refl _ _⟩
  · rw [if_neg hz]
    have hz2 : ((n : Int) == 0) = false := by simpa using hz
    go_enter Try.func37, Try.ntmps37
    go_wp2_with (first | (go_at_call 62; refine (hc _ hm).mono ?_; rintro e w' ⟨rfl, rfl⟩))
    go_ret
    exact ⟨rfl, HR.out.1, HR.out.2⟩
end Go.Proofs.Ytnlfepfhabaekaa

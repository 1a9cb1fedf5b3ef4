/- Layer 2 of the program: one step of the reader. -/
import Derived.Test.YtnlfepfhabaekaaXI
namespace Go.Proofs.Ytnlfepfhabaekaa
open Go.RowKit Lg
set_option linter.unusedVariables false
set_option linter.unusedSimpArgs false

theorem sgn_not {c d : UInt8} (h : sgnB c = true) (hd : sgnB d = false) : c ≠ d := by rintro rfl; rw [h] at hd; cases hd
theorem take_sg (x : ByteArray) (n : Nat) : L (x.extract 0 n) = (L x).take n := by rw [L_extract, List.drop_zero, Nat.sub_zero]

set_option maxHeartbeats 4000000 in
theorem step_line (B b : Nat) (s : ByteArray) (p : Nat) (df : Bool) (ts : List Tok) (w : World) (h : Rd B b s p df ts w) (hl : ts.length ≤ 16384) (hp : p ≤ 65536) (hBw : B ≤ w.heap.size) (x : ByteArray) (hx : s.extract p s.size = x) (hps : p < s.size) (hs : s.size ≤ 65536) (hxs : x.size ≤ 65536) (hx0 : 0 < x.size) (hk : kinds x[0] = 24) (hdf : df = true) :
    Calls Try.prog 20 #[.pointer (some ⟨b, 0, none⟩)] w fun e w' => e = .returned (.int .i64 (codeO ts.length (.tk 5 [] 1))) ∧ (After B b s p df ts (.tk 5 [] 1) w' ∧ Below B w w') := by
  have hrd := h
  obtain ⟨v, h1, hh, ho, hne⟩ := h
  obtain ⟨c0, c1, c2, c3, cf⟩ := rd_cells hh
  have f1 := cf 1
  have HD : Hid (Rd B b s p df ts w.drew) := rd_keep (belD (w := w)) hrd
  have hBd : B ≤ w.drew.heap.size := hBw
  have hpI : (p : Int) ≤ (s.size : Int) := by omega
  have hpN : p ≤ s.size := by omega
  have hxI : (0 : Int) < (x.size : Int) := by omega
  have hbd : Below B w w.drew := (Below.refl _ _).drew
  clear hh ho hne cf hrd
  go_enter Try.func20, Try.ntmps20
  go_wp2
  go_region
  go_wp2_with (first | (go_at_call 35; refine (kindsOf_c x[0] _).mono ?_; rintro e w' ⟨rfl, rfl⟩; rw [hk]) | (go_at_call 36; refine (line_c B b s p df ts _ HD.out hl hp hBd).mono ?_; rintro e w' ⟨rfl, ha, hb⟩))
  go_ret
  exact ⟨rfl, ha, hbd.trans hb⟩

set_option maxHeartbeats 4000000 in
theorem step_nl (B b : Nat) (s : ByteArray) (p : Nat) (df : Bool) (ts : List Tok) (w : World) (h : Rd B b s p df ts w) (hl : ts.length ≤ 16384) (hp : p ≤ 65536) (hBw : B ≤ w.heap.size) (x : ByteArray) (hx : s.extract p s.size = x) (hps : p < s.size) (hs : s.size ≤ 65536) (hxs : x.size ≤ 65536) (hx0 : 0 < x.size) (hk : kinds x[0] = 24) (hdf : df = false) :
    Calls Try.prog 20 #[.pointer (some ⟨b, 0, none⟩)] w fun e w' => e = .returned (.int .i64 (codeO ts.length (.skip 1))) ∧ (After B b s p df ts (.skip 1) w' ∧ Below B w w') := by
  have hrd := h
  obtain ⟨v, h1, hh, ho, hne⟩ := h
  obtain ⟨c0, c1, c2, c3, cf⟩ := rd_cells hh
  have f1 := cf 1
  have HD : Hid (Rd B b s p df ts w.drew) := rd_keep (belD (w := w)) hrd
  have hBd : B ≤ w.drew.heap.size := hBw
  have hpI : (p : Int) ≤ (s.size : Int) := by omega
  have hpN : p ≤ s.size := by omega
  have hxI : (0 : Int) < (x.size : Int) := by omega
  have hbd : Below B w w.drew := (Below.refl _ _).drew
  clear hh ho hne cf hrd
  go_enter Try.func20, Try.ntmps20
  go_wp2
  go_region
  go_wp2_with (first | (go_at_call 35; refine (kindsOf_c x[0] _).mono ?_; rintro e w' ⟨rfl, rfl⟩; rw [hk]))
  go_ret
  exact ⟨rfl, (rd_seta HD.out 1).1, hbd.trans (rd_seta HD.out 1).2⟩

set_option maxHeartbeats 4000000 in
theorem step_bl (B b : Nat) (s : ByteArray) (p : Nat) (df : Bool) (ts : List Tok) (w : World) (h : Rd B b s p df ts w) (hl : ts.length ≤ 16384) (hp : p ≤ 65536) (hBw : B ≤ w.heap.size) (x : ByteArray) (hx : s.extract p s.size = x) (hps : p < s.size) (hs : s.size ≤ 65536) (hxs : x.size ≤ 65536) (hx0 : 0 < x.size) (hk : kinds x[0] = 8) :
    Calls Try.prog 20 #[.pointer (some ⟨b, 0, none⟩)] w fun e w' => e = .returned (.int .i64 (codeO ts.length (.skip 1))) ∧ (After B b s p df ts (.skip 1) w' ∧ Below B w w') := by
  have hrd := h
  obtain ⟨v, h1, hh, ho, hne⟩ := h
  obtain ⟨c0, c1, c2, c3, cf⟩ := rd_cells hh
  have f1 := cf 1
  have HD : Hid (Rd B b s p df ts w.drew) := rd_keep (belD (w := w)) hrd
  have hBd : B ≤ w.drew.heap.size := hBw
  have hpI : (p : Int) ≤ (s.size : Int) := by omega
  have hpN : p ≤ s.size := by omega
  have hxI : (0 : Int) < (x.size : Int) := by omega
  have hbd : Below B w w.drew := (Below.refl _ _).drew
  clear hh ho hne cf hrd
  go_enter Try.func20, Try.ntmps20
  go_wp2
  go_region
  go_wp2_with (first | (go_at_call 35; refine (kindsOf_c x[0] _).mono ?_; rintro e w' ⟨rfl, rfl⟩; rw [hk]))
  go_ret
  exact ⟨rfl, (rd_seta HD.out 1).1, hbd.trans (rd_seta HD.out 1).2⟩

set_option maxHeartbeats 4000000 in
theorem step_com (B b : Nat) (s : ByteArray) (p : Nat) (df : Bool) (ts : List Tok) (w : World) (h : Rd B b s p df ts w) (hl : ts.length ≤ 16384) (hp : p ≤ 65536) (hBw : B ≤ w.heap.size) (x : ByteArray) (hx : s.extract p s.size = x) (hps : p < s.size) (hs : s.size ≤ 65536) (hxs : x.size ≤ 65536) (hx0 : 0 < x.size) (o : Stp) (hoo : Hid (o = if comW (L x) = 0 then .err 20 else .skip (comW (L x)))) (hk : kinds x[0] = 32) (m : Int) (hm : w.cell? ⟨0, 0, none⟩ = some (.int .i64 m)) :
    Calls Try.prog 20 #[.pointer (some ⟨b, 0, none⟩)] w fun e w' => e = .returned (.int .i64 (codeO ts.length (o))) ∧ (After B b s p df ts (o) w' ∧ Below B w w') := by
  have hrd := h
  obtain ⟨v, h1, hh, ho, hne⟩ := h
  obtain ⟨c0, c1, c2, c3, cf⟩ := rd_cells hh
  have f1 := cf 1
  have HD : Hid (Rd B b s p df ts w.drew) := rd_keep (belD (w := w)) hrd
  have hBd : B ≤ w.drew.heap.size := hBw
  have hpI : (p : Int) ≤ (s.size : Int) := by omega
  have hpN : p ≤ s.size := by omega
  have hxI : (0 : Int) < (x.size : Int) := by omega
  have hbd : Below B w w.drew := (Below.refl _ _).drew
  clear hh ho hne cf hrd
  have HC := comment_c B b s p df ts w.drew HD.out hl hp hBd x m hxs hm (Nat.le_trans (comW_le _) (by rw [len_L]; exact hxs))
  rw [← hoo.out] at HC
  go_enter Try.func20, Try.ntmps20
  go_wp2
  go_region
  go_wp2_with (first | (go_at_call 35; refine (kindsOf_c x[0] _).mono ?_; rintro e w' ⟨rfl, rfl⟩; rw [hk]) | (go_at_call 37; refine HC.mono ?_; rintro e w' ⟨rfl, ha, hb⟩))
  go_ret
  exact ⟨rfl, ha, hbd.trans hb⟩

set_option maxHeartbeats 4000000 in
theorem step_tick (B b : Nat) (s : ByteArray) (p : Nat) (df : Bool) (ts : List Tok) (w : World) (h : Rd B b s p df ts w) (hl : ts.length ≤ 16384) (hp : p ≤ 65536) (hBw : B ≤ w.heap.size) (x : ByteArray) (hx : s.extract p s.size = x) (hps : p < s.size) (hs : s.size ≤ 65536) (hxs : x.size ≤ 65536) (hx0 : 0 < x.size) (o : Stp) (hoo : Hid (o = tickP ((L x).drop 1))) (hk : kinds x[0] = 64) :
    Calls Try.prog 20 #[.pointer (some ⟨b, 0, none⟩)] w fun e w' => e = .returned (.int .i64 (codeO ts.length (o))) ∧ (After B b s p df ts (o) w' ∧ Below B w w') := by
  have hrd := h
  obtain ⟨v, h1, hh, ho, hne⟩ := h
  obtain ⟨c0, c1, c2, c3, cf⟩ := rd_cells hh
  have f1 := cf 1
  have HD : Hid (Rd B b s p df ts w.drew) := rd_keep (belD (w := w)) hrd
  have hBd : B ≤ w.drew.heap.size := hBw
  have hpI : (p : Int) ≤ (s.size : Int) := by omega
  have hpN : p ≤ s.size := by omega
  have hxI : (0 : Int) < (x.size : Int) := by omega
  have hbd : Below B w w.drew := (Below.refl _ _).drew
  clear hh ho hne cf hrd
  have HC := tick_c B b s p df ts w.drew HD.out hl hp hBd x hxs hx0
  rw [← hoo.out] at HC
  go_enter Try.func20, Try.ntmps20
  go_wp2
  go_region
  go_wp2_with (first | (go_at_call 35; refine (kindsOf_c x[0] _).mono ?_; rintro e w' ⟨rfl, rfl⟩; rw [hk]) | (go_at_call 38; refine HC.mono ?_; rintro e w' ⟨rfl, ha, hb⟩))
  go_ret
  exact ⟨rfl, ha, hbd.trans hb⟩

set_option maxHeartbeats 4000000 in
theorem step_name (B b : Nat) (s : ByteArray) (p : Nat) (df : Bool) (ts : List Tok) (w : World) (h : Rd B b s p df ts w) (hl : ts.length ≤ 16384) (hp : p ≤ 65536) (hBw : B ≤ w.heap.size) (x : ByteArray) (hx : s.extract p s.size = x) (hps : p < s.size) (hs : s.size ≤ 65536) (hxs : x.size ≤ 65536) (hx0 : 0 < x.size) (o : Stp) (hoo : Hid (o = if 64 < (wordL (L x)).length then .err 4 else .tk 1 (wordL (L x)) (wordL (L x)).length)) (hk : kinds x[0] = 7) (n : Nat) (z : ByteArray) (hn : ((L x).takeWhile worB).length = n) (hnx : n ≤ x.size) (hz : x.extract 0 n = z) (hLz : L z = wordL (L x)) (hzs : z.size ≤ 65536) :
    Calls Try.prog 20 #[.pointer (some ⟨b, 0, none⟩)] w fun e w' => e = .returned (.int .i64 (codeO ts.length (o))) ∧ (After B b s p df ts (o) w' ∧ Below B w w') := by
  have hrd := h
  obtain ⟨v, h1, hh, ho, hne⟩ := h
  obtain ⟨c0, c1, c2, c3, cf⟩ := rd_cells hh
  have f1 := cf 1
  have HD : Hid (Rd B b s p df ts w.drew) := rd_keep (belD (w := w)) hrd
  have hBd : B ≤ w.drew.heap.size := hBw
  have hpI : (p : Int) ≤ (s.size : Int) := by omega
  have hpN : p ≤ s.size := by omega
  have hxI : (0 : Int) < (x.size : Int) := by omega
  have hbd : Below B w w.drew := (Below.refl _ _).drew
  clear hh ho hne cf hrd
  have HC := name_c B b s p df ts w.drew HD.out hl hp hBd z hzs
  rw [hLz, ← hoo.out] at HC
  have HR := fun w => runW_c x w (by unfold maxLen; omega)
  rw [hn] at HR
  clear hn hLz
  go_enter Try.func20, Try.ntmps20
  go_wp2
  go_region
  go_wp2_with (first | (go_at_call 35; refine (kindsOf_c x[0] _).mono ?_; rintro e w' ⟨rfl, rfl⟩; rw [hk]) | (go_at_call 40; refine (HR _).mono ?_; rintro e w' ⟨rfl, rfl⟩) | (go_at_call 39; refine HC.mono ?_; rintro e w' ⟨rfl, ha, hb⟩))
  go_ret
  exact ⟨rfl, ha, hbd.trans hb⟩

set_option maxHeartbeats 4000000 in
theorem step_num (B b : Nat) (s : ByteArray) (p : Nat) (df : Bool) (ts : List Tok) (w : World) (h : Rd B b s p df ts w) (hl : ts.length ≤ 16384) (hp : p ≤ 65536) (hBw : B ≤ w.heap.size) (x : ByteArray) (hx : s.extract p s.size = x) (hps : p < s.size) (hs : s.size ≤ 65536) (hxs : x.size ≤ 65536) (hx0 : 0 < x.size) (o : Stp) (hoo : Hid (o = match numV (numbL (L x)) with | none => .err 21 | some _ => .tk 2 (numbL (L x)) (numbL (L x)).length)) (hk : kinds x[0] = 6) (n : Nat) (z : ByteArray) (hn : ((L x).takeWhile numB).length = n) (hnx : n ≤ x.size) (hz : x.extract 0 n = z) (hLz : L z = numbL (L x)) (hzs : z.size ≤ 65536) :
    Calls Try.prog 20 #[.pointer (some ⟨b, 0, none⟩)] w fun e w' => e = .returned (.int .i64 (codeO ts.length (o))) ∧ (After B b s p df ts (o) w' ∧ Below B w w') := by
  have hrd := h
  obtain ⟨v, h1, hh, ho, hne⟩ := h
  obtain ⟨c0, c1, c2, c3, cf⟩ := rd_cells hh
  have f1 := cf 1
  have HD : Hid (Rd B b s p df ts w.drew) := rd_keep (belD (w := w)) hrd
  have hBd : B ≤ w.drew.heap.size := hBw
  have hpI : (p : Int) ≤ (s.size : Int) := by omega
  have hpN : p ≤ s.size := by omega
  have hxI : (0 : Int) < (x.size : Int) := by omega
  have hbd : Below B w w.drew := (Below.refl _ _).drew
  clear hh ho hne cf hrd
  have HC := number_c B b s p df ts w.drew HD.out hl hp hBd z hzs
  rw [hLz] at HC
  have hoo2 := hoo.out.symm
  replace HC : Calls Try.prog 41 #[.pointer (some ⟨b, 0, none⟩), .string z] w.drew fun e w' => e = .returned (.int .i64 (codeO ts.length o)) ∧ (After B b s p df ts o w' ∧ Below B w.drew w') := by rw [← hoo2]; exact HC
  clear hoo2
  have HR := fun w => runN_c x w (by unfold maxLen; omega)
  rw [hn] at HR
  clear hn hLz
  go_enter Try.func20, Try.ntmps20
  go_wp2
  go_region
  go_wp2_with (first | (go_at_call 35; refine (kindsOf_c x[0] _).mono ?_; rintro e w' ⟨rfl, rfl⟩; rw [hk]) | (go_at_call 40; refine (HR _).mono ?_; rintro e w' ⟨rfl, rfl⟩) | (go_at_call 41; refine HC.mono ?_; rintro e w' ⟨rfl, ha, hb⟩))
  go_ret
  exact ⟨rfl, ha, hbd.trans hb⟩

set_option maxHeartbeats 4000000 in
theorem step_sign (B b : Nat) (s : ByteArray) (p : Nat) (df : Bool) (ts : List Tok) (w : World) (h : Rd B b s p df ts w) (hl : ts.length ≤ 16384) (hp : p ≤ 65536) (hBw : B ≤ w.heap.size) (x : ByteArray) (hx : s.extract p s.size = x) (hps : p < s.size) (hs : s.size ≤ 65536) (hxs : x.size ≤ 65536) (hx0 : 0 < x.size) (o : Stp) (hoo : Hid (o = .tk 3 ((L x).take (sgW (L x))) (sgW (L x)))) (hk : kinds x[0] = 128) (n : Nat) (z : ByteArray) (hn : sgW (L x) = n) (hnx : n ≤ x.size) (hz : x.extract 0 n = z) (hzs : z.size = n) (HA : Hid (∀ w', TkAfter B b s p df ts 3 (L z) n w' → After B b s p df ts o w')) (HO : Hid (codeO ts.length (.tk 3 (L z) n) = codeO ts.length o)) :
    Calls Try.prog 20 #[.pointer (some ⟨b, 0, none⟩)] w fun e w' => e = .returned (.int .i64 (codeO ts.length (o))) ∧ (After B b s p df ts (o) w' ∧ Below B w w') := by
  have hrd := h
  obtain ⟨v, h1, hh, ho, hne⟩ := h
  obtain ⟨c0, c1, c2, c3, cf⟩ := rd_cells hh
  have f1 := cf 1
  have HD : Hid (Rd B b s p df ts w.drew) := rd_keep (belD (w := w)) hrd
  have hBd : B ≤ w.drew.heap.size := hBw
  have hpI : (p : Int) ≤ (s.size : Int) := by omega
  have hpN : p ≤ s.size := by omega
  have hxI : (0 : Int) < (x.size : Int) := by omega
  have hbd : Below B w w.drew := (Below.refl _ _).drew
  clear hh ho hne cf hrd
  have HC : Calls Try.prog 43 #[.pointer (some ⟨b, 0, none⟩), .int .i64 3, .string z, .int .i64 n] w.drew fun e w' => e = .returned (.int .i64 (codeO ts.length o)) ∧ (After B b s p df ts o w' ∧ Below B w.drew w') := by
    refine (take_c B b s p df ts 3 z n _ HD.out hl hp (by omega) hBd).mono ?_
    rintro e w' ⟨rfl, ha, hb⟩
    exact ⟨by rw [HO.out], HA.out _ ha, hb⟩
  have HR := fun w => signWide_c x w (by unfold maxLen; omega)
  rw [hn] at HR
  clear hn hoo
  go_enter Try.func20, Try.ntmps20
  go_wp2
  go_region
  go_wp2_with (first | (go_at_call 35; refine (kindsOf_c x[0] _).mono ?_; rintro e w' ⟨rfl, rfl⟩; rw [hk]) | (go_at_call 42; refine (HR _).mono ?_; rintro e w' ⟨rfl, rfl⟩) | (go_at_call 43; refine HC.mono ?_; rintro e w' ⟨rfl, ha, hb⟩))
  go_ret
  exact ⟨rfl, ha, hbd.trans hb⟩

set_option maxHeartbeats 4000000 in
theorem step_q (B b : Nat) (s : ByteArray) (p : Nat) (df : Bool) (ts : List Tok) (w : World) (h : Rd B b s p df ts w) (hl : ts.length ≤ 16384) (hp : p ≤ 65536) (hBw : B ≤ w.heap.size) (x : ByteArray) (hx : s.extract p s.size = x) (hps : p < s.size) (hs : s.size ≤ 65536) (hxs : x.size ≤ 65536) (hx0 : 0 < x.size) (hk : kinds x[0] = 4) :
    Calls Try.prog 20 #[.pointer (some ⟨b, 0, none⟩)] w fun e w' => e = .returned (.int .i64 (codeO ts.length (.err 20))) ∧ (After B b s p df ts (.err 20) w' ∧ Below B w w') := by
  have hrd := h
  obtain ⟨v, h1, hh, ho, hne⟩ := h
  obtain ⟨c0, c1, c2, c3, cf⟩ := rd_cells hh
  have f1 := cf 1
  have HD : Hid (Rd B b s p df ts w.drew) := rd_keep (belD (w := w)) hrd
  have hBd : B ≤ w.drew.heap.size := hBw
  have hpI : (p : Int) ≤ (s.size : Int) := by omega
  have hpN : p ≤ s.size := by omega
  have hxI : (0 : Int) < (x.size : Int) := by omega
  have hbd : Below B w w.drew := (Below.refl _ _).drew
  clear hh ho hne cf hrd
  go_enter Try.func20, Try.ntmps20
  go_wp2
  go_region
  go_wp2_with (first | (go_at_call 35; refine (kindsOf_c x[0] _).mono ?_; rintro e w' ⟨rfl, rfl⟩; rw [hk]))
  go_ret
  exact ⟨rfl, ⟨df, HD.out⟩, hbd⟩

set_option maxHeartbeats 4000000 in
theorem step_no (B b : Nat) (s : ByteArray) (p : Nat) (df : Bool) (ts : List Tok) (w : World) (h : Rd B b s p df ts w) (hl : ts.length ≤ 16384) (hp : p ≤ 65536) (hBw : B ≤ w.heap.size) (x : ByteArray) (hx : s.extract p s.size = x) (hps : p < s.size) (hs : s.size ≤ 65536) (hxs : x.size ≤ 65536) (hx0 : 0 < x.size) (hk : kinds x[0] = 0) :
    Calls Try.prog 20 #[.pointer (some ⟨b, 0, none⟩)] w fun e w' => e = .returned (.int .i64 (codeO ts.length (.err 20))) ∧ (After B b s p df ts (.err 20) w' ∧ Below B w w') := by
  have hrd := h
  obtain ⟨v, h1, hh, ho, hne⟩ := h
  obtain ⟨c0, c1, c2, c3, cf⟩ := rd_cells hh
  have f1 := cf 1
  have HD : Hid (Rd B b s p df ts w.drew) := rd_keep (belD (w := w)) hrd
  have hBd : B ≤ w.drew.heap.size := hBw
  have hpI : (p : Int) ≤ (s.size : Int) := by omega
  have hpN : p ≤ s.size := by omega
  have hxI : (0 : Int) < (x.size : Int) := by omega
  have hbd : Below B w w.drew := (Below.refl _ _).drew
  clear hh ho hne cf hrd
  go_enter Try.func20, Try.ntmps20
  go_wp2
  go_region
  go_wp2_with (first | (go_at_call 35; refine (kindsOf_c x[0] _).mono ?_; rintro e w' ⟨rfl, rfl⟩; rw [hk]))
  go_ret
  exact ⟨rfl, ⟨df, HD.out⟩, hbd⟩


theorem dfN3 (df : Bool) (x : List UInt8) : dfN df 3 x = df := by unfold dfN; simp
theorem step_c (B b : Nat) (s : ByteArray) (p : Nat) (df : Bool) (ts : List Tok) (w : World) (h : Rd B b s p df ts w) (hl : ts.length ≤ 16384) (hp : p ≤ 65536) (hBw : B ≤ w.heap.size) (c : UInt8) (r : List UInt8) (hcr : (L s).drop p = c :: r) (hs : s.size ≤ 65536) (m : Int) (hm : w.cell? ⟨0, 0, none⟩ = some (.int .i64 m)) :
    Calls Try.prog 20 #[.pointer (some ⟨b, 0, none⟩)] w fun e w' => e = .returned (.int .i64 (codeO ts.length (stp df c r))) ∧ (After B b s p df ts (stp df c r) w' ∧ Below B w w') := by
  obtain ⟨x, hx⟩ : ∃ x, s.extract p s.size = x := ⟨_, rfl⟩
  have hLx : L x = c :: r := by rw [← hx, L_extract, List.take_of_length_le (by simp [len_L]), hcr]
  have hps : p < s.size := by
    rcases Nat.lt_or_ge p s.size with g | g
    · exact g
    · rw [drop_all s p g] at hcr; cases hcr
  have hxz : x.size = s.size - p := by rw [← len_L, hLx, ← hcr, List.length_drop, len_L]
  have hxs : x.size ≤ 65536 := by omega
  have hx0 : 0 < x.size := by omega
  have hxc : x[0] = c := by
    have := headD_at x hx0
    rw [this, hLx]; rfl
  have hkc : kinds x[0] = kinds c := by rw [hxc]
  rcases kcases c with k | k | k | k | k | k | k | k | k
  · obtain ⟨kl, kk⟩ := k
    have hst : stp df c r = if 64 < (wordL (L x)).length then .err 4 else .tk 1 (wordL (L x)) (wordL (L x)).length := by
      unfold stp
      rw [if_neg (by rintro ⟨e, _⟩; subst e; revert kl; decide), if_neg (by rw [kk]; decide), if_neg (by rintro e; subst e; revert kl; decide), if_neg (by rintro e; subst e; revert kl; decide), if_pos kl, hLx]
    rw [hst]
    exact step_name B b s p df ts w h hl hp hBw x hx hps hs hxs hx0 _ rfl (by rw [hkc, kk]) _ _ rfl (by rw [← len_L]; exact tw_len _ _) rfl (take_pre x worB) (by rw [← len_L, take_pre]; exact Nat.le_trans (tw_len _ _) (by rw [len_L]; exact hxs))
  · obtain ⟨kl, kd, kk⟩ := k
    have hst : stp df c r = match numV (numbL (L x)) with | none => .err 21 | some _ => .tk 2 (numbL (L x)) (numbL (L x)).length := by
      unfold stp
      rw [if_neg (by rintro ⟨e, _⟩; subst e; revert kd; decide), if_neg (by rw [kk]; decide), if_neg (by rintro e; subst e; revert kd; decide), if_neg (by rintro e; subst e; revert kd; decide), if_neg (by rw [kl]; simp), if_pos kd, hLx]
      rfl
    rw [hst]
    exact step_num B b s p df ts w h hl hp hBw x hx hps hs hxs hx0 _ rfl (by rw [hkc, kk]) _ _ rfl (by rw [← len_L]; exact tw_len _ _) rfl (take_pre x numB) (by rw [← len_L, take_pre]; exact Nat.le_trans (tw_len _ _) (by rw [len_L]; exact hxs))
  · obtain ⟨rfl, kk⟩ := k
    exact step_q B b s p df ts w h hl hp hBw x hx hps hs hxs hx0 (by rw [hkc, kk])
  · obtain ⟨rfl, kk⟩ := k
    cases df with
    | true => exact step_line B b s p true ts w h hl hp hBw x hx hps hs hxs hx0 (by rw [hkc, kk]) rfl
    | false => exact step_nl B b s p false ts w h hl hp hBw x hx hps hs hxs hx0 (by rw [hkc, kk]) rfl
  · obtain ⟨kc, kk⟩ := k
    have hst : stp df c r = .skip 1 := by
      unfold stp
      rw [if_neg (by rintro ⟨e, _⟩; subst e; revert kc; decide), if_pos (Or.inr kk)]
    rw [hst]
    exact step_bl B b s p df ts w h hl hp hBw x hx hps hs hxs hx0 (by rw [hkc, kk])
  · obtain ⟨rfl, kk⟩ := k
    have hst : stp df 47 r = if comW (L x) = 0 then .err 20 else .skip (comW (L x)) := by rw [hLx]; rfl
    rw [hst]
    exact step_com B b s p df ts w h hl hp hBw x hx hps hs hxs hx0 _ rfl (by rw [hkc, kk]) m hm
  · obtain ⟨rfl, kk⟩ := k
    have hst : stp df 96 r = tickP ((L x).drop 1) := by rw [hLx]; rfl
    rw [hst]
    exact step_tick B b s p df ts w h hl hp hBw x hx hps hs hxs hx0 _ rfl (by rw [hkc, kk])
  · obtain ⟨kl, kd, ks, kk⟩ := k
    have hst : stp df c r = .tk 3 ((L x).take (sgW (L x))) (sgW (L x)) := by
      unfold stp
      rw [if_neg (by rintro ⟨e, _⟩; exact sgn_not ks (by decide) e), if_neg (by rw [kk]; decide), if_neg (sgn_not ks (by decide)), if_neg (sgn_not ks (by decide)), if_neg (by rw [kl]; simp), if_neg (by rw [kd]; simp), if_pos ks, hLx]
    rw [hst]
    have hsl : sgW (L x) ≤ x.size := by have := (sgW_le (c := c) (r := r)).2; rw [← hLx, len_L] at this; exact this
    refine step_sign B b s p df ts w h hl hp hBw x hx hps hs hxs hx0 _ rfl (by rw [hkc, kk]) _ _ rfl hsl rfl (by rw [← len_L, take_sg, List.length_take, len_L]; omega) ?_ rfl
    intro w' a
    show TkAfter B b s p (dfN df 3 ((L x).take (sgW (L x)))) ts 3 ((L x).take (sgW (L x))) (sgW (L x)) w'
    rw [dfN3]
    rw [take_sg] at a
    exact a
  · obtain ⟨kl, kd, ks, n39, n10, n9, n13, n32, n47, n96, kk⟩ := k
    have hst : stp df c r = .err 20 := by
      unfold stp
      rw [if_neg (by rintro ⟨e, _⟩; exact n10 e), if_neg (by rw [kk]; decide), if_neg n47, if_neg n96, if_neg (by rw [kl]; simp), if_neg (by rw [kd]; simp), if_neg (by rw [ks]; simp)]
    rw [hst]
    exact step_no B b s p df ts w h hl hp hBw x hx hps hs hxs hx0 (by rw [hkc, kk])
end Go.Proofs.Ytnlfepfhabaekaa

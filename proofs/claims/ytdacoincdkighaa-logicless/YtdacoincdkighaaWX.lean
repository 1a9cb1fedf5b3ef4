/- The reference of layer 1: no such operator; choices; bits. -/
import Derived.Test.YtdacoincdkighaaWW
namespace Go.Proofs.Ytdacoincdkighaa
open Go.RowKit Lg
set_option linter.unusedVariables false

set_option maxHeartbeats 2000000 in
theorem rBinary_no (op : Int) (s t : ByteArray) (w : World) (hv : vec (L s) = true) (hu : vec (L t) = true) (h : op < 13 ∨ 27 < op) : Calls Try.prog 18 #[.int .i64 op, .string s, .string t] w fun e w' => e = .returned (.tuple #[.string (S []), .bool false]) ∧ Below w.heap.size w w' := by
  have v1 := vec_len hv
  have v2 := vec_len hu
  rw [len_L] at v1 v2
  obtain ⟨v1a, v1b⟩ := v1
  obtain ⟨v2a, v2b⟩ := v2
  have hs1 : s.size ≤ maxLen := by unfold maxLen; omega
  have hs2 : t.size ≤ maxLen := by unfold maxLen; omega
  obtain ⟨m, hm⟩ : ∃ m, m = max s.size t.size := ⟨_, rfl⟩
  have hm1 : 1 ≤ m := by omega
  have hm2 : m ≤ 256 := by omega
  have hmx : max (s.size : Int) (t.size : Int) = (m : Int) := by omega
  clear hm
  have b13 : (op == 13) = false := ne_b (by omega)
  have b14 : (op == 14) = false := ne_b (by omega)
  have b15 : (op == 15) = false := ne_b (by omega)
  have b16 : (op == 16) = false := ne_b (by omega)
  have b17 : (op == 17) = false := ne_b (by omega)
  have b18 : (op == 18) = false := ne_b (by omega)
  have b19 : (op == 19) = false := ne_b (by omega)
  have b20 : (op == 20) = false := ne_b (by omega)
  have b21 : (op == 21) = false := ne_b (by omega)
  have b22 : (op == 22) = false := ne_b (by omega)
  have b23 : (op == 23) = false := ne_b (by omega)
  have b24 : (op == 24) = false := ne_b (by omega)
  have b25 : (op == 25) = false := ne_b (by omega)
  have b26 : (op == 26) = false := ne_b (by omega)
  have b27 : (op == 27) = false := ne_b (by omega)
  clear h hv hu
  go_enter Try.func18, Try.ntmps18
  go_wp2_with (first | (go_at_call_of 30 (Value.string s); refine (rFit_c s m _ hs1 (by omega)).mono ?_; rintro e w1 ⟨rfl, hb1⟩) | (go_at_call_of 30 (Value.string t); refine (rFit_c t m _ hs2 (by omega)).mono ?_; rintro e w2 ⟨rfl, hb2⟩))
  go_ret2
  exact ⟨rfl, bel hb1 hb2⟩

theorem agr_eq (a b : UInt8) : bagr a b = if a = b ∧ (a = 48 ∨ a = 49) then a else 120 := by
  unfold bagr
  by_cases h1 : a = 48
  · subst h1; by_cases h2 : b = 48
    · subst h2; rfl
    · have : ¬ ((48 : UInt8) = b) := fun h => h2 h.symm
      simp [h2, this]
  · by_cases h2 : a = 49
    · subst h2; by_cases h3 : b = 49
      · subst h3; rfl
      · have : ¬ ((49 : UInt8) = b) := fun h => h3 h.symm
        simp [h3, this]
    · simp [h1, h2]

set_option maxHeartbeats 2000000 in
theorem rCond_c (c s t : ByteArray) (w : World) (hs0 : c.size ≤ maxLen) (hst : s.size = t.size) (hs : s.size ≤ 256) : Calls Try.prog 23 #[.string c, .string s, .string t] w fun e w' => e = .returned (.string (S (condL (L c) (L s) (L t)))) ∧ Below w.heap.size w w' := by
  by_cases t1 : tru (L c) = 49
  · have e1 : ((tru (L c)).toNat : Int) = 49 := (i49 _).2 t1
    have HT : Hid (tru (L c) = 49) := t1
    clear t1 hst
    go_enter Try.func23, Try.ntmps23
    go_wp2_with (go_at_call 34; refine (rTruth_c c _ hs0).mono ?_; rintro e w1 ⟨rfl, rfl⟩)
    go_ret
    exact ⟨ret_str (by unfold condL; rw [if_pos HT.out, S_L]), Below.refl _ _⟩
  by_cases t2 : tru (L c) = 48
  · have e1 : ((tru (L c)).toNat : Int) = 48 := (i48 _).2 t2
    have HT : Hid (tru (L c) = 48) := t2
    clear t2 hst
    go_enter Try.func23, Try.ntmps23
    go_wp2_with (go_at_call 34; refine (rTruth_c c _ hs0).mono ?_; rintro e w1 ⟨rfl, rfl⟩)
    go_ret
    exact ⟨ret_str (by unfold condL; rw [if_neg t1, if_pos HT.out, S_L]), Below.refl _ _⟩
  have e1 : (((tru (L c)).toNat : Int) == 49) = false := ne_b (fun h => t1 ((i49 _).1 h))
  have e2 : (((tru (L c)).toNat : Int) == 48) = false := ne_b (fun h => t2 ((i48 _).1 h))
  have HC : Hid (bitwise bagr (L s) (L t) = condL (L c) (L s) (L t)) := show _ = _ from by unfold condL; rw [if_neg t1, if_neg t2]
  have hmk := make_c s.size (by omega)
  have hz1 : s.size ≤ t.size := by omega
  clear hst t1 t2
  go_enter Try.func23, Try.ntmps23
  go_wp2_with (go_at_call 34; refine (rTruth_c c _ hs0).mono ?_; rintro e w1 ⟨rfl, hw1⟩; have hw2 := hw1.symm; subst hw2)
  go_loopw [9] (fun i wr => ∃ k : Nat, k ≤ s.size ∧ i = .int .i64 k ∧ Hid (Below w.heap.size w wr) ∧ Hid (wr.rowIs w.heap.size 5 s.size (up (bw bagr (L s) (L t)) k))) (fun i _ => s.size - (intOf i).toNat)
  case atStart => exact ⟨0, Nat.zero_le _, rfl, (Below.refl _ _).alloc (by simp) _, made_up _ _ _ _ (by simp)⟩
  case round =>
    obtain ⟨k, hk, rfl, hb, hr⟩ := hrel
    by_cases hlt : k < s.size
    · have hlt2 : k < t.size := by omega
      have hc1 : wr.cell? ⟨w.heap.size, k, none⟩ = some (.int .u8 0) := by rw [hr.out.cell hlt]; simp [up]
      have hf1 : wr.frozen? ⟨w.heap.size, k, none⟩ = false := hr.out.frozen _
      have hc2 : ∀ v, (wr.setCell ⟨w.heap.size, k, none⟩ v).cell? ⟨w.heap.size, k, none⟩ = some v := fun v => by rw [(hr.out.set k v).cell hlt, if_pos rfl]
      have hf2 : ∀ v, (wr.setCell ⟨w.heap.size, k, none⟩ v).frozen? ⟨w.heap.size, k, none⟩ = false := fun v => (hr.out.set k v).frozen _
      have hkI : (k : Int) < (s.size : Int) := by omega
      have hkJ : (k : Int) < (t.size : Int) := by omega
      have HB0 := agr_eq s[k] t[k]
      rw [bw_at bagr s t k hlt hlt2] at HB0
      have REL2 : ∀ (x : UInt8) (n : Nat), bw bagr (L s) (L t) k = x → Hid (((wr.setCell ⟨w.heap.size, k, none⟩ (.int .u8 120)).drewN n).setCell ⟨w.heap.size, k, none⟩ (.int .u8 x.toNat) |>.rowIs w.heap.size 5 s.size (up (bw bagr (L s) (L t)) (k + 1))) := fun x n hx => by
        refine World.rowIs.congr (World.rowIs.set (w := (wr.setCell ⟨w.heap.size, k, none⟩ (.int .u8 120)).drewN n) (hr.out.set k _) k _) (fun j _ => ?_)
        rw [← up_step _ k (.int .u8 x.toNat) (by rw [hx]) j]
        by_cases e : j = k
        · rw [if_pos e, if_pos e]
        · rw [if_neg e, if_neg e, if_neg e]
      have REL1 : ∀ (n : Nat), bw bagr (L s) (L t) k = 120 → Hid (((wr.setCell ⟨w.heap.size, k, none⟩ (.int .u8 120)).drewN n).rowIs w.heap.size 5 s.size (up (bw bagr (L s) (L t)) (k + 1))) := fun n hx =>
        World.rowIs.congr (w := (wr.setCell ⟨w.heap.size, k, none⟩ (.int .u8 120)).drewN n) (hr.out.set k _) (fun j _ => up_step _ k _ (by rw [hx]; rfl) j)
      have HR2 : Hid _ := REL2
      have HR1 : Hid _ := REL1
      clear REL1 REL2
      by_cases a1 : s[k] = t[k]
      · have q1 : (((s[k].toNat : Nat) : Int) == ((t[k].toNat : Nat) : Int)) = true := by simp [a1]
        by_cases a2 : s[k] = 48
        · rw [if_pos ⟨a1, .inl a2⟩] at HB0
          have HB : Hid _ := HB0
          have q2 : ((s[k].toNat : Nat) : Int) = 48 := (i48 _).2 a2
          have q3 : ((t[k].toNat : Nat) : Int) = 48 := (i48 _).2 (a1 ▸ a2)
          clear HB0 a1 a2 q1
          go_wp2
          go_quiet (fail)
          go_wp2
          go_roundw
          case rel => exact ⟨k + 1, by omega, by go_num, (below_drewN (hb.out.setCell (by simp) _) _).setCell (by simp) _, by have := HR2.out s[k] nq HB.out; rw [q2] at this; exact this⟩
          case measure => simp [intOf]; omega
        · by_cases a3 : s[k] = 49
          · rw [if_pos ⟨a1, .inr a3⟩] at HB0
            have HB : Hid _ := HB0
            have q2 : ((s[k].toNat : Nat) : Int) = 49 := (i49 _).2 a3
            have q3 : ((t[k].toNat : Nat) : Int) = 49 := (i49 _).2 (a1 ▸ a3)
            clear HB0 a1 a2 a3 q1
            go_wp2
            go_quiet (fail)
            go_wp2
            go_roundw
            case rel => exact ⟨k + 1, by omega, by go_num, (below_drewN (hb.out.setCell (by simp) _) _).setCell (by simp) _, by have := HR2.out s[k] nq HB.out; rw [q2] at this; exact this⟩
            case measure => simp [intOf]; omega
          · rw [if_neg (by rintro ⟨_, h | h⟩; exact a2 h; exact a3 h)] at HB0
            have HB : Hid _ := HB0
            have q2 : (((s[k].toNat : Nat) : Int) == 48) = false := ne_b (fun h => a2 ((i48 _).1 h))
            have q3 : (((s[k].toNat : Nat) : Int) == 49) = false := ne_b (fun h => a3 ((i49 _).1 h))
            clear HB0 a1 a2 a3
            go_wp2
            go_quiet (fail)
            go_wp2
            go_roundw
            case rel => exact ⟨k + 1, by omega, by go_num, below_drewN (hb.out.setCell (by simp) _) _, HR1.out _ HB.out⟩
            case measure => simp [intOf]; omega
      · rw [if_neg (fun h => a1 h.1)] at HB0
        have HB : Hid _ := HB0
        have q1 : (((s[k].toNat : Nat) : Int) == ((t[k].toNat : Nat) : Int)) = false := ne_b (fun h => a1 ((iEq _ _).1 h))
        clear HB0 a1
        go_wp2
        go_quiet (fail)
        go_wp2
        go_roundw
        case rel => exact ⟨k + 1, by omega, by go_num, below_drewN (hb.out.setCell (by simp) _) _, HR1.out _ HB.out⟩
        case measure => simp [intOf]; omega
    · have hcv := conv_c s.size w.heap.size (bw bagr (L s) (L t)) _ wr hr.out (fun j hj => by unfold up; rw [if_pos (by omega)])
      rw [bw_str] at hcv
      go_wp2
      go_ret
      exact ⟨ret_str (congrArg S HC.out), hb.out⟩

set_option maxHeartbeats 1000000 in
theorem rBit_c (s t : ByteArray) (w : World) (hs : s.size ≤ 256) (ht : t.size ≤ maxLen) : Calls Try.prog 31 #[.string s, .string t] w fun e w' => e = .returned (.string (S (btL (L s) (L t)))) ∧ Below w.heap.size w w' := by
  by_cases h2 : kno (L t) = true
  · obtain ⟨r, hr⟩ : ∃ r, r = rnum (L t) := ⟨_, rfl⟩
    have HR : Hid (r = rnum (L t)) := hr
    have hr1 : -1 ≤ r := by rw [hr]; unfold rnum; split <;> omega
    have hr2 : r ≤ 2147483647 := by rw [hr]; unfold rnum; split <;> omega
    by_cases h3 : num (L t) < s.size
    · obtain ⟨n, hn⟩ : ∃ n, n = num (L t) := ⟨_, rfl⟩
      have hrn : r = (n : Int) := by rw [hr, hn]; unfold rnum; rw [if_pos (by omega)]
      have hn1 : n < s.size := by omega
      obtain ⟨i, hi⟩ : ∃ i, s.size = i + 1 + n := ⟨s.size - 1 - n, by omega⟩
      have hi1 : i < s.size := by omega
      have hi2 : (i : Int) < (s.size : Int) := by omega
      have e1 : (s.size : Int) - 1 - (n : Int) = (i : Int) := by omega
      have HB : Hid (btL (L s) (L t) = [s[i]]) := show _ = _ from by unfold btL bitAt; rw [if_pos h2, len_L, if_pos h3, ← hn, show s.size - 1 - n = i by omega, at_getD]
      have HRN : Hid (rnum (L t) = (n : Int)) := by rw [← hr]; exact hrn
      clear hr hrn hi hn
      go_enter Try.func31, Try.ntmps31
      go_wp2_with (first | (go_at_call 32; refine (rknown_c t _ ht).mono ?_; rintro e w1 ⟨rfl, rfl⟩) | (go_at_call 33; refine (rNumber_c t _ ht h2).mono ?_; rintro e w1 ⟨rfl, rfl⟩; rw [HRN.out]) | (go_at_call 43; refine (rone_c _ _).mono ?_; rintro e w2 ⟨rfl, hb2⟩))
      go_ret
      exact ⟨ret_str (by rw [HB.out]), by assumption⟩
    · have HB : Hid (btL (L s) (L t) = [120]) := show _ = _ from by unfold btL; rw [if_pos h2, len_L, if_neg h3]
      have hc : r < 0 ∨ (s.size : Int) ≤ r := by rw [hr]; unfold rnum; split <;> omega
      clear hr
      by_cases c1 : r < 0
      · clear hc
        go_enter Try.func31, Try.ntmps31
        go_wp2_with (first | (go_at_call 32; refine (rknown_c t _ ht).mono ?_; rintro e w1 ⟨rfl, rfl⟩) | (go_at_call 33; refine (rNumber_c t _ ht h2).mono ?_; rintro e w1 ⟨rfl, rfl⟩; rw [← HR.out]))
        go_ret
        exact ⟨ret_str (by rw [HB.out]; rfl), Below.refl _ _⟩
      · have c2 : (s.size : Int) ≤ r := by omega
        clear hc
        go_enter Try.func31, Try.ntmps31
        go_wp2_with (first | (go_at_call 32; refine (rknown_c t _ ht).mono ?_; rintro e w1 ⟨rfl, rfl⟩) | (go_at_call 33; refine (rNumber_c t _ ht h2).mono ?_; rintro e w1 ⟨rfl, rfl⟩; rw [← HR.out]))
        go_ret
        exact ⟨ret_str (by rw [HB.out]; rfl), Below.refl _ _⟩
  · have h2' : kno (L t) = false := by simpa using h2
    have HB : Hid (btL (L s) (L t) = [120]) := show _ = _ from by unfold btL; rw [if_neg h2]
    go_enter Try.func31, Try.ntmps31
    go_wp2_with (first | (go_at_call 32; refine (rknown_c t _ ht).mono ?_; rintro e w1 ⟨rfl, rfl⟩))
    go_ret
    exact ⟨ret_str (by rw [HB.out]; rfl), Below.refl _ _⟩
end Go.Proofs.Ytdacoincdkighaa

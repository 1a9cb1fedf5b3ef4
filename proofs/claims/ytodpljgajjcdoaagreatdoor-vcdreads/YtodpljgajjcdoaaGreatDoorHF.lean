/- Layer 19: the document's reader: a value's line. -/
import Derived.Test.YtodpljgajjcdoaaGreatDoorHE
import Derived.Test.YtodpljgajjcdoaaGreatDoorHC
import Derived.BigRegion
import Derived.Deep.RegionHeld
import Derived.Deep.RegionHeld3
namespace Go.Proofs.YtodpljgajjcdoaaGreatDoor
set_option maxRecDepth 100000
open Go.RowKit Lg Nl Go.Maps Wf Vd
set_option linter.unusedVariables false
set_option linter.unusedSimpArgs false

theorem ext_tl (s : ByteArray) (b : UInt8) (r : List UInt8) (h : L s = b :: r) : s.extract 1 s.size = S r := by
  have hl : s.size = r.length + 1 := by rw [← len_L, h]; rfl
  exact L_inj (by rw [L_extract, L_S, h, hl]; show (r).take _ = r; exact List.take_of_length_le (by omega))
theorem ext_hd (s : ByteArray) (b : UInt8) (r : List UInt8) (h : L s = b :: r) : s.extract 0 1 = S [b] := L_inj (by rw [L_extract, L_S, h]; rfl)
theorem splL_len (c : UInt8) : ∀ l : List UInt8, (spl c l).length ≤ l.length + 1
  | [] => Nat.le_refl _
  | x :: l => by
    have ih := splL_len c l
    unfold spl
    split
    · simp; omega
    · split
      · simp
      · rename_i h t e; rw [e] at ih; simp at ih ⊢; omega
theorem splL_mem (c : UInt8) : ∀ (l t : List UInt8), t ∈ spl c l → t.length ≤ l.length
  | [], t, h => by
    have : t = [] := by simpa [spl] using h
    subst this; exact Nat.le_refl _
  | x :: l, t, h => by
    unfold spl at h
    split at h
    · rcases List.mem_cons.1 h with rfl | h
      · exact Nat.zero_le _
      · exact Nat.le_succ_of_le (splL_mem c l t h)
    · split at h
      · rename_i e; exact absurd e (spl_ne c l)
      · rename_i hd tl e
        rcases List.mem_cons.1 h with rfl | h
        · have := splL_mem c l hd (by rw [e]; exact List.mem_cons_self)
          simp; omega
        · have := splL_mem c l t (by rw [e]; exact List.mem_cons_of_mem _ h)
          simp; omega
def chgP (p : List (List UInt8)) (m : Nat) : Int × List UInt8 := match p with
  | [v, c] => (netR c m, v)
  | _ => (-1, [])
theorem chgP_98 (r : List UInt8) (m : Nat) : chgL (98 :: r) m = chgP (spl 32 r) m := rfl
theorem chgP_no : ∀ (p : List (List UInt8)) (m : Nat), p.length ≠ 2 → chgP p m = (-1, [])
  | [], _, _ => rfl
  | [_], _, _ => rfl
  | [_, _], _, h => absurd rfl h
  | _ :: _ :: _ :: _, _, _ => rfl
theorem two_of : ∀ (p : List (List UInt8)), p.length = 2 → ∃ v c, p = [v, c]
  | [v, c], _ => ⟨v, c, rfl⟩
  | [], h => (by cases h)
  | [_], h => (by cases h)
  | _ :: _ :: _ :: _, h => (by simp at h)
set_option maxHeartbeats 4000000 in
set_option maxRecDepth 1000000 in
theorem rchg_c (l : List UInt8) (m : Nat) (w : World) (hl : l.length ≤ 1048576) (hm : m ≤ 4096) : Calls Tryz.prog 14 #[.string (S l), .int .i64 m] w fun e w' => e = .returned (.tuple #[.int .i64 (chgL l m).1, .string (S (chgL l m).2)]) ∧ Below w.heap.size w w' := by
  have hsz : (S l).size = l.length := size_S l
  cases hc : l with
  | nil =>
    have e0 := emp_yes (s := S []) (by rw [size_S]; rfl)
    go_enter Tryz.func14, Tryz.ntmps14
    go_wp2
    go_ret2
    exact ⟨rfl, Below.refl _ _⟩
  | cons b r =>
    rw [hc] at hsz
    obtain ⟨s, hs⟩ : ∃ s, s = S (b :: r) := ⟨_, rfl⟩
    have hL : L s = b :: r := by rw [hs, L_S]
    rw [← hs] at hsz ⊢
    have hpos : 0 < s.size := by rw [hsz]; simp
    have e0 := emp_no (s := s) (by omega)
    have hb0 : s[0] = b := by
      have := L_head hpos
      rw [hL] at this
      injection this with this
      exact this.symm
    have e1 : s.extract 1 s.size = S r := ext_tl s b r hL
    have e2 : s.extract 0 1 = S [b] := ext_hd s b r hL
    have hrl : r.length ≤ 1048576 := by rw [hc] at hl; simp at hl; omega
    have HN : Hid (∀ W : World, Calls Tryz.prog 24 #[.string (S r), .int .i64 m] W fun e w' => e = .returned (.int .i64 (netR r m)) ∧ Below W.heap.size W w') := fun W => by
      have := rnet_c (S r) m W (by rw [size_S]; exact hrl) hm
      rw [L_S] at this
      exact this
    have i1 : (1 : Int) ≤ (s.size : Int) := by omega
    have i0 : (0 : Int) < (s.size : Int) := by omega
    by_cases hb : b = 98
    · subst hb
      have hb3 : (s[0].toNat : Int) = 98 := by rw [hb0]; rfl
      obtain ⟨p, hp⟩ : ∃ p, p = spl 32 r := ⟨_, rfl⟩
      have HP : Hid (∀ W : World, Calls Tryz.prog 12 #[.string (S r)] W fun e w' => ∃ a c, e = .returned (.slice a p.length c) ∧ Hid (StrAt w' (.slice a p.length c) (p.map S)) ∧ Hid (Below W.heap.size W w')) := fun W => by
        have := parts_c (S r) W (by rw [size_S]; exact hrl)
        rw [L_S, ← hp] at this
        exact this
      have HV : Hid (chgL (98 :: r) m = chgP p m) := by show _ = _; rw [hp]; exact chgP_98 r m
      have HMm : Hid (∀ t ∈ p, t.length ≤ 1048576) := fun t ht => Nat.le_trans (splL_mem 32 r t (by rw [← hp]; exact ht)) hrl
      clear hp hb0 hL hsz hs hc hl hrl
      by_cases hp2 : p.length = 2
      · obtain ⟨v, c, rfl⟩ := two_of p hp2
        have HN2 : Hid (∀ W : World, Calls Tryz.prog 24 #[.string (S c), .int .i64 m] W fun e w' => e = .returned (.int .i64 (netR c m)) ∧ Below W.heap.size W w') := fun W => by
          have := rnet_c (S c) m W (by rw [size_S]; exact HMm.out c (by simp)) hm
          rw [L_S] at this
          exact this
        rw [HV.out]
        show Calls _ _ _ _ fun e w' => e = .returned (.tuple #[.int .i64 (netR c m), .string (S v)]) ∧ Below w.heap.size w w'
        clear HV HMm
        go_enter Tryz.func14, Tryz.ntmps14
        go_upto_region 8 with (first
          | (go_at_call 12; refine (HP.out _).mono ?_; rintro e w1 ⟨a1, c1, rfl, HS1, HB1⟩))
        obtain ⟨W1, hW1⟩ : ∃ W1, W1 = w1 := ⟨_, rfl⟩
        rw [← hW1] at HS1 HB1 ⊢
        clear hW1
        obtain ⟨g, o, e1', hg, q0⟩ := HS1.out.at_ 0 (by show 0 < 2; decide)
        subst e1'
        obtain ⟨g', o', e2', hg', q1⟩ := HS1.out.at_ 1 (by show 1 < 2; decide)
        injection e2' with e2'
        injection e2' with e3 e4 e5
        subst e3 e4
        have q0 : W1.cell? ⟨g, o, none⟩ = some (.string (S v)) := q0
        have q1 : W1.cell? ⟨g, o + 1, none⟩ = some (.string (S c)) := q1
        have HK2 : Hid (∀ Y, Below W1.drew.heap.size W1.drew Y → Y.cell? ⟨g, o, none⟩ = some (.string (S v)) ∧ Y.cell? ⟨g, o + 1, none⟩ = some (.string (S c))) := fun Y hY => ⟨(hY.cell (p := ⟨g, o, none⟩) hg).trans q0, (hY.cell (p := ⟨g, o + 1, none⟩) hg).trans q1⟩
        have r0 : W1.drew.cell? ⟨g, o, none⟩ = some (.string (S v)) := q0
        have r1 : W1.drew.cell? ⟨g, o + 1, none⟩ = some (.string (S c)) := q1
        go_region_held3 (fun w' => w'.cell? ⟨g, o, none⟩ = some (.string (S v)) ∧ w'.cell? ⟨g, o + 1, none⟩ = some (.string (S c))) (go_keep) (first
          | (go_at_call 24; refine (HN2.out _).mono ?_; rintro e w2 ⟨rfl, hb2⟩; obtain ⟨y0, y1⟩ := HK2.out w2 hb2))
        all_goals (
          go_wp2_with fail
          go_ret2
          exact ⟨rfl, bel HB1.out ((Below.refl _ _).drew.trans hb2)⟩)
      · have HV2 : Hid (chgL (98 :: r) m = (-1, [])) := by
          show _ = _
          rw [HV.out]
          exact chgP_no p m hp2
        have hp3 : ((p.length : Int) == 2) = false := by rw [beq_eq_false_iff_ne]; omega
        have hp4 : ¬ (p.length : Int) = 2 := by omega
        rw [HV2.out]
        clear HV HMm HV2
        go_enter Tryz.func14, Tryz.ntmps14
        go_wp2_with (first
          | (go_at_call 12; refine (HP.out _).mono ?_; rintro e w1 ⟨a1, c1, rfl, HS1, HB1⟩))
        go_ret2
        exact ⟨rfl, HB1.out⟩
    · have HV : Hid (chgL (b :: r) m = (netR r m, [b])) := if_pos hb
      have hb2 : ¬ (s[0].toNat : Int) = 98 := fun e => hb (by rw [← hb0]; exact UInt8.toNat_inj.1 (by have : ((98 : UInt8).toNat) = 98 := rfl; omega))
      have hb3 : ((s[0].toNat : Int) == 98) = false := by rw [beq_eq_false_iff_ne]; exact hb2
      rw [HV.out]
      clear HV hb hb0 hL hsz hs hc hl hrl
      go_enter Tryz.func14, Tryz.ntmps14
      go_upto_region 4 with fail
      go_region_with (first
        | (go_at_call 24; refine (HN.out _).mono ?_; rintro e w1 ⟨rfl, hb1⟩))
      all_goals (
        go_wp2_with fail
        go_ret2
        exact ⟨rfl, (Below.refl _ _).drew.trans hb1⟩)
end Go.Proofs.YtodpljgajjcdoaaGreatDoor

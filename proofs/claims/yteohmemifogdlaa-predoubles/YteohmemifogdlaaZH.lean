/- Layer 3 of the program: a line's tokens. -/
import Derived.Test.YteohmemifogdlaaZG
namespace Go.Proofs.Yteohmemifogdlaa
open Go.RowKit Lg Go.Maps
set_option linter.unusedVariables false
set_option linter.unusedSimpArgs false

/-- where the run stands, by its block -/
def atR (b : Nat) (w : World) : Nat := (intOf ((w.cell? ⟨b, 4, none⟩).getD (.int .i64 0))).toNat
theorem atR_eq {b : Nat} {r : RB} {w : World} (h : RBl b r w) : atR b w = r.at_ := by unfold atR; rw [h.at_.2.2.2.2.1]; simp [intOf]
theorem tk_go (q : Tok → Bool) (l : List Tok) (a i : Nat) (hai : a ≤ i) (hi : i < l.length) (hall : ((l.drop a).take (i - a)).all q = true) (t : Tok) (ht : l[i]? = some t) (hc : q t = true) : ((l.drop a).take (i + 1 - a)).all q = true := by
  rw [show i + 1 - a = (i - a) + 1 by omega, List.take_add_one, List.all_append, hall, List.getElem?_drop, show a + (i - a) = i by omega, ht]
  simpa using hc
theorem tk_stop (q : Tok → Bool) (l : List Tok) (a i : Nat) (hai : a ≤ i) (hi : i ≤ l.length) (hall : ((l.drop a).take (i - a)).all q = true) (hc : i = l.length ∨ ∃ t, l[i]? = some t ∧ q t = false) : ((l.drop a).takeWhile q).length = i - a := by
  have hsp : l.drop a = (l.drop a).take (i - a) ++ l.drop i := by
    have : (l.drop a).drop (i - a) = l.drop i := by rw [List.drop_drop, show a + (i - a) = i by omega]
    rw [← this, List.take_append_drop]
  have hlen : ((l.drop a).take (i - a)).length = i - a := by rw [List.length_take, List.length_drop]; omega
  have e : (l.drop a).takeWhile q = (l.drop a).take (i - a) ++ (l.drop i).takeWhile q := by
    conv => lhs; rw [hsp]
    exact List.takeWhile_append_of_pos (by simpa using hall)
  have e2 : (l.drop i).takeWhile q = [] := by
    rcases hc with rfl | ⟨t, ht, hc⟩
    · rw [List.drop_length]; rfl
    · obtain ⟨hlt, rfl⟩ := List.getElem?_eq_some_iff.1 ht
      rw [List.drop_eq_getElem_cons hlt, List.takeWhile_cons, hc]; rfl
  rw [e, e2, List.append_nil, hlen]

theorem pline_end {B b : Nat} {src : List Tok} {r : RB} {D : DataW Value} {nD : Nat} {o : List Br} {kp : List Tok} {w wr : World} {a i m N g : Nat} (hi1 : a ≤ i) (hi2 : i ≤ N) (hm : ((src.drop a).takeWhile notL).length = m) (he : m = i - a) (hg : r.g = g) (hN : src.length = N)
    (hI : Inv B b src { r with at_ := i } D nD o kp wr) (hF : Frm b r.mb B w wr) (v : Value) (hv : (i = a ∧ v = .slice (some ⟨g, 0, none⟩) 0 0) ∨ v = .slice (some ⟨g, a * 3, none⟩) (i - a) (i - a)) :
    (∃ f, Ending.returned v = .returned (.slice (some ⟨g, f * 3, none⟩) m m) ∧ f + m ≤ src.length ∧ (src.drop f).take m = (src.drop a).takeWhile notL) ∧ (Inv B b src { cap := r.cap, g := g, n := r.n, e := r.e, at_ := a + m, mb := r.mb, vo := r.vo, vk := r.vk } D nD o kp wr.drew.drew ∧ Frm b r.mb B w wr.drew.drew) := by
  subst hg
  have hai : a + m = i := by omega
  refine ⟨?_, ?_, ?_⟩
  · rcases hv with ⟨h1, h2⟩ | h2
    · refine ⟨0, by rw [h2, show m = 0 by omega], by omega, ?_⟩
      have h0 : m = 0 := by omega
      rw [h0] at hm
      rw [h0, List.take_zero, List.eq_nil_of_length_eq_zero hm]
    · refine ⟨a, by rw [h2, he], by omega, ?_⟩
      have := List.takeWhile_append_dropWhile (p := notL) (l := src.drop a)
      conv => lhs; rw [← this]
      rw [← hm, List.take_left]
  · rw [hai]; exact hI.same (Below.refl _ _).drew.drew
  · exact hF.trans (Frm.of_below (Below.refl _ _).drew.drew hI.Bw)
set_option maxHeartbeats 2000000 in
theorem pline_c (B b : Nat) (src : List Tok) (r : RB) (D : DataW Value) (nD : Nat) (o : List Br) (kp : List Tok) (w : World) (h : Inv B b src r D nD o kp w) (hat : r.at_ ≤ src.length) (m : Nat) (hm : ((src.drop r.at_).takeWhile notL).length = m) :
    Calls Try.prog 38 #[.pointer (some ⟨b, 0, none⟩)] w fun e w' => (∃ f, e = .returned (.slice (some ⟨r.g, f * 3, none⟩) m m) ∧ f + m ≤ src.length ∧ (src.drop f).take m = (src.drop r.at_).takeWhile notL) ∧ (Inv B b src { r with at_ := r.at_ + m } D nD o kp w' ∧ Frm b r.mb B w w') := by
  obtain ⟨a, ha⟩ : ∃ a, r.at_ = a := ⟨_, rfl⟩
  obtain ⟨c0, c1, c2, c3, c4, c5, c6, c7, cf⟩ := h.blk.at_
  have hn1 := h.n.1
  have hn3 := h.n.2.2
  have hnc := h.n.2.1
  rw [ha] at hat hm c4 ⊢
  have HM : Hid _ := hm
  have HH : Hid _ := h
  have HA : Hid _ := ha
  obtain ⟨g, hg⟩ : ∃ g, r.g = g := ⟨_, rfl⟩
  obtain ⟨cap, hcap⟩ : ∃ cap, r.cap = cap := ⟨_, rfl⟩
  obtain ⟨N, hN⟩ : ∃ N, src.length = N := ⟨_, rfl⟩
  rw [hcap, hN] at hnc
  rw [hN] at hat hn3
  have HG : Hid (r.g = g) := hg
  have HN : Hid (src.length = N) := hN
  have HNN : Hid (r.n = N) := by rw [hn1]; exact hN
  have HCP : Hid _ := hcap
  rw [hg]
  clear h hm ha c0 c1 c2 c3 c5 c6 c7 cf hg hcap hN hn1
  go_enter Try.func38, Try.ntmps38
  go_wp2
  go_loopw [8] (fun _ wr => ∃ i : Nat, a ≤ i ∧ i ≤ N ∧ Hid (((src.drop a).take (i - a)).all notL = true) ∧ Hid (Inv B b src { r with at_ := i } D nD o kp wr) ∧ Hid (Frm b r.mb B w wr)) (fun _ wr => N - atR b wr)
  case atStart => exact ⟨a, Nat.le_refl _, hat, by rw [Nat.sub_self]; exact rfl, by have := HH.out; rw [← HA.out]; exact this, Frm.refl _ _ _ _⟩
  case round =>
    obtain ⟨i, hi1, hi2, HALL, HI, HF⟩ := hrel
    obtain ⟨c0, c1, c2, c3, c4, c5, c6, c7, cf⟩ := HI.out.blk.at_
    have hc0 : wr.cell? ⟨b, 0, none⟩ = some (.slice (some ⟨g, 0, none⟩) N cap) := by rw [c0, HG.out, HNN.out, HCP.out]
    have hc4 : wr.cell? ⟨b, 4, none⟩ = some (.int .i64 i) := c4
    have f4 := cf 4
    have HAT : Hid (atR b wr = i) := atR_eq HI.out.blk
    have hgb : g ≠ b := by rw [← HG.out]; exact HI.out.gb
    clear c0 c1 c2 c3 c4 c5 c6 c7 cf
    by_cases hlt : i < N
    · have hltI : (i : Int) < (N : Int) := by omega
      obtain ⟨t, ht⟩ : ∃ t, src[i]? = some t := ⟨_, List.getElem?_eq_getElem (by rw [HN.out]; exact hlt)⟩
      obtain ⟨q0, q1, q2⟩ := HI.out.get ht
      have q0' : wr.cell? ⟨g, i * 3, none⟩ = some (.int .i64 t.k) := by rw [← HG.out]; exact q0
      clear q0 q1 q2
      by_cases hk : t.k = 5
      · rw [hk] at q0'
        have HE : Hid (m = i - a) := by
          rw [← HM.out]; exact tk_stop notL src a i hi1 (by rw [HN.out]; omega) HALL.out (Or.inr ⟨t, ht, by unfold notL; rw [hk]; rfl⟩)
        clear ht hk
        have HEND : Hid _ := pline_end (w := w) hi1 hi2 HM.out HE.out HG.out HN.out HI.out HF.out
        go_wp2
        go_region
        all_goals go_wp2
        all_goals go_region
        all_goals go_wp2
        all_goals go_ret
        all_goals exact HEND.out _ (by first | exact Or.inl ⟨by omega, rfl⟩ | exact Or.inr rfl)
      · have hk1 : (t.k != 5) = true := by simpa using hk
        have HNX : Hid _ := tk_go notL src a i hi1 (by rw [HN.out]; exact hlt) HALL.out t ht (by unfold notL; exact hk1)
        clear ht hk
        go_wp2
        go_region
        all_goals go_wp2
        all_goals
          go_roundw
          case rel => exact ⟨i + 1, by omega, by omega, HNX, (HI.out.set4 (i + 1) _ (by go_num)).same (Below.refl _ _).drew, (HF.out.trans Frm.set).trans (Frm.of_below (Below.refl _ _).drew (by have := HI.out.Bw; simp [World.setCell]; omega))⟩
          case measure =>
            have e1 := atR_eq ((HI.out.set4 (i + 1) (.int .i64 ((i : Int) + 1)) (by go_num)).same (Below.refl _ _).drew).blk
            rw [e1, HAT.out]
            show N - (i + 1) < N - i
            omega
    · have HE : Hid (m = i - a) := by
        rw [← HM.out]; exact tk_stop notL src a i hi1 (by rw [HN.out]; omega) HALL.out (Or.inl (by rw [HN.out]; omega))
      have HEND : Hid _ := pline_end (w := w) hi1 hi2 HM.out HE.out HG.out HN.out HI.out HF.out
      have hge : (N : Int) ≤ (i : Int) := by omega
      go_wp2
      go_region
      all_goals go_wp2
      all_goals go_region
      all_goals go_wp2
      all_goals go_ret
      all_goals exact HEND.out _ (by first | exact Or.inl ⟨by omega, rfl⟩ | exact Or.inr rfl)
end Go.Proofs.Yteohmemifogdlaa

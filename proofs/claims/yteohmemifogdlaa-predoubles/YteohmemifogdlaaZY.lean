/- Layer 3 of the program: a step, whole, if ifdef opens its part; a run. -/
import Derived.Test.YteohmemifogdlaaZX
namespace Go.Proofs.Yteohmemifogdlaa
open Go.RowKit Lg Go.Maps
set_option linter.unusedVariables false
set_option linter.unusedSimpArgs false

theorem step_all (hif : SplitIfC) : StepC := by
  intro B b src r D nD s w h hN hsz ho hk hnd t rest hdr
  have hlt : r.at_ < src.length := by
    rcases Nat.lt_or_ge r.at_ src.length with g | g
    · exact g
    · rw [List.drop_of_length_le g] at hdr; cases hdr
  have hd2 := List.drop_eq_getElem_cons hlt
  rw [hd2] at hdr
  injection hdr with h1 h2
  have ht : src[r.at_]? = some t := by rw [List.getElem?_eq_getElem hlt, h1]
  have htx : t.x.length ≤ 65536 := hsz t (List.mem_of_getElem? ht)
  have hl3 := h.n.2.2
  subst h2
  unfold stpP
  by_cases c1 : t.k = 4 ∧ splB t.x = true
  · rw [if_pos c1]
    exact step_split B b src r D nD s w h t hlt ht _ rfl c1.1 c1.2 _ fun w1 hI => split_all hif B b src _ D nD s w1 hI hN hsz (by omega) (by show r.at_ + 1 ≤ _; omega) t _ rfl
  · rw [if_neg c1]
    by_cases k4 : t.k = 4
    · have hs : splB t.x = false := by
        cases e : splB t.x with
        | false => rfl
        | true => exact absurd ⟨k4, e⟩ c1
      cases hkk : kpB s.o with
      | false =>
        rw [if_pos rfl]
        exact pstep_off4 B b src r D nD s w h t hlt ht _ rfl k4 hs hkk hN
      | true =>
        rw [if_neg (by simp), if_pos k4]
        exact pstep_tick B b src r D nD s w h t hlt ht _ rfl k4 hs hkk _ fun w1 hI => tick_all B b src _ D nD (by omega) s w1 hI hN hsz hk (by show r.at_ + 1 ≤ _; omega) t htx _ rfl
    · cases hkk : kpB s.o with
      | false =>
        rw [if_pos rfl]
        exact pstep_off B b src r D nD s w h t hlt ht _ rfl k4 hkk hN
      | true =>
        rw [if_neg (by simp), if_neg k4]
        by_cases k5 : t.k = 5
        · rw [if_pos k5]
          exact pstep_line B b src r D nD s w h t hlt ht _ rfl k4 hkk k5 hN
        · rw [if_neg k5]
          exact pstep_keep B b src r D nD s w h t hlt ht _ rfl k4 hkk k5 _ fun w1 hI => keep_all B b src _ D nD s w1 hI hN hk t _ rfl
end Go.Proofs.Yteohmemifogdlaa

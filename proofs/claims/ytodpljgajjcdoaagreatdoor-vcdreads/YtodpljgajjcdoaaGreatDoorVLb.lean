/- Layer 18: the library's Clone of texts, of numbers, of changes. -/
import Derived.Test.YtodpljgajjcdoaaGreatDoorVE
import Derived.Test.YtodpljgajjcdoaaGreatDoorVLa
namespace Go.Proofs.YtodpljgajjcdoaaGreatDoor
set_option maxRecDepth 100000
open Go.RowKit Lg Nl Go.Maps Wf
set_option linter.unusedVariables false
set_option linter.unusedSimpArgs false

theorem chs_len : ∀ l : List Ch, (chs l).length = l.length * 3
  | [] => rfl
  | c :: cs => by
    have := chs_len cs
    show (chC c ++ chs cs).length = _
    rw [List.length_append, this, List.length_cons]
    show 3 + _ = _
    omega
theorem one_chs (l : List Ch) : ∀ u ∈ chs l, u.oneCell' = true := by
  intro u hu
  obtain ⟨c, _, h⟩ := List.mem_flatMap.1 hu
  exact one3 c u h
theorem one_iCv (l : List Int) : ∀ u ∈ iC l, u.oneCell' = true := by intro u hu; unfold iC at hu; obtain ⟨a, _, rfl⟩ := List.mem_map.1 hu; rfl
theorem chs_get : ∀ (l : List Ch) (j : Nat) (u : Value), (chs l)[j]? = some u → ∃ (h : j / 3 < l.length), (chC l[j / 3])[j % 3]? = some u
  | [], j, u, h => by cases j <;> cases h
  | c :: cs, j, u, h => by
    have h : (chC c ++ chs cs)[j]? = some u := h
    by_cases hj : j < 3
    · rw [List.getElem?_append_left (by show j < 3; exact hj)] at h
      have e1 : j / 3 = 0 := by omega
      have e2 : j % 3 = j := by omega
      refine ⟨by rw [e1]; exact Nat.succ_pos _, ?_⟩
      simp only [e1, e2]
      exact h
    · rw [List.getElem?_append_right (by show 3 ≤ _; omega)] at h
      obtain ⟨h1, h2⟩ := chs_get cs (j - 3) u h
      have e1 : j / 3 = (j - 3) / 3 + 1 := by omega
      have e2 : j % 3 = (j - 3) % 3 := by omega
      refine ⟨by rw [e1]; exact Nat.succ_lt_succ h1, ?_⟩
      simp only [e1, e2]
      exact h2
theorem IntsAt.news {w : World} {ad : Addr} {n cap : Nat} {l : List Int} (h : IntsAt w (.slice (some ad) n cap) l) : ∀ j u, (iC l)[j]? = some u → w.cell? (ad.add j) = some u := by
  intro j u hu
  have hj : j < l.length := by have := (List.getElem?_eq_some_iff.1 hu).1; simpa [iC] using this
  obtain ⟨g, o, e, hg, hc⟩ := IntsAt.at_ h j hj
  injection e with e
  subst e
  unfold iC at hu
  rw [List.getElem?_map, List.getElem?_eq_getElem hj] at hu
  rw [addOv, hc, iA_at hj]; exact hu
theorem ChAt.news {w : World} {ad : Addr} {n cap : Nat} {l : List Ch} (h : ChAt w (.slice (some ad) n cap) l) : ∀ j u, (chs l)[j]? = some u → w.cell? (ad.add j) = some u := by
  intro j u hu
  obtain ⟨hl, hv⟩ := chs_get l j u hu
  obtain ⟨ao', cap', e, hc, h⟩ := h
  injection e with e1 e2 e3
  rcases h with h | ⟨g, o, e4, hg, h⟩
  · subst h; simp at hl
  · rw [e4] at e1; injection e1 with e1; subst e1
    have := h (j / 3) hl (j % 3) u hv
    rw [addOv, ← this]
    congr 2
    omega
theorem own_intsV {w : World} {B : Nat} {v : Value} {l : List Int} (h : w.ownsRow B 3 1 v l.length (iC l)) : IntsAt w v l := by
  rcases h.2 with ⟨rfl, hn⟩ | ⟨g, cap, cur, rfl, hg, hh, hc, _, _, _⟩
  · exact ⟨none, 0, by rw [hn], by omega, Or.inl (List.eq_nil_of_length_eq_zero hn)⟩
  · exact ⟨_, cap, rfl, hc, Or.inr ⟨g, 0, rfl, hLt hh, fun i hi => by rw [Nat.zero_add]; exact own_cell h i hi⟩⟩
theorem IntsAt.none {w : World} {n cap : Nat} {l : List Int} (h : IntsAt w (.slice none n cap) l) : l = [] := by
  obtain ⟨ao', cap', e, hc, h⟩ := h
  injection e with e1 e2 e3
  rcases h with h | ⟨g, o, e4, _⟩
  · exact h
  · rw [e4] at e1; cases e1
theorem StrAt.none {w : World} {n cap : Nat} {l : List ByteArray} (h : StrAt w (.slice none n cap) l) : l = [] := by
  obtain ⟨ao', cap', e, hc, h⟩ := h
  injection e with e1 e2 e3
  rcases h with h | ⟨g, o, e4, _⟩
  · exact h
  · rw [e4] at e1; cases e1
theorem ChAt.none {w : World} {n cap : Nat} {l : List Ch} (h : ChAt w (.slice none n cap) l) : l = [] := by
  obtain ⟨ao', cap', e, hc, h⟩ := h
  injection e with e1 e2 e3
  rcases h with h | ⟨g, o, e4, _⟩
  · exact h
  · rw [e4] at e1; cases e1
set_option maxHeartbeats 1000000 in
theorem cloneS_c (v : Value) (l : List ByteArray) (w : World) (h : StrAt w v l) (hn : l.length ≤ 4398046511000) : Calls Tryz.prog 49 #[v] w fun e w' => ∃ v', e = .returned v' ∧ Hid (w'.ownsRow w.heap.size 9 1 v' l.length (sC l)) ∧ Below w.heap.size w w' := by
  have hq : ∀ (w : World) (a : Option Addr) (n c : Nat), (binOp .eql 23 (.slice a n c) (.slice none 0 0)).run Tryz.prog w = .ok (.bool a.isNone) w := fun w a n c => Lib.run_eql_slice_nil w _ _ a n c 0 0 Tryz.underlying23
  obtain ⟨jj, HJ⟩ : ∃ jj, Hid (Tryz.prog.info? 9 = some jj ∧ jj.zero = some (.string ⟨#[]⟩) ∧ jj.size = 1 ∧ jj.bytes = 16) := infoStr
  have HA : Hid (StrAt w v l) := h
  obtain ⟨ao, c, rfl, _, _⟩ := h
  cases ao with
  | none =>
    have hl : l = [] := StrAt.none HA.out
    have HL : Hid (l = []) := hl
    clear hl HA
    go_enter Tryz.func49, Tryz.ntmps49
    go_wp2_with fail
    go_ret
    exact ⟨_, rfl, by rw [HL.out]; exact World.ownsRow_nil _ _ _ _, Below.refl _ _⟩
  | some ad =>
    have hnw := StrAt.news HA.out
    have HW : Hid (∀ j u, (sC l)[j]? = some u → (w.alloc (.cells #[] 9)).cell? (ad.add j) = some u) := fun j u hj => Lib.cell?_alloc_some _ (hnw j u hj)
    have HN : Hid (l.length ≤ 4398046511000) := hn
    clear hnw HA hn
    go_enter Tryz.func49, Tryz.ntmps49
    go_wp2_with (first
      | (at_builtin; refine wpList_append_own_at _ rfl _ _ 23 rfl w.heap.size 9 jj _ 1 16 Tryz.underlying23 HJ.out.1 HJ.out.2.1 HJ.out.2.2.1 HJ.out.2.2.2 rfl (by decide) (.slice (some ⟨w.heap.size, 0, none⟩) 0 0) 0 [] rfl (World.ownsRow_lit w #[] 0 (Nat.le_refl _) (by decide) rfl) ad l.length c (sC l) rfl (by simp [sC]) HW.out (one_sC l) (by have := HN.out; unfold maxLen; omega) (by have := HN.out; omega) (by simp) ?_; intro v9 w9 hown9 hgrow9 hnil9 hloc9; have HO9 : Hid (w9.ownsRow w.heap.size 9 1 v9 (0 + l.length) ([] ++ sC l)) := hown9; have HG9 : Hid ((w.alloc (.cells #[] 9)).grownBy w9 (some w.heap.size)) := hgrow9; clear hown9 hgrow9 hnil9 hloc9))
    go_ret
    exact ⟨v9, rfl, by have h := HO9.out; rw [Nat.zero_add, List.nil_append] at h; exact h, Gb (belA (Below.refl _ _) _) HG9.out (fun g e => by injection e with e; omega)⟩
end Go.Proofs.YtodpljgajjcdoaaGreatDoor

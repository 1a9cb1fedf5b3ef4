/- Layer 18: facts on waveforms that may be; WaveChecks, walked over what the program's functions tell. -/
import Derived.Test.YtodpljgajjcdoaaGreatDoorVP
namespace Go.Proofs.YtodpljgajjcdoaaGreatDoor
set_option maxRecDepth 100000
open Go.RowKit Lg Nl Go.Maps Wf
set_option linter.unusedVariables false
set_option linter.unusedSimpArgs false

theorem ls_cons (wd : List Int) (p : Option Ch) (now : List ByteArray) (c : Ch) (cs : List Ch) (h : lsB wd p now (c :: cs) = true) : (0 ≤ c.n ∧ c.n < now.length ∧ 0 ≤ c.t ∧ c.t ≤ 4611686018427387903) ∧ (∀ a, p = some a → ahB a c = true) ∧ lsB wd (some c) (now.set c.n.toNat c.v) cs = true := by
  unfold lsB at h
  simp only [Bool.and_eq_true, decide_eq_true_eq] at h
  obtain ⟨⟨⟨⟨⟨h1, h2⟩, h3⟩, h4⟩, h5⟩, h6⟩ := h
  refine ⟨h1, fun a e => ?_, h6⟩
  subst e
  exact h2
theorem ls_mono (wd : List Int) : ∀ (l : List Ch) (a : Ch) (now : List ByteArray), lsB wd (some a) now l = true → ∀ c ∈ l, a.t ≤ c.t
  | [], _, _, _, c, hc => by cases hc
  | d :: ds, a, now, h, c, hc => by
    obtain ⟨_, h2, h3⟩ := ls_cons wd _ now d ds h
    have h4 := h2 a rfl
    unfold ahB at h4
    have h5 := of_decide_eq_true h4
    rcases List.mem_cons.1 hc with rfl | hc
    · omega
    · have := ls_mono wd ds d _ h3 c hc
      omega
theorem cut_nil {t : Int} {l : List Ch} (h : ∀ c ∈ l, t ≤ c.t) : cutL t l = [] := by
  unfold cutL
  rw [List.filter_eq_nil_iff]
  intro c hc
  have := h c hc
  simp; omega
theorem ls_cut (wd : List Int) (t : Int) : ∀ (l : List Ch) (p : Option Ch) (now : List ByteArray), lsB wd p now l = true → cutL t l = l.take (cutL t l).length ∧ lsB wd p now (cutL t l) = true
  | [], p, now, h => ⟨rfl, h⟩
  | c :: cs, p, now, h => by
    obtain ⟨h1, h2, h3⟩ := ls_cons wd p now c cs h
    obtain ⟨i1, i2⟩ := ls_cut wd t cs _ _ h3
    by_cases ht : c.t < t
    · have e : cutL t (c :: cs) = c :: cutL t cs := by unfold cutL; rw [List.filter_cons, if_pos (by simpa using ht)]
      rw [e]
      refine ⟨by rw [List.length_cons, List.take_succ_cons, ← i1], ?_⟩
      unfold lsB at h ⊢
      simp only [Bool.and_eq_true] at h ⊢
      exact ⟨h.1, i2⟩
    · have e : cutL t (c :: cs) = [] := cut_nil fun d hd => by
        rcases List.mem_cons.1 hd with rfl | hd
        · omega
        · have := ls_mono wd cs c _ h3 d hd
          omega
      rw [e]
      exact ⟨rfl, rfl⟩
theorem ls_mem (wd : List Int) : ∀ (l : List Ch) (p : Option Ch) (now : List ByteArray), lsB wd p now l = true → ∀ c ∈ l, 0 ≤ c.n ∧ c.n < now.length ∧ 0 ≤ c.t ∧ c.t ≤ 4611686018427387903
  | [], _, _, _, c, hc => by cases hc
  | d :: ds, p, now, h, c, hc => by
    obtain ⟨h1, h2, h3⟩ := ls_cons wd p now d ds h
    rcases List.mem_cons.1 hc with rfl | hc
    · exact h1
    · have := ls_mem wd ds _ _ h3 c hc
      rw [List.length_set] at this
      exact this
theorem may_parts {x : Wv} (h : mayW x = true) : lenB x = true ∧ (List.range x.nm.length).all (netB x) = true ∧ lsB x.wd none x.fi x.li = true := by
  unfold mayW at h
  rw [Bool.and_eq_true, Bool.and_eq_true] at h
  exact ⟨h.1.1, h.1.2, h.2⟩
theorem may_cut {x : Wv} (t : Int) (h : mayW x = true) : mayW (cutW t x) = true := by
  obtain ⟨h1, h2, h3⟩ := may_parts h
  unfold mayW
  rw [Bool.and_eq_true, Bool.and_eq_true]
  exact ⟨⟨h1, h2⟩, (ls_cut x.wd t x.li none x.fi h3).2⟩
theorem beg_cut {x : Wv} (t : Int) (h : mayW x = true) : begP (cutW t x) x :=
  ⟨rfl, rfl, rfl, List.length_filter_le _ _, (ls_cut x.wd t x.li none x.fi (may_parts h).2.2).1⟩
theorem may_nets {x : Wv} (h : mayW x = true) : ∀ c ∈ x.li, 0 ≤ c.n ∧ c.n < (x.fi.length : Int) := fun c hc => by
  have := ls_mem x.wd x.li none x.fi (may_parts h).2.2 c hc
  exact ⟨this.1, this.2.1⟩
theorem may_len {x : Wv} (h : mayW x = true) : x.nm.length ≤ 4096 ∧ x.wd.length = x.nm.length ∧ x.fi.length = x.nm.length := of_decide_eq_true (may_parts h).1
theorem cut_cut (a b : Int) (l : List Ch) : cutL b (cutL a l) = cutL (min a b) l := by
  unfold cutL
  rw [List.filter_filter]
  congr 1
  funext c
  rw [← Bool.decide_and]
  exact decide_eq_decide.2 ⟨fun h => by omega, fun h => by omega⟩
theorem at_cut (a : Int) : ∀ (l : List Ch) (now : List ByteArray), (∀ c ∈ l, c.t ≤ 4611686018427387903) → atL 4611686018427387903 now (cutL (a + 1) l) = atL a now l
  | [], now, _ => rfl
  | c :: cs, now, h => by
    have ih := at_cut a cs
    have h1 := h c (List.mem_cons_self ..)
    have h2 : ∀ d ∈ cs, d.t ≤ 4611686018427387903 := fun d hd => h d (List.mem_cons_of_mem _ hd)
    by_cases ht : c.t < a + 1
    · have e : cutL (a + 1) (c :: cs) = c :: cutL (a + 1) cs := by unfold cutL; rw [List.filter_cons, if_pos (by simpa using ht)]
      rw [e]
      show atL 4611686018427387903 (putL 4611686018427387903 now c) (cutL (a + 1) cs) = atL a (putL a now c) cs
      rw [ih _ h2]
      unfold putL
      rw [if_pos h1, if_pos (by omega)]
    · have e : cutL (a + 1) (c :: cs) = cutL (a + 1) cs := by unfold cutL; rw [List.filter_cons, if_neg (by simpa using ht)]
      rw [e]
      show atL 4611686018427387903 now (cutL (a + 1) cs) = atL a (putL a now c) cs
      rw [ih _ h2]
      unfold putL
      rw [if_neg (by omega)]
theorem sz_cut {x : Wv} (t : Int) (h : Sz x) : Sz (cutW t x) := ⟨h.nm, h.fi, fun c hc => h.li c (List.mem_filter.1 hc).1, Nat.le_trans (List.length_filter_le _ _) h.ln⟩
theorem bd_cut {x : Wv} (t : Int) (h : Bd x) : Bd (cutW t x) := ⟨h.nm, h.wd, h.fi, Nat.le_trans (List.length_filter_le _ _) h.li⟩
theorem own_strs {w : World} {B : Nat} {v : Value} {l : List ByteArray} (h : w.ownsRow B 9 1 v l.length (sC l)) : StrAt w v l := by
  rcases h.2 with ⟨rfl, hn⟩ | ⟨g, cap, cur, rfl, hg, hh, hc, _, _, _⟩
  · exact ⟨none, 0, by rw [hn], ⟨by omega, fun _ => rfl⟩, Or.inl (List.eq_nil_of_length_eq_zero hn)⟩
  · refine ⟨_, cap, rfl, ⟨hc, fun e => by cases e⟩, Or.inr ⟨g, 0, rfl, hLt hh, fun i hi => ?_⟩⟩
    rw [Nat.zero_add, h.cellAt i (by omega), sC_at hi, sA_at hi]
theorem chs_at : ∀ (l : List Ch) (i : Nat) (hi : i < l.length) (j : Nat) (u : Value), (chC l[i])[j]? = some u → (chs l)[i * 3 + j]? = some u
  | [], i, hi, _, _, _ => by simp at hi
  | c :: cs, 0, _, j, u, h => by
    have hj : j < 3 := (List.getElem?_eq_some_iff.1 h).1
    show (chC c ++ chs cs)[0 * 3 + j]? = some u
    rw [Nat.zero_mul, Nat.zero_add, List.getElem?_append_left (by show j < 3; exact hj)]
    exact h
  | c :: cs, i + 1, hi, j, u, h => by
    have ih := chs_at cs i (by simpa using hi) j u h
    show (chC c ++ chs cs)[(i + 1) * 3 + j]? = some u
    rw [List.getElem?_append_right (by show 3 ≤ _; omega)]
    rw [show (i + 1) * 3 + j - (chC c).length = i * 3 + j from by show (i + 1) * 3 + j - 3 = _; omega]
    exact ih
theorem own_chs {w : World} {B : Nat} {v : Value} {l : List Ch} (h : w.ownsRow B 34 3 v l.length (chs l)) : ChAt w v l := by
  rcases h.2 with ⟨rfl, hn⟩ | ⟨g, cap, cur, rfl, hg, hh, hc, _, _, _⟩
  · exact ⟨none, 0, by rw [hn], ⟨by omega, fun _ => rfl⟩, Or.inl (List.eq_nil_of_length_eq_zero hn)⟩
  · refine ⟨_, cap, rfl, ⟨hc, fun e => by cases e⟩, Or.inr ⟨g, 0, rfl, hLt hh, fun i hi j u hu => ?_⟩⟩
    have hj : j < 3 := (List.getElem?_eq_some_iff.1 hu).1
    rw [Nat.zero_add, h.cellAt (i * 3 + j) (by omega)]
    exact chs_at l i hi j u hu
/-- a waveform that is handed in, and what is asked of it -/
structure Wi (w : World) (vn vw vf vl : Value) (x : Wv) : Prop where
  a : WvAt w vn vw vf vl x
  z : Sz x
  b : Bd x
  l : x.li.length ≤ 4398046511000
theorem Wi.below {w w' : World} {vn vw vf vl : Value} {x : Wv} (h : Wi w vn vw vf vl x) (hb : Below w.heap.size w w') : Wi w' vn vw vf vl x := ⟨h.a.below hb, h.z, h.b, h.l⟩
theorem Wi.may {w : World} {vn vw vf vl : Value} {x : Wv} {m : Bool} (h : Wi w vn vw vf vl x) (hm : mayW x = m) : Calls Tryz.prog 25 #[.agg #[vn, vw, vf, vl]] w fun e w' => e = .returned (.bool m) ∧ Below w.heap.size w w' := by
  rw [← hm]; exact wMay_c x vn vw vf vl w h.a h.z
end Go.Proofs.YtodpljgajjcdoaaGreatDoor

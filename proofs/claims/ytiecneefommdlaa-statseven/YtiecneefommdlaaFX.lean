/- Layer 20: the landed code: Of. -/
import Derived.Test.YtiecneefommdlaaFWa
import Derived.Test.YtiecneefommdlaaFWc
import Derived.Test.YtiecneefommdlaaVLe
namespace Go.Proofs.Ytiecneefommdlaa
set_option maxRecDepth 100000
open Go.RowKit Lg Nl Go.Maps Wf Fl
set_option linter.unusedVariables false
set_option linter.unusedSimpArgs false

/-- may Of be asked so -/
def okS (x : Wv) (net hz : Int) : Bool := mayW x && decide (-1 ≤ net ∧ net < (x.nm.length : Int) ∧ 0 ≤ hz ∧ hz ≤ 4611686018427387903)
/-- changes in their order stand within reach, and none ahead of one before it -/
theorem ls_tms (wd : List Int) : ∀ (l : List Ch) (p : Option Ch) (now : List ByteArray), lsB wd p now l = true → (∀ c ∈ l, 0 ≤ c.t ∧ c.t ≤ 4611686018427387903) ∧ (l.map (·.t)).Pairwise (· ≤ ·) ∧ ∀ a, p = some a → ∀ c ∈ l, a.t ≤ c.t
  | [], _, _, _ => ⟨fun c hc => (by cases hc), List.Pairwise.nil, fun a _ c hc => (by cases hc)⟩
  | c :: cs, p, now, h => by
    unfold lsB at h
    simp only [Bool.and_eq_true, decide_eq_true_eq] at h
    obtain ⟨⟨⟨⟨⟨h1, h2⟩, h3⟩, h4⟩, h5⟩, h6⟩ := h
    obtain ⟨i1, i2, i3⟩ := ls_tms wd cs (some c) _ h6
    have i4 := i3 c rfl
    refine ⟨fun y hy => ?_, ?_, fun a ha y hy => ?_⟩
    · rcases List.mem_cons.1 hy with rfl | hy
      · exact ⟨h1.2.2.1, h1.2.2.2⟩
      · exact i1 y hy
    · rw [List.map_cons]
      refine List.pairwise_cons.2 ⟨fun t ht => ?_, i2⟩
      obtain ⟨y, hy, rfl⟩ := List.mem_map.1 ht
      exact i4 y hy
    · subst ha
      have ha : a.t ≤ c.t := by
        unfold ahB at h2
        have := of_decide_eq_true h2
        omega
      rcases List.mem_cons.1 hy with rfl | hy
      · exact ha
      · exact Int.le_trans ha (i4 y hy)
theorem tms_of {x : Wv} (h : mayW x = true) (net hz : Int) : Tms (tmL net hz x.li) := by
  unfold mayW at h
  simp only [Bool.and_eq_true] at h
  obtain ⟨h1, h2, _⟩ := ls_tms x.wd x.li none x.fi h.2
  have hs : (tmL net hz x.li).Sublist (x.li.map (·.t)) := List.Sublist.map _ List.filter_sublist
  refine ⟨fun t ht => ?_, List.Pairwise.sublist hs h2⟩
  obtain ⟨c, hc, rfl⟩ := List.mem_map.1 (hs.subset ht)
  exact h1 c hc
theorem tms_len (net hz : Int) (l : List Ch) : (tmL net hz l).length ≤ l.length := by
  have := tm_len net hz l l.length
  rwa [List.take_length] at this
/-- the three ratios that Of tells -/
structure OfV (ts : List Int) (hz : Int) (r m s : Nat) : Prop where
  rt : quoP (fI (ts.length : Int)) (fI hz) r
  mn : quoP (sumF 0 ((gpL ts).map fI)) (fI ((gpL ts).length : Int)) m
  sp : quoP (sqF m 0 ((gpL ts).map fI)) (fI ((gpL ts).length : Int)) s
def leV (ts : List Int) : Nat := leF (infW false) ((gpL ts).map fI)
def moV (ts : List Int) : Nat := moF (infW true) ((gpL ts).map fI)
theorem gaps_pw {ts : List Int} (h : Tms ts) : ∀ x ∈ (gpL ts).map fI, Pw x := by
  intro x hx
  obtain ⟨g, hg, rfl⟩ := List.mem_map.1 hx
  exact fI_pw (gp_rng h g hg).1
/-- a mean is a number where there are times between -/
theorem mean_num {ts : List Int} {m : Nat} (ht : Tms ts) (hl : ts.length ≤ 4398046511000) (h : quoP (sumF 0 ((gpL ts).map fI)) (fI ((gpL ts).length : Int)) m) : gpL ts = [] ∨ nanB m = false := by
  by_cases h0 : (gpL ts).length = 0
  · exact Or.inl (List.eq_nil_of_length_eq_zero h0)
  · right
    obtain ⟨r, e1, e2⟩ := quo_pos (n := (gpL ts).length) (sumF_pos _ 0 Pw_0 (gaps_pw ht)) (by rw [gp_len]; omega) (by omega)
    rcases h with h | h
    · rw [e1] at h
      injection h with h
      subst h
      exact e2.nan
    · rw [e1] at h; cases h.1
theorem mean_len {ts : List Int} (hl : ts.length ≤ 4398046511000) : (gpL ts).length ≤ 4398046511000 := by rw [gp_len]; omega
theorem own_int {w : World} {B n : Nat} {v : Value} {l : List Int} (h : w.ownsRow B 3 1 v n (iC l)) (hn : n = l.length) : IntsAt w v l := by subst hn; exact own_intsV h
theorem cells6f {w : World} {b : Nat} {y0 y1 y2 y3 y4 y5 : Value} {t : TypeId} (h : w.heap[b]? = some (.cells #[y0, y1, y2, y3, y4, y5] t (0, 0))) : w.cell? ⟨b, 0, none⟩ = some y0 ∧ w.cell? ⟨b, 1, none⟩ = some y1 ∧ w.cell? ⟨b, 2, none⟩ = some y2 ∧ w.cell? ⟨b, 3, none⟩ = some y3 ∧ w.cell? ⟨b, 4, none⟩ = some y4 ∧ w.cell? ⟨b, 5, none⟩ = some y5 ∧ ∀ j, w.frozen? ⟨b, j, none⟩ = false :=
  ⟨by rw [Lib.cell_of_heap h]; rfl, by rw [Lib.cell_of_heap h]; rfl, by rw [Lib.cell_of_heap h]; rfl, by rw [Lib.cell_of_heap h]; rfl, by rw [Lib.cell_of_heap h]; rfl, by rw [Lib.cell_of_heap h]; rfl, fun j => Lib.frozen_of_heap h j⟩
end Go.Proofs.Ytiecneefommdlaa

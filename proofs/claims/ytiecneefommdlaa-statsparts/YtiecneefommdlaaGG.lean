/- Layer 20: StatsParts: plain facts, then the law. -/
import Derived.Test.YtiecneefommdlaaGF
namespace Go.Proofs.Ytiecneefommdlaa
set_option maxRecDepth 100000
open Go.RowKit Lg Nl Go.Maps Wf Fl
set_option linter.unusedVariables false
set_option linter.unusedSimpArgs false

theorem filt_sub {α : Type} {p q : α → Bool} (h : ∀ c, p c = true → q c = true) : ∀ l : List α, (l.filter p).Sublist (l.filter q)
  | [] => List.Sublist.refl _
  | c :: l => by
    have ih := filt_sub h l
    cases hp : p c with
    | true =>
      rw [List.filter_cons_of_pos hp, List.filter_cons_of_pos (h c hp)]
      exact ih.cons_cons c
    | false =>
      rw [List.filter_cons_of_neg (by rw [hp]; decide)]
      cases hq : q c with
      | true => rw [List.filter_cons_of_pos hq]; exact ih.cons c
      | false => rw [List.filter_cons_of_neg (by rw [hq]; decide)]; exact ih
theorem tk_all {net hz : Int} {c : Ch} (h : tkB net hz c = true) : tkB (-1) hz c = true := by
  unfold tkB at *
  simp at *
  exact h.1
theorem tm_sub (net hz : Int) (l : List Ch) : (tmL net hz l).Sublist (tmL (-1) hz l) := List.Sublist.map _ (filt_sub (fun c h => tk_all h) l)
theorem tm_more {a b : Int} (h : a ≤ b) (l : List Ch) : (tmL (-1) a l).length ≤ (tmL (-1) b l).length :=
  (List.Sublist.map _ (filt_sub (fun c h' => by unfold tkB at *; simp at *; omega) l)).length_le
/-- changes of the first nets, together -/
def sumC (hz : Int) (l : List Ch) : Nat → Nat
  | 0 => 0
  | n + 1 => sumC hz l n + (tmL (n : Int) hz l).length
theorem sumC_mono (hz : Int) (l : List Ch) {i n : Nat} (h : i ≤ n) : sumC hz l i ≤ sumC hz l n := by
  induction n with
  | zero => have : i = 0 := by omega
            subst this; exact Nat.le_refl _
  | succ n ih =>
    by_cases e : i = n + 1
    · subst e; exact Nat.le_refl _
    · exact Nat.le_trans (ih (by omega)) (Nat.le_add_right _ _)
theorem tm_cons (net hz : Int) (c : Ch) (l : List Ch) : (tmL net hz (c :: l)).length = (tmL net hz l).length + if tkB net hz c = true then 1 else 0 := by
  unfold tmL
  rw [List.filter_cons]
  split <;> simp
theorem sumC_cons (hz : Int) (c : Ch) (l : List Ch) : ∀ n : Nat, sumC hz (c :: l) n = sumC hz l n + if c.t ≤ hz ∧ 0 ≤ c.n ∧ c.n < (n : Int) then 1 else 0
  | 0 => by unfold sumC; rw [if_neg (by omega)]
  | n + 1 => by
    unfold sumC
    rw [sumC_cons hz c l n, tm_cons]
    unfold tkB
    simp only [Bool.and_eq_true, Bool.or_eq_true, decide_eq_true_eq]
    by_cases h1 : c.t ≤ hz ∧ 0 ≤ c.n ∧ c.n < (n : Int)
    · rw [if_pos h1, if_neg (by omega), if_pos (by omega)]; omega
    · rw [if_neg h1]
      by_cases h2 : c.t ≤ hz ∧ ((n : Int) = -1 ∨ (n : Int) = c.n)
      · rw [if_pos h2, if_pos (by omega)]; omega
      · rw [if_neg h2, if_neg (by omega)]; omega
theorem sumC_nil (hz : Int) : ∀ n, sumC hz [] n = 0
  | 0 => rfl
  | n + 1 => by unfold sumC; rw [sumC_nil hz n]; rfl
theorem sumC_all (hz : Int) (n : Nat) : ∀ l : List Ch, (∀ c ∈ l, 0 ≤ c.n ∧ c.n < (n : Int)) → sumC hz l n = (tmL (-1) hz l).length
  | [], _ => sumC_nil hz n
  | c :: l, h => by
    rw [sumC_cons, tm_cons, sumC_all hz n l (fun y hy => h y (List.mem_cons_of_mem _ hy))]
    have hc := h c (List.mem_cons_self ..)
    unfold tkB
    simp only [Bool.and_eq_true, Bool.or_eq_true, decide_eq_true_eq]
    by_cases h1 : c.t ≤ hz
    · rw [if_pos ⟨h1, hc⟩, if_pos ⟨h1, Or.inl trivial⟩]
    · rw [if_neg (fun e => h1 e.1), if_neg (fun e => h1 e.1)]
theorem ls_net (wd : List Int) : ∀ (l : List Ch) (p : Option Ch) (now : List ByteArray), lsB wd p now l = true → ∀ c ∈ l, 0 ≤ c.n ∧ c.n < (now.length : Int)
  | [], _, _, _ => fun c hc => (by cases hc)
  | c :: cs, p, now, h => by
    unfold lsB at h
    simp only [Bool.and_eq_true, decide_eq_true_eq] at h
    obtain ⟨⟨⟨⟨⟨h1, h2⟩, h3⟩, h4⟩, h5⟩, h6⟩ := h
    intro y hy
    rcases List.mem_cons.1 hy with rfl | hy
    · exact ⟨h1.1, h1.2.1⟩
    · have := ls_net wd cs (some c) _ h6 y hy
      rw [List.length_set] at this
      exact this
theorem may_net {x : Wv} (h : mayW x = true) : ∀ c ∈ x.li, 0 ≤ c.n ∧ c.n < (x.nm.length : Int) := by
  unfold mayW at h
  simp only [Bool.and_eq_true] at h
  have h1 := ls_net x.wd x.li none x.fi h.2
  have h2 := h.1.1
  unfold lenB at h2
  have h2 := (of_decide_eq_true h2).2.2
  rw [h2] at h1
  exact h1
namespace Fl
theorem pl_pw {x : Nat} (h : Pw x) : pl x = (x : Int) := by
  unfold pl
  rw [if_neg (by rw [h.nan]; decide), if_pos (by unfold Pw at h; omega)]
theorem ord_ge {x y : Nat} (hx : Pw x) (hy : Pw y) (h : y ≤ x) : 0 ≤ ordI x y := by
  rw [ord_pl (by unfold Pw at hx; omega) (by unfold Pw at hy; omega), pl_pw hx, pl_pw hy, if_neg (by omega)]
  split <;> omega
end Fl
theorem le_spec {ts : List Int} (h : Tms ts) : Pw (leV ts) ∧ leV ts ≤ infW false ∧ (∀ x ∈ (gpL ts).map fI, leV ts ≤ x) ∧ (leV ts = infW false ∨ leV ts ∈ (gpL ts).map fI) := leF_spec _ _ (Nat.le_refl _) (gaps_pw h)
theorem least_le {S T : List Int} (hs : S.Sublist T) (hT : Tms T) (hS : Tms S) : leV T ≤ leV S := by
  obtain ⟨a1, a2, a3, a4⟩ := le_spec hT
  obtain ⟨b1, b2, b3, b4⟩ := le_spec hS
  rcases b4 with e | e
  · rw [e]; exact a2
  · obtain ⟨g, hg, e⟩ := List.mem_map.1 e
    obtain ⟨g', hg', hle⟩ := gp_sub hs hT.so g hg
    rw [← e]
    exact Nat.le_trans (a3 _ (List.mem_map.2 ⟨g', hg', rfl⟩)) (fI_mono (gp_rng hT g' hg').1 hle)
theorem least_ord {x : Wv} (hm : mayW x = true) (net hz : Int) : 0 ≤ ordI (leV (tmL net hz x.li)) (leV (tmL (-1) hz x.li)) :=
  ord_ge (le_spec (tms_of hm net hz)).1 (le_spec (tms_of hm (-1) hz)).1 (least_le (tm_sub net hz x.li) (tms_of hm (-1) hz) (tms_of hm net hz))
theorem least_lt {x : Wv} (hm : mayW x = true) (net hz : Int) : leV (tmL net hz x.li) < 18446744073709551616 := Nat.lt_of_le_of_lt (le_spec (tms_of hm net hz)).1 (by decide)
end Go.Proofs.Ytiecneefommdlaa

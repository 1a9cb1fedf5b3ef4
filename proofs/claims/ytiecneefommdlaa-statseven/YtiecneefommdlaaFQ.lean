/- Layer 20: sums, means, least and greatest ones of floats that are none below 0 (plain). -/
import Derived.Test.YtiecneefommdlaaFP
namespace Go.Proofs.Ytiecneefommdlaa
set_option maxRecDepth 100000
open Go.RowKit Lg Nl Go.Maps Fl
set_option linter.unusedVariables false
set_option linter.unusedSimpArgs false

namespace Fl
open Ieee
/-- a float that is no less than 0, infinity among them -/
def Pw (x : Nat) : Prop := x ≤ 9218868437227405312
theorem word_f (r : Nat) : double.word false r = r := rfl
theorem Pw.cases {x : Nat} (h : Pw x) : (x < 9218868437227405312 ∧ x = double.word false x) ∨ x = 9218868437227405312 := by unfold Pw at h; rcases Nat.lt_or_ge x 9218868437227405312 with k | k; exact Or.inl ⟨k, rfl⟩; exact Or.inr (by omega)
theorem Pw.nan {x : Nat} (h : Pw x) : nanB x = false := word_nan false h
theorem rd_inf0 : rd 9218868437227405312 = .infinity false := rd_inf false
theorem wr_inf0 : double.write (.infinity false) = 9218868437227405312 := wr_inf false
theorem Pw.num {x : Nat} (h : x < 9218868437227405312) : ∃ m i, rd x = .number false m i := by
  obtain ⟨m, i, e, _⟩ := rd_rung false h
  exact ⟨m, i, e⟩
theorem add_pos {x y : Nat} (hx : Pw x) (hy : Pw y) : ∃ r, floatBits .add .f64 x y = some r ∧ Pw r := by
  rcases hx.cases with ⟨h1, e1⟩ | h1
  · rcases hy.cases with ⟨h2, e2⟩ | h2
    · obtain ⟨T, t1, t2⟩ := add_word (s := false) (t := false) h1 h2
      have hs : (if sv false (mg x) + sv false (mg y) = 0 then false && false else decide (sv false (mg x) + sv false (mg y) < 0)) = false := by
        split
        · rfl
        · refine decide_eq_false ?_
          show ¬ ((mg x : Int) + (mg y : Int) < 0)
          omega
      rw [hs] at t1
      exact ⟨T, t1, t2.rg⟩
    · obtain ⟨m, i, e⟩ := Pw.num h1
      rw [add_eq, e, h2, rd_inf0]
      exact ⟨_, rfl, Nat.le_of_eq wr_inf0⟩
  · rw [add_eq, h1, rd_inf0]
    rcases hy.cases with ⟨h2, e2⟩ | h2
    · obtain ⟨m, i, e⟩ := Pw.num h2
      rw [e]
      exact ⟨_, rfl, Nat.le_of_eq wr_inf0⟩
    · rw [h2, rd_inf0]
      exact ⟨_, rfl, Nat.le_of_eq wr_inf0⟩
theorem fI_num {k : Int} (h1 : -9223372036854775808 ≤ k) (h2 : k ≤ 9223372036854775807) : ∃ s m i, rd (fI k) = .number s m i := by
  rcases fI_cl h1 h2 with ⟨s, e⟩ | ⟨s, m, i, e, _⟩
  · exact ⟨s, 0, lp, e⟩
  · exact ⟨s, m, i, e⟩
theorem sub_ok {k : Int} {y : Nat} (h1 : -9223372036854775808 ≤ k) (h2 : k ≤ 9223372036854775807) (hy : nanB y = false) : ∃ r, floatBits .sub .f64 (fI k) y = some r ∧ nanB r = false := by
  obtain ⟨s, m, i, e⟩ := fI_num h1 h2
  rw [sub_eq, e]
  rcases not_nan hy with ⟨t, n, j, e2⟩ | ⟨t, e2⟩
  · rw [e2]
    exact ⟨_, rfl, write_nan _ rfl⟩
  · rw [e2]
    exact ⟨_, rfl, write_nan _ rfl⟩
theorem mul_self {x : Nat} (hx : nanB x = false) : ∃ r, floatBits .mul .f64 x x = some r ∧ Pw r := by
  rw [mul_eq]
  rcases not_nan hx with ⟨t, n, j, e2⟩ | ⟨t, e2⟩
  · rw [e2]
    obtain ⟨R, h1, h2⟩ := near_word (n * n) (j + j)
    refine ⟨R, ?_, h1⟩
    show some (double.nearest (t ^^ t) (n * n) (j + j)) = _
    rw [Bool.xor_self, h2]; rfl
  · rw [e2]
    refine ⟨9218868437227405312, ?_, Nat.le_refl _⟩
    show some (double.write (.infinity (t ^^ t))) = _
    rw [Bool.xor_self, wr_inf0]
theorem quo_pos {x n : Nat} (hx : Pw x) (hn : n < 9007199254740992) (h0 : 0 < n) : ∃ r, floatBits .quo .f64 x (fI (n : Int)) = some r ∧ Pw r := by
  obtain ⟨S, s1, s2, s3⟩ := fI_x (k := (n : Int)) (by rw [Int.natAbs_natCast]; exact hn)
  rw [show decide ((n : Int) < 0) = false from decide_eq_false (by omega)] at s1
  rw [Int.natAbs_natCast] at s3
  have s0 : S ≠ 0 := by
    intro e
    rw [e, mg_zero] at s3
    exact absurd s3.symm (Nat.ne_of_gt (Nat.mul_pos h0 un_pos))
  rw [s1]
  rcases hx.cases with ⟨h1, e1⟩ | h1
  · obtain ⟨T, t1, t2⟩ := quo_word (s := false) (t := false) h1 s2 s0
    refine ⟨T, t1, ?_⟩
    have h53 := t2 (mg x * un) (mg S) (Nat.pos_of_ne_zero fun e => by
      rw [e] at s3
      exact absurd s3.symm (Nat.ne_of_gt (Nat.mul_pos h0 un_pos))) rfl
    exact h53.rg
  · rw [div_eq, h1, rd_inf0]
    obtain ⟨m, i, e⟩ := Pw.num s2
    rw [word_f, e]
    exact ⟨_, rfl, Nat.le_of_eq wr_inf0⟩
theorem fI_pw {k : Int} (h : 0 ≤ k) : Pw (fI k) := by
  obtain ⟨R, h1, h2⟩ := fI_w k
  rw [show decide (k < 0) = false from decide_eq_false (by omega)] at h1
  rw [h1]
  exact h2.rg
theorem fI_mono {a b : Int} (ha : 0 ≤ a) (h : a ≤ b) : fI a ≤ fI b := by
  obtain ⟨R, r1, r2⟩ := fI_w a
  obtain ⟨S, s1, s2⟩ := fI_w b
  rw [show decide (a < 0) = false from decide_eq_false (by omega)] at r1
  rw [show decide (b < 0) = false from decide_eq_false (by omega)] at s1
  rw [r1, s1]
  exact r2.mono (by decide) (by decide) s2 (by
    rw [Nat.mul_one, Nat.mul_one]
    exact Nat.mul_le_mul_right un (by omega))
theorem fI_0 : fI 0 = 0 := by
  obtain ⟨R, r1, r2, r3⟩ := fI_x (k := 0) (by decide)
  rw [r1]
  show R = 0
  rcases Nat.eq_zero_or_pos R with h | h
  · exact h
  · have := mg_lt h
    rw [mg_zero, r3] at this
    simp at this
/-- a float less itself -/
theorem sub_self {k : Int} (h1 : -9223372036854775808 ≤ k) (h2 : k ≤ 9223372036854775807) : floatBits .sub .f64 (fI k) (fI k) = some 0 := by
  obtain ⟨s, m, i, e⟩ := fI_num h1 h2
  rw [sub_eq, e]
  show (Datum.sum (.number s m i) (.number (!s) m i)).map double.write = _
  rw [sum_nn]
  have hz : signed s m (i - min i i).toNat + signed (!s) m (i - min i i).toNat = 0 := by
    unfold signed
    cases s
    · simp; omega
    · simp; omega
  rw [hz, if_pos rfl, show (s && !s) = false by cases s <;> rfl]
  show some (double.nearest false 0 _) = _
  unfold Format.nearest
  rw [if_pos rfl]; rfl
/-- how two such floats stand -/
theorem ord_pos {x y : Nat} (hx : Pw x) (hy : Pw y) : FloatKind.f64.format.order x y = some (compare x y) := by
  rw [ord_eq]
  obtain ⟨a1, a2, a3⟩ := trip false hx
  obtain ⟨b1, b2, b3⟩ := trip false hy
  rw [word_f] at a1 a2 b1 b2
  have m1 : x ≤ y → mg x ≤ mg y := mg_le
  have m2 : y ≤ x → mg y ≤ mg x := mg_le
  have m3 : x < y → mg x < mg y := mg_lt
  have m4 : y < x → mg y < mg x := mg_lt
  simp only [Bool.false_eq_true, if_false] at a1 a2 b1 b2
  have hx' := hx.nan
  have hy' := hy.nan
  unfold Pw at hx hy
  rcases ord_cases hx' hy' with ⟨h1, h2⟩ | ⟨h1, h2, h3⟩ | ⟨h1, h2⟩
  · rw [h1]
    have : x < y := by
      rw [a1, a2, b1, b2] at h2
      clear a1 a2 b1 b2 a3 b3
      generalize mg x = M at *
      generalize mg y = V at *
      (repeat' split at h2) <;> omega
    rw [Nat.compare_eq_lt.2 this]
  · rw [h1]
    have : x = y := by
      rw [a1, b1] at h2
      rw [a2, b2] at h3
      clear a1 a2 b1 b2 a3 b3
      generalize mg x = M at *
      generalize mg y = V at *
      (repeat' split at h2) <;> (repeat' split at h3) <;> omega
    rw [Nat.compare_eq_eq.2 this]
  · rw [h1]
    have : y < x := by
      rw [a1, a2, b1, b2] at h2
      clear a1 a2 b1 b2 a3 b3
      generalize mg x = M at *
      generalize mg y = V at *
      (repeat' split at h2) <;> omega
    rw [Nat.compare_eq_gt.2 this]
theorem ord_ninf {x : Nat} (hx : Pw x) : FloatKind.f64.format.order x (infW true) = some .gt ∧ FloatKind.f64.format.order (infW true) x = some .lt := by
  rw [ord_eq, ord_eq, rd_inf]
  rcases not_nan hx.nan with ⟨t, n, j, e2⟩ | ⟨t, e2⟩
  · rw [e2]; exact ⟨rfl, rfl⟩
  · rcases hx.cases with ⟨h1, _⟩ | h1
    · obtain ⟨m, i, e⟩ := Pw.num h1
      rw [e] at e2; cases e2
    · rw [h1, rd_inf0]; exact ⟨rfl, rfl⟩
/-- from the first to the last -/
def sumF (a : Nat) (l : List Nat) : Nat := l.foldl (fun a x => (floatBits .add .f64 a x).getD 0) a
def farF (x mean : Nat) : Nat := (floatBits .sub .f64 x mean).getD 0
def sqrF (x mean : Nat) : Nat := (floatBits .mul .f64 (farF x mean) (farF x mean)).getD 0
def sqF (mean a : Nat) (l : List Nat) : Nat := l.foldl (fun a x => (floatBits .add .f64 a (sqrF x mean)).getD 0) a
def leF (a : Nat) (l : List Nat) : Nat := l.foldl (fun a x => if FloatKind.f64.format.order x a == some .lt then x else a) a
def moF (a : Nat) (l : List Nat) : Nat := l.foldl (fun a x => if FloatKind.f64.format.order x a == some .gt then x else a) a
/-- times between -/
def gpL : List Int → List Int
  | a :: b :: r => (b - a) :: gpL (b :: r)
  | _ => []
/-- the times may be: from 0 up, none less than the one ahead -/
structure Tms (l : List Int) : Prop where
  rg : ∀ t ∈ l, 0 ≤ t ∧ t ≤ 4611686018427387903
  so : l.Pairwise (· ≤ ·)
theorem gp_rng : ∀ {l : List Int}, Tms l → ∀ g ∈ gpL l, 0 ≤ g ∧ g ≤ 4611686018427387903
  | [], _, g, hg => by cases hg
  | [a], _, g, hg => by cases hg
  | a :: b :: r, h, g, hg => by
    have hb := h.rg b (by simp)
    have ha := h.rg a (by simp)
    have hab : a ≤ b := (List.pairwise_cons.1 h.so).1 b (by simp)
    rcases List.mem_cons.1 hg with e | e
    · subst e; omega
    · exact gp_rng ⟨fun t ht => h.rg t (List.mem_cons_of_mem _ ht), (List.pairwise_cons.1 h.so).2⟩ g e
theorem gp_len : ∀ l : List Int, (gpL l).length = l.length - 1
  | [] => rfl
  | [a] => rfl
  | a :: b :: r => by
    show (gpL (b :: r)).length + 1 = _
    rw [gp_len (b :: r)]
    simp
theorem gp_sub {S T : List Int} (h : S.Sublist T) (so : T.Pairwise (· ≤ ·)) : ∀ g ∈ gpL S, ∃ g' ∈ gpL T, g' ≤ g := by
  have tl : ∀ (a : Int) (T : List Int) (g : Int), g ∈ gpL T → g ∈ gpL (a :: T) := fun a T g hg => by
    cases T with
    | nil => cases hg
    | cons b r => exact List.mem_cons_of_mem _ hg
  induction h with
  | slnil => intro g hg; cases hg
  | cons a h ih =>
    intro g hg
    obtain ⟨g', h1, h2⟩ := ih (List.pairwise_cons.1 so).2 g hg
    exact ⟨g', tl _ _ _ h1, h2⟩
  | cons_cons a h ih =>
    rename_i S' T'
    intro g hg
    cases S' with
    | nil => cases hg
    | cons b r =>
      rcases List.mem_cons.1 hg with e | e
      · cases T' with
        | nil => cases h
        | cons c r' =>
          have hb : b ∈ c :: r' := h.subset (by simp)
          have hcb : c ≤ b := by
            rcases List.mem_cons.1 hb with e2 | e2
            · omega
            · exact (List.pairwise_cons.1 (List.pairwise_cons.1 so).2).1 b e2
          exact ⟨c - a, by show c - a ∈ (c - a) :: _; simp, by omega⟩
      · obtain ⟨g', h1, h2⟩ := ih (List.pairwise_cons.1 so).2 g e
        exact ⟨g', tl _ _ _ h1, h2⟩
theorem sumF_pos : ∀ (l : List Nat) (a : Nat), Pw a → (∀ x ∈ l, Pw x) → Pw (sumF a l)
  | [], a, ha, _ => ha
  | x :: l, a, ha, hl => by
    obtain ⟨r, h1, h2⟩ := add_pos ha (hl x (by simp))
    show Pw (sumF ((floatBits .add .f64 a x).getD 0) l)
    rw [h1]
    exact sumF_pos l r h2 fun y hy => hl y (by simp [hy])
theorem sqr_pos {g : Int} {mean : Nat} (h0 : 0 ≤ g) (h1 : g ≤ 4611686018427387903) (hm : nanB mean = false) : ∃ f q, floatBits .sub .f64 (fI g) mean = some f ∧ floatBits .mul .f64 f f = some q ∧ sqrF (fI g) mean = q ∧ Pw q := by
  obtain ⟨f, f1, f2⟩ := sub_ok (k := g) (y := mean) (by omega) (by omega) hm
  obtain ⟨q, q1, q2⟩ := mul_self f2
  exact ⟨f, q, f1, q1, by unfold sqrF farF; rw [f1]; show (floatBits .mul .f64 f f).getD 0 = _; rw [q1]; rfl, q2⟩
theorem leF_spec : ∀ (l : List Nat) (a : Nat), Pw a → (∀ x ∈ l, Pw x) → Pw (leF a l) ∧ leF a l ≤ a ∧ (∀ x ∈ l, leF a l ≤ x) ∧ (leF a l = a ∨ leF a l ∈ l)
  | [], a, ha, _ => ⟨ha, Nat.le_refl _, fun x hx => (by cases hx), Or.inl rfl⟩
  | x :: l, a, ha, hl => by
    have hx := hl x (by simp)
    show Pw (leF (if FloatKind.f64.format.order x a == some .lt then x else a) l) ∧ leF (if FloatKind.f64.format.order x a == some .lt then x else a) l ≤ a ∧ (∀ y ∈ x :: l, leF (if FloatKind.f64.format.order x a == some .lt then x else a) l ≤ y) ∧ (leF (if FloatKind.f64.format.order x a == some .lt then x else a) l = a ∨ leF (if FloatKind.f64.format.order x a == some .lt then x else a) l ∈ x :: l)
    rw [ord_pos hx ha]
    by_cases h : x < a
    · rw [Nat.compare_eq_lt.2 h, if_pos (by decide)]
      obtain ⟨h1, h2, h3, h4⟩ := leF_spec l x hx fun y hy => hl y (by simp [hy])
      refine ⟨h1, by omega, fun y hy => ?_, Or.inr ?_⟩
      · rcases List.mem_cons.1 hy with e | e
        · rw [e]; exact h2
        · exact h3 y e
      · rcases h4 with e | e
        · rw [e]; simp
        · exact List.mem_cons_of_mem _ e
    · have hc : (some (compare x a) == some Ordering.lt) = false := by
        rcases Nat.lt_or_eq_of_le (Nat.le_of_not_lt h) with e | e
        · rw [Nat.compare_eq_gt.2 e]; decide
        · rw [Nat.compare_eq_eq.2 e.symm]; decide
      rw [hc, if_neg (by decide)]
      obtain ⟨h1, h2, h3, h4⟩ := leF_spec l a ha fun y hy => hl y (by simp [hy])
      refine ⟨h1, h2, fun y hy => ?_, ?_⟩
      · rcases List.mem_cons.1 hy with e | e
        · rw [e]; omega
        · exact h3 y e
      · rcases h4 with e | e
        · exact Or.inl e
        · exact Or.inr (List.mem_cons_of_mem _ e)
end Fl
end Go.Proofs.Ytiecneefommdlaa

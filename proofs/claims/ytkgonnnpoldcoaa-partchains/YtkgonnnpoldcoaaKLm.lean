/- LevelOrders, walked, over what Made tells. -/
import Derived.Test.YtkgonnnpoldcoaaGLb
import Derived.Test.YtkgonnnpoldcoaaGKh
namespace Go.Proofs.Ytkgonnnpoldcoaa
open Go.RowKit Lg Nl Go.Maps
set_option linter.unusedVariables false
set_option linter.unusedSimpArgs false

/-- what Made tells -/
def MadeC : Prop := ∀ (vG : Value) (m : Nat) (F : Nat → Nat → Int) (w : World), GsAt w w.heap.size vG m F → m ≤ 17592186044416 →
    Calls Try.prog 8 #[vG] w fun e w' => ∃ l nets vN vT, e = .returned (.agg #[vN, vT, .int .i64 ((nets : List Int).length : Nat)]) ∧ Hid (NdsAt w' vN l) ∧ Hid (IntsAt w' vT nets) ∧ Hid (Mk l) ∧ Hid (l.length ≤ 122 ∧ nets.length ≤ 6) ∧ Hid (mayN l nets nets.length = true) ∧ Below w.heap.size w w'
/-- the greatest of some numbers -/
def mostL (lv : Nat → Int) (hs : List Int) : Int := hs.foldl (fun a h => max a (lv h.toNat)) (-1)
theorem mostL_snoc (lv : Nat → Int) (hs : List Int) (h : Int) : mostL lv (hs ++ [h]) = max (mostL lv hs) (lv h.toNat) := by simp [mostL]
theorem most_from (lv : Nat → Int) : ∀ (hs : List Int) (a : Int), a ≤ hs.foldl (fun a h => max a (lv h.toNat)) a ∧ (∀ h ∈ hs, lv h.toNat ≤ hs.foldl (fun a h => max a (lv h.toNat)) a) ∧ (hs.foldl (fun a h => max a (lv h.toNat)) a = a ∨ ∃ h ∈ hs, hs.foldl (fun a h => max a (lv h.toNat)) a = lv h.toNat)
  | [], a => ⟨Int.le_refl _, by simp, Or.inl rfl⟩
  | x :: r, a => by
    obtain ⟨p, q, s⟩ := most_from lv r (max a (lv x.toNat))
    rw [List.foldl_cons]
    refine ⟨by omega, fun h hh => ?_, ?_⟩
    · rcases List.mem_cons.1 hh with rfl | hh
      · omega
      · exact q h hh
    · rcases s with s | ⟨h, hh, s⟩
      · by_cases e : lv x.toNat ≤ a
        · left; rw [s]; omega
        · right; exact ⟨x, List.mem_cons_self .., by rw [s]; omega⟩
      · right; exact ⟨h, List.mem_cons_of_mem _ hh, s⟩
theorem lev_most {l : List Nd} (hk : Ok l) {lv : Nat → Int} (h : Lev l lv) {i : Nat} (hi : i < l.length) : lv i = mostL lv (hangL l[i]) + 1 := by
  obtain ⟨p, q, s⟩ := most_from lv (hangL l[i]) (-1)
  have e : ndAt l i = l[i] := ndAt_eq hi
  have up : ∀ y ∈ hangL l[i], lv y.toNat + 1 ≤ lv i := fun y hy => h.up i hi _ (by rw [e]; exact List.mem_map.2 ⟨y, hy, rfl⟩)
  have lo : ∀ y ∈ hangL l[i], 0 ≤ lv y.toNat := fun y hy => by
    have := hang_mem hk (List.getElem_mem hi) y hy
    simp [inB] at this
    exact h.lo _ (by omega)
  have hl := h.lo i hi
  show lv i = (hangL l[i]).foldl (fun a h => max a (lv h.toNat)) (-1) + 1
  rcases h.ti i hi with h0 | ⟨z, hz, e2⟩
  · rcases s with s | ⟨y, hy, s⟩
    · omega
    · have := up y hy; have := lo y hy; omega
  · rw [e] at hz
    obtain ⟨y, hy, rfl⟩ := List.mem_map.1 hz
    have := q y hy
    rcases s with s | ⟨y', hy', s⟩
    · have := lo y hy; omega
    · have := up y' hy'; omega
theorem most_bd {lv : Nat → Int} {hs : List Int} (h : ∀ y ∈ hs, 0 ≤ lv y.toNat ∧ lv y.toNat ≤ 122) : -1 ≤ mostL lv hs ∧ mostL lv hs ≤ 122 := by
  obtain ⟨p, _, s⟩ := most_from lv hs (-1)
  refine ⟨p, ?_⟩
  show hs.foldl (fun a h => max a (lv h.toNat)) (-1) ≤ 122
  rcases s with s | ⟨y, hy, s⟩
  · omega
  · have := (h y hy).2; omega
theorem may_vl {l : List Nd} {nets : List Int} {pt : Int} (h : mayN l nets pt = true) : ∀ x ∈ l, x.vl.length ≤ 256 := by
  intro x hx
  unfold mayN at h
  rw [Bool.and_eq_true, Bool.and_eq_true, Bool.and_eq_true, decide_eq_true_iff, List.all_eq_true, List.all_eq_true] at h
  have h2 := h.1.1.2 x hx
  have h4 := h.2 x hx
  rw [shape_parts, Bool.and_eq_true, Bool.and_eq_true] at h2
  have hz := h2.1.2
  by_cases hk : x.k = 1
  · unfold nodeB at h4
    rw [if_pos hk] at h4
    simp [vec] at h4
    omega
  · have : x.vl = [] := by simp [zeroB, hk] at hz; exact hz.1.1.2
    rw [this]; simp
theorem may_fits {l : List Nd} {nets : List Int} {pt : Int} (h : mayN l nets pt = true) (hn : nets.length ≤ 1000) : Fits l nets := by
  have hok := may_ok h
  exact ⟨by have := hok.n; omega, by omega, fun x hx => by have := hok.q x hx; omega, fun x hx => by have := may_vl h x hx; omega⟩
end Go.Proofs.Ytkgonnnpoldcoaa

/- Layer 7: the sources of SemaScopes, as the reference's parser and the program's checker take them. -/
import Derived.Test.YtpnhefjiobnelaaGTf
namespace Rp
open Go Lg
/-- no always -/
def alN : List Dc → Asc → Asc → List (Asc × Asc) → Nat → Rs := fun _ _ _ _ _ => none
/-- a source's tokens, the end last -/
def lxT (s : List UInt8) (a : List Tok) : List Tok := a ++ [⟨6, [], s.length⟩]
/-- a source of one module: whether it comes to a reason, or to none -/
def ckG (AL : List Dc → Asc → Asc → List (Asc × Asc) → Nat → Rs) (s : List UInt8) (F : Nat) (want : Option (Int × Int)) : Bool := match lexF (s.length + 1) 0 s false 0 with
  | none => false
  | some a => decide (s.length ≤ 65536) && (lxT s a).all (fun t => decide (t.k ≠ 4 ∧ t.k ≠ 5 ∧ t.x.length ≤ 100000)) && decide ((lxT s a).length ≤ 100000) &&
    (match sM (lxT s a) F 0 with
     | some (x, k') => decide ((tk (lxT s a) k').k = 6) && (match ckM AL F x with | some (.inr _) => want.isNone | some (.inl q) => decide (want = some q) | none => false)
     | none => false)
def ckS (s : List UInt8) (F : Nat) (want : Option (Int × Int)) : Bool := ckG alN s F want
def scH : List UInt8 := [109, 111, 100, 117, 108, 101, 32, 109, 40, 105, 110, 112, 117, 116, 32, 97, 44, 32, 111, 117, 116, 112, 117, 116, 32, 120, 41, 59, 32, 97, 115, 115, 105, 103, 110, 32, 120, 32, 61, 32, 97, 59, 32]
def scF : List UInt8 := [102, 111, 114, 32, 40, 105, 32, 61, 32, 48, 59, 32, 105, 32, 60, 32, 50, 59, 32, 105, 32, 61, 32, 105, 32, 43, 32, 49, 41, 32, 98, 101, 103, 105, 110, 32, 58, 32, 103, 32, 119, 105, 114, 101, 32, 120, 59, 32, 97, 115, 115, 105, 103, 110, 32, 120, 32, 61, 32, 97, 59, 32]
def scE : List UInt8 := [101, 110, 100, 32]
def scM : List UInt8 := [101, 110, 100, 109, 111, 100, 117, 108, 101]
def scA : List UInt8 := [97, 115, 115, 105, 103, 110, 32, 120, 32, 61, 32, 97, 59, 32, 101, 110, 100, 109, 111, 100, 117, 108, 101]
def rpL (n : Nat) (x : List UInt8) : List UInt8 := match n with
  | 0 => []
  | n + 1 => x ++ rpL n x
def scS (n : Nat) : List UInt8 := scH ++ rpL n scF ++ rpL n scE
set_option maxRecDepth 100000 in
theorem ckG_ok {AL : List Dc → Asc → Asc → List (Asc × Asc) → Nat → Rs} {s : List UInt8} {F : Nat} {want : Option (Int × Int)} (h : ckG AL s F want = true) : ∃ l x k' r, lexL s = .toks l ∧ (∀ k, (tk l k).x.length ≤ 100000) ∧ sM l F 0 = some (x, k') ∧ (tk l k').k = 6 ∧ l.length ≤ 100000 ∧ 0 < l.length ∧ (tk l (l.length - 1)).k = 6 ∧ (∀ i, (tk l i).k ≠ 4 ∧ (tk l i).k ≠ 5) ∧ ckM AL F x = some r ∧ s.length ≤ 65536 ∧ (match r with | .inr _ => want = none | .inl q => want = some q) := by
  unfold ckG at h
  cases h1 : lexF (s.length + 1) 0 s false 0 with
  | none => rw [h1] at h; cases h
  | some a =>
    rw [h1] at h
    simp only [Bool.and_eq_true, decide_eq_true_eq] at h
    obtain ⟨⟨⟨h2, h3⟩, h4⟩, h5⟩ := h
    have hl := lexL_of (lexF_ok _ _ _ _ _ _ h1) h2
    have h6 : ∀ i, (tk (lxT s a) i).k ≠ 4 ∧ (tk (lxT s a) i).k ≠ 5 ∧ (tk (lxT s a) i).x.length ≤ 100000 := by
      intro i
      unfold tk
      rw [List.getD_eq_getElem?_getD]
      cases h7 : (lxT s a)[i]? with
      | none => exact ⟨by decide, by decide, by decide⟩
      | some t =>
        have hm := List.mem_of_getElem? h7
        have := List.all_eq_true.1 h3 t hm
        exact of_decide_eq_true this
    cases h8 : sM (lxT s a) F 0 with
    | none => rw [h8] at h5; cases h5
    | some y =>
      obtain ⟨x, k'⟩ := y
      rw [h8] at h5
      simp only [Bool.and_eq_true, decide_eq_true_eq] at h5
      obtain ⟨h9, h10⟩ := h5
      cases h11 : ckM AL F x with
      | none => rw [h11] at h10; cases h10
      | some r =>
        rw [h11] at h10
        refine ⟨lxT s a, x, k', r, hl, fun k => (h6 k).2.2, h8, h9, h4, by unfold lxT; simp, ?_, fun i => ⟨(h6 i).1, (h6 i).2.1⟩, h11, h2, ?_⟩
        · unfold lxT tk; simp [List.getD_eq_getElem?_getD]
        · cases r with
          | inr d => cases want with | none => rfl | some q => cases h10
          | inl q => exact of_decide_eq_true h10
end Rp

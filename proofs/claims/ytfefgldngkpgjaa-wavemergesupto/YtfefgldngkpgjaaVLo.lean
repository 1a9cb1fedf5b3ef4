/- Layer 18: what is sorted is what the document merges. -/
import Derived.Test.YtfefgldngkpgjaaVLm
import Derived.Test.YtfefgldngkpgjaaVLn
import Derived.Test.YtfefgldngkpgjaaVLl
import Derived.Test.YtfefgldngkpgjaaVW
namespace Go.Proofs.Ytfefgldngkpgjaa
set_option maxRecDepth 100000
open Go.RowKit Lg Nl Go.Maps Wf Go.Shelf
set_option linter.unusedVariables false
set_option linter.unusedSimpArgs false

theorem ins_perm (c : Ch) : ∀ l : List Ch, (insL c l).Perm (c :: l)
  | [] => List.Perm.refl _
  | o :: os => by
    unfold insL
    split
    · exact List.Perm.refl _
    · exact ((ins_perm c os).cons o).trans (List.Perm.swap c o os)
theorem mrg_perm : ∀ (cs l : List Ch), (mrgL l cs).Perm (l ++ cs)
  | [], l => by show l.Perm (l ++ []); rw [List.append_nil]
  | c :: cs, l => by
    show (mrgL (insL c l) cs).Perm _
    refine (mrg_perm cs (insL c l)).trans ?_
    refine ((ins_perm c l).append_right cs).trans ?_
    exact (List.perm_middle (a := c) (l₁ := l) (l₂ := cs)).symm
theorem merge_perm (ps : List (List Ch)) : (mergeL ps).Perm ps.flatten := mrg_perm ps.flatten []
def Cmp2 (a b : Ch) : Prop := ahB a b = true ∨ ahB b a = true
theorem cmp2_symm {a b : Ch} (h : Cmp2 a b) : Cmp2 b a := h.symm
theorem perm_cmp {a b : List Ch} (h : a.Perm b) (hp : a.Pairwise Cmp2) : b.Pairwise Cmp2 := (h.pairwise_iff (fun h => cmp2_symm h)).1 hp
theorem srt_cmp {l : List Ch} (h : Srt l) : l.Pairwise Cmp2 := List.Pairwise.imp (fun h => Or.inl h) h
theorem sorted_srt : ∀ {l : List Ch}, l.Pairwise Cmp2 → l.Pairwise (fun a b => ahB b a = false) → Srt l
  | [], _, _ => List.Pairwise.nil
  | x :: l, h1, h2 => by
    have a1 := List.pairwise_cons.1 h1
    have a2 := List.pairwise_cons.1 h2
    refine List.pairwise_cons.2 ⟨fun y hy => ?_, sorted_srt a1.2 a2.2⟩
    rcases a1.1 y hy with h | h
    · exact h
    · rw [a2.1 y hy] at h; cases h
theorem merged_srt {ps : List (List Ch)} (h : ps.flatten.Pairwise Cmp2) : Srt (mergeL ps) :=
  mrg_srt ps.flatten [] List.Pairwise.nil (fun c _ o ho => by cases ho) h
theorem may_srt {x : Wv} {l : List Ch} (h : mayW (withL x l) = true) : Srt l := (ls_srt x.wd l none x.fi (may_parts h).2.2).1
/-- a sorted row of all that is to be merged: it may be just where the document's may, and then it is that -/
theorem merge_sorted (x : Wv) (ps : List (List Ch)) (l : List Ch) (hp : l.Perm ps.flatten) (hs : l.Pairwise fun a b => ahB b a = false) :
    mayW (withL x l) = mayW (withL x (mergeL ps)) ∧ (mayW (withL x l) = true → l = mergeL ps) := by
  have hm : ∀ y, y ∈ l ↔ y ∈ mergeL ps := fun y => by rw [hp.mem_iff, (merge_perm ps).mem_iff]
  have k1 : mayW (withL x l) = true → l = mergeL ps := fun h =>
    srt_eq _ _ (may_srt h) (merged_srt (perm_cmp hp (srt_cmp (may_srt h)))) hm
  have k2 : mayW (withL x (mergeL ps)) = true → l = mergeL ps := fun h =>
    srt_eq _ _ (sorted_srt (perm_cmp ((merge_perm ps).trans hp.symm) (srt_cmp (may_srt h))) hs) (may_srt h) hm
  refine ⟨?_, k1⟩
  cases h1 : mayW (withL x l)
  · cases h2 : mayW (withL x (mergeL ps))
    · rfl
    · rw [k2 h2, h2] at h1; cases h1
  · rw [← k1 h1, h1]
theorem sort_any (B n c : Nat) (a : Option Addr) (l : List Ch) (W : World) (h : W.ownsRow B 46 3 (.slice a n c) n (chs l)) (hn : n = l.length) (hb : n ≤ 4398046511000) :
    Calls Try.prog 35 #[.slice a n c, .func (.func 36) #[] #[]] W fun e w' => e = .returned (.tuple #[]) ∧ ∃ l' : List Ch, l'.length = l.length ∧ Hid (l'.Perm l) ∧ Hid (l'.Pairwise fun a b => ahB b a = false) ∧ Hid (w'.ownsRow B 46 3 (.slice a n c) n (chs l')) ∧ Hid (W.grownBy w' (Value.slice a n c).ownBlock) := by
  have hw := h
  rcases h.2 with ⟨e1, e2⟩ | ⟨g, cap, cur, e1, _⟩
  · injection e1 with e1 e3 e4
    subst e1 e2 e4
    have hl : l = [] := List.eq_nil_of_length_eq_zero hn.symm
    subst hl
    refine (AnyF.slices_SortFunc_none Try.sortF none 0 _ W).mono ?_
    rintro e w' ⟨rfl, rfl⟩
    exact ⟨rfl, [], rfl, List.Perm.refl _, List.Pairwise.nil, hw, ⟨rfl, rfl, rfl, Nat.le_refl _, fun _ _ _ => rfl⟩⟩
  · injection e1 with e1 e3 e4
    subst e1
    exact sort_row B g n c l W hw hn hb
end Go.Proofs.Ytfefgldngkpgjaa

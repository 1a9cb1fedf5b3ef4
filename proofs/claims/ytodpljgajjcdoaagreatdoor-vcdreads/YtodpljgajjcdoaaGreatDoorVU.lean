/- Layer 18: what is merged, plain. -/
import Derived.Test.YtodpljgajjcdoaaGreatDoorVR
namespace Go.Proofs.YtodpljgajjcdoaaGreatDoor
set_option maxRecDepth 100000
open Go.RowKit Lg Nl Go.Maps Wf
set_option linter.unusedVariables false
set_option linter.unusedSimpArgs false

/-- a change is put behind all that do not stand behind it -/
def insL (c : Ch) : List Ch → List Ch
  | [] => [c]
  | o :: os => if ahB c o then c :: o :: os else o :: insL c os
def mrgL (l : List Ch) (cs : List Ch) : List Ch := cs.foldl (fun l c => insL c l) l
def mergeL (ps : List (List Ch)) : List Ch := mrgL [] ps.flatten
theorem ah_iff (a b : Ch) : ahB a b = true ↔ (a.t < b.t ∨ a.t = b.t ∧ a.n < b.n) := by unfold ahB; rw [decide_eq_true_iff]
theorem ah_trans {a b c : Ch} (h : ahB a b = true) (k : ahB b c = true) : ahB a c = true := by rw [ah_iff] at *; omega
theorem ah_not {a b : Ch} (h : ahB a b = true) : ahB b a = false := by
  cases e : ahB b a with
  | false => rfl
  | true => rw [ah_iff] at *; omega
theorem ah_irr (a : Ch) : ahB a a = false := by
  cases e : ahB a a with
  | false => rfl
  | true => rw [ah_iff] at *; omega
def Srt (l : List Ch) : Prop := l.Pairwise fun a b => ahB a b = true
theorem ins_mem (c : Ch) : ∀ (l : List Ch) (x : Ch), x ∈ insL c l ↔ x = c ∨ x ∈ l
  | [], x => by simp [insL]
  | o :: os, x => by
    unfold insL
    split
    · simp
    · rw [List.mem_cons, ins_mem c os x, List.mem_cons]
      constructor
      · rintro (h | h | h)
        · exact Or.inr (Or.inl h)
        · exact Or.inl h
        · exact Or.inr (Or.inr h)
      · rintro (h | h | h)
        · exact Or.inr (Or.inl h)
        · exact Or.inl h
        · exact Or.inr (Or.inr h)
theorem ins_len (c : Ch) : ∀ l : List Ch, (insL c l).length = l.length + 1
  | [] => rfl
  | o :: os => by
    unfold insL
    split
    · rfl
    · rw [List.length_cons, ins_len c os]; rfl
theorem ins_srt (c : Ch) : ∀ l : List Ch, Srt l → (∀ o ∈ l, ahB c o = true ∨ ahB o c = true) → Srt (insL c l)
  | [], _, _ => by unfold insL Srt; exact List.pairwise_singleton _ _
  | o :: os, h, hd => by
    have h' := List.pairwise_cons.1 h
    unfold insL
    by_cases e : ahB c o = true
    · rw [if_pos e]
      refine List.pairwise_cons.2 ⟨fun x hx => ?_, h⟩
      rcases List.mem_cons.1 hx with rfl | hx
      · exact e
      · exact ah_trans e (h'.1 x hx)
    · rw [if_neg e]
      have e2 : ahB o c = true := (hd o (List.mem_cons_self ..)).resolve_left e
      refine List.pairwise_cons.2 ⟨fun x hx => ?_, ins_srt c os h'.2 fun y hy => hd y (List.mem_cons_of_mem _ hy)⟩
      rcases (ins_mem c os x).1 hx with rfl | hx
      · exact e2
      · exact h'.1 x hx
theorem mrg_mem : ∀ (cs l : List Ch) (x : Ch), x ∈ mrgL l cs ↔ x ∈ l ∨ x ∈ cs
  | [], l, x => by simp [mrgL]
  | c :: cs, l, x => by
    show x ∈ mrgL (insL c l) cs ↔ _
    rw [mrg_mem cs (insL c l) x, ins_mem, List.mem_cons]
    constructor
    · rintro ((h | h) | h)
      · exact Or.inr (Or.inl h)
      · exact Or.inl h
      · exact Or.inr (Or.inr h)
    · rintro (h | h | h)
      · exact Or.inl (Or.inr h)
      · exact Or.inl (Or.inl h)
      · exact Or.inr h
theorem mrg_len : ∀ (cs l : List Ch), (mrgL l cs).length = l.length + cs.length
  | [], l => rfl
  | c :: cs, l => by
    show (mrgL (insL c l) cs).length = _
    rw [mrg_len cs, ins_len, List.length_cons]; omega
theorem mrg_srt : ∀ (cs l : List Ch), Srt l → (∀ c ∈ cs, ∀ o ∈ l, ahB c o = true ∨ ahB o c = true) → cs.Pairwise (fun a b => ahB a b = true ∨ ahB b a = true) → Srt (mrgL l cs)
  | [], l, h, _, _ => h
  | c :: cs, l, h, hd, hp => by
    have hp' := List.pairwise_cons.1 hp
    show Srt (mrgL (insL c l) cs)
    refine mrg_srt cs _ (ins_srt c l h fun o ho => hd c (List.mem_cons_self ..) o ho) (fun d hd2 o ho => ?_) hp'.2
    rcases (ins_mem c l o).1 ho with rfl | ho
    · exact (hp'.1 d hd2).symm
    · exact hd d (List.mem_cons_of_mem _ hd2) o ho
/-- two rows that rise strictly and have the same members are the same -/
theorem srt_eq : ∀ (a b : List Ch), Srt a → Srt b → (∀ x, x ∈ a ↔ x ∈ b) → a = b
  | [], [], _, _, _ => rfl
  | [], y :: b, _, _, h => by have := (h y).2 (List.mem_cons_self ..); cases this
  | x :: a, [], _, _, h => by have := (h x).1 (List.mem_cons_self ..); cases this
  | x :: a, y :: b, ha, hb, h => by
    have ha' := List.pairwise_cons.1 ha
    have hb' := List.pairwise_cons.1 hb
    have e : x = y := by
      rcases List.mem_cons.1 ((h x).1 (List.mem_cons_self ..)) with e | e
      · exact e
      · rcases List.mem_cons.1 ((h y).2 (List.mem_cons_self ..)) with e2 | e2
        · exact e2.symm
        · have h1 := hb'.1 x e
          have h2 := ha'.1 y e2
          rw [ah_not h1] at h2
          cases h2
    subst e
    congr 1
    refine srt_eq a b ha'.2 hb'.2 fun z => ⟨fun hz => ?_, fun hz => ?_⟩
    · rcases List.mem_cons.1 ((h z).1 (List.mem_cons_of_mem _ hz)) with e | e
      · have := ha'.1 z hz; rw [e, ah_irr] at this; cases this
      · exact e
    · rcases List.mem_cons.1 ((h z).2 (List.mem_cons_of_mem _ hz)) with e | e
      · have := hb'.1 z hz; rw [e, ah_irr] at this; cases this
      · exact e
theorem ls_srt (wd : List Int) : ∀ (l : List Ch) (p : Option Ch) (now : List ByteArray), lsB wd p now l = true → Srt l ∧ ∀ a, p = some a → ∀ c ∈ l, ahB a c = true
  | [], p, now, _ => ⟨List.Pairwise.nil, fun a _ c hc => by cases hc⟩
  | d :: ds, p, now, h => by
    obtain ⟨h1, h2, h3⟩ := ls_cons wd p now d ds h
    obtain ⟨i1, i2⟩ := ls_srt wd ds _ _ h3
    refine ⟨List.pairwise_cons.2 ⟨fun c hc => i2 d rfl c hc, i1⟩, fun a e c hc => ?_⟩
    rcases List.mem_cons.1 hc with rfl | hc
    · exact h2 a e
    · exact ah_trans (h2 a e) (i2 d rfl c hc)
/-- the part that a change of a net goes to -/
def kP (n : Nat) (c : Ch) : Nat := (n - 1 - c.n.toNat % n)
theorem kP_lt {n : Nat} (hn : 0 < n) (c : Ch) : kP n c < n := by unfold kP; omega
/-- a list's part -/
def prt (n : Nat) (l : List Ch) (k : Nat) : List Ch := l.filter fun c => decide (kP n c = k)
theorem prt_mem {n k : Nat} {l : List Ch} {c : Ch} : c ∈ prt n l k ↔ c ∈ l ∧ kP n c = k := by unfold prt; rw [List.mem_filter]; simp
theorem prt_app (n : Nat) (l : List Ch) (c : Ch) (k : Nat) : prt n (l ++ [c]) k = if kP n c = k then prt n l k ++ [c] else prt n l k := by
  unfold prt
  rw [List.filter_append]
  split <;> rename_i h <;> simp [h]
def prts (n : Nat) (l : List Ch) : List (List Ch) := (List.range n).map (prt n l)
theorem prts_len (n : Nat) (l : List Ch) : (prts n l).length = n := by simp [prts]
theorem prts_at {n k : Nat} {l : List Ch} (h : k < n) : (prts n l)[k]'(by rw [prts_len]; exact h) = prt n l k := by simp [prts]
theorem flat_pair : ∀ (ks : List Nat) (n : Nat) (l : List Ch), Srt l → (∀ c ∈ l, 0 ≤ c.n) → ks.Pairwise (· ≠ ·) → ((ks.map (prt n l)).flatten).Pairwise (fun a b => ahB a b = true ∨ ahB b a = true)
  | [], _, _, _, _, _ => List.Pairwise.nil
  | k :: ks, n, l, h, h0, hk => by
    have hk' := List.pairwise_cons.1 hk
    rw [List.map_cons, List.flatten_cons]
    refine List.pairwise_append.2 ⟨?_, flat_pair ks n l h h0 hk'.2, fun a ha b hb => ?_⟩
    · have : Srt (prt n l k) := List.Pairwise.sublist List.filter_sublist h
      exact List.Pairwise.imp (fun h => Or.inl h) this
    · obtain ⟨ha1, ha2⟩ := prt_mem.1 ha
      obtain ⟨m, hm, hb⟩ := List.mem_flatten.1 hb
      obtain ⟨k', hk2, rfl⟩ := List.mem_map.1 hm
      obtain ⟨hb1, hb2⟩ := prt_mem.1 hb
      have hne : k ≠ k' := hk'.1 k' hk2
      have hn : a.n ≠ b.n := fun e => hne (by rw [← ha2, ← hb2]; unfold kP; rw [e])
      rw [ah_iff, ah_iff]
      omega
theorem merge_parts {n : Nat} {l : List Ch} (hn : 0 < n) (h : Srt l) (h0 : ∀ c ∈ l, 0 ≤ c.n) : mergeL (prts n l) = l := by
  have hp : (prts n l).flatten.Pairwise (fun a b => ahB a b = true ∨ ahB b a = true) := flat_pair (List.range n) n l h h0 List.nodup_range
  refine srt_eq _ _ (mrg_srt _ [] List.Pairwise.nil (fun c _ o ho => by cases ho) hp) h fun x => ?_
  unfold mergeL
  rw [mrg_mem]
  constructor
  · rintro (h | h)
    · cases h
    · obtain ⟨m, hm, hx⟩ := List.mem_flatten.1 h
      obtain ⟨k, _, rfl⟩ := List.mem_map.1 hm
      exact (prt_mem.1 hx).1
  · intro hx
    exact Or.inr (List.mem_flatten.2 ⟨prt n l (kP n x), List.mem_map.2 ⟨kP n x, List.mem_range.2 (kP_lt hn x), rfl⟩, prt_mem.2 ⟨hx, rfl⟩⟩)
theorem prts_total {n : Nat} {l : List Ch} (hn : 0 < n) (h : Srt l) (h0 : ∀ c ∈ l, 0 ≤ c.n) : (prts n l).flatten.length = l.length := by
  have e := merge_parts hn h h0
  have := mrg_len (prts n l).flatten []
  show _
  unfold mergeL at e
  rw [e] at this
  simpa using this.symm
end Go.Proofs.YtodpljgajjcdoaaGreatDoor

/- Layer 19: what the bytes of a dump tell is no longer than they are. -/
import Derived.Test.YtodpljgajjcdoaaGreatDoorGUr
import Derived.Test.YtodpljgajjcdoaaGreatDoorUX
namespace Go.Proofs.YtodpljgajjcdoaaGreatDoor
set_option maxRecDepth 100000
open Go.RowKit Lg Nl Go.Maps Wf Vd
set_option linter.unusedVariables false
set_option linter.unusedSimpArgs false

theorem unN_len (n : List UInt8) : (unN n).length ≤ n.length := by
  unfold unN
  split
  · exact Nat.zero_le _
  · exact Nat.le_refl _
theorem netM_len {t c n : List UInt8} {v : Int} (h : netM t = some (c, n, v)) : n.length ≤ t.length := by
  unfold netM at h
  split at h
  · rename_i p q wd cd nm s hs
    cases hv : numA wd with
    | none => rw [hv] at h; cases h
    | some u =>
      rw [hv] at h
      injection h with h
      injection h with _ h
      injection h with h _
      have h1 := unN_len nm
      have h2 := spl_len 32 t nm (by rw [hs]; simp)
      rw [h] at h1
      omega
  · cases h
theorem valM_len {a : Cds} {t v : List UInt8} {n : Int} (h : valM a t = some (n, v)) : v.length ≤ t.length := by
  cases t with
  | nil => cases h
  | cons x r =>
    have h : (cdL a (vcM x r).2).map (fun n => (n, (vcM x r).1)) = some (n, v) := h
    cases hc : cdL a (vcM x r).2 with
    | none => rw [hc] at h; cases h
    | some u =>
      rw [hc] at h
      injection h with h
      injection h with _ h
      rw [← h, List.length_cons]
      unfold vcM
      split
      · cases hq : cutO 32 r with
        | none => exact Nat.le_succ _
        | some p =>
          obtain ⟨y, z⟩ := p
          have := (cutO_inv hq).1
          show y.length ≤ _
          rw [this, List.length_append]; omega
      · show [x].length ≤ _
        simp
theorem cut_lens {l t q : List UInt8} (h : cutO 10 l = some (t, q)) : t.length + q.length + 1 = l.length := by
  rw [(cutO_inv h).1, List.length_append, List.length_cons]; omega
theorem netsM_sz (M : Nat) : ∀ (k : Nat) (l : List UInt8) (a : Cds) (nm : List ByteArray) (wd : List Int) (r : List UInt8) (a' : Cds) (nm' : List ByteArray) (wd' : List Int), netsM k l a nm wd = some (r, a', nm', wd') → l.length ≤ M → (∀ s ∈ nm, s.size ≤ M) → (∀ s ∈ nm', s.size ≤ M) ∧ nm'.length ≤ nm.length + l.length ∧ wd'.length ≤ wd.length + l.length
  | 0, _, _, _, _, _, _, _, _, h, _, _ => by cases h
  | k + 1, l, a, nm, wd, r, a', nm', wd', h, hl, hs => by
    rw [netsM_succ] at h
    cases hc : cutO 10 l with
    | none => rw [hc] at h; cases h
    | some p =>
      obtain ⟨t, q⟩ := p
      rw [hc] at h
      have h : netsU k t q a nm wd = some (r, a', nm', wd') := h
      have hlen := cut_lens hc
      unfold netsU at h
      by_cases e : t = upT
      · rw [if_pos e] at h
        injection h with h
        injection h with _ h
        injection h with _ h
        injection h with h1 h2
        subst h1 h2
        exact ⟨hs, Nat.le_add_right _ _, Nat.le_add_right _ _⟩
      · rw [if_neg e] at h
        cases hn : netM t with
        | none => rw [hn] at h; cases h
        | some p =>
          obtain ⟨c, n, v⟩ := p
          rw [hn] at h
          have hnl := netM_len hn
          have hi := netsM_sz M k q _ _ _ r a' nm' wd' h (by omega) (fun s hm => by
            rcases List.mem_append.1 hm with hm | hm
            · exact hs s hm
            · rw [List.mem_singleton] at hm
              subst hm
              rw [size_S]; omega)
          obtain ⟨i1, i2, i3⟩ := hi
          rw [List.length_append, List.length_singleton] at i2 i3
          exact ⟨i1, by omega, by omega⟩
theorem declM_sz {M : Nat} {l r : List UInt8} {a : Cds} {nm : List ByteArray} {wd : List Int} (h : declM l = some (r, a, nm, wd)) (hl : l.length ≤ M) : (∀ s ∈ nm, s.size ≤ M) ∧ nm.length ≤ M ∧ wd.length ≤ M := by
  unfold declM at h
  cases hf : fixM [tsT, scT] l with
  | none => rw [hf] at h; cases h
  | some l1 =>
    have hl1 := fixM_len _ _ _ hf
    rw [hf] at h
    simp only at h
    cases hn : netsM (l1.length + 1) l1 [] [] [] with
    | none => rw [hn] at h; cases h
    | some p =>
      obtain ⟨r1, a1, nm1, wd1⟩ := p
      rw [hn] at h
      simp only at h
      obtain ⟨i1, i2, i3⟩ := netsM_sz M _ l1 [] [] [] r1 a1 nm1 wd1 hn (by omega) (fun s hm => by cases hm)
      rw [List.length_nil] at i2 i3
      cases hf2 : fixM [deT] r1 with
      | none => rw [hf2] at h; cases h
      | some r2 =>
        rw [hf2] at h
        injection h with h
        injection h with _ h
        injection h with _ h
        injection h with h1 h2
        subst h1 h2
        exact ⟨i1, by omega, by omega⟩
theorem firM_sz (M : Nat) : ∀ (k : Nat) (l : List UInt8) (a : Cds) (fi : List ByteArray) (r : List UInt8) (fi' : List ByteArray), firM k l a fi = some (r, fi') → l.length ≤ M → (∀ s ∈ fi, s.size ≤ M) → (∀ s ∈ fi', s.size ≤ M) ∧ fi'.length ≤ fi.length + l.length
  | 0, _, _, _, _, _, h, _, _ => by cases h
  | k + 1, l, a, fi, r, fi', h, hl, hs => by
    rw [firM_succ] at h
    cases hc : cutO 10 l with
    | none => rw [hc] at h; cases h
    | some p =>
      obtain ⟨t, q⟩ := p
      rw [hc] at h
      have h : firU k t q a fi = some (r, fi') := h
      have hlen := cut_lens hc
      unfold firU at h
      by_cases e : t = enT
      · rw [if_pos e] at h
        injection h with h
        injection h with _ h
        subst h
        exact ⟨hs, Nat.le_add_right _ _⟩
      · rw [if_neg e] at h
        cases hn : valM a t with
        | none => rw [hn] at h; cases h
        | some p =>
          obtain ⟨n, v⟩ := p
          rw [hn] at h
          have hnl := valM_len hn
          obtain ⟨i1, i2⟩ := firM_sz M k q a _ r fi' h (by omega) (fun s hm => by
            rcases List.mem_append.1 hm with hm | hm
            · exact hs s hm
            · rw [List.mem_singleton] at hm
              subst hm
              rw [size_S]; omega)
          rw [List.length_append, List.length_singleton] at i2
          exact ⟨i1, by omega⟩
theorem chM_sz (M : Nat) : ∀ (k : Nat) (l : List UInt8) (a : Cds) (z : Int) (li li' : List Ch), chM k l a z li = some li' → l.length ≤ M → (∀ c ∈ li, c.v.size ≤ M) → (∀ c ∈ li', c.v.size ≤ M) ∧ li'.length ≤ li.length + l.length
  | 0, _, _, _, _, _, h, _, _ => by cases h
  | k + 1, l, a, z, li, li', h, hl, hs => by
    have h : (if l = [] then some li else match cutO 10 l with
      | none => none
      | some (t, r) => if isT t then (match numA (t.drop 1) with | none => none | some z' => chM k r a z' li) else match valM a t with
        | none => none
        | some (n, v) => chM k r a z (li ++ [(⟨z, n, S v⟩ : Ch)])) = some li' := h
    by_cases e : l = []
    · rw [if_pos e] at h
      injection h with h
      subst h
      exact ⟨hs, Nat.le_add_right _ _⟩
    · rw [if_neg e] at h
      cases hc : cutO 10 l with
      | none => rw [hc] at h; cases h
      | some p =>
        obtain ⟨t, q⟩ := p
        have hlen := cut_lens hc
        rw [hc] at h
        simp only at h
        by_cases ht : isT t = true
        · rw [if_pos ht] at h
          cases hn : numA (t.drop 1) with
          | none => rw [hn] at h; cases h
          | some z' =>
            rw [hn] at h
            obtain ⟨i1, i2⟩ := chM_sz M k q a z' li li' h (by omega) hs
            exact ⟨i1, by omega⟩
        · rw [if_neg ht] at h
          cases hn : valM a t with
          | none => rw [hn] at h; cases h
          | some p =>
            obtain ⟨n, v⟩ := p
            rw [hn] at h
            have hnl := valM_len hn
            obtain ⟨i1, i2⟩ := chM_sz M k q a z _ li' h (by omega) (fun c hm => by
              rcases List.mem_append.1 hm with hm | hm
              · exact hs c hm
              · rw [List.mem_singleton] at hm
                subst hm
                show (S v).size ≤ M
                rw [size_S]; omega)
            rw [List.length_append, List.length_singleton] at i2
            exact ⟨i1, by omega⟩
theorem firstM_sz {M : Nat} {l r : List UInt8} {a : Cds} {fi : List ByteArray} (h : firstM l a = some (r, fi)) (hl : l.length ≤ M) : (∀ s ∈ fi, s.size ≤ M) ∧ fi.length ≤ M := by
  unfold firstM at h
  cases hf : fixM [dvT] l with
  | none => rw [hf] at h; cases h
  | some l1 =>
    have hl1 := fixM_len _ _ _ hf
    rw [hf] at h
    simp only at h
    obtain ⟨i1, i2⟩ := firM_sz M _ l1 a [] r fi h (by omega) (fun s hm => by cases hm)
    rw [List.length_nil] at i2
    exact ⟨i1, by omega⟩
/-- what the bytes tell lies within reach -/
theorem readM_fw {l : List UInt8} {x : Wv} (h : readM l = some x) (hl : l.length ≤ 1048576) : Fw x := by
  have hM : (1048576 : Nat) ≤ maxLen := by decide
  unfold readM at h
  cases hd : declM l with
  | none => rw [hd] at h; cases h
  | some p =>
    obtain ⟨r, a, nm, wd⟩ := p
    rw [hd] at h
    simp only at h
    have hr := declM_len hd
    obtain ⟨d1, d2, d3⟩ := declM_sz hd hl
    cases hf : firstM r a with
    | none => rw [hf] at h; cases h
    | some p =>
      obtain ⟨r2, fi⟩ := p
      rw [hf] at h
      simp only at h
      have hr2 := firstM_len hf
      obtain ⟨f1, f2⟩ := firstM_sz (M := 1048576) hf (by omega)
      cases hc : changesM r2 a with
      | none => rw [hc] at h; cases h
      | some li =>
        rw [hc] at h
        injection h with h
        subst h
        unfold changesM at hc
        obtain ⟨c1, c2⟩ := chM_sz 1048576 _ r2 a 0 [] li hc (by omega) (fun s hm => by cases hm)
        rw [List.length_nil] at c2
        exact ⟨⟨fun s hs => Nat.le_trans (d1 s hs) hM, fun s hs => Nat.le_trans (f1 s hs) hM, fun s hs => Nat.le_trans (c1 s hs) hM, by show li.length ≤ _; omega⟩, ⟨by show nm.length ≤ _; omega, by show wd.length ≤ _; omega, by show fi.length ≤ _; omega, by show li.length ≤ _; omega⟩, by show li.length ≤ _; omega⟩
end Go.Proofs.YtodpljgajjcdoaaGreatDoor

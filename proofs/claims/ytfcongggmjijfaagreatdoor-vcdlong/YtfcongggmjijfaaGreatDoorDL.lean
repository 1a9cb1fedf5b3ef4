/- Layer 19: VcdBegins, walked over what the program's functions tell. -/
import Derived.Test.YtfcongggmjijfaaGreatDoorDK
namespace Go.Proofs.YtfcongggmjijfaaGreatDoor
set_option maxRecDepth 100000
open Go.RowKit Lg Nl Go.Maps Wf Vd
set_option linter.unusedVariables false
set_option linter.unusedSimpArgs false

def begX (k : Nat) (x : Wv) : Wv := ⟨x.nm, x.wd, x.fi, x.li.take k⟩
theorem ls_take (wd : List Int) : ∀ (l : List Ch) (p : Option Ch) (now : List ByteArray) (k : Nat), lsB wd p now l = true → lsB wd p now (l.take k) = true
  | [], p, now, k, h => by rw [List.take_nil]; exact h
  | c :: cs, p, now, 0, h => rfl
  | c :: cs, p, now, k + 1, h => by
    rw [List.take_succ_cons]
    unfold lsB at h ⊢
    simp only [Bool.and_eq_true] at h ⊢
    exact ⟨h.1, ls_take wd cs _ _ k h.2⟩
theorem may_take {x : Wv} (k : Nat) (h : mayW x = true) : mayW (begX k x) = true := by
  obtain ⟨h1, h2, h3⟩ := may_parts h
  unfold mayW
  rw [Bool.and_eq_true, Bool.and_eq_true]
  exact ⟨⟨h1, h2⟩, ls_take x.wd x.li none x.fi k h3⟩
theorem wr_zero {x : Wv} (h : wrE x = 0) : mayW x = true ∧ undB x = false ∧ (textL x).length ≤ 1048576 := by
  unfold wrE at h
  cases h1 : mayW x
  · rw [h1] at h; cases h
  · cases h2 : undB x
    · rw [h1, h2] at h
      by_cases h3 : 1048576 < (textL x).length
      · simp [h3] at h
      · exact ⟨rfl, rfl, by omega⟩
    · rw [h1, h2] at h; cases h
theorem wr_take {x : Wv} (k : Nat) (h : wrE x = 0) : wrE (begX k x) = 0 ∧ ∃ r, wrT x = wrT (begX k x) ++ r := by
  obtain ⟨h1, h2, h3⟩ := wr_zero h
  obtain ⟨r, hr⟩ := text_take x k
  have hl : ¬ 1048576 < (textL (begX k x)).length := by
    have := congrArg List.length hr
    rw [List.length_append] at this
    show ¬ 1048576 < (textL ⟨x.nm, x.wd, x.fi, x.li.take k⟩).length
    omega
  have e : wrE (begX k x) = 0 := by
    have u : undB (begX k x) = false := h2
    unfold wrE
    rw [may_take k h1, u]
    simp [hl]
  refine ⟨e, r, ?_⟩
  unfold wrT
  rw [if_pos h, if_pos e]
  exact hr
theorem Wd.take {w : World} {vn vw vf : Value} {ao : Option Addr} {n c k : Nat} {x : Wv} (h : Wd w vn vw vf (.slice ao n c) x) (hk : k ≤ x.li.length) : Wd w vn vw vf (.slice ao k c) (begX k x) := by
  have hl : (x.li.take k).length = k := by rw [List.length_take]; omega
  refine ⟨⟨h.a.nm, h.a.wd, h.a.fi, ?_⟩, ⟨h.z.nm, h.z.fi, fun d hd => h.z.li d (List.mem_of_mem_take hd), ?_⟩, ⟨h.b.nm, h.b.wd, h.b.fi, ?_⟩, ?_⟩
  · obtain ⟨ao', c', e, hc, hh⟩ := h.a.li
    injection e with e1 e2 e3
    subst e1 e3
    refine ⟨ao, c, by show Value.slice ao k c = Value.slice ao (x.li.take k).length c; rw [hl], ⟨by show (x.li.take k).length ≤ c; rw [hl]; omega, hc.2⟩, ?_⟩
    rcases hh with hh | ⟨g, o, rfl, hg, hh⟩
    · exact Or.inl (by show x.li.take k = []; rw [hh, List.take_nil])
    · refine Or.inr ⟨g, o, rfl, hg, fun i hi j u hu => ?_⟩
      have hi2 : i < x.li.length := by have : i < (x.li.take k).length := hi; omega
      refine hh i hi2 j u ?_
      have : (begX k x).li[i] = x.li[i] := List.getElem_take
      rw [← this]; exact hu
  · show (x.li.take k).length ≤ _; have := h.z.ln; omega
  · show (x.li.take k).length ≤ _; have := h.b.li; omega
  · show (x.li.take k).length ≤ _; have := h.l; omega
theorem mask16 (n : Int) : bits .and .i64 n 65535 = n % 65536 := by
  have hpos : 0 < 2 ^ 16 := by decide
  have h1 : (BitVec.ofInt 64 (65535 : Int)).toNat = 65535 := by decide
  have key : (BitVec.ofInt 64 n &&& BitVec.ofInt 64 (65535 : Int)).toNat = (n % ((2 ^ 64 : Nat) : Int)).toNat % 2 ^ 16 := by
    rw [BitVec.toNat_and, BitVec.toNat_ofInt, h1, show (65535 : Nat) = 2 ^ 16 - 1 by decide, Nat.and_two_pow_sub_one_eq_mod]
  show IntKind.i64.wrap ((BitVec.ofInt 64 n &&& BitVec.ofInt 64 (65535 : Int)).toNat : Nat) = n % 65536
  rw [key, IntKind.wrap_i64]
  have h2 : ((n % ((2 ^ 64 : Nat) : Int)).toNat % 2 ^ 16 : Nat) = n % 65536 := by
    rw [Int.natCast_emod, Int.toNat_of_nonneg (Int.emod_nonneg _ (by decide)), Int.emod_emod_of_dvd]
    · rfl
    · exact Int.natCast_dvd_natCast.2 (Nat.pow_dvd_pow 2 (by omega))
  rw [h2]; omega
theorem w6_of {n : Nat} (h : n ≤ 100000000) : wrap64 ((n : Int) + 1) = (n : Int) + 1 := by unfold wrap64; omega
theorem z6_of (n : Nat) : ¬ ((n : Int) + 1 = 0) := by omega
theorem k1_of {K n c : Nat} (h : K ≤ n) (h2 : n ≤ c) : 0 ≤ (K : Int) ∧ (K : Int) ≤ (c : Int) := by omega
theorem beg_facts {x : Wv} {k : Nat} {T T2 : ByteArray} {o o2 : Int} (hT : T = S (wrT x)) (ho : o = wrE x) (hT2 : T2 = S (wrT (begX k x))) (ho2 : o2 = wrE (begX k x)) :
    ¬ o = 0 ∨ (o = 0 ∧ o2 = 0 ∧ decide ((T2.size : Int) ≤ (T.size : Int)) = true ∧ ((T.extract 0 T2.size).toList == T2.toList) = true ∧ T2.size ≤ T.size) := by
  by_cases h : o = 0
  · obtain ⟨h2, r, hr⟩ := wr_take k (ho ▸ h)
    have hl : T2.size ≤ T.size := by
      rw [hT, hT2, size_S, size_S, hr, List.length_append]; omega
    refine Or.inr ⟨h, ho2.trans h2, decide_eq_true (by omega), ?_, hl⟩
    have e : T.extract 0 T2.size = T2 := by
      apply ByteArray.ext
      rw [hT, hT2, hr, size_S]
      apply Array.toList_inj.1
      simp [S, ByteArray.data_extract]
    rw [e, beq_self_eq_true]
  · exact Or.inl h
theorem k_of (cut : Int) (n : Nat) (hn : n ≤ 100000000) : ∃ K : Nat, K ≤ n ∧ Int.tmod (bits .and .i64 cut 65535) ((n : Int) + 1) = (K : Int) := by
  rw [mask16]
  refine ⟨((cut % 65536).tmod ((n : Int) + 1)).toNat, ?_, ?_⟩
  · have h1 := Int.tmod_lt_of_pos (cut % 65536) (b := (n : Int) + 1) (by omega)
    omega
  · have h1 := Int.tmod_nonneg ((n : Int) + 1) (a := cut % 65536) (by omega)
    omega
end Go.Proofs.YtfcongggmjijfaaGreatDoor

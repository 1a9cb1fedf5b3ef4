/- Layer 19: dumps line by line, plain: which bytes stand in them; a law's run over them. -/
import Derived.Test.YtodpljgajjcdoaaGreatDoorDE
namespace Go.Proofs.YtodpljgajjcdoaaGreatDoor
set_option maxRecDepth 100000
open Go.RowKit Lg Nl Go.Maps Wf Vd
set_option linter.unusedVariables false
set_option linter.unusedSimpArgs false

theorem dig_at (k : Nat) (h : k < 10) : ((UInt8.ofNat (48 + k)).toNat) = 48 + k := by rw [UInt8.toNat_ofNat', Nat.mod_eq_of_lt (by omega)]
/-- digits -/
theorem dec_dig : ∀ (u : Nat) (b : UInt8), b ∈ Lib.decDigits u → 48 ≤ b.toNat ∧ b.toNat ≤ 57 := by
  intro u
  induction u using Nat.strongRecOn with
  | _ u ih =>
    intro b hb
    rw [Lib.decDigits] at hb
    split at hb
    · rename_i h
      rw [List.mem_singleton] at hb
      subst hb
      rw [dig_at u h]; omega
    · rename_i h
      rcases List.mem_append.1 hb with hb | hb
      · exact ih (u / 10) (by omega) b hb
      · rw [List.mem_singleton] at hb
        subst hb
        rw [dig_at (u % 10) (by omega)]; omega
theorem dec_ne (u : Nat) : Lib.decDigits u ≠ [] := by
  rw [Lib.decDigits]
  split
  · intro h; cases h
  · intro h
    have := congrArg List.length h
    rw [List.length_append] at this
    simp at this
theorem itoa_nat (n : Int) (h : 0 ≤ n) : Lib.itoa n = Lib.decDigits n.toNat := by unfold Lib.itoa; rw [if_neg (by omega)]
theorem itoa_dig {n : Int} (h : 0 ≤ n) {b : UInt8} (hb : b ∈ Lib.itoa n) : 48 ≤ b.toNat ∧ b.toNat ≤ 57 := by rw [itoa_nat n h] at hb; exact dec_dig _ b hb
theorem itoa_ne {n : Int} (h : 0 ≤ n) : Lib.itoa n ≠ [] := by rw [itoa_nat n h]; exact dec_ne _
theorem by8_toNat (k : Nat) (h : k < 256) : (by8 k).toNat = k := by unfold by8; rw [UInt8.toNat_ofNat', Nat.mod_eq_of_lt h]
theorem code_byte {n : Nat} (hn : n < 4096) {b : UInt8} (hb : b ∈ codeL n) : 33 ≤ b.toNat ∧ b.toNat ≤ 126 := by
  unfold codeL at hb
  split at hb
  · rw [List.mem_singleton] at hb
    subst hb
    rw [by8_toNat _ (by omega)]; omega
  · rcases List.mem_cons.1 hb with hb | hb
    · subst hb
      rw [by8_toNat _ (by omega)]; omega
    · rw [List.mem_singleton] at hb
      subst hb
      rw [by8_toNat _ (by omega)]; omega
theorem vec_byte {l : List UInt8} (h : vec l = true) {b : UInt8} (hb : b ∈ l) : b = 48 ∨ b = 49 ∨ b = 120 ∨ b = 122 := by
  unfold vec at h
  rw [Bool.and_eq_true, List.all_eq_true] at h
  have := h.2 b hb
  unfold bitB at this
  simpa [or_assoc] using this
theorem vec_ne {l : List UInt8} (h : vec l = true) : 1 ≤ l.length := by
  unfold vec at h
  rw [Bool.and_eq_true] at h
  exact (of_decide_eq_true h.1).1
theorem name_byte {s : ByteArray} (h : nameB s = true) {b : UInt8} (hb : b ∈ L s) : 33 ≤ b.toNat ∧ b.toNat ≤ 126 := by
  unfold nameB at h
  rw [Bool.and_eq_true, List.all_eq_true] at h
  have := h.1 b hb
  unfold nmB at this
  have := of_decide_eq_true this
  omega
theorem nmT_byte {s : ByteArray} (h : nameB s = true) {b : UInt8} (hb : b ∈ nmT s) : 33 ≤ b.toNat ∧ b.toNat ≤ 126 := by
  unfold nmT at hb
  split at hb
  · rw [List.mem_singleton] at hb
    subst hb
    decide
  · exact name_byte h hb
/-- lines without their ends -/
def varN (x : Wv) (i : Nat) : List UInt8 := varT ++ (Lib.itoa (iA x.wd i) ++ (32 :: (codeL i ++ (32 :: (nmT (sA x.nm i) ++ [32, 36, 101, 110, 100])))))
theorem varL_is (x : Wv) (i : Nat) : varL x i = varN x i ++ [10] := by
  unfold varL varN endT
  simp only [List.append_assoc, List.cons_append, List.nil_append]
def valN (v : ByteArray) (n : Nat) : List UInt8 := if v.size = 1 then L v ++ codeL n else 98 :: (L v ++ 32 :: codeL n)
theorem valL_is (v : ByteArray) (n : Nat) : valL v n = valN v n ++ [10] := by
  unfold valL valN
  split <;> simp only [List.append_assoc, List.cons_append, List.nil_append]
theorem ne10 {b : UInt8} (h : 11 ≤ b.toNat) : b ≠ 10 := by intro e; subst e; exact absurd h (by decide)
theorem no10 {l : List UInt8} (h : ∀ b ∈ l, b ≠ 10) : (10 : UInt8) ∉ l := fun e => h 10 e rfl
theorem varN_no {x : Wv} (hm : Nice x) {i : Nat} (hi : i < x.nm.length) (hn : nameB (sA x.nm i) = true) : (10 : UInt8) ∉ varN x i := by
  have hln := hm.ln
  have hw := (hm.wd i hi).1
  refine no10 fun b hb => ?_
  unfold varN at hb
  simp only [List.mem_append, List.mem_cons] at hb
  rcases hb with hb | hb | rfl | hb | rfl | hb | hb
  · revert b; unfold varT; decide
  · exact ne10 (by have := itoa_dig hw hb; omega)
  · decide
  · exact ne10 (by have := code_byte (by omega) hb; omega)
  · decide
  · exact ne10 (by have := nmT_byte hn hb; omega)
  · rcases hb with rfl | rfl | rfl | rfl | rfl | hb <;> first | decide | cases hb
theorem valN_no {v : ByteArray} (hv : vec (L v) = true) {n : Nat} (hn : n < 4096) : (10 : UInt8) ∉ valN v n := by
  have h1 : ∀ b ∈ L v, b ≠ 10 := fun b hb => by
    rcases vec_byte hv hb with rfl | rfl | rfl | rfl <;> decide
  have h2 : ∀ b ∈ codeL n, b ≠ 10 := fun b hb => ne10 (by have := code_byte hn hb; omega)
  refine no10 fun b hb => ?_
  unfold valN at hb
  split at hb
  · rcases List.mem_append.1 hb with hb | hb
    · exact h1 b hb
    · exact h2 b hb
  · rcases List.mem_cons.1 hb with rfl | hb
    · decide
    · rcases List.mem_append.1 hb with hb | hb
      · exact h1 b hb
      · rcases List.mem_cons.1 hb with rfl | hb
        · decide
        · exact h2 b hb
theorem valN_head {v : ByteArray} (hv : vec (L v) = true) (n : Nat) : ∃ b r, valN v n = b :: r ∧ (b = 48 ∨ b = 49 ∨ b = 120 ∨ b = 122 ∨ b = 98) := by
  unfold valN
  split
  · cases hl : L v with
    | nil => have := vec_ne hv; rw [hl] at this; exact absurd this (by decide)
    | cons b r => exact ⟨b, r ++ codeL n, rfl, by have := vec_byte hv (b := b) (by rw [hl]; exact List.mem_cons_self); rcases this with h | h | h | h <;> simp [h]⟩
  · exact ⟨98, _, rfl, by simp⟩
theorem may_net {x : Wv} (h : mayW x = true) {i : Nat} (hi : i < x.nm.length) : nameB (sA x.nm i) = true ∧ vec (L (sA x.fi i)) = true ∧ ((sA x.fi i).size : Int) = iA x.wd i := by
  obtain ⟨_, h2, _⟩ := may_parts h
  rw [List.all_eq_true] at h2
  have := h2 i (List.mem_range.2 hi)
  unfold netB at this
  rw [Bool.and_eq_true, Bool.and_eq_true] at this
  exact ⟨this.1.1, this.1.2, of_decide_eq_true this.2⟩

/-- how the law reads a number -/
def stepD (t : Int) (b : UInt8) : Int := wrap64 (wrap64 (10 * t) + IntKind.i64.wrap (IntKind.u8.wrap ((b.toNat : Int) - 48)))
def decI (t : Int) (l : List UInt8) : Int := l.foldl stepD t
theorem stepD_at (t : Nat) (k : Nat) (hk : k < 10) (ht : 10 * t + k ≤ 4611686018427387904) : stepD t (UInt8.ofNat (48 + k)) = ((10 * t + k : Nat) : Int) := by
  unfold stepD
  rw [dig_at k hk]
  have e1 : IntKind.u8.wrap (((48 + k : Nat) : Int) - 48) = (k : Int) := by
    have : (((48 + k : Nat) : Int) - 48) = (k : Int) := by omega
    rw [this]
    show (k : Int) % 256 = k
    omega
  rw [e1, IntKind.wrap_i64]
  unfold wrap64
  omega
theorem decI_one (t : Int) (b : UInt8) : decI t [b] = stepD t b := rfl
theorem decI_app (t : Int) (l : List UInt8) (b : UInt8) : decI t (l ++ [b]) = stepD (decI t l) b := by unfold decI; rw [List.foldl_append]; rfl
theorem decI_dec (M : Nat) (hM : M ≤ 4611686018427387904) : ∀ (u : Nat), u ≤ M → decI 0 (Lib.decDigits u) = (u : Int) := by
  intro u
  induction u using Nat.strongRecOn with
  | _ u ih =>
    intro hu
    rw [Lib.decDigits]
    split
    · rename_i h
      rw [decI_one]
      have := stepD_at 0 u h (by omega)
      rw [Nat.mul_zero, Nat.zero_add] at this
      exact this
    · rename_i h
      rw [decI_app, ih (u / 10) (by omega) (by omega), stepD_at (u / 10) (u % 10) (by omega) (by omega)]
      congr 1
      omega
theorem decI_itoa (n : Int) (h0 : 0 ≤ n) (h1 : n ≤ 4611686018427387904) : decI 0 (Lib.itoa n) = n := by
  rw [itoa_nat n h0, decI_dec n.toNat (by omega) _ (Nat.le_refl _)]
  omega
/-- does a line tell a time -/
def isTm : List UInt8 → Bool
  | [] => false
  | b :: r => decide (r ≠ []) && b == 35
/-- the law's run over bytes -/
def runT (li : List Ch) : List UInt8 → List UInt8 → Nat → Nat → Int → Bool
  | [], line, at_, n, last => decide (n = li.length) && (decide (0 < at_) == decide (0 < n)) && decide (line = [])
  | c :: s, line, at_, n, last => if c = 10 then
      (if isTm line then (if decI 0 (line.drop 1) ≤ last ∨ li.length ≤ n ∨ (cA li n).t ≠ decI 0 (line.drop 1) then false else runT li s [] (at_ + 1) n (decI 0 (line.drop 1)))
      else if 0 ≤ last then (if li.length ≤ n ∨ (cA li n).t ≠ last then false else runT li s [] at_ (n + 1) last)
      else runT li s [] at_ n last)
    else runT li s (line ++ [c]) at_ n last
theorem runT_line (li : List Ch) (s : List UInt8) (at_ n : Nat) (last : Int) : ∀ (l acc : List UInt8), (10 : UInt8) ∉ l → runT li (l ++ 10 :: s) acc at_ n last = runT li (10 :: s) (acc ++ l) at_ n last
  | [], acc, _ => by rw [List.append_nil]; rfl
  | c :: l, acc, h => by
    have h1 : c ≠ 10 := fun e => h (by rw [e]; exact List.mem_cons_self)
    have h2 := runT_line li s at_ n last l (acc ++ [c]) fun e => h (List.mem_cons_of_mem _ e)
    rw [List.append_assoc] at h2
    show (if c = 10 then _ else runT li (l ++ 10 :: s) (acc ++ [c]) at_ n last) = _
    rw [if_neg h1, h2]
    rfl
theorem runT_skip (li : List Ch) (s l : List UInt8) (at_ n : Nat) (h : (10 : UInt8) ∉ l) (ht : isTm l = false) : runT li (l ++ 10 :: s) [] at_ n (-1) = runT li s [] at_ n (-1) := by
  rw [runT_line li s at_ n (-1) l [] h]
  show (if (10 : UInt8) = 10 then (if isTm l = true then _ else if (0 : Int) ≤ -1 then _ else runT li s [] at_ n (-1)) else _) = _
  rw [if_pos rfl, ht, if_neg (by decide), if_neg (by decide)]
theorem runT_flat (li : List Ch) (f : Nat → List UInt8) (at_ n : Nat) (s : List UInt8) : ∀ idx : List Nat, (∀ i ∈ idx, ∃ l, f i = l ++ [10] ∧ (10 : UInt8) ∉ l ∧ isTm l = false) → runT li (idx.flatMap f ++ s) [] at_ n (-1) = runT li s [] at_ n (-1)
  | [], _ => rfl
  | i :: idx, h => by
    obtain ⟨l, h1, h2, h3⟩ := h i List.mem_cons_self
    have e : (i :: idx).flatMap f ++ s = l ++ 10 :: (idx.flatMap f ++ s) := by rw [List.flatMap_cons, h1]; simp only [List.append_assoc, List.cons_append, List.nil_append]
    rw [e, runT_skip li _ l at_ n h2 h3]
    exact runT_flat li f at_ n s idx fun j hj => h j (List.mem_cons_of_mem _ hj)
theorem head_tm {b : UInt8} {r : List UInt8} (h : b ≠ 35) : isTm (b :: r) = false := by
  show (decide (r ≠ []) && b == 35) = false
  rw [show (b == 35) = false from beq_eq_false_iff_ne.2 h, Bool.and_false]
theorem valN_tm {v : ByteArray} (hv : vec (L v) = true) (n : Nat) : isTm (valN v n) = false := by
  obtain ⟨b, r, h1, h2⟩ := valN_head hv n
  rw [h1]
  exact head_tm (by rcases h2 with rfl | rfl | rfl | rfl | rfl <;> decide)
theorem runT_val {li : List Ch} {n : Nat} {c : Ch} (s : List UInt8) (at_ : Nat) (hc : cA li n = c) (hn : n < li.length) (hv : vec (L c.v) = true) (hk : c.n.toNat < 4096) (h0 : 0 ≤ c.t) : runT li (valL c.v c.n.toNat ++ s) [] at_ n c.t = runT li s [] at_ (n + 1) c.t := by
  have e : valL c.v c.n.toNat ++ s = valN c.v c.n.toNat ++ 10 :: s := by rw [valL_is]; simp only [List.append_assoc, List.cons_append, List.nil_append]
  rw [e, runT_line li s at_ n c.t _ [] (valN_no hv hk), List.nil_append]
  show (if (10 : UInt8) = 10 then (if isTm (valN c.v c.n.toNat) = true then _ else if (0 : Int) ≤ c.t then (if li.length ≤ n ∨ (cA li n).t ≠ c.t then false else runT li s [] at_ (n + 1) c.t) else _) else _) = _
  rw [if_pos rfl, valN_tm hv, if_neg (by decide), if_pos h0, if_neg (by rw [hc]; omega)]
theorem runT_time {li : List Ch} {n : Nat} {c : Ch} (s : List UInt8) (at_ : Nat) (last : Int) (hc : cA li n = c) (hn : n < li.length) (h0 : 0 ≤ c.t) (h1 : c.t ≤ 4611686018427387904) (hl : last < c.t) : runT li ((35 :: (Lib.itoa c.t ++ [10])) ++ s) [] at_ n last = runT li s [] (at_ + 1) n c.t := by
  have e : (35 :: (Lib.itoa c.t ++ [10])) ++ s = (35 :: Lib.itoa c.t) ++ 10 :: s := by simp only [List.append_assoc, List.cons_append, List.nil_append]
  have hno : (10 : UInt8) ∉ (35 :: Lib.itoa c.t) := no10 fun b hb => by
    rcases List.mem_cons.1 hb with rfl | hb
    · decide
    · exact ne10 (by have := itoa_dig h0 hb; omega)
  have htm : isTm (35 :: Lib.itoa c.t) = true := by
    show (decide (Lib.itoa c.t ≠ []) && (35 : UInt8) == 35) = true
    rw [decide_eq_true (itoa_ne h0)]; rfl
  have hd : decI 0 ((35 :: Lib.itoa c.t).drop 1) = c.t := by rw [List.drop_one, List.tail_cons]; exact decI_itoa _ h0 h1
  rw [e, runT_line li s at_ n last _ [] hno, List.nil_append]
  show (if (10 : UInt8) = 10 then (if isTm (35 :: Lib.itoa c.t) = true then (if decI 0 ((35 :: Lib.itoa c.t).drop 1) ≤ last ∨ li.length ≤ n ∨ (cA li n).t ≠ decI 0 ((35 :: Lib.itoa c.t).drop 1) then false else runT li s [] (at_ + 1) n (decI 0 ((35 :: Lib.itoa c.t).drop 1))) else _) else _) = _
  rw [if_pos rfl, if_pos htm, hd, if_neg (by rw [hc]; omega)]
theorem runT_list (wd : List Int) (li : List Ch) : ∀ (cs : List Ch) (p : Option Ch) (now : List ByteArray) (at_ n : Nat) (last : Int), lsB wd p now cs = true → now.length ≤ 4096 → n + cs.length = li.length → li.drop n = cs →
    (match p with | none => last = -1 ∧ n = 0 ∧ at_ = 0 | some a => last = a.t ∧ 0 ≤ a.t ∧ 0 < n ∧ 0 < at_) → runT li (listL (p.map (·.t)) cs) [] at_ n last = true
  | [], p, now, at_, n, last, _, _, hn, _, hp => by
    show (decide (n = li.length) && (decide (0 < at_) == decide (0 < n)) && decide (([] : List UInt8) = [])) = true
    have hn : n = li.length := by simpa using hn
    have hb : (decide (0 < at_) == decide (0 < n)) = true := by
      cases p with
      | none => obtain ⟨_, h2, h3⟩ := hp; rw [h2, h3]; rfl
      | some a => obtain ⟨_, _, h2, h3⟩ := hp; rw [decide_eq_true h2, decide_eq_true h3]; rfl
    rw [decide_eq_true hn, hb]; rfl
  | c :: cs, p, now, at_, n, last, hl, hw, hn, hd, hp => by
    unfold lsB at hl
    simp only [Bool.and_eq_true] at hl
    obtain ⟨⟨⟨⟨⟨h1, h2⟩, h3⟩, _⟩, _⟩, h6⟩ := hl
    have h1 := of_decide_eq_true h1
    have hnl : n < li.length := by rw [List.length_cons] at hn; omega
    have hc : cA li n = c := by
      rw [cA_at hnl]
      have := List.drop_eq_getElem_cons hnl
      rw [hd] at this
      injection this with this _
      exact this.symm
    have hd' : li.drop (n + 1) = cs := by
      have := List.drop_eq_getElem_cons hnl
      rw [hd] at this
      injection this with _ this
      exact this.symm
    have hk : c.n.toNat < 4096 := by omega
    have hrest : ∀ at_', 0 < at_' → runT li (listL (some c.t) cs) [] at_' (n + 1) c.t = true := fun at_' ha => runT_list wd li cs (some c) (now.set c.n.toNat c.v) at_' (n + 1) c.t h6 (by rw [List.length_set]; exact hw) (by rw [List.length_cons] at hn; omega) hd' ⟨rfl, h1.2.2.1, Nat.succ_pos _, ha⟩
    show runT li (timeL (p.map (·.t)) c.t ++ (valL c.v c.n.toNat ++ listL (some c.t) cs)) [] at_ n last = true
    by_cases ht : p.map (·.t) = some c.t
    · have e : timeL (p.map (·.t)) c.t = [] := if_pos ht
      rw [e, List.nil_append]
      cases p with
      | none => cases ht
      | some a =>
        obtain ⟨q1, q2, q3, q4⟩ := hp
        injection ht with ht
        have ht : a.t = c.t := ht
        rw [q1, ht, runT_val _ at_ hc hnl h3 hk h1.2.2.1]
        exact hrest at_ q4
    · have e : timeL (p.map (·.t)) c.t = 35 :: (Lib.itoa c.t ++ [10]) := if_neg ht
      have hlt : last < c.t := by
        cases p with
        | none => obtain ⟨q1, _⟩ := hp; omega
        | some a =>
          obtain ⟨q1, q2, q3, q4⟩ := hp
          have h2 : ahB a c = true := h2
          unfold ahB at h2
          have h2 := of_decide_eq_true h2
          have hne : a.t ≠ c.t := fun e => ht (by show some a.t = some c.t; rw [e])
          omega
      rw [e, runT_time _ at_ last hc hnl h1.2.2.1 (by omega) hlt, runT_val _ (at_ + 1) hc hnl h3 hk h1.2.2.1]
      exact hrest _ (Nat.succ_pos _)
theorem skip2 (li : List Ch) (s : List UInt8) : runT li (headT ++ s) [] 0 0 (-1) = runT li s [] 0 0 (-1) := rfl
theorem skip3 (li : List Ch) (s : List UInt8) : runT li (midT ++ s) [] 0 0 (-1) = runT li s [] 0 0 (-1) := rfl
theorem skip4 (li : List Ch) (s : List UInt8) : runT li (doneT ++ s) [] 0 0 (-1) = runT li s [] 0 0 (-1) := rfl
theorem runT_text {x : Wv} (h : mayW x = true) : runT x.li (textL x) [] 0 0 (-1) = true := by
  have hm := nice_of h
  obtain ⟨_, _, h3⟩ := may_parts h
  unfold textL topL
  simp only [List.append_assoc]
  rw [skip2]
  unfold varsL firstL
  rw [runT_flat x.li (varL x) 0 0 _ (List.range x.nm.length) (fun i hi => ⟨varN x i, varL_is x i, varN_no hm (List.mem_range.1 hi) (may_net h (List.mem_range.1 hi)).1, rfl⟩), skip3, runT_flat x.li (fun i => valL (sA x.fi i) i) 0 0 _ (List.range x.fi.length) (fun i hi => by
    have hi' : i < x.nm.length := by have := List.mem_range.1 hi; have := hm.lf; omega
    exact ⟨valN (sA x.fi i) i, valL_is _ _, valN_no (may_net h hi').2.1 (by have := hm.ln; omega), valN_tm (may_net h hi').2.1 i⟩), skip4]
  exact runT_list x.wd x.li x.li none x.fi 0 0 (-1) h3 (by have := hm.ln; have := hm.lf; omega) (by omega) rfl ⟨rfl, rfl, rfl⟩
end Go.Proofs.YtodpljgajjcdoaaGreatDoor

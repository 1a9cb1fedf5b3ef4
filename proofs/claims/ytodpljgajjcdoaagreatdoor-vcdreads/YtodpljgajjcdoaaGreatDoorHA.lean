/- Layer 19: the document's reader, plain: what it reads, and that it reads what is written. -/
import Derived.Test.YtodpljgajjcdoaaGreatDoorUY
namespace Go.Proofs.YtodpljgajjcdoaaGreatDoor
set_option maxRecDepth 100000
open Go.RowKit Lg Nl Go.Maps Wf Vd
set_option linter.unusedVariables false
set_option linter.unusedSimpArgs false

/-- a number's; -1: it is none -/
def numG : Int → List UInt8 → Int
  | n, [] => n
  | n, b :: r => if b.toNat < 48 ∨ 57 < b.toNat ∨ 461168601842738790 < n then -1 else numG (10 * n + ((b.toNat : Int) - 48)) r
def numR (l : List UInt8) : Int := if l = [] ∨ 19 < l.length ∨ (1 < l.length ∧ l.head? = some 48) then -1 else numG 0 l
/-- a code's -/
def netG : Nat → Int → Int → List UInt8 → Option Int
  | _, n, _, [] => some n
  | i, n, k, b :: r => if b.toNat < 33 ∨ 126 < b.toNat then none else netG (i + 1) (n + ((b.toNat : Int) - 33 + (if 0 < i then 1 else 0)) * k) (k * 94) r
def netR (l : List UInt8) (m : Nat) : Int := match netG 0 0 1 (l.take 3) with
  | none => -1
  | some n => if l = [] ∨ 3 < l.length ∨ (m : Int) ≤ n ∨ codeL n.toNat ≠ l then -1 else n
/-- a value's line -/
def chgL (l : List UInt8) (m : Nat) : Int × List UInt8 := match l with
  | [] => (-1, [])
  | b :: r => if b ≠ 98 then (netR r m, [b]) else match spl 32 r with
    | [v, c] => (netR c m, v)
    | _ => (-1, [])
/-- what is declared -/
def declR : List (List UInt8) → List ByteArray → List Int → Option (List (List UInt8) × List ByteArray × List Int)
  | [], nm, wd => some ([], nm, wd)
  | t :: r, nm, wd => if t = upT then some (t :: r, nm, wd) else match spl 32 t with
    | [_, _, c, _, e, _] => if 4096 ≤ nm.length then none else declR r (nm ++ [S (unN e)]) (wd ++ [numR c])
    | _ => none
def firR (m : Nat) : Nat → List (List UInt8) → List ByteArray → List (List UInt8) × List ByteArray
  | 0, ls, fi => (ls, fi)
  | _ + 1, [], fi => ([], fi)
  | n + 1, t :: r, fi => firR m n r (fi ++ [S (chgL t m).2])
def chgR (m : Nat) : List (List UInt8) → Int → List Ch → Option (List Ch)
  | [], _, li => some li
  | [_], _, li => some li
  | t :: u :: r, z, li => if isT t then chgR m (u :: r) (numR (t.drop 1)) li else if (chgL t m).1 < 0 then none else chgR m (u :: r) z (li ++ [⟨z, (chgL t m).1, S (chgL t m).2⟩])
def refM (l : List UInt8) : Option Wv := match declR ((spl 10 l).drop 2) [] [] with
  | none => none
  | some (r, nm, wd) => (chgR nm.length ((firR nm.length nm.length (r.drop 3) []).1.drop 1) (-1) []).map fun li => ⟨nm, wd, (firR nm.length nm.length (r.drop 3) []).2, li⟩
/-- what the document's Read tells -/
def keepR (l : List UInt8) : Option Wv := match refM l with
  | none => none
  | some x => if wrE x = 0 ∧ wrT x = l then some x else none

theorem spl_ne (c : UInt8) : ∀ l : List UInt8, spl c l ≠ []
  | [] => fun h => (by cases h)
  | x :: l => by
    unfold spl
    split
    · intro h; cases h
    · split <;> intro h <;> cases h
theorem numG_app (b : UInt8) : ∀ (l : List UInt8) (n m : Int), numG n l = m → 0 ≤ m → numG n (l ++ [b]) = numG m [b]
  | [], n, m, h, h0 => by
    have h : n = m := h
    rw [h]; rfl
  | c :: r, n, m, h, h0 => by
    rw [List.cons_append]
    unfold numG at h ⊢
    split
    · rename_i hc
      rw [if_pos hc] at h
      omega
    · rename_i hc
      rw [if_neg hc] at h
      exact numG_app b r _ m h h0
theorem numG_dig (m : Int) (k : Nat) (hk : k < 10) (h0 : m ≤ 461168601842738790) : numG m [UInt8.ofNat (48 + k)] = 10 * m + (k : Int) := by
  unfold numG
  rw [dig_at k hk, if_neg (by omega)]
  unfold numG
  omega
theorem numG_dec : ∀ u : Nat, u ≤ 4611686018427387904 → numG 0 (Lib.decDigits u) = (u : Int) := by
  intro u
  induction u using Nat.strongRecOn with
  | _ u ih =>
    intro hu
    rw [Lib.decDigits]
    split
    · rename_i h
      rw [numG_dig 0 u h (by omega)]
      omega
    · rename_i h
      rw [numG_app _ _ 0 ((u / 10 : Nat) : Int) (ih (u / 10) (by omega) (by omega)) (by omega), numG_dig _ (u % 10) (by omega) (by omega)]
      omega
theorem dec_lo {u : Nat} (h : u < 10) : Lib.decDigits u = [UInt8.ofNat (48 + u)] := by rw [Lib.decDigits]; exact dif_pos h
theorem dec_hi {u : Nat} (h : ¬ u < 10) : Lib.decDigits u = Lib.decDigits (u / 10) ++ [UInt8.ofNat (48 + u % 10)] := by
  conv => lhs; rw [Lib.decDigits]
  exact dif_neg h
theorem dec_head : ∀ u : Nat, 1 < (Lib.decDigits u).length → (Lib.decDigits u).head? ≠ some 48 := by
  intro u
  induction u using Nat.strongRecOn with
  | _ u ih =>
    intro hl
    by_cases h : u < 10
    · rw [dec_lo h] at hl
      exact absurd hl (by simp)
    · rw [dec_hi h]
      have hne := dec_ne (u / 10)
      by_cases h2 : 1 < (Lib.decDigits (u / 10)).length
      · have := ih (u / 10) (by omega) h2
        cases hd : Lib.decDigits (u / 10) with
        | nil => exact absurd hd hne
        | cons a r => rw [hd] at this; exact this
      · have h3 : u / 10 < 10 := by
          rcases Nat.lt_or_ge (u / 10) 10 with h3 | h3
          · exact h3
          · exfalso
            rw [dec_hi (by omega), List.length_append] at h2
            have := List.length_pos_iff.2 (dec_ne (u / 10 / 10))
            rw [List.length_singleton] at h2
            omega
        rw [dec_lo h3]
        show some (UInt8.ofNat (48 + u / 10)) ≠ some 48
        intro e
        injection e with e
        have e := congrArg UInt8.toNat e
        rw [dig_at (u / 10) h3] at e
        have : ((48 : UInt8).toNat) = 48 := rfl
        omega
theorem decR_len : ∀ (k u : Nat), u < 10 ^ k → 0 < k → (Lib.decDigits u).length ≤ k
  | 0, _, _, h => absurd h (by omega)
  | k + 1, u, hu, _ => by
    by_cases h : u < 10
    · rw [dec_lo h]; simp
    · rw [dec_hi h]
      have hk : 0 < k := by
        rcases Nat.eq_zero_or_pos k with e | e
        · subst e; simp at hu; omega
        · exact e
      have := decR_len k (u / 10) (by rw [Nat.pow_succ] at hu; omega) hk
      rw [List.length_append]
      simp
      omega
theorem numR_itoa {n : Int} (h0 : 0 ≤ n) (h1 : n ≤ 4611686018427387904) : numR (Lib.itoa n) = n := by
  unfold numR
  rw [itoa_nat n h0]
  have h19 : (10 : Nat) ^ 19 = 10000000000000000000 := by decide
  have hl : (Lib.decDigits n.toNat).length ≤ 19 := decR_len 19 n.toNat (by omega) (by omega)
  rw [if_neg]
  · rw [numG_dec n.toNat (by omega)]
    omega
  · rintro (h | h | ⟨h, h2⟩)
    · exact dec_ne _ h
    · omega
    · exact dec_head _ h h2
theorem netG_code {i : Nat} (hi : i < 4096) : netG 0 0 1 ((codeL i).take 3) = some (i : Int) := by
  unfold codeL
  by_cases h : i < 94
  · rw [if_pos h]
    show netG 0 0 1 [by8 (33 + i)] = _
    unfold netG
    rw [by8_toNat _ (by omega), if_neg (by omega)]
    unfold netG
    congr 1
    simp
    omega
  · rw [if_neg h]
    show netG 0 0 1 [by8 (33 + i % 94), by8 (33 + (i / 94 - 1))] = _
    unfold netG
    rw [by8_toNat _ (by omega), if_neg (by omega)]
    unfold netG
    rw [by8_toNat _ (by omega), if_neg (by omega)]
    unfold netG
    congr 1
    simp
    omega
theorem netR_code {i m : Nat} (hi : i < m) (hm : m ≤ 4096) : netR (codeL i) m = (i : Int) := by
  unfold netR
  rw [netG_code (by omega)]
  show (if codeL i = [] ∨ 3 < (codeL i).length ∨ (m : Int) ≤ (i : Int) ∨ codeL ((i : Int).toNat) ≠ codeL i then (-1 : Int) else (i : Int)) = _
  have := codeL_len i
  rw [if_neg]
  rintro (h | h | h | h)
  · rw [h] at this; exact absurd this.1 (by decide)
  · omega
  · omega
  · exact h (by rw [Int.toNat_natCast])
theorem no32 {l : List UInt8} (h : ∀ b ∈ l, 33 ≤ b.toNat) : (32 : UInt8) ∉ l := fun e => absurd (h 32 e) (by decide)
theorem chgL_val {v : ByteArray} {i m : Nat} (hv : vec (L v) = true) (hi : i < m) (hm : m ≤ 4096) : chgL (valN v i) m = ((i : Int), L v) := by
  unfold valN
  split
  · rename_i h
    have hl : (L v).length = 1 := by rw [len_L]; exact h
    cases hx : L v with
    | nil => rw [hx] at hl; cases hl
    | cons x r =>
      have hr : r = [] := by rw [hx] at hl; cases r with | nil => rfl | cons _ _ => simp at hl
      subst hr
      have hn : x ≠ 98 := by
        have := vec_byte hv (b := x) (by rw [hx]; exact List.mem_cons_self)
        rcases this with rfl | rfl | rfl | rfl <;> decide
      show (if x ≠ 98 then (netR (codeL i) m, [x]) else _) = _
      rw [if_pos hn, netR_code hi hm]
  · have h32 : (32 : UInt8) ∉ L v := fun hb => by
      have := vec_byte hv hb
      revert this; decide
    show (if (98 : UInt8) ≠ 98 then (netR (L v ++ 32 :: codeL i) m, [98]) else match spl 32 (L v ++ 32 :: codeL i) with | [v, c] => (netR c m, v) | _ => ((-1 : Int), ([] : List UInt8))) = _
    rw [if_neg (by decide), spl_at 32 _ _ h32, spl_no 32 _ (no32 fun b hb => (code_byte (by omega) hb).1)]
    show (netR (codeL i) m, L v) = _
    rw [netR_code hi hm]
theorem spl_var {x : Wv} (hm : Nice x) {i : Nat} (hi : i < x.nm.length) (hn : nameB (sA x.nm i) = true) : spl 32 (varN x i) = [[36, 118, 97, 114], [119, 105, 114, 101], Lib.itoa (iA x.wd i), codeL i, nmT (sA x.nm i), [36, 101, 110, 100]] := by
  have hln := hm.ln
  have hw := hm.wd i hi
  have e : varN x i = [36, 118, 97, 114] ++ 32 :: ([119, 105, 114, 101] ++ 32 :: (Lib.itoa (iA x.wd i) ++ 32 :: (codeL i ++ 32 :: (nmT (sA x.nm i) ++ 32 :: [36, 101, 110, 100])))) := rfl
  rw [e, spl_at 32 _ _ (by decide), spl_at 32 _ _ (by decide), spl_at 32 _ _ (no32 fun b hb => by have := itoa_dig hw.1 hb; omega), spl_at 32 _ _ (no32 fun b hb => (code_byte (by omega) hb).1), spl_at 32 _ _ (no32 fun b hb => (nmT_byte hn hb).1), spl_no 32 _ (by decide)]
theorem declR_run {x : Wv} (h : mayW x = true) (hu : undB x = false) (r : List UInt8) : ∀ (d j : Nat), j + d = x.nm.length → declR (spl 10 ((List.range' j d).flatMap (varL x) ++ (upT ++ 10 :: r))) (x.nm.take j) (x.wd.take j) = some (upT :: spl 10 r, x.nm, x.wd)
  | 0, j, hj => by
    have hm := nice_of h
    rw [Nat.add_zero] at hj
    show declR (spl 10 (upT ++ 10 :: r)) _ _ = _
    rw [spl_at 10 upT r (by decide)]
    unfold declR
    rw [if_pos rfl, hj, List.take_length, ← hm.lw, List.take_length]
  | d + 1, j, hj => by
    have hm := nice_of h
    have hi : j < x.nm.length := by omega
    have hw : j < x.wd.length := by have := hm.lw; omega
    have hn := (may_net h hi).1
    have hun : L (sA x.nm j) ≠ [95] := by
      intro e
      have : undB x = true := by
        unfold undB
        rw [List.any_eq_true]
        exact ⟨sA x.nm j, by rw [sA_at hi]; exact List.getElem_mem hi, decide_eq_true e⟩
      rw [hu] at this; cases this
    rw [List.range'_succ, List.flatMap_cons, varL_is, List.append_assoc, line_app, spl_at 10 _ _ (varN_no hm hi hn)]
    unfold declR
    rw [if_neg (show varN x j ≠ upT from fun e => by
      have e : (36 :: 118 :: (varN x j).drop 2 : List UInt8) = 36 :: 117 :: upT.drop 2 := e
      injection e with _ e
      injection e with e _
      exact absurd e (by decide)), spl_var hm hi hn]
    have e1 : x.nm.take j ++ [S (unN (nmT (sA x.nm j)))] = x.nm.take (j + 1) := by rw [unN_nmT hun, List.take_succ_eq_append_getElem hi, sA_at hi]
    have e2 : x.wd.take j ++ [iA x.wd j] = x.wd.take (j + 1) := by rw [List.take_succ_eq_append_getElem hw, iA_at hw]
    show (if 4096 ≤ (x.nm.take j).length then none else declR _ (x.nm.take j ++ [S (unN (nmT (sA x.nm j)))]) (x.wd.take j ++ [numR (Lib.itoa (iA x.wd j))])) = _
    have hln := hm.ln
    have hwd := hm.wd j hi
    rw [if_neg (by rw [List.length_take]; omega), numR_itoa hwd.1 (by omega), e1, e2]
    exact declR_run h hu r d (j + 1) (by omega)
theorem firR_run {x : Wv} (h : mayW x = true) (s : List UInt8) : ∀ (d j : Nat), j + d = x.fi.length → firR x.nm.length d (spl 10 ((List.range' j d).flatMap (fun i => valL (sA x.fi i) i) ++ s)) (x.fi.take j) = (spl 10 s, x.fi)
  | 0, j, hj => by
    rw [Nat.add_zero] at hj
    show (spl 10 s, x.fi.take j) = _
    rw [hj, List.take_length]
  | d + 1, j, hj => by
    have hm := nice_of h
    have hi : j < x.nm.length := by have := hm.lf; omega
    have hf : j < x.fi.length := by omega
    have hv := (may_net h hi).2.1
    rw [List.range'_succ, List.flatMap_cons, valL_is, List.append_assoc, line_app, spl_at 10 _ _ (valN_no hv (by have := hm.ln; omega))]
    unfold firR
    rw [chgL_val hv hi hm.ln]
    show firR _ _ _ (x.fi.take j ++ [S (L (sA x.fi j))]) = _
    rw [S_of_L, sA_at hf, ← List.take_succ_eq_append_getElem hf]
    exact firR_run h s d (j + 1) (by omega)
theorem chgR_cons {m : Nat} {t : List UInt8} {ls : List (List UInt8)} (h : ls ≠ []) (z : Int) (li : List Ch) : chgR m (t :: ls) z li = if isT t then chgR m ls (numR (t.drop 1)) li else if (chgL t m).1 < 0 then none else chgR m ls z (li ++ [⟨z, (chgL t m).1, S (chgL t m).2⟩]) := by
  cases ls with
  | nil => exact absurd rfl h
  | cons u r => rfl
theorem chgR_val {n : Nat} {c : Ch} (hn : n ≤ 4096) (s : List UInt8) (z : Int) (li : List Ch) (hv : vec (L c.v) = true) (h0 : 0 ≤ c.n) (h1 : c.n.toNat < n) (hz : z = c.t) : chgR n (spl 10 (valL c.v c.n.toNat ++ s)) z li = chgR n (spl 10 s) z (li ++ [c]) := by
  obtain ⟨b, q, hb, h2⟩ := valN_head hv c.n.toNat
  have ht : isT (valN c.v c.n.toNat) = false := by
    rw [hb]
    show (b == 35) = false
    rcases h2 with rfl | rfl | rfl | rfl | rfl <;> rfl
  rw [valL_is, line_app, spl_at 10 _ _ (valN_no hv (by omega)), chgR_cons (spl_ne 10 s), ht, if_neg (by decide), chgL_val hv h1 hn, if_neg (by show ¬ ((c.n.toNat : Int) < 0); omega)]
  show chgR n (spl 10 s) z (li ++ [(⟨z, (c.n.toNat : Int), S (L c.v)⟩ : Ch)]) = _
  rw [S_of_L, Int.toNat_of_nonneg h0, hz]
theorem chgR_time {t : Int} (h0 : 0 ≤ t) (h1 : t ≤ 4611686018427387904) (s : List UInt8) (n : Nat) (z : Int) (li : List Ch) : chgR n (spl 10 ((35 :: (Lib.itoa t ++ [10])) ++ s)) z li = chgR n (spl 10 s) t li := by
  have e : (35 :: (Lib.itoa t ++ [10])) ++ s = (35 :: Lib.itoa t) ++ 10 :: s := by simp only [List.append_assoc, List.cons_append, List.nil_append]
  have hno : (10 : UInt8) ∉ (35 :: Lib.itoa t) := no10 fun b hb => by
    rcases List.mem_cons.1 hb with rfl | hb
    · decide
    · exact ne10 (by have := itoa_dig h0 hb; omega)
  rw [e, spl_at 10 _ _ hno, chgR_cons (spl_ne 10 s), if_pos (show isT (35 :: Lib.itoa t) = true from rfl), List.drop_one, List.tail_cons, numR_itoa h0 h1]
theorem chgR_run (wd : List Int) (n : Nat) (hn : n ≤ 4096) : ∀ (cs : List Ch) (p : Option Ch) (now : List ByteArray) (z : Int) (li : List Ch), lsB wd p now cs = true → now.length = n → (match p with | none => True | some a => z = a.t) → chgR n (spl 10 (listL (p.map (·.t)) cs)) z li = some (li ++ cs)
  | [], p, now, z, li, _, _, _ => by
    show some li = _
    rw [List.append_nil]
  | c :: cs, p, now, z, li, hl, hw, hp => by
    unfold lsB at hl
    simp only [Bool.and_eq_true] at hl
    obtain ⟨⟨⟨⟨⟨h1, h2⟩, h3⟩, _⟩, _⟩, h6⟩ := hl
    have h1 := of_decide_eq_true h1
    have hkn : c.n.toNat < n := by omega
    have hrest : chgR n (spl 10 (listL (some c.t) cs)) c.t (li ++ [c]) = some (li ++ (c :: cs)) := by
      have := chgR_run wd n hn cs (some c) (now.set c.n.toNat c.v) c.t (li ++ [c]) h6 (by rw [List.length_set]; exact hw) rfl
      rw [List.append_assoc] at this
      exact this
    show chgR n (spl 10 (timeL (p.map (·.t)) c.t ++ (valL c.v c.n.toNat ++ listL (some c.t) cs))) z li = _
    by_cases ht : p.map (·.t) = some c.t
    · have e : timeL (p.map (·.t)) c.t = [] := if_pos ht
      have hz : z = c.t := by
        cases p with
        | none => cases ht
        | some a => injection ht with ht; exact hp.trans ht
      rw [e, List.nil_append, chgR_val hn _ z li h3 h1.1 hkn hz, hz]
      exact hrest
    · have e : timeL (p.map (·.t)) c.t = 35 :: (Lib.itoa c.t ++ [10]) := if_neg ht
      rw [e, chgR_time h1.2.2.1 (by omega), chgR_val hn _ c.t li h3 h1.1 hkn rfl]
      exact hrest
/-- the document's reader reads what is written -/
theorem refM_text {x : Wv} (h : mayW x = true) (hu : undB x = false) : refM (textL x) = some x := by
  have hm := nice_of h
  obtain ⟨_, _, h3⟩ := may_parts h
  obtain ⟨s4, hs4⟩ : ∃ s4, s4 = listL none x.li := ⟨_, rfl⟩
  obtain ⟨s3, hs3⟩ : ∃ s3, s3 = (List.range' 0 x.fi.length).flatMap (fun i => valL (sA x.fi i) i) ++ (enT ++ 10 :: s4) := ⟨_, rfl⟩
  obtain ⟨s2, hs2⟩ : ∃ s2, s2 = (List.range' 0 x.nm.length).flatMap (varL x) ++ (upT ++ 10 :: (deT ++ 10 :: (dvT ++ 10 :: s3))) := ⟨_, rfl⟩
  have ht : textL x = tsT ++ 10 :: (scT ++ 10 :: s2) := by
    rw [hs2, hs3, hs4]
    unfold textL topL varsL firstL
    rw [List.range_eq_range', List.range_eq_range']
    simp only [List.append_assoc]
    rfl
  have e0 : (spl 10 (textL x)).drop 2 = spl 10 s2 := by rw [ht, spl_at 10 _ _ (by decide), spl_at 10 _ _ (by decide)]; rfl
  have e1 : declR (spl 10 s2) [] [] = some (upT :: spl 10 (deT ++ 10 :: (dvT ++ 10 :: s3)), x.nm, x.wd) := by
    rw [hs2]
    exact declR_run h hu _ x.nm.length 0 (by omega)
  have e2 : (upT :: spl 10 (deT ++ 10 :: (dvT ++ 10 :: s3))).drop 3 = spl 10 s3 := by rw [spl_at 10 deT _ (by decide), spl_at 10 dvT _ (by decide)]; rfl
  have e3 : firR x.nm.length x.nm.length (spl 10 s3) [] = (enT :: spl 10 s4, x.fi) := by
    have := firR_run h (enT ++ 10 :: s4) x.fi.length 0 (by omega)
    rw [spl_at 10 enT _ (by decide), ← hs3, hm.lf] at this
    exact this
  have e4 : chgR x.nm.length (spl 10 s4) (-1) [] = some x.li := by
    rw [hs4]
    exact chgR_run x.wd x.nm.length hm.ln x.li none x.fi (-1) [] h3 hm.lf trivial
  unfold refM
  rw [e0, e1]
  show (chgR x.nm.length ((firR x.nm.length x.nm.length ((upT :: spl 10 (deT ++ 10 :: (dvT ++ 10 :: s3))).drop 3) []).1.drop 1) (-1) []).map (fun li => (⟨x.nm, x.wd, (firR x.nm.length x.nm.length ((upT :: spl 10 (deT ++ 10 :: (dvT ++ 10 :: s3))).drop 3) []).2, li⟩ : Wv)) = _
  rw [e2, e3]
  show (chgR x.nm.length (spl 10 s4) (-1) []).map _ = _
  rw [e4]
  rfl
theorem wr_zero {x : Wv} (h : wrE x = 0) : mayW x = true ∧ undB x = false := by
  unfold wrE at h
  cases hm : mayW x with
  | false => rw [hm] at h; simp at h
  | true =>
    rw [hm, if_pos rfl] at h
    cases hu : undB x with
    | true => rw [hu] at h; simp at h
    | false => exact ⟨rfl, rfl⟩
/-- both readers keep the same -/
theorem keepR_eq (l : List UInt8) : keepR l = keepM l := by
  have up : ∀ {x : Wv}, wrE x = 0 ∧ wrT x = l → readM l = some x ∧ refM l = some x := fun {x} h => by
    obtain ⟨a, b⟩ := wr_zero h.1
    have e : textL x = l := by
      have := h.2
      unfold wrT at this
      rw [if_pos h.1] at this
      exact this
    rw [← e]
    exact ⟨readM_text a b, refM_text a b⟩
  unfold keepR keepM
  cases h1 : refM l with
  | none =>
    cases h2 : readM l with
    | none => rfl
    | some y =>
      show none = if wrE y = 0 ∧ wrT y = l then some y else none
      by_cases hc : wrE y = 0 ∧ wrT y = l
      · have := (up hc).2
        rw [h1] at this; cases this
      · rw [if_neg hc]
  | some x =>
    show (if wrE x = 0 ∧ wrT x = l then some x else none) = _
    by_cases hc : wrE x = 0 ∧ wrT x = l
    · rw [(up hc).1]
    · rw [if_neg hc]
      cases h2 : readM l with
      | none => rfl
      | some y =>
        show none = if wrE y = 0 ∧ wrT y = l then some y else none
        by_cases hd : wrE y = 0 ∧ wrT y = l
        · have := (up hd).2
          rw [h1] at this
          injection this with this
          subst this
          exact absurd hd hc
        · rw [if_neg hd]
end Go.Proofs.YtodpljgajjcdoaaGreatDoor

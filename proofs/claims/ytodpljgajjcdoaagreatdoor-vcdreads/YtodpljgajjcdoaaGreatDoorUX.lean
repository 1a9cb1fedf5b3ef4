/- Layer 19: what is written is read as it was: plain, of every waveform that may be. -/
import Derived.Test.YtodpljgajjcdoaaGreatDoorGUr
import Derived.Test.YtodpljgajjcdoaaGreatDoorUV
namespace Go.Proofs.YtodpljgajjcdoaaGreatDoor
set_option maxRecDepth 100000
open Go.RowKit Lg Nl Go.Maps Wf Vd
set_option linter.unusedVariables false
set_option linter.unusedSimpArgs false

theorem parse_app (b : UInt8) (hb : 48 ≤ b.toNat ∧ b.toNat ≤ 57) : ∀ (l : List UInt8) (acc u : Nat), Lib.parseUint10 acc l = .ok u → u < 1000000000000000000 → Lib.parseUint10 acc (l ++ [b]) = .ok (u * 10 + (b.toNat - 48))
  | [], acc, u, h, hu => by
    injection h with h
    subst h
    show (if 48 ≤ b.toNat ∧ b.toNat ≤ 57 then if 1844674407370955162 ≤ acc then _ else if 18446744073709551616 ≤ acc * 10 + (b.toNat - 48) then _ else Lib.NumEnd.ok (acc * 10 + (b.toNat - 48)) else _) = _
    rw [if_pos hb, if_neg (by omega), if_neg (by omega)]
  | c :: r, acc, u, h, hu => by
    rw [Lib.parseUint10] at h
    show Lib.parseUint10 acc (c :: (r ++ [b])) = _
    rw [Lib.parseUint10]
    by_cases h1 : 48 ≤ c.toNat ∧ c.toNat ≤ 57
    · rw [if_pos h1] at h ⊢
      by_cases h2 : 1844674407370955162 ≤ acc
      · rw [if_pos h2] at h; cases h
      · rw [if_neg h2] at h ⊢
        by_cases h3 : 18446744073709551616 ≤ acc * 10 + (c.toNat - 48)
        · rw [if_pos h3] at h; cases h
        · rw [if_neg h3] at h ⊢
          exact parse_app b hb r _ u h hu
    · rw [if_neg h1] at h; cases h
theorem parse_dec (M : Nat) (hM : M ≤ 4611686018427387904) : ∀ (u : Nat), u ≤ M → Lib.parseUint10 0 (Lib.decDigits u) = .ok u := by
  intro u
  induction u using Nat.strongRecOn with
  | _ u ih =>
    intro hu
    rw [Lib.decDigits]
    split
    · rename_i h
      have e := parse_app (UInt8.ofNat (48 + u)) (by rw [dig_at u h]; omega) [] 0 0 rfl (by omega)
      rw [List.nil_append] at e
      rw [e, dig_at u h]
      congr 1
      omega
    · rename_i h
      rw [parse_app (UInt8.ofNat (48 + u % 10)) (by rw [dig_at _ (by omega)]; omega) _ 0 (u / 10) (ih (u / 10) (by omega) (by omega)) (by omega), dig_at (u % 10) (by omega)]
      congr 1
      omega
theorem numA_itoa {n : Int} (h0 : 0 ≤ n) (h1 : n ≤ 4611686018427387904) : numA (Lib.itoa n) = some n := by
  have hp : Lib.parseUint10 0 (Lib.itoa n) = .ok n.toNat := by rw [itoa_nat n h0]; exact parse_dec n.toNat (by omega) _ (Nat.le_refl _)
  have hd := fun b hb => itoa_dig h0 (b := b) hb
  have hne := itoa_ne h0
  cases hl : Lib.itoa n with
  | nil => exact absurd hl hne
  | cons c r =>
    have hc := hd c (by rw [hl]; exact List.mem_cons_self)
    have e := Lib.atoiAll_plain c r (by omega) (by omega)
    have e2 : Lib.parseMag (c :: r) = .ok n.toNat := by
      unfold Lib.parseMag
      rw [if_neg (by intro e; cases e), ← hl]
      exact hp
    rw [e2] at e
    have e3 : Lib.signless (.ok n.toNat) = .ok (n.toNat : Int) := if_neg (by omega)
    rw [e3] at e
    unfold numA
    rw [e]
    show some (n.toNat : Int) = some n
    congr 1
    omega
theorem fixM_at (t : List UInt8) (ts : List (List UInt8)) (s : List UInt8) (h : (10 : UInt8) ∉ t) : fixM (t :: ts) (t ++ 10 :: s) = fixM ts s := by
  show (match cutO 10 (t ++ 10 :: s) with | none => none | some (a, b) => if a = t then fixM ts b else none) = _
  rw [cutO_at 10 t s h]
  exact if_pos rfl
/-- the codes of so many nets -/
def cdN : Nat → Cds
  | 0 => []
  | n + 1 => (codeL n, (n : Int)) :: cdN n
theorem cdN_at : ∀ (n i : Nat), n ≤ 4096 → i < n → cdL (cdN n) (codeL i) = some (i : Int)
  | 0, i, _, h => absurd h (Nat.not_lt_zero _)
  | n + 1, i, hn, h => by
    show (if codeL i = codeL n then some (n : Int) else cdL (cdN n) (codeL i)) = _
    by_cases e : i = n
    · rw [e, if_pos rfl]
    · rw [if_neg (fun q => e (codeL_inj (by omega) (by omega) q))]
      exact cdN_at n i (by omega) (by omega)
theorem valM_at {a : Cds} {v : ByteArray} {i : Nat} (hv : vec (L v) = true) (hc : cdL a (codeL i) = some (i : Int)) : valM a (valN v i) = some ((i : Int), L v) := by
  unfold valN
  split
  · rename_i h
    have hl : (L v).length = 1 := by rw [len_L]; exact h
    cases hx : L v with
    | nil => rw [hx] at hl; cases hl
    | cons x r =>
      have hr : r = [] := by rw [hx] at hl; cases r with | nil => rfl | cons _ _ => simp at hl
      subst hr
      have hn : x ≠ 98 := by
        have := vec_byte hv (b := x) (by rw [hx]; exact List.mem_cons_self)
        rcases this with rfl | rfl | rfl | rfl <;> decide
      have e : vcM x (codeL i) = ([x], codeL i) := if_neg hn
      show (cdL a (vcM x (codeL i)).2).map (fun n => (n, (vcM x (codeL i)).1)) = _
      rw [e]
      show (cdL a (codeL i)).map (fun n => (n, [x])) = _
      rw [hc]; rfl
  · have h32 : (32 : UInt8) ∉ L v := fun hb => by
      have := vec_byte hv hb
      revert this; decide
    have e : vcM 98 (L v ++ 32 :: codeL i) = (L v, codeL i) := by
      show (if (98 : UInt8) = 98 then (match cutO 32 (L v ++ 32 :: codeL i) with | some p => p | none => (_, [])) else _) = _
      rw [if_pos rfl, cutO_at 32 _ _ h32]
    show (cdL a (vcM 98 (L v ++ 32 :: codeL i)).2).map (fun n => (n, (vcM 98 (L v ++ 32 :: codeL i)).1)) = _
    rw [e]
    show (cdL a (codeL i)).map (fun n => (n, L v)) = _
    rw [hc]; rfl
theorem S_of_L (s : ByteArray) : S (L s) = s := L_inj (by rw [L_S])
theorem unN_nmT {s : ByteArray} (h : L s ≠ [95]) : S (unN (nmT s)) = s := by
  unfold nmT
  split
  · rename_i hs
    have e : L s = [] := List.eq_nil_of_length_eq_zero (by rw [len_L]; exact hs)
    show S (if ([95] : List UInt8) = [95] then [] else [95]) = s
    rw [if_pos rfl, ← e, S_of_L]
  · show S (if L s = [95] then [] else L s) = s
    rw [if_neg h, S_of_L]
theorem netM_at {x : Wv} (hm : Nice x) {i : Nat} (hi : i < x.nm.length) (hn : nameB (sA x.nm i) = true) : netM (varN x i) = some (codeL i, unN (nmT (sA x.nm i)), iA x.wd i) := by
  have hln := hm.ln
  have hw := hm.wd i hi
  have no32 : ∀ {l : List UInt8}, (∀ b ∈ l, 33 ≤ b.toNat) → (32 : UInt8) ∉ l := fun h e => absurd (h 32 e) (by decide)
  have e : varN x i = [36, 118, 97, 114] ++ 32 :: ([119, 105, 114, 101] ++ 32 :: (Lib.itoa (iA x.wd i) ++ 32 :: (codeL i ++ 32 :: (nmT (sA x.nm i) ++ 32 :: [36, 101, 110, 100])))) := rfl
  have hs : spl 32 (varN x i) = [[36, 118, 97, 114], [119, 105, 114, 101], Lib.itoa (iA x.wd i), codeL i, nmT (sA x.nm i), [36, 101, 110, 100]] := by
    rw [e, spl_at 32 _ _ (by decide), spl_at 32 _ _ (by decide), spl_at 32 _ _ (no32 fun b hb => by have := itoa_dig hw.1 hb; omega), spl_at 32 _ _ (no32 fun b hb => (code_byte (by omega) hb).1), spl_at 32 _ _ (no32 fun b hb => (nmT_byte hn hb).1), spl_no 32 _ (by decide)]
  unfold netM
  rw [hs]
  show (numA (Lib.itoa (iA x.wd i))).map (fun v => (codeL i, unN (nmT (sA x.nm i)), v)) = _
  rw [numA_itoa hw.1 (by omega)]
  rfl
theorem line_app (l s : List UInt8) : (l ++ [10]) ++ s = l ++ 10 :: s := by simp only [List.append_assoc, List.cons_append, List.nil_append]
theorem nets_run {x : Wv} (h : mayW x = true) (hu : undB x = false) (r : List UInt8) : ∀ (d j k : Nat), j + d = x.nm.length → d < k → netsM k ((List.range' j d).flatMap (varL x) ++ (upT ++ 10 :: r)) (cdN j) (x.nm.take j) (x.wd.take j) = some (r, cdN x.nm.length, x.nm, x.wd)
  | 0, j, 0, _, hk => absurd hk (Nat.not_lt_zero _)
  | 0, j, k + 1, hj, hk => by
    have hm := nice_of h
    rw [Nat.add_zero] at hj
    show netsM (k + 1) (upT ++ 10 :: r) _ _ _ = _
    rw [netsM_succ, cutO_at 10 upT r (by decide)]
    show netsU k upT r _ _ _ = _
    unfold netsU
    rw [if_pos rfl, hj, List.take_length, ← hm.lw, List.take_length]
  | d + 1, j, 0, _, hk => absurd hk (Nat.not_lt_zero _)
  | d + 1, j, k + 1, hj, hk => by
    have hm := nice_of h
    have hi : j < x.nm.length := by omega
    have hw : j < x.wd.length := by have := hm.lw; omega
    have hn := (may_net h hi).1
    have hun : L (sA x.nm j) ≠ [95] := by
      intro e
      have : undB x = true := by
        unfold undB
        rw [List.any_eq_true]
        exact ⟨sA x.nm j, by rw [sA_at hi]; exact List.getElem_mem hi, decide_eq_true e⟩
      rw [hu] at this; cases this
    rw [List.range'_succ, List.flatMap_cons, varL_is, List.append_assoc, line_app, netsM_succ, cutO_at 10 _ _ (varN_no hm hi hn)]
    show netsU k (varN x j) _ _ _ _ = _
    unfold netsU
    rw [if_neg (show varN x j ≠ upT from fun e => by
      have e : (36 :: 118 :: (varN x j).drop 2 : List UInt8) = 36 :: 117 :: upT.drop 2 := e
      injection e with _ e
      injection e with e _
      exact absurd e (by decide)), netM_at hm hi hn]
    have e1 : x.nm.take j ++ [S (unN (nmT (sA x.nm j)))] = x.nm.take (j + 1) := by rw [unN_nmT hun, List.take_succ_eq_append_getElem hi, sA_at hi]
    have e2 : x.wd.take j ++ [iA x.wd j] = x.wd.take (j + 1) := by rw [List.take_succ_eq_append_getElem hw, iA_at hw]
    have e3 : ((codeL j, ((x.nm.take j).length : Int)) :: cdN j : Cds) = cdN (j + 1) := by
      rw [List.length_take, Nat.min_eq_left (by omega)]; rfl
    show netsM k _ ((codeL j, ((x.nm.take j).length : Int)) :: cdN j) (x.nm.take j ++ [S (unN (nmT (sA x.nm j)))]) (x.wd.take j ++ [iA x.wd j]) = _
    rw [e1, e2, e3]
    exact nets_run h hu r d (j + 1) k (by omega) (by omega)
theorem fir_run {x : Wv} (h : mayW x = true) (r : List UInt8) : ∀ (d j k : Nat), j + d = x.fi.length → d < k → firM k ((List.range' j d).flatMap (fun i => valL (sA x.fi i) i) ++ (enT ++ 10 :: r)) (cdN x.nm.length) (x.fi.take j) = some (r, x.fi)
  | 0, j, 0, _, hk => absurd hk (Nat.not_lt_zero _)
  | 0, j, k + 1, hj, hk => by
    rw [Nat.add_zero] at hj
    show firM (k + 1) (enT ++ 10 :: r) _ _ = _
    rw [firM_succ, cutO_at 10 enT r (by decide)]
    show firU k enT r _ _ = _
    unfold firU
    rw [if_pos rfl, hj, List.take_length]
  | d + 1, j, 0, _, hk => absurd hk (Nat.not_lt_zero _)
  | d + 1, j, k + 1, hj, hk => by
    have hm := nice_of h
    have hi : j < x.nm.length := by have := hm.lf; omega
    have hf : j < x.fi.length := by omega
    have hv := (may_net h hi).2.1
    rw [List.range'_succ, List.flatMap_cons, valL_is, List.append_assoc, line_app, firM_succ, cutO_at 10 _ _ (valN_no hv (by have := hm.ln; omega))]
    show firU k (valN (sA x.fi j) j) _ _ _ = _
    unfold firU
    rw [if_neg (show valN (sA x.fi j) j ≠ enT from fun e => by
      obtain ⟨b, q, h1, h2⟩ := valN_head hv j
      rw [h1] at e
      have e : (b :: q : List UInt8) = 36 :: enT.drop 1 := e
      injection e with e _
      rw [e] at h2
      exact absurd h2 (by decide)), valM_at hv (cdN_at _ j hm.ln hi)]
    show firM k _ _ (x.fi.take j ++ [S (L (sA x.fi j))]) = _
    rw [S_of_L, sA_at hf, ← List.take_succ_eq_append_getElem hf]
    exact fir_run h r d (j + 1) k (by omega) (by omega)
theorem chM_val {n : Nat} {c : Ch} (hn : n ≤ 4096) (s : List UInt8) (z : Int) (li : List Ch) (k : Nat) (hv : vec (L c.v) = true) (h0 : 0 ≤ c.n) (h1 : c.n.toNat < n) (hz : z = c.t) : chM (k + 1) (valL c.v c.n.toNat ++ s) (cdN n) z li = chM k s (cdN n) z (li ++ [c]) := by
  obtain ⟨b, q, hb, h2⟩ := valN_head hv c.n.toNat
  have ht : isT (valN c.v c.n.toNat) = false := by
    rw [hb]
    show (b == 35) = false
    rcases h2 with rfl | rfl | rfl | rfl | rfl <;> rfl
  have hne : valN c.v c.n.toNat ++ 10 :: s ≠ [] := by rw [hb]; intro e; cases e
  rw [valL_is, line_app]
  show (if valN c.v c.n.toNat ++ 10 :: s = [] then some li else match cutO 10 (valN c.v c.n.toNat ++ 10 :: s) with
    | none => none
    | some (t, r) => if isT t then (match numA (t.drop 1) with | none => none | some z' => chM k r (cdN n) z' li) else match valM (cdN n) t with
      | none => none
      | some (m, v) => chM k r (cdN n) z (li ++ [(⟨z, m, S v⟩ : Ch)])) = _
  rw [if_neg hne, cutO_at 10 _ _ (valN_no hv (by omega))]
  show (if isT (valN c.v c.n.toNat) then _ else match valM (cdN n) (valN c.v c.n.toNat) with
      | none => none
      | some (m, v) => chM k s (cdN n) z (li ++ [(⟨z, m, S v⟩ : Ch)])) = _
  rw [ht, if_neg (by decide), valM_at hv (cdN_at n _ hn h1)]
  show chM k s (cdN n) z (li ++ [(⟨z, (c.n.toNat : Int), S (L c.v)⟩ : Ch)]) = _
  rw [S_of_L, Int.toNat_of_nonneg h0, hz]
theorem chM_time {t : Int} (h0 : 0 ≤ t) (h1 : t ≤ 4611686018427387904) (s : List UInt8) (a : Cds) (z : Int) (li : List Ch) (k : Nat) : chM (k + 1) ((35 :: (Lib.itoa t ++ [10])) ++ s) a z li = chM k s a t li := by
  have e : (35 :: (Lib.itoa t ++ [10])) ++ s = (35 :: Lib.itoa t) ++ 10 :: s := by simp only [List.append_assoc, List.cons_append, List.nil_append]
  have hno : (10 : UInt8) ∉ (35 :: Lib.itoa t) := no10 fun b hb => by
    rcases List.mem_cons.1 hb with rfl | hb
    · decide
    · exact ne10 (by have := itoa_dig h0 hb; omega)
  rw [e]
  show (if (35 :: Lib.itoa t) ++ 10 :: s = [] then some li else match cutO 10 ((35 :: Lib.itoa t) ++ 10 :: s) with
    | none => none
    | some (t, r) => if isT t then (match numA (t.drop 1) with | none => none | some z' => chM k r a z' li) else match valM a t with
      | none => none
      | some (m, v) => chM k r a z (li ++ [(⟨z, m, S v⟩ : Ch)])) = _
  rw [if_neg (by intro e; cases e), cutO_at 10 _ _ hno]
  show (if isT (35 :: Lib.itoa t) then (match numA ((35 :: Lib.itoa t).drop 1) with | none => none | some z' => chM k s a z' li) else _) = _
  rw [if_pos (show isT (35 :: Lib.itoa t) = true from rfl), List.drop_one, List.tail_cons, numA_itoa h0 h1]
theorem ch_run (wd : List Int) (n : Nat) (hn : n ≤ 4096) : ∀ (cs : List Ch) (p : Option Ch) (now : List ByteArray) (z : Int) (li : List Ch) (k : Nat), lsB wd p now cs = true → now.length = n → (match p with | none => True | some a => z = a.t) → 2 * cs.length < k → chM k (listL (p.map (·.t)) cs) (cdN n) z li = some (li ++ cs)
  | [], p, now, z, li, 0, _, _, _, hk => absurd hk (Nat.not_lt_zero _)
  | [], p, now, z, li, k + 1, _, _, _, _ => by
    show (if ([] : List UInt8) = [] then some li else _) = _
    rw [if_pos rfl, List.append_nil]
  | c :: cs, p, now, z, li, k, hl, hw, hp, hk => by
    unfold lsB at hl
    simp only [Bool.and_eq_true] at hl
    obtain ⟨⟨⟨⟨⟨h1, h2⟩, h3⟩, _⟩, _⟩, h6⟩ := hl
    have h1 := of_decide_eq_true h1
    rw [List.length_cons] at hk
    have hkn : c.n.toNat < n := by omega
    have hrest : ∀ k', 2 * cs.length < k' → chM k' (listL (some c.t) cs) (cdN n) c.t (li ++ [c]) = some (li ++ (c :: cs)) := fun k' hk' => by
      have := ch_run wd n hn cs (some c) (now.set c.n.toNat c.v) c.t (li ++ [c]) k' h6 (by rw [List.length_set]; exact hw) rfl hk'
      rw [List.append_assoc] at this
      exact this
    show chM k (timeL (p.map (·.t)) c.t ++ (valL c.v c.n.toNat ++ listL (some c.t) cs)) (cdN n) z li = _
    by_cases ht : p.map (·.t) = some c.t
    · have e : timeL (p.map (·.t)) c.t = [] := if_pos ht
      have hz : z = c.t := by
        cases p with
        | none => cases ht
        | some a => injection ht with ht; exact hp.trans ht
      obtain ⟨k', rfl⟩ : ∃ k', k = k' + 1 := ⟨k - 1, by omega⟩
      rw [e, List.nil_append, chM_val hn _ z li k' h3 h1.1 hkn hz, hz]
      exact hrest k' (by omega)
    · have e : timeL (p.map (·.t)) c.t = 35 :: (Lib.itoa c.t ++ [10]) := if_neg ht
      obtain ⟨k', rfl⟩ : ∃ k', k = k' + 1 + 1 := ⟨k - 2, by omega⟩
      rw [e, chM_time h1.2.2.1 (by omega), chM_val hn _ c.t li k' h3 h1.1 hkn rfl]
      exact hrest k' (by omega)
/-- what is written is read as it was -/
theorem readM_text {x : Wv} (h : mayW x = true) (hu : undB x = false) : readM (textL x) = some x := by
  have hm := nice_of h
  obtain ⟨_, _, h3⟩ := may_parts h
  obtain ⟨s4, hs4⟩ : ∃ s4, s4 = listL none x.li := ⟨_, rfl⟩
  obtain ⟨s3, hs3⟩ : ∃ s3, s3 = (List.range' 0 x.fi.length).flatMap (fun i => valL (sA x.fi i) i) ++ (enT ++ 10 :: s4) := ⟨_, rfl⟩
  obtain ⟨s2, hs2⟩ : ∃ s2, s2 = (List.range' 0 x.nm.length).flatMap (varL x) ++ (upT ++ 10 :: (deT ++ 10 :: (dvT ++ 10 :: s3))) := ⟨_, rfl⟩
  have ht : textL x = tsT ++ 10 :: (scT ++ 10 :: s2) := by
    rw [hs2, hs3, hs4]
    unfold textL topL varsL firstL
    rw [List.range_eq_range', List.range_eq_range']
    simp only [List.append_assoc]
    rfl
  have e1 : declM (textL x) = some (dvT ++ 10 :: s3, cdN x.nm.length, x.nm, x.wd) := by
    unfold declM
    rw [ht, fixM_at tsT _ _ (by decide), fixM_at scT _ _ (by decide)]
    show (match netsM (s2.length + 1) s2 [] [] [] with | none => none | some (r, a, nm, wd) => (fixM [deT] r).map fun r2 => (r2, a, nm, wd)) = _
    have e := nets_run h hu (deT ++ 10 :: (dvT ++ 10 :: s3)) x.nm.length 0 (s2.length + 1 + x.nm.length) (by omega) (by omega)
    rw [← hs2] at e
    rw [netsM_fuel (s2.length + 1) (s2.length + 1 + x.nm.length) s2 [] [] [] (by omega) (by omega)]
    have e : netsM (s2.length + 1 + x.nm.length) s2 [] [] [] = _ := e
    rw [e]
    show (fixM [deT] (deT ++ 10 :: (dvT ++ 10 :: s3))).map (fun r2 => (r2, cdN x.nm.length, x.nm, x.wd)) = _
    rw [fixM_at deT _ _ (by decide)]
    rfl
  have e2 : firstM (dvT ++ 10 :: s3) (cdN x.nm.length) = some (s4, x.fi) := by
    unfold firstM
    rw [fixM_at dvT _ _ (by decide)]
    show firM (s3.length + 1) s3 _ [] = _
    have e := fir_run h s4 x.fi.length 0 (s3.length + 1 + x.fi.length) (by omega) (by omega)
    rw [← hs3] at e
    rw [firM_fuel (s3.length + 1) (s3.length + 1 + x.fi.length) s3 _ [] (by omega) (by omega)]
    exact e
  have e3 : changesM s4 (cdN x.nm.length) = some x.li := by
    unfold changesM
    rw [chM_fuel (s4.length + 1) (s4.length + 1 + 2 * x.li.length) s4 _ 0 [] (by omega) (by omega), hs4]
    exact ch_run x.wd x.nm.length hm.ln x.li none x.fi 0 [] _ h3 hm.lf trivial (by omega)
  unfold readM
  rw [e1]
  show (match firstM (dvT ++ 10 :: s3) (cdN x.nm.length) with | none => none | some (r2, fi) => (changesM r2 (cdN x.nm.length)).map fun li => (⟨x.nm, x.wd, fi, li⟩ : Wv)) = _
  rw [e2]
  show (changesM s4 (cdN x.nm.length)).map (fun li => (⟨x.nm, x.wd, x.fi, li⟩ : Wv)) = _
  rw [e3]
  rfl
end Go.Proofs.YtodpljgajjcdoaaGreatDoor

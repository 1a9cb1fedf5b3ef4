/- Groups in a map by their size; the first place of the least. -/
import Derived.Test.YtkgonnnpoldcoaaRF
namespace Go.Proofs.Ytkgonnnpoldcoaa
open Go.RowKit Lg Nl Go.Maps Go.Sort Go.Shelf
set_option linter.unusedVariables false
set_option linter.unusedSimpArgs false
set_option maxRecDepth 100000

theorem keyedI : Keyed Try.prog 3 := int_keyed Try.underlying3
theorem wfI {s : Nat} (h : s ≤ 1000000) : (Lit.int .i64 (s : Int)).wf = true := WalkArith.wf_i64 (by omega)
theorem keyI {s : Nat} (h : s ≤ 1000000) : keyOf Try.prog 3 (.int .i64 (s : Int)) = some (.int .i64 (s : Int)) := keyOf_int_mk Try.underlying3 (wfI h)
theorem litI (x : Int) : WideAt.IsKeyLit (.int .i64 x) := by simp [WideAt.IsKeyLit]
theorem zeroRs (w : World) : (zeroValue 28).run Try.prog w = .ok (.slice none 0 0) w := by kernel_rfl
section
variable {W : World} {b n : Nat} {D : DataW Value}
theorem ikeys (h : W.ownsMap Try.prog 3 rdV b n D) : ∃ es : List (Lit × DataW Value), D = .map es ∧ es.Pairwise (fun p q => p.1 ≠ q.1) ∧ ∀ p ∈ es, ∃ x, p.1 = .int .i64 x := by
  obtain ⟨es, hD, hpw, _⟩ := h.entries keyedI
  obtain ⟨es', hD', hko⟩ := h.keysOf
  obtain rfl : es = es' := by rw [hD] at hD'; simpa using hD'
  exact ⟨es, hD, hpw, fun p hp => by obtain ⟨v, hv⟩ := hko p hp; obtain ⟨x, _, hx, _⟩ := Maps.keyOf_i64 Try.underlying3 hv; exact ⟨x, hx⟩⟩
theorem ikeys_mem (h : W.ownsMap Try.prog 3 rdV b n D) (x : Int) : x ∈ intKeys D ↔ Maps.has D (.int .i64 x) = true := by
  obtain ⟨es, rfl, _, hk⟩ := ikeys h
  rw [has_eq, List.any_eq_true]
  show x ∈ es.map (fun p => Go.intOf p.1) ↔ _
  rw [List.mem_map]
  constructor
  · rintro ⟨p, hp', rfl⟩
    obtain ⟨a, ha⟩ := hk p hp'
    exact ⟨p, hp', by rw [ha]; simp [Lit.sameKey, Go.intOf]⟩
  · rintro ⟨p, hp', hs⟩
    obtain ⟨a, ha⟩ := hk p hp'
    rw [ha] at hs
    exact ⟨p, hp', by rw [ha]; simpa [Lit.sameKey, Go.intOf] using hs⟩
theorem ikeys_nodup (h : W.ownsMap Try.prog 3 rdV b n D) : (intKeys D).Nodup := by
  obtain ⟨es, rfl, hp, hk⟩ := ikeys h
  show (es.map fun p => Go.intOf p.1).Nodup
  refine List.pairwise_map.2 (hp.imp_of_mem fun {p q} hp' hq' hne e => hne ?_)
  obtain ⟨a, ha⟩ := hk p hp'
  obtain ⟨c, hc⟩ := hk q hq'
  rw [ha, hc] at e ⊢
  exact congrArg _ e
theorem ikeys_len (h : W.ownsMap Try.prog 3 rdV b n D) : Maps.size D ≤ n := by
  obtain ⟨es, clock, _, F, hs, rfl⟩ := h
  show (List.length _) ≤ n
  rw [length_sorted, List.length_map, Array.length_toList]
  exact hs
end
/-- the map mb holds at each size the row M s of values rs s -/
structure MG (B mb nn : Nat) (D : DataW Value) (M : Nat → Value) (rs : Nat → List Value) (W : World) : Prop where
  own : W.ownsMap Try.prog 3 rdV mb nn D
  at_ : ∀ s : Nat, s ≤ 4096 → D.atKey (.int .i64 (s : Int)) (.held (.slice none 0 0)) = .held (M s)
  hs : ∀ x : Int, Maps.has D (.int .i64 x) = true ↔ ∃ s : Nat, x = (s : Int) ∧ s ≤ 4096 ∧ rs s ≠ []
  r : ∀ s, s ≤ 4096 → W.ownsRow B 24 1 (M s) (rs s).length (rs s)
  d : ∀ s s' b, s ≤ 4096 → s' ≤ 4096 → (M s).ownBlock = some b → (M s').ownBlock = some b → s = s'
theorem MG.start (B : Nat) (w : World) : MG B w.heap.size 0 (.map []) (fun _ => .slice none 0 0) (fun _ => []) (w.alloc (.map #[] 0)) :=
  ⟨World.ownsMap_made _ _ _ _, fun s _ => rfl, fun x => ⟨fun h => (by cases h), fun ⟨s, _, _, h⟩ => absurd rfl h⟩, fun s _ => World.ownsRow_nil _ _ _ _, fun s s' b _ _ h => (by cases h)⟩
theorem MG.keep {B mb nn : Nat} {D : DataW Value} {M : Nat → Value} {rs : Nat → List Value} {W W' : World} (h : MG B mb nn D M rs W) (hm : W'.heap[mb]? = W.heap[mb]?) (hb : ∀ k, B ≤ k → k < W.heap.size → W'.heap[k]? = W.heap[k]?) : MG B mb nn D M rs W' := by
  refine ⟨?_, h.at_, h.hs, fun s hs => own_at (h.r s hs) fun k e => hb k ((h.r s hs).lt k e).1 ((h.r s hs).lt k e).2, h.d⟩
  obtain ⟨es, clock, h1, F, h2, h3⟩ := h.own
  exact ⟨es, clock, hm.trans h1, F, h2, h3⟩
theorem MG.look {B mb nn : Nat} {D : DataW Value} {M : Nat → Value} {rs : Nat → List Value} {W : World} (h : MG B mb nn D M rs W) {s : Nat} (hs : s ≤ 4096) :
    (Instr.lookup 82 (.map (some mb)) (.int .i64 (s : Int)) false).run Try.prog W = .ok (M s) W := by
  obtain ⟨v, ps, hrun, hv⟩ := h.own.lookup keyedI Try.underlying82 (zeroRs W) (zd := .held (.slice none 0 0)) (zp := []) rfl (keyI (s := s) (by omega))
  have e := rdV_inv hv
  rw [h.at_ s hs] at e
  injection e with e
  rw [e]; exact hrun
/-- one value more at a size -/
theorem MG.step {B mb nn s : Nat} {D : DataW Value} {M : Nat → Value} {rs : Nat → List Value} {W W1 W9 : World} {v' x : Value} (h : MG B mb nn D M rs W) (hmb : mb < B) (hs : s ≤ 4096) (hnn : nn ≤ 1000000) (h1 : ∀ j, j < W.heap.size → W1.heap[j]? = W.heap[j]?) (hz : W.heap.size ≤ W1.heap.size)
    (ho : W9.ownsRow B 24 1 v' ((rs s).length + 1) (rs s ++ [x])) (hg : W1.grownBy W9 (M s).ownBlock) (hloc : v'.ownBlock = (M s).ownBlock ∨ v'.ownBlock = some W1.heap.size) :
    ∃ W10 D', (Instr.mapUpdate 82 (.map (some mb)) (.int .i64 (s : Int)) v').run Try.prog W9 = .ok () W10 ∧ Hid (MG B mb (nn + 1) D' (upd M s v') (upd rs s (rs s ++ [x])) W10) ∧ Hid (W9.grownBy W10 (some mb)) := by
  have hlm := h.own.lt
  have kp : ∀ b, b < W.heap.size → some b ≠ (M s).ownBlock → W9.heap[b]? = W.heap[b]? := fun b hb hn => (hg.block b (by omega) hn).trans (h1 b hb)
  have hmb9 : W9.heap[mb]? = W.heap[mb]? := kp mb hlm (fun e => by have := ((h.r s hs).lt mb e.symm).1; omega)
  have own9 : W9.ownsMap Try.prog 3 rdV mb nn D := by
    obtain ⟨es, clock, g1, F, g2, g3⟩ := h.own
    exact ⟨es, clock, hmb9.trans g1, F, g2, g3⟩
  obtain ⟨W10, hrun, ho10, hg10⟩ := own9.update keyedI Try.underlying82 (by unfold maxLen; omega) (keyI (s := s) (by omega)) (val := v') (d := .held v') (ps := []) rfl
  have k10 : ∀ b, b < W9.heap.size → b ≠ mb → W10.heap[b]? = W9.heap[b]? := fun b hb hn => hg10.block b hb (fun e => hn (by injection e))
  have hsz9 : W.heap.size ≤ W9.heap.size := Nat.le_trans hz hg.size
  refine ⟨W10, D.put (.int .i64 (s : Int)) (.held v'), hrun, ⟨ho10, fun s' hs' => ?_, fun y => ?_, fun s' hs' => ?_, fun a a' b ha ha' hb hb' => ?_⟩, hg10⟩
  · by_cases e : s' = s
    · subst e; rw [upd_at, atKey_put_same h.own.isMap (litI _)]
    · rw [upd_ne _ _ e, atKey_put_other (fun e2 => e (by injection e2 with _ e2; omega)), h.at_ s' hs']
  · by_cases e : y = (s : Int)
    · subst e
      rw [has_put_same h.own.isMap (litI _)]
      exact ⟨fun _ => ⟨s, rfl, hs, by rw [upd_at]; simp⟩, fun _ => rfl⟩
    · rw [has_put_other (fun e2 => e (by injection e2)), h.hs y]
      constructor
      · rintro ⟨t, rfl, ht, hne⟩; exact ⟨t, rfl, ht, by rw [upd_ne _ _ (fun e2 => e (by rw [e2]))]; exact hne⟩
      · rintro ⟨t, rfl, ht, hne⟩; rw [upd_ne _ _ (fun e2 => e (by rw [e2]))] at hne; exact ⟨t, rfl, ht, hne⟩
  · by_cases e : s' = s
    · subst e
      rw [upd_at, upd_at, List.length_append]
      exact own_at ho fun b hb => k10 b (ho.lt b hb).2 (fun e2 => by have := (ho.lt b hb).1; omega)
    · rw [upd_ne _ _ e, upd_ne _ _ e]
      have hr := h.r s' hs'
      refine own_at hr fun b hb => ?_
      have hb2 := hr.lt b hb
      rw [k10 b (by omega) (by omega)]
      exact kp b hb2.2 (fun e3 => e (h.d s' s b hs' hs hb e3.symm))
  · by_cases e : a = s
    · by_cases e' : a' = s
      · omega
      · subst e
        rw [upd_at] at hb; rw [upd_ne _ _ e'] at hb'
        rcases hloc with hl | hl
        · exact h.d a a' b ha ha' (by rw [← hl]; exact hb) hb'
        · rw [hl] at hb; injection hb with hb; have := ((h.r a' ha').lt b hb').2; omega
    · by_cases e' : a' = s
      · subst e'
        rw [upd_at] at hb'; rw [upd_ne _ _ e] at hb
        rcases hloc with hl | hl
        · exact h.d a a' b ha ha' hb (by rw [← hl]; exact hb')
        · rw [hl] at hb'; injection hb' with hb'; have := ((h.r a ha).lt b hb).2; omega
      · rw [upd_ne _ _ e] at hb; rw [upd_ne _ _ e'] at hb'; exact h.d a a' b ha ha' hb hb'
/-- the first place of the least -/
theorem first_least (f : Nat → Int) : ∀ n : Nat, 0 < n → ∃ q, q < n ∧ (∀ i, i < n → f q ≤ f i) ∧ ∀ i, i < q → f i ≠ f q
  | 0, h => absurd h (Nat.lt_irrefl _)
  | 1, _ => ⟨0, by omega, fun i hi => by have e : i = 0 := (by omega); rw [e]; exact Int.le_refl _, fun i hi => absurd hi (Nat.not_lt_zero _)⟩
  | n + 2, _ => by
    obtain ⟨q, h1, h2, h3⟩ := first_least f (n + 1) (by omega)
    by_cases h : f (n + 1) < f q
    · refine ⟨n + 1, by omega, fun i hi => ?_, fun i hi e => ?_⟩
      · rcases Nat.lt_succ_iff_lt_or_eq.1 hi with h' | h'
        · have := h2 i h'; omega
        · rw [h']; exact Int.le_refl _
      · have := h2 i hi; omega
    · refine ⟨q, by omega, fun i hi => ?_, h3⟩
      rcases Nat.lt_succ_iff_lt_or_eq.1 hi with h' | h'
      · exact h2 i h'
      · rw [h']; omega
theorem min_x {f : Nat → Int} {T n cap q : Nat} {w : World} (h : ∀ i, i < n → w.cell? ⟨T, i, none⟩ = some (.int .i64 (f i))) (hq : q < n) (hmin : ∀ i, i < n → f q ≤ f i) (hn : n ≤ 1000000) :
    Calls Try.prog 42 #[.slice (some ⟨T, 0, none⟩) n cap] w fun e w' => e = .returned (.int .i64 (f q)) ∧ w' = w :=
  (min_c f T n cap w h (by omega) hn).mono fun e w' ⟨r, hr, he, hm, hw⟩ => ⟨by rw [he]; congr 2; have := hm q hq; have := hmin r hr; omega, hw⟩
set_option maxHeartbeats 1000000 in
theorem index_x {f : Nat → Int} {T n cap q : Nat} {w : World} (h : ∀ i, i < n → w.cell? ⟨T, i, none⟩ = some (.int .i64 (f i))) (hq : q < n) (hf : ∀ i, i < q → f i ≠ f q) (hn : n ≤ 1000000) :
    Calls Try.prog 41 #[.slice (some ⟨T, 0, none⟩) n cap, .int .i64 (f q)] w fun e w' => e = .returned (.int .i64 (q : Int)) ∧ w' = w := by
  have HC : Hid (∀ i, i < n → w.cell? ⟨T, i, none⟩ = some (.int .i64 (f i))) := h
  have HF : Hid (∀ i, i < q → f i ≠ f q) := hf
  clear h hf
  generalize hz : f q = z at HF
  have HZ : Hid (f q = z) := hz
  clear hz
  go_enter Try.func41, Try.ntmps41
  go_wp2
  go_loop [8] (fun s8 => ∃ k : Nat, k ≤ q ∧ s8 = .int .i64 k) (fun s8 => n - (intOf s8).toNat)
  case atStart => exact ⟨0, Nat.zero_le _, rfl⟩
  case round =>
    obtain ⟨k, hk, rfl⟩ := hrel
    have hx := HC.out k (by omega)
    have k1 : (0 : Int) ≤ (k : Int) := by omega
    have k2 : (k : Int) < (n : Int) := by omega
    by_cases he : k = q
    · subst he
      rw [HZ.out] at hx
      have he' : (z == z) = true := by simp
      go_wp2
      go_ret
      exact ⟨rfl, rfl⟩
    · have hne := HF.out k (by omega)
      have he' : (z == f k) = false := by simp; exact fun e => hne e.symm
      generalize f k = y at hx he'
      clear hne
      go_wp2
      go_round
      case rel => exact ⟨k + 1, by omega, by go_num⟩
      case measure => simp [intOf]; omega
theorem back_c (a : Option Addr) (len cap : Nat) (w : World) :
    Calls Try.prog 38 #[.slice a len cap] w fun e w' => e = .returned (.func (.func 51) #[] #[.pointer (some ⟨w.heap.size, 0, none⟩)]) ∧ w' = w.alloc (.cells #[.slice a len cap] 24) :=
  (callsIn_wide (n := 5)).1 (back_in Fence.wide 5 trivial rfl a len cap w)
/-- the sizes that the map has, sorted, as a row -/
theorem sizes_c {B mb nn : Nat} {D : DataW Value} {M : Nat → Value} {rs : Nat → List Value} {w : World} (h : MG B mb nn D M rs w) (hn : nn ≤ 4096) (hne : ∃ s, s ≤ 4096 ∧ rs s ≠ []) :
    Calls Try.prog 39 #[.func (.func 54) #[] #[.pointer (some ⟨w.heap.size, 0, none⟩)]] (w.alloc (.cells #[.map (some mb)] 82)) fun e w' => ∃ (gz zl zc : Nat) (zs : List Nat), e = .returned (.slice (some ⟨gz, 0, none⟩) zl zc) ∧ Hid (zl = zs.length) ∧ zl ≤ 4096 ∧ Hid (∀ j (hj : j < zs.length), w'.cell? ⟨gz, j, none⟩ = some (.int .i64 ((zs[j] : Nat) : Int))) ∧ Hid (gz < w'.heap.size) ∧ Hid zs.Nodup ∧ Hid (∀ s, s ∈ zs ↔ s ≤ 4096 ∧ rs s ≠ []) ∧ Hid (w.heap.size + 1 ≤ gz) ∧ Hid (Below (w.heap.size + 1) (w.alloc (.cells #[.map (some mb)] 82)) w') := by
  have hsz := ikeys_len h.own
  refine (sorted_c mb nn D w h.own (by omega)).mono ?_
  rintro e w' ⟨v, ss, rfl, hp, hrow, hb⟩
  have hpm : (ss.mergeSort (fun x y => decide (x ≤ y))).Perm (intKeys D) := (List.mergeSort_perm ss _).trans hp
  have hmem : ∀ x, x ∈ ss.mergeSort (fun x y => decide (x ≤ y)) ↔ ∃ s : Nat, x = (s : Int) ∧ s ≤ 4096 ∧ rs s ≠ [] := fun x => by rw [hpm.mem_iff, ikeys_mem h.own, h.hs]
  have hnd : (ss.mergeSort (fun x y => decide (x ≤ y))).Nodup := hpm.nodup_iff.2 (ikeys_nodup h.own)
  have hle : ss.length = (ss.mergeSort (fun x y => decide (x ≤ y))).length := by rw [List.length_mergeSort]
  have hl4 : ss.length ≤ nn := by
    rw [hp.length_eq]
    obtain ⟨es, hD, _, _⟩ := ikeys h.own
    rw [hD] at hsz ⊢
    show (es.map _).length ≤ nn
    rw [List.length_map]
    exact hsz
  generalize ss.mergeSort (fun x y => decide (x ≤ y)) = ts at hrow hpm hmem hnd hle
  have hpos : 0 < ss.length := by
    obtain ⟨s, hs1, hs2⟩ := hne
    rw [hle]; exact List.length_pos_of_mem ((hmem (s : Int)).2 ⟨s, rfl, hs1, hs2⟩)
  obtain ⟨m, hm⟩ : ∃ m, ss.length = m + 1 := ⟨ss.length - 1, by omega⟩
  rw [hm] at hrow
  obtain ⟨gz, zc, rfl⟩ := own_slice1 hrow
  refine ⟨gz, m + 1, zc, ts.map Int.toNat, rfl, ?_, by omega, fun j hj => ?_, (hrow.lt gz rfl).2, ?_, fun s => ?_, (hrow.lt gz rfl).1, hb⟩
  · show m + 1 = _; rw [List.length_map, ← hle, hm]
  · rw [List.length_map] at hj
    rw [hrow.cellAt j (by omega), List.getElem?_map, List.getElem?_eq_getElem hj, List.getElem_map]
    obtain ⟨s, hs, _⟩ := (hmem _).1 (List.getElem_mem hj)
    show some (Value.int .i64 ts[j]) = _
    rw [hs]; simp
  · show (ts.map Int.toNat).Nodup
    refine List.pairwise_map.2 (List.Pairwise.imp_of_mem (fun {a b} ha hb hne e => hne ?_) hnd)
    obtain ⟨s, hs, _⟩ := (hmem _).1 ha
    obtain ⟨t, ht, _⟩ := (hmem _).1 hb
    rw [hs, ht] at e ⊢
    simp at e
    rw [e]
  · rw [List.mem_map]
    constructor
    · rintro ⟨x, hx, rfl⟩
      obtain ⟨t, rfl, h1, h2⟩ := (hmem x).1 hx
      rw [Int.toNat_natCast]; exact ⟨h1, h2⟩
    · rintro ⟨h1, h2⟩
      exact ⟨(s : Int), (hmem _).2 ⟨s, rfl, h1, h2⟩, by simp⟩
end Go.Proofs.Ytkgonnnpoldcoaa

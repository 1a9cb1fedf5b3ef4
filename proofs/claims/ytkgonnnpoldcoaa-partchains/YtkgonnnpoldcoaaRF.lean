/- The library: the keys of a map of the program's, sorted; a slice from its end; the least of a row. -/
import Derived.Test.YtkgonnnpoldcoaaRD
import Derived.Test.YtkgonnnpoldcoaaShM
import Derived.RangeFuncNested
import Derived.RangeFuncBound
import Derived.RangeFuncCalls
import Derived.RangeFuncLeaves
import Derived.RangeFuncBox
import Derived.Shelf.Abstract
import Derived.Shelf.RegionOpen
import Derived.WalkKit
import Derived.OwnWalkIn
import Derived.TacticsInMore
import Derived.LoopNIn
import Derived.LoopIn
import Derived.Maps.OwnIn
namespace Go.Proofs.Ytkgonnnpoldcoaa
open Go.RowKit Lg Nl Go.Maps Go.Sort Go.Shelf
set_option linter.unusedVariables false
set_option linter.unusedSimpArgs false
attribute [local go_sem] Oper.semAt_some

/-- an element reads as itself -/
def rdV (v : Value) : Option (DataW Value × List MemPlace) := some (.held v, [])
theorem rdV_inv {v : Value} {d : DataW Value} {ps : List MemPlace} (h : rdV v = some (d, ps)) : d = .held v := by unfold rdV at h; injection h with h; injection h with h _; exact h.symm
theorem sortsA (m : Nat) : AnyZI.SortsIn Try.prog Try.sortedA_ren Fence.wide m :=
  ⟨fun blk off cap ss W hH hblk hsz => callsIn_wide.2 (AnyM.slices_Sort_int Try.sortA blk off cap ss W hH hblk hsz),
   fun p cap W => callsIn_wide.2 (AnyM.slices_Sort_int_none Try.sortA p cap W)⟩
theorem keys_c (mb : Option Nat) (W : World) : Calls Try.prog 40 #[.map mb] W fun e w' => e = .returned (.func (.func 54) #[] #[.pointer (some ⟨W.heap.size, 0, none⟩)]) ∧ w' = W.alloc (.cells #[.map mb] 82) :=
  (callsIn_wide (n := 5)).1 (AnyZI.keys_in Try.keysA Fence.wide 5 trivial rfl mb W)
theorem sorted_c (b nn : Nat) (D0 : DataW Value) (w : World) (hown : w.ownsMap Try.prog 3 rdV b nn D0) (hn : Maps.size D0 ≤ 1000000) :
    Calls Try.prog 39 #[.func (.func 54) #[] #[.pointer (some ⟨w.heap.size, 0, none⟩)]] (w.alloc (.cells #[.map (some b)] 82)) fun e w' => ∃ (v : Value) (ss : List Int), e = .returned v ∧ ss.Perm (intKeys D0) ∧
      w'.ownsRow (w.heap.size + 1) 3 1 v ss.length ((ss.mergeSort (fun x y => decide (x ≤ y))).map encZ) ∧ Below (w.heap.size + 1) (w.alloc (.cells #[.map (some b)] 82)) w' := by
  refine (callsIn_wide (n := 5)).1 ?_
  have hbl := hown.lt
  have hseq : SeqGives Fence.wide 2 Try.prog 54 #[.pointer (some ⟨w.heap.size, 0, none⟩)] encZ (fun ss => ss.Perm (intKeys D0)) (Maps.size D0) (w.alloc (.cells #[.map (some b)] 82)) :=
    AnyZI.keys_gives (ρ := Try.keysA_ren) { Try.keysA with } Fence.wide _ trivial rfl (by omega) w.heap.size b nn D0 _ (by simp) (by simp) (by
      obtain ⟨es, clock, hb, Ft, hs, hD⟩ := hown
      exact ⟨es, clock, (Below.heap_alloc _ _ b hbl).trans hb, Ft, hs, hD⟩)
  have cS := AnyZI.sorted_in Try.sortedA Fence.wide 5 trivial trivial trivial trivial rfl (by omega) (sortsA _) (enters_of Try.func53 (by kernel_rfl) rfl) 54 #[.pointer (some ⟨w.heap.size, 0, none⟩)] trivial (enters_of Try.func54 (by kernel_rfl) rfl) _ _ (by unfold maxLen; omega) (by omega) _ hseq
  change CallsIn _ _ Try.prog 39 _ _ _ at cS
  refine cS.mono ?_
  rintro e w' ⟨v, ss, rfl, hS, hrow, hnil, hb⟩
  have es : (w.alloc (.cells #[.map (some b)] 82)).heap.size = w.heap.size + 1 := by simp
  rw [es] at hrow hb
  exact ⟨v, ss, rfl, hS, hrow, hb⟩

/-! ### slices.Backward -/
/-- what comes of a slice from its end: places and sizes -/
abbrev Bk : Type := { x : Nat × Nat // x.2 ≤ 4096 }
def bkE (x : Bk) : Array Value := #[.int .i64 ((x.1.1 : Nat) : Int), .int .i64 ((x.1.2 : Nat) : Int)]
def bkS (xs : List Bk) : List Nat := xs.map fun x => x.1.2
theorem bkS_snoc (xs : List Bk) (x : Bk) : bkS (xs ++ [x]) = bkS xs ++ [x.1.2] := by unfold bkS; rw [List.map_append]; rfl
theorem bkS_len (xs : List Bk) : (bkS xs).length = xs.length := by unfold bkS; rw [List.length_map]
/-- the two blocks that it reads stay -/
def BkKp (a b : Nat) (W W' : World) : Prop := W'.heap[a]? = W.heap[a]? ∧ W'.heap[b]? = W.heap[b]? ∧ W.heap.size ≤ W'.heap.size
theorem BkKp.trans {a b : Nat} {A B C : World} (h : BkKp a b A B) (k : BkKp a b B C) : BkKp a b A C := ⟨k.1.trans h.1, k.2.1.trans h.2.1, Nat.le_trans h.2.2 k.2.2⟩
theorem take_last {zs : List Nat} {k : Nat} (hk : k < zs.length) : zs.reverse.take (k + 1) = zs.reverse.take k ++ [zs[zs.length - 1 - k]'(by omega)] := by
  rw [List.take_succ_eq_append_getElem (by simpa using hk), List.getElem_reverse]
set_option maxRecDepth 100000 in
set_option maxHeartbeats 2000000 in
theorem back1_in (F : Fence) (n : Nat) (hf : F.fn 51) (hro : F.round = none) (hn : 1 ≤ n) (l Bs gz m cap : Nat) (zs : List Nat) (hm : m = zs.length) (hz : ∀ z ∈ zs, z ≤ 4096) (hm4 : m ≤ 1000000) (J Jx : List Bk → World → Prop)
    (hY : ∀ pre x W, J pre W → pre.length < m → YieldAt F (n - 1) Try.prog l (bkE x) W fun e W' => (e = .returned (.bool true) ∧ J (pre ++ [x]) W' ∧ BkKp Bs gz W W') ∨ (e = .returned (.bool false) ∧ Jx (pre ++ [x]) W'))
    (W : World) (hBs : W.cell? ⟨Bs, 0, none⟩ = some (.slice (some ⟨gz, 0, none⟩) m cap)) (hc : ∀ j (hj : j < zs.length), W.cell? ⟨gz, j, none⟩ = some (.int .i64 ((zs[j] : Nat) : Int))) (h0 : J [] W) :
    CallsIn F n Try.prog 51 #[.func (.yield l) #[] #[], .pointer (some ⟨Bs, 0, none⟩)] W fun e W' => (∃ v, e = .returned v) ∧
      ((∃ ys, bkS ys = zs.reverse ∧ J ys W') ∨ (∃ pre, True ∧ Jx pre W')) := by
  have HM : Hid (m = zs.length) := hm
  have HZ : Hid (∀ z ∈ zs, z ≤ 4096) := hz
  have HC : Hid (∀ j (hj : j < zs.length), W.cell? ⟨gz, j, none⟩ = some (.int .i64 ((zs[j] : Nat) : Int))) := hc
  have HBs : Hid (W.cell? ⟨Bs, 0, none⟩ = some (.slice (some ⟨gz, 0, none⟩) m cap)) := hBs
  clear hm hz hc
  refine callsIn_of_wp Try.func51 rfl hf ?_ hro
  simp only [Try.ntmps51, List.size_toArray, List.length_cons, List.length_nil, Nat.reduceAdd, Nat.reduceSub, Array.replicate_succ, Array.replicate_zero, List.push_toArray, List.append_toArray, List.nil_append, List.cons_append]
  gi_wp2
  gi_loopw [3] (fun i wr => ∃ (k : Nat) (ys : List Bk), k ≤ m ∧ i = .int .i64 ((m : Int) - 1 - (k : Int)) ∧ Hid (bkS ys = zs.reverse.take k) ∧ Hid (ys.length = k) ∧ J ys wr ∧ Hid (BkKp Bs gz W wr)) (fun i _ => ((intOf i) + 1).toNat)
  case atStart => exact ⟨0, [], Nat.zero_le _, by simp, by show bkS [] = _; simp [bkS], rfl, h0, ⟨rfl, rfl, Nat.le_refl _⟩⟩
  case round =>
    obtain ⟨k, ys, hk, rfl, HY, HL, hJ, HK⟩ := hrel
    clear hBs
    have b0 : wr.cell? ⟨Bs, 0, none⟩ = some (.slice (some ⟨gz, 0, none⟩) m cap) := (World.cell?_of_block (w := W) (a := ⟨Bs, 0, none⟩) HK.out.1).trans HBs.out
    by_cases hlt : k < m
    · have hkl : k < zs.length := by rw [← HM.out]; exact hlt
      obtain ⟨j, hj⟩ : ∃ j, j = zs.length - 1 - k := ⟨_, rfl⟩
      have hjl : j < zs.length := by omega
      have hji : ((m : Int) - 1 - (k : Int)) = (j : Int) := by have := HM.out; omega
      have c0 : wr.cell? ⟨gz, j, none⟩ = some (.int .i64 ((zs[j] : Nat) : Int)) := (World.cell?_of_block (w := W) (a := ⟨gz, j, none⟩) HK.out.2.1).trans (HC.out j hjl)
      have HT : Hid (zs.reverse.take (k + 1) = zs.reverse.take k ++ [zs[j]]) := by show _ = _; rw [take_last hkl]; simp [hj]
      have hz4 := HZ.out _ (List.getElem_mem hjl)
      generalize zs[j] = z at c0 HT hz4
      obtain ⟨fn, tmps, assign, body, hy, hR⟩ := hY ys ⟨(j, z), hz4⟩ wr hJ (by rw [HL.out]; exact hlt)
      simp only [bkE] at hy
      have j1 : (0 : Int) ≤ (j : Int) := by omega
      have j2 : (j : Int) < (m : Int) := by have := HM.out; omega
      rw [hji]
      clear hj
      gi_wp2
      refine hR.mono ?_
      rintro e W3 (⟨rfl, hJ3, hk3⟩ | ⟨rfl, hJx3⟩)
      · gi_wp2
        go_roundw
        case rel => exact ⟨k + 1, ys ++ [⟨(j, z), hz4⟩], hlt, by have := HM.out; simp; omega, by show bkS (ys ++ _) = _; rw [HT.out, ← HY.out, bkS_snoc], by show (ys ++ _).length = _; rw [List.length_append, HL.out]; rfl, hJ3, HK.out.trans hk3⟩
        case measure => first | (simp [intOf]; done) | (simp [intOf]; omega)
      · gi_wp2
        refine bodyPost_ret (results_none rfl _ _ _) rfl ?_
        exact ⟨⟨_, rfl⟩, .inr ⟨_, trivial, hJx3⟩⟩
    · obtain rfl : k = m := by omega
      have e1 : ((k : Int) - 1 - (k : Int)) = -1 := by omega
      rw [e1]
      gi_wp2
      go_end0
      exact ⟨⟨_, rfl⟩, .inl ⟨ys, by rw [HY.out, List.take_of_length_le (by rw [List.length_reverse, HM.out]; exact Nat.le_refl _)], hJ⟩⟩
set_option maxHeartbeats 1000000 in
theorem back_in (F : Fence) (n : Nat) (hf : F.fn 38) (hro : F.round = none) (a : Option Addr) (len cap : Nat) (w : World) :
    CallsIn F n Try.prog 38 #[.slice a len cap] w fun e w' => e = .returned (.func (.func 51) #[] #[.pointer (some ⟨w.heap.size, 0, none⟩)]) ∧ w' = w.alloc (.cells #[.slice a len cap] 24) := by
  refine callsIn_of_wp Try.func38 rfl hf ?_ hro
  simp only [Try.ntmps38, List.size_toArray, List.length_cons, List.length_nil, Nat.reduceAdd, Nat.reduceSub, Array.replicate_succ, Array.replicate_zero, List.push_toArray, List.append_toArray, List.nil_append, List.cons_append]
  gi_wp2
  go_ret
  exact ⟨rfl, rfl⟩
theorem back_stops (F : Fence) (n : Nat) (hf : F.fn 51) (hro : F.round = none) (hn : 1 ≤ n) (Bs gz m cap : Nat) (zs : List Nat) (hm : m = zs.length) (hz : ∀ z ∈ zs, z ≤ 4096) (hm4 : m ≤ 1000000) (w : World) (hb : Bs < w.heap.size) (hg : gz < w.heap.size)
    (hBs : w.cell? ⟨Bs, 0, none⟩ = some (.slice (some ⟨gz, 0, none⟩) m cap)) (hc : ∀ j (hj : j < zs.length), w.cell? ⟨gz, j, none⟩ = some (.int .i64 ((zs[j] : Nat) : Int))) :
    SeqStopsK F n Try.prog 51 #[.pointer (some ⟨Bs, 0, none⟩)] bkE (BkKp Bs gz) (fun ys => bkS ys = zs.reverse) (fun _ => True) m w := fun l J Jx W hW _ _ hY h0 =>
  back1_in F n hf hro hn l Bs gz m cap zs hm hz hm4 J Jx hY W ((hW.cell (p := ⟨Bs, 0, none⟩) hb).trans hBs) (fun j hj => (hW.cell (p := ⟨gz, j, none⟩) hg).trans (hc j hj)) h0
set_option maxHeartbeats 1000000 in
/-- the least of a row -/
theorem min_c (f : Nat → Int) (T n cap : Nat) (w : World) (h : ∀ i, i < n → w.cell? ⟨T, i, none⟩ = some (.int .i64 (f i))) (h0 : 0 < n) (hn : n ≤ 1000000) :
    Calls Try.prog 42 #[.slice (some ⟨T, 0, none⟩) n cap] w fun e w' => ∃ q, q < n ∧ e = .returned (.int .i64 (f q)) ∧ (∀ i, i < n → f q ≤ f i) ∧ w' = w := by
  have HC : Hid (∀ i, i < n → w.cell? ⟨T, i, none⟩ = some (.int .i64 (f i))) := h
  have c0 := h 0 h0
  have n1 : (0 : Int) < (n : Int) := by omega
  have n2 : ¬ (n : Int) < 1 := by omega
  clear h
  go_enter Try.func42, Try.ntmps42
  go_wp2
  go_loop [3, 4] (fun s3 s4 => ∃ k q : Nat, 1 ≤ k ∧ k ≤ n ∧ q < n ∧ s3 = .int .i64 (f q) ∧ s4 = .int .i64 (k : Int) ∧ Hid (∀ i, i < k → f q ≤ f i)) (fun s3 s4 => n - (intOf s4).toNat)
  case atStart =>
    refine ⟨1, 0, Nat.le_refl _, h0, h0, rfl, rfl, fun i hi => ?_⟩
    have e : i = 0 := by omega
    subst e
    exact Int.le_refl _
  case round =>
    obtain ⟨k, q, hk1, hk, hq, rfl, rfl, HK⟩ := hrel
    by_cases hlt : k < n
    · have ck := HC.out k hlt
      have k1 : (0 : Int) ≤ (k : Int) := by omega
      have k2 : (k : Int) < (n : Int) := by omega
      by_cases hle : f k < f q
      · have HL : Hid (f k < f q) := hle
        have hne : ¬ f q < f k := by omega
        generalize hx : f k = x at ck hle hne
        generalize f q = y at hle hne
        go_wp2
        go_round
        case rel => exact ⟨k + 1, k, by omega, hlt, hlt, by rw [hx]; congr 1; omega, by go_num, fun i hi => by
          rcases Nat.lt_succ_iff_lt_or_eq.1 hi with h | h
          · have := HK.out i h; have := HL.out; omega
          · rw [h]; exact Int.le_refl _⟩
        case measure => simp [intOf]; omega
      · have HL : Hid (f q ≤ f k) := by show f q ≤ f k; omega
        generalize f k = x at ck hle
        generalize hy : f q = y at hle
        go_wp2
        go_round
        case rel => exact ⟨k + 1, q, by omega, hlt, hq, by rw [hy]; congr 1; omega, by go_num, fun i hi => by
          rcases Nat.lt_succ_iff_lt_or_eq.1 hi with h | h
          · exact HK.out i h
          · rw [h]; exact HL.out⟩
        case measure => simp [intOf]; omega
    · obtain rfl : n = k := by omega
      go_wp2
      go_ret
      exact ⟨q, hq, rfl, HK.out, rfl⟩
end Go.Proofs.Ytkgonnnpoldcoaa

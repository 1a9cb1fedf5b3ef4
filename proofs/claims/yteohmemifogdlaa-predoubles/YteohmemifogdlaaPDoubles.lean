/- Layer 3: names that stand for two of the name before each. -/
import Derived.Test.YteohmemifogdlaaZZD
namespace Go.Proofs.Yteohmemifogdlaa
open Go.RowKit Lg
set_option linter.unusedVariables false
set_option linter.unusedSimpArgs false

theorem i64_and31 (n : Int) : bits .and .i64 n 31 = n % 32 := by
  have h1 : (BitVec.ofInt 64 31).toNat = 2 ^ 5 - 1 := by decide
  have key : (BitVec.ofInt 64 n &&& BitVec.ofInt 64 31).toNat = (n % ((2 ^ 64 : Nat) : Int)).toNat % 2 ^ 5 := by
    rw [BitVec.toNat_and, BitVec.toNat_ofInt, h1, Nat.and_two_pow_sub_one_eq_mod]
  show IntKind.i64.wrap ((BitVec.ofInt 64 n &&& BitVec.ofInt 64 31).toNat : Nat) = n % 32
  rw [key, IntKind.wrap_i64]
  omega
def nmX (a b : Nat) : List UInt8 := [97, UInt8.ofNat (48 + a), UInt8.ofNat (48 + b)]
set_option maxRecDepth 100000 in
/-- a string of three bytes, made out of a slice of them -/
theorem three_c (b d1 d2 : Nat) (h1 : d1 < 10) (h2 : d2 < 10) (W : World) (h : W.heap[b]? = some (.cells #[.int .u8 97, .int .u8 (48 + (d1 : Int)), .int .u8 (48 + (d2 : Int))] 5 (0, 0))) :
    (convert 37 9 (.slice (some ⟨b, 0, none⟩) 3 3)).run Try.prog W = .ok (.string (S (nmX d1 d2))) W := by
  have e := run_convert_bytes_arg (P := Try.prog) W 37 5 Try.underlying37 Try.underlying5 b 0 3 3 [97, 48 + (d1 : Int), 48 + (d2 : Int)] rfl (fun i hi => by
    rw [Lib.cell_of_heap h]
    match i, hi with
    | 0, _ => rfl
    | 1, _ => rfl
    | 2, _ => rfl) 9 Try.underlying9
  rw [e]; congr 2
theorem dT_size {j : Nat} {s : ByteArray} (h : s = S (dT j)) (hj : j < 32) : s.size ≤ 704 := by
  have := (dT_lex j hj).2.2.2
  rw [h]
  have e : (S (dT j)).size = (dT j).length := by rw [← len_L, L_S]
  rw [e]; omega
theorem chain_sz {s P Q T1 T2 T3 T4 T5 T6 : ByteArray} (h1 : s.size ≤ 704) (hQ : Q.size ≤ 3) (hP : P.size ≤ 3) (t1 : s ++ (⟨#[96, 100, 101, 102, 105, 110, 101, 32]⟩ : ByteArray) = T1) (t2 : T1 ++ Q = T2) (t3 : T2 ++ (⟨#[32, 96]⟩ : ByteArray) = T3) (t4 : T3 ++ P = T4) (t5 : T4 ++ (⟨#[32, 96]⟩ : ByteArray) = T5) (t6 : T5 ++ P = T6) :
    T1.size ≤ 1000 ∧ T2.size ≤ 1000 ∧ T3.size ≤ 1000 ∧ T4.size ≤ 1000 ∧ T5.size ≤ 1000 ∧ T6.size ≤ 1000 := by
  have e1 : T1.size = s.size + 8 := by rw [← t1, ByteArray.size_append]; rfl
  have e2 : T2.size = T1.size + Q.size := by rw [← t2, ByteArray.size_append]
  have e3 : T3.size = T2.size + 2 := by rw [← t3, ByteArray.size_append]; rfl
  have e4 : T4.size = T3.size + P.size := by rw [← t4, ByteArray.size_append]
  have e5 : T5.size = T4.size + 2 := by rw [← t5, ByteArray.size_append]; rfl
  have e6 : T6.size = T5.size + P.size := by rw [← t6, ByteArray.size_append]
  omega
theorem dbl_next (j : Nat) (s P Q T1 T2 T3 T4 T5 T6 T7 : ByteArray) (hs : s = S (dT j)) (hQ : Q = S (nmD (j + 1))) (hP : P = S (nmD j)) (t1 : s ++ (⟨#[96, 100, 101, 102, 105, 110, 101, 32]⟩ : ByteArray) = T1) (t2 : T1 ++ Q = T2) (t3 : T2 ++ (⟨#[32, 96]⟩ : ByteArray) = T3) (t4 : T3 ++ P = T4) (t5 : T4 ++ (⟨#[32, 96]⟩ : ByteArray) = T5) (t6 : T5 ++ P = T6) (t7 : T6 ++ (⟨#[10]⟩ : ByteArray) = T7) : T7 = S (dT (j + 1)) := by
  apply L_inj
  rw [← t7, ← t6, ← t5, ← t4, ← t3, ← t2, ← t1]
  rw [L_append, L_append, L_append, L_append, L_append, L_append, L_append, hs, hP, hQ, L_S, L_S, L_S, L_S]
  show _ = dT j ++ lnT (j + 1)
  have e : lnT (j + 1) = [96, 100, 101, 102, 105, 110, 101, 32] ++ nmD (j + 1) ++ [32, 96] ++ nmD j ++ [32, 96] ++ nmD j ++ [10] := rfl
  rw [e]
  have e1 : L (⟨#[96, 100, 101, 102, 105, 110, 101, 32]⟩ : ByteArray) = [96, 100, 101, 102, 105, 110, 101, 32] := rfl
  have e2 : L (⟨#[32, 96]⟩ : ByteArray) = [32, 96] := rfl
  have e3 : L (⟨#[10]⟩ : ByteArray) = [10] := rfl
  rw [e1, e2, e3]
  simp only [List.append_assoc]
theorem dbl_bel {b : Nat} (w : World) (o1 o2 : Obj) (h : b ≤ w.heap.size) : Below b w ((w.alloc o1).alloc o2).drew := (((Below.refl _ _).alloc h _).alloc (by simp; omega) _).drew
set_option maxRecDepth 100000 in
theorem cA_A (wr : World) (d1 d2 d3 d4 : Nat) (l1 : d1 < 10) (l2 : d2 < 10) (l3 : d3 < 10) (l4 : d4 < 10) : (convert 37 9 (.slice (some ⟨wr.heap.size, 0, none⟩) 3 3)).run Try.prog (wr.alloc (.cells #[.int .u8 97, .int .u8 (48 + (d1 : Int)), .int .u8 (48 + (d2 : Int))] 5)).drew = .ok (.string (S (nmX d1 d2))) (wr.alloc (.cells #[.int .u8 97, .int .u8 (48 + (d1 : Int)), .int .u8 (48 + (d2 : Int))] 5)).drew := three_c wr.heap.size d1 d2 l1 l2 _ (by
  show (wr.heap.push _)[wr.heap.size]? = _
  rw [Array.getElem?_push, if_pos rfl])
set_option maxRecDepth 100000 in
theorem cB_B (wr : World) (d1 d2 d3 d4 : Nat) (l1 : d1 < 10) (l2 : d2 < 10) (l3 : d3 < 10) (l4 : d4 < 10) : (convert 37 9 (.slice (some ⟨wr.heap.size, 0, none⟩) 3 3)).run Try.prog (wr.alloc (.cells #[.int .u8 97, .int .u8 (48 + (d3 : Int)), .int .u8 (48 + (d4 : Int))] 5)).drew = .ok (.string (S (nmX d3 d4))) (wr.alloc (.cells #[.int .u8 97, .int .u8 (48 + (d3 : Int)), .int .u8 (48 + (d4 : Int))] 5)).drew := three_c wr.heap.size d3 d4 l3 l4 _ (by
  show (wr.heap.push _)[wr.heap.size]? = _
  rw [Array.getElem?_push, if_pos rfl])
set_option maxRecDepth 100000 in
theorem cA_AB (wr : World) (d1 d2 d3 d4 : Nat) (l1 : d1 < 10) (l2 : d2 < 10) (l3 : d3 < 10) (l4 : d4 < 10) : (convert 37 9 (.slice (some ⟨wr.heap.size, 0, none⟩) 3 3)).run Try.prog ((wr.alloc (.cells #[.int .u8 97, .int .u8 (48 + (d1 : Int)), .int .u8 (48 + (d2 : Int))] 5)).alloc (.cells #[.int .u8 97, .int .u8 (48 + (d3 : Int)), .int .u8 (48 + (d4 : Int))] 5)).drew = .ok (.string (S (nmX d1 d2))) ((wr.alloc (.cells #[.int .u8 97, .int .u8 (48 + (d1 : Int)), .int .u8 (48 + (d2 : Int))] 5)).alloc (.cells #[.int .u8 97, .int .u8 (48 + (d3 : Int)), .int .u8 (48 + (d4 : Int))] 5)).drew := three_c wr.heap.size d1 d2 l1 l2 _ (by
  show ((wr.heap.push _).push _)[wr.heap.size]? = _
  rw [Array.getElem?_push, if_neg (by simp), Array.getElem?_push, if_pos rfl])
set_option maxRecDepth 100000 in
theorem cB_AB (wr : World) (d1 d2 d3 d4 : Nat) (l1 : d1 < 10) (l2 : d2 < 10) (l3 : d3 < 10) (l4 : d4 < 10) : (convert 37 9 (.slice (some ⟨(wr.heap.size + 1), 0, none⟩) 3 3)).run Try.prog ((wr.alloc (.cells #[.int .u8 97, .int .u8 (48 + (d1 : Int)), .int .u8 (48 + (d2 : Int))] 5)).alloc (.cells #[.int .u8 97, .int .u8 (48 + (d3 : Int)), .int .u8 (48 + (d4 : Int))] 5)).drew = .ok (.string (S (nmX d3 d4))) ((wr.alloc (.cells #[.int .u8 97, .int .u8 (48 + (d1 : Int)), .int .u8 (48 + (d2 : Int))] 5)).alloc (.cells #[.int .u8 97, .int .u8 (48 + (d3 : Int)), .int .u8 (48 + (d4 : Int))] 5)).drew := three_c (wr.heap.size + 1) d3 d4 l3 l4 _ (by
  show ((wr.heap.push _).push _)[wr.heap.size + 1]? = _
  rw [Array.getElem?_push, if_pos (by simp)])
set_option maxRecDepth 100000 in
theorem cB_BA (wr : World) (d1 d2 d3 d4 : Nat) (l1 : d1 < 10) (l2 : d2 < 10) (l3 : d3 < 10) (l4 : d4 < 10) : (convert 37 9 (.slice (some ⟨wr.heap.size, 0, none⟩) 3 3)).run Try.prog ((wr.alloc (.cells #[.int .u8 97, .int .u8 (48 + (d3 : Int)), .int .u8 (48 + (d4 : Int))] 5)).alloc (.cells #[.int .u8 97, .int .u8 (48 + (d1 : Int)), .int .u8 (48 + (d2 : Int))] 5)).drew = .ok (.string (S (nmX d3 d4))) ((wr.alloc (.cells #[.int .u8 97, .int .u8 (48 + (d3 : Int)), .int .u8 (48 + (d4 : Int))] 5)).alloc (.cells #[.int .u8 97, .int .u8 (48 + (d1 : Int)), .int .u8 (48 + (d2 : Int))] 5)).drew := three_c wr.heap.size d3 d4 l3 l4 _ (by
  show ((wr.heap.push _).push _)[wr.heap.size]? = _
  rw [Array.getElem?_push, if_neg (by simp), Array.getElem?_push, if_pos rfl])
set_option maxRecDepth 100000 in
theorem cA_BA (wr : World) (d1 d2 d3 d4 : Nat) (l1 : d1 < 10) (l2 : d2 < 10) (l3 : d3 < 10) (l4 : d4 < 10) : (convert 37 9 (.slice (some ⟨(wr.heap.size + 1), 0, none⟩) 3 3)).run Try.prog ((wr.alloc (.cells #[.int .u8 97, .int .u8 (48 + (d3 : Int)), .int .u8 (48 + (d4 : Int))] 5)).alloc (.cells #[.int .u8 97, .int .u8 (48 + (d1 : Int)), .int .u8 (48 + (d2 : Int))] 5)).drew = .ok (.string (S (nmX d1 d2))) ((wr.alloc (.cells #[.int .u8 97, .int .u8 (48 + (d3 : Int)), .int .u8 (48 + (d4 : Int))] 5)).alloc (.cells #[.int .u8 97, .int .u8 (48 + (d1 : Int)), .int .u8 (48 + (d2 : Int))] 5)).drew := three_c (wr.heap.size + 1) d1 d2 l1 l2 _ (by
  show ((wr.heap.push _).push _)[wr.heap.size + 1]? = _
  rw [Array.getElem?_push, if_pos (by simp)])
theorem nmD_X (j : Nat) (h : j ≠ 0) : nmX (j / 10) (j % 10) = nmD j := by unfold nmX nmD; rw [if_neg h]
set_option maxRecDepth 100000 in
set_option maxHeartbeats 4000000 in
theorem PreDoubles_c (many : Int) (w : World) (hm0 : -9223372036854775808 ≤ many ∧ many ≤ 9223372036854775807) : Calls Try.prog 5 #[.int .i64 many] w fun e w' => e = .returned (.bool true) ∧ Below w.heap.size w w' := by
  obtain ⟨n, hn⟩ : ∃ n : Nat, many % 32 = (n : Int) := ⟨(many % 32).toNat, by omega⟩
  have hn32 : n < 32 := by omega
  have h31 : bits .and .i64 many 31 = (n : Int) := by rw [i64_and31, hn]
  clear hm0 hn
  go_enter Try.func5, Try.ntmps5
  go_wp2_with fail
  go_loopw [4, 5] (fun sv iv wr => ∃ (j : Nat) (s : ByteArray), j ≤ n ∧ iv = .int .i64 ((j : Int) + 1) ∧ sv = .string s ∧ Hid (s = S (dT j)) ∧ Hid (Below w.heap.size w wr)) (fun _ iv _ => n + 1 - (intOf iv).toNat)
  case atStart => exact ⟨0, _, Nat.zero_le _, by go_num, rfl, rfl, Below.refl _ _⟩
  case round =>
    obtain ⟨j, s, hj, rfl, rfl, HS, HB⟩ := hrel
    by_cases hlt : j < n
    · have hltI : (j : Int) + 1 ≤ (n : Int) := by omega
      have q1 : ((j : Int)).tdiv 10 = ((j / 10 : Nat) : Int) := by rw [Int.tdiv_eq_ediv_of_nonneg (by omega)]; omega
      have q2 : ((j : Int)).tmod 10 = ((j % 10 : Nat) : Int) := by rw [Int.tmod_eq_emod_of_nonneg (by omega)]; omega
      have q3 : ((j : Int) + 1).tdiv 10 = (((j + 1) / 10 : Nat) : Int) := by rw [Int.tdiv_eq_ediv_of_nonneg (by omega)]; omega
      have q4 : ((j : Int) + 1).tmod 10 = (((j + 1) % 10 : Nat) : Int) := by rw [Int.tmod_eq_emod_of_nonneg (by omega)]; omega
      obtain ⟨d1, hd1⟩ : ∃ d, d = j / 10 := ⟨_, rfl⟩
      obtain ⟨d2, hd2⟩ : ∃ d, d = j % 10 := ⟨_, rfl⟩
      obtain ⟨d3, hd3⟩ : ∃ d, d = (j + 1) / 10 := ⟨_, rfl⟩
      obtain ⟨d4, hd4⟩ : ∃ d, d = (j + 1) % 10 := ⟨_, rfl⟩
      rw [← hd1] at q1
      rw [← hd2] at q2
      rw [← hd3] at q3
      rw [← hd4] at q4
      have l1 : d1 < 10 := by omega
      have l2 : d2 < 10 := by omega
      have l3 : d3 < 10 := by omega
      have l4 : d4 < 10 := by omega
      have HD : Hid (d1 = j / 10 ∧ d2 = j % 10 ∧ d3 = (j + 1) / 10 ∧ d4 = (j + 1) % 10) := ⟨hd1, hd2, hd3, hd4⟩
      clear hd1 hd2 hd3 hd4
      have wj : IntKind.i64.wrap (j : Int) = (j : Int) := by rw [IntKind.wrap_i64]; omega
      have wd : ∀ d : Nat, d < 10 → IntKind.i64.wrap (d : Int) = (d : Int) ∧ IntKind.i64.wrap (48 + (d : Int)) = 48 + (d : Int) ∧ IntKind.u8.wrap (48 + (d : Int)) = 48 + (d : Int) := fun d hd => ⟨by rw [IntKind.wrap_i64]; omega, by rw [IntKind.wrap_i64]; omega, by rw [IntKind.wrap_u8]; omega⟩
      obtain ⟨x1, y1, z1⟩ := wd d1 l1
      obtain ⟨x2, y2, z2⟩ := wd d2 l2
      obtain ⟨x3, y3, z3⟩ := wd d3 l3
      obtain ⟨x4, y4, z4⟩ := wd d4 l4
      clear wd
      go_wp2_with fail
      refine wp_region_any (by kernel_rfl) ?_
      try (change wpAny _ _ _ _ _ _ _ (World.drew _))
      refine wpAny_take (i := 0) (v := ?_) rfl (by kernel_rfl) (by kernel_rfl) (by kernel_rfl) (fun _ _ _ h => h) (Or.inl ⟨by kernel_rfl, ?_⟩) ?_
      rotate_left
      · intro w'; go_simp <;> with_reducible rfl
      try simp only [Act.put, List.setIfInBounds_toArray, List.set_cons_zero, List.set_cons_succ]
      refine wpAny_take (i := 1) (v := ?_) rfl (by kernel_rfl) (by kernel_rfl) (by kernel_rfl) (fun _ _ _ h => h) (Or.inl ⟨by kernel_rfl, ?_⟩) ?_
      rotate_left
      · intro w'; go_simp <;> with_reducible rfl
      try simp only [Act.put, List.setIfInBounds_toArray, List.set_cons_zero, List.set_cons_succ]
      refine wpAny_take (i := 2) (v := ?_) rfl (by kernel_rfl) (by kernel_rfl) (by kernel_rfl) (fun _ _ _ h => h) (Or.inl ⟨by kernel_rfl, ?_⟩) ?_
      rotate_left
      · intro w'; go_simp <;> with_reducible rfl
      try simp only [Act.put, List.setIfInBounds_toArray, List.set_cons_zero, List.set_cons_succ]
      refine wpAny_take (i := 3) (v := ?_) rfl (by kernel_rfl) (by kernel_rfl) (by kernel_rfl) (fun _ _ _ h => h) (Or.inl ⟨by kernel_rfl, ?_⟩) ?_
      rotate_left
      · intro w'; go_simp <;> with_reducible rfl
      try simp only [Act.put, List.setIfInBounds_toArray, List.set_cons_zero, List.set_cons_succ]
      refine wpAny_take (i := 4) (v := ?_) rfl (by kernel_rfl) (by kernel_rfl) (by kernel_rfl) (fun _ _ _ h => h) (Or.inl ⟨by kernel_rfl, ?_⟩) ?_
      rotate_left
      · intro w'; go_simp <;> with_reducible rfl
      try simp only [Act.put, List.setIfInBounds_toArray, List.set_cons_zero, List.set_cons_succ]
      refine wpAny_take (i := 5) (v := ?_) rfl (by kernel_rfl) (by kernel_rfl) (by kernel_rfl) (fun _ _ _ h => h) (Or.inl ⟨by kernel_rfl, ?_⟩) ?_
      rotate_left
      · intro w'; go_simp <;> with_reducible rfl
      try simp only [Act.put, List.setIfInBounds_toArray, List.set_cons_zero, List.set_cons_succ]
      refine wpAny_take (i := 6) (v := ?_) rfl (by kernel_rfl) (by kernel_rfl) (by kernel_rfl) (fun _ _ _ h => h) (Or.inl ⟨by kernel_rfl, ?_⟩) ?_
      rotate_left
      · intro w'; go_simp <;> with_reducible rfl
      try simp only [Act.put, List.setIfInBounds_toArray, List.set_cons_zero, List.set_cons_succ]
      refine wpAny_take (i := 7) (v := ?_) rfl (by kernel_rfl) (by kernel_rfl) (by kernel_rfl) (fun _ _ _ h => h) (Or.inl ⟨by kernel_rfl, ?_⟩) ?_
      rotate_left
      · intro w'; go_simp <;> with_reducible rfl
      try simp only [Act.put, List.setIfInBounds_toArray, List.set_cons_zero, List.set_cons_succ]
      refine wpAny_take (i := 8) (v := ?_) rfl (by kernel_rfl) (by kernel_rfl) (by kernel_rfl) (fun _ _ _ h => h) (Or.inl ⟨by kernel_rfl, ?_⟩) ?_
      rotate_left
      · intro w'; go_simp <;> with_reducible rfl
      try simp only [Act.put, List.setIfInBounds_toArray, List.set_cons_zero, List.set_cons_succ]
      refine wpAny_take (i := 9) (v := ?_) rfl (by kernel_rfl) (by kernel_rfl) (by kernel_rfl) (fun _ _ _ h => h) (Or.inl ⟨by kernel_rfl, ?_⟩) ?_
      rotate_left
      · intro w'; go_simp <;> with_reducible rfl
      try simp only [Act.put, List.setIfInBounds_toArray, List.set_cons_zero, List.set_cons_succ]
      refine wpAny_take (i := 12) (v := ?_) rfl (by kernel_rfl) (by kernel_rfl) (by kernel_rfl) (fun _ _ _ h => h) (Or.inl ⟨by kernel_rfl, ?_⟩) ?_
      rotate_left
      · intro w'; go_simp <;> with_reducible rfl
      try simp only [Act.put, List.setIfInBounds_toArray, List.set_cons_zero, List.set_cons_succ]
      refine wpAny_take (i := 13) (v := ?_) rfl (by kernel_rfl) (by kernel_rfl) (by kernel_rfl) (fun _ _ _ h => h) (Or.inl ⟨by kernel_rfl, ?_⟩) ?_
      rotate_left
      · intro w'; go_simp <;> with_reducible rfl
      try simp only [Act.put, List.setIfInBounds_toArray, List.set_cons_zero, List.set_cons_succ]
      refine wpAny_take (i := 14) (v := ?_) rfl (by kernel_rfl) (by kernel_rfl) (by kernel_rfl) (fun _ _ _ h => h) (Or.inl ⟨by kernel_rfl, ?_⟩) ?_
      rotate_left
      · intro w'; go_simp <;> with_reducible rfl
      try simp only [Act.put, List.setIfInBounds_toArray, List.set_cons_zero, List.set_cons_succ]
      refine wpAny_take (i := 15) (v := ?_) rfl (by kernel_rfl) (by kernel_rfl) (by kernel_rfl) (fun _ _ _ h => h) (Or.inl ⟨by kernel_rfl, ?_⟩) ?_
      rotate_left
      · intro w'; go_simp <;> with_reducible rfl
      try simp only [Act.put, List.setIfInBounds_toArray, List.set_cons_zero, List.set_cons_succ]
      refine wpAny_take (i := 16) (v := ?_) rfl (by kernel_rfl) (by kernel_rfl) (by kernel_rfl) (fun _ _ _ h => h) (Or.inl ⟨by kernel_rfl, ?_⟩) ?_
      rotate_left
      · intro w'; go_simp <;> with_reducible rfl
      try simp only [Act.put, List.setIfInBounds_toArray, List.set_cons_zero, List.set_cons_succ]
      refine wpAny_take (i := 17) (v := ?_) rfl (by kernel_rfl) (by kernel_rfl) (by kernel_rfl) (fun _ _ _ h => h) (Or.inl ⟨by kernel_rfl, ?_⟩) ?_
      rotate_left
      · intro w'; go_simp <;> with_reducible rfl
      try simp only [Act.put, List.setIfInBounds_toArray, List.set_cons_zero, List.set_cons_succ]
      refine wpAny_take (i := 18) (v := ?_) rfl (by kernel_rfl) (by kernel_rfl) (by kernel_rfl) (fun _ _ _ h => h) (Or.inl ⟨by kernel_rfl, ?_⟩) ?_
      rotate_left
      · intro w'; go_simp <;> with_reducible rfl
      try simp only [Act.put, List.setIfInBounds_toArray, List.set_cons_zero, List.set_cons_succ]
      refine wpAny_take (i := 19) (v := ?_) rfl (by kernel_rfl) (by kernel_rfl) (by kernel_rfl) (fun _ _ _ h => h) (Or.inl ⟨by kernel_rfl, ?_⟩) ?_
      rotate_left
      · intro w'; go_simp <;> with_reducible rfl
      try simp only [Act.put, List.setIfInBounds_toArray, List.set_cons_zero, List.set_cons_succ]
      refine wpAny_ready (rs := [10, 20]) (by kernel_rfl) (by simp) ?_
      refine AllReady.cons rfl (fun K hK => ?_) ?_
      · go_simp
        refine hK _ _ ?_
        clear hK K
        refine wpAny_ready (rs := [11, 20]) (by kernel_rfl) (by simp) ?_
        refine AllReady.cons rfl (fun K hK => ?_) ?_
        · have hcv := cA_A wr d1 d2 d3 d4 l1 l2 l3 l4
          go_simp
          clear hcv
          refine hK _ _ ?_
          clear hK K
          refine wpAny_take (i := 22) (v := ?_) rfl (by kernel_rfl) (by kernel_rfl) (by kernel_rfl) (fun _ _ _ h => h) (Or.inl ⟨by kernel_rfl, ?_⟩) ?_
          rotate_left
          · intro w'; go_simp <;> with_reducible rfl
          try simp only [Act.put, List.setIfInBounds_toArray, List.set_cons_zero, List.set_cons_succ]
          refine wpAny_ready (rs := [20]) (by kernel_rfl) (by simp) ?_
          refine AllReady.cons rfl (fun K hK => ?_) ?_
          · go_simp
            refine hK _ _ ?_
            clear hK K
            refine wpAny_ready (rs := [21]) (by kernel_rfl) (by simp) ?_
            refine AllReady.cons rfl (fun K hK => ?_) ?_
            · have hcv := cB_AB wr d1 d2 d3 d4 l1 l2 l3 l4
              go_simp
              clear hcv
              refine hK _ _ ?_
              clear hK K
              refine wpAny_take (i := 23) (v := ?_) rfl (by kernel_rfl) (by kernel_rfl) (by kernel_rfl) (fun _ _ _ h => h) (Or.inl ⟨by kernel_rfl, ?_⟩) ?_
              rotate_left
              · intro w'; go_simp <;> with_reducible rfl
              try simp only [Act.put, List.setIfInBounds_toArray, List.set_cons_zero, List.set_cons_succ]
              refine wpAny_done (by kernel_rfl) ?_ _
              obtain ⟨P, hP⟩ : ∃ P, S (nmX d1 d2) = P := ⟨_, rfl⟩
              obtain ⟨Q, hQ⟩ : ∃ Q, S (nmX d3 d4) = Q := ⟨_, rfl⟩
              have zs := dT_size HS.out (by omega)
              have zP : P.size = 3 := by rw [← hP]; rfl
              have zQ : Q.size = 3 := by rw [← hQ]; rfl
              have HQ : Hid (Q = S (nmD (j + 1))) := by rw [← hQ, HD.out.2.2.1, HD.out.2.2.2, nmD_X _ (by omega)]; exact rfl
              by_cases hj0 : j = 0
              · have k1 : ((j : Int) + 1 == 1) = true := by subst hj0; rfl
                obtain ⟨T1, t1⟩ : ∃ T1, s ++ (⟨#[96, 100, 101, 102, 105, 110, 101, 32]⟩ : ByteArray) = T1 := ⟨_, rfl⟩
                obtain ⟨T2, t2⟩ : ∃ T2, T1 ++ Q = T2 := ⟨_, rfl⟩
                obtain ⟨T3, t3⟩ : ∃ T3, T2 ++ (⟨#[32, 96]⟩ : ByteArray) = T3 := ⟨_, rfl⟩
                obtain ⟨T4, t4⟩ : ∃ T4, T3 ++ (⟨#[97, 48]⟩ : ByteArray) = T4 := ⟨_, rfl⟩
                obtain ⟨T5, t5⟩ : ∃ T5, T4 ++ (⟨#[32, 96]⟩ : ByteArray) = T5 := ⟨_, rfl⟩
                obtain ⟨T6, t6⟩ : ∃ T6, T5 ++ (⟨#[97, 48]⟩ : ByteArray) = T6 := ⟨_, rfl⟩
                obtain ⟨T7, t7⟩ : ∃ T7, T6 ++ (⟨#[10]⟩ : ByteArray) = T7 := ⟨_, rfl⟩
                obtain ⟨y1', y2', y3', y4', y5', y6'⟩ := chain_sz (P := ⟨#[97, 48]⟩) zs (by omega) (by decide) t1 t2 t3 t4 t5 t6
                have HT : Hid (T7 = S (dT (j + 1))) := dbl_next j s ⟨#[97, 48]⟩ Q _ _ _ _ _ _ _ HS.out HQ.out (by subst hj0; rfl) t1 t2 t3 t4 t5 t6 t7
                go_wp2_with fail
                go_roundw
                case rel =>
                  refine ⟨j + 1, T7, by omega, by go_num, rfl, HT, HB.out.trans ?_⟩
                  exact dbl_bel _ _ _ HB.out.size
                case measure => simp [intOf]; omega
              · have k1 : ((j : Int) + 1 == 1) = false := by rw [beq_eq_false_iff_ne]; omega
                obtain ⟨T1, t1⟩ : ∃ T1, s ++ (⟨#[96, 100, 101, 102, 105, 110, 101, 32]⟩ : ByteArray) = T1 := ⟨_, rfl⟩
                obtain ⟨T2, t2⟩ : ∃ T2, T1 ++ Q = T2 := ⟨_, rfl⟩
                obtain ⟨T3, t3⟩ : ∃ T3, T2 ++ (⟨#[32, 96]⟩ : ByteArray) = T3 := ⟨_, rfl⟩
                obtain ⟨T4, t4⟩ : ∃ T4, T3 ++ P = T4 := ⟨_, rfl⟩
                obtain ⟨T5, t5⟩ : ∃ T5, T4 ++ (⟨#[32, 96]⟩ : ByteArray) = T5 := ⟨_, rfl⟩
                obtain ⟨T6, t6⟩ : ∃ T6, T5 ++ P = T6 := ⟨_, rfl⟩
                obtain ⟨T7, t7⟩ : ∃ T7, T6 ++ (⟨#[10]⟩ : ByteArray) = T7 := ⟨_, rfl⟩
                obtain ⟨y1', y2', y3', y4', y5', y6'⟩ := chain_sz (P := P) zs (by omega) (by omega) t1 t2 t3 t4 t5 t6
                have HT : Hid (T7 = S (dT (j + 1))) := dbl_next j s P Q _ _ _ _ _ _ _ HS.out HQ.out (by rw [← hP, HD.out.1, HD.out.2.1, nmD_X _ hj0]) t1 t2 t3 t4 t5 t6 t7
                go_wp2_with fail
                go_roundw
                case rel =>
                  refine ⟨j + 1, T7, by omega, by go_num, rfl, HT, HB.out.trans ?_⟩
                  exact dbl_bel _ _ _ HB.out.size
                case measure => simp [intOf]; omega
            exact AllReady.nil
          exact AllReady.nil
        refine AllReady.cons rfl (fun K hK => ?_) ?_
        · go_simp
          refine hK _ _ ?_
          clear hK K
          refine wpAny_ready (rs := [11, 21]) (by kernel_rfl) (by simp) ?_
          refine AllReady.cons rfl (fun K hK => ?_) ?_
          · have hcv := cA_AB wr d1 d2 d3 d4 l1 l2 l3 l4
            go_simp
            clear hcv
            refine hK _ _ ?_
            clear hK K
            refine wpAny_take (i := 22) (v := ?_) rfl (by kernel_rfl) (by kernel_rfl) (by kernel_rfl) (fun _ _ _ h => h) (Or.inl ⟨by kernel_rfl, ?_⟩) ?_
            rotate_left
            · intro w'; go_simp <;> with_reducible rfl
            try simp only [Act.put, List.setIfInBounds_toArray, List.set_cons_zero, List.set_cons_succ]
            refine wpAny_ready (rs := [21]) (by kernel_rfl) (by simp) ?_
            refine AllReady.cons rfl (fun K hK => ?_) ?_
            · have hcv := cB_AB wr d1 d2 d3 d4 l1 l2 l3 l4
              go_simp
              clear hcv
              refine hK _ _ ?_
              clear hK K
              refine wpAny_take (i := 23) (v := ?_) rfl (by kernel_rfl) (by kernel_rfl) (by kernel_rfl) (fun _ _ _ h => h) (Or.inl ⟨by kernel_rfl, ?_⟩) ?_
              rotate_left
              · intro w'; go_simp <;> with_reducible rfl
              try simp only [Act.put, List.setIfInBounds_toArray, List.set_cons_zero, List.set_cons_succ]
              refine wpAny_done (by kernel_rfl) ?_ _
              obtain ⟨P, hP⟩ : ∃ P, S (nmX d1 d2) = P := ⟨_, rfl⟩
              obtain ⟨Q, hQ⟩ : ∃ Q, S (nmX d3 d4) = Q := ⟨_, rfl⟩
              have zs := dT_size HS.out (by omega)
              have zP : P.size = 3 := by rw [← hP]; rfl
              have zQ : Q.size = 3 := by rw [← hQ]; rfl
              have HQ : Hid (Q = S (nmD (j + 1))) := by rw [← hQ, HD.out.2.2.1, HD.out.2.2.2, nmD_X _ (by omega)]; exact rfl
              by_cases hj0 : j = 0
              · have k1 : ((j : Int) + 1 == 1) = true := by subst hj0; rfl
                obtain ⟨T1, t1⟩ : ∃ T1, s ++ (⟨#[96, 100, 101, 102, 105, 110, 101, 32]⟩ : ByteArray) = T1 := ⟨_, rfl⟩
                obtain ⟨T2, t2⟩ : ∃ T2, T1 ++ Q = T2 := ⟨_, rfl⟩
                obtain ⟨T3, t3⟩ : ∃ T3, T2 ++ (⟨#[32, 96]⟩ : ByteArray) = T3 := ⟨_, rfl⟩
                obtain ⟨T4, t4⟩ : ∃ T4, T3 ++ (⟨#[97, 48]⟩ : ByteArray) = T4 := ⟨_, rfl⟩
                obtain ⟨T5, t5⟩ : ∃ T5, T4 ++ (⟨#[32, 96]⟩ : ByteArray) = T5 := ⟨_, rfl⟩
                obtain ⟨T6, t6⟩ : ∃ T6, T5 ++ (⟨#[97, 48]⟩ : ByteArray) = T6 := ⟨_, rfl⟩
                obtain ⟨T7, t7⟩ : ∃ T7, T6 ++ (⟨#[10]⟩ : ByteArray) = T7 := ⟨_, rfl⟩
                obtain ⟨y1', y2', y3', y4', y5', y6'⟩ := chain_sz (P := ⟨#[97, 48]⟩) zs (by omega) (by decide) t1 t2 t3 t4 t5 t6
                have HT : Hid (T7 = S (dT (j + 1))) := dbl_next j s ⟨#[97, 48]⟩ Q _ _ _ _ _ _ _ HS.out HQ.out (by subst hj0; rfl) t1 t2 t3 t4 t5 t6 t7
                go_wp2_with fail
                go_roundw
                case rel =>
                  refine ⟨j + 1, T7, by omega, by go_num, rfl, HT, HB.out.trans ?_⟩
                  exact dbl_bel _ _ _ HB.out.size
                case measure => simp [intOf]; omega
              · have k1 : ((j : Int) + 1 == 1) = false := by rw [beq_eq_false_iff_ne]; omega
                obtain ⟨T1, t1⟩ : ∃ T1, s ++ (⟨#[96, 100, 101, 102, 105, 110, 101, 32]⟩ : ByteArray) = T1 := ⟨_, rfl⟩
                obtain ⟨T2, t2⟩ : ∃ T2, T1 ++ Q = T2 := ⟨_, rfl⟩
                obtain ⟨T3, t3⟩ : ∃ T3, T2 ++ (⟨#[32, 96]⟩ : ByteArray) = T3 := ⟨_, rfl⟩
                obtain ⟨T4, t4⟩ : ∃ T4, T3 ++ P = T4 := ⟨_, rfl⟩
                obtain ⟨T5, t5⟩ : ∃ T5, T4 ++ (⟨#[32, 96]⟩ : ByteArray) = T5 := ⟨_, rfl⟩
                obtain ⟨T6, t6⟩ : ∃ T6, T5 ++ P = T6 := ⟨_, rfl⟩
                obtain ⟨T7, t7⟩ : ∃ T7, T6 ++ (⟨#[10]⟩ : ByteArray) = T7 := ⟨_, rfl⟩
                obtain ⟨y1', y2', y3', y4', y5', y6'⟩ := chain_sz (P := P) zs (by omega) (by omega) t1 t2 t3 t4 t5 t6
                have HT : Hid (T7 = S (dT (j + 1))) := dbl_next j s P Q _ _ _ _ _ _ _ HS.out HQ.out (by rw [← hP, HD.out.1, HD.out.2.1, nmD_X _ hj0]) t1 t2 t3 t4 t5 t6 t7
                go_wp2_with fail
                go_roundw
                case rel =>
                  refine ⟨j + 1, T7, by omega, by go_num, rfl, HT, HB.out.trans ?_⟩
                  exact dbl_bel _ _ _ HB.out.size
                case measure => simp [intOf]; omega
            exact AllReady.nil
          refine AllReady.cons rfl (fun K hK => ?_) ?_
          · have hcv := cB_AB wr d1 d2 d3 d4 l1 l2 l3 l4
            go_simp
            clear hcv
            refine hK _ _ ?_
            clear hK K
            refine wpAny_ready (rs := [11]) (by kernel_rfl) (by simp) ?_
            refine AllReady.cons rfl (fun K hK => ?_) ?_
            · have hcv := cA_AB wr d1 d2 d3 d4 l1 l2 l3 l4
              go_simp
              clear hcv
              refine hK _ _ ?_
              clear hK K
              refine wpAny_take (i := 22) (v := ?_) rfl (by kernel_rfl) (by kernel_rfl) (by kernel_rfl) (fun _ _ _ h => h) (Or.inl ⟨by kernel_rfl, ?_⟩) ?_
              rotate_left
              · intro w'; go_simp <;> with_reducible rfl
              try simp only [Act.put, List.setIfInBounds_toArray, List.set_cons_zero, List.set_cons_succ]
              refine wpAny_take (i := 23) (v := ?_) rfl (by kernel_rfl) (by kernel_rfl) (by kernel_rfl) (fun _ _ _ h => h) (Or.inl ⟨by kernel_rfl, ?_⟩) ?_
              rotate_left
              · intro w'; go_simp <;> with_reducible rfl
              try simp only [Act.put, List.setIfInBounds_toArray, List.set_cons_zero, List.set_cons_succ]
              refine wpAny_done (by kernel_rfl) ?_ _
              obtain ⟨P, hP⟩ : ∃ P, S (nmX d1 d2) = P := ⟨_, rfl⟩
              obtain ⟨Q, hQ⟩ : ∃ Q, S (nmX d3 d4) = Q := ⟨_, rfl⟩
              have zs := dT_size HS.out (by omega)
              have zP : P.size = 3 := by rw [← hP]; rfl
              have zQ : Q.size = 3 := by rw [← hQ]; rfl
              have HQ : Hid (Q = S (nmD (j + 1))) := by rw [← hQ, HD.out.2.2.1, HD.out.2.2.2, nmD_X _ (by omega)]; exact rfl
              by_cases hj0 : j = 0
              · have k1 : ((j : Int) + 1 == 1) = true := by subst hj0; rfl
                obtain ⟨T1, t1⟩ : ∃ T1, s ++ (⟨#[96, 100, 101, 102, 105, 110, 101, 32]⟩ : ByteArray) = T1 := ⟨_, rfl⟩
                obtain ⟨T2, t2⟩ : ∃ T2, T1 ++ Q = T2 := ⟨_, rfl⟩
                obtain ⟨T3, t3⟩ : ∃ T3, T2 ++ (⟨#[32, 96]⟩ : ByteArray) = T3 := ⟨_, rfl⟩
                obtain ⟨T4, t4⟩ : ∃ T4, T3 ++ (⟨#[97, 48]⟩ : ByteArray) = T4 := ⟨_, rfl⟩
                obtain ⟨T5, t5⟩ : ∃ T5, T4 ++ (⟨#[32, 96]⟩ : ByteArray) = T5 := ⟨_, rfl⟩
                obtain ⟨T6, t6⟩ : ∃ T6, T5 ++ (⟨#[97, 48]⟩ : ByteArray) = T6 := ⟨_, rfl⟩
                obtain ⟨T7, t7⟩ : ∃ T7, T6 ++ (⟨#[10]⟩ : ByteArray) = T7 := ⟨_, rfl⟩
                obtain ⟨y1', y2', y3', y4', y5', y6'⟩ := chain_sz (P := ⟨#[97, 48]⟩) zs (by omega) (by decide) t1 t2 t3 t4 t5 t6
                have HT : Hid (T7 = S (dT (j + 1))) := dbl_next j s ⟨#[97, 48]⟩ Q _ _ _ _ _ _ _ HS.out HQ.out (by subst hj0; rfl) t1 t2 t3 t4 t5 t6 t7
                go_wp2_with fail
                go_roundw
                case rel =>
                  refine ⟨j + 1, T7, by omega, by go_num, rfl, HT, HB.out.trans ?_⟩
                  exact dbl_bel _ _ _ HB.out.size
                case measure => simp [intOf]; omega
              · have k1 : ((j : Int) + 1 == 1) = false := by rw [beq_eq_false_iff_ne]; omega
                obtain ⟨T1, t1⟩ : ∃ T1, s ++ (⟨#[96, 100, 101, 102, 105, 110, 101, 32]⟩ : ByteArray) = T1 := ⟨_, rfl⟩
                obtain ⟨T2, t2⟩ : ∃ T2, T1 ++ Q = T2 := ⟨_, rfl⟩
                obtain ⟨T3, t3⟩ : ∃ T3, T2 ++ (⟨#[32, 96]⟩ : ByteArray) = T3 := ⟨_, rfl⟩
                obtain ⟨T4, t4⟩ : ∃ T4, T3 ++ P = T4 := ⟨_, rfl⟩
                obtain ⟨T5, t5⟩ : ∃ T5, T4 ++ (⟨#[32, 96]⟩ : ByteArray) = T5 := ⟨_, rfl⟩
                obtain ⟨T6, t6⟩ : ∃ T6, T5 ++ P = T6 := ⟨_, rfl⟩
                obtain ⟨T7, t7⟩ : ∃ T7, T6 ++ (⟨#[10]⟩ : ByteArray) = T7 := ⟨_, rfl⟩
                obtain ⟨y1', y2', y3', y4', y5', y6'⟩ := chain_sz (P := P) zs (by omega) (by omega) t1 t2 t3 t4 t5 t6
                have HT : Hid (T7 = S (dT (j + 1))) := dbl_next j s P Q _ _ _ _ _ _ _ HS.out HQ.out (by rw [← hP, HD.out.1, HD.out.2.1, nmD_X _ hj0]) t1 t2 t3 t4 t5 t6 t7
                go_wp2_with fail
                go_roundw
                case rel =>
                  refine ⟨j + 1, T7, by omega, by go_num, rfl, HT, HB.out.trans ?_⟩
                  exact dbl_bel _ _ _ HB.out.size
                case measure => simp [intOf]; omega
            exact AllReady.nil
          exact AllReady.nil
        exact AllReady.nil
      refine AllReady.cons rfl (fun K hK => ?_) ?_
      · go_simp
        refine hK _ _ ?_
        clear hK K
        refine wpAny_ready (rs := [10, 21]) (by kernel_rfl) (by simp) ?_
        refine AllReady.cons rfl (fun K hK => ?_) ?_
        · go_simp
          refine hK _ _ ?_
          clear hK K
          refine wpAny_ready (rs := [11, 21]) (by kernel_rfl) (by simp) ?_
          refine AllReady.cons rfl (fun K hK => ?_) ?_
          · have hcv := cA_BA wr d1 d2 d3 d4 l1 l2 l3 l4
            go_simp
            clear hcv
            refine hK _ _ ?_
            clear hK K
            refine wpAny_take (i := 22) (v := ?_) rfl (by kernel_rfl) (by kernel_rfl) (by kernel_rfl) (fun _ _ _ h => h) (Or.inl ⟨by kernel_rfl, ?_⟩) ?_
            rotate_left
            · intro w'; go_simp <;> with_reducible rfl
            try simp only [Act.put, List.setIfInBounds_toArray, List.set_cons_zero, List.set_cons_succ]
            refine wpAny_ready (rs := [21]) (by kernel_rfl) (by simp) ?_
            refine AllReady.cons rfl (fun K hK => ?_) ?_
            · have hcv := cB_BA wr d1 d2 d3 d4 l1 l2 l3 l4
              go_simp
              clear hcv
              refine hK _ _ ?_
              clear hK K
              refine wpAny_take (i := 23) (v := ?_) rfl (by kernel_rfl) (by kernel_rfl) (by kernel_rfl) (fun _ _ _ h => h) (Or.inl ⟨by kernel_rfl, ?_⟩) ?_
              rotate_left
              · intro w'; go_simp <;> with_reducible rfl
              try simp only [Act.put, List.setIfInBounds_toArray, List.set_cons_zero, List.set_cons_succ]
              refine wpAny_done (by kernel_rfl) ?_ _
              obtain ⟨P, hP⟩ : ∃ P, S (nmX d1 d2) = P := ⟨_, rfl⟩
              obtain ⟨Q, hQ⟩ : ∃ Q, S (nmX d3 d4) = Q := ⟨_, rfl⟩
              have zs := dT_size HS.out (by omega)
              have zP : P.size = 3 := by rw [← hP]; rfl
              have zQ : Q.size = 3 := by rw [← hQ]; rfl
              have HQ : Hid (Q = S (nmD (j + 1))) := by rw [← hQ, HD.out.2.2.1, HD.out.2.2.2, nmD_X _ (by omega)]; exact rfl
              by_cases hj0 : j = 0
              · have k1 : ((j : Int) + 1 == 1) = true := by subst hj0; rfl
                obtain ⟨T1, t1⟩ : ∃ T1, s ++ (⟨#[96, 100, 101, 102, 105, 110, 101, 32]⟩ : ByteArray) = T1 := ⟨_, rfl⟩
                obtain ⟨T2, t2⟩ : ∃ T2, T1 ++ Q = T2 := ⟨_, rfl⟩
                obtain ⟨T3, t3⟩ : ∃ T3, T2 ++ (⟨#[32, 96]⟩ : ByteArray) = T3 := ⟨_, rfl⟩
                obtain ⟨T4, t4⟩ : ∃ T4, T3 ++ (⟨#[97, 48]⟩ : ByteArray) = T4 := ⟨_, rfl⟩
                obtain ⟨T5, t5⟩ : ∃ T5, T4 ++ (⟨#[32, 96]⟩ : ByteArray) = T5 := ⟨_, rfl⟩
                obtain ⟨T6, t6⟩ : ∃ T6, T5 ++ (⟨#[97, 48]⟩ : ByteArray) = T6 := ⟨_, rfl⟩
                obtain ⟨T7, t7⟩ : ∃ T7, T6 ++ (⟨#[10]⟩ : ByteArray) = T7 := ⟨_, rfl⟩
                obtain ⟨y1', y2', y3', y4', y5', y6'⟩ := chain_sz (P := ⟨#[97, 48]⟩) zs (by omega) (by decide) t1 t2 t3 t4 t5 t6
                have HT : Hid (T7 = S (dT (j + 1))) := dbl_next j s ⟨#[97, 48]⟩ Q _ _ _ _ _ _ _ HS.out HQ.out (by subst hj0; rfl) t1 t2 t3 t4 t5 t6 t7
                go_wp2_with fail
                go_roundw
                case rel =>
                  refine ⟨j + 1, T7, by omega, by go_num, rfl, HT, HB.out.trans ?_⟩
                  exact dbl_bel _ _ _ HB.out.size
                case measure => simp [intOf]; omega
              · have k1 : ((j : Int) + 1 == 1) = false := by rw [beq_eq_false_iff_ne]; omega
                obtain ⟨T1, t1⟩ : ∃ T1, s ++ (⟨#[96, 100, 101, 102, 105, 110, 101, 32]⟩ : ByteArray) = T1 := ⟨_, rfl⟩
                obtain ⟨T2, t2⟩ : ∃ T2, T1 ++ Q = T2 := ⟨_, rfl⟩
                obtain ⟨T3, t3⟩ : ∃ T3, T2 ++ (⟨#[32, 96]⟩ : ByteArray) = T3 := ⟨_, rfl⟩
                obtain ⟨T4, t4⟩ : ∃ T4, T3 ++ P = T4 := ⟨_, rfl⟩
                obtain ⟨T5, t5⟩ : ∃ T5, T4 ++ (⟨#[32, 96]⟩ : ByteArray) = T5 := ⟨_, rfl⟩
                obtain ⟨T6, t6⟩ : ∃ T6, T5 ++ P = T6 := ⟨_, rfl⟩
                obtain ⟨T7, t7⟩ : ∃ T7, T6 ++ (⟨#[10]⟩ : ByteArray) = T7 := ⟨_, rfl⟩
                obtain ⟨y1', y2', y3', y4', y5', y6'⟩ := chain_sz (P := P) zs (by omega) (by omega) t1 t2 t3 t4 t5 t6
                have HT : Hid (T7 = S (dT (j + 1))) := dbl_next j s P Q _ _ _ _ _ _ _ HS.out HQ.out (by rw [← hP, HD.out.1, HD.out.2.1, nmD_X _ hj0]) t1 t2 t3 t4 t5 t6 t7
                go_wp2_with fail
                go_roundw
                case rel =>
                  refine ⟨j + 1, T7, by omega, by go_num, rfl, HT, HB.out.trans ?_⟩
                  exact dbl_bel _ _ _ HB.out.size
                case measure => simp [intOf]; omega
            exact AllReady.nil
          refine AllReady.cons rfl (fun K hK => ?_) ?_
          · have hcv := cB_BA wr d1 d2 d3 d4 l1 l2 l3 l4
            go_simp
            clear hcv
            refine hK _ _ ?_
            clear hK K
            refine wpAny_ready (rs := [11]) (by kernel_rfl) (by simp) ?_
            refine AllReady.cons rfl (fun K hK => ?_) ?_
            · have hcv := cA_BA wr d1 d2 d3 d4 l1 l2 l3 l4
              go_simp
              clear hcv
              refine hK _ _ ?_
              clear hK K
              refine wpAny_take (i := 22) (v := ?_) rfl (by kernel_rfl) (by kernel_rfl) (by kernel_rfl) (fun _ _ _ h => h) (Or.inl ⟨by kernel_rfl, ?_⟩) ?_
              rotate_left
              · intro w'; go_simp <;> with_reducible rfl
              try simp only [Act.put, List.setIfInBounds_toArray, List.set_cons_zero, List.set_cons_succ]
              refine wpAny_take (i := 23) (v := ?_) rfl (by kernel_rfl) (by kernel_rfl) (by kernel_rfl) (fun _ _ _ h => h) (Or.inl ⟨by kernel_rfl, ?_⟩) ?_
              rotate_left
              · intro w'; go_simp <;> with_reducible rfl
              try simp only [Act.put, List.setIfInBounds_toArray, List.set_cons_zero, List.set_cons_succ]
              refine wpAny_done (by kernel_rfl) ?_ _
              obtain ⟨P, hP⟩ : ∃ P, S (nmX d1 d2) = P := ⟨_, rfl⟩
              obtain ⟨Q, hQ⟩ : ∃ Q, S (nmX d3 d4) = Q := ⟨_, rfl⟩
              have zs := dT_size HS.out (by omega)
              have zP : P.size = 3 := by rw [← hP]; rfl
              have zQ : Q.size = 3 := by rw [← hQ]; rfl
              have HQ : Hid (Q = S (nmD (j + 1))) := by rw [← hQ, HD.out.2.2.1, HD.out.2.2.2, nmD_X _ (by omega)]; exact rfl
              by_cases hj0 : j = 0
              · have k1 : ((j : Int) + 1 == 1) = true := by subst hj0; rfl
                obtain ⟨T1, t1⟩ : ∃ T1, s ++ (⟨#[96, 100, 101, 102, 105, 110, 101, 32]⟩ : ByteArray) = T1 := ⟨_, rfl⟩
                obtain ⟨T2, t2⟩ : ∃ T2, T1 ++ Q = T2 := ⟨_, rfl⟩
                obtain ⟨T3, t3⟩ : ∃ T3, T2 ++ (⟨#[32, 96]⟩ : ByteArray) = T3 := ⟨_, rfl⟩
                obtain ⟨T4, t4⟩ : ∃ T4, T3 ++ (⟨#[97, 48]⟩ : ByteArray) = T4 := ⟨_, rfl⟩
                obtain ⟨T5, t5⟩ : ∃ T5, T4 ++ (⟨#[32, 96]⟩ : ByteArray) = T5 := ⟨_, rfl⟩
                obtain ⟨T6, t6⟩ : ∃ T6, T5 ++ (⟨#[97, 48]⟩ : ByteArray) = T6 := ⟨_, rfl⟩
                obtain ⟨T7, t7⟩ : ∃ T7, T6 ++ (⟨#[10]⟩ : ByteArray) = T7 := ⟨_, rfl⟩
                obtain ⟨y1', y2', y3', y4', y5', y6'⟩ := chain_sz (P := ⟨#[97, 48]⟩) zs (by omega) (by decide) t1 t2 t3 t4 t5 t6
                have HT : Hid (T7 = S (dT (j + 1))) := dbl_next j s ⟨#[97, 48]⟩ Q _ _ _ _ _ _ _ HS.out HQ.out (by subst hj0; rfl) t1 t2 t3 t4 t5 t6 t7
                go_wp2_with fail
                go_roundw
                case rel =>
                  refine ⟨j + 1, T7, by omega, by go_num, rfl, HT, HB.out.trans ?_⟩
                  exact dbl_bel _ _ _ HB.out.size
                case measure => simp [intOf]; omega
              · have k1 : ((j : Int) + 1 == 1) = false := by rw [beq_eq_false_iff_ne]; omega
                obtain ⟨T1, t1⟩ : ∃ T1, s ++ (⟨#[96, 100, 101, 102, 105, 110, 101, 32]⟩ : ByteArray) = T1 := ⟨_, rfl⟩
                obtain ⟨T2, t2⟩ : ∃ T2, T1 ++ Q = T2 := ⟨_, rfl⟩
                obtain ⟨T3, t3⟩ : ∃ T3, T2 ++ (⟨#[32, 96]⟩ : ByteArray) = T3 := ⟨_, rfl⟩
                obtain ⟨T4, t4⟩ : ∃ T4, T3 ++ P = T4 := ⟨_, rfl⟩
                obtain ⟨T5, t5⟩ : ∃ T5, T4 ++ (⟨#[32, 96]⟩ : ByteArray) = T5 := ⟨_, rfl⟩
                obtain ⟨T6, t6⟩ : ∃ T6, T5 ++ P = T6 := ⟨_, rfl⟩
                obtain ⟨T7, t7⟩ : ∃ T7, T6 ++ (⟨#[10]⟩ : ByteArray) = T7 := ⟨_, rfl⟩
                obtain ⟨y1', y2', y3', y4', y5', y6'⟩ := chain_sz (P := P) zs (by omega) (by omega) t1 t2 t3 t4 t5 t6
                have HT : Hid (T7 = S (dT (j + 1))) := dbl_next j s P Q _ _ _ _ _ _ _ HS.out HQ.out (by rw [← hP, HD.out.1, HD.out.2.1, nmD_X _ hj0]) t1 t2 t3 t4 t5 t6 t7
                go_wp2_with fail
                go_roundw
                case rel =>
                  refine ⟨j + 1, T7, by omega, by go_num, rfl, HT, HB.out.trans ?_⟩
                  exact dbl_bel _ _ _ HB.out.size
                case measure => simp [intOf]; omega
            exact AllReady.nil
          exact AllReady.nil
        refine AllReady.cons rfl (fun K hK => ?_) ?_
        · have hcv := cB_B wr d1 d2 d3 d4 l1 l2 l3 l4
          go_simp
          clear hcv
          refine hK _ _ ?_
          clear hK K
          refine wpAny_ready (rs := [10]) (by kernel_rfl) (by simp) ?_
          refine AllReady.cons rfl (fun K hK => ?_) ?_
          · go_simp
            refine hK _ _ ?_
            clear hK K
            refine wpAny_ready (rs := [11]) (by kernel_rfl) (by simp) ?_
            refine AllReady.cons rfl (fun K hK => ?_) ?_
            · have hcv := cA_BA wr d1 d2 d3 d4 l1 l2 l3 l4
              go_simp
              clear hcv
              refine hK _ _ ?_
              clear hK K
              refine wpAny_take (i := 22) (v := ?_) rfl (by kernel_rfl) (by kernel_rfl) (by kernel_rfl) (fun _ _ _ h => h) (Or.inl ⟨by kernel_rfl, ?_⟩) ?_
              rotate_left
              · intro w'; go_simp <;> with_reducible rfl
              try simp only [Act.put, List.setIfInBounds_toArray, List.set_cons_zero, List.set_cons_succ]
              refine wpAny_take (i := 23) (v := ?_) rfl (by kernel_rfl) (by kernel_rfl) (by kernel_rfl) (fun _ _ _ h => h) (Or.inl ⟨by kernel_rfl, ?_⟩) ?_
              rotate_left
              · intro w'; go_simp <;> with_reducible rfl
              try simp only [Act.put, List.setIfInBounds_toArray, List.set_cons_zero, List.set_cons_succ]
              refine wpAny_done (by kernel_rfl) ?_ _
              obtain ⟨P, hP⟩ : ∃ P, S (nmX d1 d2) = P := ⟨_, rfl⟩
              obtain ⟨Q, hQ⟩ : ∃ Q, S (nmX d3 d4) = Q := ⟨_, rfl⟩
              have zs := dT_size HS.out (by omega)
              have zP : P.size = 3 := by rw [← hP]; rfl
              have zQ : Q.size = 3 := by rw [← hQ]; rfl
              have HQ : Hid (Q = S (nmD (j + 1))) := by rw [← hQ, HD.out.2.2.1, HD.out.2.2.2, nmD_X _ (by omega)]; exact rfl
              by_cases hj0 : j = 0
              · have k1 : ((j : Int) + 1 == 1) = true := by subst hj0; rfl
                obtain ⟨T1, t1⟩ : ∃ T1, s ++ (⟨#[96, 100, 101, 102, 105, 110, 101, 32]⟩ : ByteArray) = T1 := ⟨_, rfl⟩
                obtain ⟨T2, t2⟩ : ∃ T2, T1 ++ Q = T2 := ⟨_, rfl⟩
                obtain ⟨T3, t3⟩ : ∃ T3, T2 ++ (⟨#[32, 96]⟩ : ByteArray) = T3 := ⟨_, rfl⟩
                obtain ⟨T4, t4⟩ : ∃ T4, T3 ++ (⟨#[97, 48]⟩ : ByteArray) = T4 := ⟨_, rfl⟩
                obtain ⟨T5, t5⟩ : ∃ T5, T4 ++ (⟨#[32, 96]⟩ : ByteArray) = T5 := ⟨_, rfl⟩
                obtain ⟨T6, t6⟩ : ∃ T6, T5 ++ (⟨#[97, 48]⟩ : ByteArray) = T6 := ⟨_, rfl⟩
                obtain ⟨T7, t7⟩ : ∃ T7, T6 ++ (⟨#[10]⟩ : ByteArray) = T7 := ⟨_, rfl⟩
                obtain ⟨y1', y2', y3', y4', y5', y6'⟩ := chain_sz (P := ⟨#[97, 48]⟩) zs (by omega) (by decide) t1 t2 t3 t4 t5 t6
                have HT : Hid (T7 = S (dT (j + 1))) := dbl_next j s ⟨#[97, 48]⟩ Q _ _ _ _ _ _ _ HS.out HQ.out (by subst hj0; rfl) t1 t2 t3 t4 t5 t6 t7
                go_wp2_with fail
                go_roundw
                case rel =>
                  refine ⟨j + 1, T7, by omega, by go_num, rfl, HT, HB.out.trans ?_⟩
                  exact dbl_bel _ _ _ HB.out.size
                case measure => simp [intOf]; omega
              · have k1 : ((j : Int) + 1 == 1) = false := by rw [beq_eq_false_iff_ne]; omega
                obtain ⟨T1, t1⟩ : ∃ T1, s ++ (⟨#[96, 100, 101, 102, 105, 110, 101, 32]⟩ : ByteArray) = T1 := ⟨_, rfl⟩
                obtain ⟨T2, t2⟩ : ∃ T2, T1 ++ Q = T2 := ⟨_, rfl⟩
                obtain ⟨T3, t3⟩ : ∃ T3, T2 ++ (⟨#[32, 96]⟩ : ByteArray) = T3 := ⟨_, rfl⟩
                obtain ⟨T4, t4⟩ : ∃ T4, T3 ++ P = T4 := ⟨_, rfl⟩
                obtain ⟨T5, t5⟩ : ∃ T5, T4 ++ (⟨#[32, 96]⟩ : ByteArray) = T5 := ⟨_, rfl⟩
                obtain ⟨T6, t6⟩ : ∃ T6, T5 ++ P = T6 := ⟨_, rfl⟩
                obtain ⟨T7, t7⟩ : ∃ T7, T6 ++ (⟨#[10]⟩ : ByteArray) = T7 := ⟨_, rfl⟩
                obtain ⟨y1', y2', y3', y4', y5', y6'⟩ := chain_sz (P := P) zs (by omega) (by omega) t1 t2 t3 t4 t5 t6
                have HT : Hid (T7 = S (dT (j + 1))) := dbl_next j s P Q _ _ _ _ _ _ _ HS.out HQ.out (by rw [← hP, HD.out.1, HD.out.2.1, nmD_X _ hj0]) t1 t2 t3 t4 t5 t6 t7
                go_wp2_with fail
                go_roundw
                case rel =>
                  refine ⟨j + 1, T7, by omega, by go_num, rfl, HT, HB.out.trans ?_⟩
                  exact dbl_bel _ _ _ HB.out.size
                case measure => simp [intOf]; omega
            exact AllReady.nil
          exact AllReady.nil
        exact AllReady.nil
      exact AllReady.nil
    · obtain rfl : j = n := by omega
      have hgt : (j : Int) < (j : Int) + 1 := by omega
      have q1 : ((j : Int)).tdiv 10 = ((j / 10 : Nat) : Int) := by rw [Int.tdiv_eq_ediv_of_nonneg (by omega)]; omega
      have q2 : ((j : Int)).tmod 10 = ((j % 10 : Nat) : Int) := by rw [Int.tmod_eq_emod_of_nonneg (by omega)]; omega
      obtain ⟨d1, hd1⟩ : ∃ d, d = j / 10 := ⟨_, rfl⟩
      obtain ⟨d2, hd2⟩ : ∃ d, d = j % 10 := ⟨_, rfl⟩
      rw [← hd1] at q1
      rw [← hd2] at q2
      have l1 : d1 < 10 := by omega
      have l2 : d2 < 10 := by omega
      have HD : Hid (d1 = j / 10 ∧ d2 = j % 10) := ⟨hd1, hd2⟩
      clear hd1 hd2
      have wj : IntKind.i64.wrap (j : Int) = (j : Int) := by rw [IntKind.wrap_i64]; omega
      have wd : ∀ d : Nat, d < 10 → IntKind.i64.wrap (d : Int) = (d : Int) ∧ IntKind.i64.wrap (48 + (d : Int)) = 48 + (d : Int) ∧ IntKind.u8.wrap (48 + (d : Int)) = 48 + (d : Int) := fun d hd => ⟨by rw [IntKind.wrap_i64]; omega, by rw [IntKind.wrap_i64]; omega, by rw [IntKind.wrap_u8]; omega⟩
      obtain ⟨x1, y1, z1⟩ := wd d1 l1
      obtain ⟨x2, y2, z2⟩ := wd d2 l2
      clear wd
      have hcv := three_c wr.heap.size d1 d2 l1 l2 (wr.alloc (.cells #[.int .u8 97, .int .u8 (48 + (d1 : Int)), .int .u8 (48 + (d2 : Int))] 5)) (by
        show (wr.heap.push _)[wr.heap.size]? = _
        rw [Array.getElem?_push, if_pos rfl])
      obtain ⟨P, hP⟩ : ∃ P, S (nmX d1 d2) = P := ⟨_, rfl⟩
      rw [hP] at hcv
      have zP : P.size = 3 := by rw [← hP]; rfl
      have zs := dT_size HS.out hn32
      obtain ⟨N0, hN0⟩ : ∃ N0, N0 = (dT j).length := ⟨_, rfl⟩
      have zs0 : s.size = N0 := by rw [hN0, HS.out, ← len_L, L_S]
      obtain ⟨U1, u1⟩ : ∃ U1, s ++ (⟨#[96]⟩ : ByteArray) = U1 := ⟨_, rfl⟩
      have zU1 : U1.size = s.size + 1 := by rw [← u1, ByteArray.size_append]; rfl
      have hLast : ∀ Q : ByteArray, Q = S (nmD j) → lexL (L (U1 ++ Q)) = .toks (dK j ++ [⟨4, nmD j, N0⟩] ++ [⟨6, [], (dT j ++ 96 :: nmD j).length⟩]) := by
        intro Q hQ
        have e : L (U1 ++ Q) = dT j ++ 96 :: nmD j := by
          rw [← u1, L_append, L_append, hQ, HS.out, L_S, L_S]
          rw [show L (⟨#[96]⟩ : ByteArray) = [96] from rfl, List.append_assoc]; rfl
        rw [e, hN0]
        exact dbl_lex j hn32
      obtain ⟨src, hsrc⟩ : ∃ src, src = dK j ++ [(⟨4, nmD j, N0⟩ : Tok)] := ⟨_, rfl⟩
      obtain ⟨e0, he0⟩ : ∃ e0, e0 = (⟨6, [], (dT j ++ 96 :: nmD j).length⟩ : Tok) := ⟨_, rfl⟩
      rw [← hsrc, ← he0] at hLast
      have hszs : ∀ t ∈ src, t.x.length ≤ 65536 := by
        obtain ⟨ts, h1, h2, h3, _⟩ := lex_facts (dbl_lex j hn32)
        rw [hsrc, hN0, List.append_cancel_right h1]; exact h3
      have hlen : src.length ≤ 16384 := by
        obtain ⟨ts, h1, h2, h3, _⟩ := lex_facts (dbl_lex j hn32)
        rw [hsrc, hN0, List.append_cancel_right h1]; exact h2
      have hrun : runP e0 src ps0 = if j ≤ 10 then .ok (List.replicate (2 ^ j) ⟨1, [120], N0⟩ ++ [e0]) else .no N0 31 := by rw [hsrc]; exact dbl_run e0 j hn32 N0
      obtain ⟨r, hr⟩ : ∃ r, src.length = r := ⟨_, rfl⟩
      have hlr : (src ++ [e0]).length = r + 1 := by rw [List.length_append, hr]; rfl
      clear hsrc he0 hN0 hr
      by_cases c0 : j = 0
      · have k0 : ((j : Int) == 0) = true := by subst c0; rfl
        have hQ : (⟨#[97, 48]⟩ : ByteArray) = S (nmD j) := (by rw [c0]; rfl)
        obtain ⟨U2, u2⟩ : ∃ U2, U1 ++ (⟨#[97, 48]⟩ : ByteArray) = U2 := ⟨_, rfl⟩
        have zU2 : U2.size ≤ 1000 := by rw [← u2, ByteArray.size_append, zU1, show ByteArray.size (⟨#[97, 48]⟩ : ByteArray) = 2 from rfl]; omega
        have hl0 := hLast _ hQ
        rw [u2] at hl0
        have HL := fun w => lexed_t U2 w (by unfold maxLen; omega) _ hl0
        rw [hlr] at HL
        have HR := fun B g cap w hL => Run_t src e0 B g cap w hL hlen hszs _ (hrun.trans (if_pos (by omega))) (by simp)
        rw [hlr, show (List.replicate (2 ^ j) (⟨1, [120], N0⟩ : Tok) ++ [e0]).length = 2 ^ j + 1 by simp] at HR
        obtain ⟨p2, hp2⟩ : ∃ p2 : Nat, 2 ^ j = p2 := ⟨_, rfl⟩
        rw [hp2] at HR
        have hpl : p2 ≤ 1024 := by rw [← hp2]; exact Nat.pow_le_pow_right (n := 2) (by decide) (show j ≤ 10 by omega)
        have hmin : min j 64 = j := by omega
        have hpI : (2 : Int) ^ j = (p2 : Int) := by rw [← hp2]; simp
        have s3 : IntKind.i64.wrap (3 * 2 ^ min j 64) = 3 * (p2 : Int) := by rw [hmin, hpI, IntKind.wrap_i64]; omega
        have s1 : IntKind.i64.wrap (2 ^ min j 64) = (p2 : Int) := by rw [hmin, hpI, IntKind.wrap_i64]; omega
        have k12 : decide ((12 : Int) ≤ (j : Int)) = false := by simp; omega
        have k4 : decide ((4096 : Int) < 3 * (p2 : Int) - 2) = false := by simp; omega
        have run : Below wr.heap.size wr (wr.alloc (.cells #[.int .u8 97, .int .u8 (48 + (d1 : Int)), .int .u8 (48 + (d2 : Int))] 5)) := (Below.refl _ _).alloc (Nat.le_refl _) _
        clear hl0 hLast hQ hszs hlr hrun c0
        go_wp2_with (first
          | (go_at_call 6; refine (HL _).mono ?_; rintro e w1 ⟨g1, c1, rfl, hl1, hb1⟩; replace run := bel run hb1)
          | (go_at_call 8; refine (HR _ _ _ _ hl1).mono ?_; rintro e w2 ⟨g2, c2, rfl, hl2, hb2⟩; replace run := bel run hb2)
          | (go_at_call 7; refine (awake3_c _).mono ?_; rintro e w3 ⟨rfl, hb3⟩; replace run := bel run hb3))
        go_ret
        exact ⟨rfl, HB.out.trans (run.mono HB.out.size)⟩
      · have k0 : ((j : Int) == 0) = false := by rw [beq_eq_false_iff_ne]; omega
        by_cases c10 : j ≤ 10
        · skip
          have hQ : P = S (nmD j) := (by rw [← hP, HD.out.1, HD.out.2, nmD_X _ (by omega)])
          obtain ⟨U2, u2⟩ : ∃ U2, U1 ++ P = U2 := ⟨_, rfl⟩
          have zU2 : U2.size ≤ 1000 := by rw [← u2, ByteArray.size_append, zU1, zP]; omega
          have hl0 := hLast _ hQ
          rw [u2] at hl0
          have HL := fun w => lexed_t U2 w (by unfold maxLen; omega) _ hl0
          rw [hlr] at HL
          have HR := fun B g cap w hL => Run_t src e0 B g cap w hL hlen hszs _ (hrun.trans (if_pos (by omega))) (by simp)
          rw [hlr, show (List.replicate (2 ^ j) (⟨1, [120], N0⟩ : Tok) ++ [e0]).length = 2 ^ j + 1 by simp] at HR
          obtain ⟨p2, hp2⟩ : ∃ p2 : Nat, 2 ^ j = p2 := ⟨_, rfl⟩
          rw [hp2] at HR
          have hpl : p2 ≤ 1024 := by rw [← hp2]; exact Nat.pow_le_pow_right (n := 2) (by decide) (show j ≤ 10 by omega)
          have hmin : min j 64 = j := by omega
          have hpI : (2 : Int) ^ j = (p2 : Int) := by rw [← hp2]; simp
          have s3 : IntKind.i64.wrap (3 * 2 ^ min j 64) = 3 * (p2 : Int) := by rw [hmin, hpI, IntKind.wrap_i64]; omega
          have s1 : IntKind.i64.wrap (2 ^ min j 64) = (p2 : Int) := by rw [hmin, hpI, IntKind.wrap_i64]; omega
          have k12 : decide ((12 : Int) ≤ (j : Int)) = false := by simp; omega
          have k4 : decide ((4096 : Int) < 3 * (p2 : Int) - 2) = false := by simp; omega
          have run : Below wr.heap.size wr (wr.alloc (.cells #[.int .u8 97, .int .u8 (48 + (d1 : Int)), .int .u8 (48 + (d2 : Int))] 5)) := (Below.refl _ _).alloc (Nat.le_refl _) _
          clear hl0 hLast hQ hszs hlr hrun
          go_wp2_with (first
            | (go_at_call 6; refine (HL _).mono ?_; rintro e w1 ⟨g1, c1, rfl, hl1, hb1⟩; replace run := bel run hb1)
            | (go_at_call 8; refine (HR _ _ _ _ hl1).mono ?_; rintro e w2 ⟨g2, c2, rfl, hl2, hb2⟩; replace run := bel run hb2)
            | (go_at_call 7; refine (awake3_c _).mono ?_; rintro e w3 ⟨rfl, hb3⟩; replace run := bel run hb3))
          go_ret
          exact ⟨rfl, HB.out.trans (run.mono HB.out.size)⟩

        · by_cases c11 : j = 11
          · skip
            have hQ : P = S (nmD j) := (by rw [← hP, HD.out.1, HD.out.2, nmD_X _ (by omega)])
            obtain ⟨U2, u2⟩ : ∃ U2, U1 ++ P = U2 := ⟨_, rfl⟩
            have zU2 : U2.size ≤ 1000 := by rw [← u2, ByteArray.size_append, zU1, zP]; omega
            have hl0 := hLast _ hQ
            rw [u2] at hl0
            have HL := fun w => lexed_t U2 w (by unfold maxLen; omega) _ hl0
            rw [hlr] at HL
            have HR := fun B g cap w hL => Run_b src e0 B g cap w hL hlen hszs _ _ (hrun.trans (if_neg (by omega)))
            rw [hlr] at HR
            have s3 : wrap64 (3 * 2 ^ j) = 6144 := by rw [c11]; simp [wrap64]
            have s4 : wrap64 (6144 - 2) = 6142 := by simp [wrap64]
            have k12 : decide ((12 : Int) ≤ (j : Int)) = false := by simp; omega
            have run : Below wr.heap.size wr (wr.alloc (.cells #[.int .u8 97, .int .u8 (48 + (d1 : Int)), .int .u8 (48 + (d2 : Int))] 5)) := (Below.refl _ _).alloc (Nat.le_refl _) _
            clear hl0 hLast hQ hszs hlr hrun c11
            go_wp2_with (first
              | (go_at_call 6; refine (HL _).mono ?_; rintro e w1 ⟨g1, c1, rfl, hl1, hb1⟩; replace run := bel run hb1)
              | (go_at_call 8; refine (HR _ _ _ _ hl1).mono ?_; rintro e w2 ⟨g2, rfl, ⟨_, hg2, c0, c1'⟩, hb2⟩; replace run := bel run hb2)
              | (go_at_call 7; refine (awake3_c _).mono ?_; rintro e w3 ⟨rfl, hb3⟩; replace run := bel run hb3))
            go_ret
            exact ⟨rfl, HB.out.trans (run.mono HB.out.size)⟩

          · skip
            have hQ : P = S (nmD j) := (by rw [← hP, HD.out.1, HD.out.2, nmD_X _ (by omega)])
            obtain ⟨U2, u2⟩ : ∃ U2, U1 ++ P = U2 := ⟨_, rfl⟩
            have zU2 : U2.size ≤ 1000 := by rw [← u2, ByteArray.size_append, zU1, zP]; omega
            have hl0 := hLast _ hQ
            rw [u2] at hl0
            have HL := fun w => lexed_t U2 w (by unfold maxLen; omega) _ hl0
            rw [hlr] at HL
            have HR := fun B g cap w hL => Run_b src e0 B g cap w hL hlen hszs _ _ (hrun.trans (if_neg (by omega)))
            rw [hlr] at HR
            have k12 : (12 : Int) ≤ (j : Int) := by omega
            have run : Below wr.heap.size wr (wr.alloc (.cells #[.int .u8 97, .int .u8 (48 + (d1 : Int)), .int .u8 (48 + (d2 : Int))] 5)) := (Below.refl _ _).alloc (Nat.le_refl _) _
            clear hl0 hLast hQ hszs hlr hrun
            go_wp2_with (first
              | (go_at_call 6; refine (HL _).mono ?_; rintro e w1 ⟨g1, c1, rfl, hl1, hb1⟩; replace run := bel run hb1)
              | (go_at_call 8; refine (HR _ _ _ _ hl1).mono ?_; rintro e w2 ⟨g2, rfl, ⟨_, hg2, c0, c1'⟩, hb2⟩; replace run := bel run hb2)
              | (go_at_call 7; refine (awake3_c _).mono ?_; rintro e w3 ⟨rfl, hb3⟩; replace run := bel run hb3))
            go_ret
            exact ⟨rfl, HB.out.trans (run.mono HB.out.size)⟩

end Go.Proofs.Yteohmemifogdlaa

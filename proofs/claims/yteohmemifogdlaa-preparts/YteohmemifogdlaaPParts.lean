/- Layer 3: what stands between ifdef and else is kept just where the name stands for something, what stands between else and endif just where not. -/
import Derived.Test.YteohmemifogdlaaZZD
namespace Go.Proofs.Yteohmemifogdlaa
open Go.RowKit Lg
set_option linter.unusedVariables false
set_option linter.unusedSimpArgs false

theorem lexed_any (s : ByteArray) (w : World) (hs : s.size ≤ maxLen) : Calls Try.prog 6 #[.string s] w fun e w' => ∃ ao n cap, e = .returned (.slice ao n cap) ∧ Below w.heap.size w w' := by
  cases hl : lexL (L s) with
  | toks l =>
    refine (lexed_t s w hs l hl).mono ?_
    rintro e w' ⟨g, cap, rfl, _, hb⟩
    exact ⟨_, _, _, rfl, hb⟩
  | bad p c =>
    refine (lexed_b s w hs p c hl).mono ?_
    rintro e w' ⟨rfl, hb⟩
    exact ⟨_, _, _, rfl, hb⟩

set_option maxRecDepth 100000 in
set_option maxHeartbeats 4000000 in
theorem parts_b1 (a b : ByteArray) (th : Bool) (w : World) (ha : a.size ≤ maxLen) (hb : b.size ≤ maxLen) (p : Nat) (c : Int) (hl : lexL (L a) = .bad p c) :
    Calls Try.prog 4 #[.string a, .string b, .bool th] w fun e w' => e = .returned (.bool true) ∧ Below w.heap.size w w' := by
  have HL1 := fun w => lexed_b a w ha p c hl
  have HL2 := fun w => lexed_any b w hb
  clear hl
  have run : Below w.heap.size w w := Below.refl _ _
  go_enter Try.func4, Try.ntmps4
  go_wp2_with (first
    | (go_at_call 6; have hx := hb1; refine (HL2 _).mono ?_; rintro e w2 ⟨ao, n2, c2, rfl, hb2⟩; replace run := bel run hb2)
    | (go_at_call 6; refine (HL1 _).mono ?_; rintro e w1 ⟨rfl, hb1⟩; replace run := bel run hb1)
    | (go_at_call 7; refine (awake3_c _).mono ?_; rintro e w3 ⟨rfl, hb3⟩; replace run := bel run hb3))
  go_ret
  exact ⟨rfl, run⟩
set_option maxRecDepth 100000 in
set_option maxHeartbeats 4000000 in
theorem parts_b2 (a b : ByteArray) (th : Bool) (w : World) (ha : a.size ≤ maxLen) (hb : b.size ≤ maxLen) (x : List Tok) (hx : lexL (L a) = .toks x) (p : Nat) (c : Int) (hl : lexL (L b) = .bad p c) :
    Calls Try.prog 4 #[.string a, .string b, .bool th] w fun e w' => e = .returned (.bool true) ∧ Below w.heap.size w w' := by
  have hx0 := lexL_ne hx
  have HL1 := fun w => lexed_t a w ha x hx
  have HL2 := fun w => lexed_b b w hb p c hl
  obtain ⟨n, hn⟩ : ∃ n, x.length = n := ⟨_, rfl⟩
  rw [hn] at HL1 hx0
  clear hl hx hn
  have k1 : ((n : Int) == 0) = false := by rw [beq_eq_false_iff_ne]; omega
  have run : Below w.heap.size w w := Below.refl _ _
  go_enter Try.func4, Try.ntmps4
  go_wp2_with (first
    | (go_at_call 6; have hx := hb1; refine (HL2 _).mono ?_; rintro e w2 ⟨rfl, hb2⟩; replace run := bel run hb2)
    | (go_at_call 6; refine (HL1 _).mono ?_; rintro e w1 ⟨g1, c1, rfl, hl1, hb1⟩; replace run := bel run hb1)
    | (go_at_call 7; refine (awake3_c _).mono ?_; rintro e w3 ⟨rfl, hb3⟩; replace run := bel run hb3))
  go_ret
  exact ⟨rfl, run⟩
set_option maxRecDepth 100000 in
set_option maxHeartbeats 4000000 in
theorem parts_no (a b : ByteArray) (th : Bool) (w : World) (ha : a.size ≤ maxLen) (hb : b.size ≤ maxLen) (x y : List Tok) (hx : lexL (L a) = .toks x) (hy : lexL (L b) = .toks y) (hlx : x.length ≤ 16385) (hly : y.length ≤ 16385) (hno : tkd x = true ∨ (tkd x = false ∧ tkd y = true) ∨ (tkd x = false ∧ tkd y = false ∧ 8192 < x.length + y.length)) :
    Calls Try.prog 4 #[.string a, .string b, .bool th] w fun e w' => e = .returned (.bool true) ∧ Below w.heap.size w w' := by
  have hx0 := lexL_ne hx
  have hy0 := lexL_ne hy
  have HL1 := fun w => lexed_t a w ha x hx
  have HL2 := fun w => lexed_t b w hb y hy
  have HT1 := fun B g cap w hL => ticked_c x B g cap w hL (by omega)
  have HT2 := fun B g cap w hL => ticked_c y B g cap w hL (by omega)
  obtain ⟨n, hn⟩ : ∃ n, x.length = n := ⟨_, rfl⟩
  obtain ⟨m, hm⟩ : ∃ m, y.length = m := ⟨_, rfl⟩
  rw [hn] at HL1 hx0 HT1 hno hlx
  rw [hm] at HL2 hy0 HT2 hno hly
  have k1 : ((n : Int) == 0) = false := by rw [beq_eq_false_iff_ne]; omega
  have k2 : ((m : Int) == 0) = false := by rw [beq_eq_false_iff_ne]; omega
  have run : Below w.heap.size w w := Below.refl _ _
  clear hx hy hn hm
  rcases hno with h | ⟨h, h2⟩ | ⟨h, h2, h3⟩
  all_goals
    rw [h] at HT1
    try rw [h2] at HT2
    try (have k3 : (8192 : Int) < (n : Int) + (m : Int) := by omega)
    clear h
    try clear h2
    try clear h3
    go_enter Try.func4, Try.ntmps4
    go_wp2_with (first
      | (go_at_call 6; have hx := hb1; refine (HL2 _).mono ?_; rintro e w2 ⟨g2, c2, rfl, hl2, hb2⟩; replace run := bel run hb2; replace hl1 := hl1.keep hb2)
      | (go_at_call 6; refine (HL1 _).mono ?_; rintro e w1 ⟨g1, c1, rfl, hl1, hb1⟩; replace run := bel run hb1)
      | (go_at_call 9; have hx := hb3; refine (HT2 _ _ _ _ hl2).mono ?_; rintro e w4 ⟨rfl, hb4⟩; replace run := bel run hb4)
      | (go_at_call 9; refine (HT1 _ _ _ _ hl1).mono ?_; rintro e w3 ⟨rfl, hb3⟩; replace run := bel run hb3; replace hl2 := hl2.keep hb3)
      | (go_at_call 7; refine (awake3_c _).mono ?_; rintro e w5 ⟨rfl, hb5⟩; replace run := bel run hb5))
    go_ret
    exact ⟨rfl, run⟩
def pStr (th : Bool) (a b : ByteArray) : ByteArray := (if th then (⟨#[96, 100, 101, 102, 105, 110, 101, 32, 122, 122, 57, 32, 10]⟩ : ByteArray) else (⟨#[]⟩ : ByteArray)) ++ (⟨#[96, 105, 102, 100, 101, 102, 32, 122, 122, 57, 10]⟩ : ByteArray) ++ a ++ (⟨#[10, 96, 101, 108, 115, 101, 10]⟩ : ByteArray) ++ b ++ (⟨#[10, 96, 101, 110, 100, 105, 102, 10]⟩ : ByteArray)
theorem pStr_L (th : Bool) (a b : ByteArray) : L (pStr th a b) = pText th (L a) (L b) := by
  unfold pStr pText
  rw [L_append, L_append, L_append, L_append, L_append]
  have e1 : L (if th = true then (⟨#[96, 100, 101, 102, 105, 110, 101, 32, 122, 122, 57, 32, 10]⟩ : ByteArray) else (⟨#[]⟩ : ByteArray)) = (if th then pHead else []) := by cases th <;> rfl
  have e2 : L (⟨#[96, 105, 102, 100, 101, 102, 32, 122, 122, 57, 10]⟩ : ByteArray) = pIf := rfl
  have e3 : L (⟨#[10, 96, 101, 108, 115, 101, 10]⟩ : ByteArray) = 10 :: pElse := rfl
  have e4 : L (⟨#[10, 96, 101, 110, 100, 105, 102, 10]⟩ : ByteArray) = 10 :: pEnd := rfl
  rw [e1, e2, e3, e4]
  simp only [List.append_assoc, List.cons_append, List.nil_append]
theorem pStr_sz (th : Bool) (a b : ByteArray) (ha : a.size ≤ 65536) (hb : b.size ≤ 65536) : (pStr th a b).size ≤ maxLen := by
  unfold pStr
  simp only [ByteArray.size_append]
  have : (if th = true then (⟨#[96, 100, 101, 102, 105, 110, 101, 32, 122, 122, 57, 32, 10]⟩ : ByteArray) else (⟨#[]⟩ : ByteArray)).size ≤ 13 := by cases th <;> decide
  have e2 : ByteArray.size (⟨#[96, 105, 102, 100, 101, 102, 32, 122, 122, 57, 10]⟩ : ByteArray) = 11 := rfl
  have e3 : ByteArray.size (⟨#[10, 96, 101, 108, 115, 101, 10]⟩ : ByteArray) = 7 := rfl
  have e4 : ByteArray.size (⟨#[10, 96, 101, 110, 100, 105, 102, 10]⟩ : ByteArray) = 8 := rfl
  rw [e2, e3, e4]
  unfold maxLen; omega
set_option maxRecDepth 100000 in
set_option maxHeartbeats 8000000 in
theorem parts_long_t (a b : ByteArray) (w : World) (ha : a.size ≤ maxLen) (hb : b.size ≤ maxLen) (x y : List Tok) (hx : lexL (L a) = .toks x) (hy : lexL (L b) = .toks y) (hlx : x.length ≤ 16385) (hly : y.length ≤ 16385) (htx : tkd x = false) (hty : tkd y = false) (hsum : x.length + y.length ≤ 8192) (ha2 : a.size ≤ 65536) (hbz : b.size ≤ 65536) (p : Nat) (c : Int) (hl : lexL (L (pStr true a b)) = .bad p c) :
    Calls Try.prog 4 #[.string a, .string b, .bool true] w fun e w' => e = .returned (.bool true) ∧ Below w.heap.size w w' := by
  have hx0 := lexL_ne hx
  have hy0 := lexL_ne hy
  have HL1 := fun w => lexed_t a w ha x hx
  have HL2 := fun w => lexed_t b w hb y hy
  have HT1 := fun B g cap w hL => ticked_c x B g cap w hL (by omega)
  have HT2 := fun B g cap w hL => ticked_c y B g cap w hL (by omega)
  rw [htx] at HT1
  rw [hty] at HT2
  obtain ⟨n, hn⟩ : ∃ n, x.length = n := ⟨_, rfl⟩
  obtain ⟨m, hm⟩ : ∃ m, y.length = m := ⟨_, rfl⟩
  rw [hn] at HL1 hx0 HT1 hsum
  rw [hm] at HL2 hy0 HT2 hsum
  have k1 : ((n : Int) == 0) = false := by rw [beq_eq_false_iff_ne]; omega
  have k2 : ((m : Int) == 0) = false := by rw [beq_eq_false_iff_ne]; omega
  have k3 : decide ((8192 : Int) < (n : Int) + (m : Int)) = false := by simp; omega
  have run : Below w.heap.size w w := Below.refl _ _
  obtain ⟨S1, s1⟩ : ∃ S1, (⟨#[96, 100, 101, 102, 105, 110, 101, 32, 122, 122, 57, 32, 10]⟩ : ByteArray) ++ (⟨#[96, 105, 102, 100, 101, 102, 32, 122, 122, 57, 10]⟩ : ByteArray) = S1 := ⟨_, rfl⟩
  obtain ⟨S2, s2⟩ : ∃ S2, S1 ++ a = S2 := ⟨_, rfl⟩
  obtain ⟨S3, s3⟩ : ∃ S3, S2 ++ (⟨#[10, 96, 101, 108, 115, 101, 10]⟩ : ByteArray) = S3 := ⟨_, rfl⟩
  obtain ⟨S4, s4⟩ : ∃ S4, S3 ++ b = S4 := ⟨_, rfl⟩
  obtain ⟨S5, s5⟩ : ∃ S5, S4 ++ (⟨#[10, 96, 101, 110, 100, 105, 102, 10]⟩ : ByteArray) = S5 := ⟨_, rfl⟩
  have z1 : S1.size = 24 := by rw [← s1, ByteArray.size_append]; rfl
  have z2 : S2.size = 24 + a.size := by rw [← s2, ByteArray.size_append, z1]
  have z3 : S3.size = 31 + a.size := by rw [← s3, ByteArray.size_append, z2, show ByteArray.size (⟨#[10, 96, 101, 108, 115, 101, 10]⟩ : ByteArray) = 7 from rfl]; omega
  have z4 : S4.size = 31 + a.size + b.size := by rw [← s4, ByteArray.size_append, z3]
  have hS5 : pStr true a b = S5 := by unfold pStr; rw [if_pos rfl, s1, s2, s3, s4, s5]
  rw [hS5] at hl
  have HL3 := fun w => lexed_b S5 w (by rw [← hS5]; exact pStr_sz _ a b ha2 hbz) p c hl
  clear hx hy hn hm hl htx hty hS5
  go_enter Try.func4, Try.ntmps4
  go_wp2_with (first
    | (go_at_call 6; have hx := hb2; refine (HL3 _).mono ?_; rintro e w5 ⟨rfl, hb5⟩; replace run := bel run hb5)
    | (go_at_call 6; have hx := hb1; refine (HL2 _).mono ?_; rintro e w2 ⟨g2, c2, rfl, hl2, hb2⟩; replace run := bel run hb2; replace hl1 := hl1.keep hb2)
    | (go_at_call 6; refine (HL1 _).mono ?_; rintro e w1 ⟨g1, c1, rfl, hl1, hb1⟩; replace run := bel run hb1)
    | (go_at_call 9; have hx := hb3; refine (HT2 _ _ _ _ hl2).mono ?_; rintro e w4 ⟨rfl, hb4⟩; replace run := bel run hb4; replace hl1 := hl1.keep hb4; replace hl2 := hl2.keep hb4)
    | (go_at_call 9; refine (HT1 _ _ _ _ hl1).mono ?_; rintro e w3 ⟨rfl, hb3⟩; replace run := bel run hb3; replace hl1 := hl1.keep hb3; replace hl2 := hl2.keep hb3)
    | (go_at_call 7; refine (awake3_c _).mono ?_; rintro e w6 ⟨rfl, hb6⟩; replace run := bel run hb6))
  go_ret
  exact ⟨rfl, run⟩
set_option maxRecDepth 100000 in
set_option maxHeartbeats 8000000 in
theorem parts_main_t (a b : ByteArray) (w : World) (ha : a.size ≤ maxLen) (hb : b.size ≤ maxLen) (x y : List Tok) (hx : lexL (L a) = .toks x) (hy : lexL (L b) = .toks y) (hlx : x.length ≤ 16385) (hly : y.length ≤ 16385) (htx : tkd x = false) (hty : tkd y = false) (hsum : x.length + y.length ≤ 8192) (ha2 : a.size ≤ 65536) (hbz : b.size ≤ 65536) (l Z : List Tok) (e0 e1 : Tok) (q : Nat) (hl : lexL (L (pStr true a b)) = .toks (l ++ [e0])) (hll : l.length ≤ 16384) (hlz : ∀ t ∈ l, t.x.length ≤ 65536) (hZ : x = Z ++ [e1]) (hr : runP e0 l ps0 = .ok (Z.map (shf q) ++ [e0])) :
    Calls Try.prog 4 #[.string a, .string b, .bool true] w fun e w' => e = .returned (.bool true) ∧ Below w.heap.size w w' := by
  have hx0 := lexL_ne hx
  have hy0 := lexL_ne hy
  have HL1 := fun w => lexed_t a w ha x hx
  have HL2 := fun w => lexed_t b w hb y hy
  have HT1 := fun B g cap w hL => ticked_c x B g cap w hL (by omega)
  have HT2 := fun B g cap w hL => ticked_c y B g cap w hL (by omega)
  rw [htx] at HT1
  rw [hty] at HT2
  obtain ⟨n, hn⟩ : ∃ n, x.length = n := ⟨_, rfl⟩
  obtain ⟨m, hm⟩ : ∃ m, y.length = m := ⟨_, rfl⟩
  rw [hn] at HL1 hx0 HT1 hsum
  rw [hm] at HL2 hy0 HT2 hsum
  have k1 : ((n : Int) == 0) = false := by rw [beq_eq_false_iff_ne]; omega
  have k2 : ((m : Int) == 0) = false := by rw [beq_eq_false_iff_ne]; omega
  have k3 : decide ((8192 : Int) < (n : Int) + (m : Int)) = false := by simp; omega
  have run : Below w.heap.size w w := Below.refl _ _
  obtain ⟨S1, s1⟩ : ∃ S1, (⟨#[96, 100, 101, 102, 105, 110, 101, 32, 122, 122, 57, 32, 10]⟩ : ByteArray) ++ (⟨#[96, 105, 102, 100, 101, 102, 32, 122, 122, 57, 10]⟩ : ByteArray) = S1 := ⟨_, rfl⟩
  obtain ⟨S2, s2⟩ : ∃ S2, S1 ++ a = S2 := ⟨_, rfl⟩
  obtain ⟨S3, s3⟩ : ∃ S3, S2 ++ (⟨#[10, 96, 101, 108, 115, 101, 10]⟩ : ByteArray) = S3 := ⟨_, rfl⟩
  obtain ⟨S4, s4⟩ : ∃ S4, S3 ++ b = S4 := ⟨_, rfl⟩
  obtain ⟨S5, s5⟩ : ∃ S5, S4 ++ (⟨#[10, 96, 101, 110, 100, 105, 102, 10]⟩ : ByteArray) = S5 := ⟨_, rfl⟩
  have z1 : S1.size = 24 := by rw [← s1, ByteArray.size_append]; rfl
  have z2 : S2.size = 24 + a.size := by rw [← s2, ByteArray.size_append, z1]
  have z3 : S3.size = 31 + a.size := by rw [← s3, ByteArray.size_append, z2, show ByteArray.size (⟨#[10, 96, 101, 108, 115, 101, 10]⟩ : ByteArray) = 7 from rfl]; omega
  have z4 : S4.size = 31 + a.size + b.size := by rw [← s4, ByteArray.size_append, z3]
  have hS5 : pStr true a b = S5 := by unfold pStr; rw [if_pos rfl, s1, s2, s3, s4, s5]
  rw [hS5] at hl
  have HL3 := fun w => lexed_t S5 w (by rw [← hS5]; exact pStr_sz _ a b ha2 hbz) _ hl
  have HR := fun B g cap w hL => Run_t l e0 B g cap w hL hll hlz _ hr (by simp)
  obtain ⟨r, hrn⟩ : ∃ r, l.length = r := ⟨_, rfl⟩
  obtain ⟨z, hz⟩ : ∃ z, Z.length = z := ⟨_, rfl⟩
  have e2 : (l ++ [e0]).length = r + 1 := by rw [List.length_append, hrn]; rfl
  have e3 : (Z.map (shf q) ++ [e0]).length = z + 1 := by rw [List.length_append, List.length_map, hz]; rfl
  have e4 : n = z + 1 := by rw [← hn, hZ, List.length_append, hz]; rfl
  rw [e2] at HL3 HR
  rw [e3] at HR
  rw [hrn] at hll
  have k4 : ((r : Int) + 1 == 0) = false := by rw [beq_eq_false_iff_ne]; omega
  have gZ : ∀ i, i < z → ∃ t : Tok, x[i]? = some t ∧ (Z.map (shf q) ++ [e0])[i]? = some (shf q t) := by
    intro i hi
    have h1 : i < Z.length := by omega
    refine ⟨Z[i], by rw [hZ, List.getElem?_append_left h1]; exact List.getElem?_eq_getElem h1, ?_⟩
    rw [List.getElem?_append_left (by rw [List.length_map]; exact h1), List.getElem?_map, List.getElem?_eq_getElem h1]; rfl
  have HG : Hid _ := gZ
  obtain ⟨O, hO⟩ : ∃ O, O = Z.map (shf q) ++ [e0] := ⟨_, rfl⟩
  rw [← hO] at HR HG
  subst e4
  clear hx hy hn hm hl htx hty hS5 hr hlz hrn e2 e3 gZ hO hZ hz
  have k5 : ((z : Int) + 1 != (z : Int) + 1) = false := by simp
  have k6 : ((z : Int) + 1 == 0) = false := by rw [beq_eq_false_iff_ne]; omega
  have k7 : decide ((8192 : Int) < (z : Int) + 1 + (m : Int)) = false := by simp; omega
  clear k1 k3
  go_enter Try.func4, Try.ntmps4
  go_wp2_with (first
    | (go_at_call 6; have hx := hb2; refine (HL3 _).mono ?_; rintro e w5 ⟨g5, c5, rfl, hl5, hb5⟩; replace run := bel run hb5; replace hl1 := hl1.keep hb5; replace hl2 := hl2.keep hb5)
    | (go_at_call 6; have hx := hb1; refine (HL2 _).mono ?_; rintro e w2 ⟨g2, c2, rfl, hl2, hb2⟩; replace run := bel run hb2; replace hl1 := hl1.keep hb2)
    | (go_at_call 6; refine (HL1 _).mono ?_; rintro e w1 ⟨g1, c1, rfl, hl1, hb1⟩; replace run := bel run hb1)
    | (go_at_call 9; have hx := hb3; refine (HT2 _ _ _ _ hl2).mono ?_; rintro e w4 ⟨rfl, hb4⟩; replace run := bel run hb4; replace hl1 := hl1.keep hb4; replace hl2 := hl2.keep hb4)
    | (go_at_call 9; refine (HT1 _ _ _ _ hl1).mono ?_; rintro e w3 ⟨rfl, hb3⟩; replace run := bel run hb3; replace hl1 := hl1.keep hb3; replace hl2 := hl2.keep hb3)
    | (go_at_call 8; refine (HR _ _ _ _ hl5).mono ?_; rintro e w6 ⟨g6, c6, rfl, hl6, hb6⟩; replace run := bel run hb6; replace hl1 := hl1.keep hb6; replace hl2 := hl2.keep hb6))
  go_loopw [15] (fun iv wr => ∃ i : Nat, i ≤ z ∧ iv = .int .i64 i ∧ Hid (Below w6.heap.size w6 wr)) (fun iv _ => z - (intOf iv).toNat)
  case atStart => exact ⟨0, Nat.zero_le _, rfl, Below.refl _ _⟩
  case round =>
    obtain ⟨i, hi, rfl, HB⟩ := hrel
    have l1 := (hl1.keep HB.out).lt
    have l6 := (hl6.keep HB.out).lt
    have q1 := (hl1.keep HB.out).cap.1
    have q6 := (hl6.keep HB.out).cap.1
    by_cases hlt : i < z
    · have hltI : (i : Int) < (z : Int) := by omega
      obtain ⟨⟨k, tx, p⟩, e1, e3⟩ := HG.out i hlt
      obtain ⟨a0, a1, _⟩ := (hl1.keep HB.out).get e1
      obtain ⟨b0, b1, _⟩ := (hl6.keep HB.out).get e3
      obtain ⟨sx, hsx⟩ : ∃ sx, sx = S tx := ⟨_, rfl⟩
      replace a0 : wr.cell? ⟨g1, i * 3, none⟩ = some (.int .i64 k) := a0
      replace a1 : wr.cell? ⟨g1, i * 3 + 1, none⟩ = some (.string sx) := by rw [hsx]; exact a1
      replace b0 : wr.cell? ⟨g6, i * 3, none⟩ = some (.int .i64 k) := b0
      replace b1 : wr.cell? ⟨g6, i * 3 + 1, none⟩ = some (.string sx) := by rw [hsx]; exact b1
      clear e1 e3 hsx
      go_wp2
      go_region
      all_goals go_wp2
      all_goals
        go_roundw
        case rel =>
          refine ⟨i + 1, by omega, by go_num, HB.out.trans ?hB⟩
          repeat (first | exact Below.refl _ _ | refine Below.drew ?_ | refine Below.setCell ?_ (by simp) _ | refine Below.alloc ?_ (by simp) _)
        case measure => simp [intOf]; omega
    · have hge : (z : Int) ≤ (i : Int) := by omega
      go_wp2_with (first | (go_at_call 7; refine (awake3_c _).mono ?_; rintro e w7 ⟨rfl, hb7⟩))
      go_ret
      exact ⟨rfl, bel (bel run HB.out) hb7⟩
set_option maxRecDepth 100000 in
set_option maxHeartbeats 8000000 in
theorem parts_long_f (a b : ByteArray) (w : World) (ha : a.size ≤ maxLen) (hb : b.size ≤ maxLen) (x y : List Tok) (hx : lexL (L a) = .toks x) (hy : lexL (L b) = .toks y) (hlx : x.length ≤ 16385) (hly : y.length ≤ 16385) (htx : tkd x = false) (hty : tkd y = false) (hsum : x.length + y.length ≤ 8192) (ha2 : a.size ≤ 65536) (hbz : b.size ≤ 65536) (p : Nat) (c : Int) (hl : lexL (L (pStr false a b)) = .bad p c) :
    Calls Try.prog 4 #[.string a, .string b, .bool false] w fun e w' => e = .returned (.bool true) ∧ Below w.heap.size w w' := by
  have hx0 := lexL_ne hx
  have hy0 := lexL_ne hy
  have HL1 := fun w => lexed_t a w ha x hx
  have HL2 := fun w => lexed_t b w hb y hy
  have HT1 := fun B g cap w hL => ticked_c x B g cap w hL (by omega)
  have HT2 := fun B g cap w hL => ticked_c y B g cap w hL (by omega)
  rw [htx] at HT1
  rw [hty] at HT2
  obtain ⟨n, hn⟩ : ∃ n, x.length = n := ⟨_, rfl⟩
  obtain ⟨m, hm⟩ : ∃ m, y.length = m := ⟨_, rfl⟩
  rw [hn] at HL1 hx0 HT1 hsum
  rw [hm] at HL2 hy0 HT2 hsum
  have k1 : ((n : Int) == 0) = false := by rw [beq_eq_false_iff_ne]; omega
  have k2 : ((m : Int) == 0) = false := by rw [beq_eq_false_iff_ne]; omega
  have k3 : decide ((8192 : Int) < (n : Int) + (m : Int)) = false := by simp; omega
  have run : Below w.heap.size w w := Below.refl _ _
  obtain ⟨S1, s1⟩ : ∃ S1, (⟨#[]⟩ : ByteArray) ++ (⟨#[96, 105, 102, 100, 101, 102, 32, 122, 122, 57, 10]⟩ : ByteArray) = S1 := ⟨_, rfl⟩
  obtain ⟨S2, s2⟩ : ∃ S2, S1 ++ a = S2 := ⟨_, rfl⟩
  obtain ⟨S3, s3⟩ : ∃ S3, S2 ++ (⟨#[10, 96, 101, 108, 115, 101, 10]⟩ : ByteArray) = S3 := ⟨_, rfl⟩
  obtain ⟨S4, s4⟩ : ∃ S4, S3 ++ b = S4 := ⟨_, rfl⟩
  obtain ⟨S5, s5⟩ : ∃ S5, S4 ++ (⟨#[10, 96, 101, 110, 100, 105, 102, 10]⟩ : ByteArray) = S5 := ⟨_, rfl⟩
  have z1 : S1.size = 11 := by rw [← s1, ByteArray.size_append]; rfl
  have z2 : S2.size = 11 + a.size := by rw [← s2, ByteArray.size_append, z1]
  have z3 : S3.size = 18 + a.size := by rw [← s3, ByteArray.size_append, z2, show ByteArray.size (⟨#[10, 96, 101, 108, 115, 101, 10]⟩ : ByteArray) = 7 from rfl]; omega
  have z4 : S4.size = 18 + a.size + b.size := by rw [← s4, ByteArray.size_append, z3]
  have hS5 : pStr false a b = S5 := by unfold pStr; rw [if_neg Bool.false_ne_true, s1, s2, s3, s4, s5]
  rw [hS5] at hl
  have HL3 := fun w => lexed_b S5 w (by rw [← hS5]; exact pStr_sz _ a b ha2 hbz) p c hl
  clear hx hy hn hm hl htx hty hS5
  go_enter Try.func4, Try.ntmps4
  go_wp2_with (first
    | (go_at_call 6; have hx := hb2; refine (HL3 _).mono ?_; rintro e w5 ⟨rfl, hb5⟩; replace run := bel run hb5)
    | (go_at_call 6; have hx := hb1; refine (HL2 _).mono ?_; rintro e w2 ⟨g2, c2, rfl, hl2, hb2⟩; replace run := bel run hb2; replace hl1 := hl1.keep hb2)
    | (go_at_call 6; refine (HL1 _).mono ?_; rintro e w1 ⟨g1, c1, rfl, hl1, hb1⟩; replace run := bel run hb1)
    | (go_at_call 9; have hx := hb3; refine (HT2 _ _ _ _ hl2).mono ?_; rintro e w4 ⟨rfl, hb4⟩; replace run := bel run hb4; replace hl1 := hl1.keep hb4; replace hl2 := hl2.keep hb4)
    | (go_at_call 9; refine (HT1 _ _ _ _ hl1).mono ?_; rintro e w3 ⟨rfl, hb3⟩; replace run := bel run hb3; replace hl1 := hl1.keep hb3; replace hl2 := hl2.keep hb3)
    | (go_at_call 7; refine (awake3_c _).mono ?_; rintro e w6 ⟨rfl, hb6⟩; replace run := bel run hb6))
  go_ret
  exact ⟨rfl, run⟩
set_option maxRecDepth 100000 in
set_option maxHeartbeats 8000000 in
theorem parts_main_f (a b : ByteArray) (w : World) (ha : a.size ≤ maxLen) (hb : b.size ≤ maxLen) (x y : List Tok) (hx : lexL (L a) = .toks x) (hy : lexL (L b) = .toks y) (hlx : x.length ≤ 16385) (hly : y.length ≤ 16385) (htx : tkd x = false) (hty : tkd y = false) (hsum : x.length + y.length ≤ 8192) (ha2 : a.size ≤ 65536) (hbz : b.size ≤ 65536) (l Z : List Tok) (e0 e1 : Tok) (q : Nat) (hl : lexL (L (pStr false a b)) = .toks (l ++ [e0])) (hll : l.length ≤ 16384) (hlz : ∀ t ∈ l, t.x.length ≤ 65536) (hZ : y = Z ++ [e1]) (hr : runP e0 l ps0 = .ok (Z.map (shf q) ++ [e0])) :
    Calls Try.prog 4 #[.string a, .string b, .bool false] w fun e w' => e = .returned (.bool true) ∧ Below w.heap.size w w' := by
  have hx0 := lexL_ne hx
  have hy0 := lexL_ne hy
  have HL1 := fun w => lexed_t a w ha x hx
  have HL2 := fun w => lexed_t b w hb y hy
  have HT1 := fun B g cap w hL => ticked_c x B g cap w hL (by omega)
  have HT2 := fun B g cap w hL => ticked_c y B g cap w hL (by omega)
  rw [htx] at HT1
  rw [hty] at HT2
  obtain ⟨n, hn⟩ : ∃ n, x.length = n := ⟨_, rfl⟩
  obtain ⟨m, hm⟩ : ∃ m, y.length = m := ⟨_, rfl⟩
  rw [hn] at HL1 hx0 HT1 hsum
  rw [hm] at HL2 hy0 HT2 hsum
  have k1 : ((n : Int) == 0) = false := by rw [beq_eq_false_iff_ne]; omega
  have k2 : ((m : Int) == 0) = false := by rw [beq_eq_false_iff_ne]; omega
  have k3 : decide ((8192 : Int) < (n : Int) + (m : Int)) = false := by simp; omega
  have run : Below w.heap.size w w := Below.refl _ _
  obtain ⟨S1, s1⟩ : ∃ S1, (⟨#[]⟩ : ByteArray) ++ (⟨#[96, 105, 102, 100, 101, 102, 32, 122, 122, 57, 10]⟩ : ByteArray) = S1 := ⟨_, rfl⟩
  obtain ⟨S2, s2⟩ : ∃ S2, S1 ++ a = S2 := ⟨_, rfl⟩
  obtain ⟨S3, s3⟩ : ∃ S3, S2 ++ (⟨#[10, 96, 101, 108, 115, 101, 10]⟩ : ByteArray) = S3 := ⟨_, rfl⟩
  obtain ⟨S4, s4⟩ : ∃ S4, S3 ++ b = S4 := ⟨_, rfl⟩
  obtain ⟨S5, s5⟩ : ∃ S5, S4 ++ (⟨#[10, 96, 101, 110, 100, 105, 102, 10]⟩ : ByteArray) = S5 := ⟨_, rfl⟩
  have z1 : S1.size = 11 := by rw [← s1, ByteArray.size_append]; rfl
  have z2 : S2.size = 11 + a.size := by rw [← s2, ByteArray.size_append, z1]
  have z3 : S3.size = 18 + a.size := by rw [← s3, ByteArray.size_append, z2, show ByteArray.size (⟨#[10, 96, 101, 108, 115, 101, 10]⟩ : ByteArray) = 7 from rfl]; omega
  have z4 : S4.size = 18 + a.size + b.size := by rw [← s4, ByteArray.size_append, z3]
  have hS5 : pStr false a b = S5 := by unfold pStr; rw [if_neg Bool.false_ne_true, s1, s2, s3, s4, s5]
  rw [hS5] at hl
  have HL3 := fun w => lexed_t S5 w (by rw [← hS5]; exact pStr_sz _ a b ha2 hbz) _ hl
  have HR := fun B g cap w hL => Run_t l e0 B g cap w hL hll hlz _ hr (by simp)
  obtain ⟨r, hrn⟩ : ∃ r, l.length = r := ⟨_, rfl⟩
  obtain ⟨z, hz⟩ : ∃ z, Z.length = z := ⟨_, rfl⟩
  have e2 : (l ++ [e0]).length = r + 1 := by rw [List.length_append, hrn]; rfl
  have e3 : (Z.map (shf q) ++ [e0]).length = z + 1 := by rw [List.length_append, List.length_map, hz]; rfl
  have e4 : m = z + 1 := by rw [← hm, hZ, List.length_append, hz]; rfl
  rw [e2] at HL3 HR
  rw [e3] at HR
  rw [hrn] at hll
  have k4 : ((r : Int) + 1 == 0) = false := by rw [beq_eq_false_iff_ne]; omega
  have gZ : ∀ i, i < z → ∃ t : Tok, y[i]? = some t ∧ (Z.map (shf q) ++ [e0])[i]? = some (shf q t) := by
    intro i hi
    have h1 : i < Z.length := by omega
    refine ⟨Z[i], by rw [hZ, List.getElem?_append_left h1]; exact List.getElem?_eq_getElem h1, ?_⟩
    rw [List.getElem?_append_left (by rw [List.length_map]; exact h1), List.getElem?_map, List.getElem?_eq_getElem h1]; rfl
  have HG : Hid _ := gZ
  obtain ⟨O, hO⟩ : ∃ O, O = Z.map (shf q) ++ [e0] := ⟨_, rfl⟩
  rw [← hO] at HR HG
  subst e4
  clear hx hy hn hm hl htx hty hS5 hr hlz hrn e2 e3 gZ hO hZ hz
  have k5 : ((z : Int) + 1 != (z : Int) + 1) = false := by simp
  have k6 : ((z : Int) + 1 == 0) = false := by rw [beq_eq_false_iff_ne]; omega
  have k7 : decide ((8192 : Int) < (n : Int) + ((z : Int) + 1)) = false := by simp; omega
  clear k2 k3
  go_enter Try.func4, Try.ntmps4
  go_wp2_with (first
    | (go_at_call 6; have hx := hb2; refine (HL3 _).mono ?_; rintro e w5 ⟨g5, c5, rfl, hl5, hb5⟩; replace run := bel run hb5; replace hl1 := hl1.keep hb5; replace hl2 := hl2.keep hb5)
    | (go_at_call 6; have hx := hb1; refine (HL2 _).mono ?_; rintro e w2 ⟨g2, c2, rfl, hl2, hb2⟩; replace run := bel run hb2; replace hl1 := hl1.keep hb2)
    | (go_at_call 6; refine (HL1 _).mono ?_; rintro e w1 ⟨g1, c1, rfl, hl1, hb1⟩; replace run := bel run hb1)
    | (go_at_call 9; have hx := hb3; refine (HT2 _ _ _ _ hl2).mono ?_; rintro e w4 ⟨rfl, hb4⟩; replace run := bel run hb4; replace hl1 := hl1.keep hb4; replace hl2 := hl2.keep hb4)
    | (go_at_call 9; refine (HT1 _ _ _ _ hl1).mono ?_; rintro e w3 ⟨rfl, hb3⟩; replace run := bel run hb3; replace hl1 := hl1.keep hb3; replace hl2 := hl2.keep hb3)
    | (go_at_call 8; refine (HR _ _ _ _ hl5).mono ?_; rintro e w6 ⟨g6, c6, rfl, hl6, hb6⟩; replace run := bel run hb6; replace hl1 := hl1.keep hb6; replace hl2 := hl2.keep hb6))
  go_loopw [15] (fun iv wr => ∃ i : Nat, i ≤ z ∧ iv = .int .i64 i ∧ Hid (Below w6.heap.size w6 wr)) (fun iv _ => z - (intOf iv).toNat)
  case atStart => exact ⟨0, Nat.zero_le _, rfl, Below.refl _ _⟩
  case round =>
    obtain ⟨i, hi, rfl, HB⟩ := hrel
    have l1 := (hl2.keep HB.out).lt
    have l6 := (hl6.keep HB.out).lt
    have q1 := (hl2.keep HB.out).cap.1
    have q6 := (hl6.keep HB.out).cap.1
    by_cases hlt : i < z
    · have hltI : (i : Int) < (z : Int) := by omega
      obtain ⟨⟨k, tx, p⟩, e1, e3⟩ := HG.out i hlt
      obtain ⟨a0, a1, _⟩ := (hl2.keep HB.out).get e1
      obtain ⟨b0, b1, _⟩ := (hl6.keep HB.out).get e3
      obtain ⟨sx, hsx⟩ : ∃ sx, sx = S tx := ⟨_, rfl⟩
      replace a0 : wr.cell? ⟨g2, i * 3, none⟩ = some (.int .i64 k) := a0
      replace a1 : wr.cell? ⟨g2, i * 3 + 1, none⟩ = some (.string sx) := by rw [hsx]; exact a1
      replace b0 : wr.cell? ⟨g6, i * 3, none⟩ = some (.int .i64 k) := b0
      replace b1 : wr.cell? ⟨g6, i * 3 + 1, none⟩ = some (.string sx) := by rw [hsx]; exact b1
      clear e1 e3 hsx
      go_wp2
      go_region
      all_goals go_wp2
      all_goals
        go_roundw
        case rel =>
          refine ⟨i + 1, by omega, by go_num, HB.out.trans ?hB⟩
          repeat (first | exact Below.refl _ _ | refine Below.drew ?_ | refine Below.setCell ?_ (by simp) _ | refine Below.alloc ?_ (by simp) _)
        case measure => simp [intOf]; omega
    · have hge : (z : Int) ≤ (i : Int) := by omega
      go_wp2_with (first | (go_at_call 7; refine (awake3_c _).mono ?_; rintro e w7 ⟨rfl, hb7⟩))
      go_ret
      exact ⟨rfl, bel (bel run HB.out) hb7⟩
theorem PreParts_c (a b : ByteArray) (th : Bool) (w : World) (ha : a.size ≤ maxLen) (hb : b.size ≤ maxLen) :
    Calls Try.prog 4 #[.string a, .string b, .bool th] w fun e w' => e = .returned (.bool true) ∧ Below w.heap.size w w' := by
  cases hx : lexL (L a) with
  | bad p c => exact parts_b1 a b th w ha hb p c hx
  | toks x =>
    cases hy : lexL (L b) with
    | bad p c => exact parts_b2 a b th w ha hb x hx p c hy
    | toks y =>
      obtain ⟨X, rfl, x1, x2, x3, x4, x5⟩ := lex_facts hx
      obtain ⟨Y, rfl, y1, y2, y3, y4, y5⟩ := lex_facts hy
      have lx : (X ++ [(⟨6, [], (L a).length⟩ : Tok)]).length ≤ 16385 := by rw [List.length_append]; simp; omega
      have ly : (Y ++ [(⟨6, [], (L b).length⟩ : Tok)]).length ≤ 16385 := by rw [List.length_append]; simp; omega
      cases tx : tkd (X ++ [⟨6, [], (L a).length⟩]) with
      | true => exact parts_no a b th w ha hb _ _ hx hy lx ly (Or.inl tx)
      | false =>
        cases ty : tkd (Y ++ [⟨6, [], (L b).length⟩]) with
        | true => exact parts_no a b th w ha hb _ _ hx hy lx ly (Or.inr (Or.inl ⟨tx, ty⟩))
        | false =>
          by_cases hsum : 8192 < (X ++ [(⟨6, [], (L a).length⟩ : Tok)]).length + (Y ++ [(⟨6, [], (L b).length⟩ : Tok)]).length
          · exact parts_no a b th w ha hb _ _ hx hy lx ly (Or.inr (Or.inr ⟨tx, ty, hsum⟩))
          · have ha2 : a.size ≤ 65536 := by rw [len_L] at x4; exact x4
            have hbz : b.size ≤ 65536 := by rw [len_L] at y4; exact y4
            have hsum2 : X.length + Y.length ≤ 8192 := by rw [List.length_append, List.length_append] at hsum; simp at hsum; omega
            obtain ⟨l, q, p1, p2, p3⟩ := parts_run th x5 y5 (fun t ht => tkd_no tx t (by simp [ht])) (fun t ht => tkd_no ty t (by simp [ht])) hsum2
            rw [← pStr_L] at p1
            by_cases hlong : 65536 < (L (pStr th a b)).length
            · have hbad : lexL (L (pStr th a b)) = .bad 0 4 := by unfold lexL; rw [if_pos hlong]
              cases th with
              | true => exact parts_long_t a b w ha hb _ _ hx hy lx ly tx ty (by omega) ha2 hbz _ _ hbad
              | false => exact parts_long_f a b w ha hb _ _ hx hy lx ly tx ty (by omega) ha2 hbz _ _ hbad
            · have hgood := lexL_of p1 (by omega)
              obtain ⟨l2, h1, h2, h3, _⟩ := lex_facts hgood
              obtain rfl : l = l2 := List.append_cancel_right h1
              cases th with
              | true => exact parts_main_t a b w ha hb _ _ hx hy lx ly tx ty (by omega) ha2 hbz l X _ _ q hgood h2 h3 rfl (p3 _)
              | false => exact parts_main_f a b w ha hb _ _ hx hy lx ly tx ty (by omega) ha2 hbz l Y _ _ q hgood h2 h3 rfl (p3 _)
end Go.Proofs.Yteohmemifogdlaa

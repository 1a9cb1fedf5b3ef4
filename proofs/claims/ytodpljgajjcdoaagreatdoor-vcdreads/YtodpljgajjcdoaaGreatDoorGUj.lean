/- Texts UJ UK UL, joined: what each part says stands ahead of it. -/
import Derived.Test.YtodpljgajjcdoaaGreatDoorUI
import Derived.Test.YtodpljgajjcdoaaGreatDoorShE
import Derived.Lib.SplitLaws
import Derived.Lib.AtoiErrMem
import Derived.Maps.OwnSet
import Derived.StringKeys
/- Layer 19 of the program: the library's Cut, CutPrefix, Split at one byte; numbers. -/
namespace Go.Proofs.YtodpljgajjcdoaaGreatDoor
set_option maxRecDepth 100000
open Go.RowKit Lg Nl Go.Maps Wf Vd
set_option linter.unusedVariables false
set_option linter.unusedSimpArgs false

theorem ib_no (c : UInt8) : ∀ l : List UInt8, c ∉ l → Lib.indexByte l c = -1
  | [], _ => rfl
  | x :: l, h => by
    have h1 : (x == c) = false := by rw [beq_eq_false_iff_ne]; intro e; exact h (by rw [e]; exact List.mem_cons_self)
    have h2 := ib_no c l fun e => h (List.mem_cons_of_mem _ e)
    unfold Lib.indexByte
    rw [h1, h2]; rfl
theorem ib_at (c : UInt8) : ∀ (a b : List UInt8), c ∉ a → Lib.indexByte (a ++ c :: b) c = (a.length : Int)
  | [], b, _ => by show (if (c == c) = true then (0 : Int) else _) = 0; rw [if_pos (beq_self_eq_true c)]
  | x :: a, b, h => by
    have h1 : (x == c) = false := by rw [beq_eq_false_iff_ne]; intro e; exact h (by rw [e]; exact List.mem_cons_self)
    have h2 := ib_at c a b fun e => h (List.mem_cons_of_mem _ e)
    show (if (x == c) = true then (0 : Int) else if (Lib.indexByte (a ++ c :: b) c == -1) = true then -1 else Lib.indexByte (a ++ c :: b) c + 1) = _
    rw [h1, h2, if_neg (by decide), if_neg (by rw [beq_iff_eq]; omega), List.length_cons]
    omega
theorem cut_parts {s : ByteArray} {c : UInt8} {a b : List UInt8} (h : L s = a ++ c :: b) : s.size = a.length + 1 + b.length ∧ s.extract 0 a.length = S a ∧ s.extract (a.length + 1) s.size = S b := by
  have hz : s.size = a.length + 1 + b.length := by rw [← len_L, h, List.length_append, List.length_cons]; omega
  refine ⟨hz, L_inj ?_, L_inj ?_⟩
  · rw [L_extract, h, L_S, List.drop_zero, Nat.sub_zero, List.take_left]
  · rw [L_extract, h, L_S, hz]
    have e : (a ++ c :: b).drop (a.length + 1) = b := by rw [← List.drop_drop, List.drop_left]; rfl
    rw [e, List.take_of_length_le (by omega)]
theorem lcut_ok (s : ByteArray) (c : UInt8) (a b : List UInt8) (w : World) (h : L s = a ++ c :: b) (hc : c ∉ a) (hs : s.size ≤ 4294967280) :
    Calls Tryz.prog 62 #[.string s, .string ⟨#[c]⟩] w fun e w' => e = .returned (.tuple #[.string (S a), .string (S b), .bool true]) ∧ ∃ n, w' = w.drewN n := by
  obtain ⟨hz, e1, e2⟩ := cut_parts h
  have hI : Lib.indexByte s.data.toList c = (a.length : Int) := by
    have : s.data.toList = a ++ c :: b := h
    rw [this, ib_at c a b hc]
  have c1 : (0 : Int) ≤ (a.length : Int) := by omega
  have c2 : (a.length : Int) ≤ (s.size : Int) := by omega
  have c3 : (0 : Int) ≤ (a.length : Int) + 1 := by omega
  have c4 : (a.length : Int) + 1 ≤ (s.size : Int) := by omega
  have mixed : Tryz.prog.follows .mixedOrders = true := by kernel_rfl
  have HI : Hid (Calls Tryz.prog 70 #[.string s, .string ⟨#[c]⟩] w fun e w' => e = .returned (.int .i64 (a.length : Int)) ∧ w = w') := by
    refine (Any.stringslite_Index_one Tryz.index1 s c w).mono ?_
    rintro e w' ⟨rfl, rfl⟩
    exact ⟨by rw [hI], rfl⟩
  have HE1 := hidV e1
  have HE2 := hidV e2
  have HA : Hid (a.length < 4294967281) := by show _ < _; omega
  clear hI e1 e2 h hc hz
  generalize a.length = k at *
  rw [← HE1.out, ← HE2.out]
  go_enter Tryz.func62, Tryz.ntmps62
  go_wp2_with (first
    | (go_at_call 70; refine HI.out.mono ?_; rintro e w1 ⟨rfl, rfl⟩))
  go_region_o
  all_goals (
    go_wp2
    go_ret3
    exact ⟨rfl, 1, rfl⟩)
theorem lcut_no (s : ByteArray) (c : UInt8) (w : World) (hc : c ∉ L s) :
    Calls Tryz.prog 62 #[.string s, .string ⟨#[c]⟩] w fun e w' => e = .returned (.tuple #[.string s, .string ⟨#[]⟩, .bool false]) ∧ ∃ n, w' = w.drewN n := by
  have hI : Lib.indexByte s.data.toList c = -1 := ib_no c _ hc
  have HI : Hid (Calls Tryz.prog 70 #[.string s, .string ⟨#[c]⟩] w fun e w' => e = .returned (.int .i64 (-1)) ∧ w = w') := by
    refine (Any.stringslite_Index_one Tryz.index1 s c w).mono ?_
    rintro e w' ⟨rfl, rfl⟩
    exact ⟨by rw [hI], rfl⟩
  clear hI hc
  go_enter Tryz.func62, Tryz.ntmps62
  go_wp2_with (first
    | (go_at_call 70; refine HI.out.mono ?_; rintro e w1 ⟨rfl, rfl⟩))
  go_ret3
  exact ⟨rfl, 0, rfl⟩
theorem cut_ok (s : ByteArray) (c : UInt8) (a b : List UInt8) (w : World) (h : L s = a ++ c :: b) (hc : c ∉ a) (hs : s.size ≤ 4294967280) :
    Calls Tryz.prog 53 #[.string s, .string ⟨#[c]⟩] w fun e w' => e = .returned (.tuple #[.string (S a), .string (S b), .bool true]) ∧ ∃ n, w' = w.drewN n := by
  have HC := hidV (lcut_ok s c a b w h hc hs)
  clear h hc hs
  go_enter Tryz.func53, Tryz.ntmps53
  go_wp2_with (first
    | (go_at_call 62; refine HC.out.mono ?_; rintro e w1 ⟨rfl, n, rfl⟩))
  go_ret3
  exact ⟨rfl, n, rfl⟩
theorem cut_no (s : ByteArray) (c : UInt8) (w : World) (hc : c ∉ L s) :
    Calls Tryz.prog 53 #[.string s, .string ⟨#[c]⟩] w fun e w' => e = .returned (.tuple #[.string s, .string ⟨#[]⟩, .bool false]) ∧ ∃ n, w' = w.drewN n := by
  have HC := hidV (lcut_no s c w hc)
  clear hc
  go_enter Tryz.func53, Tryz.ntmps53
  go_wp2_with (first
    | (go_at_call 62; refine HC.out.mono ?_; rintro e w1 ⟨rfl, n, rfl⟩))
  go_ret3
  exact ⟨rfl, n, rfl⟩
/-- does a text begin with a byte -/
def pfB (c : UInt8) (s : ByteArray) : Bool := match L s with | [] => false | x :: _ => x == c
theorem prefix_c (s : ByteArray) (c : UInt8) (w : World) (hs : s.size ≤ 4294967280) :
    Calls Tryz.prog 64 #[.string s, .string ⟨#[c]⟩] w fun e w' => e = .returned (.bool (pfB c s)) ∧ w = w' := by
  cases hl : L s with
  | nil =>
    have hp : pfB c s = false := by unfold pfB; rw [hl]
    have hz : s.size = 0 := by rw [← len_L, hl]; rfl
    rw [hp]
    have h1 : ¬ (1 : Int) ≤ (s.size : Int) := by omega
    go_enter Tryz.func64, Tryz.ntmps64
    go_wp2
    go_ret
    exact ⟨rfl, rfl⟩
  | cons x l =>
    have hp : pfB c s = (x == c) := by unfold pfB; rw [hl]
    have hz : s.size = l.length + 1 := by rw [← len_L, hl]; rfl
    rw [hp]
    have h1 : (1 : Int) ≤ (s.size : Int) := by omega
    have he : ((s.extract 0 1).toList == [c]) = (x == c) := by
      rw [toL, L_extract, hl]
      show ([x] == [c]) = _
      simp
    clear hz hl hp
    go_enter Tryz.func64, Tryz.ntmps64
    go_wp2
    go_ret
    exact ⟨rfl, rfl⟩
/-- the text behind its first byte -/
def tlS (s : ByteArray) : ByteArray := S ((L s).drop 1)
theorem cutp_c (s : ByteArray) (c : UInt8) (w : World) (hs : s.size ≤ 4294967280) :
    Calls Tryz.prog 39 #[.string s, .string ⟨#[c]⟩] w fun e w' => e = .returned (.tuple #[.string (if pfB c s then tlS s else s), .bool (pfB c s)]) ∧ w = w' := by
  have HP := hidV (prefix_c s c w hs)
  have HL : Hid (Calls Tryz.prog 55 #[.string s, .string ⟨#[c]⟩] w fun e w' => e = .returned (.tuple #[.string (if pfB c s then tlS s else s), .bool (pfB c s)]) ∧ w = w') := by
    show Calls _ _ _ _ _
    cases hp : pfB c s with
    | false =>
      rw [hp] at HP
      go_enter Tryz.func55, Tryz.ntmps55
      go_wp2_with (first
        | (go_at_call 64; refine HP.out.mono ?_; rintro e w1 ⟨rfl, rfl⟩))
      go_ret2
      exact ⟨rfl, rfl⟩
    | true =>
      rw [hp] at HP
      have hz : 1 ≤ s.size := by
        unfold pfB at hp
        cases hl : L s with
        | nil => rw [hl] at hp; cases hp
        | cons x l => rw [← len_L, hl]; simp
      have h1 : (1 : Int) ≤ (s.size : Int) := by omega
      have he : s.extract 1 s.size = tlS s := L_inj (by unfold tlS; rw [L_extract, L_S, List.take_of_length_le (by rw [List.length_drop, len_L]; omega)])
      have HE := hidV he
      clear he hz hp
      go_enter Tryz.func55, Tryz.ntmps55
      go_wp2_with (first
        | (go_at_call 64; refine HP.out.mono ?_; rintro e w1 ⟨rfl, rfl⟩))
      go_ret2
      exact ⟨by rw [← HE.out]; rfl, rfl⟩
  generalize (if pfB c s then tlS s else s) = t at *
  generalize pfB c s = q at *
  clear HP
  go_enter Tryz.func39, Tryz.ntmps39
  go_wp2_with (first
    | (go_at_call 55; refine HL.out.mono ?_; rintro e w1 ⟨rfl, rfl⟩))
  go_ret2
  exact ⟨rfl, rfl⟩
end Go.Proofs.YtodpljgajjcdoaaGreatDoor

/- Layer 19 of the program: Split at one byte; numbers. -/
namespace Go.Proofs.YtodpljgajjcdoaaGreatDoor
set_option maxRecDepth 100000
open Go.RowKit Lg Nl Go.Maps Wf Vd
set_option linter.unusedVariables false
set_option linter.unusedSimpArgs false

/-- a text, between bytes -/
def spl (c : UInt8) : List UInt8 → List (List UInt8)
  | [] => [[]]
  | x :: l => if x = c then [] :: spl c l else match spl c l with | [] => [[x]] | h :: t => (x :: h) :: t
theorem spl_no (c : UInt8) : ∀ l : List UInt8, c ∉ l → spl c l = [l]
  | [], _ => rfl
  | x :: l, h => by
    have h1 : x ≠ c := fun e => h (by rw [e]; exact List.mem_cons_self)
    have h2 := spl_no c l fun e => h (List.mem_cons_of_mem _ e)
    unfold spl
    rw [if_neg h1, h2]
theorem spl_at (c : UInt8) : ∀ (a b : List UInt8), c ∉ a → spl c (a ++ c :: b) = a :: spl c b
  | [], b, _ => by show (if c = c then _ else _) = _; rw [if_pos rfl]
  | x :: a, b, h => by
    have h1 : x ≠ c := fun e => h (by rw [e]; exact List.mem_cons_self)
    have h2 := spl_at c a b fun e => h (List.mem_cons_of_mem _ e)
    show (if x = c then _ else match spl c (a ++ c :: b) with | [] => [[x]] | h :: t => (x :: h) :: t) = _
    rw [if_neg h1, h2]
theorem first_at (c : UInt8) (l : List UInt8) : c ∉ l ∨ ∃ a b, l = a ++ c :: b ∧ c ∉ a := by
  induction l with
  | nil => exact Or.inl (by simp)
  | cons x l ih =>
    by_cases e : x = c
    · exact Or.inr ⟨[], l, by rw [e]; rfl, by simp⟩
    · rcases ih with h | ⟨a, b, h1, h2⟩
      · exact Or.inl (by intro h3; rcases List.mem_cons.1 h3 with h4 | h4; exact e h4.symm; exact h h4)
      · exact Or.inr ⟨x :: a, b, by rw [h1]; rfl, by intro h3; rcases List.mem_cons.1 h3 with h4 | h4; exact e h4.symm; exact h2 h4⟩
theorem splitK_spl (c : UInt8) : ∀ (k : Nat) (l : List UInt8), l.count c ≤ k → Lib.splitK [c] 0 k l = spl c l
  | 0, l, h => by
    have hc : c ∉ l := fun e => by have := List.count_pos_iff.2 e; omega
    rw [spl_no c l hc]; rfl
  | k + 1, l, h => by
    unfold Lib.splitK
    rcases first_at c l with hc | ⟨a, b, rfl, hc⟩
    · rw [Lib.index_one, ib_no c l hc, if_pos (by decide), spl_no c l hc]
    · rw [Lib.index_one, ib_at c a b hc, if_neg (by rw [beq_iff_eq]; omega), spl_at c a b hc]
      have e1 : ((a.length : Int)).toNat + 0 = a.length := by omega
      have e2 : ((a.length : Int)).toNat + [c].length = a.length + 1 := by simp
      have e3 : (a ++ c :: b).drop (a.length + 1) = b := by rw [← List.drop_drop, List.drop_left]; rfl
      have hb : b.count c ≤ k := by rw [List.count_append, List.count_cons_self] at h; omega
      rw [e1, e2, e3, List.take_left, splitK_spl c k b hb]
theorem split_is (s : ByteArray) (c : UInt8) : (Lib.splitB ⟨#[c]⟩ 0 (Lib.countB s ⟨#[c]⟩) s).map L = spl c (L s) := by
  have h := Lib.splitB_data ⟨#[c]⟩ 0 (Lib.countB s ⟨#[c]⟩) s
  have h2 : (Lib.splitB ⟨#[c]⟩ 0 (Lib.countB s ⟨#[c]⟩) s).map L = Lib.splitK [c] 0 (Lib.countB s ⟨#[c]⟩) (L s) := h
  rw [h2, splitK_spl c _ _ (by show (L s).count c ≤ Lib.count (L s) [c]; rw [Lib.count_one]; exact Nat.le_refl _)]
theorem split_cells (s : ByteArray) (c : UInt8) : ((Lib.splitB ⟨#[c]⟩ 0 (Lib.countB s ⟨#[c]⟩) s).map Value.string).toArray = ((spl c (L s)).map fun l => Value.string (S l)).toArray := by
  rw [← split_is, List.map_map]
  congr 1
theorem split_len (s : ByteArray) (c : UInt8) : Lib.countB s ⟨#[c]⟩ + 1 = (spl c (L s)).length := by
  rw [← split_is, List.length_map, Lib.splitB_all ⟨#[c]⟩ (by show 1 ≤ 1; decide) 0 _ s rfl]
set_option maxHeartbeats 1000000 in
theorem split_c (s : ByteArray) (c : UInt8) (w : World) (hs : s.size ≤ 4294967280) :
    Calls Tryz.prog 54 #[.string s, .string ⟨#[c]⟩] w fun e w' => e = .returned (.slice (some ⟨w.heap.size, 0, none⟩) (spl c (L s)).length (spl c (L s)).length) ∧ w' = w.alloc (.cells ((spl c (L s)).map fun l => Value.string (S l)).toArray 9) := by
  have hi9 : (Tryz.prog.info? 9).map (fun i => (i.zero, i.size, i.bytes)) = some (some (.string ByteArray.empty), 1, 16) := by kernel_rfl
  have h1 : 1 ≤ (⟨#[c]⟩ : ByteArray).size := by show 1 ≤ 1; decide
  have hle := Lib.countB_le ⟨#[c]⟩ h1 s.size s (Nat.le_refl _)
  have hlen := Lib.splitB_all ⟨#[c]⟩ h1 0 _ s rfl
  have hC : Calls Tryz.prog 72 #[.string s, .string ⟨#[c]⟩] w fun e w' => e = .returned (.int .i64 (Lib.countB s ⟨#[c]⟩)) ∧ w' = w := by
    refine (Any.strings_Count_one Tryz.count1 s c w).mono fun e w' ⟨he, hw⟩ => ⟨?_, hw⟩
    rw [he]
    show _ = Ending.returned (Value.int .i64 ((Lib.count s.data.toList [c] : Nat) : Int))
    rw [Lib.count_one]
    rfl
  have hI : ∀ (x : ByteArray) (cs : Array Value), x.size ≤ s.size → Calls Tryz.prog 73 #[.string x, .string ⟨#[c]⟩] (w.alloc (.cells cs 9)) fun e w' => e = .returned (.int .i64 (Lib.indexB x ⟨#[c]⟩)) ∧ w' = w.alloc (.cells cs 9) := by
    intro x cs _
    refine (Any.strings_Index_one Tryz.indexS x c _).mono fun e w' ⟨he, hw⟩ => ⟨?_, hw⟩
    rw [he]
    show _ = Ending.returned (Value.int .i64 (Lib.index x.data.toList [c]))
    rw [Lib.index_one]
  have hg := Any.strings_genSplit_core Tryz.genSplit hi9 s ⟨#[c]⟩ 0 (-1) (Lib.countB s ⟨#[c]⟩ + 1) w (by omega) h1 (Nat.zero_le _) hI hC (by decide) (by decide) (by rw [if_pos (by decide)]; omega)
  rw [Nat.add_sub_cancel, hlen] at hg
  have e2 : Lib.cellsOf (Lib.splitB ⟨#[c]⟩ 0 (Lib.countB s ⟨#[c]⟩) s) (Lib.countB s ⟨#[c]⟩ + 1) = ((Lib.splitB ⟨#[c]⟩ 0 (Lib.countB s ⟨#[c]⟩) s).map Value.string).toArray := by rw [← hlen]; exact Lib.cellsOf_full _
  rw [e2, split_cells, split_len] at hg
  have HG : Hid (Calls Tryz.prog 63 #[.string s, .string ⟨#[c]⟩, .int .i64 0, .int .i64 (-1)] w fun e w' => e = .returned (.slice (some ⟨w.heap.size, 0, none⟩) (spl c (L s)).length (spl c (L s)).length) ∧ w' = w.alloc (.cells ((spl c (L s)).map fun l => Value.string (S l)).toArray 9)) := hg
  clear hg hI hC e2 hlen hle h1 hi9
  generalize (spl c (L s)).length = k at *
  generalize ((spl c (L s)).map fun l => Value.string (S l)).toArray = cs at *
  go_enter Tryz.func54, Tryz.ntmps54
  go_wp2_with (first
    | (go_at_call 63; refine HG.out.mono ?_; rintro e w' ⟨rfl, hw⟩; rw [hw]))
  go_ret
  exact ⟨rfl, rfl⟩
/-- the number of a text, if it is one -/
def numA (l : List UInt8) : Option Int := match Lib.atoiAll l with | .ok v => some v | _ => none
theorem number_ok (s : ByteArray) (v : Int) (w : World) (h : numA (L s) = some v) (hs : s.size ≤ 4294967280) :
    Calls Tryz.prog 40 #[.string s] w fun e w' => e = .returned (.int .i64 v) ∧ Below w.heap.size w w' := by
  have ha : Lib.atoiAll s.data.toList = .ok v := by
    unfold numA at h
    have : L s = s.data.toList := rfl
    rw [this] at h
    split at h
    · rename_i u hu
      injection h with h
      rw [hu, h]
    · cases h
  have HA : Hid (Calls Tryz.prog 56 #[.string s] w fun e w' => e = .returned (.tuple #[.int .i64 v, .nilIface]) ∧ Below w.heap.size w w') := by
    refine (Any.strconv_Atoi_ok Tryz.atoi s (by omega) v ha w).mono ?_
    rintro e w' ⟨rfl, rfl | ⟨t, rfl⟩⟩
    · exact ⟨rfl, Below.refl _ _⟩
    · exact ⟨rfl, Lib.bytesWorld_below _ _ _⟩
  clear ha h
  go_enter Tryz.func40, Tryz.ntmps40
  go_wp2_with (first
    | (go_at_call 56; refine HA.out.mono ?_; rintro e w1 ⟨rfl, hb1⟩))
  go_ret
  exact ⟨rfl, hb1⟩
end Go.Proofs.YtodpljgajjcdoaaGreatDoor

/- Layer 19 of the program: the reader at its box: a line, fixed lines. -/
namespace Go.Proofs.YtodpljgajjcdoaaGreatDoor
set_option maxRecDepth 100000
open Go.RowKit Lg Nl Go.Maps Wf Vd
set_option linter.unusedVariables false
set_option linter.unusedSimpArgs false

/-- a text up to a byte, and behind it -/
def cutO (c : UInt8) : List UInt8 → Option (List UInt8 × List UInt8)
  | [] => none
  | x :: l => if x = c then some ([], l) else (cutO c l).map fun p => (x :: p.1, p.2)
theorem cutO_no (c : UInt8) : ∀ l : List UInt8, c ∉ l → cutO c l = none
  | [], _ => rfl
  | x :: l, h => by
    have h1 : x ≠ c := fun e => h (by rw [e]; exact List.mem_cons_self)
    have h2 := cutO_no c l fun e => h (List.mem_cons_of_mem _ e)
    unfold cutO
    rw [if_neg h1, h2]; rfl
theorem cutO_at (c : UInt8) : ∀ (a b : List UInt8), c ∉ a → cutO c (a ++ c :: b) = some (a, b)
  | [], b, _ => by show (if c = c then _ else _) = _; rw [if_pos rfl]
  | x :: a, b, h => by
    have h1 : x ≠ c := fun e => h (by rw [e]; exact List.mem_cons_self)
    have h2 := cutO_at c a b fun e => h (List.mem_cons_of_mem _ e)
    show (if x = c then _ else (cutO c (a ++ c :: b)).map fun p => (x :: p.1, p.2)) = _
    rw [if_neg h1, h2]; rfl
theorem cutO_inv {c : UInt8} {l a b : List UInt8} (h : cutO c l = some (a, b)) : l = a ++ c :: b ∧ c ∉ a := by
  rcases first_at c l with hc | ⟨a', b', rfl, hc⟩
  · rw [cutO_no c l hc] at h; cases h
  · rw [cutO_at c a' b' hc] at h
    injection h with h
    injection h with h1 h2
    subst h1 h2
    exact ⟨rfl, hc⟩
theorem cutO_none {c : UInt8} {l : List UInt8} (h : cutO c l = none) : c ∉ l := by
  rcases first_at c l with hc | ⟨a', b', rfl, hc⟩
  · exact hc
  · rw [cutO_at c a' b' hc] at h; cases h
theorem cells6 {w : World} {b : Nat} {y0 y1 y2 y3 y4 y5 : Value} {t : TypeId} (h : w.heap[b]? = some (.cells #[y0, y1, y2, y3, y4, y5] t (0, 0))) : w.cell? ⟨b, 0, none⟩ = some y0 ∧ w.cell? ⟨b, 1, none⟩ = some y1 ∧ w.cell? ⟨b, 2, none⟩ = some y2 ∧ w.cell? ⟨b, 3, none⟩ = some y3 ∧ w.cell? ⟨b, 4, none⟩ = some y4 ∧ w.cell? ⟨b, 5, none⟩ = some y5 := by
  refine ⟨?_, ?_, ?_, ?_, ?_, ?_⟩ <;> (rw [Lib.cell_of_heap h]; rfl)
theorem set60 {W : World} {b : Nat} {y0 y1 y2 y3 y4 y5 y : Value} {t : TypeId} (h : W.heap[b]? = some (.cells #[y0, y1, y2, y3, y4, y5] t (0, 0))) : (W.setCell ⟨b, 0, none⟩ y).heap[b]? = some (.cells #[y, y1, y2, y3, y4, y5] t (0, 0)) := by
  simp only [World.setCell]
  rw [Array.getElem?_modify, if_pos rfl, h]; rfl
theorem kx_drewN (b : Nat) (w : World) (n : Nat) : Kx b w (w.drewN n) := ⟨bdn (Below.refl _ _) n, fun _ _ => rfl⟩
theorem Kx.trans {b : Nat} {u v w : World} (h : Kx b u v) (k : Kx b v w) : Kx b u w := ⟨h.low.trans k.low, fun i hi => (k.far i hi).trans (h.far i hi)⟩
/-- what a line tells -/
def RlR (R : Nat) (w : World) (s : ByteArray) (v1 v2 v3 v4 v5 : Value) (e : Ending) (w' : World) : Prop := Kx R w w' ∧ match cutO 10 (L s) with
  | some (t, r) => e = .returned (.string (S t)) ∧ w'.heap[R]? = some (.cells #[.string (S r), v1, v2, v3, v4, v5] 55 (0, 0))
  | none => e = .panicked pnV
theorem rline_ok (R : Nat) (s : ByteArray) (v1 v2 v3 v4 v5 : Value) (t r : List UInt8) (w : World) (h : w.heap[R]? = some (.cells #[.string s, v1, v2, v3, v4, v5] 55 (0, 0))) (hs : s.size ≤ 4294967280) (hc : cutO 10 (L s) = some (t, r)) :
    Calls Tryz.prog 36 #[.pointer (some ⟨R, 0, none⟩)] w fun e w' => e = .returned (.string (S t)) ∧ w'.heap[R]? = some (.cells #[.string (S r), v1, v2, v3, v4, v5] 55 (0, 0)) ∧ Kx R w w' := by
  obtain ⟨h1, h2⟩ := cutO_inv hc
  have HC := hidV (fun W => cut_ok s 10 t r W h1 h2 hs)
  obtain ⟨c0, c1, c2, c3, c4, c5⟩ := cells6 h
  have HH := hidV h
  clear h1 h2 hc hs h c1 c2 c3 c4 c5
  go_enter Tryz.func36, Tryz.ntmps36
  go_wp2_with (first
    | (go_at_call 53; refine (HC.out _).mono ?_; rintro e w1 ⟨rfl, n, rfl⟩; have c9 : (w.drewN n).cell? ⟨R, 0, none⟩ = some (.string s) := c0; have f9 : (w.drewN n).frozen? ⟨R, 0, none⟩ = false := Lib.frozen_of_heap HH.out 0))
  go_ret
  exact ⟨rfl, set60 (W := w.drewN n) HH.out, (kx_drewN R w n).trans (Kx.set R 0 _ _)⟩
theorem rline_no (R : Nat) (s : ByteArray) (v1 v2 v3 v4 v5 : Value) (w : World) (h : w.heap[R]? = some (.cells #[.string s, v1, v2, v3, v4, v5] 55 (0, 0))) (hc : cutO 10 (L s) = none) :
    Calls Tryz.prog 36 #[.pointer (some ⟨R, 0, none⟩)] w fun e w' => e = .panicked pnV ∧ Kx R w w' := by
  have HC := hidV (fun W => cut_no s 10 W (cutO_none hc))
  obtain ⟨c0, c1, c2, c3, c4, c5⟩ := cells6 h
  clear hc h c1 c2 c3 c4 c5
  go_enter Tryz.func36, Tryz.ntmps36
  go_wp2_with (first
    | (go_at_call 53; refine (HC.out _).mono ?_; rintro e w1 ⟨rfl, n, rfl⟩))
  exact ⟨rfl, rfl, kx_drewN R w n⟩
/-- lines that have to stand there -/
def fixM : List (List UInt8) → List UInt8 → Option (List UInt8)
  | [], l => some l
  | t :: ts, l => match cutO 10 l with
    | none => none
    | some (a, b) => if a = t then fixM ts b else none
def RfQ (R : Nat) (w : World) (q : Option (List UInt8)) (v1 v2 v3 v4 v5 : Value) (e : Ending) (w' : World) : Prop := Kx R w w' ∧ match q with
  | some r => e = .returned (.tuple #[]) ∧ w'.heap[R]? = some (.cells #[.string (S r), v1, v2, v3, v4, v5] 55 (0, 0))
  | none => e = .panicked pnV
theorem RfQ.yes {R : Nat} {w w' : World} {q : Option (List UInt8)} {r : List UInt8} {v1 v2 v3 v4 v5 : Value} (hq : q = some r) (hk : Kx R w w') (hh : w'.heap[R]? = some (.cells #[.string (S r), v1, v2, v3, v4, v5] 55 (0, 0))) : RfQ R w q v1 v2 v3 v4 v5 (.returned (.tuple #[])) w' := by
  subst hq; exact ⟨hk, rfl, hh⟩
theorem RfQ.no {R : Nat} {w w' : World} {q : Option (List UInt8)} {v1 v2 v3 v4 v5 : Value} (hq : q = none) (hk : Kx R w w') : RfQ R w q v1 v2 v3 v4 v5 (.panicked pnV) w' := by
  subst hq; exact ⟨hk, rfl⟩
set_option maxHeartbeats 2000000 in
theorem fixed_c (R g : Nat) (ts : List ByteArray) (l : List UInt8) (v1 v2 v3 v4 v5 : Value) (w : World) (h : w.heap[R]? = some (.cells #[.string (S l), v1, v2, v3, v4, v5] 55 (0, 0))) (hl : l.length ≤ 4294967280) (hp : w.heap[g]? = some (.cells (ts.map Value.string).toArray 9 (0, 0))) (hg : g ≠ R) (hn : ts.length ≤ 16) :
    Calls Tryz.prog 35 #[.pointer (some ⟨R, 0, none⟩), .slice (some ⟨g, 0, none⟩) ts.length ts.length] w fun e w' => RfQ R w (fixM (ts.map L) l) v1 v2 v3 v4 v5 e w' := by
  have HH := hidV h
  have HP := hidV hp
  have HG := hidV hg
  have HN := hidV hn
  have HL := hidV hl
  obtain ⟨q, hq⟩ : ∃ q, q = fixM (ts.map L) l := ⟨_, rfl⟩
  rw [← hq]
  have HF := hidV hq
  clear h hp hg hn hl hq
  go_enter Tryz.func35, Tryz.ntmps35
  go_upto_region 1 with fail
  go_loopg [8] ts.length (fun gh s8 wr => ∃ (i : Nat) (m : List UInt8), i ≤ ts.length ∧ gh = ts.length - i ∧ s8 = .int .i64 i ∧ Hid (wr.heap[R]? = some (.cells #[.string (S m), v1, v2, v3, v4, v5] 55 (0, 0))) ∧ Hid (m.length ≤ 4294967280) ∧ Hid (q = fixM ((ts.drop i).map L) m) ∧ Hid (Kx R w wr))
  case atStart => exact ⟨0, l, Nat.zero_le _, rfl, rfl, HH.out, HL.out, HF.out, Kx.refl _ _⟩
  case round =>
    obtain ⟨i, m, hi, rfl, rfl, HM, HMl, HFm, HK⟩ := hrel
    obtain ⟨wx, hwx⟩ : ∃ wx, wx = wr := ⟨_, rfl⟩
    rw [← hwx] at HM HK ⊢
    clear hwx
    by_cases hin : i < ts.length
    · have HP1 : Hid (wx.heap[g]? = some (.cells (ts.map Value.string).toArray 9 (0, 0))) := (HK.out.far g HG.out).trans HP.out
      obtain ⟨s, hse⟩ : ∃ s, s = ts[i]'hin := ⟨_, rfl⟩
      have c0 : wx.cell? ⟨g, i, none⟩ = some (.string s) := by rw [hse]; exact part_at HP1.out i hin
      have lg := hLt HP1.out
      have i0 : (0 : Int) ≤ (i : Int) := by omega
      have i1 : (i : Int) < (ts.length : Int) := by omega
      have HI : Hid (i < ts.length) := hin
      have HD : Hid ((ts.drop i).map L = L s :: (ts.drop (i + 1)).map L) := by show _ = _; rw [List.drop_eq_getElem_cons hin, hse]; rfl
      clear hin hse
      cases hcut : cutO 10 m with
      | none =>
        have hL : cutO 10 (L (S m)) = none := by rw [L_S]; exact hcut
        have HY : Hid (q = none) := by show _ = _; rw [HFm.out, HD.out]; unfold fixM; rw [hcut]
        have HC := hidV (rline_no R (S m) v1 v2 v3 v4 v5 wx HM.out hL)
        clear hL hcut
        go_wp2_with (first
          | (go_at_call 36; refine HC.out.mono ?_; rintro e w2 ⟨rfl, hk2⟩))
        exact ⟨rfl, RfQ.no HY.out (HK.out.trans hk2)⟩
      | some p =>
        obtain ⟨a, b⟩ := p
        have hL : cutO 10 (L (S m)) = some (a, b) := by rw [L_S]; exact hcut
        have HY : Hid (q = if a = L s then fixM ((ts.drop (i + 1)).map L) b else none) := by show _ = _; rw [HFm.out, HD.out]; show (match cutO 10 m with | none => none | some (a, b) => if a = L s then fixM ((ts.drop (i + 1)).map L) b else none) = _; rw [hcut]
        have HBl : Hid (b.length ≤ 4294967280) := by have := (cutO_inv hcut).1; have h := HMl.out; rw [this, List.length_append, List.length_cons] at h; show _ ≤ _; omega
        have HC := hidV (rline_ok R (S m) v1 v2 v3 v4 v5 a b wx HM.out (by rw [size_S]; exact HMl.out) hL)
        clear hL hcut
        by_cases hab : a = L s
        · have hab' : ((S a).toList == s.toList) = true := by rw [beq_iff_eq, toL, toL, L_S]; exact hab
          have HZ : Hid (q = fixM ((ts.drop (i + 1)).map L) b) := by show _ = _; rw [HY.out, if_pos hab]
          clear hab HY
          generalize S a = sa at *
          go_wp2_with (first
            | (go_at_call 36; refine HC.out.mono ?_; rintro e w2 ⟨rfl, hh2, hk2⟩; have HH2 := hidV hh2; have HK2 := hidV hk2; clear hh2 hk2))
          go_roundg (ts.length - (i + 1))
          case measure => have := HI.out; omega
          case rel => exact ⟨i + 1, b, HI.out, rfl, wrap_succ (n := 16) (by have := HI.out; have := HN.out; omega) (by decide), HH2.out, HBl.out, HZ.out, HK.out.trans HK2.out⟩
        · have hab' : ((S a).toList == s.toList) = false := by rw [beq_eq_false_iff_ne, toL, toL, L_S]; exact hab
          have HZ : Hid (q = none) := by show _ = _; rw [HY.out, if_neg hab]
          clear hab HY
          generalize S a = sa at *
          go_wp2_with (first
            | (go_at_call 36; refine HC.out.mono ?_; rintro e w2 ⟨rfl, hh2, hk2⟩; have HK2 := hidV hk2; clear hh2 hk2))
          exact ⟨rfl, RfQ.no HZ.out (HK.out.trans HK2.out)⟩
    · have hie : i = ts.length := by omega
      have HZ : Hid (q = some m) := by show _ = _; rw [HFm.out, hie, List.drop_length]; rfl
      have i5 : ¬ (i : Int) < (ts.length : Int) := by omega
      clear hin hie
      go_wp2_with fail
      go_end0
      exact RfQ.yes HZ.out HK.out HM.out
end Go.Proofs.YtodpljgajjcdoaaGreatDoor

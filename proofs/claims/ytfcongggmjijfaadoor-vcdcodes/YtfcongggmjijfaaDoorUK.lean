/- Layer 19 of the program: Split at one byte; numbers. -/
import Derived.Test.YtfcongggmjijfaaDoorUJ
import Derived.Lib.SplitLaws
import Derived.Lib.AtoiErrMem
namespace Go.Proofs.YtfcongggmjijfaaDoor
set_option maxRecDepth 100000
open Go.RowKit Lg Nl Go.Maps Wf Vd
set_option linter.unusedVariables false
set_option linter.unusedSimpArgs false

/-- a text, between bytes -/
def spl (c : UInt8) : List UInt8 → List (List UInt8)
  | [] => [[]]
  | x :: l => if x = c then [] :: spl c l else match spl c l with | [] => [[x]] | h :: t => (x :: h) :: t
theorem spl_no (c : UInt8) : ∀ l : List UInt8, c ∉ l → spl c l = [l]
  | [], _ => rfl
  | x :: l, h => by
    have h1 : x ≠ c := fun e => h (by rw [e]; exact List.mem_cons_self)
    have h2 := spl_no c l fun e => h (List.mem_cons_of_mem _ e)
    unfold spl
    rw [if_neg h1, h2]
theorem spl_at (c : UInt8) : ∀ (a b : List UInt8), c ∉ a → spl c (a ++ c :: b) = a :: spl c b
  | [], b, _ => by show (if c = c then _ else _) = _; rw [if_pos rfl]
  | x :: a, b, h => by
    have h1 : x ≠ c := fun e => h (by rw [e]; exact List.mem_cons_self)
    have h2 := spl_at c a b fun e => h (List.mem_cons_of_mem _ e)
    show (if x = c then _ else match spl c (a ++ c :: b) with | [] => [[x]] | h :: t => (x :: h) :: t) = _
    rw [if_neg h1, h2]
theorem first_at (c : UInt8) (l : List UInt8) : c ∉ l ∨ ∃ a b, l = a ++ c :: b ∧ c ∉ a := by
  induction l with
  | nil => exact Or.inl (by simp)
  | cons x l ih =>
    by_cases e : x = c
    · exact Or.inr ⟨[], l, by rw [e]; rfl, by simp⟩
    · rcases ih with h | ⟨a, b, h1, h2⟩
      · exact Or.inl (by intro h3; rcases List.mem_cons.1 h3 with h4 | h4; exact e h4.symm; exact h h4)
      · exact Or.inr ⟨x :: a, b, by rw [h1]; rfl, by intro h3; rcases List.mem_cons.1 h3 with h4 | h4; exact e h4.symm; exact h2 h4⟩
theorem splitK_spl (c : UInt8) : ∀ (k : Nat) (l : List UInt8), l.count c ≤ k → Lib.splitK [c] 0 k l = spl c l
  | 0, l, h => by
    have hc : c ∉ l := fun e => by have := List.count_pos_iff.2 e; omega
    rw [spl_no c l hc]; rfl
  | k + 1, l, h => by
    unfold Lib.splitK
    rcases first_at c l with hc | ⟨a, b, rfl, hc⟩
    · rw [Lib.index_one, ib_no c l hc, if_pos (by decide), spl_no c l hc]
    · rw [Lib.index_one, ib_at c a b hc, if_neg (by rw [beq_iff_eq]; omega), spl_at c a b hc]
      have e1 : ((a.length : Int)).toNat + 0 = a.length := by omega
      have e2 : ((a.length : Int)).toNat + [c].length = a.length + 1 := by simp
      have e3 : (a ++ c :: b).drop (a.length + 1) = b := by rw [← List.drop_drop, List.drop_left]; rfl
      have hb : b.count c ≤ k := by rw [List.count_append, List.count_cons_self] at h; omega
      rw [e1, e2, e3, List.take_left, splitK_spl c k b hb]
theorem split_is (s : ByteArray) (c : UInt8) : (Lib.splitB ⟨#[c]⟩ 0 (Lib.countB s ⟨#[c]⟩) s).map L = spl c (L s) := by
  have h := Lib.splitB_data ⟨#[c]⟩ 0 (Lib.countB s ⟨#[c]⟩) s
  have h2 : (Lib.splitB ⟨#[c]⟩ 0 (Lib.countB s ⟨#[c]⟩) s).map L = Lib.splitK [c] 0 (Lib.countB s ⟨#[c]⟩) (L s) := h
  rw [h2, splitK_spl c _ _ (by show (L s).count c ≤ Lib.count (L s) [c]; rw [Lib.count_one]; exact Nat.le_refl _)]
theorem split_cells (s : ByteArray) (c : UInt8) : ((Lib.splitB ⟨#[c]⟩ 0 (Lib.countB s ⟨#[c]⟩) s).map Value.string).toArray = ((spl c (L s)).map fun l => Value.string (S l)).toArray := by
  rw [← split_is, List.map_map]
  congr 1
theorem split_len (s : ByteArray) (c : UInt8) : Lib.countB s ⟨#[c]⟩ + 1 = (spl c (L s)).length := by
  rw [← split_is, List.length_map, Lib.splitB_all ⟨#[c]⟩ (by show 1 ≤ 1; decide) 0 _ s rfl]
set_option maxHeartbeats 1000000 in
theorem split_c (s : ByteArray) (c : UInt8) (w : World) (hs : s.size ≤ 4294967280) :
    Calls Tryd.prog 54 #[.string s, .string ⟨#[c]⟩] w fun e w' => e = .returned (.slice (some ⟨w.heap.size, 0, none⟩) (spl c (L s)).length (spl c (L s)).length) ∧ w' = w.alloc (.cells ((spl c (L s)).map fun l => Value.string (S l)).toArray 9) := by
  have hi9 : (Tryd.prog.info? 9).map (fun i => (i.zero, i.size, i.bytes)) = some (some (.string ByteArray.empty), 1, 16) := by kernel_rfl
  have h1 : 1 ≤ (⟨#[c]⟩ : ByteArray).size := by show 1 ≤ 1; decide
  have hle := Lib.countB_le ⟨#[c]⟩ h1 s.size s (Nat.le_refl _)
  have hlen := Lib.splitB_all ⟨#[c]⟩ h1 0 _ s rfl
  have hC : Calls Tryd.prog 73 #[.string s, .string ⟨#[c]⟩] w fun e w' => e = .returned (.int .i64 (Lib.countB s ⟨#[c]⟩)) ∧ w' = w := by
    refine (Any.strings_Count_one Tryd.count1 s c w).mono fun e w' ⟨he, hw⟩ => ⟨?_, hw⟩
    rw [he]
    show _ = Ending.returned (Value.int .i64 ((Lib.count s.data.toList [c] : Nat) : Int))
    rw [Lib.count_one]
    rfl
  have hI : ∀ (x : ByteArray) (cs : Array Value), x.size ≤ s.size → Calls Tryd.prog 74 #[.string x, .string ⟨#[c]⟩] (w.alloc (.cells cs 9)) fun e w' => e = .returned (.int .i64 (Lib.indexB x ⟨#[c]⟩)) ∧ w' = w.alloc (.cells cs 9) := by
    intro x cs _
    refine (Any.strings_Index_one Tryd.indexS x c _).mono fun e w' ⟨he, hw⟩ => ⟨?_, hw⟩
    rw [he]
    show _ = Ending.returned (Value.int .i64 (Lib.index x.data.toList [c]))
    rw [Lib.index_one]
  have hg := Any.strings_genSplit_core Tryd.genSplit hi9 s ⟨#[c]⟩ 0 (-1) (Lib.countB s ⟨#[c]⟩ + 1) w (by omega) h1 (Nat.zero_le _) hI hC (by decide) (by decide) (by rw [if_pos (by decide)]; omega)
  rw [Nat.add_sub_cancel, hlen] at hg
  have e2 : Lib.cellsOf (Lib.splitB ⟨#[c]⟩ 0 (Lib.countB s ⟨#[c]⟩) s) (Lib.countB s ⟨#[c]⟩ + 1) = ((Lib.splitB ⟨#[c]⟩ 0 (Lib.countB s ⟨#[c]⟩) s).map Value.string).toArray := by rw [← hlen]; exact Lib.cellsOf_full _
  rw [e2, split_cells, split_len] at hg
  have HG : Hid (Calls Tryd.prog 61 #[.string s, .string ⟨#[c]⟩, .int .i64 0, .int .i64 (-1)] w fun e w' => e = .returned (.slice (some ⟨w.heap.size, 0, none⟩) (spl c (L s)).length (spl c (L s)).length) ∧ w' = w.alloc (.cells ((spl c (L s)).map fun l => Value.string (S l)).toArray 9)) := hg
  clear hg hI hC e2 hlen hle h1 hi9
  generalize (spl c (L s)).length = k at *
  generalize ((spl c (L s)).map fun l => Value.string (S l)).toArray = cs at *
  go_enter Tryd.func54, Tryd.ntmps54
  go_wp2_with (first
    | (go_at_call 61; refine HG.out.mono ?_; rintro e w' ⟨rfl, hw⟩; rw [hw]))
  go_ret
  exact ⟨rfl, rfl⟩
/-- the number of a text, if it is one -/
def numA (l : List UInt8) : Option Int := match Lib.atoiAll l with | .ok v => some v | _ => none
theorem number_ok (s : ByteArray) (v : Int) (w : World) (h : numA (L s) = some v) (hs : s.size ≤ 4294967280) :
    Calls Tryd.prog 47 #[.string s] w fun e w' => e = .returned (.int .i64 v) ∧ Below w.heap.size w w' := by
  have ha : Lib.atoiAll s.data.toList = .ok v := by
    unfold numA at h
    have : L s = s.data.toList := rfl
    rw [this] at h
    cases e : Lib.atoiAll s.data.toList with
    | ok u => rw [e] at h; injection h with h; rw [h]
    | «syntax» => rw [e] at h; cases h
    | range => rw [e] at h; cases h
  have HA : Hid (Calls Tryd.prog 56 #[.string s] w fun e w' => e = .returned (.tuple #[.int .i64 v, .nilIface]) ∧ Below w.heap.size w w') := by
    refine (Any.strconv_Atoi_ok Tryd.atoi s (by omega) v ha w).mono ?_
    rintro e w' ⟨rfl, rfl | ⟨t, rfl⟩⟩
    · exact ⟨rfl, Below.refl _ _⟩
    · exact ⟨rfl, Lib.bytesWorld_below _ _ _⟩
  clear ha h
  go_enter Tryd.func47, Tryd.ntmps47
  go_wp2_with (first
    | (go_at_call 56; refine HA.out.mono ?_; rintro e w1 ⟨rfl, hb1⟩))
  go_ret
  exact ⟨rfl, hb1⟩
end Go.Proofs.YtfcongggmjijfaaDoor

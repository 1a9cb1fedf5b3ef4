/- The reference of layer 6: a name's number. -/
import Derived.Test.YtbpjgfemopakcaaCQ
namespace Go.Proofs.Ytbpjgfemopakcaa
open Go.RowKit Lg Go.Maps
set_option linter.unusedVariables false
set_option linter.unusedSimpArgs false

/-- the number that a name was given last -/
def lkp (ps : List (ByteArray × Int)) (y : List UInt8) : Option Int := ps.foldl (fun o p => if y = L p.1 then some p.2 else o) none
theorem lkp_snoc (ps : List (ByteArray × Int)) (x : ByteArray) (k : Int) : lkp (ps ++ [(x, k)]) = fPut (lkp ps) (L x) k := by
  funext y; unfold lkp fPut; rw [List.foldl_append]; rfl
theorem lkp_take {ps : List (ByteArray × Int)} {j : Nat} (hj : j < ps.length) (y : List UInt8) : lkp (ps.take (j + 1)) y = if y = L ps[j].1 then some ps[j].2 else lkp (ps.take j) y := by
  rw [List.take_succ_eq_append_getElem hj]
  unfold lkp; rw [List.foldl_append]; rfl
theorem nm_at {ps : List (ByteArray × Int)} {j : Nat} (hj : j < ps.length) : (nmCs ps)[j]? = some (.string ps[j].1) := by unfold nmCs; rw [List.getElem?_map, List.getElem?_eq_getElem hj]; rfl
theorem ni_at {ps : List (ByteArray × Int)} {j : Nat} (hj : j < ps.length) : (niCs ps)[j]? = some (.int .i64 ps[j].2) := by unfold niCs; rw [List.getElem?_map, List.getElem?_eq_getElem hj]; rfl
set_option maxHeartbeats 1000000 in
theorem rGet0 (x : ByteArray) (w : World) : Calls Try.prog 13 #[.agg #[.slice none 0 0, .slice none 0 0], .string x] w fun e w' => e = .returned (.tuple #[.int .i64 0, .bool false]) ∧ Below w.heap.size w w' := by
  go_enter Try.func13, Try.ntmps13
  go_wp2
  go_loop [6] (fun i => i = .int .i64 (-1)) (fun i => 0)
  case atStart => rfl
  case round =>
    subst hrel
    go_wp2
    go_ret2
    exact ⟨rfl, belA (Below.refl _ _) _⟩
set_option maxRecDepth 100000 in
set_option maxHeartbeats 2000000 in
theorem rGet1 (ps : List (ByteArray × Int)) (B gN gI cN cI : Nat) (x : ByteArray) (w : World) (hl : ps.length < 1600000) (hN : w.ownsRow B 9 1 (.slice (some ⟨gN, 0, none⟩) ps.length cN) ps.length (nmCs ps)) (hI : w.ownsRow B 3 1 (.slice (some ⟨gI, 0, none⟩) ps.length cI) ps.length (niCs ps)) :
    Calls Try.prog 13 #[.agg #[.slice (some ⟨gN, 0, none⟩) ps.length cN, .slice (some ⟨gI, 0, none⟩) ps.length cI], .string x] w fun e w' => e = .returned (.tuple #[.int .i64 (getA (lkp ps (L x))), .bool (lkp ps (L x)).isSome]) ∧ Below w.heap.size w w' := by
  have cellN := World.ownsRow.cells hN (g := gN) rfl
  have cellI := World.ownsRow.cells hI (g := gI) rfl
  have lN := (World.ownsRow.lt hN gN rfl).2
  have lI := (World.ownsRow.lt hI gI rfl).2
  have ea : ∀ g j, ((⟨g, 0, none⟩ : Addr).add j) = ⟨g, j, none⟩ := fun g j => by simp [Addr.add]; intro h; exact h.symm
  have CN : Hid (∀ j (hj : j < ps.length), w.cell? ⟨gN, j, none⟩ = some (.string ps[j].1)) := fun j hj => by rw [← ea]; exact cellN j _ (nm_at hj)
  have CI : Hid (∀ j (hj : j < ps.length), w.cell? ⟨gI, j, none⟩ = some (.int .i64 ps[j].2)) := fun j hj => by rw [← ea]; exact cellI j _ (ni_at hj)
  clear cellN cellI ea hN hI
  obtain ⟨n, hn⟩ : ∃ n, n = ps.length := ⟨_, rfl⟩
  have HLN : Hid (n = ps.length) := hn
  rw [← hn] at hl ⊢
  clear hn
  go_enter Try.func13, Try.ntmps13
  go_wp2
  go_loop [6] (fun i => ∃ j : Nat, j ≤ n ∧ i = .int .i64 ((j : Int) - 1) ∧ Hid (lkp (ps.take j) (L x) = lkp ps (L x))) (fun i => ((intOf i) + 1).toNat)
  case atStart => exact ⟨n, Nat.le_refl _, rfl, by show _ = _; rw [HLN.out, List.take_length]⟩
  case round =>
    obtain ⟨j, hj, rfl, HL⟩ := hrel
    cases j with
    | zero =>
      have e0 : Hid (lkp ps (L x) = none) := HL.out.symm
      clear HL
      go_wp2
      go_ret2
      rw [e0.out]
      exact ⟨rfl, belA (Below.refl _ _) _⟩
    | succ j =>
      have hj2 : j < ps.length := by have := HLN.out; omega
      have c1 := CN.out j hj2
      have c2 := CI.out j hj2
      have hjI : ((j + 1 : Nat) : Int) - 1 = (j : Int) := by omega
      rw [hjI]
      have hjn : (j : Int) < (n : Int) := by omega
      have lt : j < n := by omega
      have hne0 : gN ≠ w.heap.size := by omega
      have hne1 : gI ≠ w.heap.size := by omega
      obtain ⟨z, hz⟩ : ∃ z, z = ps[j].1 := ⟨_, rfl⟩
      obtain ⟨y, hy⟩ : ∃ y, y = ps[j].2 := ⟨_, rfl⟩
      rw [← hz] at c1
      rw [← hy] at c2
      have HT : Hid (lkp ps (L x) = if L x = L z then some y else lkp (ps.take j) (L x)) := by show _ = _; rw [← HL.out, lkp_take hj2, ← hz, ← hy]
      clear HL hz hy
      by_cases hxz : z = x
      · have HT2 : Hid (lkp ps (L x) = some y) := by show _ = _; rw [HT.out, if_pos (by rw [hxz])]
        clear HT
        subst hxz
        go_wp2
        go_ret2
        rw [HT2.out]
        exact ⟨rfl, belA (Below.refl _ _) _⟩
      · have hzz : L x ≠ L z := fun e => hxz (by rw [← S_L z, ← S_L x, e])
        have HT2 : Hid (lkp (ps.take j) (L x) = lkp ps (L x)) := by show _ = _; rw [HT.out, if_neg hzz]
        clear HT
        have hq : (z.toList == x.toList) = false := by rw [toL, toL]; simpa using fun e => hzz e.symm
        go_wp2
        exact ⟨⟨j, by omega, rfl, HT2.out⟩, by simp [intOf]⟩
/-- a name's number in the reference's scope -/
theorem rGet_c {B : Nat} {vN vI : Value} {ps : List (ByteArray × Int)} {w : World} (h : RfAt B vN vI ps w) (hl : ps.length < 1600000) (x : ByteArray) :
    Calls Try.prog 13 #[.agg #[vN, vI], .string x] w fun e w' => e = .returned (.tuple #[.int .i64 (getA (lkp ps (L x))), .bool (lkp ps (L x)).isSome]) ∧ Below w.heap.size w w' := by
  rcases h with ⟨rfl, rfl, rfl⟩ | ⟨h1, h2, h3⟩
  · exact rGet0 x w
  · rcases h2.2 with ⟨_, h4⟩ | ⟨g, cap, cur, rfl, _⟩
    · exact absurd (List.length_eq_zero_iff.1 h4) h1
    · rcases h3.2 with ⟨_, h4⟩ | ⟨g', cap', cur', rfl, _⟩
      · exact absurd (List.length_eq_zero_iff.1 h4) h1
      · exact rGet1 ps B g g' cap cap' x w hl h2 h3
end Go.Proofs.Ytbpjgfemopakcaa

/- Layer 2, the reference: tokens, and reasons, held against one another. -/
import Derived.Test.YteohmemifogdlaaGX
namespace Go.Proofs.Yteohmemifogdlaa
open Go.RowKit Lg
set_option linter.unusedVariables false
set_option linter.unusedSimpArgs false

set_option maxHeartbeats 1000000 in
theorem same_0 (w : World) : Calls Try.prog 10 #[.slice none 0 0, .slice none 0 0] w fun e w' => e = .returned (.bool true) ∧ Below w.heap.size w w' := by
  go_enter Try.func10, Try.ntmps10
  go_wp2
  go_loop [5] (fun iv => iv = .int .i64 0) (fun _ => 0)
  case atStart => rfl
  case round =>
    subst hrel
    go_wp2
    go_ret
    exact ⟨rfl, Below.refl _ _⟩
set_option maxHeartbeats 2000000 in
theorem same_t (l : List Tok) (B1 B2 g1 c1 g2 c2 : Nat) (w : World) (h1 : Lie w B1 g1 c1 l) (h2 : Lie w B2 g2 c2 l) (hl : l.length ≤ 1000000) :
    Calls Try.prog 10 #[.slice (some ⟨g1, 0, none⟩) l.length c1, .slice (some ⟨g2, 0, none⟩) l.length c2] w fun e w' => e = .returned (.bool true) ∧ Below w.heap.size w w' := by
  obtain ⟨n, hn⟩ : ∃ n, l.length = n := ⟨_, rfl⟩
  rw [hn] at hl ⊢
  have HN : Hid _ := hn
  clear hn
  go_enter Try.func10, Try.ntmps10
  go_wp2
  go_loopw [5] (fun iv wr => ∃ i : Nat, i ≤ n ∧ iv = .int .i64 i ∧ Hid (Lie wr B1 g1 c1 l) ∧ Hid (Lie wr B2 g2 c2 l) ∧ Hid (Below w.heap.size w wr)) (fun iv _ => n - (intOf iv).toNat)
  case atStart => exact ⟨0, Nat.zero_le _, rfl, h1, h2, Below.refl _ _⟩
  case round =>
    obtain ⟨i, hi, rfl, H1, H2, HB⟩ := hrel
    by_cases hlt : i < n
    · have hlt2 : i < l.length := by rw [HN.out]; exact hlt
      obtain ⟨⟨k, x, p⟩, e⟩ : ∃ t : Tok, l[i]? = some t := ⟨l[i], List.getElem?_eq_getElem hlt2⟩
      obtain ⟨q0, q1, q2⟩ := H1.out.get e
      obtain ⟨r0, r1, r2⟩ := H2.out.get e
      obtain ⟨sx, hsx⟩ : ∃ sx, sx = S x := ⟨_, rfl⟩
      replace q0 : wr.cell? ⟨g1, i * 3, none⟩ = some (.int .i64 k) := q0
      replace q1 : wr.cell? ⟨g1, i * 3 + 1, none⟩ = some (.string sx) := by rw [hsx]; exact q1
      replace q2 : wr.cell? ⟨g1, i * 3 + 2, none⟩ = some (.int .i64 p) := q2
      replace r0 : wr.cell? ⟨g2, i * 3, none⟩ = some (.int .i64 k) := r0
      replace r1 : wr.cell? ⟨g2, i * 3 + 1, none⟩ = some (.string sx) := by rw [hsx]; exact r1
      replace r2 : wr.cell? ⟨g2, i * 3 + 2, none⟩ = some (.int .i64 p) := r2
      have hltI : (i : Int) < (n : Int) := by omega
      clear e hsx
      go_wp2
      go_region
      all_goals go_wp2
      all_goals
        go_roundw
        case rel => exact ⟨i + 1, by omega, by go_num, H1.out.keep (belD (w := wr)), H2.out.keep (belD (w := wr)), HB.out.drew⟩
        case measure => simp [intOf]; omega
    · go_wp2
      go_ret
      exact ⟨rfl, HB.out⟩

end Go.Proofs.Yteohmemifogdlaa

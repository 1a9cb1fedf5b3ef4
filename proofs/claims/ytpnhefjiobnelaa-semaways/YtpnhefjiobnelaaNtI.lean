/- Layer 7: what must come, whatever the arguments are. -/
import Derived.Test.YtpnhefjiobnelaaNtF
import Derived.Test.YtpnhefjiobnelaaNtG
namespace Go.Proofs.Ytpnhefjiobnelaa
open Go.RowKit Lg Rp Go.Maps
set_option linter.unusedVariables false
set_option linter.unusedSimpArgs false

theorem Xa.ofD {w : World} {B : Nat} {x : List Dc} {ao : Option Addr} {cp : Nat} (h : DAt w (Ge B) [.s 1 x] [.slice ao 1 cp]) : ∃ g vs, ao = some ⟨g, 0, none⟩ ∧ 1 ≤ cp ∧ Xa w w.heap.size g 0 x vs := by
  cases h with
  | s hN hg hc hu hk _ => exact ⟨_, _, rfl, hc, ⟨fun j u hj => by rw [Nat.zero_add]; exact hu j u hj, hg, hg, hk.mono fun i hi _ => hi⟩⟩
/-- what Check comes to: no reason, or this one -/
def CkP (want : Option (Int × Int)) (w : World) (e : Ending) (w' : World) : Prop := match want with
  | none => e = .returned (.slice none 0 0) ∧ Below w.heap.size w w'
  | some q => ∃ gd, e = .returned (.slice (some ⟨gd, 0, none⟩) 1 1) ∧ w'.cell? ⟨gd, 0, none⟩ = some (.int .i64 q.1) ∧ w'.cell? ⟨gd, 1, none⟩ = some (.int .i64 q.2) ∧ gd < w'.heap.size ∧ Below w.heap.size w w'
theorem cOf {AL : ALt} (HAL : ∀ cb mb, AlC AL cb mb) {s : ByteArray} {F : Nat} {want : Option (Int × Int)} (h : ckG AL (L s) F want = true) (w : World) :
    Calls Try.prog 6 #[.string s] w fun e w' => ∃ g cp, e = .returned (.slice (some ⟨g, 0, none⟩) 1 cp) ∧ Below w.heap.size w w' ∧ Hid (Calls Try.prog 5 #[.slice (some ⟨g, 0, none⟩) 1 cp] w' fun e w'' => CkP want w' e w'') := by
  obtain ⟨l, x, k', r, hl, HL, hm, h6, hlen, h0, hlast, hks, hck, hln, hr⟩ := ckG_ok h
  have hsz : s.size ≤ maxLen := by
    have e : s.size = (L s).length := (len_L s).symm
    rw [e]; unfold maxLen; omega
  refine (rOf s w hsz hl HL hm h6 hlen h0 hlast hks).mono fun e w' ⟨⟨ao, cp, h1, hd⟩, hb⟩ => ?_
  obtain ⟨g, vs, rfl, hcp, hX⟩ := Xa.ofD hd
  refine ⟨g, cp, h1, hb, (sCheck (HAL _ _) hck hX).mono fun e w'' hc => ?_⟩
  cases r with
  | inr a =>
    simp only at hr
    subst hr
    exact hc
  | inl q =>
    obtain ⟨q1, q2⟩ := q
    simp only at hr
    subst hr
    obtain ⟨⟨v, rfl, gd, rfl, _, hh⟩, hb2⟩ := hc
    exact ⟨gd, rfl, by rw [Lib.cell_of_heap hh]; rfl, by rw [Lib.cell_of_heap hh]; rfl, heap_lt hh, hb2⟩
set_option maxRecDepth 100000 in
set_option maxHeartbeats 8000000 in
theorem awake7 (w : World) : Calls Try.prog 7 #[] w fun e w' => e = .returned (.bool true) ∧ Below w.heap.size w w' := by
  have HA : ∀ w : World, Calls Try.prog 6 #[.string ⟨([109, 111, 100, 117, 108, 101, 32, 109, 40, 105, 110, 112, 117, 116, 32, 97, 44, 32, 111, 117, 116, 112, 117, 116, 32, 121, 41, 59, 32, 97, 115, 115, 105].append [103, 110, 32, 121, 32, 61, 32, 97, 59, 32, 97, 115, 115, 105, 103, 110, 32, 121, 32, 61, 32, 97, 59, 32, 101, 110, 100, 109, 111, 100, 117, 108, 101]).toArray⟩] w fun e w' => ∃ g cp, e = .returned (.slice (some ⟨g, 0, none⟩) 1 cp) ∧ Below w.heap.size w w' ∧ Hid (Calls Try.prog 5 #[.slice (some ⟨g, 0, none⟩) 1 cp] w' fun e w'' => CkP (some (43, 73)) w' e w'') := fun w => cOf (fun _ _ => sAlways) awAe w
  have HB : ∀ w : World, Calls Try.prog 6 #[.string ⟨([109, 111, 100, 117, 108, 101, 32, 109, 40, 105, 110, 112, 117, 116, 32, 97, 44, 32, 111, 117, 116, 112, 117, 116, 32, 114, 101, 103, 32, 121, 41, 59, 32, 97].append [108, 119, 97, 121, 115, 32, 64, 40, 42, 41, 32, 105, 102, 32, 40, 97, 41, 32, 121, 32, 61, 32, 49, 59, 32, 101, 110, 100, 109, 111, 100, 117, 108, 101]).toArray⟩] w fun e w' => ∃ g cp, e = .returned (.slice (some ⟨g, 0, none⟩) 1 cp) ∧ Below w.heap.size w w' ∧ Hid (Calls Try.prog 5 #[.slice (some ⟨g, 0, none⟩) 1 cp] w' fun e w'' => CkP (some (33, 75)) w' e w'') := fun w => cOf (fun _ _ => sAlways) awBe w
  have HC : ∀ w : World, Calls Try.prog 6 #[.string ⟨#[109, 111, 100, 117, 108, 101, 32, 109, 40, 105, 110, 112, 117, 116, 32, 97, 44, 32, 111, 117, 116, 112, 117, 116, 32, 121, 41, 59, 32, 97, 115, 115, 105, 103, 110, 32, 121, 32, 61, 32, 97, 59, 32, 101, 110, 100, 109, 111, 100, 117, 108, 101]⟩] w fun e w' => ∃ g cp, e = .returned (.slice (some ⟨g, 0, none⟩) 1 cp) ∧ Below w.heap.size w w' ∧ Hid (Calls Try.prog 5 #[.slice (some ⟨g, 0, none⟩) 1 cp] w' fun e w'' => CkP none w' e w'') := fun w => cOf (fun _ _ => sAlways) awCe w
  go_enter Try.func7, Try.ntmps7
  go_wp2_with (first
    | (go_at_call 6; have hx := hb4; refine (HC _).mono ?_; rintro e w5 ⟨g5, cp5, rfl, hb5, HC5⟩)
    | (go_at_call 6; have hx := hb2; refine (HB _).mono ?_; rintro e w3 ⟨g3, cp3, rfl, hb3, HC3⟩)
    | (go_at_call 6; refine (HA _).mono ?_; rintro e w1 ⟨g1, cp1, rfl, hb1, HC1⟩)
    | (go_at_call 5; have hx := hb5; refine HC5.out.mono ?_; rintro e w6 ⟨rfl, hb6⟩; have b6 := bel (bel (bel hb3 hb4) hb5) hb6; have d0 : w6.cell? ⟨gd2, 0, none⟩ = some (.int .i64 43) := (b6.cell (p := ⟨gd2, 0, none⟩) dl2).trans c20; have d1 : w6.cell? ⟨gd2, 1, none⟩ = some (.int .i64 73) := (b6.cell (p := ⟨gd2, 1, none⟩) dl2).trans c21; have dl := Nat.lt_of_lt_of_le dl2 b6.size; have b7 := bel hb5 hb6; have e1 : w6.cell? ⟨gd4, 1, none⟩ = some (.int .i64 75) := (b7.cell (p := ⟨gd4, 1, none⟩) dl4).trans c41; have el := Nat.lt_of_lt_of_le dl4 b7.size)
    | (go_at_call 5; have hx := hb3; refine HC3.out.mono ?_; rintro e w4 ⟨gd4, rfl, c40, c41, dl4, hb4⟩)
    | (go_at_call 5; refine HC1.out.mono ?_; rintro e w2 ⟨gd2, rfl, c20, c21, dl2, hb2⟩))
  go_ret
  exact ⟨rfl, bel (bel (bel hb1 hb2) (bel hb3 hb4)) (bel hb5 hb6)⟩
end Go.Proofs.Ytpnhefjiobnelaa

/- Layer 19: VcdWrites, walked over what the program's functions tell. -/
import Derived.Test.YtfcongggmjijfaaGreatDoorDJ
namespace Go.Proofs.YtfcongggmjijfaaGreatDoor
set_option maxRecDepth 100000
open Go.RowKit Lg Nl Go.Maps Wf Vd
set_option linter.unusedVariables false
set_option linter.unusedSimpArgs false

/-- a waveform that is handed in, of the second form's bulk -/
structure Wd (w : World) (vn vw vf vl : Value) (x : Wv) : Prop where
  a : WvAt w vn vw vf vl x
  z : Sz x
  b : Bd x
  l : x.li.length ≤ 100000000
theorem Wd.below {w w' : World} {vn vw vf vl : Value} {x : Wv} (h : Wd w vn vw vf vl x) (hb : Below w.heap.size w w') : Wd w' vn vw vf vl x := ⟨h.a.below hb, h.z, h.b, h.l⟩
theorem Wd.write {w : World} {vn vw vf vl : Value} {x : Wv} {T : ByteArray} {o : Int} (P : PD) (h : Wd w vn vw vf vl x) (hp : PowT w) (hT : T = S (wrT x)) (ho : o = wrE x) : Calls Tryz.prog 6 #[.agg #[vn, vw, vf, vl]] w fun e w' => e = .returned (.tuple #[.string T, .int .i64 o]) ∧ Below w.heap.size w w' := by
  rw [hT, ho]; exact P.wr x vn vw vf vl w h.a h.z h.b h.l hp
theorem Wd.rwrite {w : World} {vn vw vf vl : Value} {x : Wv} {T : ByteArray} {o : Int} (h : Wd w vn vw vf vl x) (hp : PowT w) (hT : T = S (wrT x)) (ho : o = wrE x) : Calls Tryz.prog 7 #[.agg #[vn, vw, vf, vl]] w fun e w' => e = .returned (.tuple #[.string T, .int .i64 o]) ∧ Below w.heap.size w w' := by
  rw [hT, ho]; exact rWrite_c x vn vw vf vl w h.a h.z h.l hp
set_option maxHeartbeats 800000 in
set_option maxRecDepth 1000000 in
theorem VcdWrites_c (P : PD) (x : Wv) (vn vw vf vl : Value) (w : World) (hx : Wd w vn vw vf vl x) (hp : PowT w) : Calls Tryz.prog 3 #[.agg #[vn, vw, vf, vl]] w fun e w' => e = .returned (.bool true) ∧ Below w.heap.size w w' := by
  have HP : Hid PD := P
  have HA : Hid (Wd w vn vw vf vl x) := hx
  obtain ⟨T, hT⟩ : ∃ T, T = S (wrT x) := ⟨_, rfl⟩
  obtain ⟨o, ho⟩ : ∃ o, o = wrE x := ⟨_, rfl⟩
  have HT : Hid (T = S (wrT x)) := hT
  have HO : Hid (o = wrE x) := ho
  clear P hx hT ho
  obtain ⟨W0, hW0⟩ : ∃ W0, W0 = w.alloc (.cells #[vn, vw, vf, vl] 26) := ⟨_, rfl⟩
  have HB0 : Hid (Below w.heap.size w W0) := by rw [hW0]; exact belA (Below.refl _ _) _
  have HX0 : Hid (W0.heap[w.heap.size]? = some (.cells #[vn, vw, vf, vl] 26 (0, 0))) := by rw [hW0]; exact alAt rfl
  have HA0 : Hid (Wd W0 vn vw vf vl x) := HA.out.below HB0.out
  have HP0 : Hid (PowT W0) := hp.bel HB0.out
  clear hp
  go_enter Tryz.func3, Tryz.ntmps3
  go_upto_region 1 with fail
  rw [← hW0]
  clear hW0 HA
  obtain ⟨b0, b1, b2, b3⟩ := cells4 HX0.out
  have lb := hLt HX0.out
  obtain ⟨E, hE⟩ : ∃ E, E = w.heap.size := ⟨_, rfl⟩
  rw [← hE] at HX0 b0 b1 b2 b3 lb
  rw [show (Value.pointer (some ⟨w.heap.size, 0, none⟩)) = Value.pointer (some ⟨E, 0, none⟩) by rw [hE]]
  clear hE
  go_upto_region 2 with (first
    | (go_at_call 6; refine (HA0.out.write HP.out HP0.out HT.out HO.out).mono ?_; rintro e w1 ⟨rfl, hb1⟩))
  have HB1 : Hid (Below W0.heap.size W0 w1) := hb1
  clear hb1 b0 b1 b2 b3
  obtain ⟨b0, b1, b2, b3⟩ := cells4 ((HB1.out.block E lb).trans HX0.out)
  go_upto_region 3 with (first
    | (go_at_call 7; refine ((HA0.out.below HB1.out).rwrite (HP0.out.bel HB1.out) HT.out HO.out).mono ?_; rintro e w2 ⟨rfl, hb2⟩))
  have HB2 : Hid (Below w1.heap.size w1 w2) := hb2
  clear hb2 b0 b1 b2 b3
  go_wp2_with (first
    | (go_at_call 8; refine (HP.out.aw _ ((HP0.out.bel HB1.out).bel HB2.out)).mono ?_; rintro e w3 ⟨rfl, hb3⟩))
  go_ret
  exact ⟨rfl, bel HB0.out (bel HB1.out (bel HB2.out hb3))⟩
end Go.Proofs.YtfcongggmjijfaaGreatDoor

/- Layer 19: VcdWrites, walked over what the program's functions tell. -/
import Derived.Test.YtodpljgajjcdoaaGreatDoorDJ
namespace Go.Proofs.YtodpljgajjcdoaaGreatDoor
set_option maxRecDepth 100000
open Go.RowKit Lg Nl Go.Maps Wf Vd
set_option linter.unusedVariables false
set_option linter.unusedSimpArgs false

/-- a waveform that is handed in, of the second form's bulk -/
structure Wd (w : World) (vn vw vf vl : Value) (x : Wv) : Prop where
  a : WvAt w vn vw vf vl x
  z : Sz x
  b : Bd x
  l : x.li.length ≤ 100000000
theorem Wd.below {w w' : World} {vn vw vf vl : Value} {x : Wv} (h : Wd w vn vw vf vl x) (hb : Below w.heap.size w w') : Wd w' vn vw vf vl x := ⟨h.a.below hb, h.z, h.b, h.l⟩
theorem Wd.write {w : World} {vn vw vf vl : Value} {x : Wv} {T : ByteArray} {o : Int} (P : PD) (h : Wd w vn vw vf vl x) (hp : PowT w) (hT : T = S (wrT x)) (ho : o = wrE x) : Calls Tryz.prog 8 #[.agg #[vn, vw, vf, vl]] w fun e w' => e = .returned (.tuple #[.string T, .int .i64 o]) ∧ Below w.heap.size w w' := by
  rw [hT, ho]; exact P.wr x vn vw vf vl w h.a h.z h.b h.l hp
theorem Wd.rwrite {w : World} {vn vw vf vl : Value} {x : Wv} {T : ByteArray} {o : Int} (h : Wd w vn vw vf vl x) (hp : PowT w) (hT : T = S (wrT x)) (ho : o = wrE x) : Calls Tryz.prog 15 #[.agg #[vn, vw, vf, vl]] w fun e w' => e = .returned (.tuple #[.string T, .int .i64 o]) ∧ Below w.heap.size w w' := by
  rw [hT, ho]; exact rWrite_c x vn vw vf vl w h.a h.z h.l hp
end Go.Proofs.YtodpljgajjcdoaaGreatDoor

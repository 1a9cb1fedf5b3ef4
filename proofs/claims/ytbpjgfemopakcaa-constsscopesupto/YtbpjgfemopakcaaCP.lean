/- Layer 6 of the program: a name's number is asked for; a scope within. -/
import Derived.Test.YtbpjgfemopakcaaCL
import Derived.Laws.Externs
import Derived.MapKept
namespace Go.Proofs.Ytbpjgfemopakcaa
open Go.RowKit Lg Go.Maps
set_option linter.unusedVariables false
set_option linter.unusedSimpArgs false

theorem kLook_none {mn n : Nat} {nm : ByteArray} {D : DataW Unit} {f : List UInt8 → Option Int} {w : World} (hm : MpAt mn n D w) (hf : NmI D f) (hs : nm.size ≤ maxLen) (hk : f (L nm) = none) :
    (Instr.lookup 53 (.map (some mn)) (.string nm) true).run Try.prog w = .ok (.tuple #[.int .i64 0, .bool false]) w := by
  obtain ⟨v, ps, hrun, hv⟩ := World.ownsMap.look_ok hm kLawS Try.underlying53 (kZero w) (plainElem_int Try.underlying3 (by decide)) (kKey hs)
  obtain ⟨c, rfl, hc, _⟩ := plainElem_int_inv Try.underlying3 hv
  have hc1 := congrArg Prod.fst hc
  have hh := (hf.2 (L nm)).1 hk
  simp only at hc1
  rw [atKey_of_not_has hh] at hc1
  injection hc1 with h1
  injection h1 with _ h1
  rw [hrun, hh, ← h1]
/-- what Get tells -/
def getA (o : Option Int) : Int := o.getD 0
set_option maxHeartbeats 1000000 in
theorem kGet_c {sb mb n : Nat} {D : DataW Unit} {f : List UInt8 → Option Int} {w : World} (h : ScAt sb mb w) (hm : MpAt mb n D w) (hf : NmI D f) (x : ByteArray) (hx : x.size ≤ maxLen) :
    Calls Try.prog 12 #[.pointer (some ⟨sb, 0, none⟩), .string x] w fun e w' => e = .returned (.tuple #[.int .i64 (getA (f (L x))), .bool (f (L x)).isSome]) ∧ w' = w := by
  have HG := kGiven_c h
  obtain ⟨c0, c1, hl⟩ := h.at_
  cases hk : f (L x) with
  | none =>
    have r1 := kLook_none hm hf hx hk
    have e : getA none = 0 := rfl
    rw [e]
    have e2 : (none : Option Int).isSome = false := rfl
    rw [e2]
    clear h hm hf hk e e2
    go_enter Try.func12, Try.ntmps12
    go_wp2_with (first
      | (go_at_call 20; refine HG.mono ?_; rintro e w' ⟨rfl, hw⟩; have hw2 := hw.symm; subst hw2))
    go_ret2
    exact ⟨rfl, rfl⟩
  | some k =>
    have r1 := (kLook_run hm hf hx).1 k hk
    have e : getA (some k) = k := rfl
    rw [e]
    have e2 : (some k).isSome = true := rfl
    rw [e2]
    clear h hm hf hk e e2
    go_enter Try.func12, Try.ntmps12
    go_wp2_with (first
      | (go_at_call 20; refine HG.mono ?_; rintro e w' ⟨rfl, hw⟩; have hw2 := hw.symm; subst hw2))
    go_ret2
    exact ⟨rfl, rfl⟩
theorem run_eql_map_nil {P : Program} (w : World) (t k e : TypeId) (p : Option Nat) (h : P.underlying t = some (.map k e)) : (binOp .eql t (.map p) (.map none)).run P w = .ok (.bool p.isNone) w := by
  have hd : ∀ d : Nat, (Op.equalIn (d + 1) t (.map p) (.map none)).run P w = .ok p.isNone w := fun d => by cases p <;> simp [Op.equalIn, run_underlying h]
  simp only [binOp]
  simp [show Op.equal t (.map p) (.map none) = Op.equalIn (9999 + 1) t (.map p) (.map none) from rfl, hd 9999]
theorem run_as_map {P : Program} (w : World) (t xT k e : TypeId) (v : Value) (h : P.underlying t = some (.map k e)) : (Instr.typeAssert (.iface t v) xT t false).run P w = .ok v w := by
  simp [Instr.typeAssert, run_underlying h, go_sem, Result.andThen]
theorem run_clone {P : Program} {w : World} {r : Nat} {es : Array MapEntry} {clock : Nat} (t : TypeId) (hb : w.heap[r]? = some (.map es clock)) :
    (Extern.MapsClone.clone #[.iface t (.map (some r))]).run P w = .ok (.iface t (.map (some w.heap.size))) (w.alloc (.map es clock)) := by
  have e : Extern.MapsClone.clone #[.iface t (.map (some r))] = (getObj r >>= fun o => match o with
      | .map entries clock => (newObj (.map entries clock) >>= fun n => pure (.iface t (.map (some n))))
      | _ => stuck "maps.clone: a map expected") := rfl
  rw [e]
  simp [MapKept.run_getObj_map hb, Result.andThen, go_sem]
set_option maxHeartbeats 2000000 in
theorem kClone_c {b : Nat} {es : Array MapEntry} {clock : Nat} {w : World} (hb : w.heap[b]? = some (.map es clock)) :
    Calls Try.prog 22 #[.map (some b)] w fun e w' => e = .returned (.map (some w.heap.size)) ∧ w' = w.alloc (.map es clock) := by
  have hq := fun w => run_eql_map_nil (P := Try.prog) w 53 _ _ (some b) Try.underlying53
  have hta := fun w v => run_as_map (P := Try.prog) w 53 20 _ _ v Try.underlying53
  go_enter Try.func22, Try.ntmps22
  go_wp2
  rw [run_callFunc_extern Try.func25 (by kernel_rfl) (by kernel_rfl) (by kernel_rfl) (e := Extern.MapsClone.clone) (by kernel_rfl), run_clone 53 hb]
  simp only [Result.andThen]
  rw [Oper.upon_value]
  go_wp2
  go_ret
  exact ⟨rfl, rfl⟩
set_option maxHeartbeats 2000000 in
/-- a scope within: its names are a copy -/
theorem kWithin_c {sb mb n : Nat} {D : DataW Unit} {w : World} (h : ScAt sb mb w) (hm : MpAt mb n D w) :
    Calls Try.prog 9 #[.pointer (some ⟨sb, 0, none⟩)] w fun e w' => e = .returned (.pointer (some ⟨w.heap.size + 1, 0, none⟩)) ∧ ScAt (w.heap.size + 1) w.heap.size w' ∧ MpAt w.heap.size n D w' ∧ Below w.heap.size w w' := by
  have HG := kGiven_c h
  obtain ⟨c0, c1, hl⟩ := h.at_
  obtain ⟨es, clock, hb, hF⟩ := hm
  have HF : Hid (Go.WideElems.Fit Try.prog 9 (plainElem Try.prog 3) es clock ∧ es.size ≤ n ∧ D = .map ((es.toList.map (Go.WideElems.rg Try.prog 9 (plainElem Try.prog 3))).foldr DataW.insert [])) := hF
  have HC := kClone_c hb
  clear h hF
  go_enter Try.func9, Try.ntmps9
  go_wp2_with (first
    | (go_at_call 20; refine HG.mono ?_; rintro e w' ⟨rfl, hw⟩; have hw2 := hw.symm; subst hw2)
    | (go_at_call 22; refine HC.mono ?_; rintro e w' ⟨rfl, hw⟩; have hw2 := hw.symm; subst hw2)
    | (go_at_call 21; refine (kScopeOf_c _ _).mono ?_; rintro e w2 ⟨rfl, hsc, hb2⟩))
  go_ret
  have e : (w.alloc (.map es clock)).heap.size = w.heap.size + 1 := by simp
  rw [e] at hsc hb2
  refine ⟨by rw [← e]; rfl, hsc, ?_, (belA (Below.refl _ _) _).trans (hb2.mono (by omega))⟩
  exact ⟨es, clock, (hb2.block w.heap.size (by omega)).trans (allocAt rfl), HF.out⟩
end Go.Proofs.Ytbpjgfemopakcaa

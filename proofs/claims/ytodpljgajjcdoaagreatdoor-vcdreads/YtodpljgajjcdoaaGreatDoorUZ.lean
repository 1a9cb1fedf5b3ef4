/- Layer 19 of the program: a text that is no number is refused. -/
import Derived.Test.YtodpljgajjcdoaaGreatDoorGUr
import Derived.Shelf.Strconv.ErrVarAll
namespace Go.Proofs.YtodpljgajjcdoaaGreatDoor
set_option maxRecDepth 100000
open Go.RowKit Lg Nl Go.Maps Wf Vd
set_option linter.unusedVariables false
set_option linter.unusedSimpArgs false

/-- a library's variable that holds an error -/
def ErrN (n : String) (w : World) : Prop := ∃ tp p, w.var? Tryz.prog n = some #[.iface tp p]
theorem ErrN.bel {n : String} {w w' : World} (h : ErrN n w) (hb : Below w.heap.size w w') : ErrN n w' := by
  obtain ⟨tp, p, h⟩ := h
  refine ⟨tp, p, ?_⟩
  unfold World.var? at h ⊢
  cases hg : Tryz.prog.globalNamed n with
  | none => rw [hg] at h; exact h
  | some g =>
    rw [hg] at h
    simp only [Option.bind_some] at h ⊢
    have hlt : g < w.heap.size := by
      rcases Nat.lt_or_ge g w.heap.size with e | e
      · exact e
      · rw [Array.getElem?_eq_none e] at h; cases h
    rw [hb.block g hlt]
    exact h
/-- the two errors of the library's numbers -/
structure ErrV (w : World) : Prop where
  sy : ErrN "strconv.ErrSyntax" w
  ra : ErrN "strconv.ErrRange" w
theorem ErrV.bel {w w' : World} (h : ErrV w) (hb : Below w.heap.size w w') : ErrV w' := ⟨h.sy.bel hb, h.ra.bel hb⟩
theorem atoi_no (s : ByteArray) (w : World) (h : numA (L s) = none) (hs : s.size ≤ 4294967280) (he : ErrV w) :
    Calls Tryz.prog 56 #[.string s] w fun e w' => (∃ v N, e = .returned (.tuple #[.int .i64 v, .iface 102 (.pointer (some ⟨N, 0, none⟩))])) ∧ Below w.heap.size w w' := by
  cases ha : Lib.atoiAll s.data.toList
  · rename_i v
    have e : numA (L s) = some v := by
      show (match Lib.atoiAll (L s) with | .ok v => some v | _ => none) = _
      rw [show L s = s.data.toList from rfl, ha]
    rw [h] at e; cases e
  · obtain ⟨tp, p, hv⟩ := he.sy
    refine (Any.strconv_Atoi_syntax_var Tryz.atoi s (by omega) ha tp p w hv).mono ?_
    rintro e w' ⟨N, rfl, _, _, hb⟩
    exact ⟨⟨0, N, rfl⟩, hb⟩
  · obtain ⟨tp, p, hv⟩ := he.ra
    refine (Any.strconv_Atoi_range_var Tryz.atoi s (by omega) ha tp p w hv).mono ?_
    rintro e w' ⟨N, rfl, _, _, hb⟩
    exact ⟨⟨_, N, rfl⟩, hb⟩
theorem number_no (s : ByteArray) (w : World) (h : numA (L s) = none) (hs : s.size ≤ 4294967280) (he : ErrV w) :
    Calls Tryz.prog 40 #[.string s] w fun e w' => e = .panicked pnV ∧ Below w.heap.size w w' := by
  have HA := hidV (atoi_no s w h hs he)
  clear h he
  go_enter Tryz.func40, Tryz.ntmps40
  go_wp2_with (first
    | (go_at_call 56; refine HA.out.mono ?_; rintro e w1 ⟨⟨v, N, rfl⟩, hb1⟩))
  exact ⟨rfl, rfl, hb1⟩
theorem numF_c {w : World} (he : ErrV w) : NumF w := fun W s hb hs hn => number_no s W hn hs (he.bel hb)
/-- what Read tells of whatever bytes -/
theorem Read_all (l : List UInt8) (w : World) (hl : l.length ≤ 1048576) (hp : PowT w) (he : ErrV w) (hfw : ∀ x, readM l = some x → Fw x) :
    Calls Tryz.prog 5 #[.string (S l)] w fun e w' => RdR w (keepM l) e w' := by
  cases hq : readM l with
  | none =>
    have hk : keepM l = none := by unfold keepM; rw [hq]
    refine (Read_none l w hl hp (fun _ => numF_c he) hq).mono ?_
    rintro e w' ⟨rfl, hb⟩
    rw [hk]
    exact ⟨hb, rfl⟩
  | some x =>
    have hx := hfw x hq
    by_cases h0 : wrE x = 0
    · by_cases ht : wrT x = l
      · have hk : keepM l = some x := by unfold keepM; rw [hq]; exact if_pos ⟨h0, ht⟩
        refine (Read_yes l x w hl hp hq hx h0 ht).mono ?_
        rintro e w' ⟨an, cn, aw_, cw, af, cf, al, cl, rfl, ha, hb⟩
        rw [hk]
        exact ⟨hb, an, cn, aw_, cw, af, cf, al, cl, rfl, ha.out⟩
      · have hk : keepM l = none := by unfold keepM; rw [hq]; exact if_neg (fun e => ht e.2)
        refine (Read_ne l x w hl hp hq hx h0 ht).mono ?_
        rintro e w' ⟨rfl, hb⟩
        rw [hk]
        exact ⟨hb, rfl⟩
    · have hk : keepM l = none := by unfold keepM; rw [hq]; exact if_neg (fun e => h0 e.1)
      refine (Read_err l x w hl hp hq hx h0).mono ?_
      rintro e w' ⟨rfl, hb⟩
      rw [hk]
      exact ⟨hb, rfl⟩
end Go.Proofs.YtodpljgajjcdoaaGreatDoor

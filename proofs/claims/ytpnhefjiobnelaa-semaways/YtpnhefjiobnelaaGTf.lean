/- Texts NsN NsO NsP, joined: what each part says stands ahead of it. -/
import Derived.Test.YtpnhefjiobnelaaGTe
/- Layer 7 of the program: a source of one module. -/
namespace Go.Proofs.Ytpnhefjiobnelaa
open Go.RowKit Lg Rp Go.Maps
set_option linter.unusedVariables false
set_option linter.unusedSimpArgs false

def sRd (v : Value) : Option (DataW Value × List MemPlace) := some (.held v, [])
theorem sZeroO (w : World) : (zeroValue 64).run Try.prog w = .ok (.agg #[.map none, .map none]) w := by kernel_rfl
def sMo (mb : Nat) (w : World) : Prop := w.ownsMap Try.prog 9 sRd mb 0 (.map [])
theorem sMo.keep {mb : Nat} {w w' : World} (h : sMo mb w) (hb : w'.heap[mb]? = w.heap[mb]?) : sMo mb w' := by
  obtain ⟨es, clock, h1, h2⟩ := h
  exact ⟨es, clock, hb.trans h1, h2⟩
set_option maxRecDepth 100000 in
theorem sMo.look {mb : Nat} {w : World} (h : sMo mb w) (x : ByteArray) (hx : x.size ≤ maxLen) : (Instr.lookup 32 (.map (some mb)) (.string x) true).run Try.prog w = .ok (.tuple #[.agg #[.map none, .map none], .bool false]) w := by
  obtain ⟨v, ps, hrun, hv⟩ := World.ownsMap.look_ok h sLaw Try.underlying32 (sZeroO w) (zd := .held (.agg #[.map none, .map none])) (zp := []) rfl (sKey hx)
  have hh : Maps.has (DataW.map [] : DataW Value) (.string (L x)) = false := rfl
  rw [atKey_of_not_has hh] at hv
  unfold sRd at hv
  injection hv with hv
  injection hv with hv _
  injection hv with hv
  rw [hrun, hv, hh]
theorem sMo.put {mb : Nat} {w : World} (h : sMo mb w) (x : ByteArray) (hx : x.size ≤ maxLen) (v : Value) : ∃ w', (Instr.mapUpdate 32 (.map (some mb)) (.string x) v).run Try.prog w = .ok () w' ∧ Kp mb w w' := by
  obtain ⟨w', h1, _, h3⟩ := World.ownsMap.update h sLaw Try.underlying32 (by decide) (sKey hx) (val := v) (d := .held v) (ps := []) rfl
  exact ⟨w', h1, ⟨h3.os, h3.tape, h3.output, h3.size, fun j hj hb => h3.block j hj (by intro e; injection e with e; exact hb e)⟩⟩
/-- what a source comes to -/
def SrR (cb mb : Nat) (w : World) (r : Sum (Int × Int) (Nat × Asc)) (e : Ending) (w' : World) : Prop := match r with
  | .inr _ => e = .returned (.tuple #[]) ∧ Kz cb mb mb w w'
  | .inl (q, c) => e = .panicked (pnR q c) ∧ Kz cb mb mb w w'
theorem Below.ofKp {b m : Nat} {w w' : World} (h : Kp b w w') (hb : m ≤ b) (hw : m ≤ w.heap.size) : Below m w w' := ⟨h.os, h.tape, h.output, h.size, fun j hj => h.block j (by omega) (by omega)⟩
theorem Xa.bel {w w' : World} {mb g o : Nat} {x : List Dc} {vs : List Value} (h : Xa w mb g o x vs) (hk : Below mb w w') : Xa w' mb g o x vs :=
  ⟨fun j u hu => by rw [World.cell?_of_block (w := w) (a := ⟨g, o + j, none⟩) (hk.block g h.hg)]; exact h.cs j u hu, h.hg, Nat.lt_of_lt_of_le h.hl hk.size, h.d.keep ⟨hk.size, fun k hk1 hN => hk.block k hN⟩⟩
theorem Xa.up {w : World} {mb cb g o : Nat} {x : List Dc} {vs : List Value} (h : Xa w mb g o x vs) (hl : mb < cb) : Xa w cb g o x vs := ⟨h.cs, Nat.lt_trans h.hg hl, h.hl, h.d.mono fun i _ hi => Nat.lt_trans hi hl⟩
theorem belT {m : Nat} {a b c : World} (h : Below m a b) (k : Below m b c) : Below m a c := ⟨k.os.trans h.os, k.tape.trans h.tape, k.output.trans h.output, Nat.le_trans h.size k.size, fun j hj => (k.block j hj).trans (h.block j hj)⟩
/-- the modules' map is filled, or not yet -/
structure So (cb mb k g : Nat) (x : List Dc) (vs : List Value) (w w' : World) : Prop where
  c : Cb cb mb k w'
  x : Xa w' mb g 0 x vs
  b : Kz cb mb mb w w'
set_option maxRecDepth 100000 in
set_option maxHeartbeats 8000000 in
theorem sSource {AL : ALt} {cb mb F k k1 g np cp : Nat} (HAL : AlC AL cb mb) {x z ps : List Dc} {f : Asc} {nm : List UInt8} {vs : List Value} {r : Sum (Int × Int) (Nat × Asc)} {w : World} (h0 : gT x 0 = some nm) (hl : nm.length ≤ 1000000) (h1 : gS x 1 = some (0, z)) (h2 : gS x 2 = some (np, ps)) (hnp : np ≤ 100000) (hp : pL F np 0 ps [] k = some (f, k1)) (hq : mM AL F x k1 = some r) (hc : Cb cb mb k w) (hmo : sMo mb w) (hml : mb < cb) (hX : Xa w mb g 0 x vs) :
    Calls Try.prog 12 #[.pointer (some ⟨cb, 0, none⟩), .slice (some ⟨g, 0, none⟩) 1 cp] w fun e w' => SrR cb mb w r e w' := by
  have hcb := heap_lt hc
  have hgl := hX.hl
  have hgm := hX.hg
  have hsx2 : (S nm).size ≤ maxLen := by rw [size_S]; unfold maxLen; omega
  have p0 := hX.t h0
  rw [Nat.zero_add] at p0
  obtain ⟨c0, c1, cf, cl⟩ := hc.at_
  obtain ⟨sx, hsx⟩ : ∃ sx, sx = S nm := ⟨_, rfl⟩
  rw [← hsx] at p0 hsx2
  have hlk : ∀ w', w'.heap[mb]? = w.heap[mb]? → (Instr.lookup 32 (.map (some mb)) (.string sx) true).run Try.prog w' = .ok (.tuple #[.agg #[.map none, .map none], .bool false]) w' := fun w' h => (hmo.keep h).look sx hsx2
  have hlD := hlk w.drew rfl
  have hlA : ∀ o, (Instr.lookup 32 (.map (some mb)) (.string sx) true).run Try.prog (w.alloc o).drew = .ok (.tuple #[.agg #[.map none, .map none], .bool false]) (w.alloc o).drew := fun o => hlk _ (bxS.block (w := w) (w' := w.alloc o) mb (by omega))
  have c0A : ∀ o, (w.alloc o).cell? ⟨cb, 0, none⟩ = some (.map (some mb)) := fun o => (World.cell?_of_block (w := w) (a := ⟨cb, 0, none⟩) (bxS.block cb hcb)).trans c0
  have p0A : ∀ o, (w.alloc o).cell? ⟨g, 0, none⟩ = some (.string sx) := fun o => (World.cell?_of_block (w := w) (a := ⟨g, 0, none⟩) (bxS.block g hgl)).trans p0
  have HO := fun w' (hk : Below w.heap.size w w') => sOutline (w := w') h1 h2 hnp hp (hc.keep (hk.block cb hcb)) ((hX.bel (Below.lo2 (Below.refl mb w) (Below.ofKp (Kp.of hk) (Nat.le_of_lt (Nat.lt_trans hml hcb)) (Nat.le_of_lt (Nat.lt_trans hml hcb))))).up hml)
  have HP : Hid (∀ w' v, Kp cb w w' → ∃ w'', (Instr.mapUpdate 32 (.map (some mb)) (.string sx) v).run Try.prog w' = .ok () w'' ∧ Kp mb w' w'') := fun w' v hk => (hmo.keep (hk.block mb (Nat.lt_trans hml hcb) (by omega))).put sx hsx2 v
  have HM := fun w' (hc' : Cb cb mb k1 w') (hx' : Xa w' mb g 0 x vs) => sModule (w := w') HAL hq hc' (hx'.up hml)
  have HX : Hid _ := hX
  have HC : Hid _ := hc
  unfold SrR
  clear h0 h1 h2 hp hq hc hX hmo hsx hlk HAL
  go_enter Try.func12, Try.ntmps12
  go_wp2
  go_loopw [10] (fun v wr => (v = .int .i64 0 ∧ wr = w) ∨ (v = .int .i64 1 ∧ Hid (So cb mb k1 g x vs w wr))) (fun v _ => 1 - (intOf v).toNat)
  case atStart => exact Or.inl ⟨rfl, rfl⟩
  case round =>
    rcases hrel with ⟨rfl, rfl⟩ | ⟨rfl, HS⟩
    · have HO2 := fun o => HO (wr.alloc o).drew.drew (bel (bel bxS belD) belD)
      have HKO : Hid (∀ o w2, Kp cb (wr.alloc o).drew.drew w2 → Kp cb wr w2) := fun o w2 hk => ((Kp.of (bel (bel bxS belD) belD)).trans hk)
      clear HO HM
      go_wp2
      go_region
      all_goals go_wp2
      all_goals go_region_with (first
        | (go_at_call 20; refine (HO2 _).mono ?_; rintro e w2 ⟨⟨m1, m2, rfl⟩, hc2, hk2⟩; have hK2 := HKO.out _ _ hk2; have d0 : w2.cell? ⟨cb, 0, none⟩ = some (.map (some mb)) := hc2.at_.1; have dl : cb < w2.heap.size := heap_lt hc2; have e0 : w2.cell? ⟨g, 0, none⟩ = some (.string sx) := (World.cell?_of_block (w := wr) (a := ⟨g, 0, none⟩) (hK2.block g hgl (by omega))).trans p0; have el : g < w2.heap.size := Nat.lt_of_lt_of_le hgl hK2.size; have hP := HP.out w2 (.agg #[.map (some m1), .map (some m2)]) hK2; obtain ⟨w3, hrun3, hk3⟩ := hP; have hso : Hid (So cb mb k1 g x vs wr w3) := (by { have b2 : Below mb wr w2 := Below.ofKp hK2 (by omega) (by omega); have b3 : Below mb w2 w3 := Below.ofKp hk3 (Nat.le_refl _) (by omega); exact ⟨hc2.keep (hk3.block cb dl (by omega)), (HX.out.bel b2).bel b3, (Kz.of1 hK2).trans (Kz.of2 hk3)⟩ })))
      all_goals go_wp2
      all_goals
        go_roundw
        case rel => exact Or.inr ⟨rfl, hso⟩
        case measure => simp [intOf]
    · obtain ⟨c0, c1, cf, cl⟩ := HS.out.c.at_
      have HM2 := HM _ HS.out.c HS.out.x
      unfold LpR at HM2
      have hgl2 := HS.out.x.hl
      clear HO HM HP hlD hlA c0A p0A
      go_wp2
      go_loopw [50] (fun v w2 => (v = .int .i64 0 ∧ w2 = wr) ∨ (v = .int .i64 1 ∧ ∃ kd, r = .inr kd ∧ Hid (Kz cb mb mb w w2))) (fun v _ => 1 - (intOf v).toNat)
      case atStart => exact Or.inl ⟨rfl, rfl⟩
      case round =>
        rcases hrel with ⟨rfl, rfl⟩ | ⟨rfl, kd, rfl, HB⟩
        · cases r with
          | inr a =>
            obtain ⟨k', d'⟩ := a
            go_wp2_with (first
              | (go_at_call 21; refine HM2.mono ?_; rintro e w3 ⟨rfl, hc3, hk3⟩))
            go_roundw
            case rel => exact Or.inr ⟨rfl, _, rfl, HS.out.b.trans (Kz.of1 hk3)⟩
            case measure => simp [intOf]
          | inl q =>
            obtain ⟨q1, q2⟩ := q
            go_wp2_with (first
              | (go_at_call 21; refine HM2.mono ?_; rintro e w3 ⟨rfl, hb3⟩))
            exact ⟨rfl, rfl, HS.out.b.trans (Kz.of1 hb3)⟩
        · go_wp2
          go_end0
          exact ⟨rfl, HB.out⟩
end Go.Proofs.Ytpnhefjiobnelaa

/- Layer 7 of the program: what is given up is caught; Check of one module. -/
namespace Go.Proofs.Ytpnhefjiobnelaa
open Go.RowKit Lg Rp Go.Maps
set_option linter.unusedVariables false
set_option linter.unusedSimpArgs false

theorem asR_yes (v : Value) (w : World) : (Instr.typeAssert (.iface 43 v) 20 43 true).run Try.prog w = .ok (.tuple #[v, .bool true]) w := by kernel_rfl
theorem asR_no (w : World) : (Instr.typeAssert .nilIface 20 43 true).run Try.prog w = .ok (.tuple #[.agg #[.int .i64 0, .int .i64 0], .bool false]) w := by kernel_rfl
theorem asE_no (w : World) : (Instr.typeAssert .nilIface 20 45 true).run Try.prog w = .ok (.tuple #[.agg #[], .bool false]) w := by kernel_rfl
/-- one reason, in a block that is not older than a bound -/
def Rs1 (w : World) (B : Nat) (p c : Int) (v : Value) : Prop := ∃ gd, v = .slice (some ⟨gd, 0, none⟩) 1 1 ∧ B ≤ gd ∧ w.heap[gd]? = some (.cells #[.int .i64 p, .int .i64 c] 28 (0, 0))
theorem sSet1 {W : World} {rb : Nat} {v0 y : Value} {t : TypeId} (h : W.heap[rb]? = some (.cells #[v0] t (0, 0))) : (W.setCell ⟨rb, 0, none⟩ y).cell? ⟨rb, 0, none⟩ = some y := by
  have e : (W.setCell ⟨rb, 0, none⟩ y).heap[rb]? = some (.cells #[y] t (0, 0)) := by
    simp only [World.setCell]
    rw [Array.getElem?_modify, if_pos rfl, h]; rfl
  rw [Lib.cell_of_heap e]; rfl
set_option maxRecDepth 100000 in
set_option maxHeartbeats 2000000 in
theorem catchR (rb : Nat) (v0 : Value) (t : TypeId) (p c : Int) (w : World) (hR : w.heap[rb]? = some (.cells #[v0] t (0, 0))) :
    CallsD Try.prog 11 #[.pointer (some ⟨rb, 0, none⟩)] (.panicking (pnR p c)) w fun e u' w' =>
      e = .returned (.tuple #[]) ∧ u' = .panicking [{ v := .iface 43 (.agg #[.int .i64 p, .int .i64 c]), recovered := true }] ∧ (∃ v, w'.cell? ⟨rb, 0, none⟩ = some v ∧ Rs1 w' w.heap.size p c v) ∧ Kp rb w w' := by
  have hc : w.cell? ⟨rb, 0, none⟩ = some v0 := by rw [Lib.cell_of_heap hR]; rfl
  have hz := Lib.frozen_of_heap hR 0
  have hlt := heap_lt hR
  have HR : Hid _ := hR
  clear hR
  have hcA : ∀ o1 o2, ((w.alloc o1).alloc o2).cell? ⟨rb, 0, none⟩ = some v0 := fun o1 o2 => ((bel (bxS (w := w) (o := o1)) (bxS (o := o2))).cell (p := ⟨rb, 0, none⟩) hlt).trans hc
  have hzA : ∀ o1 o2, ((w.alloc o1).alloc o2).frozen? ⟨rb, 0, none⟩ = false := fun o1 o2 => ((bel (bxS (w := w) (o := o1)) (bxS (o := o2))).frozen (p := ⟨rb, 0, none⟩) hlt).trans hz
  refine callsD_of_wpS Try.func11 rfl fun c₀ cs hu => ?_
  have hu2 : c₀.mode = .panicking [{ v := .iface 43 (.agg #[.int .i64 p, .int .i64 c]), recovered := false }] := hu
  apply wpS_seq
  apply wpS_region
  simp [wpOpsS, go_sem, recoverD, hu2, Try.ntmps11, Exit.thenS, asR_yes, Array.replicate]
  refine wpS_of_wp ?_
  have hy := asR_yes
  go_wp2_with fail
  simp [bodyPostS, results, Try.results11]
  refine ⟨⟨_, ((bel (bxS (w := w.setCell ⟨rb, 0, none⟩ _)) bxS).cell (p := ⟨rb, 0, none⟩) (by simp [World.setCell]; exact hlt)).trans (sSet1 HR.out), _, rfl, Nat.le_succ _, ?_⟩, (Kp.set.alloc).alloc⟩
  have e : ((w.setCell ⟨rb, 0, none⟩ (.slice (some ⟨w.heap.size + 1, 0, none⟩) 1 1)).alloc (.cells #[.int .i64 p, .int .i64 c] 43)).heap.size = w.heap.size + 1 := by simp [World.setCell]
  have h := heap_alloc_last ((w.setCell ⟨rb, 0, none⟩ (.slice (some ⟨w.heap.size + 1, 0, none⟩) 1 1)).alloc (.cells #[.int .i64 p, .int .i64 c] 43)) (.cells #[.int .i64 p, .int .i64 c] 28)
  rw [e] at h
  exact h
set_option maxRecDepth 100000 in
set_option maxHeartbeats 2000000 in
theorem catchRI (rb : Nat) (w : World) :
    CallsD Try.prog 11 #[.pointer (some ⟨rb, 0, none⟩)] .returning w fun e u' w' => e = .returned (.tuple #[]) ∧ u' = .returning ∧ w' = w := by
  refine callsD_of_wpS Try.func11 rfl fun c₀ cs hu => ?_
  apply wpS_seq
  apply wpS_region
  simp [wpOpsS, go_sem, recoverD, hu, Try.ntmps11, Exit.thenS, asR_no, Array.replicate]
  refine wpS_of_wp ?_
  have hy := asR_no
  have hx := asE_no
  go_wp2_with fail
  cases c₀
  simp_all [bodyPostS, results, Try.results11]
theorem Rs1.keep {w w' : World} {B m : Nat} {p c : Int} {v : Value} (h : Rs1 w B p c v) (hb : ∀ j, B ≤ j → j ≠ m → w'.heap[j]? = w.heap[j]?) (hm : m < B) : Rs1 w' B p c v := by
  obtain ⟨gd, h1, h2, h3⟩ := h
  exact ⟨gd, h1, h2, (hb gd h2 (by omega)).trans h3⟩
theorem Rs1.mono {w : World} {B B' : Nat} {p c : Int} {v : Value} (h : Rs1 w B p c v) (hb : B' ≤ B) : Rs1 w B' p c v := by
  obtain ⟨gd, h1, h2, h3⟩ := h
  exact ⟨gd, h1, by omega, h3⟩
/-- what all comes to -/
def AaR (cb mb : Nat) (w : World) (r : Sum (Int × Int) (Nat × Asc)) (e : Ending) (w' : World) : Prop := match r with
  | .inr _ => e = .returned (.slice none 0 0) ∧ Kz cb mb mb w w'
  | .inl (q, c) => (∃ v, e = .returned v ∧ Rs1 w' w.heap.size q c v) ∧ Kz cb mb mb w w'
theorem Kz.setR {a b c R j : Nat} {w w1 : World} {y : Value} (h : Kz a b c w w1) (hR : w.heap.size ≤ R) : Kz a b c w (w1.setCell ⟨R, j, none⟩ y) :=
  ⟨h.os, h.tape, h.output, by simp [World.setCell]; exact h.size, fun k hk h1 h2 h3 => (Below.heap_setCell _ _ _ _ (show k ≠ R by omega)).trans (h.block k hk h1 h2 h3)⟩
theorem Kz.kpR {a b c R : Nat} {w w1 w2 : World} (h : Kz a b c w w1) (k : Kp R w1 w2) (hR : w.heap.size ≤ R) : Kz a b c w w2 :=
  ⟨k.os.trans h.os, k.tape.trans h.tape, k.output.trans h.output, Nat.le_trans h.size k.size, fun j hj h1 h2 h3 => (k.block j (Nat.lt_of_lt_of_le hj h.size) (by omega)).trans (h.block j hj h1 h2 h3)⟩
set_option maxRecDepth 100000 in
set_option maxHeartbeats 4000000 in
theorem sAll {cb mb g cp : Nat} {r : Sum (Int × Int) (Nat × Asc)} {w : World} (hcb : cb < w.heap.size) (hml : mb < cb) (HS : ∀ w', Below w.heap.size w w' → Calls Try.prog 12 #[.pointer (some ⟨cb, 0, none⟩), .slice (some ⟨g, 0, none⟩) 1 cp] w' fun e w'' => SrR cb mb w' r e w'') :
    Calls Try.prog 8 #[.pointer (some ⟨cb, 0, none⟩), .slice (some ⟨g, 0, none⟩) 1 cp] w fun e w' => AaR cb mb w r e w' := by
  have hmf : ∀ (fn : Fn) (first cap : Array Value) (w : World), (Instr.makeFunc fn first cap).run Try.prog w = .ok (.func fn first cap) w := fun _ _ _ _ => rfl
  unfold AaR
  unfold SrR at HS
  cases r with
  | inr a =>
    go_enter_defers Try.func8, Try.ntmps8
    go_wp2_with (first
      | (go_at_call 12; refine (HS _ bxS).mono ?_; rintro e w1 ⟨rfl, hk1⟩; have hR := (hk1.block w.heap.size (by simp) (by omega) (by omega) (by omega)).trans (heap_alloc_last _ _); have hc : w1.cell? ⟨w.heap.size, 0, none⟩ = some (.slice none 0 0) := by { rw [Lib.cell_of_heap hR]; rfl }; have hz := Lib.frozen_of_heap hR 0; have hl := heap_lt hR))
    refine leaves_cons (f := 11) (args := #[.pointer (some ⟨w.heap.size, 0, none⟩)]) (by simp) (by simp [go_sem]) ?_
    refine (catchRI w.heap.size _).mono ?_
    rintro e u' w'' ⟨rfl, rfl, rfl⟩
    have hset1 : ∀ y, (w1.setCell ⟨w.heap.size, 0, none⟩ y).cell? ⟨w.heap.size, 0, none⟩ = some y := fun y => sSet1 hR
    simp [Leaves, settle, results, Try.results8, go_sem, hset1]
    exact ((Kz.of bxS).trans hk1).setR (Nat.le_refl _)
  | inl q =>
    obtain ⟨q1, q2⟩ := q
    go_enter_defers Try.func8, Try.ntmps8
    go_wp2_with (first
      | (go_at_call 12; refine (HS _ bxS).mono ?_; rintro e w1 ⟨rfl, hk1⟩; have hR := (hk1.block w.heap.size (by simp) (by omega) (by omega) (by omega)).trans (heap_alloc_last _ _)))
    refine leaves_cons (f := 11) (args := #[.pointer (some ⟨w.heap.size, 0, none⟩)]) (by simp) (by simp [go_sem]) ?_
    refine (catchR w.heap.size (.slice none 0 0) _ q1 q2 w1 hR).mono ?_
    rintro e u' w'' ⟨rfl, rfl, ⟨v, hv, hrs⟩, hk2⟩
    simp [Leaves, settle, results, Try.results8, go_sem, hv]
    have z1 := hk1.size
    exact ⟨hrs.mono (by simp at z1; omega), ((Kz.of bxS).trans hk1).kpR hk2 (Nat.le_refl _)⟩
end Go.Proofs.Ytpnhefjiobnelaa

/- Layer 7 of the program: Check of one module. -/
namespace Rp
open Go Lg
/-- Check of one module: a reason, or none -/
def ckM (AL : List Dc → Asc → Asc → List (Asc × Asc) → Nat → Rs) (F : Nat) (x : List Dc) : Rs := match gT x 0, gS x 1, gS x 2 with
  | some nm, some (np0, _), some (np, ps) => if nm.length ≤ 1000000 ∧ np0 = 0 ∧ np ≤ 100000 then (match pL F np 0 ps [] 0 with
      | some (_, k1) => mM AL F x k1
      | none => none) else none
  | _, _, _ => none
end Rp
namespace Go.Proofs.Ytpnhefjiobnelaa
open Go.RowKit Lg Rp Go.Maps
set_option linter.unusedVariables false
set_option linter.unusedSimpArgs false

/-- what Check comes to -/
def CkR (w : World) (r : Sum (Int × Int) (Nat × Asc)) (e : Ending) (w' : World) : Prop := match r with
  | .inr _ => e = .returned (.slice none 0 0) ∧ Below w.heap.size w w'
  | .inl (q, c) => (∃ v, e = .returned v ∧ Rs1 w' w.heap.size q c v) ∧ Below w.heap.size w w'
theorem ckM_way {AL : ALt} {F : Nat} {x : List Dc} {r : Sum (Int × Int) (Nat × Asc)} (h : ckM AL F x = some r) : ∃ nm z np ps f k1, gT x 0 = some nm ∧ nm.length ≤ 1000000 ∧ gS x 1 = some (0, z) ∧ gS x 2 = some (np, ps) ∧ np ≤ 100000 ∧ pL F np 0 ps [] 0 = some (f, k1) ∧ mM AL F x k1 = some r := by
  unfold ckM at h
  cases h0 : gT x 0 with
  | none => rw [h0] at h; cases h
  | some nm =>
    cases h1 : gS x 1 with
    | none => rw [h0, h1] at h; cases h
    | some a =>
      obtain ⟨np0, z⟩ := a
      cases h2 : gS x 2 with
      | none => rw [h0, h1, h2] at h; cases h
      | some a =>
        obtain ⟨np, ps⟩ := a
        rw [h0, h1, h2] at h
        simp only at h
        split at h
        · rename_i hc
          obtain ⟨hc1, rfl, hc2⟩ := hc
          cases h4 : pL F np 0 ps [] 0 with
          | none => rw [h4] at h; cases h
          | some a =>
            obtain ⟨f, k1⟩ := a
            rw [h4] at h
            exact ⟨nm, z, np, ps, f, k1, rfl, hc1, rfl, rfl, hc2, h4, h⟩
        · cases h
theorem Kz.low2 {B a b c : Nat} {w w1 w2 : World} (h : Below w.heap.size w w1) (k : Kz a b c w1 w2) (h1 : w.heap.size ≤ a) (h2 : w.heap.size ≤ b) (h3 : w.heap.size ≤ c) : Below w.heap.size w w2 :=
  ⟨k.os.trans h.os, k.tape.trans h.tape, k.output.trans h.output, Nat.le_trans h.size k.size, fun j hj => (k.block j (Nat.lt_of_lt_of_le hj h.size) (by omega) (by omega) (by omega)).trans (h.block j hj)⟩
set_option maxRecDepth 100000 in
set_option maxHeartbeats 4000000 in
theorem sCheck {AL : ALt} {F g cp : Nat} {x : List Dc} {vs : List Value} {r : Sum (Int × Int) (Nat × Asc)} {w : World} (HAL : AlC AL (w.heap.size + 1) w.heap.size) (hq : ckM AL F x = some r) (hX : Xa w w.heap.size g 0 x vs) :
    Calls Try.prog 5 #[.slice (some ⟨g, 0, none⟩) 1 cp] w fun e w' => CkR w r e w' := by
  obtain ⟨nm, z, np, ps, f, k1, h0, hl, h1, h2, hnp, hp, hm⟩ := ckM_way hq
  have hmm := @run_makeMap Try.prog
  obtain ⟨W, hW⟩ : ∃ W, W = (w.alloc (.map #[] 0)).alloc (.cells #[.map (some w.heap.size), .int .i64 0] 34) := ⟨_, rfl⟩
  have hbW : Below w.heap.size w W := by rw [hW]; exact bel bxS bxS
  have e1 : (w.alloc (.map #[] 0)).heap.size = w.heap.size + 1 := by simp
  have hcW : Cb (w.heap.size + 1) w.heap.size 0 W := by rw [hW, ← e1]; exact heap_alloc_last _ _
  have hsW : W.heap.size = w.heap.size + 2 := by rw [hW]; simp
  have hmW : sMo w.heap.size W := by
    have a : sMo w.heap.size (w.alloc (.map #[] 0)) := World.ownsMap_made w _ _ _
    rw [hW]; exact a.keep (bxS.block w.heap.size (by simp))
  have hxW : Xa W w.heap.size g 0 x vs := hX.bel hbW
  have HA := sAll (cb := w.heap.size + 1) (mb := w.heap.size) (g := g) (cp := cp) (r := r) (w := W) (by omega) (by omega) (fun w' hb => sSource HAL h0 hl h1 h2 hnp hp hm (hcW.keep (hb.block _ (by omega))) (hmW.keep (hb.block _ (by omega))) (by omega) (hxW.bel (Below.mono2 hb (by omega))))
  have HK : Hid (∀ w2, Kz (w.heap.size + 1) w.heap.size w.heap.size W w2 → Below w.heap.size w w2) := fun w2 hk => Kz.low2 (B := 0) hbW hk (by omega) (by omega) (by omega)
  have HS : Hid (w.heap.size ≤ W.heap.size) := by show _ ≤ _; omega
  unfold CkR
  unfold AaR at HA
  clear h0 hl h1 h2 hnp hp hm hq hX hcW hmW hxW hbW hsW HAL e1
  cases r with
  | inr a =>
    rw [hW] at HA
    go_enter Try.func5, Try.ntmps5
    go_wp2_with (first
      | (go_at_call 8; refine HA.mono ?_; rintro e w1 ⟨rfl, hk1⟩))
    go_ret
    rw [← hW] at hk1
    exact ⟨rfl, HK.out _ hk1⟩
  | inl q =>
    obtain ⟨q1, q2⟩ := q
    rw [hW] at HA
    go_enter Try.func5, Try.ntmps5
    go_wp2_with (first
      | (go_at_call 8; refine HA.mono ?_; rintro e w1 ⟨⟨v, rfl, hrs⟩, hk1⟩))
    go_ret
    rw [← hW] at hk1 hrs
    exact ⟨⟨v, rfl, hrs.mono HS.out⟩, HK.out _ hk1⟩
end Go.Proofs.Ytpnhefjiobnelaa

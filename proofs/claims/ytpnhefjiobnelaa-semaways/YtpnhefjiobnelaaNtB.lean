/- Layer 7 of the program: appends of names; what is sure behind two ways. -/
import Derived.Test.YtpnhefjiobnelaaGTi
import Derived.Test.YtpnhefjiobnelaaNtM
import Derived.Maps.AppendAt
namespace Go.Proofs.Ytpnhefjiobnelaa
open Go.RowKit Lg Rp Go.Maps
set_option linter.unusedVariables false
set_option linter.unusedSimpArgs false

theorem infoStr : ∃ i, Try.prog.info? 9 = some i ∧ i.zero = some (.string ⟨#[]⟩) ∧ i.size = 1 ∧ i.bytes = 16 := info_parts (by kernel_rfl)
theorem run_app0s (w : World) (ty : TypeId) (base ao : Option Addr) (n cap c : Nat) (h : n ≤ cap) : (Builtin.append_ #[99, 99] ty #[.slice base n cap, .slice ao 0 c]).run Try.prog w = .ok (.slice base n cap) w := by
  obtain ⟨i0, hi, hz0, hz1, hz2⟩ := infoStr
  cases base <;> cases ao <;> simp [Builtin.append_, run_underlying Try.underlying99, sizeOf, typeInfo, hi, Builtin.lenOf, Builtin.firstCells, loadCells, loadCellsFrom, h, storeCells]
theorem wpl_app0s {ops : Array Oper} {rest : List Oper} {o : Oper} {a : Act} {w : World} {Q : Exit → Act → World → Prop} (hgd : o.guard = none) (s x : Operand) (ho : o.op = .call { callee := .builtin .append, args := #[s, x], argTypes := #[99, 99] })
    (base ao : Option Addr) (n cap c : Nat) (hs : a.eval s = .slice base n cap) (hx : a.eval x = .slice ao 0 c) (hn : n ≤ cap) (h : wpList Try.prog ops Q rest (a.put o.dst (.slice base n cap)) w) : wpList Try.prog ops Q (o :: rest) a w :=
  wpList_plain hgd fun K hK => by
    have hr := run_app0s w o.type base ao n cap c hn
    unfold Oper.wp execOp
    simp only [ho, resolve, invoke, builtin, Sem.run_bind, Sem.run_pure, Result.andThen_ok, List.map_toArray, List.map_cons, List.map_nil, hs, hx, hr]
    exact hK _ _ h
theorem wpl_app1s {ops : Array Oper} {rest : List Oper} {o : Oper} {a : Act} {w : World} {Q : Exit → Act → World → Prop} (hgd : o.guard = none) (s x : Operand) (ho : o.op = .call { callee := .builtin .append, args := #[s, x], argTypes := #[99, 99] })
    (gd cp : Nat) (nm : ByteArray) (hs : a.eval s = .slice none 0 0) (hx : a.eval x = .slice (some ⟨gd, 0, none⟩) 1 cp) (hc : w.cell? ⟨gd, 0, none⟩ = some (.string nm)) (h : ∀ ga ca w', w.heap.size ≤ ga → 1 ≤ ca → ga < w'.heap.size → w'.cell? ⟨ga, 0, none⟩ = some (.string nm) → Below w.heap.size w w' → wpList Try.prog ops Q rest (a.put o.dst (.slice (some ⟨ga, 0, none⟩) 1 ca)) w') : wpList Try.prog ops Q (o :: rest) a w := by
  obtain ⟨i0, hi, hz0, hz1, hz2⟩ := infoStr
  refine wpList_append_own_at w hgd s x 99 ho w.heap.size 9 i0 _ 1 16 Try.underlying99 hi hz0 hz1 hz2 rfl (by decide) (.slice none 0 0) 0 [] hs (World.ownsRow_nil _ _ _ _) ⟨gd, 0, none⟩ 1 cp [.string nm] hx rfl ?_ (by intro u hu; simp at hu; subst hu; rfl) (by unfold maxLen; omega) (by omega) (Nat.le_refl _) ?_
  · intro j u hj
    match j, hj with
    | 0, hj => simp at hj; subst hj; simpa [Addr.add] using hc
  · intro v' w' hown hgr _ _
    have hown2 := hown.2
    rcases hown2 with ⟨_, h0⟩ | ⟨g, cap, cur, rfl, hg, hh, hcp, _⟩
    · exact absurd h0 (by decide)
    · have h1 := hown.cells (g := g) rfl 0 (.string nm) rfl
      refine h g cap w' hg (by omega) (heap_lt hh) (by simpa [Addr.add] using h1) ⟨hgr.os, hgr.tape, hgr.output, hgr.size, fun i hi => hgr.block i hi (by simp [Value.ownBlock])⟩
theorem Nm.more {M : Nat} {a : Asc} {D : DataW Unit} {x : List UInt8} {c : Int} {w w' : World} (h : Nm M a w) (hf : sNm D (lk a)) (hD : D = asD a) (hl : a.length + 1 < 1000000) (hown : sMp M (a.length + 1) (D.put (.string x) (.lit (.int .i64 c))) w') (hc : c ≠ 0 ∧ (-10 ≤ c ∧ c ≤ 10)) : Nm M ((x, c) :: a) w' := by
  refine ⟨⟨_, hown, by rw [lk_put]; exact sNm_put hf _ _, by rw [hD]; rfl⟩, fun y v hv => ?_, by simpa using hl⟩
  rw [lk_cons] at hv
  split at hv
  · injection hv with hv; subst hv; exact hc
  · exact h.nz y v hv
theorem ctA_len (fr1 fr2 : List (List UInt8)) (i : Nat) : (ctA fr1 fr2 i).length ≤ 2 := by
  unfold ctA
  split
  · simp
  · split
    · unfold incA; split <;> simp
    · unfold incA; split <;> split <;> simp
theorem ctA_val (fr1 fr2 : List (List UInt8)) (i : Nat) (hi : i < 2) (x : List UInt8) : 0 ≤ (lk (ctA fr1 fr2 i) x).getD 0 ∧ (lk (ctA fr1 fr2 i) x).getD 0 ≤ 1 := by
  have h : i = 0 ∨ i = 1 := by omega
  rcases h with rfl | rfl
  · simp [ctA, lk]
  · unfold ctA
    rw [if_neg (by decide), if_pos rfl]
    cases fr1 with
    | nil => simp [incA, lk]
    | cons y l =>
      simp only [incA, lk_cons]
      split <;> simp [lk]
set_option maxRecDepth 100000 in
set_option maxHeartbeats 8000000 in
theorem zBehind {cb mb k ab tb ub n n' wb B : Nat} {tg : Asc} {so so' : Option (List UInt8)} {fr1 fr2 fr : List (List UInt8)} {v1 v2 : Value} {w : World} (hq : bhM so n fr1 fr2 = some (fr, so', n')) (h : Pz cb mb k ab tb ub n tg so w) (hw1 : w.cell? ⟨wb, 0, none⟩ = some v1) (hw2 : w.cell? ⟨wb, 1, none⟩ = some v2) (hwl : wb < w.heap.size) (h1 : Fr w B fr1 v1) (h2 : Fr w B fr2 v2) (hx1 : ∀ x ∈ fr1, x.length ≤ 1000000) (hx2 : ∀ x ∈ fr2, x.length ≤ 1000000) :
    Calls Try.prog 94 #[.pointer (some ⟨ab, 0, none⟩), .slice (some ⟨wb, 0, none⟩) 2 2] w fun e w' => (∃ v, e = .returned v ∧ Fr w' w.heap.size fr v) ∧ Pz cb mb k ab tb ub n' tg so' w' ∧ Kp ub w w' := by
  have hmm := @run_makeMap Try.prog
  have hul := h.u.lt
  have HP : Hid (Pz cb mb k ab tb ub n tg so w) := h
  have HQ : Hid (bhM so n fr1 fr2 = some (fr, so', n')) := hq
  have H1 : Hid (Fr w B fr1 v1) := h1
  have HX1 : Hid (∀ x ∈ fr1, x.length ≤ 1000000) := hx1
  have HW1 : Hid (w.cell? ⟨wb, 0, none⟩ = some v1) := hw1
  have hw1' : ∀ i : Nat, i ≤ 100000 → IntKind.i64.wrap ((i : Int) + 1) = ((i + 1 : Nat) : Int) := fun i hi => by rw [IntKind.wrap_i64]; omega
  have HV : Hid (∀ i, i < 2 → ∃ fi v, w.cell? ⟨wb, i, none⟩ = some v ∧ Fr w B fi v ∧ ctA fr1 fr2 (i + 1) = incA (ctA fr1 fr2 i) fi ∧ ∀ x ∈ fi, x.length ≤ 1000000) := by
    intro i hi
    have h : i = 0 ∨ i = 1 := by omega
    rcases h with rfl | rfl
    · exact ⟨fr1, v1, hw1, h1, by simp [ctA], hx1⟩
    · exact ⟨fr2, v2, hw2, h2, by simp [ctA], hx2⟩
  have H2 : Hid (fr2 = [] ∨ ∃ y, fr2 = [y]) := by
    rcases h2 with ⟨h, _⟩ | ⟨y, _, _, h, _⟩
    · exact Or.inl h
    · exact Or.inr ⟨y, h⟩
  clear h hq h1 h2 hx1 hx2 hw1 hw2
  go_enter Try.func94, Try.ntmps94
  go_wp2
  go_loopw [16] (fun v wr => ∃ i : Nat, i ≤ 2 ∧ v = .int .i64 i ∧ Hid (Nm w.heap.size (ctA fr1 fr2 i) wr) ∧ Hid (Below w.heap.size w wr)) (fun v _ => 2 - (intOf v).toNat)
  case atStart => exact ⟨0, by omega, rfl, nm_new (World.ownsMap_made w _ _ _), bxS⟩
  case round =>
    obtain ⟨i, hi, rfl, HN, HB⟩ := hrel
    obtain ⟨wo, rfl⟩ : ∃ wo : World, wo = wr := ⟨_, rfl⟩
    by_cases hi2 : i < 2
    · have hiI : (i : Int) < 2 := by omega
      have hww := hw1' i (by omega)
      obtain ⟨fi, v, hcell, hfi, hct, hxi⟩ := HV.out i hi2
      have hc2 : wo.cell? ⟨wb, i, none⟩ = some v := (World.cell?_of_block (w := w) (a := ⟨wb, i, none⟩) (HB.out.block wb hwl)).trans hcell
      have hwl2 : wb < wo.heap.size := Nat.lt_of_lt_of_le hwl HB.out.size
      rcases hfi with ⟨rfl, rfl⟩ | ⟨x, gd, cp, rfl, rfl, g1, g2, g3, g4⟩
      · have HCT : Hid (ctA fr1 fr2 (i + 1) = incA (ctA fr1 fr2 i) []) := hct
        clear hct hcell hxi
        go_wp2
        go_loopw [22] (fun v w2 => v = .int .i64 0 ∧ Hid (w2 = wo)) (fun _ _ => 0)
        case atStart => exact ⟨rfl, rfl⟩
        case round =>
          obtain ⟨rfl, HW⟩ := hrel
          have hwr := HW.out
          subst hwr
          clear HW
          go_wp2
          go_roundw
          case rel => exact ⟨i + 1, by omega, by go_num, (by rw [HCT.out]; exact HN.out), HB⟩
          case measure => simp [intOf]; omega
      · have hxl : x.length ≤ 1000000 := hxi x (by simp)
        have hxm : (S x).size ≤ maxLen := by rw [size_S]; unfold maxLen; omega
        have hrun := sLook HN.out (S x) hxm
        have hkey := sKey hxm
        rw [L_S] at hrun hkey
        obtain ⟨cv1, cv2⟩ := ctA_val fr1 fr2 i hi2 x
        have hcl2 := ctA_len fr1 fr2 i
        have g4' : wo.cell? ⟨gd, 0, none⟩ = some (.string (S x)) := (World.cell?_of_block (w := w) (a := ⟨gd, 0, none⟩) (HB.out.block gd g3)).trans g4
        have g3' : gd < wo.heap.size := Nat.lt_of_lt_of_le g3 HB.out.size
        have HCT : Hid (ctA fr1 fr2 (i + 1) = incA (ctA fr1 fr2 i) [x]) := hct
        obtain ⟨c, hc⟩ : ∃ c, c = (lk (ctA fr1 fr2 i) x).getD 0 := ⟨_, rfl⟩
        rw [← hc] at hrun cv1 cv2
        have HCC : Hid (c = (lk (ctA fr1 fr2 i) x).getD 0) := hc
        have hcw : IntKind.i64.wrap (c + 1) = c + 1 := by rw [IntKind.wrap_i64]; omega
        obtain ⟨D, hm, hf, hD⟩ := HN.out.ex
        have HD : Hid (D = asD (ctA fr1 fr2 i)) := hD
        clear hD
        have HF : Hid (sNm D (lk (ctA fr1 fr2 i))) := hf
        obtain ⟨cl, hcl⟩ : ∃ cl, cl = (ctA fr1 fr2 i).length := ⟨_, rfl⟩
        have HCL : Hid (cl = (ctA fr1 fr2 i).length) := hcl
        rw [← hcl] at hm hcl2
        unfold sMp at hm
        obtain ⟨sx, hsx⟩ : ∃ sx, sx = S x := ⟨_, rfl⟩
        rw [← hsx] at hrun hkey g4'
        clear hct hcell hxi hc hcl hf hsx hxm g4 g3 g1
        go_wp2
        go_loopw [22] (fun v w2 => (v = .int .i64 0 ∧ w2 = wo) ∨ (v = .int .i64 1 ∧ Hid (Nm w.heap.size (ctA fr1 fr2 (i + 1)) w2 ∧ Below w.heap.size w w2))) (fun v _ => 1 - (intOf v).toNat)
        case atStart => exact Or.inl ⟨rfl, rfl⟩
        case round =>
          rcases hrel with ⟨rfl, rfl⟩ | ⟨rfl, HW⟩
          · go_wp2_with (first
              | (at_mapUpdate; refine wpList_mapUpdate_own _ rfl _ _ _ 62 rfl 9 3 sLaw Try.underlying62 _ w.heap.size cl _ rfl hm (by unfold maxLen; omega) _ _ _ rfl rfl hkey _ [] (plainElem_int Try.underlying3 (WalkArith.wf_i64 (by omega))) ?_; intro w1 hown1 hgrow1))
            go_roundw
            case rel =>
              have hcl0 := HCL.out
              subst hcl0
              refine Or.inr ⟨rfl, ?_, HB.out.trans ?_⟩
              · rw [HCT.out]
                have h3 := Nm.more (c := c + 1) HN.out HF.out HD.out (by omega) hown1 (by omega)
                have e5 : incA (ctA fr1 fr2 i) [x] = (x, c + 1) :: ctA fr1 fr2 i := by rw [HCC.out]; rfl
                rw [e5]
                exact h3
              · exact ⟨hgrow1.os, hgrow1.tape, hgrow1.output, hgrow1.size, fun j hj => hgrow1.block j (Nat.lt_of_lt_of_le hj HB.out.size) (by intro e; injection e with e; omega)⟩
            case measure => simp [intOf]
          · go_wp2
            go_roundw
            case rel => exact ⟨i + 1, by omega, by go_num, HW.out.1, HW.out.2⟩
            case measure => simp [intOf]; omega
    · have hi3 : i = 2 := by omega
      have HN2 : Hid (Nm w.heap.size (ctA fr1 fr2 2) wo) := by have h := HN.out; rw [hi3] at h; exact h
      have hge : (2 : Int) ≤ (i : Int) := by omega
      have hge2 : ¬ ((i : Int) < 2) := by omega
      clear hi3 hi2
      have hwl2 : wb < wo.heap.size := Nat.lt_of_lt_of_le hwl HB.out.size
      have hc2 : wo.cell? ⟨wb, 0, none⟩ = some v1 := (World.cell?_of_block (w := w) (a := ⟨wb, 0, none⟩) (HB.out.block wb hwl)).trans HW1.out
      have hp2 : Hid (Pz cb mb k ab tb ub n tg so wo) := HP.out.below HB.out
      have HQ2 := HQ.out
      rcases H1.out with ⟨rfl, rfl⟩ | ⟨x, gd, cp, rfl, rfl, g1, g2, g3, g4⟩
      · unfold bhM at HQ2
        simp only [Option.some.injEq, Prod.mk.injEq] at HQ2
        obtain ⟨rfl, rfl, rfl⟩ := HQ2
        clear HV H2 H1 HX1 HQ
        go_wp2
        go_loopw [36, 10] (fun v u w2 => v = .int .i64 0 ∧ u = .slice none 0 0 ∧ Hid (w2 = wo)) (fun _ _ _ => 0)
        case atStart => exact ⟨rfl, rfl, rfl⟩
        case round =>
          obtain ⟨rfl, rfl, HW⟩ := hrel
          have hwr := HW.out
          subst hwr
          clear HW
          go_wp2
          go_ret
          exact ⟨⟨_, rfl, Or.inl ⟨rfl, rfl⟩⟩, hp2.out, Kp.of HB.out⟩
      · have hxl : x.length ≤ 1000000 := HX1.out x (by simp)
        have hxm : (S x).size ≤ maxLen := by rw [size_S]; unfold maxLen; omega
        have hrun := sLook HN2.out (S x) hxm
        rw [L_S] at hrun
        have g4' : wo.cell? ⟨gd, 0, none⟩ = some (.string (S x)) := (World.cell?_of_block (w := w) (a := ⟨gd, 0, none⟩) (HB.out.block gd g3)).trans g4
        have g3' : gd < wo.heap.size := Nat.lt_of_lt_of_le g3 HB.out.size
        by_cases hf2 : fr2 = [x]
        · subst hf2
          unfold bhM at HQ2
          simp only [if_true] at HQ2
          split at HQ2
          · rename_i hso
            obtain ⟨rfl, hnn⟩ := hso
            simp only [Option.some.injEq, Prod.mk.injEq] at HQ2
            obtain ⟨rfl, rfl, rfl⟩ := HQ2
            have e2 : (lk (ctA [x] [x] 2) x).getD 0 = 2 := by simp [ctA, incA, lk]
            rw [e2] at hrun
            have HA := zAssignedY hp2.out x hxl hnn
            obtain ⟨sx, hsx⟩ : ∃ sx, sx = S x := ⟨_, rfl⟩
            rw [← hsx] at hrun g4' HA
            have HSX : Hid (sx = S x) := hsx
            have HA2 : Calls Try.prog 93 #[.pointer (some ⟨ab, 0, none⟩), .string sx] wo fun e w' => ∃ gd cp1, e = .returned (.slice (some ⟨gd, 0, none⟩) 1 cp1) ∧ w'.cell? ⟨gd, 0, none⟩ = some (.string sx) ∧ gd < w'.heap.size ∧ Pz cb mb k ab tb ub (n + 1) tg (some x) w' ∧ Kp ub wo w' :=
              HA.mono fun e w' ⟨⟨v, h1, h2⟩, h3, h4⟩ => by
                rcases h2 with ⟨h, _⟩ | ⟨y, gd, cp1, hy, rfl, q1, q2, q3, q4⟩
                · cases h
                · injection hy with hy; subst hy; exact ⟨gd, cp1, h1, by rw [HSX.out]; exact q4, q3, h3, h4⟩
            clear HA hsx e2 HV H2 H1 HX1 HQ g4 g3 g1 hxm
            go_wp2
            go_loopw [36, 10] (fun v u w2 => ∃ (uo : Option Addr) (um uc : Nat), u = .slice uo um uc ∧ ((v = .int .i64 0 ∧ uo = none ∧ um = 0 ∧ uc = 0 ∧ w2 = wo) ∨ (v = .int .i64 1 ∧ Hid (Fr w2 w.heap.size [x] (.slice uo um uc) ∧ Pz cb mb k ab tb ub (n + 1) tg (some x) w2 ∧ Kp ub w w2)))) (fun v _ _ => 1 - (intOf v).toNat)
            case atStart => exact ⟨none, 0, 0, rfl, Or.inl ⟨rfl, rfl, rfl, rfl, rfl⟩⟩
            case round =>
              obtain ⟨uo, um, uc, rfl, hrel⟩ := hrel
              rcases hrel with ⟨rfl, rfl, rfl, rfl, rfl⟩ | ⟨rfl, HW⟩
              · go_wp2_with (first
                  | (go_at_call 93; refine HA2.mono ?_; rintro e w3 ⟨gd3, cp3, rfl, q3, q4, hp3, hk3⟩)
                  | (refine wpl_app1s rfl _ _ rfl gd3 cp3 sx rfl rfl q3 ?_; intro ga ca w4 r1 r2 r3 r4 r5))
                go_roundw
                case rel =>
                  have hs1 := HB.out.size
                  have hs2 := hk3.size
                  exact ⟨some ⟨ga, 0, none⟩, 1, ca, rfl, Or.inr ⟨rfl, Or.inr ⟨x, ga, ca, rfl, rfl, by omega, r2, r3, by rw [← HSX.out]; exact r4⟩, hp3.below r5, ((Kp.of HB.out).trans hk3).trans (Kp.of r5)⟩⟩
                case measure => simp [intOf]
              · go_wp2
                go_ret
                exact ⟨⟨_, rfl, HW.out.1⟩, HW.out.2.1, HW.out.2.2⟩
          · cases HQ2
        · unfold bhM at HQ2
          simp only [if_neg hf2, Option.some.injEq, Prod.mk.injEq] at HQ2
          obtain ⟨rfl, rfl, rfl⟩ := HQ2
          have e2 : (lk (ctA [x] fr2 2) x).getD 0 = 1 := by
            rcases H2.out with rfl | ⟨y, rfl⟩
            · simp [ctA, incA, lk]
            · have hne : ¬ x = y := fun e => hf2 (by rw [e])
              simp [ctA, incA, lk, hne]
          rw [e2] at hrun
          obtain ⟨sx, hsx⟩ : ∃ sx, sx = S x := ⟨_, rfl⟩
          rw [← hsx] at hrun g4'
          clear hsx e2 HV H2 H1 HX1 HQ g4 g3 g1 hxm hf2
          go_wp2
          go_loopw [36, 10] (fun v u w2 => (v = .int .i64 0 ∧ u = .slice none 0 0 ∧ w2 = wo) ∨ (v = .int .i64 1 ∧ u = .slice none 0 0 ∧ Hid (w2 = wo))) (fun v _ _ => 1 - (intOf v).toNat)
          case atStart => exact Or.inl ⟨rfl, rfl, rfl⟩
          case round =>
            rcases hrel with ⟨rfl, rfl, rfl⟩ | ⟨rfl, rfl, HW⟩
            · go_wp2
              go_roundw
              case rel => exact Or.inr ⟨rfl, rfl, trivial⟩
              case measure => simp [intOf]
            · have hwr := HW.out
              subst hwr
              clear HW
              go_wp2
              go_ret
              exact ⟨⟨_, rfl, Or.inl ⟨rfl, rfl⟩⟩, hp2.out, Kp.of HB.out⟩
end Go.Proofs.Ytpnhefjiobnelaa

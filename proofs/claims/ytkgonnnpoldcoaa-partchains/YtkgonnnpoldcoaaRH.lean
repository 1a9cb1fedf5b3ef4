/- The program's deal: groups go to parts. -/
import Derived.Test.YtkgonnnpoldcoaaRG
import Derived.Sort.QuietIn
namespace Go.Proofs.Ytkgonnnpoldcoaa
open Go.RowKit Lg Nl Go.Maps Go.Sort Go.Shelf
set_option linter.unusedVariables false
set_option linter.unusedSimpArgs false
set_option maxRecDepth 100000
attribute [local go_sem] Oper.semAt_some

/-- an end that no panic comes to -/
def noP (Q : Exit → Act → World → Prop) : Exit → Act → World → Prop
  | .panic _, _, _ => False
  | .normal, a, w => Q .normal a w
  | .ret, a, w => Q .ret a w
  | .exit i, a, w => Q (.exit i) a w
  | .goto t, a, w => Q (.goto t) a w
  | .outgrown, a, w => Q .outgrown a w
theorem noP_of {Q : Exit → Act → World → Prop} : ∀ (e : Exit) (a : Act) (w : World), noP Q e a w → Q e a w
  | .panic _, _, _, h => h.elim
  | .normal, _, _, h => h
  | .ret, _, _, h => h
  | .exit _, _, _, h => h
  | .goto _, _, _, h => h
  | .outgrown, _, _, h => h
/-- a list's values, by their numbers -/
def gvN (vs : List Value) (k : Nat) : Value := vs[k]?.getD (.slice none 0 0)
theorem gvN_at {vs : List Value} {k : Nat} {v : Value} (h : vs[k]? = some v) : gvN vs k = v := by unfold gvN; rw [h]; rfl
def szN (gs : Nat → List Nat) (k : Nat) : Nat := (gs k).length
/-- the values of the groups of a size among the first ones -/
def rsN (vs : List Value) (gs : Nat → List Nat) (i s : Nat) : List Value := (bsz (szN gs) i s).map (gvN vs)
theorem rsN_step (vs : List Value) (gs : Nat → List Nat) (i : Nat) {v : Value} (h : vs[i]? = some v) : rsN vs gs (i + 1) = upd (rsN vs gs i) (szN gs i) (rsN vs gs i (szN gs i) ++ [v]) := by
  funext s
  unfold rsN upd
  rw [bsz_succ]
  by_cases e : szN gs i = s
  · subst e; rw [if_pos rfl, if_pos rfl, List.map_append]; simp [gvN_at h]
  · rw [if_neg e, if_neg (Ne.symm e)]
theorem rsN_len (vs : List Value) (gs : Nat → List Nat) (i s : Nat) : (rsN vs gs i s).length ≤ i := by
  unfold rsN bsz; rw [List.length_map]
  have := List.length_filter_le (fun k => decide (szN gs k = s)) (List.range i)
  rw [List.length_range] at this; exact this
/-- what is asked of the groups -/
structure GsOk (n c : Nat) (cl : Nat → Nat) (gs : Nat → List Nat) : Prop where
  a : ∀ k, k < c → ∀ z ∈ gs k, z < n ∧ cl z = k
  b : ∀ j, j < n → cl j < c ∧ j ∈ gs (cl j)
  l : ∀ k, k < c → 1 ≤ (gs k).length ∧ (gs k).length ≤ 4096
/-- what deal tells -/
structure Dealt (n p : Nat) (cl : Nat → Nat) (of : Nat → Int) : Prop where
  r : ∀ j, j < n → 0 ≤ of j ∧ of j < p
  s : ∀ i j, i < n → j < n → cl i = cl j → of i = of j
  u : ∀ k : Nat, k < p → ∃ j, j < n ∧ of j = k
/-- while groups are dealt: what lies below B0 is as it was, but for two rows -/
structure Fr (O L B0 : Nat) (W0 W : World) : Prop where
  os : W.os = W0.os
  tape : W.tape = W0.tape
  output : W.output = W0.output
  size : B0 ≤ W.heap.size
  block : ∀ k, k < B0 → k ≠ O → k ≠ L → W.heap[k]? = W0.heap[k]?
def DlI (n c p : Nat) (cl : Nat → Nat) (gs : Nat → List Nat) (O L : Nat) (W0 : World) (pre : List Bk) (W : World) : Prop :=
  ∃ of ld : Nat → Int, W.rowIs O 3 n (fun q => .int .i64 (of q)) ∧ W.rowIs L 3 p (fun q => .int .i64 (ld q)) ∧ Fr O L W0.heap.size W0 W ∧ (∀ k, k < p → 0 ≤ ld k ∧ ld k ≤ 4096 * ((pre.length * 4096 : Nat) : Int)) ∧ ((bkS pre).Nodup → Dl n c p cl (dlt (szN gs) c (bkS pre)) of ld)
theorem Fr.grown {O L : Nat} {W0 W W' : World} {row : Option Nat} (h : Fr O L W0.heap.size W0 W) (hg : W.grownBy W' row) (hr : ∀ r, row = some r → W0.heap.size ≤ r) : Fr O L W0.heap.size W0 W' :=
  ⟨hg.os.trans h.os, hg.tape.trans h.tape, hg.output.trans h.output, Nat.le_trans h.size hg.size, fun k hk h1 h2 => (hg.block k (Nat.lt_of_lt_of_le hk h.size) (fun e => by have := hr k e.symm; omega)).trans (h.block k hk h1 h2)⟩
theorem DlI.own {n c p : Nat} {cl : Nat → Nat} {gs : Nat → List Nat} {O L : Nat} {W0 : World} (hO : O < W0.heap.size) (hL : L < W0.heap.size) : OwnFrom W0.heap.size (DlI n c p cl gs O L W0) := fun s W W' row hs hg hr => by
  obtain ⟨of, ld, h1, h2, h3, h4, h5⟩ := hs
  have hb : ∀ k, k < W0.heap.size → W'.heap[k]? = W.heap[k]? := fun k hk => hg.block k (Nat.lt_of_lt_of_le hk h3.size) (fun e => by have := (hr k e.symm).1; omega)
  exact ⟨of, ld, h1.of_block (hb O hO), h2.of_block (hb L hL), h3.grown hg (fun r e => (hr r e).1), h4, h5⟩
/-- two rows alone have turned -/
structure Ch (O L : Nat) (W W' : World) : Prop where
  os : W'.os = W.os
  tape : W'.tape = W.tape
  output : W'.output = W.output
  size : W'.heap.size = W.heap.size
  block : ∀ k, k ≠ O → k ≠ L → W'.heap[k]? = W.heap[k]?
theorem Ch.refl (O L : Nat) (W : World) : Ch O L W W := ⟨rfl, rfl, rfl, rfl, fun _ _ _ => rfl⟩
theorem Ch.set {O L : Nat} {W W' : World} (h : Ch O L W W') {T : Nat} (hT : T = O ∨ T = L) (i : Nat) (v : Value) : Ch O L W (W'.setCell ⟨T, i, none⟩ v) :=
  ⟨h.os, h.tape, h.output, by rw [show (W'.setCell ⟨T, i, none⟩ v).heap.size = W'.heap.size by simp [World.setCell]]; exact h.size, fun k h1 h2 => (Below.heap_setCell _ _ _ _ (by show k ≠ T; rcases hT with rfl | rfl; exact h1; exact h2)).trans (h.block k h1 h2)⟩
theorem Ch.drewN {O L : Nat} {W W' : World} (h : Ch O L W W') (k : Nat) : Ch O L W (W'.drewN k) := ⟨h.os, h.tape, h.output, h.size, h.block⟩
theorem Fr.ch {O L : Nat} {W0 W W' : World} (h : Fr O L W0.heap.size W0 W) (c : Ch O L W W') : Fr O L W0.heap.size W0 W' :=
  ⟨c.os.trans h.os, c.tape.trans h.tape, c.output.trans h.output, by rw [c.size]; exact h.size, fun k hk h1 h2 => (c.block k h1 h2).trans (h.block k hk h1 h2)⟩
theorem MG.keep2 {B mb nn : Nat} {D : DataW Value} {M : Nat → Value} {rs : Nat → List Value} {W W' : World} (h : MG B mb nn D M rs W) (hm : W'.heap[mb]? = W.heap[mb]?) (hb : ∀ s, s ≤ 4096 → ∀ k, (M s).ownBlock = some k → W'.heap[k]? = W.heap[k]?) : MG B mb nn D M rs W' := by
  refine ⟨?_, h.at_, h.hs, fun s hs => own_at (h.r s hs) fun k e => hb s hs k e, h.d⟩
  obtain ⟨es, clock, h1, F, h2, h3⟩ := h.own
  exact ⟨es, clock, hm.trans h1, F, h2, h3⟩
/-- the sizes that came -/
def SizR (rs : Nat → List Value) (h : Nat) (Wb : World) (e : Ending) (w' : World) : Prop := ∃ (gz zl zc : Nat) (zs : List Nat), e = .returned (.slice (some ⟨gz, 0, none⟩) zl zc) ∧ Hid (zl = zs.length) ∧ zl ≤ 4096 ∧ Hid (∀ j (hj : j < zs.length), w'.cell? ⟨gz, j, none⟩ = some (.int .i64 ((zs[j] : Nat) : Int))) ∧ Hid (gz < w'.heap.size) ∧ Hid zs.Nodup ∧ Hid (∀ s, s ∈ zs ↔ s ≤ 4096 ∧ rs s ≠ []) ∧ Hid (h + 1 ≤ gz) ∧ Hid (Below (h + 1) Wb w')
set_option maxHeartbeats 4000000 in
theorem deal_c (Bg : Nat) (ao : Option Addr) (c cap n p : Nat) (vs : List Value) (gs : Nat → List Nat) (cl : Nat → Nat) (w : World) (hG : GL Bg (.slice ao c cap) vs gs w) (hv : vs.length = c) (hk : GsOk n c cl gs) (hc : c ≤ 4096) (hn : n ≤ 4096) (hp1 : 1 ≤ p) (hpc : p ≤ c) :
    Calls Try.prog 23 #[.slice ao c cap, .int .i64 (n : Int), .int .i64 (p : Int)] w fun e w' => ∃ (O : Nat) (of : Nat → Int), e = .returned (.slice (some ⟨O, 0, none⟩) n n) ∧ w.heap.size ≤ O ∧ Hid (w'.rowIs O 3 n (fun q => .int .i64 (of q))) ∧ Hid (Dealt n p cl of) ∧ Below w.heap.size w w' := by
  obtain ⟨gL, capL, hvL⟩ : ∃ gL capL, Value.slice ao c cap = .slice (some ⟨gL, 0, none⟩) c capL := by
    obtain ⟨c', rfl⟩ : ∃ c', c = c' + 1 := ⟨c - 1, by omega⟩
    have ho := hG.o
    rw [hv] at ho
    exact own_slice1 ho
  injection hvL with hv1 hv2 hv3
  subst hv1 hv3
  have HG : Hid (GL Bg (.slice (some ⟨gL, 0, none⟩) c cap) vs gs w) := hG
  have HV : Hid (vs.length = c) := hv
  have HK : Hid (GsOk n c cl gs) := hk
  have hgl : gL < w.heap.size := (hG.o.lt gL rfl).2
  have hmm := @run_makeMap Try.prog
  clear hG hv hk hv2
  refine (callsIn_wide (n := 8)).1 ?_
  refine callsIn_of_wp_marks Try.func23 rfl trivial ?_ rfl
  simp only [Try.ntmps23, List.size_toArray, List.length_cons, List.length_nil, Nat.reduceAdd, Nat.reduceSub, Array.replicate_succ, Array.replicate_zero, List.push_toArray, List.append_toArray, List.nil_append, List.cons_append]
  refine wpIn_mono (Q := noP _) ?_ noP_of
  refine wpIn_wide.2 ?_
  go_wp2
  obtain ⟨mb, hmb⟩ : ∃ mb, mb = w.heap.size := ⟨_, rfl⟩
  obtain ⟨bx, hbx⟩ : ∃ bx, bx = w.heap.size + 1 := ⟨_, rfl⟩
  obtain ⟨B, hB⟩ : ∃ B, B = w.heap.size + 1 + 1 := ⟨_, rfl⟩
  have HM0 : Hid (MG B mb 0 (.map []) (fun _ => .slice none 0 0) (rsN vs gs 0) ((w.alloc (.map #[] 0)).alloc (.cells #[.map (some mb)] 82))) := by
    have h := (MG.start B w).keep (W' := (w.alloc (.map #[] 0)).alloc (.cells #[.map (some w.heap.size)] 82)) (alOld (by simp)) (fun k hk hl => alOld hl)
    rw [hmb]
    have e : rsN vs gs 0 = fun _ => [] := by funext s; rfl
    rw [e]; exact h
  have HX0 : Hid (((w.alloc (.map #[] 0)).alloc (.cells #[.map (some mb)] 82)).heap[bx]? = some (.cells #[.map (some mb)] 82 (0, 0))) := alAt (by simp [hbx])
  have HB0 : Hid (Below w.heap.size w ((w.alloc (.map #[] 0)).alloc (.cells #[.map (some mb)] 82))) := belA (belA (Below.refl _ _) _) _
  have HS0 : Hid (B ≤ ((w.alloc (.map #[] 0)).alloc (.cells #[.map (some mb)] 82)).heap.size) := by show B ≤ _; simp [hB]
  have h1 : w.heap.size ≤ mb := by omega
  have h2 : mb < bx := by omega
  have h3 : bx < B := by omega
  rw [← hbx, ← hmb]
  clear hmm hmb hbx hB
  generalize (w.alloc (.map #[] 0)).alloc (.cells #[.map (some mb)] 82) = W0 at HM0 HX0 HB0 HS0 ⊢
  go_loopw [22] (fun s22 W => ∃ (i : Nat) (D : DataW Value) (M : Nat → Value), i ≤ c ∧ s22 = .int .i64 i ∧ Hid (MG B mb i D M (rsN vs gs i) W) ∧ Hid (W.heap[bx]? = some (.cells #[.map (some mb)] 82 (0, 0))) ∧ Hid (Below w.heap.size w W) ∧ Hid (B ≤ W.heap.size)) (fun s22 W => c - (intOf s22).toNat)
  case atStart => exact ⟨0, .map [], _, Nat.zero_le _, rfl, HM0.out, HX0.out, HB0.out, HS0.out⟩
  case round =>
    clear HM0 HX0 HB0 HS0
    obtain ⟨i, D, M, hi, rfl, HM, HX, HB, HS⟩ := hrel
    by_cases hlt : i < c
    · have hil : i < vs.length := by rw [HV.out]; exact hlt
      obtain ⟨cL, _, _, _⟩ := HG.out.cell HV.out.symm i hil
      obtain ⟨v, hv⟩ : ∃ v, v = vs[i] := ⟨_, rfl⟩
      have HVI : Hid (vs[i]? = some v) := by show vs[i]? = some v; rw [List.getElem?_eq_getElem hil, hv]
      rw [← hv] at cL
      have hrow := HG.out.r i v HVI.out
      obtain ⟨m, hm⟩ : ∃ m, m = (gs i).length := ⟨_, rfl⟩
      rw [← hm] at hrow
      have HMl : Hid (m = szN gs i) := hm
      obtain ⟨va, vcap, rfl⟩ := own_slice hrow
      have hm4 : m ≤ 4096 := by rw [hm]; exact (HK.out.l i hlt).2
      have cL1 : wr.cell? ⟨gL, i, none⟩ = some (.slice va m vcap) := (HB.out.cell (p := ⟨gL, i, none⟩) hgl).trans cL
      have hglw : gL < wr.heap.size := Nat.lt_of_lt_of_le hgl HB.out.size
      have xc : wr.cell? ⟨bx, 0, none⟩ = some (.map (some mb)) := by rw [Lib.cell_of_heap HX.out]; rfl
      have hxl := hLt HX.out
      have hmr := HM.out.r m hm4
      have hrl := rsN_len vs gs i m
      obtain ⟨k, hk⟩ : ∃ k, k = (rsN vs gs i m).length := ⟨_, rfl⟩
      rw [← hk] at hmr hrl
      have HKl : Hid (k = (rsN vs gs i m).length) := hk
      obtain ⟨ma, mc, hMm⟩ := own_slice hmr
      have HMm : Hid (M m = .slice ma k mc) := hMm
      rw [hMm] at hmr
      obtain ⟨g9, cap9, W9, hrun, HO9, HG9, HLoc9⟩ := app_run infoInts Try.underlying28 rfl hmr (x := .slice va m vcap) rfl (by omega) (by decide) HS.out
      have hml := HM.out.own.lt
      have MD : ∀ W, W.heap[mb]? = wr.heap[mb]? → (∀ k, B ≤ k → k < wr.heap.size → W.heap[k]? = wr.heap[k]?) → (Instr.lookup 82 (.map (some mb)) (.int .i64 (m : Int)) false).run Try.prog W = .ok (.slice ma k mc) W := fun W a b => by
        rw [← HMm.out]; exact (HM.out.keep a b).look hm4
      have lk1 := MD wr.drew rfl (fun _ _ _ => rfl)
      have lk2 := MD (wr.alloc (.cells #[.slice va m vcap] 24)).drew (alOld hml) (fun q _ hq => alOld hq)
      obtain ⟨W10, D', hupd, HM10, HG10⟩ := HM.out.step (s := m) (x := .slice va m vcap) (v' := .slice (some ⟨g9, 0, none⟩) (k + 1) cap9) (by omega) hm4 (by omega) (W1 := (wr.alloc (.cells #[.slice va m vcap] 24)).drew) (fun j hj => alOld hj) (by show wr.heap.size ≤ (wr.heap.push _).size; simp) (by rw [← HKl.out]; exact HO9.out) (by rw [HMm.out]; exact HG9.out) (by rw [HMm.out]; exact HLoc9.out)
      have es9 : (wr.alloc (.cells #[.slice va m vcap] 24)).drew.heap.size = wr.heap.size + 1 := by show (wr.heap.push _).size = _; simp
      have hs9 := HG9.out.size
      rw [es9] at hs9
      have hs10 := HG10.out.size
      have kp9 : ∀ b, b < B → W9.heap[b]? = wr.heap[b]? := fun b hb => (HG9.out.block b (by have := HS.out; omega) (fun e => by have := (hmr.lt b e.symm).1; omega)).trans (alOld (by have := HS.out; omega))
      have xc9 : W9.cell? ⟨bx, 0, none⟩ = some (.map (some mb)) := (World.cell?_of_block (w := wr) (a := ⟨bx, 0, none⟩) (kp9 bx h3)).trans xc
      have hxl9 : bx < W9.heap.size := by omega
      have kp10 : ∀ b, b < B → b ≠ mb → W10.heap[b]? = wr.heap[b]? := fun b hb hne => (HG10.out.block b (by have := HS.out; omega) (fun e => hne (by injection e))).trans (kp9 b hb)
      have HX10 : Hid (W10.heap[bx]? = some (.cells #[.map (some mb)] 82 (0, 0))) := (kp10 bx h3 (by omega)).trans HX.out
      have HB10 : Hid (Below w.heap.size w W10) := ⟨HG10.out.os.trans (HG9.out.os.trans HB.out.os), HG10.out.tape.trans (HG9.out.tape.trans HB.out.tape), HG10.out.output.trans (HG9.out.output.trans HB.out.output), by have := HB.out.size; omega, fun b hb => (kp10 b (by omega) (by omega)).trans (HB.out.block b hb)⟩
      have HS10 : Hid (B ≤ W10.heap.size) := by show B ≤ W10.heap.size; have := HS.out; omega
      have HM11 : Hid (MG B mb (i + 1) D' (upd M m (.slice (some ⟨g9, 0, none⟩) (k + 1) cap9)) (rsN vs gs (i + 1)) W10) := by
        have h := HM10.out
        rw [rsN_step vs gs i HVI.out, ← HMl.out]; exact h
      have i1 : (0 : Int) ≤ (i : Int) := by omega
      have i2 : (i : Int) < (c : Int) := by omega
      clear hv hm hk hMm hmr MD HO9 HG9 HLoc9 HG10 HM10 kp9 kp10 hs9 hs10 es9 hrow cL HM HX HB HS hil
      go_wp2
      go_region_law (refine step_app rfl _ _ 28 rfl (.slice ma k mc) (.slice (some ⟨wr.heap.size, 0, none⟩) 1 1) (.slice (some ⟨g9, 0, none⟩) (k + 1) cap9) W9 (by simp [Act.eval, Act.put]) (by simp [Act.eval, Act.put]) (hrun _) ?_)
      all_goals
        go_wp2
        go_roundw
        case rel => exact ⟨i + 1, D', _, hlt, by go_num, HM11.out, HX10.out, HB10.out, HS10.out⟩
        case measure => simp [intOf]; omega
    · obtain rfl : i = c := by omega
      clear hi hlt
      have hmk1 := mkInts n (by omega)
      have hmk2 := mkInts p (by omega)
      have HKC : Hid (∀ (mb : Option Nat) (W : World), Calls Try.prog 40 #[.map mb] W fun e w' => e = .returned (.func (.func 54) #[] #[.pointer (some ⟨W.heap.size, 0, none⟩)]) ∧ w' = W.alloc (.cells #[.map mb] 82)) := keys_c
      obtain ⟨W1, hW1⟩ : ∃ W1, W1 = (((wr.alloc (.cells (madeCells #[.int .i64 0] n) 3)).alloc (.cells #[.slice (some ⟨wr.heap.size, 0, none⟩) n n] 24)).alloc (.cells (madeCells #[.int .i64 0] p) 3)).alloc (.cells #[.slice (some ⟨wr.heap.size + 1 + 1, 0, none⟩) p p] 24) := ⟨_, rfl⟩
      have hB1 : Below wr.heap.size wr W1 := by rw [hW1]; exact belA (belA (belA (belA (Below.refl _ _) _) _) _) _
      have hs1 : W1.heap.size = wr.heap.size + 1 + 1 + 1 + 1 := by rw [hW1]; simp
      have HM1 : Hid (MG B mb i D M (rsN vs gs i) W1) := HM.out.keep (hB1.block mb HM.out.own.lt) (fun k _ hk => hB1.block k hk)
      have HSC : Hid (Calls Try.prog 39 #[.func (.func 54) #[] #[.pointer (some ⟨wr.heap.size + 1 + 1 + 1 + 1, 0, none⟩)]] (W1.alloc (.cells #[.map (some mb)] 82)) (SizR (rsN vs gs i) W1.heap.size (W1.alloc (.cells #[.map (some mb)] 82)))) := by
        have h := sizes_c HM1.out hc ⟨szN gs 0, (HK.out.l 0 (by omega)).2, fun e => by
          have h0 : 0 ∈ bsz (szN gs) i (szN gs 0) := bsz_mem.2 ⟨by omega, rfl⟩
          unfold rsN at e
          rw [List.map_eq_nil_iff] at e
          rw [e] at h0; cases h0⟩
        rw [← hs1]; exact h
      have xc : W1.cell? ⟨bx, 0, none⟩ = some (.map (some mb)) := by rw [hB1.cell (p := ⟨bx, 0, none⟩) (hLt HX.out), Lib.cell_of_heap HX.out]; rfl
      have hxl := Nat.lt_of_lt_of_le (hLt HX.out) hB1.size
      have HW1 : Hid (W1 = (((wr.alloc (.cells (madeCells #[.int .i64 0] n) 3)).alloc (.cells #[.slice (some ⟨wr.heap.size, 0, none⟩) n n] 24)).alloc (.cells (madeCells #[.int .i64 0] p) 3)).alloc (.cells #[.slice (some ⟨wr.heap.size + 1 + 1, 0, none⟩) p p] 24)) := hW1
      have HB1 : Hid (Below wr.heap.size wr W1) := hB1
      have HS1 : Hid (W1.heap.size = wr.heap.size + 1 + 1 + 1 + 1) := hs1
      rw [hW1] at xc HSC
      clear hB1 hs1 hW1 hxl
      go_wp2_with (first
        | (go_at_call 40; refine (HKC.out _ _).mono ?_; rintro e w' ⟨rfl, rfl⟩)
        | (go_at_call 39; refine HSC.out.mono ?_; rintro e w4 ⟨gz, zl, zc, zs, rfl, HZl, hz4, HZc, HZg, HZn, HZm, HZb, HZB⟩)
        | (go_at_call 38; refine (back_c _ _ _ _).mono ?_; rintro e w' ⟨rfl, rfl⟩))
      -- CONT
      rw [← HW1.out] at HZb HZB
      obtain ⟨W0, hW0⟩ : ∃ W0, W0 = w4.alloc (.cells #[.slice (some ⟨gz, 0, none⟩) zl zc] 24) := ⟨_, rfl⟩
      obtain ⟨Bs, hBs⟩ : ∃ Bs, Bs = w4.heap.size := ⟨_, rfl⟩
      have hs4 : W1.heap.size + 1 ≤ w4.heap.size := by have := HZB.out.size; rw [World.size_alloc] at this; exact this
      have k4 : ∀ k, k < W1.heap.size → w4.heap[k]? = W1.heap[k]? := fun k hk => (HZB.out.block k (by omega)).trans (alOld hk)
      have k0 : ∀ k, k < W1.heap.size → W0.heap[k]? = W1.heap[k]? := fun k hk => by rw [hW0]; exact (alOld (by omega)).trans (k4 k hk)
      have s0 : W0.heap.size = w4.heap.size + 1 := by rw [hW0]; simp
      obtain ⟨O, hO⟩ : ∃ O, O = wr.heap.size := ⟨_, rfl⟩
      obtain ⟨b10, hb10⟩ : ∃ b10, b10 = wr.heap.size + 1 := ⟨_, rfl⟩
      obtain ⟨L, hL⟩ : ∃ L, L = wr.heap.size + 1 + 1 := ⟨_, rfl⟩
      obtain ⟨b11, hb11⟩ : ∃ b11, b11 = wr.heap.size + 1 + 1 + 1 := ⟨_, rfl⟩
      have hs1 := HS1.out
      have HRO : Hid (W0.rowIs O 3 n (fun _ => .int .i64 0)) := by
        refine World.rowIs.of_block (w := W1) ?_ (k0 O (by omega))
        rw [HW1.out, hO]
        exact (((World.rowIs_made wr (.int .i64 0) n 3).alloc _).alloc _).alloc _
      have HRL : Hid (W0.rowIs L 3 p (fun _ => .int .i64 0)) := by
        refine World.rowIs.of_block (w := W1) ?_ (k0 L (by omega))
        rw [HW1.out, hL]
        have h := World.rowIs_made ((wr.alloc (.cells (madeCells #[.int .i64 0] n) 3)).alloc (.cells #[.slice (some ⟨wr.heap.size, 0, none⟩) n n] 24)) (.int .i64 0) p 3
        rw [World.size_alloc, World.size_alloc] at h
        exact h.alloc _
      have HX10 : Hid (W0.heap[b10]? = some (.cells #[.slice (some ⟨O, 0, none⟩) n n] 24 (0, 0))) := by
        show W0.heap[b10]? = _
        rw [k0 b10 (by omega), HW1.out, hb10, hO, alOld (by simp), alOld (by simp), alAt (by simp)]
      have HX11 : Hid (W0.heap[b11]? = some (.cells #[.slice (some ⟨L, 0, none⟩) p p] 24 (0, 0))) := by
        show W0.heap[b11]? = _
        rw [k0 b11 (by omega), HW1.out, hb11, hL, alAt (by simp)]
      have HX7 : Hid (W0.heap[bx]? = some (.cells #[.map (some mb)] 82 (0, 0))) := (k0 bx (by have := hLt HX.out; omega)).trans ((HB1.out.block bx (hLt HX.out)).trans HX.out)
      have HMW : Hid (MG B mb i D M (rsN vs gs i) W0) := HM1.out.keep (k0 mb HM1.out.own.lt) (fun k _ hk => k0 k hk)
      have HBW : Hid (Below w.heap.size w W0) := by
        have a1 : Below w.heap.size w W1 := bel HB.out HB1.out
        have a2 : Below w.heap.size w w4 := ⟨HZB.out.os.trans a1.os, HZB.out.tape.trans a1.tape, HZB.out.output.trans a1.output, by have := a1.size; omega, fun k hk => (k4 k (by have := a1.size; omega)).trans (a1.block k hk)⟩
        rw [hW0]; exact belA a2 _
      have hOW : O < W0.heap.size := by omega
      have hLW : L < W0.heap.size := by omega
      have hBsW : Bs < W0.heap.size := by omega
      have hgzW : gz < W0.heap.size := by have := HZg.out; omega
      have hOL : O ≠ L := by omega
      have hOL2 : O < L := by omega
      have hgzb := HZb.out
      have gzc : ∀ j (hj : j < zs.length), W0.cell? ⟨gz, j, none⟩ = some (.int .i64 ((zs[j] : Nat) : Int)) := fun j hj => by
        rw [hW0, World.cell?_of_block (w := w4) (a := ⟨gz, j, none⟩) (alOld HZg.out)]; exact HZc.out j hj
      have bsc : W0.cell? ⟨Bs, 0, none⟩ = some (.slice (some ⟨gz, 0, none⟩) zl zc) := by
        rw [hW0, Lib.cell_of_heap (alAt (n := Bs) hBs.symm)]; rfl
      have hOB : B ≤ O := by have := HS.out; omega
      have hwO : w.heap.size ≤ O := by have := HB.out.size; omega
      have n1 : b10 ≠ O := by omega
      have n2 : b10 ≠ L := by omega
      have n3 : b11 ≠ O := by omega
      have n4 : b11 ≠ L := by omega
      have n5 : bx ≠ O := by have := hLt HX.out; omega
      have n6 : bx ≠ L := by have := hLt HX.out; omega
      have n7 : gz ≠ O := by omega
      have n8 : gz ≠ L := by omega
      have n9 : Bs ≠ O := by omega
      have n10 : Bs ≠ L := by omega
      have l10 : b10 < W0.heap.size := hLt HX10.out
      have l11 : b11 < W0.heap.size := hLt HX11.out
      have l7 : bx < W0.heap.size := hLt HX7.out
      have HMO : Hid (∀ s, s ≤ 4096 → (M s).ownBlock ≠ some O ∧ (M s).ownBlock ≠ some L) := fun s hs => by
        have h := HM.out.r s hs
        exact ⟨fun e => by have := (h.lt O e).2; omega, fun e => by have := (h.lt L e).2; omega⟩
      rw [← hW0, ← hBs, ← hb11, ← hL, ← hb10, ← hO]
      clear hW0 hBs k4 k0 s0 hs4 hs1 hO hb10 hL hb11 HW1 HB1 HS1 HZc HZg HZb HZB HM HX HB HS HM1 HSC HKC hmk1 hmk2 xc hgzb
      refine (wpIn_wide (n := 8)).1 ?_
      refine wpIn_rangeFunc_ownG (n := 8) (F := Fence.wide) rfl (by omega) (gf := 51) (lb := #[.pointer (some ⟨Bs, 0, none⟩)]) rfl trivial (enters_of Try.func51 (by kernel_rfl) rfl)
        (back_stops Fence.wide 7 trivial rfl (by omega) Bs gz zl zc zs HZl.out (fun z hz => ((HZm.out z).1 hz).1) (by omega) W0 hBsW hgzW bsc gzc) (fun h k => h.trans k) ?hKb (Below.refl _ _) (fun _ => rfl)
        (DlI n i p cl gs O L W0) (fun _ _ _ => False) (DlI.own hOW hLW) (fun _ _ _ _ _ h _ _ => h) ?h0 (fun x => { tmps := #[.slice (some ⟨gL, 0, none⟩) i cap, .int .i64 (n : Int), .int .i64 (p : Int), undef, undef, undef, .slice none 0 0, .pointer (some ⟨bx, 0, none⟩), undef, u9, .pointer (some ⟨b10, 0, none⟩), .pointer (some ⟨b11, 0, none⟩), undef, .int .i64 ((x.1.2 : Nat) : Int), undef, undef, undef, undef, undef, .map (some mb), .slice (some ⟨gL, 0, none⟩) i cap, .int .i64 (i : Int), .int .i64 (i : Int), .bool false, u24, u25, u26, u27, u28, u29, u30, u31, u32, u33, u34, u35, u36, .int .i64 (n : Int), .slice (some ⟨O, 0, none⟩) n n, .int .i64 (p : Int), .slice (some ⟨L, 0, none⟩) p p, .map (some mb), .func (.func 54) #[] #[.pointer (some ⟨b11 + 1, 0, none⟩)], .slice (some ⟨gz, 0, none⟩) zl zc, .func (.func 51) #[] #[.pointer (some ⟨Bs, 0, none⟩)], .int .i64 ((x.1.1 : Nat) : Int), .int .i64 ((x.1.2 : Nat) : Int), undef, undef, undef, undef, undef, undef, undef, undef, undef, undef, undef, undef, undef, undef, undef, undef, undef, undef, undef, undef, undef, undef, undef, undef, undef, undef, undef, undef, undef, undef, undef, undef], defers := [] }) ?assign ?body ?done ?stop
      case stop => intro D' c' pre W _ _ h; exact h.elim
      case hKb =>
        intro W l o o' hl hlo _ _
        exact ⟨World.putObj_heap_other (by omega), World.putObj_heap_other (by omega), by simp⟩
      case h0 =>
        exact ⟨fun _ => 0, fun _ => 0, HRO.out, HRL.out, ⟨rfl, rfl, rfl, Nat.le_refl _, fun _ _ _ _ => rfl⟩, fun k hk => ⟨Int.le_refl _, by simp⟩, fun _ => by simpa [bkS, dlt] using (Dl.start (n := n) (c := i) (cl := cl) (p := p) (by omega))⟩
      case assign =>
        intro l x W K hK
        simp only [bkE]
        gi_wp2
        exact hK
      case done =>
        rintro D' xs W hD hS ⟨of, ld, hO1, hL1, hF1, hBd, hGd⟩ hK
        have x10 : W.cell? ⟨b10, 0, none⟩ = some (.slice (some ⟨O, 0, none⟩) n n) := by rw [Lib.cell_of_heap ((hF1.block b10 l10 n1 n2).trans HX10.out)]; rfl
        have l10' : b10 < W.heap.size := Nat.lt_of_lt_of_le l10 hF1.size
        have HDl : Hid (Dealt n p cl of) := by
          have h := hGd (by rw [hS]; exact List.pairwise_reverse.2 (List.Pairwise.imp_of_mem (fun _ _ h => h.symm) HZn.out))
          have h9 := h.done hpc (fun j hj => (HK.out.b j hj).1) (fun k hk => dlt_mem.2 ⟨hk, by
            rw [hS, List.mem_reverse]
            refine (HZm.out _).2 ⟨(HK.out.l k hk).2, fun e => ?_⟩
            have h0 : k ∈ bsz (szN gs) i (szN gs k) := bsz_mem.2 ⟨hk, rfl⟩
            unfold rsN at e
            rw [List.map_eq_nil_iff] at e
            rw [e] at h0; cases h0⟩)
          exact ⟨h9.1, h9.2.1, h9.2.2⟩
        clear hGd hBd
        go_wp2
        change bodyPostM _ _ _ _ _ Exit.ret _ _
        have kD : ∀ k, k < W0.heap.size → (W.putObj D' (.deferred none)).heap[k]? = W.heap[k]? := fun k hk => World.putObj_heap_other (by omega)
        refine ⟨by simp, .inl ⟨_, _, rfl, run_takeDeferred hK, ?_⟩⟩
        refine ⟨_, results_tmp rfl _ _ _, O, of, rfl, hwO, hO1.of_block (kD O hOW), HDl.out, ?_⟩
        refine ⟨hF1.os.trans HBW.out.os, hF1.tape.trans HBW.out.tape, hF1.output.trans HBW.out.output, ?_, fun k hk => ?_⟩
        · have h1 := HBW.out.size
          have h2 := hF1.size
          show w.heap.size ≤ (W.putObj D' (.deferred none)).heap.size
          simp
          omega
        · have h1 := HBW.out.size
          rw [kD k (by omega), hF1.block k (by omega) (by omega) (by omega)]
          exact HBW.out.block k hk
      case body =>
        rintro l pre ⟨⟨jx, s⟩, hs⟩ W ⟨of, ld, hO1, hL1, hF1, hBd, hGd⟩ hlen
        dsimp only at hs
        have hFs := hF1.size
        have HF1 : Hid (Fr O L W0.heap.size W0 W) := hF1
        obtain ⟨k, hk⟩ : ∃ k, k = (rsN vs gs i s).length := ⟨_, rfl⟩
        have hrowM := HMW.out.r s hs
        rw [← hk] at hrowM
        obtain ⟨ma, mc, hMs⟩ := own_slice hrowM
        have HKB : Hid (k = (bsz (szN gs) i s).length) := by show k = _; rw [hk]; unfold rsN; rw [List.length_map]
        have hki : k ≤ i := by rw [hk]; exact rsN_len vs gs i s
        have HAt : Hid (∀ W', Ch O L W W' → (W'.cell? ⟨bx, 0, none⟩ = some (.map (some mb)) ∧ W'.cell? ⟨b10, 0, none⟩ = some (.slice (some ⟨O, 0, none⟩) n n) ∧ W'.cell? ⟨b11, 0, none⟩ = some (.slice (some ⟨L, 0, none⟩) p p)) ∧ bx < W'.heap.size ∧ b10 < W'.heap.size ∧ b11 < W'.heap.size) := fun W' hc' => by
          have hf := hF1.ch hc'
          have hz := hf.size
          refine ⟨⟨?_, ?_, ?_⟩, by omega, by omega, by omega⟩
          · rw [Lib.cell_of_heap ((hf.block bx l7 n5 n6).trans HX7.out)]; rfl
          · rw [Lib.cell_of_heap ((hf.block b10 l10 n1 n2).trans HX10.out)]; rfl
          · rw [Lib.cell_of_heap ((hf.block b11 l11 n3 n4).trans HX11.out)]; rfl
        have HMF : ∀ W', Ch O L W W' → MG B mb i D M (rsN vs gs i) W' := fun W' hc' => by
          have hf := hF1.ch hc'
          exact HMW.out.keep2 (hf.block mb HMW.out.own.lt (by omega) (by omega)) fun s' hs' q e => hf.block q ((HMW.out.r s' hs').lt q e).2 (fun e2 => (HMO.out s' hs').1 (by rw [e, e2])) (fun e2 => (HMO.out s' hs').2 (by rw [e, e2]))
        have lk : (Instr.lookup 82 (.map (some mb)) (.int .i64 (s : Int)) false).run Try.prog W = .ok (.slice ma k mc) W := by rw [← hMs]; exact (HMF W (Ch.refl _ _ _)).look hs
        have HRC : Hid (∀ W', Ch O L W W' → ∀ t (ht : t < k), ∃ (gM g : Nat) (v : Value), ma = some ⟨gM, 0, none⟩ ∧ gM < W'.heap.size ∧ W'.cell? ⟨gM, t, none⟩ = some v ∧ Hid ((bsz (szN gs) i s)[t]? = some g) ∧ Hid (vs[g]? = some v)) := fun W' hc' t ht => by
          have hr := (HMF W' hc').r s hs
          rw [← hk, hMs] at hr
          obtain ⟨k', hk'⟩ : ∃ k', k = k' + 1 := ⟨k - 1, by omega⟩
          rw [hk'] at hr
          obtain ⟨gM, mc', e⟩ := own_slice1 hr
          rw [e] at hr
          injection e with e1 e2 e3
          have htb : t < (bsz (szN gs) i s).length := by rw [← HKB.out]; exact ht
          have hgi := (bsz_mem.1 (List.getElem_mem htb)).1
          have hgv : (bsz (szN gs) i s)[t] < vs.length := by rw [HV.out]; exact hgi
          refine ⟨gM, (bsz (szN gs) i s)[t], vs[(bsz (szN gs) i s)[t]], e1, (hr.lt gM rfl).2, ?_, List.getElem?_eq_getElem htb, List.getElem?_eq_getElem hgv⟩
          rw [hr.cellAt t (by omega)]
          unfold rsN
          rw [List.getElem?_map, List.getElem?_eq_getElem htb]
          show some (gvN vs _) = _
          rw [gvN_at (List.getElem?_eq_getElem hgv)]
        have HBd : Hid (∀ k, k < p → 0 ≤ ld k ∧ ld k ≤ 4096 * ((pre.length * 4096 + 0 : Nat) : Int)) := fun k hk => by have := hBd k hk; rw [Nat.add_zero]; exact this
        have HGd : Hid ((bkS pre ++ [s]).Nodup → Dl n i p cl (dlt (szN gs) i (bkS pre) ++ (bsz (szN gs) i s).take 0) of ld) := fun h => by
          have h' := hGd (List.nodup_append.1 h).1
          simpa using h'
        have HO1 : Hid (W.rowIs O 3 n (fun q => .int .i64 (of q))) := hO1
        have HL1 : Hid (W.rowIs L 3 p (fun q => .int .i64 (ld q))) := hL1
        obtain ⟨⟨x7, x10, x11⟩, y7, y10, y11⟩ := HAt.out W (Ch.refl _ _ _)
        have hpl : pre.length < 4096 := by omega
        clear hk hrowM hMs HMF hBd hGd hO1 hL1 hF1
        gi_wp2
        gi_loopw [51] (fun s51 Wt => ∃ (t : Nat) (of' ld' : Nat → Int), t ≤ k ∧ s51 = .int .i64 t ∧ Hid (Wt.rowIs O 3 n (fun q => .int .i64 (of' q))) ∧ Hid (Wt.rowIs L 3 p (fun q => .int .i64 (ld' q))) ∧ Hid (Ch O L W Wt) ∧ Hid (∀ q, q < p → 0 ≤ ld' q ∧ ld' q ≤ 4096 * ((pre.length * 4096 + t : Nat) : Int)) ∧ Hid ((bkS pre ++ [s]).Nodup → Dl n i p cl (dlt (szN gs) i (bkS pre) ++ (bsz (szN gs) i s).take t) of' ld')) (fun s51 Wt => k - (intOf s51).toNat)
        case atStart => exact ⟨0, of, ld, Nat.zero_le _, rfl, HO1.out, HL1.out, Ch.refl _ _ _, HBd.out, HGd.out⟩
        case round =>
          clear HO1 HL1 HBd HGd x7 x10 x11 y7 y10 y11 lk
          obtain ⟨t, of', ld', ht, rfl, HO, HL, HC, HBd, HGd⟩ := hrel
          obtain ⟨⟨x7, x10, x11⟩, y7, y10, y11⟩ := HAt.out wr HC.out
          by_cases hlt : t < k
          · obtain ⟨gM, g, v, hma, hgM, cM, HGt, HVg⟩ := HRC.out wr HC.out t hlt
            subst hma
            obtain ⟨hgi, hgs⟩ := bsz_mem.1 (List.mem_of_getElem? HGt.out)
            have hrow := HG.out.r g v HVg.out
            have hsg : (gs g).length = s := hgs
            rw [hsg] at hrow
            have hs1 : 1 ≤ s := by have := (HK.out.l g hgi).1; omega
            obtain ⟨s', hs'⟩ : ∃ s', s = s' + 1 := ⟨s - 1, by omega⟩
            have hrow2 := hrow
            rw [hs'] at hrow2
            obtain ⟨gv, vcap, hv⟩ := own_slice1 hrow2
            rw [← hs'] at hv
            subst hv
            have hgvl := (hrow.lt gv rfl).2
            have HGC : Hid (∀ W', Ch O L W W' → ∀ j (hj : j < (gs g).length), W'.cell? ⟨gv, j, none⟩ = some (.int .i64 (((gs g)[j] : Nat) : Int))) := fun W' hc' j hj => by
              have hf := HF1.out.ch hc'
              have hbz := HBW.out.size
              rw [World.cell?_of_block (w := W0) (a := ⟨gv, j, none⟩) (hf.block gv (by omega) (by omega) (by omega)), HBW.out.cell (p := ⟨gv, j, none⟩) hgvl, hrow.cellAt j (by omega)]
              unfold iC nZ
              rw [List.getElem?_map, List.getElem?_map, List.getElem?_eq_getElem hj]; rfl
            obtain ⟨q, hq, hqm, hqf⟩ := first_least ld' p hp1
            have HQM : Hid (∀ i, i < p → ld' q ≤ ld' i) := hqm
            have HMin : Hid (∀ nq : Nat, Calls Try.prog 42 #[.slice (some ⟨L, 0, none⟩) p p] wr.drew fun e w' => e = .returned (.int .i64 (ld' q)) ∧ w' = wr.drew) := fun nq => min_x (f := ld') (fun i hi => HL.out.cell hi) hq hqm (by omega)
            have HIdx : Hid (∀ nq : Nat, Calls Try.prog 41 #[.slice (some ⟨L, 0, none⟩) p p, .int .i64 (ld' q)] wr.drew fun e w' => e = .returned (.int .i64 (q : Int)) ∧ w' = wr.drew) := fun nq => index_x (f := ld') (fun i hi => HL.out.cell hi) hq hqf (by omega)
            have t1 : (0 : Int) ≤ (t : Int) := by omega
            have t2 : (t : Int) < (k : Int) := by omega
            have q1 : (0 : Int) ≤ (q : Int) := by omega
            have q2 : (q : Int) < (p : Int) := by omega
            have cq : wr.cell? ⟨L, q, none⟩ = some (.int .i64 (ld' q)) := HL.out.cell hq
            have fq := HL.out.frozen q
            have lL := HL.out.lt
            have hbq := HBd.out q hq
            clear hrow hrow2 hs' hgs hqm hqf
            gi_wp2
            have hmx : Try.prog.follows .mixedOrders = true := by kernel_rfl
            have hwr : IntKind.i64.wrap (ld' q + (s : Int)) = ld' q + (s : Int) := by rw [IntKind.wrap_i64]; omega
            gi_region_with_o (first
              | (refine ⟨trivial, ?_⟩; gi_at_call 42; refine (CallsIn.inRound l (callsIn_wide.2 (HMin.out 0))).mono ?_; rintro e w' ⟨rfl, rfl⟩)
              | (refine ⟨trivial, ?_⟩; gi_at_call 41; refine (CallsIn.inRound l (callsIn_wide.2 (HIdx.out 0))).mono ?_; rintro e w' ⟨rfl, rfl⟩))
            all_goals gi_wp2
            all_goals
              have HL2 : Hid ((wr.setCell ⟨L, q, none⟩ (.int .i64 (ld' q + (s : Int)))).drew.rowIs L 3 p (fun z => .int .i64 (upd ld' q (ld' q + (s : Int)) z))) := World.rowIs.congr ((HL.out.set q (.int .i64 (ld' q + (s : Int)))).drew) (fun z _ => by unfold upd; split <;> rfl)
              have HO2 : Hid ((wr.setCell ⟨L, q, none⟩ (.int .i64 (ld' q + (s : Int)))).drew.rowIs O 3 n (fun z => .int .i64 (of' z))) := World.rowIs.drew (HO.out.setOther hOL _)
              have HC2 : Hid (Ch O L W (wr.setCell ⟨L, q, none⟩ (.int .i64 (ld' q + (s : Int)))).drew) := Ch.drewN (HC.out.set (Or.inr rfl) q _) 1
              have HGo : Hid (∀ z ∈ gs g, z < n ∧ cl z = g) := HK.out.a g hgi
              generalize hWA : (wr.setCell ⟨L, q, none⟩ (.int .i64 (ld' q + (s : Int)))).drew = WA at HL2 HO2 HC2 ⊢
              clear hWA HMin HIdx cq fq x7 x10 x11 y7 y10 y11 hwr cM
              gi_loopw [68] (fun s68 Wj => ∃ (j : Nat) (of'' : Nat → Int), j ≤ s ∧ s68 = .int .i64 j ∧ Hid (Wj.rowIs O 3 n (fun z => .int .i64 (of'' z))) ∧ Hid (∀ z, z < n → of'' z = if z ∈ (gs g).take j then (q : Int) else of' z) ∧ Hid (Wj.rowIs L 3 p (fun z => .int .i64 (upd ld' q (ld' q + (s : Int)) z))) ∧ Hid (Ch O L W Wj)) (fun s68 Wj => s - (intOf s68).toNat)
              case atStart => exact ⟨0, of', Nat.zero_le _, rfl, HO2.out, fun z _ => by simp, HL2.out, HC2.out⟩
              case round =>
                clear HO2 HL2 HC2
                obtain ⟨j, of'', hj, rfl, HO3, HE3, HL3, HC3⟩ := hrel
                obtain ⟨⟨x7, x10, x11⟩, y7, y10, y11⟩ := HAt.out wr HC3.out
                by_cases hlj : j < s
                · have hjl : j < (gs g).length := by omega
                  have cj := HGC.out wr HC3.out j hjl
                  obtain ⟨hzn, hzc⟩ := HGo.out _ (List.getElem_mem hjl)
                  have HT : Hid ((gs g).take (j + 1) = (gs g).take j ++ [(gs g)[j]]) := List.take_succ_eq_append_getElem hjl
                  generalize (gs g)[j] = z at cj hzn hzc HT
                  have cz := HO3.out.cell hzn
                  have fz := HO3.out.frozen z
                  have lO := HO3.out.lt
                  have z1 : (0 : Int) ≤ (z : Int) := by omega
                  have z2 : (z : Int) < (n : Int) := by omega
                  have j1 : (0 : Int) ≤ (j : Int) := by omega
                  have j2 : (j : Int) < (s : Int) := by omega
                  clear x7 x11 y7 y11
                  gi_wp2
                  go_roundw
                  case rel =>
                    refine ⟨j + 1, upd of'' z (q : Int), hlj, by go_num, World.rowIs.congr (HO3.out.set z _) (fun y _ => by unfold upd; split <;> rfl), fun y hy => ?_, HL3.out.setOther hOL.symm _, HC3.out.set (Or.inl rfl) z _⟩
                    rw [HT.out]
                    unfold upd
                    by_cases e : y = z
                    · rw [if_pos e, if_pos (by rw [e]; simp)]
                    · rw [if_neg e, HE3.out y hy]
                      by_cases e2 : y ∈ (gs g).take j
                      · rw [if_pos e2, if_pos (List.mem_append.2 (Or.inl e2))]
                      · rw [if_neg e2, if_neg (fun h => (List.mem_append.1 h).elim e2 (fun h => e (by simpa using h)))]
                  case measure => simp [intOf]; omega
                · obtain rfl : j = s := by omega
                  gi_wp2
                  go_roundw
                  case rel =>
                    refine ⟨t + 1, of'', _, hlt, by go_num, HO3.out, HL3.out, HC3.out, fun y hy => ?_, fun hnd => ?_⟩
                    · have h1 := HBd.out y hy
                      have h2 := HBd.out q hq
                      unfold upd
                      split <;> omega
                    · have hd := HGd.out hnd
                      have htb : t < (bsz (szN gs) i j).length := by rw [← HKB.out]; exact hlt
                      have hge : (bsz (szN gs) i j)[t] = g := by have := HGt.out; rw [List.getElem?_eq_getElem htb] at this; injection this
                      have hnew := dlt_new (sz := szN gs) (c := i) (ss := bkS pre) (s := j) (t := t) (by
                        intro hm
                        have := (List.nodup_append.1 hnd).2.2 j hm j (by simp)
                        exact this rfl) htb
                      rw [hge] at hnew
                      rw [List.take_succ_eq_append_getElem htb, hge, ← List.append_assoc]
                      refine hd.step hnew hq HQM.out hs1 hs ⟨(gs g)[0]'(by omega), HGo.out _ (List.getElem_mem _)⟩ (fun y hy => ?_)
                      rw [HE3.out y hy, List.take_of_length_le (by omega)]
                      by_cases e : cl y = g
                      · rw [if_pos e, if_pos (by have := (HK.out.b y hy).2; rw [e] at this; exact this)]
                      · rw [if_neg e, if_neg (fun h => e (HGo.out y h).2)]
                  case measure => simp [intOf]; omega
          · obtain rfl : k = t := by omega
            gi_wp2
            refine ⟨⟨by rw [HC.out.size]; exact Nat.le_refl _, fun b o hb hbo _ => (HC.out.block b (by omega) (by omega)).trans hbo⟩, ⟨HC.out.block Bs n9 n10, HC.out.block gz n7 n8, by rw [HC.out.size]; exact Nat.le_refl _⟩, ?_⟩
            refine ⟨of', ld', HO.out, HL.out, HF1.out.ch HC.out, fun q hq => ?_, fun hnd => ?_⟩
            · have h := HBd.out q hq
              rw [List.length_append]
              show 0 ≤ ld' q ∧ ld' q ≤ 4096 * (((pre.length + 1) * 4096 : Nat) : Int)
              omega
            · rw [bkS_snoc] at hnd ⊢
              have h := HGd.out hnd
              rw [List.take_of_length_le (by rw [HKB.out]; exact Nat.le_refl _)] at h
              rw [dlt_snoc]; exact h
end Go.Proofs.Ytkgonnnpoldcoaa

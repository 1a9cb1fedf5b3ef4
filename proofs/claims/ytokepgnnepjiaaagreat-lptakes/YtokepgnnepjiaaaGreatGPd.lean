/- Texts PD PE, joined: what each part says stands ahead of it. -/
import Derived.Test.YtokepgnnepjiaaaGreatGPa
/- A process: unknown, followed, risen, settled. -/
namespace Go.Proofs.YtokepgnnepjiaaaGreat
set_option maxRecDepth 100000
open Go.RowKit Lg Nl Go.Maps
set_option linter.unusedVariables false
set_option linter.unusedSimpArgs false

set_option maxHeartbeats 400000 in
theorem repeat1_c (s : ByteArray) (w : World) : Calls Tryz.prog 95 #[.string s, .int .i64 1] w fun e w' => e = .returned (.string s) ∧ w' = w := by
  go_enter Tryz.func95, Tryz.ntmps95
  go_wp2
  go_ret
  exact ⟨rfl, rfl⟩
set_option maxHeartbeats 400000 in
theorem unk_c (k op hi lo tm : Int) (ia : Option Addr) (n ic : Nat) (vl : ByteArray) (w : World) : Calls Tryz.prog 72 #[.agg #[.int .i64 k, .int .i64 op, .int .i64 1, .slice ia n ic, .string vl, .int .i64 hi, .int .i64 lo, .int .i64 tm]] w fun e w' => e = .returned (.string ⟨#[120]⟩) ∧ Below w.heap.size w w' := by
  go_enter Tryz.func72, Tryz.ntmps72
  go_wp2_with (first
    | (go_at_call 95; refine (repeat1_c _ _).mono ?_; rintro e w1 ⟨rfl, hw⟩; rw [hw]; clear hw))
  go_ret
  exact ⟨rfl, belA (Below.refl _ _) _⟩
theorem belG {w W W' : World} {row : Option Nat} (hb : Below w.heap.size w W) (hg : W.grownBy W' row) (hr : ∀ g, row = some g → w.heap.size ≤ g) : Below w.heap.size w W' :=
  ⟨hg.os.trans hb.os, hg.tape.trans hb.tape, hg.output.trans hb.output, Nat.le_trans hb.size hg.size, fun k hk => (hg.block k (by have := hb.size; omega) (fun e => by have := hr k e.symm; omega)).trans (hb.block k hk)⟩
theorem infoStr : ∃ i, Tryz.prog.info? 9 = some i ∧ i.zero = some (.string ⟨#[]⟩) ∧ i.size = 1 ∧ i.bytes = 16 := Q.info_parts (by kernel_rfl)
/-- a row of one text -/
structure V1 (B g : Nat) (v : ByteArray) (W : World) : Prop where
  ge : B ≤ g
  c : W.cell? ⟨g, 0, none⟩ = some (.string v)
  f : W.frozen? ⟨g, 0, none⟩ = false
theorem V1.lt {B g : Nat} {v : ByteArray} {W : World} (h : V1 B g v W) : g < W.heap.size := World.block_lt_of_cell? W ⟨g, 0, none⟩ h.c
theorem V1.keep {B g : Nat} {v : ByteArray} {W W' : World} (h : V1 B g v W) (e : W'.heap[g]? = W.heap[g]?) : V1 B g v W' := ⟨h.ge, (cellE e).trans h.c, (frozE e).trans h.f⟩
theorem V1.below {B g : Nat} {v : ByteArray} {W W' : World} (h : V1 B g v W) (hb : Below W.heap.size W W') : V1 B g v W' := h.keep (hb.block g h.lt)
set_option maxHeartbeats 2000000 in
theorem cloneS_c (bA cA : Nat) (v : ByteArray) (w : World) (h : w.cell? ⟨bA, 0, none⟩ = some (.string v)) : Calls Tryz.prog 97 #[.slice (some ⟨bA, 0, none⟩) 1 cA] w fun e w' => ∃ g cap, e = .returned (.slice (some ⟨g, 0, none⟩) 1 cap) ∧ Hid (V1 w.heap.size g v w') ∧ Below w.heap.size w w' := by
  obtain ⟨i, h1, h2, h3, h4⟩ := infoStr
  have HC : Hid (w.cell? ⟨bA, 0, none⟩ = some (.string v)) := h
  have hl := World.block_lt_of_cell? w ⟨bA, 0, none⟩ h
  clear h
  have he : ∀ W, (binOp BinOp.eql 48 (.slice (some ⟨bA, 0, none⟩) 1 cA) (.slice none 0 0)).run Tryz.prog W = .ok (.bool false) W := fun W => by kernel_rfl
  go_enter Tryz.func97, Tryz.ntmps97
  go_wp2_with (first
    | (at_builtin; refine wpList_append_own_at _ rfl _ _ 48 rfl w.heap.size 9 i _ 1 16 Tryz.underlying48 h1 h2 h3 h4 rfl (by decide) _ 0 [] rfl (World.ownsRow_made w #[] 0 (Nat.le_refl _) (by unfold maxLen; omega) rfl) ⟨bA, 0, none⟩ 1 cA [.string v] rfl rfl (fun j u hj => by
        match j, hj with
        | 0, hj => simp at hj; subst hj; exact ((belA (Below.refl _ _) _).cell (p := ⟨bA, 0, none⟩) hl).trans HC.out
        | n + 1, hj => simp at hj) (by intro u hu; simp at hu; subst hu; rfl) (by unfold maxLen; omega) (by omega) (by simp) ?_; intro v9 w9 hown9 hgrow9 hnil9 hloc9))
  have hl9 := World.ownsRow.lt hown9
  obtain ⟨g', cap', rfl⟩ : ∃ g' cap', v9 = .slice (some ⟨g', 0, none⟩) 1 cap' := by
    rcases hown9.2 with ⟨e, _⟩ | ⟨g', cap', cur, e, _⟩
    · have := (hnil9.1 e).1
      simp [Act.eval] at this
    · exact ⟨g', cap', by rw [e]⟩
  go_ret
  refine ⟨g', ⟨cap', rfl⟩, ?_, ?_⟩
  · exact ⟨(hl9 g' rfl).1, by rw [hown9.cellAt 0 (by omega)]; rfl, hown9.frozenAt 0⟩
  · exact belG (belA (Below.refl w.heap.size w) (.cells #[] 9)) hgrow9 (by simp [Act.eval, Value.ownBlock])
/-- values that a node gets, one behind the other: the last counts -/
def lastV (v : ByteArray) (vs : List ByteArray) : ByteArray := vs.getLast?.getD v
theorem lastV_nil (v : ByteArray) : lastV v [] = v := rfl
theorem lastV_snoc (v : ByteArray) {vs : List ByteArray} {i : Nat} (h : i < vs.length) : lastV v (vs.take (i + 1)) = vs[i] := by
  unfold lastV; rw [List.take_succ_eq_append_getElem h, List.getLast?_concat]; rfl
/-- a row of what the node of a process gets -/
def GotsAt (W : World) (ao : Option Addr) (vs : List ByteArray) : Prop := vs = [] ∨ ∃ g, ao = some ⟨g, 0, none⟩ ∧ ∀ i (h : i < vs.length), W.cell? ⟨g, i * 2, none⟩ = some (.int .i64 0) ∧ W.cell? ⟨g, i * 2 + 1, none⟩ = some (.string vs[i])
theorem GotsAt.below {W W' : World} {ao : Option Addr} {vs : List ByteArray} (h : GotsAt W ao vs) (hb : Below W.heap.size W W') : GotsAt W' ao vs := by
  rcases h with h | ⟨g, e, h⟩
  · exact Or.inl h
  · exact Or.inr ⟨g, e, fun i hi => ⟨(hb.cell (p := ⟨g, i * 2, none⟩) (World.block_lt_of_cell? W ⟨g, i * 2, none⟩ (h i hi).1)).trans (h i hi).1, (hb.cell (p := ⟨g, i * 2 + 1, none⟩) (World.block_lt_of_cell? W ⟨g, i * 2 + 1, none⟩ (h i hi).2)).trans (h i hi).2⟩⟩
theorem GotsAt.some_ {W : World} {ao : Option Addr} {vs : List ByteArray} (h : GotsAt W ao vs) (hl : 0 < vs.length) : ∃ g, ao = some ⟨g, 0, none⟩ ∧ g < W.heap.size ∧ ∀ i (h : i < vs.length), W.cell? ⟨g, i * 2, none⟩ = some (.int .i64 0) ∧ W.cell? ⟨g, i * 2 + 1, none⟩ = some (.string vs[i]) := by
  rcases h with rfl | ⟨g, e, h⟩
  · cases hl
  · exact ⟨g, e, World.block_lt_of_cell? W ⟨g, 0 * 2, none⟩ (h 0 hl).1, h⟩
/-- followed's own: the box of the values, and their row -/
structure Fl (w : World) (X g cap : Nat) (v : ByteArray) (W : World) : Prop where
  bl : Below w.heap.size w W
  x : W.heap[X]? = some (.cells #[.slice (some ⟨g, 0, none⟩) 1 cap] 48 (0, 0))
  xn : w.heap.size ≤ X
  r : V1 w.heap.size g v W
  ne : g ≠ X
theorem Fl.alloc {w W : World} {X g cap : Nat} {v : ByteArray} {o : Obj} (h : Fl w X g cap v W) : Fl w X g cap v (W.alloc o) := ⟨belA h.bl _, (alOld (hLt h.x)).trans h.x, h.xn, h.r.keep (alOld h.r.lt), h.ne⟩
theorem Fl.below {w W W' : World} {X g cap : Nat} {v : ByteArray} (h : Fl w X g cap v W) (hb : Below W.heap.size W W') : Fl w X g cap v W' := ⟨bel h.bl hb, (hb.block X (hLt h.x)).trans h.x, h.xn, h.r.below hb, h.ne⟩
theorem setc_at {W : World} {b i : Nat} {u v : Value} (h : W.cell? ⟨b, i, none⟩ = some u) (hf : W.frozen? ⟨b, i, none⟩ = false) : (W.setCell ⟨b, i, none⟩ v).cell? ⟨b, i, none⟩ = some v ∧ (W.setCell ⟨b, i, none⟩ v).frozen? ⟨b, i, none⟩ = false := ⟨World.cell?_setCell_same _ _ _ h, by rw [World.frozen?_setCell]; exact hf⟩
theorem Fl.set {w W : World} {X g cap : Nat} {v u : ByteArray} (h : Fl w X g cap v W) : Fl w X g cap u (W.setCell ⟨g, 0, none⟩ (.string u)) := by
  have hne : ∀ k, k ≠ g → (W.setCell ⟨g, 0, none⟩ (.string u)).heap[k]? = W.heap[k]? := fun k hk => Q.set1_block hk
  have hs := Q.set1_size (W := W) (p := ⟨g, 0, none⟩) (v := .string u)
  exact ⟨⟨h.bl.os, h.bl.tape, h.bl.output, by rw [hs]; exact h.bl.size, fun k hk => (hne k (by have := h.r.ge; omega)).trans (h.bl.block k hk)⟩, (hne X (Ne.symm h.ne)).trans h.x, h.xn, ⟨h.r.ge, (setc_at h.r.c h.r.f).1, (setc_at h.r.c h.r.f).2⟩, h.ne⟩
set_option maxHeartbeats 4000000 in
theorem followed1_c (F bN cN bE cE bP bT cT bI : Nat) (h : Int) (ia : Option Addr) (ic bA cA : Nat) (v : ByteArray) (ao : Option Addr) (vs : List ByteArray) (cap : Nat) (w : World) (hF : Fc1 h F bN cN bE cE bP bT cT bI ia ic w) (hA : w.cell? ⟨bA, 0, none⟩ = some (.string v)) (hG : GotsAt w ao vs) (hn : vs.length ≤ 1000000) :
    Calls Tryz.prog 74 #[.pointer (some ⟨F, 0, none⟩), .slice (some ⟨bA, 0, none⟩) 1 cA, .slice ao vs.length cap] w fun e w' => ∃ g c, e = .returned (.slice (some ⟨g, 0, none⟩) 1 c) ∧ Hid (V1 w.heap.size g (lastV v vs) w') ∧ Below w.heap.size w w' := by
  have HF : Hid (Fc1 h F bN cN bE cE bP bT cT bI ia ic w) := hF
  have HG : Hid (GotsAt w ao vs) := hG
  have HA : Hid (w.cell? ⟨bA, 0, none⟩ = some (.string v)) := hA
  have hAl := World.block_lt_of_cell? w ⟨bA, 0, none⟩ hA
  clear hF hG hA
  obtain ⟨n, hN⟩ : ∃ n, n = vs.length := ⟨_, rfl⟩
  have HN : Hid (n = vs.length) := hN
  rw [← hN] at hn ⊢
  clear hN
  go_enter Tryz.func74, Tryz.ntmps74
  go_wp2_with (first
    | (go_at_call 97; refine (cloneS_c bA cA v _ (((belA (Below.refl _ _) _).cell (p := ⟨bA, 0, none⟩) hAl).trans HA.out)).mono ?_; rintro e w1 ⟨g, c, rfl, HV, hb1⟩))
  have HB1 : Hid (Below w.heap.size w w1) := bel (belA (Below.refl _ _) _) hb1
  have hX := HV.out.lt
  have hg0 : w.heap.size ≤ g := Nat.le_trans (by simp) HV.out.ge
  have HL : Hid (Fl w w1.heap.size g c v (w1.alloc (.cells #[.slice (some ⟨g, 0, none⟩) 1 c] 48))) := ⟨belA HB1.out _, alAt rfl, HB1.out.size, ⟨hg0, (cellE (alOld hX)).trans HV.out.c, (frozE (alOld hX)).trans HV.out.f⟩, by omega⟩
  obtain ⟨W2, hW2⟩ : ∃ W2, W2 = w1.alloc (.cells #[.slice (some ⟨g, 0, none⟩) 1 c] 48) := ⟨_, rfl⟩
  obtain ⟨X, hXe⟩ : ∃ X, X = w1.heap.size := ⟨_, rfl⟩
  rw [← hW2, ← hXe] at HL ⊢
  clear hW2 hXe HV hb1 HB1 hX hg0
  go_loopw [16] (fun s16 W => ∃ (i : Nat), i ≤ n ∧ s16 = .int .i64 i ∧ Hid (Fl w X g c (lastV v (vs.take i)) W)) (fun s16 W => n - (intOf s16).toNat)
  case atStart => exact ⟨0, Nat.zero_le _, rfl, HL.out⟩
  case round =>
    obtain ⟨i, hi, rfl, HI⟩ := hrel
    have x0 : wr.cell? ⟨X, 0, none⟩ = some (.slice (some ⟨g, 0, none⟩) 1 c) := by rw [Lib.cell_of_heap HI.out.x]; rfl
    have lX := hLt HI.out.x
    have lg := HI.out.r.lt
    have r0 := HI.out.r.c
    have rf := HI.out.r.f
    have ne := HI.out.ne
    by_cases hlt : i < n
    · have hil : i < vs.length := by rw [← HN.out]; exact hlt
      obtain ⟨gg, rfl, hgl, hc⟩ := HG.out.some_ (by omega)
      have c0 := (HI.out.bl.cell (p := ⟨gg, i * 2, none⟩) hgl).trans (hc i hil).1
      have c1 := (HI.out.bl.cell (p := ⟨gg, i * 2 + 1, none⟩) hgl).trans (hc i hil).2
      have hgl2 := Nat.lt_of_lt_of_le hgl HI.out.bl.size
      clear hc hgl
      have HE : Hid (lastV v (vs.take (i + 1)) = vs[i]) := lastV_snoc v hil
      generalize vs[i] = u at c1 HE
      have i1 : (0 : Int) ≤ (i : Int) := by omega
      have i2 : (i : Int) < (n : Int) := by omega
      go_wp2_with fail
      go_roundw
      case rel => exact ⟨i + 1, hlt, by go_num, by rw [HE.out]; exact HI.out.set.alloc⟩
      case measure => simp [intOf]; omega
    · obtain rfl : i = n := by omega
      have HE : Hid (Fl w X g c (lastV v vs) wr) := by have h := HI.out; rw [List.take_of_length_le (Nat.le_of_eq HN.out.symm)] at h; exact h
      have hFB := HF.out.below HI.out.bl
      have f2 := hFB.f2
      clear hlt HI hi
      go_wp2_with fail
      go_loopw [32] (fun s32 W => ∃ (k : Int), (k = 0 ∨ k = 1) ∧ s32 = .int .i64 k ∧ Hid (Fl w X g c (lastV v vs) W)) (fun s32 W => 1 - (intOf s32).toNat)
      case atStart => exact ⟨0, Or.inl rfl, rfl, HE.out⟩
      case round =>
        obtain ⟨k, hk, rfl, HI⟩ := hrel
        have x0 : wr.cell? ⟨X, 0, none⟩ = some (.slice (some ⟨g, 0, none⟩) 1 c) := by rw [Lib.cell_of_heap HI.out.x]; rfl
        have lX := hLt HI.out.x
        rcases hk with rfl | rfl
        · obtain ⟨f0, f1, f2, f3, f4, f5, f6, f7, n0, n1, n2, n3, n4, n5, n6, n7, _⟩ := HF.out.below HI.out.bl
          have lN := World.block_lt_of_cell? wr ⟨bN, 0, none⟩ n0
          clear hFB f2
          go_wp2_with (first
            | (go_at_call 70; refine (isGate_c _ _ _ _ _ _ _ _ _ _ _ (by omega)).mono ?_; rintro e w5 ⟨rfl, hb5⟩))
          go_roundw
          case rel => exact ⟨1, Or.inr rfl, rfl, HI.out.alloc.below hb5⟩
          case measure => simp [intOf]
        · go_wp2_with fail
          go_ret
          exact ⟨g, c, rfl, HI.out.r, HI.out.bl⟩
set_option maxHeartbeats 4000000 in
theorem followed0_c (F bN cN bE cE bP bT cT bI bL cL : Nat) (h : Int) (ia : Option Addr) (ic bA cA : Nat) (v : ByteArray) (ao : Option Addr) (vs : List ByteArray) (cap : Nat) (w : World) (hF : Fc0 h F bN cN bE cE bP bT cT bI bL cL ia ic w) (hA : w.cell? ⟨bA, 0, none⟩ = some (.string v)) (hG : GotsAt w ao vs) (hn : vs.length ≤ 1000000) :
    Calls Tryz.prog 74 #[.pointer (some ⟨F, 0, none⟩), .slice (some ⟨bA, 0, none⟩) 1 cA, .slice ao vs.length cap] w fun e w' => ∃ g c, e = .returned (.slice (some ⟨g, 0, none⟩) 1 c) ∧ Hid (V1 w.heap.size g (lastV v vs) w') ∧ Below w.heap.size w w' := by
  have HF : Hid (Fc0 h F bN cN bE cE bP bT cT bI bL cL ia ic w) := hF
  have HG : Hid (GotsAt w ao vs) := hG
  have HA : Hid (w.cell? ⟨bA, 0, none⟩ = some (.string v)) := hA
  have hAl := World.block_lt_of_cell? w ⟨bA, 0, none⟩ hA
  clear hF hG hA
  obtain ⟨n, hN⟩ : ∃ n, n = vs.length := ⟨_, rfl⟩
  have HN : Hid (n = vs.length) := hN
  rw [← hN] at hn ⊢
  clear hN
  go_enter Tryz.func74, Tryz.ntmps74
  go_wp2_with (first
    | (go_at_call 97; refine (cloneS_c bA cA v _ (((belA (Below.refl _ _) _).cell (p := ⟨bA, 0, none⟩) hAl).trans HA.out)).mono ?_; rintro e w1 ⟨g, c, rfl, HV, hb1⟩))
  have HB1 : Hid (Below w.heap.size w w1) := bel (belA (Below.refl _ _) _) hb1
  have hX := HV.out.lt
  have hg0 : w.heap.size ≤ g := Nat.le_trans (by simp) HV.out.ge
  have HL : Hid (Fl w w1.heap.size g c v (w1.alloc (.cells #[.slice (some ⟨g, 0, none⟩) 1 c] 48))) := ⟨belA HB1.out _, alAt rfl, HB1.out.size, ⟨hg0, (cellE (alOld hX)).trans HV.out.c, (frozE (alOld hX)).trans HV.out.f⟩, by omega⟩
  obtain ⟨W2, hW2⟩ : ∃ W2, W2 = w1.alloc (.cells #[.slice (some ⟨g, 0, none⟩) 1 c] 48) := ⟨_, rfl⟩
  obtain ⟨X, hXe⟩ : ∃ X, X = w1.heap.size := ⟨_, rfl⟩
  rw [← hW2, ← hXe] at HL ⊢
  clear hW2 hXe HV hb1 HB1 hX hg0
  go_loopw [16] (fun s16 W => ∃ (i : Nat), i ≤ n ∧ s16 = .int .i64 i ∧ Hid (Fl w X g c (lastV v (vs.take i)) W)) (fun s16 W => n - (intOf s16).toNat)
  case atStart => exact ⟨0, Nat.zero_le _, rfl, HL.out⟩
  case round =>
    obtain ⟨i, hi, rfl, HI⟩ := hrel
    have x0 : wr.cell? ⟨X, 0, none⟩ = some (.slice (some ⟨g, 0, none⟩) 1 c) := by rw [Lib.cell_of_heap HI.out.x]; rfl
    have lX := hLt HI.out.x
    have lg := HI.out.r.lt
    have r0 := HI.out.r.c
    have rf := HI.out.r.f
    have ne := HI.out.ne
    by_cases hlt : i < n
    · have hil : i < vs.length := by rw [← HN.out]; exact hlt
      obtain ⟨gg, rfl, hgl, hc⟩ := HG.out.some_ (by omega)
      have c0 := (HI.out.bl.cell (p := ⟨gg, i * 2, none⟩) hgl).trans (hc i hil).1
      have c1 := (HI.out.bl.cell (p := ⟨gg, i * 2 + 1, none⟩) hgl).trans (hc i hil).2
      have hgl2 := Nat.lt_of_lt_of_le hgl HI.out.bl.size
      clear hc hgl
      have HE : Hid (lastV v (vs.take (i + 1)) = vs[i]) := lastV_snoc v hil
      generalize vs[i] = u at c1 HE
      have i1 : (0 : Int) ≤ (i : Int) := by omega
      have i2 : (i : Int) < (n : Int) := by omega
      go_wp2_with fail
      go_roundw
      case rel => exact ⟨i + 1, hlt, by go_num, by rw [HE.out]; exact HI.out.set.alloc⟩
      case measure => simp [intOf]; omega
    · obtain rfl : i = n := by omega
      have HE : Hid (Fl w X g c (lastV v vs) wr) := by have h := HI.out; rw [List.take_of_length_le (Nat.le_of_eq HN.out.symm)] at h; exact h
      have hFB := HF.out.below HI.out.bl
      have f2 := hFB.f2
      clear hlt HI hi
      go_wp2_with fail
      go_loopw [32] (fun s32 W => ∃ (k : Int), (k = 0 ∨ k = 1) ∧ s32 = .int .i64 k ∧ Hid (Fl w X g c (lastV v vs) W)) (fun s32 W => 1 - (intOf s32).toNat)
      case atStart => exact ⟨0, Or.inl rfl, rfl, HE.out⟩
      case round =>
        obtain ⟨k, hk, rfl, HI⟩ := hrel
        have x0 : wr.cell? ⟨X, 0, none⟩ = some (.slice (some ⟨g, 0, none⟩) 1 c) := by rw [Lib.cell_of_heap HI.out.x]; rfl
        have lX := hLt HI.out.x
        rcases hk with rfl | rfl
        · obtain ⟨f0, f1, f2, f3, f4, f5, f6, f7, n0, n1, n2, n3, n4, n5, n6, n7, _⟩ := HF.out.below HI.out.bl
          have lN := World.block_lt_of_cell? wr ⟨bN, 0, none⟩ n0
          clear hFB f2
          go_wp2_with (first
            | (go_at_call 70; refine (isGate_c _ _ _ _ _ _ _ _ _ _ _ (by omega)).mono ?_; rintro e w5 ⟨rfl, hb5⟩))
          go_roundw
          case rel => exact ⟨1, Or.inr rfl, rfl, HI.out.alloc.below hb5⟩
          case measure => simp [intOf]
        · go_wp2_with fail
          go_ret
          exact ⟨g, c, rfl, HI.out.r, HI.out.bl⟩
end Go.Proofs.YtokepgnnepjiaaaGreat

/- A process: risen, settled. -/
namespace Go.Proofs.YtokepgnnepjiaaaGreat
set_option maxRecDepth 100000
open Go.RowKit Lg Nl Go.Maps
set_option linter.unusedVariables false
set_option linter.unusedSimpArgs false

set_option maxHeartbeats 4000000 in
theorem risen0_c (F bN cN bE cE bP bT cT bI bL cL : Nat) (h : Int) (ia : Option Addr) (ic bA cA bV cV : Nat) (w : World) (hF : Fc0 h F bN cN bE cE bP bT cT bI bL cL ia ic w) :
    Calls Tryz.prog 75 #[.pointer (some ⟨F, 0, none⟩), .slice (some ⟨bA, 0, none⟩) 1 cA, .slice (some ⟨bV, 0, none⟩) 1 cV] w fun e w' => e = .returned (.slice none 0 0) ∧ Below w.heap.size w w' := by
  have HF : Hid (Fc0 h F bN cN bE cE bP bT cT bI bL cL ia ic w) := hF
  have f2 := hF.f2
  clear hF
  go_enter Tryz.func75, Tryz.ntmps75
  go_wp2_with fail
  go_loopw [15, 7] (fun s15 s7 W => ∃ (k : Int), (k = 0 ∨ k = 1) ∧ s15 = .int .i64 k ∧ s7 = .slice none 0 0 ∧ Hid (Below w.heap.size w W)) (fun s15 s7 W => 1 - (intOf s15).toNat)
  case atStart => exact ⟨0, Or.inl rfl, rfl, rfl, Below.refl _ _⟩
  case round =>
    obtain ⟨k, hk, rfl, rfl, HI⟩ := hrel
    rcases hk with rfl | rfl
    · obtain ⟨f0, f1, f2, f3, f4, f5, f6, f7, n0, n1, n2, n3, n4, n5, n6, n7, _⟩ := HF.out.below HI.out
      have lN := World.block_lt_of_cell? wr ⟨bN, 0, none⟩ n0
      go_wp2_with fail
      have y0 : (wr.alloc (.cells #[.int .i64 2, .int .i64 0, .int .i64 1, .slice ia 0 ic, .string ⟨#[]⟩, .int .i64 0, .int .i64 0, .int .i64 0] 61)).cell? ⟨wr.heap.size, 0, none⟩ = some (.int .i64 2) := by rw [Lib.cell_of_heap (alAt rfl)]; rfl
      have HY : Hid (Below w.heap.size w (wr.alloc (.cells #[.int .i64 2, .int .i64 0, .int .i64 1, .slice ia 0 ic, .string ⟨#[]⟩, .int .i64 0, .int .i64 0, .int .i64 0] 61))) := belA HI.out _
      obtain ⟨W, hW⟩ : ∃ W, W = wr.alloc (.cells #[.int .i64 2, .int .i64 0, .int .i64 1, .slice ia 0 ic, .string ⟨#[]⟩, .int .i64 0, .int .i64 0, .int .i64 0] 61) := ⟨_, rfl⟩
      rw [← hW] at y0 HY ⊢
      clear hW
      go_quiet (fail)
      go_wp2_with fail
      go_roundw
      case rel => exact ⟨1, Or.inr rfl, rfl, rfl, Q.belDN HY.out _⟩
      case measure => simp [intOf]
    · go_wp2_with fail
      go_ret
      exact ⟨rfl, HI.out⟩
set_option maxHeartbeats 4000000 in
theorem settled0_c (F bN cN bE cE bP bT cT bI bL cL : Nat) (h : Int) (ia : Option Addr) (ic bA cA : Nat) (v : ByteArray) (ao : Option Addr) (vs : List ByteArray) (cap : Nat) (w : World) (hF : Fc0 h F bN cN bE cE bP bT cT bI bL cL ia ic w) (hA : w.cell? ⟨bA, 0, none⟩ = some (.string v)) (hG : GotsAt w ao vs) (hn : vs.length ≤ 1000000) :
    Calls Tryz.prog 43 #[.pointer (some ⟨F, 0, none⟩), .slice (some ⟨bA, 0, none⟩) 1 cA, .slice ao vs.length cap] w fun e w' => ∃ g c, e = .returned (.slice (some ⟨g, 0, none⟩) 1 c) ∧ Hid (V1 w.heap.size g (lastV v vs) w') ∧ Below w.heap.size w w' := by
  have HFo := followed0_c F bN cN bE cE bP bT cT bI bL cL h ia ic bA cA v ao vs cap w hF hA hG hn
  have HF : Hid (Fc0 h F bN cN bE cE bP bT cT bI bL cL ia ic w) := hF
  have HFo' : Hid (Calls Tryz.prog 74 #[.pointer (some ⟨F, 0, none⟩), .slice (some ⟨bA, 0, none⟩) 1 cA, .slice ao vs.length cap] w fun e w' => ∃ g c, e = .returned (.slice (some ⟨g, 0, none⟩) 1 c) ∧ Hid (V1 w.heap.size g (lastV v vs) w') ∧ Below w.heap.size w w') := HFo
  clear hF hG hA HFo
  generalize lastV v vs = u at HFo' ⊢
  generalize vs.length = n at HFo' ⊢
  go_enter Tryz.func43, Tryz.ntmps43
  go_wp2_with (first
    | (go_at_call 74; refine HFo'.out.mono ?_; rintro e w1 ⟨g, c, rfl, HV, hb1⟩))
  go_loopw [1, 7] (fun s1 s7 W => s1 = .slice (some ⟨bA, 0, none⟩) 1 cA ∧ s7 = .slice (some ⟨g, 0, none⟩) 1 c ∧ Hid (W = w1)) (fun s1 s7 W => 0)
  case atStart => exact ⟨rfl, rfl, rfl⟩
  case round =>
    obtain ⟨rfl, rfl, HW⟩ := hrel
    rw [HW.out]
    go_wp2_with (first
      | (go_at_call 75; refine (risen0_c F bN cN bE cE bP bT cT bI bL cL h ia ic bA cA g c _ (HF.out.below hb1)).mono ?_; rintro e w2 ⟨rfl, hb2⟩))
    go_ret
    exact ⟨g, c, rfl, HV.out.below hb2, bel hb1 hb2⟩
set_option maxHeartbeats 4000000 in
theorem risen1_c (F bN cN bE cE bP bT cT bI : Nat) (h : Int) (ia : Option Addr) (ic bA cA bV cV : Nat) (w : World) (hF : Fc1 h F bN cN bE cE bP bT cT bI ia ic w) :
    Calls Tryz.prog 75 #[.pointer (some ⟨F, 0, none⟩), .slice (some ⟨bA, 0, none⟩) 1 cA, .slice (some ⟨bV, 0, none⟩) 1 cV] w fun e w' => e = .returned (.slice none 0 0) ∧ Below w.heap.size w w' := by
  have HF : Hid (Fc1 h F bN cN bE cE bP bT cT bI ia ic w) := hF
  have f2 := hF.f2
  clear hF
  go_enter Tryz.func75, Tryz.ntmps75
  go_wp2_with fail
  go_loopw [15, 7] (fun s15 s7 W => ∃ (k : Int), (k = 0 ∨ k = 1) ∧ s15 = .int .i64 k ∧ s7 = .slice none 0 0 ∧ Hid (Below w.heap.size w W)) (fun s15 s7 W => 1 - (intOf s15).toNat)
  case atStart => exact ⟨0, Or.inl rfl, rfl, rfl, Below.refl _ _⟩
  case round =>
    obtain ⟨k, hk, rfl, rfl, HI⟩ := hrel
    rcases hk with rfl | rfl
    · obtain ⟨f0, f1, f2, f3, f4, f5, f6, f7, n0, n1, n2, n3, n4, n5, n6, n7, _⟩ := HF.out.below HI.out
      have lN := World.block_lt_of_cell? wr ⟨bN, 0, none⟩ n0
      go_wp2_with fail
      have y0 : (wr.alloc (.cells #[.int .i64 8, .int .i64 0, .int .i64 1, .slice ia 0 ic, .string ⟨#[]⟩, .int .i64 0, .int .i64 0, .int .i64 2] 61)).cell? ⟨wr.heap.size, 0, none⟩ = some (.int .i64 8) := by rw [Lib.cell_of_heap (alAt rfl)]; rfl
      have HY : Hid (Below w.heap.size w (wr.alloc (.cells #[.int .i64 8, .int .i64 0, .int .i64 1, .slice ia 0 ic, .string ⟨#[]⟩, .int .i64 0, .int .i64 0, .int .i64 2] 61))) := belA HI.out _
      obtain ⟨W, hW⟩ : ∃ W, W = wr.alloc (.cells #[.int .i64 8, .int .i64 0, .int .i64 1, .slice ia 0 ic, .string ⟨#[]⟩, .int .i64 0, .int .i64 0, .int .i64 2] 61) := ⟨_, rfl⟩
      rw [← hW] at y0 HY ⊢
      clear hW
      go_quiet (fail)
      go_wp2_with fail
      go_roundw
      case rel => exact ⟨1, Or.inr rfl, rfl, rfl, Q.belDN HY.out _⟩
      case measure => simp [intOf]
    · go_wp2_with fail
      go_ret
      exact ⟨rfl, HI.out⟩
set_option maxHeartbeats 4000000 in
theorem settled1_c (F bN cN bE cE bP bT cT bI : Nat) (h : Int) (ia : Option Addr) (ic bA cA : Nat) (v : ByteArray) (ao : Option Addr) (vs : List ByteArray) (cap : Nat) (w : World) (hF : Fc1 h F bN cN bE cE bP bT cT bI ia ic w) (hA : w.cell? ⟨bA, 0, none⟩ = some (.string v)) (hG : GotsAt w ao vs) (hn : vs.length ≤ 1000000) :
    Calls Tryz.prog 43 #[.pointer (some ⟨F, 0, none⟩), .slice (some ⟨bA, 0, none⟩) 1 cA, .slice ao vs.length cap] w fun e w' => ∃ g c, e = .returned (.slice (some ⟨g, 0, none⟩) 1 c) ∧ Hid (V1 w.heap.size g (lastV v vs) w') ∧ Below w.heap.size w w' := by
  have HFo := followed1_c F bN cN bE cE bP bT cT bI h ia ic bA cA v ao vs cap w hF hA hG hn
  have HF : Hid (Fc1 h F bN cN bE cE bP bT cT bI ia ic w) := hF
  have HFo' : Hid (Calls Tryz.prog 74 #[.pointer (some ⟨F, 0, none⟩), .slice (some ⟨bA, 0, none⟩) 1 cA, .slice ao vs.length cap] w fun e w' => ∃ g c, e = .returned (.slice (some ⟨g, 0, none⟩) 1 c) ∧ Hid (V1 w.heap.size g (lastV v vs) w') ∧ Below w.heap.size w w') := HFo
  clear hF hG hA HFo
  generalize lastV v vs = u at HFo' ⊢
  generalize vs.length = n at HFo' ⊢
  go_enter Tryz.func43, Tryz.ntmps43
  go_wp2_with (first
    | (go_at_call 74; refine HFo'.out.mono ?_; rintro e w1 ⟨g, c, rfl, HV, hb1⟩))
  go_loopw [1, 7] (fun s1 s7 W => s1 = .slice (some ⟨bA, 0, none⟩) 1 cA ∧ s7 = .slice (some ⟨g, 0, none⟩) 1 c ∧ Hid (W = w1)) (fun s1 s7 W => 0)
  case atStart => exact ⟨rfl, rfl, rfl⟩
  case round =>
    obtain ⟨rfl, rfl, HW⟩ := hrel
    rw [HW.out]
    go_wp2_with (first
      | (go_at_call 75; refine (risen1_c F bN cN bE cE bP bT cT bI h ia ic bA cA g c _ (HF.out.below hb1)).mono ?_; rintro e w2 ⟨rfl, hb2⟩))
    go_ret
    exact ⟨g, c, rfl, HV.out.below hb2, bel hb1 hb2⟩
end Go.Proofs.YtokepgnnepjiaaaGreat

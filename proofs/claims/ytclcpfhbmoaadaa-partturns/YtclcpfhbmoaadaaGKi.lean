/- Texts KZa KZb, joined: what each part says stands ahead of it. -/
import Derived.Test.YtclcpfhbmoaadaaGKh
import Derived.BigRegion
/- Gates that are added to a netlist out of gates, plain. -/
namespace Go.Proofs.Ytclcpfhbmoaadaa
open Go.RowKit Lg Nl Go.Maps
set_option linter.unusedVariables false
set_option linter.unusedSimpArgs false

theorem Nk.mk' {l : List Nd} {x : Nd} (hw : 1 ≤ x.wd ∧ x.wd ≤ 256) (hz : zeroB x = true) (hi : ∀ z ∈ x.ins, 0 ≤ z ∧ z < (l.length : Int)) (hn : nodeB x (wsOf l x.ins) = true) (hk : x.k ≠ 2) : Nk l l.length x := by
  have hall : x.ins.all (inB l.length) = true := by rw [List.all_eq_true]; intro z hz; simp [inB]; exact hi z hz
  refine ⟨by simp [wideB]; exact hw, hz, hall, hn, fun e => absurd e hk, fun y hy => ?_⟩
  have hm : y ∈ x.ins := by
    unfold hangL at hy
    split at hy
    · cases hy
    · split at hy
      · exact List.mem_of_mem_take hy
      · exact hy
  exact (hi y hm).2
/-- what fit leaves -/
structure Ft (l l' : List Nd) (p : Nat) (wd : Int) : Prop where
  m : Mk l'
  lt : p < l'.length
  w : wdAt l' p = wd
  len : l'.length ≤ l.length + 1
  ge : l.length ≤ l'.length
  old : ∀ j : Nat, j < l.length → wdAt l' j = wdAt l j
theorem wdAt_app {l : List Nd} {x : Nd} {j : Nat} (h : j < l.length) : wdAt (l ++ [x]) j = wdAt l j := by
  unfold wdAt; rw [Int.toNat_natCast, ndAt_app h]
theorem wdAt_last (l : List Nd) (x : Nd) : wdAt (l ++ [x]) l.length = x.wd := by
  unfold wdAt; rw [Int.toNat_natCast, ndAt_last]
theorem Mk.fit {l : List Nd} (h : Mk l) {k : Nat} (hk : k < l.length) {wd : Int} (h1 : 1 ≤ wd) (h2 : wd ≤ 256) : Ft l (fitL l k wd).2 (fitL l k wd).1 wd := by
  unfold fitL
  split
  · rename_i e
    exact ⟨h, hk, e, by show l.length ≤ l.length + 1; omega, Nat.le_refl _, fun _ _ => rfl⟩
  · refine ⟨h.add (Nk.mk' ⟨h1, h2⟩ rfl (fun z hz => ?_) (by simp [nodeB, wsOf]) (by simp)), by simp, wdAt_last l _, by simp, by simp, fun j hj => wdAt_app hj⟩
    simp at hz; omega
theorem Mk.wd {l : List Nd} (h : Mk l) {k : Nat} (hk : k < l.length) : 1 ≤ wdAt l k ∧ wdAt l k ≤ 256 := by
  have a := (h.ok k hk).w
  simp [wideB] at a
  unfold wdAt
  rw [Int.toNat_natCast]; exact a
theorem Nk.cst {l : List Nd} {w : Int} {v : List UInt8} (h1 : 1 ≤ w) (h2 : w ≤ 256) (hv : v.all bitB = true) (hl : (v.length : Int) = w) : Nk l l.length ⟨1, 0, w, [], v, 0, 0, 0⟩ := by
  refine Nk.mk' ⟨h1, h2⟩ rfl (fun z hz => by cases hz) ?_ (by simp)
  have e : vec v = true := by unfold vec; rw [hv, Bool.and_true]; exact decide_eq_true ⟨by omega, by omega⟩
  simp [nodeB, wsOf, hl, e]
theorem Nk.bin {l : List Nd} {p q : Nat} {w op : Int} (hp : p < l.length) (hq : q < l.length) (wp : wdAt l p = w) (wq : wdAt l q = w) (h1 : 1 ≤ w) (h2 : w ≤ 256) (o1 : 13 ≤ op) (o2 : op ≤ 26) : Nk l l.length ⟨3, op, binW op w, [(p : Int), (q : Int)], [], 0, 0, 0⟩ := by
  refine Nk.mk' ?_ (by simp [zeroB]) (fun z hz => ?_) ?_ (by simp)
  · show 1 ≤ binW op w ∧ binW op w ≤ 256
    unfold binW; split <;> omega
  · simp at hz; omega
  · simp [nodeB, wsOf, opWs, wn, wp, wq]
    unfold opW binW
    rcases (by omega : op = 13 ∨ op = 14 ∨ op = 15 ∨ op = 16 ∨ op = 17 ∨ op = 18 ∨ op = 19 ∨ op = 20 ∨ op = 21 ∨ op = 22 ∨ op = 23 ∨ op = 24 ∨ op = 25 ∨ op = 26) with rfl | rfl | rfl | rfl | rfl | rfl | rfl | rfl | rfl | rfl | rfl | rfl | rfl | rfl <;> simp
theorem Nk.una {l : List Nd} {a : Nat} {w op : Int} (ha : a < l.length) (o1 : 7 ≤ op) (o2 : op ≤ 12) (hw : (op = 7 ∨ op = 9) ∧ w = wdAt l a ∨ ¬ (op = 7 ∨ op = 9) ∧ w = 1) (hb : 1 ≤ w ∧ w ≤ 256) : Nk l l.length ⟨3, op, w, [(a : Int)], [], 0, 0, 0⟩ := by
  refine Nk.mk' hb (by simp [zeroB]) (fun z hz => ?_) ?_ (by simp)
  · simp at hz; omega
  · simp [nodeB, wsOf, opWs, wn]
    unfold opW
    rcases hw with ⟨h, rfl⟩ | ⟨h, rfl⟩
    · rcases h with rfl | rfl <;> simp
    · rcases (by omega : op = 8 ∨ op = 10 ∨ op = 11 ∨ op = 12) with rfl | rfl | rfl | rfl <;> simp
theorem Nk.cho {l : List Nd} {c p q : Nat} {w : Int} (hc : c < l.length) (hp : p < l.length) (hq : q < l.length) (wp : wdAt l p = w) (wq : wdAt l q = w) (h1 : 1 ≤ w) (h2 : w ≤ 256) : Nk l l.length ⟨4, 0, w, [(c : Int), (p : Int), (q : Int)], [], 0, 0, 0⟩ := by
  refine Nk.mk' ⟨h1, h2⟩ rfl (fun z hz => ?_) ?_ (by simp)
  · simp at hz; omega
  · simp [nodeB, wsOf, wn, wp, wq]
theorem Nk.cnd {l : List Nd} {c p q : Nat} {w : Int} (hc : c < l.length) (hp : p < l.length) (hq : q < l.length) (wp : wdAt l p = w) (wq : wdAt l q = w) (h1 : 1 ≤ w) (h2 : w ≤ 256) : Nk l l.length ⟨3, 6, w, [(c : Int), (p : Int), (q : Int)], [], 0, 0, 0⟩ := by
  refine Nk.mk' ⟨h1, h2⟩ rfl (fun z hz => ?_) ?_ (by simp)
  · simp at hz; omega
  · simp [nodeB, wsOf, opWs, wn, wp, wq, opW]
theorem Nk.sam {l : List Nd} {p q : Nat} {w : Int} (hp : p < l.length) (hq : q < l.length) (wp : wdAt l p = w) (wq : wdAt l q = w) : Nk l l.length ⟨5, 0, 1, [(p : Int), (q : Int)], [], 0, 0, 0⟩ := by
  refine Nk.mk' ⟨by simp, by simp⟩ rfl (fun z hz => ?_) ?_ (by simp)
  · simp at hz; omega
  · simp [nodeB, wsOf, wn, wp, wq]
theorem Nk.flp {l : List Nd} {c p : Nat} {w : Int} (hc : c < l.length) (hp : p < l.length) (wp : wdAt l p = w) (h1 : 1 ≤ w) (h2 : w ≤ 256) : Nk l l.length ⟨7, 0, w, [(c : Int), (p : Int)], [], 0, 0, 0⟩ := by
  refine Nk.mk' ⟨h1, h2⟩ rfl (fun z hz => ?_) ?_ (by simp)
  · simp at hz; omega
  · simp [nodeB, wsOf, wn, wp]
theorem Nk.del {l : List Nd} {p : Nat} {w t : Int} (hp : p < l.length) (wp : wdAt l p = w) (h1 : 1 ≤ w) (h2 : w ≤ 256) (t1 : 1 ≤ t) (t2 : t ≤ 4) : Nk l l.length ⟨8, 0, w, [(p : Int)], [], 0, 0, t⟩ := by
  refine Nk.mk' ⟨h1, h2⟩ rfl (fun z hz => ?_) ?_ (by simp)
  · simp at hz; omega
  · simp [nodeB, wsOf, wn, wp]; omega
theorem Nk.ca1 {l : List Nd} {a : Nat} (ha : a < l.length) (hb : 1 ≤ wdAt l a ∧ wdAt l a ≤ 256) : Nk l l.length ⟨3, 5, wdAt l a, [(a : Int)], [], 0, 0, 0⟩ := by
  refine Nk.mk' hb rfl (fun z hz => ?_) ?_ (by simp)
  · simp at hz; omega
  · simp [nodeB, wsOf, opWs, wn, opW, sumI]
theorem Nk.ca2 {l : List Nd} {a b : Nat} (ha : a < l.length) (hb : b < l.length) (wa : 1 ≤ wdAt l a) (wb : 1 ≤ wdAt l b) (hs : wdAt l a + wdAt l b ≤ 256) : Nk l l.length ⟨3, 5, wdAt l a + wdAt l b, [(a : Int), (b : Int)], [], 0, 0, 0⟩ := by
  refine Nk.mk' ⟨by show 1 ≤ wdAt l a + wdAt l b; omega, hs⟩ rfl (fun z hz => ?_) ?_ (by simp)
  · simp at hz; omega
  · simp [nodeB, wsOf, opWs, wn, opW, sumI]
end Go.Proofs.Ytclcpfhbmoaadaa

/- The shared book's Made: the netlist that it begins with, and its gates. -/
namespace Go.Proofs.Ytclcpfhbmoaadaa
open Go.RowKit Lg Nl Go.Maps
set_option linter.unusedVariables false
set_option linter.unusedSimpArgs false

/-- the nets give way to others -/
theorem LsW.setT {B b : Nat} {l : List Nd} {vN vT vT' : Value} {pt : Pt} {nets' : List Int} {w W : World} (h : LsW B b l vN vT pt w) (hb : W.heap[b]? = some (.cells #[vN, vT', .int .i64 pt.z] 51 (0, 0))) (hk : KeepN (fun g => g ≠ b ∧ vT.ownBlock ≠ some g) w W)
    (ho : W.ownsRow B 3 1 vT' nets'.length (iC nets')) (hN : ∀ g, vT'.ownBlock = some g → Nb1 B b vN g) (hd : vT'.ownBlock = vT.ownBlock ∨ ∀ g, vT'.ownBlock = some g → w.heap.size ≤ g) : LsW B b l vN vT' ⟨pt.z, nets'⟩ W := by
  obtain ⟨xs, hx, hc⟩ := h.row
  have hne : ∀ g, vN.ownBlock = some g → g ≠ b ∧ vT.ownBlock ≠ some g := fun g e => ⟨fun e2 => own_neT hx h.blk (by decide) (by rw [← e2]; exact e), fun e2 => (h.nt.2 g e2).2.2 e⟩
  refine ⟨hb, ⟨xs, own_keep hx hne hk, ?_⟩, h.hb, ho, hN⟩
  have h1 := hc.mono (N' := fun g => Nb B b vN vT g ∧ g < w.heap.size) (fun g hg hN => ⟨hN, hg⟩)
  have h2 := h1.keep (w' := W) ⟨hk.1, fun k hkk hN => hk.2 k hkk ⟨hN.1.1.2.1, hN.1.2⟩⟩
  refine h2.mono (fun g _ hN => ⟨hN.1.1, fun e => ?_⟩)
  rcases hd with hd | hd
  · rw [hd] at e; exact hN.1.2 e
  · have := hd g e; have := hN.2; omega
theorem LsW.start (w : World) (o : Obj) : LsW (w.heap.size + 1) (w.heap.size + 1) [] (.slice none 0 0) (.slice none 0 0) ⟨0, []⟩ ((w.alloc o).alloc (.cells #[.slice none 0 0, .slice none 0 0, .int .i64 0] 51)) :=
  ⟨alAt (by simp), ⟨[], World.ownsRow_nil _ _ _ _, .nil⟩, Nat.le_refl _, World.ownsRow_nil _ _ _ _, fun g e => by cases e⟩
def nInW (w : Int) : Nd := ⟨2, 0, w, [], [], 0, 0, 0⟩
theorem Mk.two_ : Mk [nInW 1, nInW 3] := by
  refine ⟨Nat.le_refl _, rfl, rfl, fun i hi => ?_⟩
  have h0 : i = 0 ∨ i = 1 := by simp at hi; omega
  rcases h0 with rfl | rfl
  · exact ⟨by decide, by decide, by decide, by decide, fun _ => by omega, fun y hy => by cases hy⟩
  · exact ⟨by decide, by decide, by decide, by decide, fun _ => by omega, fun y hy => by cases hy⟩
theorem hset3t {w : World} {b : Nat} {x0 x1 x2 : Value} {t : TypeId} (h : w.heap[b]? = some (.cells #[x0, x1, x2] t (0, 0))) (y : Value) : (w.setCell ⟨b, 1, none⟩ y).heap[b]? = some (.cells #[x0, y, x2] t (0, 0)) := by
  simp only [World.setCell]; rw [Array.getElem?_modify, if_pos rfl, h]; rfl
/-- what Made has come to: its gates ahead of i -/
structure Md (w : World) (i : Nat) (l : List Nd) (vN vT : Value) (W : World) : Prop where
  ls : LsW (w.heap.size + 1) (w.heap.size + 1) l vN vT ⟨0, [0, 1]⟩ W
  m : Mk l
  len : l.length ≤ 2 + 3 * i
  bel : Below (w.heap.size + 1) (w.alloc (.cells #[.slice none 0 0, .slice none 0 0, .int .i64 0] 26)) W
theorem Md.start {w w2 : World} {v2 : Value} (h : LsW (w.heap.size + 1) (w.heap.size + 1) [nInW 1, nInW 3] v2 (.slice none 0 0) ⟨0, []⟩ w2) (hb : Below (w.heap.size + 1) (w.alloc (.cells #[.slice none 0 0, .slice none 0 0, .int .i64 0] 26)) w2) :
    Md w 0 [nInW 1, nInW 3] v2 (.slice (some ⟨w2.heap.size, 0, none⟩) 2 2) ((w2.setCell ⟨w.heap.size + 1, 1, none⟩ (.slice (some ⟨w2.heap.size, 0, none⟩) 2 2)).alloc (.cells #[.int .i64 0, .int .i64 1] 3)) := by
  have hlt := hLt h.blk
  have hs : (w2.setCell ⟨w.heap.size + 1, 1, none⟩ (.slice (some ⟨w2.heap.size, 0, none⟩) 2 2)).heap.size = w2.heap.size := by simp [World.setCell]
  refine ⟨h.setT (vT' := .slice (some ⟨w2.heap.size, 0, none⟩) 2 2) (nets' := [0, 1]) ?_ ?_ ?_ ?_ ?_, Mk.two_, Nat.le_refl _, ?_⟩
  · exact (alOld (by rw [hs]; exact hlt)).trans (hset3t h.blk _)
  · exact ⟨by simp [World.setCell], fun k hk hN => (alOld (by rw [hs]; exact hk)).trans (Below.heap_setCell _ _ _ _ hN.1)⟩
  · have := World.ownsRow_lit (base := w.heap.size + 1) (e := 3) (size := 1) (w2.setCell ⟨w.heap.size + 1, 1, none⟩ (.slice (some ⟨w2.heap.size, 0, none⟩) 2 2)) #[.int .i64 0, .int .i64 1] 2 (by rw [hs]; omega) (by decide) rfl
    rw [hs] at this; exact this
  · intro g e
    have e' : w2.heap.size = g := by simpa [Value.ownBlock] using e
    obtain ⟨xs, hx, _⟩ := h.row
    exact ⟨by omega, by omega, fun e2 => by have := (World.ownsRow.lt hx g e2).2; omega⟩
  · right; intro g e
    have e' : w2.heap.size = g := by simpa [Value.ownBlock] using e
    omega
  · exact (hb.setCell (p := ⟨w.heap.size + 1, 1, none⟩) (Nat.le_refl _) _).alloc (by rw [hs]; omega) _
/-- within a round: the gate's numbers lie at X -/
structure Rd (w : World) (X : Nat) (z0 z1 z2 z3 z4 : Int) (l : List Nd) (vN vT : Value) (W : World) : Prop where
  ls : LsW (w.heap.size + 1) (w.heap.size + 1) l vN vT ⟨0, [0, 1]⟩ W
  m : Mk l
  xb : W.heap[X]? = some (.cells #[.int .i64 z0, .int .i64 z1, .int .i64 z2, .int .i64 z3, .int .i64 z4] 54 (0, 0))
  nx : Nb1 (w.heap.size + 1) (w.heap.size + 1) vN X
  bel : Below (w.heap.size + 1) (w.alloc (.cells #[.slice none 0 0, .slice none 0 0, .int .i64 0] 26)) W
theorem cells5 {w : World} {b : Nat} {y0 y1 y2 y3 y4 : Value} {t : TypeId} (h : w.heap[b]? = some (.cells #[y0, y1, y2, y3, y4] t (0, 0))) :
    w.cell? ⟨b, 0, none⟩ = some y0 ∧ w.cell? ⟨b, 1, none⟩ = some y1 ∧ w.cell? ⟨b, 2, none⟩ = some y2 ∧ w.cell? ⟨b, 3, none⟩ = some y3 ∧ w.cell? ⟨b, 4, none⟩ = some y4 :=
  ⟨by rw [Lib.cell_of_heap h]; rfl, by rw [Lib.cell_of_heap h]; rfl, by rw [Lib.cell_of_heap h]; rfl, by rw [Lib.cell_of_heap h]; rfl, by rw [Lib.cell_of_heap h]; rfl⟩
section
variable {w : World} {X : Nat} {z0 z1 z2 z3 z4 : Int} {l : List Nd} {vN vT : Value} {W : World}
theorem Rd.below {W' : World} (h : Rd w X z0 z1 z2 z3 z4 l vN vT W) (hb : Below W.heap.size W W') : Rd w X z0 z1 z2 z3 z4 l vN vT W' :=
  ⟨h.ls.below hb, h.m, (hb.block X (hLt h.xb)).trans h.xb, h.nx, h.bel.trans (hb.mono (by have := hLt h.ls.blk; omega))⟩
theorem Rd.bx {l' : List Nd} {vN' : Value} {W' : World} (h : Rd w X z0 z1 z2 z3 z4 l vN vT W) (hb : Bx (w.heap.size + 1) (w.heap.size + 1) vN vN' W W') (hl : LsW (w.heap.size + 1) (w.heap.size + 1) l' vN' vT ⟨0, [0, 1]⟩ W') (hm : Mk l') : Rd w X z0 z1 z2 z3 z4 l' vN' vT W' :=
  ⟨hl, hm, (hb.kp.2 X (hLt h.xb) h.nx).trans h.xb, hb.nx X (hLt h.xb) h.nx, h.bel.trans hb.bel⟩
theorem rFit (k : Nat) (wd : Int) (h : Rd w X z0 z1 z2 z3 z4 l vN vT W) (hk : k < l.length) (hl : l.length ≤ 1000) (h1 : 1 ≤ wd) (h2 : wd ≤ 256) :
    Calls Try.prog 17 #[.pointer (some ⟨w.heap.size + 1, 0, none⟩), .int .i64 k, .int .i64 wd] W fun e w' => ∃ (p : Nat) (l' : List Nd) (vN' : Value), e = .returned (.int .i64 p) ∧ Hid (Ft l l' p wd) ∧ Hid (Rd w X z0 z1 z2 z3 z4 l' vN' vT w') := by
  refine (kFit_c _ _ l vN vT _ W k wd h.ls hk (by omega)).mono ?_
  rintro e w' ⟨rfl, vN', hls, hb⟩
  have f := h.m.fit hk h1 h2
  exact ⟨_, _, vN', rfl, f, h.bx hb hls f.m⟩
theorem rAdd {W' : World} (x : Nd) (ia : Option Addr) (iq ic : Nat) (h : Rd w X z0 z1 z2 z3 z4 l vN vT W) (hb : Below W.heap.size W W') (hi : IntsN W' (Nb (w.heap.size + 1) (w.heap.size + 1) vN vT) (.slice ia iq ic) x.ins) (hk : Nk l l.length x) (hl : l.length ≤ 1000) :
    Calls Try.prog 15 #[.pointer (some ⟨w.heap.size + 1, 0, none⟩), .agg #[.int .i64 x.k, .int .i64 x.op, .int .i64 x.wd, .slice ia iq ic, .string (S x.vl), .int .i64 x.hi, .int .i64 x.lo, .int .i64 x.tm]] W' fun e w' => (∃ k : Int, e = .returned (.int .i64 k)) ∧ ∃ vN', Hid (Rd w X z0 z1 z2 z3 z4 (l ++ [x]) vN' vT w') := by
  refine (kAdds_c _ _ l vN vT _ W' x ia iq ic (h.ls.below hb) hi (by omega)).mono ?_
  rintro e w' ⟨rfl, vN', hls, hbx⟩
  exact ⟨⟨_, rfl⟩, vN', (h.below hb).bx hbx hls (h.m.add hk)⟩
theorem three_new {B b : Nat} {pt : Pt} (h : LsW B b l vN vT pt W) (x y z : Int) : IntsN (W.alloc (.cells #[.int .i64 x, .int .i64 y, .int .i64 z] 3)) (Nb B b vN vT) (.slice (some ⟨W.heap.size, 0, none⟩) 3 3) [x, y, z] := by
  refine ⟨_, 3, rfl, Nat.le_refl _, Or.inr ⟨W.heap.size, 0, rfl, h.newN, by simp, fun i hi => ?_⟩⟩
  have h0 : i = 0 ∨ i = 1 ∨ i = 2 := by simp at hi; omega
  rcases h0 with rfl | rfl | rfl <;> (rw [Lib.cell_of_heap (alAt rfl)]; rfl)
theorem Rd.md {i : Nat} (h : Rd w X z0 z1 z2 z3 z4 l vN vT W) (hl : l.length ≤ 2 + 3 * i) : Md w i l vN vT W := ⟨h.ls, h.m, hl, h.bel⟩
theorem Rd.of {i : Nat} {k : Nat} (h : Md w i l vN vT W) : Rd w W.heap.size z0 z1 z2 z3 z4 l vN vT ((W.alloc (.cells #[.int .i64 z0, .int .i64 z1, .int .i64 z2, .int .i64 z3, .int .i64 z4] 54)).drewN k) := by
  have hb : Below W.heap.size W ((W.alloc (.cells #[.int .i64 z0, .int .i64 z1, .int .i64 z2, .int .i64 z3, .int .i64 z4] 54)).drewN k) := belDN (belA (Below.refl _ _) _) _
  exact ⟨h.ls.below hb, h.m, alAt (W := W) rfl, h.ls.newN.1, h.bel.trans (hb.mono (by have := hLt h.ls.blk; omega))⟩
end
theorem GsAt.up {w W : World} {B B' m : Nat} {v : Value} {F : Nat → Nat → Int} (h : GsAt w B v m F) (hb : Below B w W) (h1 : B ≤ B') (h2 : B' ≤ W.heap.size) : GsAt W B' v m F := by
  have k := h.below hb
  clear h
  obtain ⟨ao, cap, rfl, k⟩ := k
  refine ⟨ao, cap, rfl, ?_⟩
  rcases k with k | ⟨g, o, rfl, hg, _, k⟩
  · exact Or.inl k
  · exact Or.inr ⟨g, o, rfl, by omega, h2, k⟩
/-- a net is appended -/
theorem nets_end {B b : Nat} {l : List Nd} {vN vT v7 : Value} {nets : List Int} {z : Int} {w w2 w7 : World} (h : LsW B b l vN vT ⟨0, nets⟩ w) (hb2 : Below w.heap.size w w2) (ho : w7.ownsRow B 3 1 v7 (nets.length + 1) (iC nets ++ [.int .i64 z])) (hg : w2.grownBy w7 vT.ownBlock) (ha : v7.ownBlock = vT.ownBlock ∨ v7.ownBlock = some w2.heap.size) :
    LsW B b l vN v7 ⟨0, nets ++ [z]⟩ (w7.setCell ⟨b, 1, none⟩ v7) ∧ Below B w (w7.setCell ⟨b, 1, none⟩ v7) := by
  have hbl := hLt h.blk
  have hnt : vT.ownBlock ≠ some b := fun e => (h.nt.2 b e).2.1 rfl
  have hb7 : w7.heap[b]? = some (.cells #[vN, vT, .int .i64 0] 51 (0, 0)) := (hg.block b (Nat.lt_of_lt_of_le hbl hb2.size) (fun e => hnt e.symm)).trans ((hb2.block b hbl).trans h.blk)
  have h7b : v7.ownBlock ≠ some b := own_neT ho hb7 (by decide)
  have hsz := hb2.size
  obtain ⟨xs, hx, _⟩ := h.row
  refine ⟨h.setT (hset3t hb7 v7) ⟨by have := hg.size; simp [World.setCell]; omega, fun k hk hN => ?_⟩ ?_ (fun g e => ?_) ?_, ?_⟩
  · rw [Below.heap_setCell _ _ _ _ hN.1, hg.block k (by omega) (fun e => hN.2 e.symm), hb2.block k hk]
  · rw [List.length_append, List.length_singleton, iC_app, iC_one]; exact own_setB ho h7b
  · rcases ha with ha | ha
    · rw [ha] at e; exact h.nt.2 g e
    · rw [ha] at e
      injection e with e
      have := h.hb
      exact ⟨by omega, by omega, fun e2 => by have := (World.ownsRow.lt hx g e2).2; omega⟩
  · rcases ha with ha | ha
    · exact Or.inl ha
    · right; intro g e; rw [ha] at e; injection e with e; omega
  · refine (?_ : Below B w w7).setCell h.hb _
    have hr : ∀ k, k < B → some k ≠ vT.ownBlock := fun k hk e => by have := (h.nt.2 k e.symm).1; omega
    have := h.hb
    exact ⟨hg.os.trans hb2.os, hg.tape.trans hb2.tape, hg.output.trans hb2.output, Nat.le_trans hb2.size hg.size, fun k hk => (hg.block k (by omega) (hr k hk)).trans (hb2.block k (by omega))⟩
/-- the nets of a netlist of n nodes: both inputs, then so many of the last ones -/
def netsL (n j : Nat) : List Int := [0, 1] ++ (List.range j).map fun q => ((n - 1 - q : Nat) : Int)
theorem netsL_succ (n j : Nat) : netsL n (j + 1) = netsL n j ++ [((n - 1 - j : Nat) : Int)] := by unfold netsL; rw [List.range_succ, List.map_append, List.append_assoc]; rfl
theorem netsL_len (n j : Nat) : (netsL n j).length = j + 2 := by simp [netsL]
theorem netsL_may {l : List Nd} (h : Mk l) (hl : l.length ≤ 4096) {j : Nat} (hj : ∀ q, q < j → q + 3 ≤ l.length) : mayN l (netsL l.length j) (netsL l.length j).length = true := by
  have h2 := h.two
  have hc : ∀ v : Nat, v < 2 → cnt ((List.range j).map fun q => ((l.length - 1 - q : Nat) : Int)) v = 0 := fun v hv => by
    unfold cnt
    rw [List.countP_eq_zero]
    intro z hz
    obtain ⟨q, hq, rfl⟩ := List.mem_map.1 hz
    have := hj q (List.mem_range.1 hq)
    simp; omega
  refine h.may hl ?_ ?_ ?_
  · rw [List.all_eq_true]
    intro z hz
    unfold netsL at hz
    rcases List.mem_append.1 hz with hz | hz
    · simp at hz; rcases hz with rfl | rfl <;> simp [inB] <;> omega
    · obtain ⟨q, hq, rfl⟩ := List.mem_map.1 hz
      simp [inB]; omega
  · have := hc 0 (by omega)
    unfold cnt netsL at *
    rw [List.countP_append, this]; rfl
  · have := hc 1 (by omega)
    unfold cnt netsL at *
    rw [List.countP_append, this]; rfl
theorem own_ndsB {w : World} {B : Nat} {N : Nat → Prop} {v : Value} {l : List Nd} {xs : List Value} (ho : w.ownsRow B 47 8 v l.length xs) (hn : NcAt w N l xs) : NdsAt w v l := by
  rcases ho.2 with ⟨rfl, h0⟩ | ⟨g, cap, cur, rfl, hg, hh, hc, _, hz, ht⟩
  · exact ⟨none, 0, by rw [h0], by omega, Or.inl (List.eq_nil_of_length_eq_zero h0)⟩
  · refine ⟨_, cap, rfl, hc, Or.inr ⟨g, 0, rfl, hLt hh, fun i hi => ?_⟩⟩
    obtain ⟨vi, a, b⟩ := hn.at_ i hi
    refine ⟨vi, a.ints, fun j u hu => ?_⟩
    have hx := b j u hu
    rw [Lib.cell_of_heap hh, Nat.zero_add]
    rw [← ht, List.getElem?_take] at hx
    split at hx
    · simpa using hx
    · cases hx
/-- nodes and nets are as they were, whatever becomes of the netlist's own block -/
theorem LsW.fin {B b : Nat} {l : List Nd} {vN vT : Value} {pt : Pt} {W W' : World} (h : LsW B b l vN vT pt W) (hk : KeepN (fun g => B ≤ g ∧ g ≠ b) W W') : NdsAt W' vN l ∧ IntsAt W' vT pt.nets := by
  obtain ⟨xs, hx, hc⟩ := h.row
  have o1 := own_keep (N := fun g => B ≤ g ∧ g ≠ b) hx (fun g e => ⟨own_ge hx g e, fun e2 => own_neT hx h.blk (by decide) (by rw [← e2]; exact e)⟩) hk
  have o2 := own_keep (N := fun g => B ≤ g ∧ g ≠ b) h.nt.1 (fun g e => ⟨(h.nt.2 g e).1, (h.nt.2 g e).2.1⟩) hk
  exact ⟨own_ndsB o1 ((hc.mono (N' := fun g => B ≤ g ∧ g ≠ b) (fun g _ hN => ⟨hN.1.1, hN.1.2.1⟩)).keep hk), own_ints o2⟩
theorem results_cell3 {P : Program} {fn : Func} {tmps : Array Value} {w : World} {r : Nat} {t : TypeId} (hr : fn.results = #[.cell r t]) (g : Nat) (hg : tmps.getD r undef = .pointer (some ⟨g, 0, none⟩)) (c : Array Value) (t' : TypeId) (d : TypeDesc)
    (hb : w.heap[g]? = some (.cells c t' (0, 0))) (hu : P.underlying t = some d) (hd : (match d with | .struct _ | .array _ _ => true | _ => false) = true) (hi : (P.info? t).map (·.size) = some c.size) : (results fn tmps).run P w = .ok (.agg c) w := by
  have e := run_loadVar_row w g t' t c (0, 0) d hb hu hd hi
  unfold results
  rw [hr]
  rw [Array.getD_eq_getD_getElem?] at hg
  simp [hg, e, asAddr]
theorem netl_size : (Try.prog.info? 26).map (·.size) = some 3 := by kernel_rfl
theorem hset3all {w : World} {b : Nat} {x0 x1 x2 : Value} {t : TypeId} (h : w.heap[b]? = some (.cells #[x0, x1, x2] t (0, 0))) (y0 y1 y2 : Value) : (((w.setCell ⟨b, 0, none⟩ y0).setCell ⟨b, 1, none⟩ y1).setCell ⟨b, 2, none⟩ y2).heap[b]? = some (.cells #[y0, y1, y2] t (0, 0)) := by
  have h1 := hset3 h y0
  have h2 := hset3t h1 y1
  simp only [World.setCell] at h2 ⊢
  rw [Array.getElem?_modify, if_pos rfl, h2]; rfl
theorem made_keep (W : World) (R : Nat) (a b c d : Value) : KeepN (fun g => R + 1 ≤ g ∧ g ≠ R + 1) W ((((W.setCell ⟨R + 1, 2, none⟩ a).setCell ⟨R, 0, none⟩ b).setCell ⟨R, 1, none⟩ c).setCell ⟨R, 2, none⟩ d) := by
  refine ⟨by simp [World.setCell], fun k _ hN => ?_⟩
  rw [Below.heap_setCell _ _ _ _ (by show k ≠ R; omega), Below.heap_setCell _ _ _ _ (by show k ≠ R; omega), Below.heap_setCell _ _ _ _ (by show k ≠ R; omega), Below.heap_setCell _ _ _ _ (by show k ≠ R + 1; exact hN.2)]
theorem made_below {w W : World} {o : Obj} (h : Below (w.heap.size + 1) (w.alloc o) W) (a b c d : Value) : Below w.heap.size w ((((W.setCell ⟨w.heap.size + 1, 2, none⟩ a).setCell ⟨w.heap.size, 0, none⟩ b).setCell ⟨w.heap.size, 1, none⟩ c).setCell ⟨w.heap.size, 2, none⟩ d) := by
  have h0 : Below w.heap.size w W := (belA (Below.refl _ _) o).trans (h.mono (by omega))
  exact (((h0.setCell (p := ⟨w.heap.size + 1, 2, none⟩) (by show w.heap.size ≤ w.heap.size + 1; omega) a).setCell (p := ⟨w.heap.size, 0, none⟩) (Nat.le_refl _) b).setCell (p := ⟨w.heap.size, 1, none⟩) (Nat.le_refl _) c).setCell (p := ⟨w.heap.size, 2, none⟩) (Nat.le_refl _) d
end Go.Proofs.Ytclcpfhbmoaadaa

/- Texts UA UB UC, joined: what each part says stands ahead of it. -/
import Derived.Test.YtodpljgajjcdoaaGreatDoorDD
import Derived.Shelf.Strings.Builder1
import Derived.Deep.LoopGhost
import Derived.Test.YtodpljgajjcdoaaGreatDoorDH
/- Layer 19 of the program: the builder that lies in a writer. -/
namespace Go.Proofs.YtodpljgajjcdoaaGreatDoor
set_option maxRecDepth 100000
open Go.RowKit Lg Nl Go.Maps Wf Vd
set_option linter.unusedVariables false
set_option linter.unusedSimpArgs false

/-- what a call of the writer leaves: all that lies below, and all but its own box and rows of bytes -/
structure Kb (b : Nat) (w w' : World) : Prop where
  low : Below b w w'
  far : ∀ (k : Nat) (cs : Array Value) (t : TypeId) (fr : Nat × Nat), w.heap[k]? = some (.cells cs t fr) → t ≠ 5 → k ≠ b → w'.heap[k]? = some (.cells cs t fr)
theorem Kb.refl (b : Nat) (w : World) : Kb b w w := ⟨Below.refl _ _, fun _ _ _ _ h _ _ => h⟩
theorem Kb.trans {b : Nat} {u v w : World} (h : Kb b u v) (k : Kb b v w) : Kb b u w := ⟨h.low.trans k.low, fun i cs t fr e ht hi => k.far i cs t fr (h.far i cs t fr e ht hi) ht hi⟩
theorem Kb.of {b : Nat} {w w' : World} (h : Below w.heap.size w w') (hb : b ≤ w.heap.size) : Kb b w w' := ⟨h.mono hb, fun k cs t fr e _ _ => (h.block k (hLt e)).trans e⟩
/-- all but one block stand -/
structure Kx (b : Nat) (w w' : World) : Prop where
  low : Below b w w'
  far : ∀ k, k ≠ b → w'.heap[k]? = w.heap[k]?
theorem Kx.refl (b : Nat) (w : World) : Kx b w w := ⟨Below.refl _ _, fun _ _ => rfl⟩
theorem Kx.set (b j : Nat) (y : Value) (w : World) : Kx b w (w.setCell ⟨b, j, none⟩ y) := ⟨(Below.refl b w).setCell (p := ⟨b, j, none⟩) (Nat.le_refl _) y, fun k hk => Below.heap_setCell _ _ _ _ (show k ≠ b from hk)⟩
theorem Kx.kb {b : Nat} {w w' : World} (h : Kx b w w') : Kb b w w' := ⟨h.low, fun k cs t fr e _ hk => (h.far k hk).trans e⟩
theorem set20 {W : World} {b : Nat} {x0 x1 y : Value} {t : TypeId} (h : W.heap[b]? = some (.cells #[x0, x1] t (0, 0))) : (W.setCell ⟨b, 0, none⟩ y).heap[b]? = some (.cells #[y, x1] t (0, 0)) := by
  simp only [World.setCell]
  rw [Array.getElem?_modify, if_pos rfl, h]; rfl
theorem set21 {W : World} {b : Nat} {x0 x1 y : Value} {t : TypeId} (h : W.heap[b]? = some (.cells #[x0, x1] t (0, 0))) : (W.setCell ⟨b, 1, none⟩ y).heap[b]? = some (.cells #[x0, y] t (0, 0)) := by
  simp only [World.setCell]
  rw [Array.getElem?_modify, if_pos rfl, h]; rfl
theorem own_keep {w w' : World} {B e z n : Nat} {v : Value} {xs : List Value} (h : w.ownsRow B e z v n xs) (hk : ∀ g, v.ownBlock = some g → w'.heap[g]? = w.heap[g]?) : w'.ownsRow B e z v n xs := by
  obtain ⟨h1, h2⟩ := h
  refine ⟨h1, ?_⟩
  rcases h2 with h2 | ⟨g, cap, cur, rfl, hg, hh, r⟩
  · exact Or.inl h2
  · exact Or.inr ⟨g, cap, cur, rfl, hg, (hk g rfl).trans hh, r⟩
theorem wtN : 63 ≠ 5 := by decide
theorem Ob.kx {b : Nat} {w w' : World} {a : Option Addr} {n c : Nat} {l : List UInt8} {cs : Array Value} (h : Ob b w a n c l) (hb : w.heap[b]? = some (.cells cs 63 (0, 0))) (k : Kx b w w') : Ob b w' a n c l :=
  ⟨own_keep h.o fun g e => k.far g fun e2 => h.ne hb wtN (by rw [e, e2]), h.e⟩
/-- a writer's box, its builder holding bytes -/
def Bu (b : Nat) (W : World) (l : List UInt8) : Prop := ∃ (p a : Option Addr) (n c : Nat), (p = none ∨ p = some ⟨b, 0, none⟩) ∧ W.heap[b]? = some (.cells #[.pointer p, .slice a n c] 63 (0, 0)) ∧ Ob b W a n c l
theorem Bu.lt {b : Nat} {W : World} {l : List UInt8} (h : Bu b W l) : b < W.heap.size := by
  obtain ⟨p, a, n, c, _, hh, _⟩ := h
  exact hLt hh
theorem Bu.below {b : Nat} {W W' : World} {l : List UInt8} (h : Bu b W l) (hb : Below W.heap.size W W') : Bu b W' l := by
  obtain ⟨p, a, n, c, hp, hh, ho⟩ := h
  exact ⟨p, a, n, c, hp, (hb.block b (hLt hh)).trans hh, ho.below hb⟩
theorem copy_c (b : Nat) (p : Option Addr) (v : Value) (w : World) (hh : w.heap[b]? = some (.cells #[.pointer p, v] 63 (0, 0))) (hp : p = none ∨ p = some ⟨b, 0, none⟩) :
    Calls Tryz.prog 69 #[.pointer (some ⟨b, 0, none⟩)] w fun e w' => e = .returned (.tuple #[]) ∧ w'.heap[b]? = some (.cells #[.pointer (some ⟨b, 0, none⟩), v] 63 (0, 0)) ∧ Kx b w w' := by
  obtain ⟨j, hj, hjs⟩ : ∃ j, Tryz.prog.info? 61 = some j ∧ j.size = 2 := Option.map_eq_some_iff.1 (show (Tryz.prog.info? 61).map (·.size) = some 2 by kernel_rfl)
  have h0 : w.cell? ⟨b, 0, none⟩ = some (.pointer p) := by rw [Lib.cell_of_heap hh]; rfl
  have hfz : w.frozen? ⟨b, 0, none⟩ = false := Lib.frozen_of_heap hh 0
  have hsh : w.shape? b = some (63, 2) := by simp [World.shape?, hh]
  have HS := hidV (set20 (y := .pointer (some ⟨b, 0, none⟩)) hh)
  have HH := hidV hh
  clear hh
  rcases hp with rfl | rfl
  · go_enter Tryz.func69, Tryz.ntmps69
    go_wp2
    rw [Lib.run_to_unsafe w ⟨b, 0, none⟩ Tryz.underlying59 Tryz.underlying111 hj (by rw [hjs]; decide) hsh (Nat.zero_lt_succ 1)]
    simp only [Result.andThen]
    rw [Oper.upon_value]
    go_wp2
    rw [run_callFunc_extern Tryz.func84 (by kernel_rfl) (by kernel_rfl) (by kernel_rfl) (e := Extern.AbiNoEscape.same) (by kernel_rfl)]
    rw [Lib.run_noEscape]
    simp only [Result.andThen]
    rw [Oper.upon_value]
    go_wp2
    rw [Lib.run_from_unsafe w ⟨b, 0, none⟩ Tryz.underlying111 Tryz.underlying59 hj hsh (by kernel_rfl)]
    simp only [Result.andThen]
    rw [Oper.upon_value]
    go_wp2
    go_end0
    exact ⟨rfl, HS.out, Kx.set _ _ _ _⟩
  · go_enter Tryz.func69, Tryz.ntmps69
    go_wp2
    rw [Lib.run_neq_ptr_same w _ Tryz.underlying59 hj]
    go_wp2
    go_end0
    exact ⟨rfl, HH.out, Kx.refl _ _⟩
theorem bu_put {b : Nat} {w w1 : World} {p a a1 : Option Addr} {n c n1 c1 : Nat} {l l1 : List UInt8} (hp : p = none ∨ p = some ⟨b, 0, none⟩) (hh : w.heap[b]? = some (.cells #[.pointer p, .slice a n c] 63 (0, 0))) (ho : Ob b w a n c l) (ho1 : Ob b w1 a1 n1 c1 l1)
    (hb : Below b w w1) (hg : ∀ k, k < w.heap.size → (Value.slice a n c).ownBlock ≠ some k → w1.heap[k]? = w.heap[k]?) : Bu b (w1.setCell ⟨b, 1, none⟩ (.slice a1 n1 c1)) l1 ∧ Kb b w (w1.setCell ⟨b, 1, none⟩ (.slice a1 n1 c1)) := by
  have h1 : w1.heap[b]? = some (.cells #[.pointer p, .slice a n c] 63 (0, 0)) := (hg b (hLt hh) (ho.ne hh wtN)).trans hh
  have hk := Kx.set b 1 (.slice a1 n1 c1) w1
  refine ⟨⟨p, a1, n1, c1, hp, set21 h1, ho1.kx h1 hk⟩, ⟨hb.trans hk.low, fun k cs t fr e ht hkb => (hk.far k hkb).trans ((hg k (hLt e) (ho.ne e ht)).trans e)⟩⟩
set_option maxHeartbeats 2000000 in
set_option maxRecDepth 100000 in
theorem wstr_c (b : Nat) (l : List UInt8) (s : ByteArray) (w : World) (h : Bu b w l) (hs : l.length + s.size ≤ 70368744177664) :
    Calls Tryz.prog 59 #[.pointer (some ⟨b, 0, none⟩), .string s] w fun e w' => (∃ v, e = .returned v) ∧ Bu b w' (l ++ L s) ∧ Kb b w w' := by
  obtain ⟨p, a, n, c, hp, hh, ho⟩ := h
  have HC := hidV (copy_c b p (.slice a n c) w hh hp)
  have HO := hidV ho
  have HN : Hid (n = l.length) := ho.e
  have HH := hidV hh
  have HL : Hid (l.length + s.size ≤ 70368744177664) := hs
  clear hh ho hs hp
  go_enter Tryz.func59, Tryz.ntmps59
  go_wp2_with (first
    | (go_at_call 69; refine HC.out.mono ?_; rintro e w1 ⟨rfl, hh1, hk1⟩; have ho1 := HO.out.kx HH.out hk1; have HH1 := hidV hh1; have HO1 := hidV ho1; have HK1 := hidV hk1; have HB1 : Hid (b ≤ w1.heap.size) := Nat.le_of_lt (hLt hh1); have d1 : w1.cell? ⟨b, 1, none⟩ = some (.slice a n c) := (by rw [Lib.cell_of_heap hh1]; rfl); clear hh1 hk1 ho1)
    | (at_builtin; refine app_str rfl _ _ rfl b a n c l rfl HO1.out s rfl (by have := HN.out; have := HL.out; omega) HB1.out ?_; intro a2 n2 c2 w2 HO2 HN2 hb2 hg2; have hh2 : w2.heap[b]? = some (.cells #[.pointer (some ⟨b, 0, none⟩), .slice a n c] 63 (0, 0)) := (hg2.out b (hLt HH1.out) (HO1.out.ne HH1.out wtN)).trans HH1.out; have HO2' := hidV HO2; have HB2' := hidV hb2; have d2 : w2.cell? ⟨b, 1, none⟩ = some (.slice a n c) := (by rw [Lib.cell_of_heap hh2]; rfl); have f2 : w2.frozen? ⟨b, 1, none⟩ = false := Lib.frozen_of_heap hh2 1; clear HO2 hb2 hh2))
  go_ret2
  obtain ⟨r1, r2⟩ := bu_put (Or.inr rfl) HH1.out HO1.out HO2'.out HB2'.out hg2.out
  exact ⟨⟨_, rfl⟩, r1, HK1.out.kb.trans r2⟩
set_option maxHeartbeats 2000000 in
set_option maxRecDepth 100000 in
theorem wbyte_c (b : Nat) (l : List UInt8) (x : UInt8) (z : Int) (hz : (x.toNat : Int) = z) (w : World) (h : Bu b w l) (hs : l.length + 1 ≤ 70368744177664) :
    Calls Tryz.prog 60 #[.pointer (some ⟨b, 0, none⟩), .int .u8 z] w fun e w' => (∃ v, e = .returned v) ∧ Bu b w' (l ++ [x]) ∧ Kb b w w' := by
  obtain ⟨p, a, n, c, hp, hh, ho⟩ := h
  have HC := hidV (copy_c b p (.slice a n c) w hh hp)
  have HO := hidV ho
  have HN : Hid (n = l.length) := ho.e
  have HH := hidV hh
  have HL : Hid (l.length + 1 ≤ 70368744177664) := hs
  have HZ : Hid ((x.toNat : Int) = z) := hz
  clear hh ho hs hp hz
  go_enter Tryz.func60, Tryz.ntmps60
  go_wp2_with (first
    | (go_at_call 69; refine HC.out.mono ?_; rintro e w1 ⟨rfl, hh1, hk1⟩; have ho1 := HO.out.kx HH.out hk1; have HH1 := hidV hh1; have HO1 := hidV ho1; have HK1 := hidV hk1; have HB1 : Hid (b ≤ w1.heap.size) := Nat.le_of_lt (hLt hh1); have d1 : w1.cell? ⟨b, 1, none⟩ = some (.slice a n c) := (by rw [Lib.cell_of_heap hh1]; rfl); clear hh1 hk1 ho1)
    | (at_builtin; refine app_byte rfl _ _ rfl b a n c l x z HZ.out rfl HO1.out rfl (by have := HN.out; have := HL.out; omega) HB1.out ?_; intro a2 n2 c2 w2 HO2 HN2 hb2 hg2; have hh2 : w2.heap[b]? = some (.cells #[.pointer (some ⟨b, 0, none⟩), .slice a n c] 63 (0, 0)) := (hg2.out b (hLt HH1.out) (HO1.out.ne HH1.out wtN)).trans HH1.out; have HO2' := hidV HO2; have HB2' := hidV hb2; have d2 : w2.cell? ⟨b, 1, none⟩ = some (.slice a n c) := (by rw [Lib.cell_of_heap hh2]; rfl); have f2 : w2.frozen? ⟨b, 1, none⟩ = false := Lib.frozen_of_heap hh2 1; clear HO2 hb2 hh2))
  go_ret
  obtain ⟨r1, r2⟩ := bu_put (Or.inr rfl) HH1.out HO1.out HO2'.out HB2'.out hg2.out
  exact ⟨⟨_, rfl⟩, r1, HK1.out.kb.trans r2⟩
theorem wlen_c (b : Nat) (l : List UInt8) (w : World) (h : Bu b w l) :
    Calls Tryz.prog 61 #[.pointer (some ⟨b, 0, none⟩)] w fun e w' => e = .returned (.int .i64 l.length) ∧ w' = w := by
  obtain ⟨p, a, n, c, hp, hh, ho⟩ := h
  have d1 : w.cell? ⟨b, 1, none⟩ = some (.slice a n c) := by rw [Lib.cell_of_heap hh]; rfl
  have HN : Hid (n = l.length) := ho.e
  clear hh ho hp
  go_enter Tryz.func61, Tryz.ntmps61
  go_wp2
  go_ret
  exact ⟨by rw [HN.out]; rfl, rfl⟩
set_option maxHeartbeats 2000000 in
set_option maxRecDepth 100000 in
theorem wfin_c (b : Nat) (l : List UInt8) (w : World) (h : Bu b w l) (h0 : l ≠ []) (hl : l.length ≤ 9223372036854775807) :
    Calls Tryz.prog 34 #[.pointer (some ⟨b, 0, none⟩)] w fun e w' => e = .returned (.string (S l)) ∧ Kb b w w' := by
  obtain ⟨p, a, n, c, hp, hh, ho⟩ := h
  have hn : n = l.length := ho.e
  subst hn
  have hl0 : l.length ≠ 0 := by simpa using h0
  have hown := ho.o
  obtain ⟨g, cap, cur, e0, hbg, hg, hnc, hcm, hcs, htake⟩ : ∃ g cap cur, Value.slice a l.length c = .slice (some ⟨g, 0, none⟩) l.length cap ∧ b ≤ g ∧ w.heap[g]? = some (.cells cur 5 (0, 0)) ∧ l.length ≤ cap ∧ cap ≤ maxLen ∧ cur.size = cap * 1 ∧ cur.toList.take (l.length * 1) = bC l := by
    rcases hown.2 with ⟨_, hz⟩ | ⟨g, cap, cur, hv, r⟩
    · exact absurd hz hl0
    · exact ⟨g, cap, cur, hv, r⟩
  injection e0 with e1 e2 e3
  subst e1 e3
  have hgb : g ≠ b := fun e => by subst e; rw [hg] at hh; injection hh with hh; injection hh with _ e2 _; exact wtN e2.symm
  have c1 : w.drew.cell? ⟨b, 1, none⟩ = some (.slice (some ⟨g, 0, none⟩) l.length c) := by
    have : w.drew.heap[b]? = some (.cells #[.pointer p, .slice (some ⟨g, 0, none⟩) l.length c] 63 (0, 0)) := hh
    rw [Lib.cell_of_heap this]; rfl
  have hSD : (Builtin.unsafeSliceData_ #[49] 80 #[.slice (some ⟨g, 0, none⟩) l.length c]).run Tryz.prog w.drew = .ok (.pointer (some ⟨g, 0, none⟩)) w.drew :=
    Lib.run_unsafeSliceData_row _ _ _ _ _ _ (by omega)
  have hUS : (Builtin.unsafeString_ #[80, 3] 9 #[.pointer (some ⟨g, 0, none⟩), .int .i64 l.length]).run Tryz.prog w.drew = .ok (.string (S l)) (w.drew.freeze ⟨g, 0, none⟩ l.length) := by
    refine Lib.run_unsafeString_row w.drew 80 3 9 5 Tryz.underlying80 (by kernel_rfl) g cur.size (by have hg' : w.drew.heap[g]? = some (.cells cur 5 (0, 0)) := hg; simp [World.shape?, hg']) l h0 (by omega) hl ?_
    intro j x hx
    have := hown.cells (g := g) rfl j (.int .u8 x.toNat) (by simp [bC, hx])
    exact this
  have HK : Hid (Kb b w (w.drew.freeze ⟨g, 0, none⟩ l.length)) := by
    refine ⟨Lib.below_freeze (Below.drew (Below.refl b w)) (p := ⟨g, 0, none⟩) hbg _, fun k cs t fr e ht hk => ?_⟩
    have hkg : k ≠ g := fun e2 => by subst e2; rw [hg] at e; injection e with e; injection e with _ e2 _; exact ht e2.symm
    have := (Lib.below_freeze (Below.drew (Below.refl b w)) (p := ⟨g, 0, none⟩) hbg l.length)
    show (w.drew.freeze ⟨g, 0, none⟩ l.length).heap[k]? = _
    rw [show (w.drew.freeze ⟨g, 0, none⟩ l.length).heap[k]? = w.heap[k]? from by simp only [World.freeze, if_neg hl0]; rw [Array.getElem?_modify, if_neg (show g ≠ k from fun e => hkg e.symm)]; rfl]
    exact e
  clear hh hg htake hown ho hcs hcm
  have mixed : Tryz.prog.follows .mixedOrders = true := by kernel_rfl
  go_enter Tryz.func34, Tryz.ntmps34
  go_wp2
  go_region_o
  all_goals (go_wp2; go_ret; exact ⟨rfl, HK.out⟩)
end Go.Proofs.YtodpljgajjcdoaaGreatDoor

/- Layer 19 of the program: a line is put. -/
namespace Go.Proofs.YtodpljgajjcdoaaGreatDoor
set_option maxRecDepth 100000
open Go.RowKit Lg Nl Go.Maps Wf Vd
set_option linter.unusedVariables false
set_option linter.unusedSimpArgs false

/-- what is thrown where a dump would be too long, or bytes are none -/
def pnV : List PanicEntry := [{ v := .iface 51 (.agg #[]), recovered := false }]
def maxO : Nat := 1048576
/-- the writer has put a text, or has given up, since it would be too long -/
def Ln (b : Nat) (w : World) (t : List UInt8) (e : Ending) (w' : World) : Prop :=
  Kb b w w' ∧ ((t.length ≤ maxO ∧ e = .returned (.tuple #[]) ∧ Bu b w' t) ∨ (maxO < t.length ∧ e = .panicked pnV))
/-- the parts of a line, and its end -/
def flatB (ps : List ByteArray) : List UInt8 := ps.flatMap L
def lineT (ps : List ByteArray) : List UInt8 := flatB ps ++ [10]
theorem flatB_succ (ps : List ByteArray) (i : Nat) (h : i < ps.length) : flatB (ps.take (i + 1)) = flatB (ps.take i) ++ L ps[i] := by
  unfold flatB
  rw [List.take_succ_eq_append_getElem h, List.flatMap_append]
  simp
theorem flatB_le : ∀ (ps : List ByteArray) (m : Nat), (∀ s ∈ ps, s.size ≤ m) → (flatB ps).length ≤ ps.length * m
  | [], m, _ => by simp [flatB]
  | s :: ps, m, h => by
    have h1 := flatB_le ps m fun x hx => h x (List.mem_cons_of_mem _ hx)
    have h2 := h s List.mem_cons_self
    have h3 : (flatB (s :: ps)).length = s.size + (flatB ps).length := by
      have : flatB (s :: ps) = L s ++ flatB ps := rfl
      rw [this, List.length_append, len_L]
    rw [h3, List.length_cons, Nat.succ_mul]
    omega
theorem part_at {w : World} {g : Nat} {ps : List ByteArray} {fr : Nat × Nat} (h : w.heap[g]? = some (.cells (ps.map Value.string).toArray 9 fr)) (i : Nat) (hi : i < ps.length) : w.cell? ⟨g, i, none⟩ = some (.string ps[i]) := by
  rw [Lib.cell_of_heap h]
  simp [hi]
theorem sN8 : 9 ≠ 5 := by decide
set_option maxHeartbeats 2000000 in
set_option maxRecDepth 100000 in
theorem line_c (b g : Nat) (l : List UInt8) (ps : List ByteArray) (w : World) (h : Bu b w l) (hp : w.heap[g]? = some (.cells (ps.map Value.string).toArray 9 (0, 0))) (hgb : g ≠ b) (hl : l.length ≤ maxO) (hn : ps.length ≤ 16) (hs : ∀ s ∈ ps, s.size ≤ 100000) :
    Calls Tryz.prog 51 #[.pointer (some ⟨b, 0, none⟩), .slice (some ⟨g, 0, none⟩) ps.length ps.length] w fun e w' => Ln b w (l ++ lineT ps) e w' := by
  have HU := hidV h
  have HP := hidV hp
  have HG := hidV hgb
  have HL : Hid (l.length ≤ 1048576) := hl
  have HN := hidV hn
  have HS := hidV hs
  clear h hp hgb hl hn hs
  go_enter Tryz.func51, Tryz.ntmps51
  go_upto_region 1 with fail
  go_loopg [8] ps.length (fun gh s8 wr => ∃ i : Nat, i ≤ ps.length ∧ gh = ps.length - i ∧ s8 = .int .i64 i ∧ Hid (Bu b wr (l ++ flatB (ps.take i))) ∧ Hid (Kb b w wr))
  case atStart => exact ⟨0, Nat.zero_le _, rfl, rfl, by show Bu _ _ _; simpa [flatB] using HU.out, Kb.refl _ _⟩
  case round =>
    obtain ⟨i, hi, rfl, rfl, HB, HK⟩ := hrel
    obtain ⟨wx, hwx⟩ : ∃ wx, wx = wr := ⟨_, rfl⟩
    rw [← hwx] at HB HK ⊢
    clear hwx
    by_cases hin : i < ps.length
    · have HP1 := hidV (HK.out.far g _ _ _ HP.out sN8 HG.out)
      obtain ⟨s, hse⟩ : ∃ s, s = ps[i]'hin := ⟨_, rfl⟩
      have c0 : wx.cell? ⟨g, i, none⟩ = some (.string s) := by rw [hse]; exact part_at HP1.out i hin
      have lg := hLt HP1.out
      have i0 : (0 : Int) ≤ (i : Int) := by omega
      have i1 : (i : Int) < (ps.length : Int) := by omega
      have HI : Hid (i < ps.length) := hin
      have HF : Hid (flatB (ps.take (i + 1)) = flatB (ps.take i) ++ L s) := by show _ = _; rw [hse]; exact flatB_succ ps i hin
      have HZ : Hid ((L s).length = s.size ∧ s.size ≤ 100000) := ⟨len_L _, HS.out _ (by rw [hse]; exact List.getElem_mem hin)⟩
      have HT : Hid ((flatB (ps.take i)).length ≤ 16 * 100000) := Nat.le_trans (flatB_le _ 100000 fun s hs => HS.out s (List.mem_of_mem_take hs)) (Nat.mul_le_mul_right _ (Nat.le_trans (by rw [List.length_take]; exact Nat.min_le_right _ _) HN.out))
      clear hin hse
      have HW : Hid (Calls Tryz.prog 59 #[.pointer (some ⟨b, 0, none⟩), .string s] wx fun e w' => (∃ v, e = .returned v) ∧ Bu b w' ((l ++ flatB (ps.take i)) ++ L s) ∧ Kb b wx w') := wstr_c b _ s wx HB.out (by rw [List.length_append]; have := HT.out; have := HL.out; have := HZ.out; omega)
      go_wp2_with (first
        | (go_at_call 59; refine HW.out.mono ?_; rintro e w2 ⟨⟨v, rfl⟩, hu2, hk2⟩; have HU2 := hidV hu2; have HK2 := hidV hk2; clear hu2 hk2))
      go_roundg (ps.length - (i + 1))
      case measure => omega
      case rel =>
        exact ⟨i + 1, HI.out, rfl, wrap_succ (n := 16) (by have := HI.out; have := HN.out; omega) (by decide), by show Bu _ _ _; rw [HF.out, ← List.append_assoc]; exact HU2.out, HK.out.trans HK2.out⟩
    · have hie : i = ps.length := by omega
      have HBf : Hid (Bu b wx (l ++ flatB ps)) := by show Bu _ _ _; have h := HB.out; rw [hie, List.take_length] at h; exact h
      have HT : Hid ((flatB ps).length ≤ 16 * 100000) := Nat.le_trans (flatB_le _ 100000 fun s hs => HS.out s hs) (Nat.mul_le_mul_right _ HN.out)
      have HW : Hid (Calls Tryz.prog 60 #[.pointer (some ⟨b, 0, none⟩), .int .u8 10] wx fun e w' => (∃ v, e = .returned v) ∧ Bu b w' ((l ++ flatB ps) ++ [10]) ∧ Kb b wx w') := wbyte_c b _ 10 10 rfl wx HBf.out (by rw [List.length_append]; have := HT.out; have := HL.out; omega)
      have i5 : ¬ (i : Int) < (ps.length : Int) := by omega
      clear hin hie
      have HTe : Hid ((l ++ flatB ps) ++ [10] = l ++ lineT ps) := by show _ = _; unfold lineT; rw [List.append_assoc]
      have HW2 : Hid (Calls Tryz.prog 60 #[.pointer (some ⟨b, 0, none⟩), .int .u8 10] wx fun e w' => (∃ v, e = .returned v) ∧ Bu b w' (l ++ lineT ps) ∧ Kb b wx w') := by have h := HW.out; rw [HTe.out] at h; exact h
      clear HW HTe
      obtain ⟨t, hte⟩ : ∃ t, t = l ++ lineT ps := ⟨_, rfl⟩
      rw [← hte] at HW2
      have HTt := hidV hte
      clear hte
      have HLn : Hid (∀ W, Bu b W t → Calls Tryz.prog 61 #[.pointer (some ⟨b, 0, none⟩)] W fun e w' => e = .returned (.int .i64 t.length) ∧ w' = W) := fun W h => wlen_c b t W h
      by_cases hlen : t.length ≤ maxO
      · have q1 : ¬ (1048576 : Int) < (t.length : Int) := by unfold maxO at hlen; omega
        have HQ := hidV hlen
        clear hlen
        go_wp2_with (first
          | (go_at_call 60; refine HW2.out.mono ?_; rintro e w2 ⟨⟨v, rfl⟩, hu2, hk2⟩; have HU2 := hidV hu2; have HK2 := hidV hk2; clear hu2 hk2)
          | (go_at_call 61; refine (HLn.out _ HU2.out).mono ?_; rintro e w3 ⟨rfl, rfl⟩))
        go_end0
        rw [← HTt.out]
        exact ⟨HK.out.trans HK2.out, Or.inl ⟨HQ.out, rfl, HU2.out⟩⟩
      · have q1 : (1048576 : Int) < (t.length : Int) := by unfold maxO at hlen; omega
        have HQ : Hid (maxO < t.length) := by show maxO < _; omega
        clear hlen
        go_wp2_with (first
          | (go_at_call 60; refine HW2.out.mono ?_; rintro e w2 ⟨⟨v, rfl⟩, hu2, hk2⟩; have HU2 := hidV hu2; have HK2 := hidV hk2; clear hu2 hk2)
          | (go_at_call 61; refine (HLn.out _ HU2.out).mono ?_; rintro e w3 ⟨rfl, rfl⟩))
        refine ⟨rfl, ?_⟩
        rw [← HTt.out]
        exact ⟨HK.out.trans HK2.out, Or.inr ⟨HQ.out, rfl⟩⟩
/-- a line where there is room -/
theorem line_ok (b g : Nat) (l : List UInt8) (ps : List ByteArray) (t : List UInt8) (n : Nat) (w : World) (ht : t = l ++ lineT ps) (hn : n = ps.length) (h : Bu b w l) (hp : w.heap[g]? = some (.cells (ps.map Value.string).toArray 9 (0, 0))) (hgb : g ≠ b) (hl : t.length ≤ maxO) (hn16 : n ≤ 16) (hs : ∀ s ∈ ps, s.size ≤ 100000) :
    Calls Tryz.prog 51 #[.pointer (some ⟨b, 0, none⟩), .slice (some ⟨g, 0, none⟩) n n] w fun e w' => e = .returned (.tuple #[]) ∧ Bu b w' t ∧ Kb b w w' := by
  subst ht hn
  refine (line_c b g l ps w h hp hgb (by rw [List.length_append] at hl; omega) hn16 hs).mono ?_
  rintro e w' ⟨hk, ⟨h1, h2, h3⟩ | ⟨h1, h2⟩⟩
  · exact ⟨h2, h3, hk⟩
  · omega
/-- a line where there is none -/
theorem line_no (b g : Nat) (l : List UInt8) (ps : List ByteArray) (t : List UInt8) (n : Nat) (w : World) (ht : t = l ++ lineT ps) (hn : n = ps.length) (h : Bu b w l) (hp : w.heap[g]? = some (.cells (ps.map Value.string).toArray 9 (0, 0))) (hgb : g ≠ b) (hll : l.length ≤ maxO) (hl : maxO < t.length) (hn16 : n ≤ 16) (hs : ∀ s ∈ ps, s.size ≤ 100000) :
    Calls Tryz.prog 51 #[.pointer (some ⟨b, 0, none⟩), .slice (some ⟨g, 0, none⟩) n n] w fun e w' => e = .panicked pnV ∧ Kb b w w' := by
  subst ht hn
  refine (line_c b g l ps w h hp hgb hll hn16 hs).mono ?_
  rintro e w' ⟨hk, ⟨h1, h2, h3⟩ | ⟨h1, h2⟩⟩
  · omega
  · exact ⟨h2, hk⟩
end Go.Proofs.YtodpljgajjcdoaaGreatDoor

/- Layer 19 of the program: codes, a value's line. -/
namespace Go.Proofs.YtodpljgajjcdoaaGreatDoor
set_option maxRecDepth 100000
open Go.RowKit Lg Nl Go.Maps Wf Vd
set_option linter.unusedVariables false
set_option linter.unusedSimpArgs false

theorem put_ok (b : Nat) (l : List UInt8) (ps : List ByteArray) (t : List UInt8) (n : Nat) (cs : Array Value) (W : World) (hcs : cs = (ps.map Value.string).toArray) (ht : t = l ++ lineT ps) (hn : n = ps.length) (h : Bu b W l) (hl : t.length ≤ maxO) (hn16 : n ≤ 16) (hs : ∀ s ∈ ps, s.size ≤ 100000) :
    Calls Tryz.prog 51 #[.pointer (some ⟨b, 0, none⟩), .slice (some ⟨W.heap.size, 0, none⟩) n n] (W.alloc (.cells cs 9)) fun e w' => e = .returned (.tuple #[]) ∧ Bu b w' t ∧ Kb b W w' := by
  subst hcs
  have hb : Below W.heap.size W (W.alloc (.cells (ps.map Value.string).toArray 9)) := belA (Below.refl _ _) _
  have hlt := h.lt
  refine (line_ok b W.heap.size l ps t n _ ht hn (h.below hb) (alAt rfl) (by omega) hl hn16 hs).mono ?_
  rintro e w' ⟨h1, h2, h3⟩
  exact ⟨h1, h2, (Kb.of hb (Nat.le_of_lt hlt)).trans h3⟩
theorem put_no (b : Nat) (l : List UInt8) (ps : List ByteArray) (t : List UInt8) (n : Nat) (cs : Array Value) (W : World) (hcs : cs = (ps.map Value.string).toArray) (ht : t = l ++ lineT ps) (hn : n = ps.length) (h : Bu b W l) (hll : l.length ≤ maxO) (hl : maxO < t.length) (hn16 : n ≤ 16) (hs : ∀ s ∈ ps, s.size ≤ 100000) :
    Calls Tryz.prog 51 #[.pointer (some ⟨b, 0, none⟩), .slice (some ⟨W.heap.size, 0, none⟩) n n] (W.alloc (.cells cs 9)) fun e w' => e = .panicked pnV ∧ Kb b W w' := by
  subst hcs
  have hb : Below W.heap.size W (W.alloc (.cells (ps.map Value.string).toArray 9)) := belA (Below.refl _ _) _
  have hlt := h.lt
  refine (line_no b W.heap.size l ps t n _ ht hn (h.below hb) (alAt rfl) (by omega) hll hl hn16 hs).mono ?_
  rintro e w' ⟨h1, h3⟩
  exact ⟨h1, (Kb.of hb (Nat.le_of_lt hlt)).trans h3⟩
theorem Ln.pre {b : Nat} {w w1 w' : World} {t : List UInt8} {e : Ending} (h : Ln b w1 t e w') (k : Kb b w w1) : Ln b w t e w' := ⟨k.trans h.1, h.2⟩
theorem Ln.dead {b : Nat} {w w' : World} {t : List UInt8} (r : List UInt8) (k : Kb b w w') (ht : maxO < t.length) : Ln b w (t ++ r) (.panicked pnV) w' := ⟨k, Or.inr ⟨by rw [List.length_append]; omega, rfl⟩⟩
theorem Ln.live {b : Nat} {w w' : World} {t : List UInt8} (k : Kb b w w') (h : Bu b w' t) (ht : t.length ≤ maxO) : Ln b w t (.returned (.tuple #[])) w' := ⟨k, Or.inl ⟨ht, rfl, h⟩⟩
theorem digit_c (m : Nat) (w : World) (hm : m < 4096) : Calls Tryz.prog 19 #[.int .i64 m] w fun e w' => e = .returned (.int .u8 ((by8 (33 + m % 94)).toNat : Int)) ∧ w = w' := by
  have HZ := hidV (by8_nat (m % 94) (Nat.mod_lt _ (by decide)))
  go_enter Tryz.func19, Tryz.ntmps19
  go_wp2
  go_ret
  refine ⟨?_, rfl⟩
  rw [HZ.out]
  congr 2
def tailL (m : Nat) : List UInt8 := if m < 94 then [] else [by8 (33 + (m / 94 - 1) % 94)]
theorem code_tail (n : Nat) (h : n < 4096) : codeL n = [by8 (33 + n % 94)] ++ tailL n := by
  unfold codeL tailL
  by_cases h1 : n < 94
  · rw [if_pos h1, if_pos h1, Nat.mod_eq_of_lt h1]; rfl
  · rw [if_neg h1, if_neg h1, Nat.mod_eq_of_lt (a := n / 94 - 1) (by omega)]; rfl
theorem own1 {B n : Nat} {w : World} {z : UInt8} {x : Int} (hz : (z.toNat : Int) = x) (hn : w.heap.size = n) (hB : B ≤ n) : Ob B (w.alloc (.cells #[.int .u8 x] 5)) (some ⟨n, 0, none⟩) 1 1 [z] := by
  subst hz
  exact ⟨⟨rfl, Or.inr ⟨n, 1, #[.int .u8 z.toNat], rfl, hB, alAt hn, Nat.le_refl _, by decide, rfl, rfl⟩⟩, rfl⟩
set_option maxHeartbeats 1000000 in
theorem codeW_c : CodeC := by
  intro n w h0 h1
  by_cases hn0 : n < 0
  · have q : okN n = false := decide_eq_false (by omega)
    have HE : Hid (S (cdT n) = ⟨#[]⟩ ∧ cdE n = 1) := by unfold cdT cdE; rw [q]; exact ⟨rfl, rfl⟩
    go_enter Tryz.func9, Tryz.ntmps9
    go_wp2_with fail
    go_ret2
    rw [HE.out.1, HE.out.2]
    exact ⟨rfl, Below.refl _ _⟩
  by_cases hn1 : (4096 : Int) ≤ n
  · have q : okN n = false := decide_eq_false (by omega)
    have HE : Hid (S (cdT n) = ⟨#[]⟩ ∧ cdE n = 1) := by unfold cdT cdE; rw [q]; exact ⟨rfl, rfl⟩
    go_enter Tryz.func9, Tryz.ntmps9
    go_wp2_with fail
    go_ret2
    rw [HE.out.1, HE.out.2]
    exact ⟨rfl, Below.refl _ _⟩
  obtain ⟨k, rfl⟩ : ∃ k : Nat, n = (k : Int) := ⟨n.toNat, by omega⟩
  have hk : k < 4096 := by omega
  have q : okN (k : Int) = true := decide_eq_true (by omega)
  have HE : Hid (S (cdT k) = S (codeL k) ∧ cdE k = 0) := by unfold cdT cdE; rw [q]; exact ⟨rfl, rfl⟩
  have HK := hidV hk
  have HT := hidV (code_tail k hk)
  have HD := hidV (digit_c k w hk)
  obtain ⟨z0, hz0⟩ : ∃ z, z = by8 (33 + k % 94) := ⟨_, rfl⟩
  rw [← hz0] at HT HD
  clear q hz0 h0 h1 hk
  go_enter Tryz.func9, Tryz.ntmps9
  go_upto_region 3 with fail
  clear hn0 hn1
  obtain ⟨W1, hW1⟩ : ∃ W1, W1 = w.alloc (.cells #[.int .u8 z0.toNat] 5) := ⟨_, rfl⟩
  have HO1 : Hid (Ob w.heap.size W1 (some ⟨w.heap.size, 0, none⟩) 1 1 [z0]) := by rw [hW1]; exact own1 rfl rfl (Nat.le_refl _)
  have HB1 : Hid (Below w.heap.size w W1) := by rw [hW1]; exact belA (Below.refl _ _) _
  go_upto_region 4 with (first
    | (go_at_call 19; refine HD.out.mono ?_; rintro e w1 ⟨rfl, rfl⟩))
  rw [← hW1]
  clear hW1
  go_loopg [0, 4] (if k < 94 then 0 else 1) (fun g s0 s4 wr => ∃ (m : Nat) (l : List UInt8) (a : Option Addr) (c : Nat), s0 = .int .i64 m ∧ s4 = .slice a l.length c ∧ g = (if m < 94 then 0 else 1) ∧ Hid (m < 4096 ∧ l.length < 3) ∧ Hid (codeL k = l ++ tailL m) ∧ Hid (Ob w.heap.size wr a l.length c l) ∧ Hid (Below w.heap.size w wr))
  case atStart => exact ⟨k, [z0], _, 1, rfl, rfl, rfl, ⟨HK.out, by show 1 < 3; decide⟩, HT.out, HO1.out, HB1.out⟩
  case round =>
    obtain ⟨m, l, a, c, rfl, rfl, rfl, HM, HC, HO, HB⟩ := hrel
    obtain ⟨wx, hwx⟩ : ∃ wx, wx = wr := ⟨_, rfl⟩
    rw [← hwx] at HO HB ⊢
    clear hwx
    by_cases hm : m < 94
    · have hm' : ¬ (94 : Int) ≤ (m : Int) := by omega
      have HF : Hid (codeL k = l) := by show _ = _; rw [HC.out]; unfold tailL; rw [if_pos hm, List.append_nil]
      have hconv := conv_own HO.out.o rfl
      clear hm
      go_wp2_with fail
      go_ret2
      rw [HE.out.1, HE.out.2, HF.out]
      exact ⟨rfl, HB.out⟩
    · have hm' : (94 : Int) ≤ (m : Int) := by omega
      have HM9 : Hid (94 ≤ m) := by show 94 ≤ m; omega
      obtain ⟨j, hj⟩ : ∃ j, j = m / 94 - 1 := ⟨_, rfl⟩
      have hj2 : wrap64 (wrap64 ((m : Int) / 94) - 1) = (j : Int) := by have := HM.out; unfold wrap64; omega
      have HJ : Hid (j < 94) := by have := HM.out; show j < 94; omega
      have HC2 : Hid (codeL k = (l ++ [by8 (33 + j % 94)]) ++ tailL j) := by
        show _ = _
        rw [HC.out]
        unfold tailL
        rw [if_neg hm, if_pos HJ.out, hj, List.append_nil]
      have HD2 := hidV (digit_c j wx (by have := HJ.out; omega))
      clear hm hj
      obtain ⟨z1, hz1⟩ : ∃ z, z = by8 (33 + j % 94) := ⟨_, rfl⟩
      rw [← hz1] at HC2 HD2
      clear hz1
      go_upto_region 6 with fail
      rw [hj2]
      clear hj2
      go_wp2_with (first
        | (go_at_call 19; refine HD2.out.mono ?_; rintro e w3 ⟨rfl, rfl⟩)
        | (at_builtin; refine app_byte rfl _ _ rfl w.heap.size a l.length c l z1 _ rfl rfl HO.out rfl (by have := HM.out; omega) HB.out.size ?_; intro a2 n2 c2 w2 HO2 HN2 hb2 hg2; have HO2' := hidV HO2; have HB2 := hidV hb2; clear HO2 hb2 hg2))
      have HO3 : Hid (Ob w.heap.size w2 a2 (l ++ [z1]).length c2 (l ++ [z1])) := by have h := HO2'.out; have e := h.e; subst e; exact h
      have HN3 : Hid (n2 = (l ++ [z1]).length) := HO2'.out.e
      have HM3 : Hid (j < 4096 ∧ (l ++ [z1]).length < 3) := by
        refine ⟨by have := HJ.out; omega, ?_⟩
        have h := congrArg List.length HC2.out
        have := (codeL_len k).2
        rw [List.length_append] at h
        omega
      go_roundg 0
      case measure => first | decide | (rw [if_neg (by have := HM9.out; omega)]; decide)
      case rel => exact ⟨j, l ++ [z1], a2, c2, rfl, by rw [HN3.out], (if_pos HJ.out).symm, HM3.out, HC2.out, HO3.out, HB.out.trans HB2.out⟩
theorem codeK_c (k : Nat) (w : World) (hk : k < 4096) : Calls Tryz.prog 9 #[.int .i64 k] w fun e w' => e = .returned (.tuple #[.string (S (codeL k)), .int .i64 0]) ∧ Below w.heap.size w w' := by
  have h := codeW_c k w (by omega) (by omega)
  have q : okN (k : Int) = true := decide_eq_true (by omega)
  unfold cdT cdE at h
  rw [q, if_pos rfl, if_pos rfl] at h
  exact h
theorem lineT2 (a c : ByteArray) : lineT [a, c] = L a ++ (L c ++ [10]) := by simp [lineT, flatB]
theorem lineT4 (a c d e : ByteArray) : lineT [a, c, d, e] = L a ++ (L c ++ (L d ++ (L e ++ [10]))) := by simp [lineT, flatB]
theorem L98 : L (⟨#[98]⟩ : ByteArray) = [98] := rfl
theorem L32 : L (⟨#[32]⟩ : ByteArray) = [32] := rfl
set_option maxHeartbeats 2000000 in
theorem value_c (b : Nat) (l : List UInt8) (k : Nat) (v : ByteArray) (w : World) (h : Bu b w l) (hk : k < 4096) (hv : v.size ≤ 256) (hl : l.length ≤ maxO) :
    Calls Tryz.prog 52 #[.pointer (some ⟨b, 0, none⟩), .int .i64 k, .string v] w fun e w' => Ln b w (l ++ valL v k) e w' := by
  have HU := hidV h
  have HC := hidV (codeK_c k w hk)
  have HLl := hidV hl
  have hq : (S (codeL k)).size ≤ 2 := by rw [size_S]; exact (codeL_len k).2
  have HLq : Hid (L (S (codeL k)) = codeL k) := L_S _
  have HV : Hid (valL v k = if v.size = 1 then L v ++ codeL k ++ [10] else 98 :: (L v ++ 32 :: (codeL k ++ [10]))) := rfl
  have HVs := hidV hv
  obtain ⟨t, ht⟩ : ∃ t, t = l ++ valL v k := ⟨_, rfl⟩
  rw [← ht]
  have HT := hidV ht
  obtain ⟨q, hqe⟩ : ∃ q, q = S (codeL k) := ⟨_, rfl⟩
  rw [← hqe] at HC hq HLq
  have HQs := hidV hq
  clear ht hqe hq h hk hl hv
  by_cases h1 : v.size = 1
  · have h1' : ((v.size : Int) == 1) = true := by rw [beq_iff_eq]; omega
    have HT2 : Hid (t = l ++ lineT [v, q]) := by show _ = _; rw [HT.out, HV.out, if_pos h1, lineT2, HLq.out, List.append_assoc]
    have HS : Hid (∀ s ∈ [v, q], s.size ≤ 100000) := by
      intro s hs
      have := HVs.out; have := HQs.out
      simp at hs
      rcases hs with rfl | rfl <;> omega
    clear h1
    by_cases hlen : t.length ≤ maxO
    · have HP : Hid (∀ W, Bu b W l → Calls Tryz.prog 51 #[.pointer (some ⟨b, 0, none⟩), .slice (some ⟨W.heap.size, 0, none⟩) 2 2] (W.alloc (.cells #[.string v, .string q] 9)) fun e w' => e = .returned (.tuple #[]) ∧ Bu b w' t ∧ Kb b W w') := fun W hW => put_ok b l [v, q] t 2 _ W rfl HT2.out rfl hW hlen (by decide) HS.out
      have HQ := hidV hlen
      clear hlen
      go_enter Tryz.func52, Tryz.ntmps52
      go_wp2_with (first
        | (go_at_call 9; refine HC.out.mono ?_; rintro e w1 ⟨rfl, hb1⟩; have HU1 := hidV (HU.out.below hb1); have HB1 := hidV hb1; clear hb1)
        | (go_at_call 51; refine (HP.out _ HU1.out).mono ?_; rintro e w2 ⟨rfl, hu2, hk2⟩))
      go_end0
      exact Ln.live ((Kb.of HB1.out (Nat.le_of_lt HU.out.lt)).trans hk2) hu2 HQ.out
    · have HQ : Hid (maxO < t.length) := by show maxO < _; omega
      have HP : Hid (∀ W, Bu b W l → Calls Tryz.prog 51 #[.pointer (some ⟨b, 0, none⟩), .slice (some ⟨W.heap.size, 0, none⟩) 2 2] (W.alloc (.cells #[.string v, .string q] 9)) fun e w' => e = .panicked pnV ∧ Kb b W w') := fun W hW => put_no b l [v, q] t 2 _ W rfl HT2.out rfl hW HLl.out HQ.out (by decide) HS.out
      clear hlen
      go_enter Tryz.func52, Tryz.ntmps52
      go_wp2_with (first
        | (go_at_call 9; refine HC.out.mono ?_; rintro e w1 ⟨rfl, hb1⟩; have HU1 := hidV (HU.out.below hb1); have HB1 := hidV hb1; clear hb1)
        | (go_at_call 51; refine (HP.out _ HU1.out).mono ?_; rintro e w2 ⟨rfl, hk2⟩))
      have HD := Ln.dead [] ((Kb.of HB1.out (Nat.le_of_lt HU.out.lt)).trans hk2) HQ.out
      rw [List.append_nil] at HD
      exact ⟨rfl, HD⟩
  · have h1' : ((v.size : Int) == 1) = false := by rw [beq_eq_false_iff_ne]; omega
    have HT2 : Hid (t = l ++ lineT [⟨#[98]⟩, v, ⟨#[32]⟩, q]) := by show _ = _; rw [HT.out, HV.out, if_neg h1, lineT4, HLq.out, L98, L32]; rfl
    have HS : Hid (∀ s ∈ [(⟨#[98]⟩ : ByteArray), v, ⟨#[32]⟩, q], s.size ≤ 100000) := by
      intro s hs
      have := HVs.out; have := HQs.out
      simp at hs
      rcases hs with rfl | rfl | rfl | rfl
      · show (1 : Nat) ≤ _; decide
      · omega
      · show (1 : Nat) ≤ _; decide
      · omega
    clear h1
    by_cases hlen : t.length ≤ maxO
    · have HP : Hid (∀ W, Bu b W l → Calls Tryz.prog 51 #[.pointer (some ⟨b, 0, none⟩), .slice (some ⟨W.heap.size, 0, none⟩) 4 4] (W.alloc (.cells #[.string ⟨#[98]⟩, .string v, .string ⟨#[32]⟩, .string q] 9)) fun e w' => e = .returned (.tuple #[]) ∧ Bu b w' t ∧ Kb b W w') := fun W hW => put_ok b l _ t 4 _ W rfl HT2.out rfl hW hlen (by decide) HS.out
      have HQ := hidV hlen
      clear hlen
      go_enter Tryz.func52, Tryz.ntmps52
      go_wp2_with (first
        | (go_at_call 9; refine HC.out.mono ?_; rintro e w1 ⟨rfl, hb1⟩; have HU1 := hidV (HU.out.below hb1); have HB1 := hidV hb1; clear hb1)
        | (go_at_call 51; refine (HP.out _ HU1.out).mono ?_; rintro e w2 ⟨rfl, hu2, hk2⟩))
      go_end0
      exact Ln.live ((Kb.of HB1.out (Nat.le_of_lt HU.out.lt)).trans hk2) hu2 HQ.out
    · have HQ : Hid (maxO < t.length) := by show maxO < _; omega
      have HP : Hid (∀ W, Bu b W l → Calls Tryz.prog 51 #[.pointer (some ⟨b, 0, none⟩), .slice (some ⟨W.heap.size, 0, none⟩) 4 4] (W.alloc (.cells #[.string ⟨#[98]⟩, .string v, .string ⟨#[32]⟩, .string q] 9)) fun e w' => e = .panicked pnV ∧ Kb b W w') := fun W hW => put_no b l _ t 4 _ W rfl HT2.out rfl hW HLl.out HQ.out (by decide) HS.out
      clear hlen
      go_enter Tryz.func52, Tryz.ntmps52
      go_wp2_with (first
        | (go_at_call 9; refine HC.out.mono ?_; rintro e w1 ⟨rfl, hb1⟩; have HU1 := hidV (HU.out.below hb1); have HB1 := hidV hb1; clear hb1)
        | (go_at_call 51; refine (HP.out _ HU1.out).mono ?_; rintro e w2 ⟨rfl, hk2⟩))
      have HD := Ln.dead [] ((Kb.of HB1.out (Nat.le_of_lt HU.out.lt)).trans hk2) HQ.out
      rw [List.append_nil] at HD
      exact ⟨rfl, HD⟩
end Go.Proofs.YtodpljgajjcdoaaGreatDoor

/- Texts KA KB KC KG, joined: what each part says stands ahead of it. -/
import Derived.Test.YtodpljgajjcdoaaGreatDoorGM
import Derived.Test.YtodpljgajjcdoaaGreatDoorGW
import Derived.Maps.AppendAt
import Derived.Deep.RegionLaw
import Derived.Deep.RegionHeld3
/-
  Netlists, plain: nodes as data, and which netlists may be. No program in sight.
-/
namespace Nl
open Lg
set_option linter.unusedVariables false
/-- a node -/
structure Nd where
  k : Int
  op : Int
  wd : Int
  ins : List Int
  vl : List UInt8
  hi : Int
  lo : Int
  tm : Int
def nd0 : Nd := ⟨0, 0, 0, [], [], 0, 0, 0⟩
def ndAt (l : List Nd) (i : Nat) : Nd := l.getD i nd0
def wdAt (l : List Nd) (i : Int) : Int := (ndAt l i.toNat).wd
/-- how wide the nodes are that go in -/
def wsOf (l : List Nd) (ins : List Int) : List Int := ins.map (wdAt l)
def wn (ws : List Int) (i : Nat) : Int := ws.getD i 0
def sumI (ws : List Int) : Int := ws.foldl (· + ·) 0
/-- a node's width by its operator; -1: it may not be -/
def opW (op hi lo n sum w0 w1 w2 : Int) : Int :=
  if op = 7 ∨ op = 9 then (if n = 1 then w0 else -1)
  else if op = 8 ∨ op = 10 ∨ op = 11 ∨ op = 12 then (if n = 1 then 1 else -1)
  else if op = 13 ∨ op = 14 ∨ op = 23 ∨ op = 25 ∨ op = 24 then (if n = 2 ∧ w0 = w1 then w0 else -1)
  else if op = 15 ∨ op = 16 then (if n = 2 then w0 else -1)
  else if op = 17 ∨ op = 18 ∨ op = 19 ∨ op = 20 ∨ op = 21 ∨ op = 22 then (if n = 2 ∧ w0 = w1 then 1 else -1)
  else if op = 26 ∨ op = 27 ∨ op = 3 then (if n = 2 then 1 else -1)
  else if op = 6 then (if n = 3 ∧ w1 = w2 then w1 else -1)
  else if op = 4 then (if n = 1 ∧ 0 ≤ lo ∧ lo ≤ hi ∧ hi < w0 then hi - lo + 1 else -1)
  else if op = 5 then (if 1 ≤ n ∧ n ≤ 256 then sum else -1)
  else -1
def opWs (x : Nd) (ws : List Int) : Int := opW x.op x.hi x.lo ws.length (sumI ws) (wn ws 0) (wn ws 1) (wn ws 2)
/-- the fields that a node's kind does not use are zero -/
def zeroB (x : Nd) : Bool :=
  (decide (x.k = 3) || decide (x.op = 0)) && (decide (x.k = 1) || decide (x.vl = [])) && ((decide (x.k = 3) && decide (x.op = 4)) || (decide (x.hi = 0) && decide (x.lo = 0))) && (decide (x.k = 8) || decide (x.tm = 0))
/-- may a node be, those that go in being so wide? -/
def nodeB (x : Nd) (ws : List Int) : Bool :=
  if x.k = 1 then decide (ws.length = 0) && vec x.vl && decide ((x.vl.length : Int) = x.wd)
  else if x.k = 2 then decide (ws.length = 0)
  else if x.k = 3 then decide (opWs x ws = x.wd)
  else if x.k = 4 then decide (ws.length = 3 ∧ wn ws 1 = x.wd ∧ wn ws 2 = x.wd)
  else if x.k = 5 then decide (ws.length = 2 ∧ wn ws 0 = wn ws 1 ∧ x.wd = 1)
  else if x.k = 6 then decide (ws.length = 1)
  else if x.k = 7 then decide (ws.length = 2 ∧ wn ws 1 = x.wd)
  else if x.k = 8 then decide (ws.length = 1 ∧ wn ws 0 = x.wd ∧ 1 ≤ x.tm ∧ x.tm ≤ 1048576)
  else false
def inB (n : Nat) (i : Int) : Bool := decide (0 ≤ i ∧ i < n)
def wideB (x : Nd) : Bool := decide (1 ≤ x.wd ∧ x.wd ≤ 256)
/-- a node whose width may be, whose other fields are zero, whose Ins are nodes -/
def shapeB (l : List Nd) (x : Nd) : Bool := wideB x && zeroB x && x.ins.all (inB l.length)
def cnt (nets : List Int) (i : Nat) : Nat := nets.countP (fun z => decide (z = (i : Int)))
def portB (l : List Nd) (nets : List Int) : Bool := nets.all (inB l.length) && (List.range l.length).all fun i => !decide ((ndAt l i).k = 2) || decide (cnt nets i = 1)
/-- a netlist may be -/
def mayN (l : List Nd) (nets : List Int) (ports : Int) : Bool :=
  decide (l.length ≤ 4096 ∧ ports = (nets.length : Int)) && l.all (shapeB l) && portB l nets && l.all fun x => nodeB x (wsOf l x.ins)
theorem sumI_snoc (ws : List Int) (z : Int) : sumI (ws ++ [z]) = sumI ws + z := by simp [sumI]
theorem wsOf_len (l : List Nd) (ins : List Int) : (wsOf l ins).length = ins.length := by simp [wsOf]
theorem ndAt_eq {l : List Nd} {i : Nat} (h : i < l.length) : ndAt l i = l[i] := by unfold ndAt; rw [List.getD_eq_getElem?_getD, List.getElem?_eq_getElem h]; rfl
theorem ndAt_mem {l : List Nd} {i : Nat} (h : i < l.length) : ndAt l i ∈ l := by rw [ndAt_eq h]; exact List.getElem_mem h
end Nl

/- Netlists in memory; the reference's zero. -/
namespace Go.Proofs.YtodpljgajjcdoaaGreatDoor
set_option maxRecDepth 100000
open Go.RowKit Lg Nl
set_option linter.unusedVariables false
set_option linter.unusedSimpArgs false

/-- a row of numbers -/
def IntsAt (w : World) (v : Value) (l : List Int) : Prop :=
  ∃ ao cap, v = .slice ao l.length cap ∧ l.length ≤ cap ∧ (l = [] ∨ ∃ g o, ao = some ⟨g, o, none⟩ ∧ g < w.heap.size ∧ ∀ i (h : i < l.length), w.cell? ⟨g, o + i, none⟩ = some (.int .i64 l[i]))
/-- a node's eight cells, its Ins being vi -/
def ndC (x : Nd) (vi : Value) : List Value := [.int .i64 x.k, .int .i64 x.op, .int .i64 x.wd, vi, .string (S x.vl), .int .i64 x.hi, .int .i64 x.lo, .int .i64 x.tm]
/-- a row of nodes -/
def NdsAt (w : World) (v : Value) (l : List Nd) : Prop :=
  ∃ ao cap, v = .slice ao l.length cap ∧ l.length ≤ cap ∧ (l = [] ∨ ∃ g o, ao = some ⟨g, o, none⟩ ∧ g < w.heap.size ∧ ∀ i (h : i < l.length), ∃ vi, IntsAt w vi l[i].ins ∧ ∀ j u, (ndC l[i] vi)[j]? = some u → w.cell? ⟨g, o + i * 8 + j, none⟩ = some u)
theorem IntsAt.below {w w' : World} {v : Value} {l : List Int} (h : IntsAt w v l) (hb : Below w.heap.size w w') : IntsAt w' v l := by
  obtain ⟨ao, cap, rfl, hc, h⟩ := h
  refine ⟨ao, cap, rfl, hc, ?_⟩
  rcases h with h | ⟨g, o, rfl, hg, h⟩
  · exact Or.inl h
  · exact Or.inr ⟨g, o, rfl, Nat.lt_of_lt_of_le hg hb.size, fun i hi => by rw [hb.cell (p := ⟨g, o + i, none⟩) hg]; exact h i hi⟩
theorem NdsAt.below {w w' : World} {v : Value} {l : List Nd} (h : NdsAt w v l) (hb : Below w.heap.size w w') : NdsAt w' v l := by
  obtain ⟨ao, cap, rfl, hc, h⟩ := h
  refine ⟨ao, cap, rfl, hc, ?_⟩
  rcases h with h | ⟨g, o, rfl, hg, h⟩
  · exact Or.inl h
  · refine Or.inr ⟨g, o, rfl, Nat.lt_of_lt_of_le hg hb.size, fun i hi => ?_⟩
    obtain ⟨vi, h1, h2⟩ := h i hi
    exact ⟨vi, h1.below hb, fun j u hu => by rw [hb.cell (p := ⟨g, o + i * 8 + j, none⟩) hg]; exact h2 j u hu⟩
def ndG (x : Nd) (vi : Value) : Value := .agg (ndC x vi).toArray

theorem S_toList (l : List UInt8) : (S l).toList = l := by rw [toL, L_S]
end Go.Proofs.YtodpljgajjcdoaaGreatDoor

/- Rows of numbers that a call owns; the reference's operated. -/
namespace Go.Proofs.YtodpljgajjcdoaaGreatDoor
set_option maxRecDepth 100000
open Go.RowKit Lg Nl Go.Maps
set_option linter.unusedVariables false
set_option linter.unusedSimpArgs false

def iC (l : List Int) : List Value := l.map fun z => .int .i64 z
theorem iC_app (a b : List Int) : iC (a ++ b) = iC a ++ iC b := by simp [iC]
theorem iC_one (z : Int) : iC [z] = [.int .i64 z] := rfl
theorem hLt {w : World} {g : Nat} {o : Obj} (h : w.heap[g]? = some o) : g < w.heap.size := (Array.getElem?_eq_some_iff.1 h).1
theorem alAt {W : World} {o : Obj} {n : Nat} (h : W.heap.size = n) : (W.alloc o).heap[n]? = some o := by subst h; show (W.heap.push o)[W.heap.size]? = _; simp
theorem alOld {W : World} {o : Obj} {k : Nat} (h : k < W.heap.size) : (W.alloc o).heap[k]? = W.heap[k]? := (belA (Below.refl W.heap.size W) o).block k h
theorem infoInt : ∃ i, Tryz.prog.info? 3 = some i ∧ i.zero = some (.int .i64 0) ∧ i.size = 1 ∧ i.bytes = 8 := info_parts (by kernel_rfl)
theorem new1i (w : World) (a : Value) (t : TypeId) (n : Nat) (hn : w.heap.size = n) (j : Nat) (u : Value) (h : [a][j]? = some u) : (w.alloc (.cells #[a] t)).cell? ((⟨n, 0, none⟩ : Addr).add j) = some u := by
  subst hn
  have e : ((⟨w.heap.size, 0, none⟩ : Addr).add j) = ⟨w.heap.size, j, none⟩ := by simp [Addr.add]; intro h; exact h.symm
  rw [e, World.cell?_alloc_at _ _ _ _ rfl]
  match j, h with
  | 0, h => exact h
  | n + 1, h => simp at h
theorem one1 (x : Int) : ∀ u ∈ [Value.int .i64 x], u.oneCell' = true := by intro u hu; simp at hu; subst hu; rfl
theorem own_below {w w' : World} {B e z n : Nat} {v : Value} {xs : List Value} (h : w.ownsRow B e z v n xs) (hb : Below w.heap.size w w') : w'.ownsRow B e z v n xs := by
  obtain ⟨h1, h2⟩ := h
  refine ⟨h1, ?_⟩
  rcases h2 with h2 | ⟨g, cap, cur, rfl, hg, hh, r⟩
  · exact Or.inl h2
  · exact Or.inr ⟨g, cap, cur, rfl, hg, (hb.block g (hLt hh)).trans hh, r⟩
theorem own_slice {w : World} {B e z n : Nat} {v : Value} {xs : List Value} (h : w.ownsRow B e z v n xs) : ∃ ao cap, v = .slice ao n cap := by
  rcases h.2 with ⟨rfl, rfl⟩ | ⟨g, cap, cur, rfl, _⟩
  · exact ⟨none, 0, rfl⟩
  · exact ⟨_, cap, rfl⟩
theorem own_slice1 {w : World} {B e z n : Nat} {v : Value} {xs : List Value} (h : w.ownsRow B e z v (n + 1) xs) : ∃ g cap, v = .slice (some ⟨g, 0, none⟩) (n + 1) cap := by
  rcases h.2 with ⟨_, h2⟩ | ⟨g, cap, cur, rfl, _⟩
  · cases h2
  · exact ⟨g, cap, rfl⟩
/-- an owned row of numbers, cell by cell -/
theorem own_cell {w : World} {B n : Nat} {g cap : Nat} {l : List Int} (h : w.ownsRow B 3 1 (.slice (some ⟨g, 0, none⟩) n cap) n (iC l)) (j : Nat) (hj : j < l.length) : w.cell? ⟨g, j, none⟩ = some (.int .i64 l[j]) := by
  obtain ⟨h1, h2⟩ := h
  have h1' : l.length = n := by simpa [iC] using h1
  rcases h2 with ⟨h2, _⟩ | ⟨g', cap', cur, hv, hg, hh, hc, _, hz, ht⟩
  · cases h2
  · injection hv with e1 e2 e3
    injection e1 with e1
    injection e1 with e1
    subst e1
    rw [Lib.cell_of_heap hh]
    have hu : (iC l)[j]? = some (.int .i64 l[j]) := by unfold iC; rw [List.getElem?_map, List.getElem?_eq_getElem hj]; rfl
    rw [← ht, List.getElem?_take] at hu
    split at hu
    · simpa using hu
    · cases hu
theorem step_own {P : Program} {ops : Array Oper} {o : Oper} {a : Act} {w : World} {K : Act → World → Prop} {Q : Exit → Act → World → Prop} {E : Prop}
    (hg : o.guard = none) (s x : Operand) (t : TypeId) (hop : o.op = Op.call { callee := Callee.builtin Builtin.append, args := #[s, x], argTypes := #[t, t] })
    (base : Nat) (e : TypeId) (i : TypeInfo) (z : Value) (size bytes : Nat) (h1 : P.underlying t = some (.slice e)) (h2 : P.info? e = some i) (h3 : i.zero = some z) (h4 : i.size = size) (h5 : i.bytes = bytes) (h6 : z.cells.size = size) (h7 : 0 < size)
    (v : Value) (n : Nat) (xs : List Value) (hs : a.eval s = v) (hown : w.ownsRow base e size v n xs)
    (ad : Addr) (m c : Nat) (news : List Value) (hx : a.eval x = .slice (some ad) m c) (hn : news.length = m * size) (hc : ∀ j u, news[j]? = some u → w.cell? (ad.add j) = some u) (h1c : ∀ u ∈ news, u.oneCell' = true)
    (b1 : n + m ≤ maxLen) (b2 : (n + m) * bytes ≤ 140737488355328) (hbase : base ≤ w.heap.size)
    (hK : ∀ v' w', w'.ownsRow base e size v' (n + m) (xs ++ news) → w.grownBy w' v.ownBlock → K (a.put o.dst v') w') :
    if Region.wanted o (yielded ops a.tmps) = true then Oper.wp P o a w K Q else E := by
  have hw : Region.wanted o (yielded ops a.tmps) = true := by simp [Region.wanted, hg]
  rw [if_pos hw]
  exact wp_append_own w s x t hop base e i z size bytes h1 h2 h3 h4 h5 h6 h7 v n xs hs hown ad m c news hx hn hc h1c b1 b2 hbase fun v' w' p q _ => hK v' w' p q
/-- two blocks of a call, and what was there ahead -/
structure S2 (w : World) (bx rs : Obj) (W : World) : Prop where
  bel : Below w.heap.size w W
  x : W.heap[w.heap.size]? = some bx
  r : W.heap[w.heap.size + 1]? = some rs
theorem S2.start {w : World} {bx rs : Obj} : S2 w bx rs ((w.alloc bx).alloc rs) := ⟨belA (belA (Below.refl _ _) _) _, by rw [alOld (by simp), alAt rfl], by rw [alAt (by simp)]⟩
theorem S2.alloc {w W : World} {bx rs o : Obj} (h : S2 w bx rs W) : S2 w bx rs (W.alloc o) := ⟨belA h.bel _, (alOld (hLt h.x)).trans h.x, (alOld (hLt h.r)).trans h.r⟩
theorem S2.drew {w W : World} {bx rs : Obj} (h : S2 w bx rs W) : S2 w bx rs W.drew := ⟨h.bel.drew, h.x, h.r⟩
theorem S2.grown {w W W' : World} {bx rs : Obj} {row : Option Nat} (h : S2 w bx rs W) (hg : W.grownBy W' row) (hr : ∀ g, row = some g → w.heap.size + 1 + 1 ≤ g) : S2 w bx rs W' := by
  have h1 := hLt h.r
  have hn : ∀ k, k < w.heap.size + 1 + 1 → some k ≠ row := fun k hk e => by have := hr k e.symm; omega
  exact ⟨⟨hg.os.trans h.bel.os, hg.tape.trans h.bel.tape, hg.output.trans h.bel.output, Nat.le_trans h.bel.size hg.size, fun k hk => (hg.block k (by omega) (hn k (by omega))).trans (h.bel.block k hk)⟩, (hg.block _ (by omega) (hn _ (by omega))).trans h.x, (hg.block _ (by omega) (hn _ (by omega))).trans h.r⟩
theorem own_ge {w : World} {B e z n : Nat} {v : Value} {xs : List Value} (h : w.ownsRow B e z v n xs) : ∀ g, v.ownBlock = some g → B ≤ g := fun g e1 => (World.ownsRow.lt h g e1).1
theorem wsOf_take (l : List Nd) (ins : List Int) (j : Nat) (hj : j < ins.length) : wsOf l (ins.take (j + 1)) = wsOf l (ins.take j) ++ [wdAt l ins[j]] := by
  rw [List.take_succ_eq_append_getElem hj]; unfold wsOf; rw [List.map_append]; rfl
/-- what stands at a node's place, by the row -/
theorem NdsAt.wd {w : World} {g o n cap : Nat} {l : List Nd} (h : NdsAt w (.slice (some ⟨g, o, none⟩) n cap) l) (i : Nat) (hi : i < l.length) : g < w.heap.size ∧ w.cell? ⟨g, o + i * 8 + 2, none⟩ = some (.int .i64 l[i].wd) := by
  obtain ⟨ao, c, hv, _, h⟩ := h
  injection hv with e1 e2 e3
  subst e1
  rcases h with h | ⟨g', o', e, hg, h⟩
  · subst h; cases hi
  · injection e with e
    injection e with e1 e2
    subst e1 e2
    obtain ⟨vi, _, h2⟩ := h i hi
    exact ⟨hg, h2 2 _ rfl⟩
theorem IntsAt.cell {w : World} {g o n cap : Nat} {l : List Int} (h : IntsAt w (.slice (some ⟨g, o, none⟩) n cap) l) (i : Nat) (hi : i < l.length) : g < w.heap.size ∧ w.cell? ⟨g, o + i, none⟩ = some (.int .i64 l[i]) := by
  obtain ⟨ao, c, hv, _, h⟩ := h
  injection hv with e1 e2 e3
  subst e1
  rcases h with h | ⟨g', o', e, hg, h⟩
  · subst h; cases hi
  · injection e with e
    injection e with e1 e2
    subst e1 e2
    exact ⟨hg, h i hi⟩
theorem IntsAt.some_ {w : World} {v : Value} {l : List Int} (h : IntsAt w v l) (hl : 0 < l.length) : ∃ g o cap, v = .slice (some ⟨g, o, none⟩) l.length cap := by
  obtain ⟨ao, c, rfl, _, h⟩ := h
  rcases h with rfl | ⟨g', o', rfl, hg, h⟩
  · cases hl
  · exact ⟨g', o', c, rfl⟩
theorem NdsAt.some_ {w : World} {v : Value} {l : List Nd} (h : NdsAt w v l) (hl : 0 < l.length) : ∃ g o cap, v = .slice (some ⟨g, o, none⟩) l.length cap := by
  obtain ⟨ao, c, rfl, _, h⟩ := h
  rcases h with rfl | ⟨g', o', rfl, hg, h⟩
  · cases hl
  · exact ⟨g', o', c, rfl⟩
theorem cells8 {w : World} {b : Nat} {y0 y1 y2 y3 y4 y5 y6 y7 : Value} {t : TypeId} (h : w.heap[b]? = some (.cells #[y0, y1, y2, y3, y4, y5, y6, y7] t (0, 0))) :
    w.cell? ⟨b, 0, none⟩ = some y0 ∧ w.cell? ⟨b, 1, none⟩ = some y1 ∧ w.cell? ⟨b, 2, none⟩ = some y2 ∧ w.cell? ⟨b, 3, none⟩ = some y3 ∧ w.cell? ⟨b, 4, none⟩ = some y4 ∧ w.cell? ⟨b, 5, none⟩ = some y5 ∧ w.cell? ⟨b, 6, none⟩ = some y6 ∧ w.cell? ⟨b, 7, none⟩ = some y7 :=
  ⟨by rw [Lib.cell_of_heap h]; rfl, by rw [Lib.cell_of_heap h]; rfl, by rw [Lib.cell_of_heap h]; rfl, by rw [Lib.cell_of_heap h]; rfl, by rw [Lib.cell_of_heap h]; rfl, by rw [Lib.cell_of_heap h]; rfl, by rw [Lib.cell_of_heap h]; rfl, by rw [Lib.cell_of_heap h]; rfl⟩
theorem cells3n {w : World} {b : Nat} {y0 y1 y2 : Value} {t : TypeId} (h : w.heap[b]? = some (.cells #[y0, y1, y2] t (0, 0))) : w.cell? ⟨b, 0, none⟩ = some y0 ∧ w.cell? ⟨b, 1, none⟩ = some y1 ∧ w.cell? ⟨b, 2, none⟩ = some y2 :=
  ⟨by rw [Lib.cell_of_heap h]; rfl, by rw [Lib.cell_of_heap h]; rfl, by rw [Lib.cell_of_heap h]; rfl⟩
end Go.Proofs.YtodpljgajjcdoaaGreatDoor

/- The program's Check of layer 9: sums, widths. -/
namespace Go.Proofs.YtodpljgajjcdoaaGreatDoor
set_option maxRecDepth 100000
open Go.RowKit Lg Nl Go.Maps
set_option linter.unusedVariables false
set_option linter.unusedSimpArgs false

/-- a sum as the machine adds -/
def sumW (ws : List Int) : Int := ws.foldl (fun a z => wrap64 (a + z)) 0
theorem sumW_snoc (ws : List Int) (z : Int) : sumW (ws ++ [z]) = wrap64 (sumW ws + z) := by simp [sumW]
theorem all_snocK {α : Type} {p : α → Bool} {l : List α} {k : Nat} (hk : k < l.length) (h : (l.take k).all p = true) (hp : p l[k] = true) : (l.take (k + 1)).all p = true := by
  rw [List.take_succ_eq_append_getElem hk, List.all_append, h]; simp [hp]
theorem wdAtK {l : List Nd} {i : Nat} (hi : i < l.length) : wdAt l (i : Int) = l[i].wd := by unfold wdAt; rw [Int.toNat_natCast, ndAt_eq hi]
theorem Gb {w W W' : World} {row : Option Nat} (h : Below w.heap.size w W) (hg : W.grownBy W' row) (hr : ∀ g, row = some g → w.heap.size ≤ g) : Below w.heap.size w W' :=
  ⟨hg.os.trans h.os, hg.tape.trans h.tape, hg.output.trans h.output, Nat.le_trans h.size hg.size, fun k hk => (hg.block k (Nat.lt_of_lt_of_le hk h.size) (fun e => by have := hr k e.symm; omega)).trans (h.block k hk)⟩
end Go.Proofs.YtodpljgajjcdoaaGreatDoor

/-
  Netlists, plain: nodes as data, and which netlists may be. No program in sight.
-/
import Derived.Test.YtpdcmehjndhcjaaGM
namespace Nl
open Lg
set_option linter.unusedVariables false
/-- a node -/
structure Nd where
  k : Int
  op : Int
  wd : Int
  ins : List Int
  vl : List UInt8
  hi : Int
  lo : Int
  tm : Int
deriving DecidableEq
def nd0 : Nd := ⟨0, 0, 0, [], [], 0, 0, 0⟩
def ndAt (l : List Nd) (i : Nat) : Nd := l.getD i nd0
def wdAt (l : List Nd) (i : Int) : Int := (ndAt l i.toNat).wd
/-- how wide the nodes are that go in -/
def wsOf (l : List Nd) (ins : List Int) : List Int := ins.map (wdAt l)
def wn (ws : List Int) (i : Nat) : Int := ws.getD i 0
def sumI (ws : List Int) : Int := ws.foldl (· + ·) 0
/-- a node's width by its operator; -1: it may not be -/
def opW (op hi lo n sum w0 w1 w2 : Int) : Int :=
  if op = 7 ∨ op = 9 then (if n = 1 then w0 else -1)
  else if op = 8 ∨ op = 10 ∨ op = 11 ∨ op = 12 then (if n = 1 then 1 else -1)
  else if op = 13 ∨ op = 14 ∨ op = 23 ∨ op = 25 ∨ op = 24 then (if n = 2 ∧ w0 = w1 then w0 else -1)
  else if op = 15 ∨ op = 16 then (if n = 2 then w0 else -1)
  else if op = 17 ∨ op = 18 ∨ op = 19 ∨ op = 20 ∨ op = 21 ∨ op = 22 then (if n = 2 ∧ w0 = w1 then 1 else -1)
  else if op = 26 ∨ op = 27 ∨ op = 3 then (if n = 2 then 1 else -1)
  else if op = 6 then (if n = 3 ∧ w1 = w2 then w1 else -1)
  else if op = 4 then (if n = 1 ∧ 0 ≤ lo ∧ lo ≤ hi ∧ hi < w0 then hi - lo + 1 else -1)
  else if op = 5 then (if 1 ≤ n ∧ n ≤ 256 then sum else -1)
  else -1
def opWs (x : Nd) (ws : List Int) : Int := opW x.op x.hi x.lo ws.length (sumI ws) (wn ws 0) (wn ws 1) (wn ws 2)
/-- the fields that a node's kind does not use are zero -/
def zeroB (x : Nd) : Bool :=
  (decide (x.k = 3) || decide (x.op = 0)) && (decide (x.k = 1) || decide (x.vl = [])) && ((decide (x.k = 3) && decide (x.op = 4)) || (decide (x.hi = 0) && decide (x.lo = 0))) && (decide (x.k = 8) || decide (x.tm = 0))
/-- may a node be, those that go in being so wide? -/
def nodeB (x : Nd) (ws : List Int) : Bool :=
  if x.k = 1 then decide (ws.length = 0) && vec x.vl && decide ((x.vl.length : Int) = x.wd)
  else if x.k = 2 then decide (ws.length = 0)
  else if x.k = 3 then decide (opWs x ws = x.wd)
  else if x.k = 4 then decide (ws.length = 3 ∧ wn ws 1 = x.wd ∧ wn ws 2 = x.wd)
  else if x.k = 5 then decide (ws.length = 2 ∧ wn ws 0 = wn ws 1 ∧ x.wd = 1)
  else if x.k = 6 then decide (ws.length = 1)
  else if x.k = 7 then decide (ws.length = 2 ∧ wn ws 1 = x.wd)
  else if x.k = 8 then decide (ws.length = 1 ∧ wn ws 0 = x.wd ∧ 1 ≤ x.tm ∧ x.tm ≤ 1048576)
  else false
def inB (n : Nat) (i : Int) : Bool := decide (0 ≤ i ∧ i < n)
def wideB (x : Nd) : Bool := decide (1 ≤ x.wd ∧ x.wd ≤ 256)
/-- a node whose width may be, whose other fields are zero, whose Ins are nodes -/
def shapeB (l : List Nd) (x : Nd) : Bool := wideB x && zeroB x && x.ins.all (inB l.length)
def cnt (nets : List Int) (i : Nat) : Nat := nets.countP (fun z => decide (z = (i : Int)))
def portB (l : List Nd) (nets : List Int) : Bool := nets.all (inB l.length) && (List.range l.length).all fun i => !decide ((ndAt l i).k = 2) || decide (cnt nets i = 1)
/-- a netlist may be -/
def mayN (l : List Nd) (nets : List Int) (ports : Int) : Bool :=
  decide (l.length ≤ 4096 ∧ ports = (nets.length : Int)) && l.all (shapeB l) && portB l nets && l.all fun x => nodeB x (wsOf l x.ins)
theorem sumI_snoc (ws : List Int) (z : Int) : sumI (ws ++ [z]) = sumI ws + z := by simp [sumI]
theorem wsOf_len (l : List Nd) (ins : List Int) : (wsOf l ins).length = ins.length := by simp [wsOf]
theorem ndAt_eq {l : List Nd} {i : Nat} (h : i < l.length) : ndAt l i = l[i] := by unfold ndAt; rw [List.getD_eq_getElem?_getD, List.getElem?_eq_getElem h]; rfl
theorem ndAt_mem {l : List Nd} {i : Nat} (h : i < l.length) : ndAt l i ∈ l := by rw [ndAt_eq h]; exact List.getElem_mem h
end Nl

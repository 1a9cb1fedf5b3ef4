/- Layer 7: the paths of an always, mirrored. -/
import Derived.Test.YtpnhefjiobnelaaGTh
namespace Rp
open Go Lg
set_option linter.unusedVariables false
/-- how often a name came, with one list more -/
def incA (a : Asc) (fr : List (List UInt8)) : Asc := match fr with
  | [] => a
  | x :: _ => (x, (lk a x).getD 0 + 1) :: a
def ctA (fr1 fr2 : List (List UInt8)) (i : Nat) : Asc := if i = 0 then [] else if i = 1 then incA [] fr1 else incA (incA [] fr1) fr2
/-- what is sure behind two ways -/
def bhM (so : Option (List UInt8)) (n : Nat) (fr1 fr2 : List (List UInt8)) : Option (List (List UInt8) × Option (List UInt8) × Nat) := match fr1 with
  | [] => some ([], so, n)
  | x :: _ => if fr2 = [x] then (if so = none ∧ n < 1000000 then some ([x], some x, n + 1) else none) else some ([], so, n)
inductive Pq where
  | one (x : List Dc)
  | many (n i : Nat) (l : List Dc) (acc : List (List UInt8))
abbrev Zr := List (List UInt8) × Option (List UInt8) × Nat × Nat
/-- what is sure ahead of the next way -/
def wyM (fr : List (List UInt8)) (so : Option (List UInt8)) : Option (Option (List UInt8)) := match fr with
  | [] => some so
  | x :: l => if l = [] ∧ so = some x ∧ x.length ≤ 1000000 then some none else none
def apM (acc f1 : List (List UInt8)) : Option (List (List UInt8)) := match f1 with
  | [] => some acc
  | x :: l => if acc = [] ∧ l = [] then some [x] else none
/-- one assignment -/
def stM (tg : Asc) (nm : List UInt8) (k : Nat) (so : Option (List UInt8)) (n : Nat) : Option Zr :=
  if nm.length ≤ 1000000 ∧ n < 1000000 then (if so = none then some ([nm], some nm, k, n + 1) else if so = some nm then some ([], so, k, n) else none) else none
/-- statements: which names become sure -/
def zM (tg : Asc) : Nat → Pq → Option (List UInt8) → Nat → Nat → Option Zr
  | 0, _, _, _, _ => none
  | F + 1, .one x, so, k, n => if 32768 ≤ k then none else (gI x 0).bind fun kd =>
      if kd = 1 then (gT x 1).bind fun nm => (rM tg F (.ex ((x.drop 2).take 6)) (k + 1)).bind fun k1 => stM tg nm k1 so n
      else if kd = 3 then (rM tg F (.ex ((x.drop 2).take 6)) (k + 1)).bind fun k1 => (gS x 8).bind fun b => (gS x 9).bind fun e =>
        if b.1 ≤ 100000 ∧ e.1 ≤ 100000 then
          (zM tg F (.many b.1 0 b.2 []) so k1 n).bind fun r1 => (wyM r1.1 r1.2.1).bind fun s1 =>
          (zM tg F (.many e.1 0 e.2 []) s1 r1.2.2.1 r1.2.2.2).bind fun r2 => (wyM r2.1 r2.2.1).bind fun s2 =>
          (bhM s2 r2.2.2.2 r1.1 r2.1).bind fun q => some (q.1, q.2.1, r2.2.2.1, q.2.2)
        else none
      else none
  | F + 1, .many n i l acc, so, k, m => if i = n then some (acc, so, k, m) else
      (zM tg F (.one (chk 12 l i)) so k m).bind fun r => (apM acc r.1).bind fun acc' => zM tg F (.many n (i + 1) l acc') r.2.1 r.2.2.1 r.2.2.2
/-- what keepsNothing comes to -/
def kpM (tg : Asc) (F : Nat) (x : List Dc) (k : Nat) : Option (Sum (Int × Int) Nat) := (gS x 45).bind fun b => (gI x 47).bind fun a => if b.1 ≤ 100000 ∧ tg.length ≤ 1 then (zM tg F (.many b.1 0 b.2 []) none k 0).bind fun z => some (if z.2.1 = none ∧ tg ≠ [] then .inl (a, 75) else .inr z.2.2.1) else none
/-- what is driven behind an always: at most one name -/
def tgM (tg f d : Asc) : Option Asc := match tg with
  | [] => some d
  | [(nm, v)] => if v = 3 ∧ lk f nm = some 3 ∧ lk d nm = none ∧ nm.length ≤ 1000000 ∧ d.length + 1 < 1000000 then some ((nm, 3) :: d) else none
  | _ => none
/-- an always without a clock -/
def alM (F : Nat) : List Dc → Asc → Asc → List (Asc × Asc) → Nat → Rs := fun x f d fs k => (gS x 45).bind fun b => (gI x 47).bind fun a => if b.1 ≤ 100000 then
  (psM ((f, d) :: fs) f F (.many b.1 0 b.2) [] k).bind fun r => (tgM r.1 f d).bind fun d' => (kpM r.1 F x r.2).bind fun q => some (match q with | .inl e => .inl e | .inr k' => .inr (k', d')) else none
end Rp

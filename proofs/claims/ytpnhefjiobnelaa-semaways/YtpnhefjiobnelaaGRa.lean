/- Texts NrA NrB NrC, joined: what each part says stands ahead of it. -/
import Derived.Test.YtpnhefjiobnelaaGM
import Derived.Test.YtpnhefjiobnelaaGSd
import Derived.Maps.AppendAt
/- The reference's parser, plain: trees as data of cells, and what tokens come to, where all goes well. No program in sight. -/
namespace Rp
open Go Lg
set_option linter.unusedVariables false
set_option linter.unusedSimpArgs false
/-- what a cell holds: a number, a text, a truth, or a slice of so many elements, by their cells -/
inductive Dc where
  | i (z : Int)
  | t (x : List UInt8)
  | b (p : Bool)
  | s (n : Nat) (ks : List Dc)
/-- is a token a sign, or a word of the language? -/
def sw (l : List Tok) (k : Nat) (x : List UInt8) : Bool := (tk l k).x == x && ((tk l k).k == 3 || ((tk l k).k == 1 && isW x))
def nmK (l : List Tok) (k : Nat) : Bool := (tk l k).k == 1 && !isW (tk l k).x
def bgK (l : List Tok) (k : Nat) : Bool := if (tk l k).k = 3 then decide (0 < unL (tk l k).x) || (tk l k).x == [40] || (tk l k).x == [123] else (tk l k).k == 2 || nmK l k
def xD (op : Int) (nm vl : List UInt8) (pl : Bool) (n : Nat) (ks : List Dc) (p : Nat) : List Dc := [.i op, .t nm, .t vl, .b pl, .s n ks, .i p]
def zX : List Dc := xD 0 [] [] false 0 [] 0
inductive Mr where
  | ex (d : Nat)
  | bi (n d : Nat)
  | bl (n d : Nat) (a : List Dc)
  | un (d : Nat)
  | pr (d : Nat)
/-- an expression of names, numbers, and signs between them -/
def sE (l : List Tok) : Nat → Mr → Nat → Option (List Dc × Nat)
  | 0, _, _ => none
  | f + 1, .ex d, k => if bgK l k = true ∧ d ≤ 32 then (match sE l f (.bi 1 d) k with
    | some (c, k1) => if sw l k1 [63] then none else some (c, k1)
    | none => none) else none
  | f + 1, .bi n d, k => if 9 < n then sE l f (.un d) k else (match sE l f (.bi (n + 1) d) k with
    | some (a, k1) => sE l f (.bl n d a) k1
    | none => none)
  | f + 1, .bl n d a, k => if (tk l k).k = 3 ∧ (biL (tk l k).x).2 = n then (match sE l f (.bi (n + 1) d) (k + 1) with
    | some (b, k1) => sE l f (.bl n d (xD (biL (tk l k).x).1 [] [] false 2 (a ++ b) (tk l k).p)) k1
    | none => none) else some (a, k)
  | f + 1, .un d, k => if bgK l k = true ∧ ¬ ((tk l k).k = 3 ∧ 0 < unL (tk l k).x) then sE l f (.pr d) k else none
  | f + 1, .pr d, k => if (tk l k).k = 2 then (match numV (tk l k).x with
      | some (v, pl) => some (xD 1 [] v pl 0 [] (tk l k).p, k + 1)
      | none => none)
    else if nmK l k = true ∧ sw l k [40] = false ∧ sw l k [123] = false ∧ sw l (k + 1) [91] = false then some (xD 2 (tk l k).x [] false 0 [] (tk l k).p, k + 1) else none
/-- statements, each of twelve cells -/
def stC (kd : Int) (tg : List UInt8) (v : List Dc) (nb : Nat) (bd : List Dc) (ne : Nat) (el : List Dc) (p : Nat) : List Dc := [.i kd, .t tg] ++ v ++ [.s nb bd, .s ne el, .s 0 [], .i p]
def wBegin : List UInt8 := [98, 101, 103, 105, 110]
def wEnd : List UInt8 := [101, 110, 100]
def wIf : List UInt8 := [105, 102]
def wElse : List UInt8 := [101, 108, 115, 101]
def wCase : List UInt8 := [99, 97, 115, 101]
inductive Ms where
  | one (d : Nat)
  | many (d : Nat) (n : Nat) (a : List Dc)
/-- statements: how many, their cells, the next token -/
def sS (l : List Tok) (fe : Nat) : Nat → Ms → Nat → Option (Nat × List Dc × Nat)
  | 0, _, _ => none
  | f + 1, .one d, k => if 32 < d then none else
    if sw l k wBegin then sS l fe f (.many d 0 []) (k + 1)
    else if sw l k wIf then (if sw l (k + 1) [40] then (match sE l fe (.ex 1) (k + 1 + 1) with
      | some (v, k1) => if sw l k1 [41] then (match sS l fe f (.one (d + 1)) (k1 + 1) with
        | some (nb, bd, k2) => if sw l k2 wElse then (match sS l fe f (.one (d + 1)) (k2 + 1) with
            | some (ne, el, k3) => some (1, stC 3 [] v nb bd ne el (tk l k).p, k3)
            | none => none) else some (1, stC 3 [] v nb bd 0 [] (tk l k).p, k2)
        | none => none) else none
      | none => none) else none)
    else if sw l k wCase then none
    else if nmK l k = true ∧ sw l (k + 1) [60, 61] = false ∧ sw l (k + 1) [61] = true then (match sE l fe (.ex 1) (k + 1 + 1) with
      | some (v, k1) => if sw l k1 [59] then some (1, stC 1 (tk l k).x v 0 [] 0 [] (tk l k).p, k1 + 1) else none
      | none => none)
    else none
  | f + 1, .many d n a, k => if sw l k wEnd then some (n, a, k + 1) else (match sS l fe f (.one (d + 1)) k with
    | some (m, b, k1) => sS l fe f (.many d (n + m) (a ++ b)) k1
    | none => none)
/-- items, each of 48 cells -/
def itD (kd : Int) (nm : List UInt8) (nn : Nat) (nms : List Dc) (vl wh nx : List Dc) (vr : List UInt8) (nb : Nat) (bd : List Dc) (ni : Nat) (its : List Dc) (p : Nat) : List Dc :=
  [.i kd, .t nm, .s nn nms, .b false] ++ zX ++ zX ++ [.b false] ++ zX ++ vl ++ wh ++ nx ++ [.t vr, .t [], .s 0 [], .s 0 [], .s nb bd, .s ni its, .i p]
def wWire : List UInt8 := [119, 105, 114, 101]
def wReg : List UInt8 := [114, 101, 103]
def wLocal : List UInt8 := [108, 111, 99, 97, 108, 112, 97, 114, 97, 109]
def wAssign : List UInt8 := [97, 115, 115, 105, 103, 110]
def wAlways : List UInt8 := [97, 108, 119, 97, 121, 115]
def wFor : List UInt8 := [102, 111, 114]
inductive Mi where
  | one (d : Nat)
  | many (e : List UInt8) (d : Nat) (n : Nat) (a : List Dc)
/-- items: how many, their cells, the next token -/
def sI (l : List Tok) (fe : Nat) : Nat → Mi → Nat → Option (Nat × List Dc × Nat)
  | 0, _, _ => none
  | f + 1, .one d, k => if 32 < d then none else
    if sw l k wWire then (if sw l (k + 1) [91] = false ∧ nmK l (k + 1) = true ∧ sw l (k + 1 + 1) [44] = false ∧ sw l (k + 1 + 1) [59] = true then some (1, itD 1 [] 1 [.t (tk l (k + 1)).x] zX zX zX [] 0 [] 0 [] (tk l k).p, k + 1 + 1 + 1) else none)
    else if sw l k wReg then none
    else if sw l k wLocal then none
    else if sw l k wAssign then (if sw l (k + 1) [35] = false ∧ nmK l (k + 1) = true ∧ sw l (k + 1 + 1) [61] = true then (match sE l fe (.ex 1) (k + 1 + 1 + 1) with
      | some (v, k1) => if sw l k1 [59] then some (1, itD 4 (tk l (k + 1)).x 0 [] v zX zX [] 0 [] 0 [] (tk l k).p, k1 + 1) else none
      | none => none) else none)
    else if sw l k wAlways then (if sw l (k + 1) [64] = true ∧ sw l (k + 1 + 1) [40] = true ∧ sw l (k + 1 + 1 + 1) [42] = true ∧ sw l (k + 1 + 1 + 1 + 1) [41] = true then (match sS l fe fe (.one 1) (k + 1 + 1 + 1 + 1 + 1) with
      | some (nb, bd, k1) => some (1, itD 5 [] 0 [] zX zX zX [] nb bd 0 [] (tk l k).p, k1)
      | none => none) else none)
    else if sw l k wFor then (if sw l (k + 1) [40] = true ∧ nmK l (k + 1 + 1) = true ∧ sw l (k + 1 + 1 + 1) [61] = true then (match sE l fe (.ex 1) (k + 1 + 1 + 1 + 1) with
      | some (v, k1) => if sw l k1 [59] = true then (match sE l fe (.ex 1) (k1 + 1) with
        | some (wh, k2) => if sw l k2 [59] = true ∧ nmK l (k2 + 1) = true ∧ (tk l (k2 + 1)).x = (tk l (k + 1 + 1)).x ∧ sw l (k2 + 1 + 1) [61] = true then (match sE l fe (.ex 1) (k2 + 1 + 1 + 1) with
          | some (nx, k3) => if sw l k3 [41] = true ∧ sw l (k3 + 1) wBegin = true ∧ sw l (k3 + 1 + 1) [58] = true ∧ nmK l (k3 + 1 + 1 + 1) = true then (match sI l fe f (.many wEnd (d + 1) 0 []) (k3 + 1 + 1 + 1 + 1) with
            | some (ni, its, k4) => some (1, itD 8 (tk l (k3 + 1 + 1 + 1)).x 0 [] v wh nx (tk l (k + 1 + 1)).x 0 [] ni its (tk l k).p, k4)
            | none => none) else none
          | none => none) else none
        | none => none) else none
      | none => none) else none)
    else none
  | f + 1, .many e d n a, k => if sw l k e then some (n, a, k + 1) else (match sI l fe f (.one d) k with
    | some (m, b, k1) => sI l fe f (.many e d (n + 1) (a ++ b)) k1
    | none => none)
/-- ports, each of 17 cells -/
def poD (o r : Bool) (nm : List UInt8) (p : Nat) : List Dc := [.b o, .b r, .b false] ++ zX ++ zX ++ [.t nm, .i p]
def wInput : List UInt8 := [105, 110, 112, 117, 116]
def wOutput : List UInt8 := [111, 117, 116, 112, 117, 116]
def wModule : List UInt8 := [109, 111, 100, 117, 108, 101]
def wEndmod : List UInt8 := [101, 110, 100, 109, 111, 100, 117, 108, 101]
def sP (l : List Tok) (k : Nat) : Option (List Dc × Nat) :=
  if sw l k wOutput then (if sw l (k + 1) wReg then (if sw l (k + 1 + 1) [91] = false ∧ nmK l (k + 1 + 1) = true then some (poD true true (tk l (k + 1 + 1)).x (tk l k).p, k + 1 + 1 + 1) else none)
    else if sw l (k + 1) [91] = false ∧ nmK l (k + 1) = true then some (poD true false (tk l (k + 1)).x (tk l k).p, k + 1 + 1) else none)
  else if sw l k wInput = true ∧ sw l (k + 1) [91] = false ∧ nmK l (k + 1) = true then some (poD false false (tk l (k + 1)).x (tk l k).p, k + 1 + 1) else none
/-- ports with commas between them, so many being there -/
def sPs (l : List Tok) : Nat → Nat → List Dc → Nat → Option (Nat × List Dc × Nat)
  | 0, _, _, _ => none
  | f + 1, n, a, k => match sP l k with
    | some (p, k1) => if sw l k1 [44] then sPs l f (n + 1) (a ++ p) (k1 + 1) else some (n + 1, a ++ p, k1)
    | none => none
def moD (nm : List UInt8) (np : Nat) (ps : List Dc) (ni : Nat) (its : List Dc) (p : Nat) : List Dc := [.t nm, .s 0 [], .s np ps, .s ni its, .i p]
/-- a module that has ports -/
def sM (l : List Tok) (f : Nat) (k : Nat) : Option (List Dc × Nat) :=
  if sw l k wModule = true ∧ nmK l (k + 1) = true ∧ sw l (k + 1 + 1) [35] = false ∧ sw l (k + 1 + 1) [40] = true ∧ sw l (k + 1 + 1 + 1) [41] = false then (match sPs l f 0 [] (k + 1 + 1 + 1) with
    | some (np, ps, k1) => if sw l k1 [41] = true ∧ sw l (k1 + 1) [59] = true then (match sI l f f (.many wEndmod 1 0 []) (k1 + 1 + 1) with
      | some (ni, its, k2) => some (moD (tk l (k + 1)).x np ps ni its (tk l k).p, k2)
      | none => none) else none
    | none => none) else none
end Rp

/- Trees in memory, by the data of their cells; the reference's reader at its block. -/
namespace Go.Proofs.Ytpnhefjiobnelaa
open Go.RowKit Lg Rp
set_option linter.unusedVariables false
set_option linter.unusedSimpArgs false

/-- cells hold data; what is a slice lies in a block such as N tells -/
inductive DAt (w : World) (N : Nat → Prop) : List Dc → List Value → Prop
  | nil : DAt w N [] []
  | i {z : Int} {ds : List Dc} {vs : List Value} (h : DAt w N ds vs) : DAt w N (.i z :: ds) (.int .i64 z :: vs)
  | t {x : List UInt8} {ds : List Dc} {vs : List Value} (h : DAt w N ds vs) : DAt w N (.t x :: ds) (.string (S x) :: vs)
  | b {p : Bool} {ds : List Dc} {vs : List Value} (h : DAt w N ds vs) : DAt w N (.b p :: ds) (.bool p :: vs)
  | s0 {ds : List Dc} {vs : List Value} (h : DAt w N ds vs) : DAt w N (.s 0 [] :: ds) (.slice none 0 0 :: vs)
  | s {g cap n : Nat} {ks : List Dc} {us : List Value} {ds : List Dc} {vs : List Value} (hN : N g) (hg : g < w.heap.size) (hc : n ≤ cap) (hu : ∀ j u, us[j]? = some u → w.cell? ⟨g, j, none⟩ = some u) (hk : DAt w N ks us) (h : DAt w N ds vs) : DAt w N (.s n ks :: ds) (.slice (some ⟨g, 0, none⟩) n cap :: vs)
theorem DAt.keep {w w' : World} {N : Nat → Prop} (hk : Up N w w') {ds : List Dc} {vs : List Value} (h : DAt w N ds vs) : DAt w' N ds vs := by
  induction h with
  | nil => exact .nil
  | i _ ih => exact .i ih
  | t _ ih => exact .t ih
  | b _ ih => exact .b ih
  | s0 _ ih => exact .s0 ih
  | @s g _ _ _ _ _ _ hN hg hc hu _ _ ih1 ih2 => exact .s hN (Nat.lt_of_lt_of_le hg hk.1) hc (fun j u h => by rw [World.cell?_of_block (w := w) (a := ⟨g, j, none⟩) (hk.2 g hg hN)]; exact hu j u h) ih1 ih2
theorem DAt.mono {w : World} {N N' : Nat → Prop} (hB : ∀ g, g < w.heap.size → N g → N' g) {ds : List Dc} {vs : List Value} (h : DAt w N ds vs) : DAt w N' ds vs := by
  induction h with
  | nil => exact .nil
  | i _ ih => exact .i ih
  | t _ ih => exact .t ih
  | b _ ih => exact .b ih
  | s0 _ ih => exact .s0 ih
  | @s g _ _ _ _ _ _ hN hg hc hu _ _ ih1 ih2 => exact .s (hB _ hg hN) hg hc hu ih1 ih2
theorem DAt.len {w : World} {N : Nat → Prop} {ds : List Dc} {vs : List Value} (h : DAt w N ds vs) : vs.length = ds.length := by
  induction h with
  | nil => rfl
  | i _ ih => simp [ih]
  | t _ ih => simp [ih]
  | b _ ih => simp [ih]
  | s0 _ ih => simp [ih]
  | s _ _ _ _ _ _ _ ih2 => simp [ih2]
theorem DAt.one {w : World} {N : Nat → Prop} {ds : List Dc} {vs : List Value} (h : DAt w N ds vs) : ∀ u ∈ vs, u.oneCell' = true := by
  induction h with
  | nil => intro u hu; cases hu
  | i _ ih => intro u hu; rcases List.mem_cons.1 hu with rfl | hu; rfl; exact ih u hu
  | t _ ih => intro u hu; rcases List.mem_cons.1 hu with rfl | hu; rfl; exact ih u hu
  | b _ ih => intro u hu; rcases List.mem_cons.1 hu with rfl | hu; rfl; exact ih u hu
  | s0 _ ih => intro u hu; rcases List.mem_cons.1 hu with rfl | hu; rfl; exact ih u hu
  | s _ _ _ _ _ _ _ ih2 => intro u hu; rcases List.mem_cons.1 hu with rfl | hu; rfl; exact ih2 u hu
theorem DAt.app {w : World} {N : Nat → Prop} {a : List Dc} {x : List Value} (h : DAt w N a x) {b : List Dc} {y : List Value} (k : DAt w N b y) : DAt w N (a ++ b) (x ++ y) := by
  induction h with
  | nil => exact k
  | i _ ih => exact .i ih
  | t _ ih => exact .t ih
  | b _ ih => exact .b ih
  | s0 _ ih => exact .s0 ih
  | s hN hg hc hu hk _ _ ih2 => exact .s hN hg hc hu hk ih2
theorem DAt.split {w : World} {N : Nat → Prop} : ∀ {a : List Dc} {b : List Dc} {v : List Value}, DAt w N (a ++ b) v → ∃ x y, v = x ++ y ∧ DAt w N a x ∧ DAt w N b y := by
  intro a
  induction a with
  | nil => intro b v h; exact ⟨[], v, rfl, .nil, h⟩
  | cons d a ih =>
    intro b v h
    cases h with
    | i h => obtain ⟨x, y, rfl, h1, h2⟩ := ih h; exact ⟨_ :: x, y, rfl, .i h1, h2⟩
    | t h => obtain ⟨x, y, rfl, h1, h2⟩ := ih h; exact ⟨_ :: x, y, rfl, .t h1, h2⟩
    | b h => obtain ⟨x, y, rfl, h1, h2⟩ := ih h; exact ⟨_ :: x, y, rfl, .b h1, h2⟩
    | s0 h => obtain ⟨x, y, rfl, h1, h2⟩ := ih h; exact ⟨_ :: x, y, rfl, .s0 h1, h2⟩
    | s hN hg hc hu hk h => obtain ⟨x, y, rfl, h1, h2⟩ := ih h; exact ⟨_ :: x, y, rfl, .s hN hg hc hu hk h1, h2⟩
/-- an expression's cells: five that are plain, and a slice -/
theorem DAt.expr {w : World} {N : Nat → Prop} {op : Int} {nm vl : List UInt8} {pl : Bool} {n : Nat} {ks : List Dc} {p : Nat} {v : List Value} (h : DAt w N (xD op nm vl pl n ks p) v) :
    ∃ ao m cp, v = [.int .i64 op, .string (S nm), .string (S vl), .bool pl, .slice ao m cp, .int .i64 p] := by
  unfold xD at h
  cases h with | i h => cases h with | t h => cases h with | t h => cases h with | b h => cases h with
    | s0 h => cases h with | i h => cases h; exact ⟨_, _, _, rfl⟩
    | s _ _ _ _ _ h => cases h with | i h => cases h; exact ⟨_, _, _, rfl⟩
/-- a row that one owns, its elements lying elsewhere -/
structure Row (w : World) (B : Nat) (e : TypeId) (z : Nat) (v : Value) (n : Nat) (ds : List Dc) : Prop where
  ex : ∃ xs, w.ownsRow B e z v n xs ∧ DAt w (fun g => B ≤ g ∧ v.ownBlock ≠ some g) ds xs
theorem Row.nil (w : World) (B : Nat) (e : TypeId) (z : Nat) : Row w B e z (.slice none 0 0) 0 [] := ⟨[], World.ownsRow_nil _ _ _ _, .nil⟩
/-- blocks that there were, but one, are as they were; the row's own too -/
theorem Row.keep {w w' : World} {B b : Nat} {e : TypeId} {z : Nat} {v : Value} {n : Nat} {ds : List Dc} (h : Row w B e z v n ds) (hk : Kp b w w') (hb : b < B) : Row w' B e z v n ds := by
  obtain ⟨xs, ⟨h1, h2⟩, h3⟩ := h.ex
  refine ⟨xs, ⟨h1, ?_⟩, h3.keep ⟨hk.size, fun k hk1 hk2 => hk.block k hk1 (by omega)⟩⟩
  rcases h2 with h2 | ⟨g, cap, cur, hv, hg, hh, hr⟩
  · exact Or.inl h2
  · exact Or.inr ⟨g, cap, cur, hv, hg, (hk.block g (heap_lt hh) (by omega)).trans hh, hr⟩
theorem Row.at_ {w : World} {B : Nat} {e : TypeId} {z : Nat} {v : Value} {n : Nat} {ds : List Dc} (h : Row w B e z v n ds) : ∃ ao cp, v = .slice ao n cp := by
  obtain ⟨xs, h1, _⟩ := h.ex
  exact slice_of h1
/-- such a row as a cell -/
theorem Row.cell {w : World} {B : Nat} {e : TypeId} {z : Nat} {v : Value} {n : Nat} {ds : List Dc} (h : Row w B e z v n ds) : DAt w (Ge B) [.s n ds] [v] := by
  obtain ⟨xs, ⟨h1, h2⟩, h3⟩ := h.ex
  have h4 := h3.mono (N' := Ge B) (fun g _ hg => hg.1)
  rcases h2 with ⟨rfl, rfl⟩ | ⟨g, cap, cur, rfl, hg, hh, hc, _, hz, ht⟩
  · rw [Nat.zero_mul] at h1
    obtain rfl : xs = [] := List.eq_nil_of_length_eq_zero h1
    have := h3.len
    obtain rfl : ds = [] := List.eq_nil_of_length_eq_zero (by simpa using this.symm)
    exact .s0 .nil
  · refine .s hg (heap_lt hh) hc (fun j u hu => ?_) h4 .nil
    rw [Lib.cell_of_heap hh]
    rw [← ht, List.getElem?_take] at hu
    split at hu
    · simpa using hu
    · cases hu
/-- elements are added to a row -/
theorem Row.more {w w' : World} {B : Nat} {e : TypeId} {z : Nat} {v v' : Value} {n m : Nat} {ds es : List Dc} {xs ys : List Value} (h1 : DAt w (fun g => B ≤ g ∧ v.ownBlock ≠ some g) ds xs) (h2 : DAt w (fun g => B ≤ g ∧ v.ownBlock ≠ some g) es ys)
    (ho : w'.ownsRow B e z v' (n + m) (xs ++ ys)) (hg : w.grownBy w' v.ownBlock) (ha : v'.ownBlock = v.ownBlock ∨ v'.ownBlock = some w.heap.size) : Row w' B e z v' (n + m) (ds ++ es) := by
  refine ⟨xs ++ ys, ho, ?_⟩
  have hU : Up (fun g => B ≤ g ∧ v.ownBlock ≠ some g) w w' := ⟨hg.size, fun k hk hn => hg.block k hk (fun e => hn.2 e.symm)⟩
  have h := (h1.app h2).mono (N' := fun g => (B ≤ g ∧ v.ownBlock ≠ some g) ∧ g < w.heap.size) (fun g hg hn => ⟨hn, hg⟩)
  have h' := h.keep (w' := w') ⟨hg.size, fun k hk hn => hU.2 k hk hn.1⟩
  refine h'.mono fun g _ hn => ⟨hn.1.1, ?_⟩
  rcases ha with ha | ha
  · rw [ha]; exact hn.1.2
  · rw [ha]; intro e; injection e with e; omega
/-- the reader's block, and the tokens; all goes well -/
structure Rq (b g cap : Nat) (l : List Tok) (k : Nat) (w : World) : Prop where
  blk : w.heap[b]? = some (.cells #[.slice (some ⟨g, 0, none⟩) l.length cap, .int .i64 k, .int .i64 0, .int .i64 0] 54 (0, 0))
  ne : g ≠ b
  lt : g < w.heap.size
  cap : l.length ≤ cap
  len : l.length ≤ 100000
  k : k < l.length
  last : (tk l (l.length - 1)).k = 6
  src : ∀ j u, (tcells l)[j]? = some u → w.cell? ⟨g, j, none⟩ = some u
theorem Rq.blt {b g cap k : Nat} {l : List Tok} {w : World} (h : Rq b g cap l k w) : b < w.heap.size := heap_lt h.blk
theorem Rq.below {b g cap k : Nat} {l : List Tok} {w w' : World} (h : Rq b g cap l k w) (hb : Below w.heap.size w w') : Rq b g cap l k w' :=
  ⟨(hb.block b h.blt).trans h.blk, h.ne, Nat.lt_of_lt_of_le h.lt hb.size, h.cap, h.len, h.k, h.last, fun j u hu => by rw [hb.cell (p := ⟨g, j, none⟩) h.lt]; exact h.src j u hu⟩
theorem Rq.set {b g cap k : Nat} {l : List Tok} {w : World} (h : Rq b g cap l k w) (hk : k + 1 < l.length) (y : Value) (hy : y = .int .i64 (k + 1 : Nat)) : Rq b g cap l (k + 1) (w.setCell ⟨b, 1, none⟩ y) := by
  subst hy
  refine ⟨?_, h.ne, by simp [World.setCell]; exact h.lt, h.cap, h.len, hk, h.last, fun j u hu => ?_⟩
  · simp only [World.setCell]; rw [Array.getElem?_modify, if_pos rfl, h.blk]; rfl
  · rw [World.cell?_of_block (w := w) (a := ⟨g, j, none⟩) (Below.heap_setCell _ _ _ _ h.ne)]; exact h.src j u hu
theorem Rq.at_ {b g cap k : Nat} {l : List Tok} {w : World} (h : Rq b g cap l k w) : w.cell? ⟨b, 0, none⟩ = some (.slice (some ⟨g, 0, none⟩) l.length cap) ∧ w.cell? ⟨b, 1, none⟩ = some (.int .i64 k) ∧ w.cell? ⟨b, 3, none⟩ = some (.int .i64 0) ∧ (∀ j, w.frozen? ⟨b, j, none⟩ = false) :=
  ⟨by rw [Lib.cell_of_heap h.blk]; rfl, by rw [Lib.cell_of_heap h.blk]; rfl, by rw [Lib.cell_of_heap h.blk]; rfl, fun j => Lib.frozen_of_heap h.blk j⟩
theorem Rq.tok {b g cap k : Nat} {l : List Tok} {w : World} (h : Rq b g cap l k w) {j : Nat} (hj : j < l.length) : w.cell? ⟨g, j * 3, none⟩ = some (.int .i64 (tk l j).k) ∧ w.cell? ⟨g, j * 3 + 1, none⟩ = some (.string (S (tk l j).x)) ∧ w.cell? ⟨g, j * 3 + 2, none⟩ = some (.int .i64 (tk l j).p) := by
  have e : l[j]? = some (tk l j) := by unfold tk; rw [List.getD_eq_getElem?_getD, List.getElem?_eq_getElem hj]; rfl
  obtain ⟨a, b, c⟩ := tcell_at e
  exact ⟨h.src _ _ a, h.src _ _ b, h.src _ _ c⟩
theorem Rq.next {b g cap k : Nat} {l : List Tok} {w : World} (h : Rq b g cap l k w) (hk : (tk l k).k ≠ 6) : k + 1 < l.length := by
  have := h.k
  rcases Nat.lt_or_ge (k + 1) l.length with h1 | h1
  · exact h1
  · exact absurd (by rw [show k = l.length - 1 by omega]; exact h.last) hk
theorem Rq.setR {b g cap k R j : Nat} {l : List Tok} {w : World} {y : Value} (h : Rq b g cap l k w) (h1 : R ≠ b) (h2 : R ≠ g) : Rq b g cap l k (w.setCell ⟨R, j, none⟩ y) :=
  ⟨(Below.heap_setCell _ _ _ _ (Ne.symm h1)).trans h.blk, h.ne, by simp [World.setCell]; exact h.lt, h.cap, h.len, h.k, h.last, fun i u hu => by rw [World.cell?_of_block (w := w) (a := ⟨g, i, none⟩) (Below.heap_setCell _ _ _ _ (Ne.symm h2))]; exact h.src i u hu⟩
theorem Rq.oth {b g cap k R : Nat} {l : List Tok} {w w' : World} (h : Rq b g cap l k w) (ho : Oth R w w') (h1 : R ≠ b) (h2 : R ≠ g) : Rq b g cap l k w' :=
  ⟨(ho.block _ (Ne.symm h1)).trans h.blk, h.ne, by rw [ho.size]; exact h.lt, h.cap, h.len, h.k, h.last, fun i u hu => by rw [World.cell?_of_block (w := w) (a := ⟨g, i, none⟩) (ho.block _ (Ne.symm h2))]; exact h.src i u hu⟩
theorem sw_kind {l : List Tok} {k : Nat} {x : List UInt8} (h : sw l k x = true) : (tk l k).k ≠ 6 := by
  intro e
  unfold sw at h
  rw [e] at h
  simp at h
theorem nm_kind6 {l : List Tok} {k : Nat} (h : nmK l k = true) : (tk l k).k ≠ 6 := by
  intro e
  unfold nmK at h
  rw [e] at h
  simp at h
end Go.Proofs.Ytpnhefjiobnelaa

/- The reference's reader: the words of the language, the token at hand. -/
namespace Go.Proofs.Ytpnhefjiobnelaa
open Go.RowKit Lg Rp
set_option linter.unusedVariables false
set_option linter.unusedSimpArgs false

def strs (l : List (List UInt8)) : List Value := l.map fun x => .string (S x)
theorem strs_at {l : List (List UInt8)} {i : Nat} {x : List UInt8} (h : l[i]? = some x) : (strs l)[i]? = some (.string (S x)) := by unfold strs; rw [List.getElem?_map, h]; rfl
theorem strs_len (l : List (List UInt8)) : (strs l).length = l.length := by simp [strs]
theorem strs_cell (w : World) (l : List (List UInt8)) (t : TypeId) {i : Nat} {x : List UInt8} (h : l[i]? = some x) : (w.alloc (.cells (strs l).toArray t)).cell? ⟨w.heap.size, i, none⟩ = some (.string (S x)) := cells_in i _ (strs_at h)
set_option maxRecDepth 100000 in
set_option maxHeartbeats 1000000 in
theorem Words_c (w : World) : Calls Try.prog 70 #[] w fun e w' => e = .returned (.slice (some ⟨w.heap.size, 0, none⟩) 19 19) ∧ Below w.heap.size w w' ∧ w.heap.size < w'.heap.size ∧ ∀ (i : Nat) (y : List UInt8), wordsL[i]? = some y → w'.cell? ⟨w.heap.size, i, none⟩ = some (.string (S y)) := by
  go_enter Try.func70, Try.ntmps70
  go_wp2
  go_ret
  exact ⟨rfl, bxS, by simp, fun i y h => strs_cell w wordsL 9 h⟩
theorem take_any {l : List (List UInt8)} {i : Nat} {y x : List UInt8} (hy : l[i]? = some y) (h : (l.take i).contains x = false) (hn : y ≠ x) : (l.take (i + 1)).contains x = false := by
  rw [List.take_add_one, hy]
  simp only [Option.toList]
  simp only [List.contains_eq_mem, decide_eq_false_iff_not, List.mem_append, List.mem_singleton, not_or] at h ⊢
  exact ⟨h, fun e => hn e.symm⟩
set_option maxRecDepth 100000 in
set_option maxHeartbeats 2000000 in
theorem Reserved_c (x : ByteArray) (w : World) : Calls Try.prog 54 #[.string x] w fun e w' => e = .returned (.bool (isW (L x))) ∧ Below w.heap.size w w' := by
  have HW := Words_c w
  go_enter Try.func54, Try.ntmps54
  go_wp2_with (first | (go_at_call 70; refine HW.mono ?_; rintro e w1 ⟨rfl, hB, hlt, hC⟩; have HC : Hid _ := hC; have hB2 : Hid _ := hB))
  clear hC hB
  go_loop [4] (fun iv => ∃ i : Nat, i ≤ 19 ∧ iv = .int .i64 i ∧ Hid ((wordsL.take i).contains (L x) = false)) (fun iv => 19 - (intOf iv).toNat)
  case atStart => exact ⟨0, by omega, rfl, rfl⟩
  case round =>
    obtain ⟨i, hi, rfl, HF⟩ := hrel
    by_cases hlt2 : i < 19
    · obtain ⟨y, hy⟩ : ∃ y, wordsL[i]? = some y := ⟨_, List.getElem?_eq_getElem (show i < wordsL.length from hlt2)⟩
      have hc := HC.out i y hy
      have hiI : (i : Int) < 19 := by omega
      by_cases he : y = L x
      · have e1 : ((S y).toList == x.toList) = true := by rw [he, S_L]; simp
        have HE : Hid (isW (L x) = true) := by show wordsL.contains (L x) = true; exact List.contains_iff_mem.2 (he ▸ List.mem_of_getElem? hy)
        obtain ⟨sy, hsy⟩ : ∃ sy, sy = S y := ⟨_, rfl⟩
        rw [← hsy] at hc e1
        clear hy he hsy
        go_wp2
        go_ret
        exact ⟨by rw [HE.out]; rfl, hB2.out⟩
      · have e1 := str_ne he
        have HN : Hid _ := take_any hy HF.out he
        obtain ⟨sy, hsy⟩ : ∃ sy, sy = S y := ⟨_, rfl⟩
        rw [← hsy] at hc e1
        clear hy he hsy
        go_wp2
        go_round
        case rel => exact ⟨i + 1, by omega, by go_num, HN.out⟩
        case measure => simp [intOf]; omega
    · obtain rfl : i = 19 := by omega
      go_wp2
      go_ret
      exact ⟨by rw [show isW (L x) = false from HF.out]; rfl, hB2.out⟩
set_option maxHeartbeats 1000000 in
theorem rGoing {b g cap k : Nat} {l : List Tok} {w : World} (h : Rq b g cap l k w) : Calls Try.prog 18 #[.pointer (some ⟨b, 0, none⟩)] w fun e w' => e = .returned (.bool true) ∧ w' = w := by
  obtain ⟨c0, c1, c3, cf⟩ := h.at_
  have hb := h.blt
  clear h
  go_enter Try.func18, Try.ntmps18
  go_wp2
  go_ret
  exact ⟨rfl, rfl⟩
set_option maxRecDepth 100000 in
set_option maxHeartbeats 2000000 in
theorem rPlace {b g cap k : Nat} {l : List Tok} {w : World} (h : Rq b g cap l k w) : Calls Try.prog 27 #[.pointer (some ⟨b, 0, none⟩)] w fun e w' => e = .returned (.int .i64 (tk l k).p) ∧ Below w.heap.size w w' := by
  obtain ⟨c0, c1, c3, cf⟩ := h.at_
  obtain ⟨d0, d1, d2⟩ := h.tok h.k
  have hk := h.k
  have hlt := h.lt
  have hb := h.blt
  have hne := h.ne
  obtain ⟨n, hn⟩ : ∃ n, n = l.length := ⟨_, rfl⟩
  rw [← hn] at c0 hk
  obtain ⟨p, hp⟩ : ∃ p, p = (tk l k).p := ⟨_, rfl⟩
  rw [← hp] at d2 ⊢
  clear h hn hp d0 d1
  have hkI : (k : Int) < (n : Int) := by omega
  go_enter Try.func27, Try.ntmps27
  go_wp2
  go_region
  all_goals go_wp2
  all_goals
    go_ret
    exact ⟨rfl, belD⟩
end Go.Proofs.Ytpnhefjiobnelaa

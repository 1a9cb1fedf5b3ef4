/- What a node hangs on; levels, plain, and the reference's Levels. -/
import Derived.Test.YtpdcmehjndhcjaaKN
namespace Go.Proofs.Ytpdcmehjndhcjaa
open Go.RowKit Lg Nl Go.Maps
set_option linter.unusedVariables false
set_option linter.unusedSimpArgs false

/-- what a node hangs on -/
def hangL (x : Nd) : List Int := if x.k = 8 then [] else if x.k = 7 then x.ins.take 1 else x.ins
def hgs (x : Nd) : List Nat := (hangL x).map Int.toNat
def bump (i : Nat) (s : (Nat → Int) × Bool) (h : Nat) : (Nat → Int) × Bool := if s.1 i < s.1 h + 1 then (fun q => if q = i then s.1 h + 1 else s.1 q, true) else s
def bumps (s : (Nat → Int) × Bool) (i : Nat) (hs : List Nat) : (Nat → Int) × Bool := hs.foldl (bump i) s
/-- all nodes ahead of one are put behind those that they hang on, one by one -/
def sweepTo (l : List Nd) (f : Nat → Int) : Nat → (Nat → Int) × Bool
  | 0 => (f, false)
  | i + 1 => bumps (sweepTo l f i) i (hgs (ndAt l i))
/-- so many rounds at the most -/
def lvR (l : List Nd) : Nat → (Nat → Int) → Option (Nat → Int)
  | 0, _ => none
  | r + 1, f => if (sweepTo l f l.length).2 then lvR l r (sweepTo l f l.length).1 else some (sweepTo l f l.length).1
def levels (l : List Nd) : Option (Nat → Int) := lvR l (l.length + 1) (fun _ => 0)
/-- nodes whose Ins are there -/
structure Ok (l : List Nd) : Prop where
  n : l.length ≤ 4096
  i : ∀ x ∈ l, x.ins.all (inB l.length) = true
  q : ∀ x ∈ l, x.ins.length ≤ 256
  f : ∀ x ∈ l, x.k = 7 → 1 ≤ x.ins.length
theorem bumps_snoc (s : (Nat → Int) × Bool) (i : Nat) (hs : List Nat) (h : Nat) : bumps s i (hs ++ [h]) = bump i (bumps s i hs) h := by simp [bumps]
theorem IntsAt.take1 {w : World} {ia : Option Addr} {q ic : Nat} {ins : List Int} (h : IntsAt w (.slice ia q ic) ins) (hq : 1 ≤ q) (hl : q = ins.length) : IntsAt w (.slice ia 1 ic) (ins.take 1) := by
  obtain ⟨ao, c, hv, hc, h⟩ := h
  injection hv with e1 e2 e3
  subst e1 e3
  have hl1 : (ins.take 1).length = 1 := by rw [List.length_take]; omega
  refine ⟨_, _, by rw [hl1], by omega, ?_⟩
  rcases h with h | ⟨g, o, rfl, hg, h⟩
  · subst h; simp at hl; omega
  · refine Or.inr ⟨g, o, rfl, hg, fun i hi => ?_⟩
    have hi1 : i < ins.length := by rw [hl1] at hi; omega
    rw [h i hi1, List.getElem_take]
set_option maxHeartbeats 1000000 in
theorem kHangs_c (x : Nd) (ia : Option Addr) (ic : Nat) (w : World) (hi : IntsAt w (.slice ia x.ins.length ic) x.ins) (h7 : x.k = 7 → 1 ≤ x.ins.length) (hq : x.ins.length ≤ 17592186044416) :
    Calls Try.prog 14 #[.agg #[.int .i64 x.k, .int .i64 x.op, .int .i64 x.wd, .slice ia x.ins.length ic, .string (S x.vl), .int .i64 x.hi, .int .i64 x.lo, .int .i64 x.tm]] w fun e w' => (∃ ao m cp, e = .returned (.slice ao m cp) ∧ m = (hangL x).length ∧ ∀ W0, IntsAt W0 (.slice ia x.ins.length ic) x.ins → IntsAt W0 (.slice ao m cp) (hangL x)) ∧ Below w.heap.size w w' := by
  obtain ⟨k, op, wd, ins, vl, hi', lo, tm⟩ := x
  simp only at hi h7 hq ⊢
  obtain ⟨q, hql⟩ : ∃ q, q = ins.length := ⟨_, rfl⟩
  rw [← hql] at hi h7 hq ⊢
  have hic : q ≤ ic := by obtain ⟨_, c, hv, hc, _⟩ := hi; injection hv with _ _ e; subst e; omega
  have HI : Hid (IntsAt w (.slice ia q ic) ins) := hi
  have HQL : Hid (q = ins.length) := hql
  clear hi hql
  rcases (by omega : k = 8 ∨ k = 7 ∨ (k ≠ 8 ∧ k ≠ 7)) with rfl | rfl | ⟨h8, h7'⟩
  · go_enter Try.func14, Try.ntmps14
    go_wp2
    go_ret
    exact ⟨⟨none, 0, 0, rfl, by simp [hangL], fun W0 _ => ⟨none, 0, by simp [hangL], by simp [hangL], Or.inl (by simp [hangL])⟩⟩, belA (Below.refl _ _) _⟩
  · have h1 := h7 rfl
    have h2 : (1 : Int) ≤ (q : Int) := by omega
    have h3 : (1 : Int) ≤ (ic : Int) := by omega
    obtain ⟨g, o, c, hg⟩ := HI.out.some_ (by rw [← HQL.out]; omega)
    injection hg with e1 e2 e3
    subst e1
    clear e2 e3 h7
    go_enter Try.func14, Try.ntmps14
    go_wp2
    go_ret
    exact ⟨⟨_, 1, ic, rfl, by simp [hangL]; rw [← HQL.out]; omega, fun W0 h0 => by simpa [hangL] using h0.take1 h1 HQL.out⟩, belA (Below.refl _ _) _⟩
  · have g8 : (k == 8) = false := by simpa using h8
    have g7 : (k == 7) = false := by simpa using h7'
    have HH : Hid (hangL ⟨k, op, wd, ins, vl, hi', lo, tm⟩ = ins) := by show hangL ⟨k, op, wd, ins, vl, hi', lo, tm⟩ = ins; simp [hangL, h8, h7']
    clear h8 h7' h7
    go_enter Try.func14, Try.ntmps14
    go_wp2
    go_ret
    exact ⟨⟨_, q, ic, rfl, by rw [HH.out]; exact HQL.out, fun W0 h0 => by rw [HH.out]; exact h0⟩, belA (Below.refl _ _) _⟩
end Go.Proofs.Ytpdcmehjndhcjaa

/- Rings of gates, plain: which netlists may be, which loops they have. -/
import Derived.Test.YtpdcmehjndhcjaaKLf
namespace Go.Proofs.Ytpdcmehjndhcjaa
open Go.RowKit Lg Nl Go.Maps
set_option linter.unusedVariables false
set_option linter.unusedSimpArgs false

def nCst : Nd := ⟨1, 0, 1, [], [48], 0, 0, 0⟩
def nDel (j : Int) : Nd := ⟨8, 0, 1, [j], [], 0, 0, 1⟩
def nFlp (a b : Int) : Nd := ⟨7, 0, 1, [a, b], [], 0, 0, 0⟩
/-- nodes of one bit, none of which is an input -/
inductive Smp (n : Nat) : Nd → Prop
  | cst : Smp n nCst
  | not (j : Nat) (h : j < n) : Smp n (nNot j)
  | del (j : Nat) (h : j < n) : Smp n (nDel j)
  | flp (a b : Nat) (h : a < n) (h' : b < n) : Smp n (nFlp a b)
theorem Smp.wd {n : Nat} {x : Nd} (h : Smp n x) : x.wd = 1 := by cases h <;> rfl
theorem Smp.k2 {n : Nat} {x : Nd} (h : Smp n x) : x.k ≠ 2 := by cases h <;> simp [nCst, nNot, nDel, nFlp]
theorem smp_may {l : List Nd} (hl : l.length ≤ 4096) (h : ∀ x ∈ l, Smp l.length x) : mayN l [] 0 = true := by
  have hw : ∀ j : Nat, j < l.length → wdAt l (j : Int) = 1 := fun j hj => by
    unfold wdAt; rw [Int.toNat_natCast]; exact (h _ (ndAt_mem hj)).wd
  have a1 : l.all (shapeB l) = true := by
    rw [List.all_eq_true]
    intro x hx
    cases h x hx with
    | cst => rfl
    | not j hj => simp [shapeB, wideB, zeroB, nNot, inB]; omega
    | del j hj => simp [shapeB, wideB, zeroB, nDel, inB]; omega
    | flp a b ha hb => simp [shapeB, wideB, zeroB, nFlp, inB]; omega
  have a2 : l.all (fun x => nodeB x (wsOf l x.ins)) = true := by
    rw [List.all_eq_true]
    intro x hx
    cases h x hx with
    | cst => rfl
    | not j hj => simp [nodeB, nNot, wsOf, opWs, opW, wn, hw j hj]
    | del j hj => simp [nodeB, nDel, wsOf, wn, hw j hj]
    | flp a b ha hb => simp [nodeB, nFlp, wsOf, wn, hw b hb]
  have a3 : portB l [] = true := by
    unfold portB
    rw [List.all_nil, Bool.true_and, List.all_eq_true]
    intro i hi
    have hi' := List.mem_range.1 hi
    have hk : (ndAt l i).k ≠ 2 := (h _ (ndAt_mem hi')).k2
    simp [hk]
  unfold mayN
  rw [a1, a2, a3]
  simp [hl]
/-- each of n nodes hangs on the next one, but k, which hangs on what q tells; the node behind them hangs on nothing -/
structure Rl (l : List Nd) (n k : Nat) (q : List Nat) : Prop where
  len : l.length = n + 1
  n2 : 2 ≤ n
  hk : k < n
  ot : ∀ i, i < n → i ≠ k → hgs (ndAt l i) = [(i + 1) % n]
  at_ : hgs (ndAt l k) = q
  la : hgs (ndAt l n) = []
theorem Ring.seq {l : List Nd} {p : List Nat} (h : Ring l p) : ∃ q : Nat → Nat, (∀ j, q j ∈ p) ∧ (∀ j, q (j + 1) ∈ hgs (ndAt l (q j))) ∧ q p.length = q 0 := by
  have hp := h.pos
  have at_ : ∀ i, p[i % p.length]? = some (p.getD (i % p.length) 0) := fun i => by
    have := Nat.mod_lt i hp
    rw [List.getD_eq_getElem?_getD, List.getElem?_eq_getElem this]; rfl
  refine ⟨fun j => p.getD (j % p.length) 0, fun j => List.mem_of_getElem? (at_ j), fun j => ?_, ?_⟩
  · refine h.hg (j % p.length) _ _ (at_ j) ?_
    have := at_ (j + 1)
    rw [Nat.mod_add_mod]
    exact this
  · show p.getD (p.length % p.length) 0 = p.getD (0 % p.length) 0
    rw [Nat.mod_self, Nat.zero_mod]
/-- a ring of all of them is one, and there is no other -/
theorem Rl.ring {l : List Nd} {n k : Nat} (h : Rl l n k [(k + 1) % n]) : Ring l (List.range n) := by
  have h2 := h.n2
  refine ⟨by simp; omega, List.nodup_range, fun i hi => by have := List.mem_range.1 hi; have := h.len; omega, fun j a b ha hb => ?_⟩
  rw [List.length_range] at hb
  have hj : j < n := by have := (List.getElem?_eq_some_iff.1 ha).1; simpa using this
  have hm : (j + 1) % n < n := Nat.mod_lt _ (by omega)
  have ea : a = j := by rw [List.getElem?_range hj] at ha; injection ha with ha; exact ha.symm
  have eb : b = (j + 1) % n := by rw [List.getElem?_range hm] at hb; injection hb with hb; exact hb.symm
  subst ea eb
  by_cases e : a = k
  · subst e; rw [h.at_]; simp
  · rw [h.ot a hj e]; simp
theorem Rl.lt {l : List Nd} {n k : Nat} {q : List Nat} (h : Rl l n k q) {p : List Nat} (hp : Ring l p) {s : Nat → Nat} (h1 : ∀ j, s j ∈ p) (h2 : ∀ j, s (j + 1) ∈ hgs (ndAt l (s j))) (j : Nat) : s j < n := by
  have a := hp.lt _ (h1 j)
  have b := h2 j
  rw [h.len] at a
  rcases Nat.lt_succ_iff_lt_or_eq.1 a with a | a
  · exact a
  · rw [a, h.la] at b; cases b
theorem Rl.len_ring {l : List Nd} {n k : Nat} (h : Rl l n k [(k + 1) % n]) {p : List Nat} (hp : Ring l p) : p.length = n := by
  obtain ⟨s, h1, h2, h3⟩ := hp.seq
  have hn := h.n2
  have lt := h.lt hp h1 h2
  have step : ∀ j, s (j + 1) = (s j + 1) % n := fun j => by
    have := h2 j
    by_cases e : s j = k
    · rw [e, h.at_] at this; rw [e]; simpa using this
    · rw [h.ot _ (lt j) e] at this; simpa using this
  have all : ∀ j, s j = (s 0 + j) % n := fun j => by
    induction j with
    | zero => rw [Nat.add_zero, Nat.mod_eq_of_lt (lt 0)]
    | succ j ih => rw [step, ih, Nat.mod_add_mod, Nat.add_assoc]
  have e := all p.length
  rw [h3] at e
  have hpos := hp.pos
  have hle : p.length ≤ n := nodup_le n p hp.nd (fun z hz => by
    obtain ⟨i, hi, rfl⟩ := List.getElem_of_mem hz
    have a := hp.lt _ hz
    have hm : (i + 1) % p.length < p.length := Nat.mod_lt _ hpos
    have b := hp.hg i _ _ (List.getElem?_eq_getElem hi) (List.getElem?_eq_getElem hm)
    rw [h.len] at a
    rcases Nat.lt_succ_iff_lt_or_eq.1 a with a | a
    · exact a
    · rw [a, h.la] at b; cases b)
  by_cases hl : p.length < n
  · exfalso
    have l0 := lt 0
    by_cases hs : s 0 + p.length < n
    · rw [Nat.mod_eq_of_lt hs] at e; omega
    · rw [Nat.mod_eq_sub_mod (by omega), Nat.mod_eq_of_lt (by omega)] at e; omega
  · omega
/-- where one of them hangs on none, or on the last one alone, there is no ring -/
theorem Rl.no_ring {l : List Nd} {n k : Nat} {q : List Nat} (h : Rl l n k q) (hq : ∀ z ∈ q, z = n) {p : List Nat} (hp : Ring l p) : False := by
  obtain ⟨s, h1, h2, h3⟩ := hp.seq
  have hn := h.n2
  have lt := h.lt hp h1 h2
  have nk : ∀ j, s j ≠ k := fun j e => by
    have a := h2 j
    rw [e, h.at_] at a
    have b := hq _ a
    have c := lt (j + 1)
    omega
  have step : ∀ j, s (j + 1) = (s j + 1) % n := fun j => by
    have := h2 j
    rw [h.ot _ (lt j) (nk j)] at this
    simpa using this
  have all : ∀ j, s j = (s 0 + j) % n := fun j => by
    induction j with
    | zero => rw [Nat.add_zero, Nat.mod_eq_of_lt (lt 0)]
    | succ j ih => rw [step, ih, Nat.mod_add_mod, Nat.add_assoc]
  have l0 := lt 0
  have hk := h.hk
  apply nk (k + n - s 0)
  rw [all, show s 0 + (k + n - s 0) = k + n by omega, Nat.add_mod_right, Nat.mod_eq_of_lt hk]
/-- the ring that the statement makes, as far as it has come -/
def rgL (n i : Nat) : List Nd := (List.range i).map fun j => nNot (((j + 1) % n : Nat) : Int)
def rgA (n : Nat) : List Nd := rgL n n ++ [nCst]
theorem rgL_succ (n i : Nat) : rgL n (i + 1) = rgL n i ++ [nNot (((i + 1) % n : Nat) : Int)] := by unfold rgL; rw [List.range_succ, List.map_append]; rfl
theorem rgL_len (n i : Nat) : (rgL n i).length = i := by simp [rgL]
theorem rgA_len (n : Nat) : (rgA n).length = n + 1 := by simp [rgA, rgL]
theorem rgA_at {n i : Nat} (hi : i < n) : ndAt (rgA n) i = nNot (((i + 1) % n : Nat) : Int) := by
  unfold ndAt rgA rgL
  rw [List.getD_eq_getElem?_getD, List.getElem?_append_left (by simpa using hi), List.getElem?_map, List.getElem?_range hi]; rfl
theorem rgA_last (n : Nat) : ndAt (rgA n) n = nCst := by
  unfold ndAt rgA rgL
  rw [List.getD_eq_getElem?_getD, List.getElem?_append_right (by simp), List.length_map, List.length_range, Nat.sub_self]; rfl
theorem hgs_not (j : Nat) : hgs (nNot j) = [j] := by simp [hgs, hangL, nNot]
theorem hgs_del (j : Int) : hgs (nDel j) = [] := by simp [hgs, hangL, nDel]
theorem hgs_flp (a : Nat) (b : Int) : hgs (nFlp a b) = [a] := by simp [hgs, hangL, nFlp]
theorem hgs_cst : hgs nCst = [] := rfl
theorem rgA_smp (n : Nat) (h : 0 < n) : ∀ x ∈ rgA n, Smp (rgA n).length x := by
  intro x hx
  rw [rgA_len]
  unfold rgA rgL at hx
  rcases List.mem_append.1 hx with hx | hx
  · obtain ⟨j, hj, rfl⟩ := List.mem_map.1 hx
    exact .not _ (by have := Nat.mod_lt (j + 1) h; omega)
  · rw [List.mem_singleton.1 hx]; exact .cst
theorem rgS_smp {n k : Nat} (h : 0 < n) {x : Nd} (hx : Smp (n + 1) x) : ∀ y ∈ (rgA n).set k x, Smp ((rgA n).set k x).length y := by
  intro y hy
  rw [List.length_set, rgA_len]
  rcases List.mem_or_eq_of_mem_set hy with hy | hy
  · have := rgA_smp n h y hy; rw [rgA_len] at this; exact this
  · rw [hy]; exact hx
theorem rgA_rl {n k : Nat} (h2 : 2 ≤ n) (hk : k < n) : Rl (rgA n) n k [(k + 1) % n] :=
  ⟨rgA_len n, h2, hk, fun i hi _ => by rw [rgA_at hi, hgs_not], by rw [rgA_at hk, hgs_not], by rw [rgA_last, hgs_cst]⟩
theorem rgS_rl {n k : Nat} (h2 : 2 ≤ n) (hk : k < n) (x : Nd) : Rl ((rgA n).set k x) n k (hgs x) := by
  have hkl : k < (rgA n).length := by rw [rgA_len]; omega
  refine ⟨by rw [List.length_set, rgA_len], h2, hk, fun i hi hne => ?_, ?_, ?_⟩
  · rw [ndAt_set hkl, if_neg hne, rgA_at hi, hgs_not]
  · rw [ndAt_set hkl, if_pos rfl]
  · rw [ndAt_set hkl, if_neg (by omega), rgA_last, hgs_cst]
end Go.Proofs.Ytpdcmehjndhcjaa

/- Gates that are added to a netlist out of gates, plain. -/
import Derived.Test.YtpdcmehjndhcjaaKYb
namespace Go.Proofs.Ytpdcmehjndhcjaa
open Go.RowKit Lg Nl Go.Maps
set_option linter.unusedVariables false
set_option linter.unusedSimpArgs false

theorem Nk.mk' {l : List Nd} {x : Nd} (hw : 1 ≤ x.wd ∧ x.wd ≤ 256) (hz : zeroB x = true) (hi : ∀ z ∈ x.ins, 0 ≤ z ∧ z < (l.length : Int)) (hn : nodeB x (wsOf l x.ins) = true) (hk : x.k ≠ 2) : Nk l l.length x := by
  have hall : x.ins.all (inB l.length) = true := by rw [List.all_eq_true]; intro z hz; simp [inB]; exact hi z hz
  refine ⟨by simp [wideB]; exact hw, hz, hall, hn, fun e => absurd e hk, fun y hy => ?_⟩
  have hm : y ∈ x.ins := by
    unfold hangL at hy
    split at hy
    · cases hy
    · split at hy
      · exact List.mem_of_mem_take hy
      · exact hy
  exact (hi y hm).2
/-- what fit leaves -/
structure Ft (l l' : List Nd) (p : Nat) (wd : Int) : Prop where
  m : Mk l'
  lt : p < l'.length
  w : wdAt l' p = wd
  len : l'.length ≤ l.length + 1
  ge : l.length ≤ l'.length
  old : ∀ j : Nat, j < l.length → wdAt l' j = wdAt l j
theorem wdAt_app {l : List Nd} {x : Nd} {j : Nat} (h : j < l.length) : wdAt (l ++ [x]) j = wdAt l j := by
  unfold wdAt; rw [Int.toNat_natCast, ndAt_app h]
theorem wdAt_last (l : List Nd) (x : Nd) : wdAt (l ++ [x]) l.length = x.wd := by
  unfold wdAt; rw [Int.toNat_natCast, ndAt_last]
theorem Mk.fit {l : List Nd} (h : Mk l) {k : Nat} (hk : k < l.length) {wd : Int} (h1 : 1 ≤ wd) (h2 : wd ≤ 256) : Ft l (fitL l k wd).2 (fitL l k wd).1 wd := by
  unfold fitL
  split
  · rename_i e
    exact ⟨h, hk, e, by show l.length ≤ l.length + 1; omega, Nat.le_refl _, fun _ _ => rfl⟩
  · refine ⟨h.add (Nk.mk' ⟨h1, h2⟩ rfl (fun z hz => ?_) (by simp [nodeB, wsOf]) (by simp)), by simp, wdAt_last l _, by simp, by simp, fun j hj => wdAt_app hj⟩
    simp at hz; omega
theorem Mk.wd {l : List Nd} (h : Mk l) {k : Nat} (hk : k < l.length) : 1 ≤ wdAt l k ∧ wdAt l k ≤ 256 := by
  have a := (h.ok k hk).w
  simp [wideB] at a
  unfold wdAt
  rw [Int.toNat_natCast]; exact a
theorem Nk.cst {l : List Nd} {w : Int} {v : List UInt8} (h1 : 1 ≤ w) (h2 : w ≤ 256) (hv : v.all bitB = true) (hl : (v.length : Int) = w) : Nk l l.length ⟨1, 0, w, [], v, 0, 0, 0⟩ := by
  refine Nk.mk' ⟨h1, h2⟩ rfl (fun z hz => by cases hz) ?_ (by simp)
  have e : vec v = true := by unfold vec; rw [hv, Bool.and_true]; exact decide_eq_true ⟨by omega, by omega⟩
  simp [nodeB, wsOf, hl, e]
theorem Nk.bin {l : List Nd} {p q : Nat} {w op : Int} (hp : p < l.length) (hq : q < l.length) (wp : wdAt l p = w) (wq : wdAt l q = w) (h1 : 1 ≤ w) (h2 : w ≤ 256) (o1 : 13 ≤ op) (o2 : op ≤ 26) : Nk l l.length ⟨3, op, binW op w, [(p : Int), (q : Int)], [], 0, 0, 0⟩ := by
  refine Nk.mk' ?_ (by simp [zeroB]) (fun z hz => ?_) ?_ (by simp)
  · show 1 ≤ binW op w ∧ binW op w ≤ 256
    unfold binW; split <;> omega
  · simp at hz; omega
  · simp [nodeB, wsOf, opWs, wn, wp, wq]
    unfold opW binW
    rcases (by omega : op = 13 ∨ op = 14 ∨ op = 15 ∨ op = 16 ∨ op = 17 ∨ op = 18 ∨ op = 19 ∨ op = 20 ∨ op = 21 ∨ op = 22 ∨ op = 23 ∨ op = 24 ∨ op = 25 ∨ op = 26) with rfl | rfl | rfl | rfl | rfl | rfl | rfl | rfl | rfl | rfl | rfl | rfl | rfl | rfl <;> simp
theorem Nk.una {l : List Nd} {a : Nat} {w op : Int} (ha : a < l.length) (o1 : 7 ≤ op) (o2 : op ≤ 12) (hw : (op = 7 ∨ op = 9) ∧ w = wdAt l a ∨ ¬ (op = 7 ∨ op = 9) ∧ w = 1) (hb : 1 ≤ w ∧ w ≤ 256) : Nk l l.length ⟨3, op, w, [(a : Int)], [], 0, 0, 0⟩ := by
  refine Nk.mk' hb (by simp [zeroB]) (fun z hz => ?_) ?_ (by simp)
  · simp at hz; omega
  · simp [nodeB, wsOf, opWs, wn]
    unfold opW
    rcases hw with ⟨h, rfl⟩ | ⟨h, rfl⟩
    · rcases h with rfl | rfl <;> simp
    · rcases (by omega : op = 8 ∨ op = 10 ∨ op = 11 ∨ op = 12) with rfl | rfl | rfl | rfl <;> simp
theorem Nk.cho {l : List Nd} {c p q : Nat} {w : Int} (hc : c < l.length) (hp : p < l.length) (hq : q < l.length) (wp : wdAt l p = w) (wq : wdAt l q = w) (h1 : 1 ≤ w) (h2 : w ≤ 256) : Nk l l.length ⟨4, 0, w, [(c : Int), (p : Int), (q : Int)], [], 0, 0, 0⟩ := by
  refine Nk.mk' ⟨h1, h2⟩ rfl (fun z hz => ?_) ?_ (by simp)
  · simp at hz; omega
  · simp [nodeB, wsOf, wn, wp, wq]
theorem Nk.cnd {l : List Nd} {c p q : Nat} {w : Int} (hc : c < l.length) (hp : p < l.length) (hq : q < l.length) (wp : wdAt l p = w) (wq : wdAt l q = w) (h1 : 1 ≤ w) (h2 : w ≤ 256) : Nk l l.length ⟨3, 6, w, [(c : Int), (p : Int), (q : Int)], [], 0, 0, 0⟩ := by
  refine Nk.mk' ⟨h1, h2⟩ rfl (fun z hz => ?_) ?_ (by simp)
  · simp at hz; omega
  · simp [nodeB, wsOf, opWs, wn, wp, wq, opW]
theorem Nk.sam {l : List Nd} {p q : Nat} {w : Int} (hp : p < l.length) (hq : q < l.length) (wp : wdAt l p = w) (wq : wdAt l q = w) : Nk l l.length ⟨5, 0, 1, [(p : Int), (q : Int)], [], 0, 0, 0⟩ := by
  refine Nk.mk' ⟨by simp, by simp⟩ rfl (fun z hz => ?_) ?_ (by simp)
  · simp at hz; omega
  · simp [nodeB, wsOf, wn, wp, wq]
theorem Nk.flp {l : List Nd} {c p : Nat} {w : Int} (hc : c < l.length) (hp : p < l.length) (wp : wdAt l p = w) (h1 : 1 ≤ w) (h2 : w ≤ 256) : Nk l l.length ⟨7, 0, w, [(c : Int), (p : Int)], [], 0, 0, 0⟩ := by
  refine Nk.mk' ⟨h1, h2⟩ rfl (fun z hz => ?_) ?_ (by simp)
  · simp at hz; omega
  · simp [nodeB, wsOf, wn, wp]
theorem Nk.del {l : List Nd} {p : Nat} {w t : Int} (hp : p < l.length) (wp : wdAt l p = w) (h1 : 1 ≤ w) (h2 : w ≤ 256) (t1 : 1 ≤ t) (t2 : t ≤ 4) : Nk l l.length ⟨8, 0, w, [(p : Int)], [], 0, 0, t⟩ := by
  refine Nk.mk' ⟨h1, h2⟩ rfl (fun z hz => ?_) ?_ (by simp)
  · simp at hz; omega
  · simp [nodeB, wsOf, wn, wp]; omega
theorem Nk.ca1 {l : List Nd} {a : Nat} (ha : a < l.length) (hb : 1 ≤ wdAt l a ∧ wdAt l a ≤ 256) : Nk l l.length ⟨3, 5, wdAt l a, [(a : Int)], [], 0, 0, 0⟩ := by
  refine Nk.mk' hb rfl (fun z hz => ?_) ?_ (by simp)
  · simp at hz; omega
  · simp [nodeB, wsOf, opWs, wn, opW, sumI]
theorem Nk.ca2 {l : List Nd} {a b : Nat} (ha : a < l.length) (hb : b < l.length) (wa : 1 ≤ wdAt l a) (wb : 1 ≤ wdAt l b) (hs : wdAt l a + wdAt l b ≤ 256) : Nk l l.length ⟨3, 5, wdAt l a + wdAt l b, [(a : Int), (b : Int)], [], 0, 0, 0⟩ := by
  refine Nk.mk' ⟨by show 1 ≤ wdAt l a + wdAt l b; omega, hs⟩ rfl (fun z hz => ?_) ?_ (by simp)
  · simp at hz; omega
  · simp [nodeB, wsOf, opWs, wn, opW, sumI]
end Go.Proofs.Ytpdcmehjndhcjaa

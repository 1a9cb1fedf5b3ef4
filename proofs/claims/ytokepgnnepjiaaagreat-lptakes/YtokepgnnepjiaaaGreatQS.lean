/- A process steps to its end; plain facts of LpTakes. -/
import Derived.Test.YtokepgnnepjiaaaGreatQR
import Derived.Test.YtokepgnnepjiaaaGreatQM
import Derived.Deep.CutRange
import Derived.Deep.LoopGhost
namespace Go.Proofs.YtokepgnnepjiaaaGreat
set_option maxRecDepth 100000
open Go.RowKit Lg Nl Go.Maps
set_option linter.unusedVariables false
set_option linter.unusedSimpArgs false

theorem X1.hB {B p q : Nat} {hz d : Int} {v : ByteArray} {l : List Q.Qu.Ev} {pp : Option Addr} {N : Nat} {vq : Value} {W : World} (h : X1 B p q hz d v l pp N vq W) : B ≤ W.heap.size := by
  obtain ⟨F, bN, cN, bE, cE, bP, bT, cT, bI, ia, ic, bV, cV, h, hN⟩ := h
  exact h.hB
set_option maxHeartbeats 2000000 in
theorem ends_c (B p q : Nat) (hz d : Int) (v : ByteArray) (pp : Option Addr) (N : Nat) (vq : Value) (w : World) (h : X1 B p q hz d v [] pp N vq w) (hd : d = -1 ∨ d = 0) (h0 : 0 ≤ hz) (h1 : hz ≤ 1000000) :
    Calls Tryz.prog 11 #[.pointer (some ⟨p, 0, none⟩)] w fun e w' => e = .returned (.tuple #[]) ∧ Hid (∃ v' pp' N' vq', X1 B p q hz 0 v' [] pp' N' vq' w') ∧ Hid (Below B w w') := by
  have HX : Hid (X1 B p q hz d v [] pp N vq w) := h
  have HH : Hid (0 ≤ hz ∧ hz ≤ 1000000) := ⟨h0, h1⟩
  have HD : Hid (d = -1 ∨ d = 0) := hd
  clear h h0 h1 hd
  go_enter Tryz.func11, Tryz.ntmps11
  go_wp2_with fail
  go_loopw [2] (fun s2 W => ∃ (k : Nat) (d' : Int) (v' : ByteArray) (pp' : Option Addr) (N' : Nat) (vq' : Value), s2 = .int .i64 k ∧ Hid ((k = 0 ∧ (d' = -1 ∨ d' = 0)) ∨ (k = 1 ∧ d' = 0)) ∧ Hid (X1 B p q hz d' v' [] pp' N' vq' W) ∧ Hid (Below B w W)) (fun s2 W => 2 - (intOf s2).toNat)
  case atStart => exact ⟨0, d, v, pp, N, vq, rfl, Or.inl ⟨rfl, HD.out⟩, HX.out, belL (Below.refl _ _) HX.out.hB⟩
  case round =>
    obtain ⟨k, d', v', pp', N', vq', rfl, HK, HX', HB⟩ := hrel
    by_cases hd : d' = -1
    · subst hd
      obtain rfl : k = 0 := by rcases HK.out with ⟨a, _⟩ | ⟨_, b⟩; exact a; cases b
      go_wp2_with (first
        | (go_at_call 7; refine (stepX HX'.out (by decide) (fun x hx => by simp at hx) (fun x hx => by simp at hx)).mono ?_; rintro e w3 ⟨rfl, vq3, v3, pp3, ds, rest, HX3, HP3, HB3⟩))
      have hr : rest = [] := by
        have := HP3.out.1.length_eq
        simp at this
        exact List.eq_nil_of_length_eq_zero (by omega)
      subst hr
      have hlt := HX'.out.lt
      go_roundw
      case rel => exact ⟨1, 0, v3, pp3, _, vq3, by go_num, Or.inr ⟨rfl, rfl⟩, HX3.out, belT HB.out (HB3.out.low (S := B) (fun k e => (hlt.2.2.2.2 k e).1) hlt.2.2.1 hlt.2.2.2.1 (Nat.le_refl _) HX'.out.hB)⟩
      case measure => simp [intOf]
    · obtain rfl : d' = 0 := by rcases HK.out with ⟨_, a⟩ | ⟨_, b⟩; exact a.resolve_left hd; exact b
      have hk : (k : Int) < 70 := by rcases HK.out with ⟨a, _⟩ | ⟨a, _⟩ <;> omega
      go_wp2_with (first
        | (go_at_call 7; refine (stepX_none HX'.out rfl (by omega) HH.out.1 HH.out.2).mono ?_; rintro e w3 ⟨rfl, hb3⟩))
      refine bodyPost_ret (v := .tuple #[]) (by simp [results, Tryz.results11, go_sem]) rfl ?_
      exact ⟨rfl, ⟨v', pp', N', vq', HX'.out.below hb3⟩, belT HB.out (belL hb3 HX'.out.hB)⟩
theorem i64_and7 (n : Int) : bits .and .i64 n 7 = n % 8 := by
  have h1 : (BitVec.ofInt 64 7).toNat = 2 ^ 3 - 1 := by decide
  have key : (BitVec.ofInt 64 n &&& BitVec.ofInt 64 7).toNat = (n % ((2 ^ 64 : Nat) : Int)).toNat % 2 ^ 3 := by
    rw [BitVec.toNat_and, BitVec.toNat_ofInt, h1, Nat.and_two_pow_sub_one_eq_mod]
  show IntKind.i64.wrap ((BitVec.ofInt 64 n &&& BitVec.ofInt 64 7).toNat : Nat) = n % 8
  rw [key, IntKind.wrap_i64]
  omega
/-- whether one of the events has that number -/
def tw (hv : List Q.Qu.Ev) (s : Int) : Bool := hv.any fun y => y.sq == s
theorem tw_take (hv : List Q.Qu.Ev) (s : Int) (k : Nat) (hk : k < hv.length) : tw (hv.take (k + 1)) s = (tw (hv.take k) s || ((Q.Qu.g hv k).sq == s)) := by
  unfold tw
  rw [List.take_add_one, List.getElem?_eq_getElem hk, List.any_append, Q.Qu.g_at hk]
  simp
theorem tw_hasK {l hv : List Q.Qu.Ev} (hp : l.Perm hv) (ho : ∀ x ∈ hv, okE x) (s : Int) : Q.hasK l 0 s = tw hv s := by
  unfold Q.hasK tw
  rw [Bool.eq_iff_iff, List.any_eq_true, List.any_eq_true]
  constructor
  · rintro ⟨x, hx, h⟩
    have h' := of_decide_eq_true h
    exact ⟨x, hp.subset hx, by rw [beq_iff_eq]; exact h'.2⟩
  · rintro ⟨x, hx, h⟩
    rw [beq_iff_eq] at h
    exact ⟨x, hp.symm.subset hx, decide_eq_true ⟨(ho x hx).2.1, h⟩⟩
/-- the events that are left behind the time 0 -/
theorem rest_perm {l hv ds rest : List Q.Qu.Ev} (hp : l.Perm hv) (hr : l.Perm (ds ++ rest)) (hd : ∀ y ∈ ds, y.t = 0) (h0 : ∀ y ∈ rest, 0 < y.t) : rest.Perm (hv.filter fun y => decide (0 < y.t)) := by
  have h1 : (ds ++ rest).Perm hv := hr.symm.trans hp
  have h2 := h1.filter (fun y => decide (0 < y.t))
  rw [List.filter_append, List.filter_eq_nil_iff.2 (fun y hy => by have := hd y hy; simp [this]), List.nil_append, List.filter_eq_self.2 (fun y hy => decide_eq_true (h0 y hy))] at h2
  exact h2
end Go.Proofs.YtokepgnnepjiaaaGreat

/- The program's operates: is a node right by its operator? -/
import Derived.Test.YtokepgnnepjiaaaGreatGKa
namespace Go.Proofs.YtokepgnnepjiaaaGreat
set_option maxRecDepth 100000
open Go.RowKit Lg Nl Go.Maps
set_option linter.unusedVariables false
set_option linter.unusedSimpArgs false

def opB (op wd hi lo m sm w0 w1 w2 : Int) : Bool :=
  if op = 7 ∨ op = 9 then (m == 1) && (w0 == wd) else
  if op = 8 ∨ op = 10 ∨ op = 11 ∨ op = 12 then (m == 1) && (wd == 1) else
  if op = 13 ∨ op = 14 ∨ op = 23 ∨ op = 25 ∨ op = 24 then (m == 2) && (w0 == wd) && (w1 == wd) else
  if op = 15 ∨ op = 16 then (m == 2) && (w0 == wd) else
  if op = 17 ∨ op = 18 ∨ op = 19 ∨ op = 20 ∨ op = 21 ∨ op = 22 then (m == 2) && (w0 == w1) && (wd == 1) else
  if op = 26 ∨ op = 27 ∨ op = 3 then (m == 2) && (wd == 1) else
  if op = 6 then (m == 3) && (w1 == wd) && (w2 == wd) else
  if op = 4 then (m == 1) && decide (0 ≤ lo) && decide (lo ≤ hi) && decide (hi < w0) && (wd == wrap64 (wrap64 (hi - lo) + 1)) else
  if op = 5 then decide (0 < m) && (sm == wd) else
  false
theorem belDN' {B : Nat} {w w' : World} (h : Below B w w') (n : Nat) : Below B w (w'.drewN n) := ⟨h.os, h.tape, h.output, h.size, h.block⟩
theorem IntsAt.wn_ {w : World} {v : Value} {ws : List Int} (h : IntsAt w v ws) (hl : 0 < ws.length) : ∃ g o cap, v = .slice (some ⟨g, o, none⟩) ws.length cap ∧ g < w.heap.size ∧ w.cell? ⟨g, o, none⟩ = some (.int .i64 (wn ws 0)) ∧ (1 < ws.length → w.cell? ⟨g, o + 1, none⟩ = some (.int .i64 (wn ws 1))) ∧ (2 < ws.length → w.cell? ⟨g, o + 2, none⟩ = some (.int .i64 (wn ws 2))) := by
  obtain ⟨g, o, cap, rfl⟩ := h.some_ hl
  have e : ∀ i (hi : i < ws.length), wn ws i = ws[i] := fun i hi => by unfold wn; rw [List.getD_eq_getElem?_getD, List.getElem?_eq_getElem hi]; rfl
  refine ⟨g, o, cap, rfl, (h.cell 0 hl).1, ?_, fun h1 => ?_, fun h2 => ?_⟩
  · rw [e 0 hl]; exact (h.cell 0 hl).2
  · rw [e 1 h1]; exact (h.cell 1 h1).2
  · rw [e 2 h2]; exact (h.cell 2 h2).2
set_option maxRecDepth 100000 in
set_option maxHeartbeats 4000000 in
theorem kOperates_c (x : Nd) (ws : List Int) (vi : Value) (ia : Option Addr) (iq ic : Nat) (w : World) (hi : IntsAt w vi ws) (hm : ws.length ≤ 17592186044416) :
    Calls Tryz.prog 103 #[.agg #[.int .i64 x.k, .int .i64 x.op, .int .i64 x.wd, .slice ia iq ic, .string (S x.vl), .int .i64 x.hi, .int .i64 x.lo, .int .i64 x.tm], vi] w fun e w' => e = .returned (.bool (opB x.op x.wd x.hi x.lo ws.length (sumW ws) (wn ws 0) (wn ws 1) (wn ws 2))) ∧ Below w.heap.size w w' := by
  have HSM : Hid (∀ W, Below w.heap.size w W → Calls Tryz.prog 119 #[vi] W fun e w' => e = .returned (.int .i64 (sumW ws)) ∧ w' = W) := fun W hW => kSum_c ws vi W (hi.below hW) hm
  obtain ⟨k, op, wd, ins, vl, hi', lo, tm⟩ := x
  simp only
  obtain ⟨m, hml⟩ : ∃ m, m = ws.length := ⟨_, rfl⟩
  have hv : (m = 0 ∧ ∃ ao cap, vi = .slice ao m cap) ∨ (1 ≤ m ∧ ∃ g o cap, vi = .slice (some ⟨g, o, none⟩) m cap ∧ g < w.heap.size ∧ w.cell? ⟨g, o, none⟩ = some (.int .i64 (wn ws 0)) ∧ (1 < m → w.cell? ⟨g, o + 1, none⟩ = some (.int .i64 (wn ws 1))) ∧ (2 < m → w.cell? ⟨g, o + 2, none⟩ = some (.int .i64 (wn ws 2)))) := by
    rcases Nat.eq_zero_or_pos ws.length with h0 | h0
    · obtain ⟨ao, cap, hv, _⟩ := hi
      exact Or.inl ⟨by omega, ao, cap, by rw [hml]; exact hv⟩
    · obtain ⟨g, o, cap, h⟩ := hi.wn_ h0
      rw [hml]; exact Or.inr ⟨h0, g, o, cap, h⟩
  rw [← hml] at hm ⊢
  obtain ⟨R, hR⟩ : ∃ R, R = opB op wd hi' lo m (sumW ws) (wn ws 0) (wn ws 1) (wn ws 2) := ⟨_, rfl⟩
  rw [← hR]
  have HR : Hid (R = opB op wd hi' lo m (sumW ws) (wn ws 0) (wn ws 1) (wn ws 2)) := hR
  clear hR hi hml
  generalize wn ws 0 = w0 at *
  generalize wn ws 1 = w1 at *
  generalize wn ws 2 = w2 at *
  generalize sumW ws = sm at *
  have HV1 : Hid (∃ ao cap, vi = .slice ao m cap) := by rcases hv with ⟨_, ao, cap, h⟩ | ⟨_, g, o, cap, h, _⟩ <;> exact ⟨_, _, h⟩
  have HV2 : Hid (1 ≤ m → ∃ g o cap, vi = .slice (some ⟨g, o, none⟩) m cap ∧ g < w.heap.size ∧ w.cell? ⟨g, o, none⟩ = some (.int .i64 w0) ∧ (1 < m → w.cell? ⟨g, o + 1, none⟩ = some (.int .i64 w1)) ∧ (2 < m → w.cell? ⟨g, o + 2, none⟩ = some (.int .i64 w2))) := by
    intro hm1
    rcases hv with ⟨h0, _⟩ | ⟨_, h⟩
    · omega
    · exact h
  have mb : (m : Int) ≤ 17592186044416 := by omega
  clear hv hm
  have hops : op = 7 ∨ op = 9 ∨ op = 8 ∨ op = 10 ∨ op = 11 ∨ op = 12 ∨ op = 13 ∨ op = 14 ∨ op = 23 ∨ op = 25 ∨ op = 24 ∨ op = 15 ∨ op = 16 ∨ op = 17 ∨ op = 18 ∨ op = 19 ∨ op = 20 ∨ op = 21 ∨ op = 22 ∨ op = 26 ∨ op = 27 ∨ op = 3 ∨ op = 6 ∨ op = 4 ∨ op = 5 ∨ (op ≠ 7 ∧ op ≠ 9 ∧ op ≠ 8 ∧ op ≠ 10 ∧ op ≠ 11 ∧ op ≠ 12 ∧ op ≠ 13 ∧ op ≠ 14 ∧ op ≠ 23 ∧ op ≠ 25 ∧ op ≠ 24 ∧ op ≠ 15 ∧ op ≠ 16 ∧ op ≠ 17 ∧ op ≠ 18 ∧ op ≠ 19 ∧ op ≠ 20 ∧ op ≠ 21 ∧ op ≠ 22 ∧ op ≠ 26 ∧ op ≠ 27 ∧ op ≠ 3 ∧ op ≠ 6 ∧ op ≠ 4 ∧ op ≠ 5) := by omega
  rcases hops with rfl | rfl | rfl | rfl | rfl | rfl | rfl | rfl | rfl | rfl | rfl | rfl | rfl | rfl | rfl | rfl | rfl | rfl | rfl | rfl | rfl | rfl | rfl | rfl | rfl | hops
  · have P : (((m : Int) == 1) = false) ∨ (((m : Int) == 1) = true) := by cases (((m : Int) == 1)) <;> simp
    have HR2 : Hid (R = (((m : Int) == 1) && (w0 == wd))) := HR.out.trans (by simp [opB])
    clear HR
    rcases P with f0 | f0
    · obtain ⟨ao, cap, rfl⟩ := HV1.out
      go_enter Tryz.func103, Tryz.ntmps103
      go_wp2_with fail
      first
        | (go_ret; exact ⟨ret_bool (by rw [HR2.out]; simp only [f0, Bool.true_and, Bool.false_and]), by first | exact belA (Below.refl _ _) _ | exact belDN' (belA (Below.refl _ _) _) _⟩)
        | (go_quiet (fail)
           go_wp2_with fail
           go_ret
           exact ⟨ret_bool (by rw [HR2.out]; simp only [f0, Bool.true_and, Bool.false_and]), belDN' (belA (Below.refl _ _) _) _⟩)
    · have hmq : m = 1 := by have := f0; simp at this; omega
      obtain ⟨g, o, cap, rfl, gl, y0, y1, y2⟩ := HV2.out (by omega)
      have jp : (0 : Int) < (m : Int) := by omega
      clear hmq y1 y2
      go_enter Tryz.func103, Tryz.ntmps103
      go_wp2_with fail
      first
        | (go_ret; exact ⟨ret_bool (by rw [HR2.out]; simp only [f0, Bool.true_and, Bool.false_and]), by first | exact belA (Below.refl _ _) _ | exact belDN' (belA (Below.refl _ _) _) _⟩)
        | (go_quiet (fail)
           go_wp2_with fail
           go_ret
           exact ⟨ret_bool (by rw [HR2.out]; simp only [f0, Bool.true_and, Bool.false_and]), belDN' (belA (Below.refl _ _) _) _⟩)
  · have P : (((m : Int) == 1) = false) ∨ (((m : Int) == 1) = true) := by cases (((m : Int) == 1)) <;> simp
    have HR2 : Hid (R = (((m : Int) == 1) && (w0 == wd))) := HR.out.trans (by simp [opB])
    clear HR
    rcases P with f0 | f0
    · obtain ⟨ao, cap, rfl⟩ := HV1.out
      go_enter Tryz.func103, Tryz.ntmps103
      go_wp2_with fail
      first
        | (go_ret; exact ⟨ret_bool (by rw [HR2.out]; simp only [f0, Bool.true_and, Bool.false_and]), by first | exact belA (Below.refl _ _) _ | exact belDN' (belA (Below.refl _ _) _) _⟩)
        | (go_quiet (fail)
           go_wp2_with fail
           go_ret
           exact ⟨ret_bool (by rw [HR2.out]; simp only [f0, Bool.true_and, Bool.false_and]), belDN' (belA (Below.refl _ _) _) _⟩)
    · have hmq : m = 1 := by have := f0; simp at this; omega
      obtain ⟨g, o, cap, rfl, gl, y0, y1, y2⟩ := HV2.out (by omega)
      have jp : (0 : Int) < (m : Int) := by omega
      clear hmq y1 y2
      go_enter Tryz.func103, Tryz.ntmps103
      go_wp2_with fail
      first
        | (go_ret; exact ⟨ret_bool (by rw [HR2.out]; simp only [f0, Bool.true_and, Bool.false_and]), by first | exact belA (Below.refl _ _) _ | exact belDN' (belA (Below.refl _ _) _) _⟩)
        | (go_quiet (fail)
           go_wp2_with fail
           go_ret
           exact ⟨ret_bool (by rw [HR2.out]; simp only [f0, Bool.true_and, Bool.false_and]), belDN' (belA (Below.refl _ _) _) _⟩)
  · have P : (((m : Int) == 1) = false) ∨ (((m : Int) == 1) = true) := by cases (((m : Int) == 1)) <;> simp
    have HR2 : Hid (R = (((m : Int) == 1) && (wd == 1))) := HR.out.trans (by simp [opB])
    clear HR
    rcases P with f0 | f0
    · obtain ⟨ao, cap, rfl⟩ := HV1.out
      go_enter Tryz.func103, Tryz.ntmps103
      go_wp2_with fail
      first
        | (go_ret; exact ⟨ret_bool (by rw [HR2.out]; simp only [f0, Bool.true_and, Bool.false_and]), by first | exact belA (Below.refl _ _) _ | exact belDN' (belA (Below.refl _ _) _) _⟩)
        | (go_quiet (fail)
           go_wp2_with fail
           go_ret
           exact ⟨ret_bool (by rw [HR2.out]; simp only [f0, Bool.true_and, Bool.false_and]), belDN' (belA (Below.refl _ _) _) _⟩)
    · have hmq : m = 1 := by have := f0; simp at this; omega
      obtain ⟨g, o, cap, rfl, gl, y0, y1, y2⟩ := HV2.out (by omega)
      have jp : (0 : Int) < (m : Int) := by omega
      clear hmq y1 y2
      go_enter Tryz.func103, Tryz.ntmps103
      go_wp2_with fail
      first
        | (go_ret; exact ⟨ret_bool (by rw [HR2.out]; simp only [f0, Bool.true_and, Bool.false_and]), by first | exact belA (Below.refl _ _) _ | exact belDN' (belA (Below.refl _ _) _) _⟩)
        | (go_quiet (fail)
           go_wp2_with fail
           go_ret
           exact ⟨ret_bool (by rw [HR2.out]; simp only [f0, Bool.true_and, Bool.false_and]), belDN' (belA (Below.refl _ _) _) _⟩)
  · have P : (((m : Int) == 1) = false) ∨ (((m : Int) == 1) = true) := by cases (((m : Int) == 1)) <;> simp
    have HR2 : Hid (R = (((m : Int) == 1) && (wd == 1))) := HR.out.trans (by simp [opB])
    clear HR
    rcases P with f0 | f0
    · obtain ⟨ao, cap, rfl⟩ := HV1.out
      go_enter Tryz.func103, Tryz.ntmps103
      go_wp2_with fail
      first
        | (go_ret; exact ⟨ret_bool (by rw [HR2.out]; simp only [f0, Bool.true_and, Bool.false_and]), by first | exact belA (Below.refl _ _) _ | exact belDN' (belA (Below.refl _ _) _) _⟩)
        | (go_quiet (fail)
           go_wp2_with fail
           go_ret
           exact ⟨ret_bool (by rw [HR2.out]; simp only [f0, Bool.true_and, Bool.false_and]), belDN' (belA (Below.refl _ _) _) _⟩)
    · have hmq : m = 1 := by have := f0; simp at this; omega
      obtain ⟨g, o, cap, rfl, gl, y0, y1, y2⟩ := HV2.out (by omega)
      have jp : (0 : Int) < (m : Int) := by omega
      clear hmq y1 y2
      go_enter Tryz.func103, Tryz.ntmps103
      go_wp2_with fail
      first
        | (go_ret; exact ⟨ret_bool (by rw [HR2.out]; simp only [f0, Bool.true_and, Bool.false_and]), by first | exact belA (Below.refl _ _) _ | exact belDN' (belA (Below.refl _ _) _) _⟩)
        | (go_quiet (fail)
           go_wp2_with fail
           go_ret
           exact ⟨ret_bool (by rw [HR2.out]; simp only [f0, Bool.true_and, Bool.false_and]), belDN' (belA (Below.refl _ _) _) _⟩)
  · have P : (((m : Int) == 1) = false) ∨ (((m : Int) == 1) = true) := by cases (((m : Int) == 1)) <;> simp
    have HR2 : Hid (R = (((m : Int) == 1) && (wd == 1))) := HR.out.trans (by simp [opB])
    clear HR
    rcases P with f0 | f0
    · obtain ⟨ao, cap, rfl⟩ := HV1.out
      go_enter Tryz.func103, Tryz.ntmps103
      go_wp2_with fail
      first
        | (go_ret; exact ⟨ret_bool (by rw [HR2.out]; simp only [f0, Bool.true_and, Bool.false_and]), by first | exact belA (Below.refl _ _) _ | exact belDN' (belA (Below.refl _ _) _) _⟩)
        | (go_quiet (fail)
           go_wp2_with fail
           go_ret
           exact ⟨ret_bool (by rw [HR2.out]; simp only [f0, Bool.true_and, Bool.false_and]), belDN' (belA (Below.refl _ _) _) _⟩)
    · have hmq : m = 1 := by have := f0; simp at this; omega
      obtain ⟨g, o, cap, rfl, gl, y0, y1, y2⟩ := HV2.out (by omega)
      have jp : (0 : Int) < (m : Int) := by omega
      clear hmq y1 y2
      go_enter Tryz.func103, Tryz.ntmps103
      go_wp2_with fail
      first
        | (go_ret; exact ⟨ret_bool (by rw [HR2.out]; simp only [f0, Bool.true_and, Bool.false_and]), by first | exact belA (Below.refl _ _) _ | exact belDN' (belA (Below.refl _ _) _) _⟩)
        | (go_quiet (fail)
           go_wp2_with fail
           go_ret
           exact ⟨ret_bool (by rw [HR2.out]; simp only [f0, Bool.true_and, Bool.false_and]), belDN' (belA (Below.refl _ _) _) _⟩)
  · have P : (((m : Int) == 1) = false) ∨ (((m : Int) == 1) = true) := by cases (((m : Int) == 1)) <;> simp
    have HR2 : Hid (R = (((m : Int) == 1) && (wd == 1))) := HR.out.trans (by simp [opB])
    clear HR
    rcases P with f0 | f0
    · obtain ⟨ao, cap, rfl⟩ := HV1.out
      go_enter Tryz.func103, Tryz.ntmps103
      go_wp2_with fail
      first
        | (go_ret; exact ⟨ret_bool (by rw [HR2.out]; simp only [f0, Bool.true_and, Bool.false_and]), by first | exact belA (Below.refl _ _) _ | exact belDN' (belA (Below.refl _ _) _) _⟩)
        | (go_quiet (fail)
           go_wp2_with fail
           go_ret
           exact ⟨ret_bool (by rw [HR2.out]; simp only [f0, Bool.true_and, Bool.false_and]), belDN' (belA (Below.refl _ _) _) _⟩)
    · have hmq : m = 1 := by have := f0; simp at this; omega
      obtain ⟨g, o, cap, rfl, gl, y0, y1, y2⟩ := HV2.out (by omega)
      have jp : (0 : Int) < (m : Int) := by omega
      clear hmq y1 y2
      go_enter Tryz.func103, Tryz.ntmps103
      go_wp2_with fail
      first
        | (go_ret; exact ⟨ret_bool (by rw [HR2.out]; simp only [f0, Bool.true_and, Bool.false_and]), by first | exact belA (Below.refl _ _) _ | exact belDN' (belA (Below.refl _ _) _) _⟩)
        | (go_quiet (fail)
           go_wp2_with fail
           go_ret
           exact ⟨ret_bool (by rw [HR2.out]; simp only [f0, Bool.true_and, Bool.false_and]), belDN' (belA (Below.refl _ _) _) _⟩)
  · have P : (((m : Int) == 2) = false) ∨ (((m : Int) == 2) = true ∧ (w0 == wd) = false) ∨ (((m : Int) == 2) = true ∧ (w0 == wd) = true) := by cases (((m : Int) == 2)) <;> cases ((w0 == wd)) <;> simp
    have HR2 : Hid (R = (((m : Int) == 2) && (w0 == wd) && (w1 == wd))) := HR.out.trans (by simp [opB])
    clear HR
    rcases P with f0 | ⟨f0, f1⟩ | ⟨f0, f1⟩
    · obtain ⟨ao, cap, rfl⟩ := HV1.out
      go_enter Tryz.func103, Tryz.ntmps103
      go_wp2_with fail
      first
        | (go_ret; exact ⟨ret_bool (by rw [HR2.out]; simp only [f0, Bool.true_and, Bool.false_and]), by first | exact belA (Below.refl _ _) _ | exact belDN' (belA (Below.refl _ _) _) _⟩)
        | (go_quiet (fail)
           go_wp2_with fail
           go_ret
           exact ⟨ret_bool (by rw [HR2.out]; simp only [f0, Bool.true_and, Bool.false_and]), belDN' (belA (Below.refl _ _) _) _⟩)
    · have hmq : m = 2 := by have := f0; simp at this; omega
      obtain ⟨g, o, cap, rfl, gl, y0, y1, y2⟩ := HV2.out (by omega)
      have jp : (0 : Int) < (m : Int) := by omega
      have y1' := y1 (by omega)
      have jq : (1 : Int) < (m : Int) := by omega
      clear hmq y1 y2
      go_enter Tryz.func103, Tryz.ntmps103
      go_wp2_with fail
      first
        | (go_ret; exact ⟨ret_bool (by rw [HR2.out]; simp only [f0, f1, Bool.true_and, Bool.false_and]), by first | exact belA (Below.refl _ _) _ | exact belDN' (belA (Below.refl _ _) _) _⟩)
        | (go_quiet (fail)
           go_wp2_with fail
           go_ret
           exact ⟨ret_bool (by rw [HR2.out]; simp only [f0, f1, Bool.true_and, Bool.false_and]), belDN' (belA (Below.refl _ _) _) _⟩)
    · have hmq : m = 2 := by have := f0; simp at this; omega
      obtain ⟨g, o, cap, rfl, gl, y0, y1, y2⟩ := HV2.out (by omega)
      have jp : (0 : Int) < (m : Int) := by omega
      have y1' := y1 (by omega)
      have jq : (1 : Int) < (m : Int) := by omega
      clear hmq y1 y2
      go_enter Tryz.func103, Tryz.ntmps103
      go_wp2_with fail
      first
        | (go_ret; exact ⟨ret_bool (by rw [HR2.out]; simp only [f0, f1, Bool.true_and, Bool.false_and]), by first | exact belA (Below.refl _ _) _ | exact belDN' (belA (Below.refl _ _) _) _⟩)
        | (go_quiet (fail)
           go_wp2_with fail
           go_ret
           exact ⟨ret_bool (by rw [HR2.out]; simp only [f0, f1, Bool.true_and, Bool.false_and]), belDN' (belA (Below.refl _ _) _) _⟩)
  · have P : (((m : Int) == 2) = false) ∨ (((m : Int) == 2) = true ∧ (w0 == wd) = false) ∨ (((m : Int) == 2) = true ∧ (w0 == wd) = true) := by cases (((m : Int) == 2)) <;> cases ((w0 == wd)) <;> simp
    have HR2 : Hid (R = (((m : Int) == 2) && (w0 == wd) && (w1 == wd))) := HR.out.trans (by simp [opB])
    clear HR
    rcases P with f0 | ⟨f0, f1⟩ | ⟨f0, f1⟩
    · obtain ⟨ao, cap, rfl⟩ := HV1.out
      go_enter Tryz.func103, Tryz.ntmps103
      go_wp2_with fail
      first
        | (go_ret; exact ⟨ret_bool (by rw [HR2.out]; simp only [f0, Bool.true_and, Bool.false_and]), by first | exact belA (Below.refl _ _) _ | exact belDN' (belA (Below.refl _ _) _) _⟩)
        | (go_quiet (fail)
           go_wp2_with fail
           go_ret
           exact ⟨ret_bool (by rw [HR2.out]; simp only [f0, Bool.true_and, Bool.false_and]), belDN' (belA (Below.refl _ _) _) _⟩)
    · have hmq : m = 2 := by have := f0; simp at this; omega
      obtain ⟨g, o, cap, rfl, gl, y0, y1, y2⟩ := HV2.out (by omega)
      have jp : (0 : Int) < (m : Int) := by omega
      have y1' := y1 (by omega)
      have jq : (1 : Int) < (m : Int) := by omega
      clear hmq y1 y2
      go_enter Tryz.func103, Tryz.ntmps103
      go_wp2_with fail
      first
        | (go_ret; exact ⟨ret_bool (by rw [HR2.out]; simp only [f0, f1, Bool.true_and, Bool.false_and]), by first | exact belA (Below.refl _ _) _ | exact belDN' (belA (Below.refl _ _) _) _⟩)
        | (go_quiet (fail)
           go_wp2_with fail
           go_ret
           exact ⟨ret_bool (by rw [HR2.out]; simp only [f0, f1, Bool.true_and, Bool.false_and]), belDN' (belA (Below.refl _ _) _) _⟩)
    · have hmq : m = 2 := by have := f0; simp at this; omega
      obtain ⟨g, o, cap, rfl, gl, y0, y1, y2⟩ := HV2.out (by omega)
      have jp : (0 : Int) < (m : Int) := by omega
      have y1' := y1 (by omega)
      have jq : (1 : Int) < (m : Int) := by omega
      clear hmq y1 y2
      go_enter Tryz.func103, Tryz.ntmps103
      go_wp2_with fail
      first
        | (go_ret; exact ⟨ret_bool (by rw [HR2.out]; simp only [f0, f1, Bool.true_and, Bool.false_and]), by first | exact belA (Below.refl _ _) _ | exact belDN' (belA (Below.refl _ _) _) _⟩)
        | (go_quiet (fail)
           go_wp2_with fail
           go_ret
           exact ⟨ret_bool (by rw [HR2.out]; simp only [f0, f1, Bool.true_and, Bool.false_and]), belDN' (belA (Below.refl _ _) _) _⟩)
  · have P : (((m : Int) == 2) = false) ∨ (((m : Int) == 2) = true ∧ (w0 == wd) = false) ∨ (((m : Int) == 2) = true ∧ (w0 == wd) = true) := by cases (((m : Int) == 2)) <;> cases ((w0 == wd)) <;> simp
    have HR2 : Hid (R = (((m : Int) == 2) && (w0 == wd) && (w1 == wd))) := HR.out.trans (by simp [opB])
    clear HR
    rcases P with f0 | ⟨f0, f1⟩ | ⟨f0, f1⟩
    · obtain ⟨ao, cap, rfl⟩ := HV1.out
      go_enter Tryz.func103, Tryz.ntmps103
      go_wp2_with fail
      first
        | (go_ret; exact ⟨ret_bool (by rw [HR2.out]; simp only [f0, Bool.true_and, Bool.false_and]), by first | exact belA (Below.refl _ _) _ | exact belDN' (belA (Below.refl _ _) _) _⟩)
        | (go_quiet (fail)
           go_wp2_with fail
           go_ret
           exact ⟨ret_bool (by rw [HR2.out]; simp only [f0, Bool.true_and, Bool.false_and]), belDN' (belA (Below.refl _ _) _) _⟩)
    · have hmq : m = 2 := by have := f0; simp at this; omega
      obtain ⟨g, o, cap, rfl, gl, y0, y1, y2⟩ := HV2.out (by omega)
      have jp : (0 : Int) < (m : Int) := by omega
      have y1' := y1 (by omega)
      have jq : (1 : Int) < (m : Int) := by omega
      clear hmq y1 y2
      go_enter Tryz.func103, Tryz.ntmps103
      go_wp2_with fail
      first
        | (go_ret; exact ⟨ret_bool (by rw [HR2.out]; simp only [f0, f1, Bool.true_and, Bool.false_and]), by first | exact belA (Below.refl _ _) _ | exact belDN' (belA (Below.refl _ _) _) _⟩)
        | (go_quiet (fail)
           go_wp2_with fail
           go_ret
           exact ⟨ret_bool (by rw [HR2.out]; simp only [f0, f1, Bool.true_and, Bool.false_and]), belDN' (belA (Below.refl _ _) _) _⟩)
    · have hmq : m = 2 := by have := f0; simp at this; omega
      obtain ⟨g, o, cap, rfl, gl, y0, y1, y2⟩ := HV2.out (by omega)
      have jp : (0 : Int) < (m : Int) := by omega
      have y1' := y1 (by omega)
      have jq : (1 : Int) < (m : Int) := by omega
      clear hmq y1 y2
      go_enter Tryz.func103, Tryz.ntmps103
      go_wp2_with fail
      first
        | (go_ret; exact ⟨ret_bool (by rw [HR2.out]; simp only [f0, f1, Bool.true_and, Bool.false_and]), by first | exact belA (Below.refl _ _) _ | exact belDN' (belA (Below.refl _ _) _) _⟩)
        | (go_quiet (fail)
           go_wp2_with fail
           go_ret
           exact ⟨ret_bool (by rw [HR2.out]; simp only [f0, f1, Bool.true_and, Bool.false_and]), belDN' (belA (Below.refl _ _) _) _⟩)
  · have P : (((m : Int) == 2) = false) ∨ (((m : Int) == 2) = true ∧ (w0 == wd) = false) ∨ (((m : Int) == 2) = true ∧ (w0 == wd) = true) := by cases (((m : Int) == 2)) <;> cases ((w0 == wd)) <;> simp
    have HR2 : Hid (R = (((m : Int) == 2) && (w0 == wd) && (w1 == wd))) := HR.out.trans (by simp [opB])
    clear HR
    rcases P with f0 | ⟨f0, f1⟩ | ⟨f0, f1⟩
    · obtain ⟨ao, cap, rfl⟩ := HV1.out
      go_enter Tryz.func103, Tryz.ntmps103
      go_wp2_with fail
      first
        | (go_ret; exact ⟨ret_bool (by rw [HR2.out]; simp only [f0, Bool.true_and, Bool.false_and]), by first | exact belA (Below.refl _ _) _ | exact belDN' (belA (Below.refl _ _) _) _⟩)
        | (go_quiet (fail)
           go_wp2_with fail
           go_ret
           exact ⟨ret_bool (by rw [HR2.out]; simp only [f0, Bool.true_and, Bool.false_and]), belDN' (belA (Below.refl _ _) _) _⟩)
    · have hmq : m = 2 := by have := f0; simp at this; omega
      obtain ⟨g, o, cap, rfl, gl, y0, y1, y2⟩ := HV2.out (by omega)
      have jp : (0 : Int) < (m : Int) := by omega
      have y1' := y1 (by omega)
      have jq : (1 : Int) < (m : Int) := by omega
      clear hmq y1 y2
      go_enter Tryz.func103, Tryz.ntmps103
      go_wp2_with fail
      first
        | (go_ret; exact ⟨ret_bool (by rw [HR2.out]; simp only [f0, f1, Bool.true_and, Bool.false_and]), by first | exact belA (Below.refl _ _) _ | exact belDN' (belA (Below.refl _ _) _) _⟩)
        | (go_quiet (fail)
           go_wp2_with fail
           go_ret
           exact ⟨ret_bool (by rw [HR2.out]; simp only [f0, f1, Bool.true_and, Bool.false_and]), belDN' (belA (Below.refl _ _) _) _⟩)
    · have hmq : m = 2 := by have := f0; simp at this; omega
      obtain ⟨g, o, cap, rfl, gl, y0, y1, y2⟩ := HV2.out (by omega)
      have jp : (0 : Int) < (m : Int) := by omega
      have y1' := y1 (by omega)
      have jq : (1 : Int) < (m : Int) := by omega
      clear hmq y1 y2
      go_enter Tryz.func103, Tryz.ntmps103
      go_wp2_with fail
      first
        | (go_ret; exact ⟨ret_bool (by rw [HR2.out]; simp only [f0, f1, Bool.true_and, Bool.false_and]), by first | exact belA (Below.refl _ _) _ | exact belDN' (belA (Below.refl _ _) _) _⟩)
        | (go_quiet (fail)
           go_wp2_with fail
           go_ret
           exact ⟨ret_bool (by rw [HR2.out]; simp only [f0, f1, Bool.true_and, Bool.false_and]), belDN' (belA (Below.refl _ _) _) _⟩)
  · have P : (((m : Int) == 2) = false) ∨ (((m : Int) == 2) = true ∧ (w0 == wd) = false) ∨ (((m : Int) == 2) = true ∧ (w0 == wd) = true) := by cases (((m : Int) == 2)) <;> cases ((w0 == wd)) <;> simp
    have HR2 : Hid (R = (((m : Int) == 2) && (w0 == wd) && (w1 == wd))) := HR.out.trans (by simp [opB])
    clear HR
    rcases P with f0 | ⟨f0, f1⟩ | ⟨f0, f1⟩
    · obtain ⟨ao, cap, rfl⟩ := HV1.out
      go_enter Tryz.func103, Tryz.ntmps103
      go_wp2_with fail
      first
        | (go_ret; exact ⟨ret_bool (by rw [HR2.out]; simp only [f0, Bool.true_and, Bool.false_and]), by first | exact belA (Below.refl _ _) _ | exact belDN' (belA (Below.refl _ _) _) _⟩)
        | (go_quiet (fail)
           go_wp2_with fail
           go_ret
           exact ⟨ret_bool (by rw [HR2.out]; simp only [f0, Bool.true_and, Bool.false_and]), belDN' (belA (Below.refl _ _) _) _⟩)
    · have hmq : m = 2 := by have := f0; simp at this; omega
      obtain ⟨g, o, cap, rfl, gl, y0, y1, y2⟩ := HV2.out (by omega)
      have jp : (0 : Int) < (m : Int) := by omega
      have y1' := y1 (by omega)
      have jq : (1 : Int) < (m : Int) := by omega
      clear hmq y1 y2
      go_enter Tryz.func103, Tryz.ntmps103
      go_wp2_with fail
      first
        | (go_ret; exact ⟨ret_bool (by rw [HR2.out]; simp only [f0, f1, Bool.true_and, Bool.false_and]), by first | exact belA (Below.refl _ _) _ | exact belDN' (belA (Below.refl _ _) _) _⟩)
        | (go_quiet (fail)
           go_wp2_with fail
           go_ret
           exact ⟨ret_bool (by rw [HR2.out]; simp only [f0, f1, Bool.true_and, Bool.false_and]), belDN' (belA (Below.refl _ _) _) _⟩)
    · have hmq : m = 2 := by have := f0; simp at this; omega
      obtain ⟨g, o, cap, rfl, gl, y0, y1, y2⟩ := HV2.out (by omega)
      have jp : (0 : Int) < (m : Int) := by omega
      have y1' := y1 (by omega)
      have jq : (1 : Int) < (m : Int) := by omega
      clear hmq y1 y2
      go_enter Tryz.func103, Tryz.ntmps103
      go_wp2_with fail
      first
        | (go_ret; exact ⟨ret_bool (by rw [HR2.out]; simp only [f0, f1, Bool.true_and, Bool.false_and]), by first | exact belA (Below.refl _ _) _ | exact belDN' (belA (Below.refl _ _) _) _⟩)
        | (go_quiet (fail)
           go_wp2_with fail
           go_ret
           exact ⟨ret_bool (by rw [HR2.out]; simp only [f0, f1, Bool.true_and, Bool.false_and]), belDN' (belA (Below.refl _ _) _) _⟩)
  · have P : (((m : Int) == 2) = false) ∨ (((m : Int) == 2) = true) := by cases (((m : Int) == 2)) <;> simp
    have HR2 : Hid (R = (((m : Int) == 2) && (w0 == wd))) := HR.out.trans (by simp [opB])
    clear HR
    rcases P with f0 | f0
    · obtain ⟨ao, cap, rfl⟩ := HV1.out
      go_enter Tryz.func103, Tryz.ntmps103
      go_wp2_with fail
      first
        | (go_ret; exact ⟨ret_bool (by rw [HR2.out]; simp only [f0, Bool.true_and, Bool.false_and]), by first | exact belA (Below.refl _ _) _ | exact belDN' (belA (Below.refl _ _) _) _⟩)
        | (go_quiet (fail)
           go_wp2_with fail
           go_ret
           exact ⟨ret_bool (by rw [HR2.out]; simp only [f0, Bool.true_and, Bool.false_and]), belDN' (belA (Below.refl _ _) _) _⟩)
    · have hmq : m = 2 := by have := f0; simp at this; omega
      obtain ⟨g, o, cap, rfl, gl, y0, y1, y2⟩ := HV2.out (by omega)
      have jp : (0 : Int) < (m : Int) := by omega
      have y1' := y1 (by omega)
      have jq : (1 : Int) < (m : Int) := by omega
      clear hmq y1 y2
      go_enter Tryz.func103, Tryz.ntmps103
      go_wp2_with fail
      first
        | (go_ret; exact ⟨ret_bool (by rw [HR2.out]; simp only [f0, Bool.true_and, Bool.false_and]), by first | exact belA (Below.refl _ _) _ | exact belDN' (belA (Below.refl _ _) _) _⟩)
        | (go_quiet (fail)
           go_wp2_with fail
           go_ret
           exact ⟨ret_bool (by rw [HR2.out]; simp only [f0, Bool.true_and, Bool.false_and]), belDN' (belA (Below.refl _ _) _) _⟩)
  · have P : (((m : Int) == 2) = false) ∨ (((m : Int) == 2) = true) := by cases (((m : Int) == 2)) <;> simp
    have HR2 : Hid (R = (((m : Int) == 2) && (w0 == wd))) := HR.out.trans (by simp [opB])
    clear HR
    rcases P with f0 | f0
    · obtain ⟨ao, cap, rfl⟩ := HV1.out
      go_enter Tryz.func103, Tryz.ntmps103
      go_wp2_with fail
      first
        | (go_ret; exact ⟨ret_bool (by rw [HR2.out]; simp only [f0, Bool.true_and, Bool.false_and]), by first | exact belA (Below.refl _ _) _ | exact belDN' (belA (Below.refl _ _) _) _⟩)
        | (go_quiet (fail)
           go_wp2_with fail
           go_ret
           exact ⟨ret_bool (by rw [HR2.out]; simp only [f0, Bool.true_and, Bool.false_and]), belDN' (belA (Below.refl _ _) _) _⟩)
    · have hmq : m = 2 := by have := f0; simp at this; omega
      obtain ⟨g, o, cap, rfl, gl, y0, y1, y2⟩ := HV2.out (by omega)
      have jp : (0 : Int) < (m : Int) := by omega
      have y1' := y1 (by omega)
      have jq : (1 : Int) < (m : Int) := by omega
      clear hmq y1 y2
      go_enter Tryz.func103, Tryz.ntmps103
      go_wp2_with fail
      first
        | (go_ret; exact ⟨ret_bool (by rw [HR2.out]; simp only [f0, Bool.true_and, Bool.false_and]), by first | exact belA (Below.refl _ _) _ | exact belDN' (belA (Below.refl _ _) _) _⟩)
        | (go_quiet (fail)
           go_wp2_with fail
           go_ret
           exact ⟨ret_bool (by rw [HR2.out]; simp only [f0, Bool.true_and, Bool.false_and]), belDN' (belA (Below.refl _ _) _) _⟩)
  · have P : (((m : Int) == 2) = false) ∨ (((m : Int) == 2) = true ∧ (w0 == w1) = false) ∨ (((m : Int) == 2) = true ∧ (w0 == w1) = true) := by cases (((m : Int) == 2)) <;> cases ((w0 == w1)) <;> simp
    have HR2 : Hid (R = (((m : Int) == 2) && (w0 == w1) && (wd == 1))) := HR.out.trans (by simp [opB])
    clear HR
    rcases P with f0 | ⟨f0, f1⟩ | ⟨f0, f1⟩
    · obtain ⟨ao, cap, rfl⟩ := HV1.out
      go_enter Tryz.func103, Tryz.ntmps103
      go_wp2_with fail
      first
        | (go_ret; exact ⟨ret_bool (by rw [HR2.out]; simp only [f0, Bool.true_and, Bool.false_and]), by first | exact belA (Below.refl _ _) _ | exact belDN' (belA (Below.refl _ _) _) _⟩)
        | (go_quiet (fail)
           go_wp2_with fail
           go_ret
           exact ⟨ret_bool (by rw [HR2.out]; simp only [f0, Bool.true_and, Bool.false_and]), belDN' (belA (Below.refl _ _) _) _⟩)
    · have hmq : m = 2 := by have := f0; simp at this; omega
      obtain ⟨g, o, cap, rfl, gl, y0, y1, y2⟩ := HV2.out (by omega)
      have jp : (0 : Int) < (m : Int) := by omega
      have y1' := y1 (by omega)
      have jq : (1 : Int) < (m : Int) := by omega
      clear hmq y1 y2
      go_enter Tryz.func103, Tryz.ntmps103
      go_wp2_with fail
      first
        | (go_ret; exact ⟨ret_bool (by rw [HR2.out]; simp only [f0, f1, Bool.true_and, Bool.false_and]), by first | exact belA (Below.refl _ _) _ | exact belDN' (belA (Below.refl _ _) _) _⟩)
        | (go_quiet (fail)
           go_wp2_with fail
           go_ret
           exact ⟨ret_bool (by rw [HR2.out]; simp only [f0, f1, Bool.true_and, Bool.false_and]), belDN' (belA (Below.refl _ _) _) _⟩)
    · have hmq : m = 2 := by have := f0; simp at this; omega
      obtain ⟨g, o, cap, rfl, gl, y0, y1, y2⟩ := HV2.out (by omega)
      have jp : (0 : Int) < (m : Int) := by omega
      have y1' := y1 (by omega)
      have jq : (1 : Int) < (m : Int) := by omega
      clear hmq y1 y2
      go_enter Tryz.func103, Tryz.ntmps103
      go_wp2_with fail
      first
        | (go_ret; exact ⟨ret_bool (by rw [HR2.out]; simp only [f0, f1, Bool.true_and, Bool.false_and]), by first | exact belA (Below.refl _ _) _ | exact belDN' (belA (Below.refl _ _) _) _⟩)
        | (go_quiet (fail)
           go_wp2_with fail
           go_ret
           exact ⟨ret_bool (by rw [HR2.out]; simp only [f0, f1, Bool.true_and, Bool.false_and]), belDN' (belA (Below.refl _ _) _) _⟩)
  · have P : (((m : Int) == 2) = false) ∨ (((m : Int) == 2) = true ∧ (w0 == w1) = false) ∨ (((m : Int) == 2) = true ∧ (w0 == w1) = true) := by cases (((m : Int) == 2)) <;> cases ((w0 == w1)) <;> simp
    have HR2 : Hid (R = (((m : Int) == 2) && (w0 == w1) && (wd == 1))) := HR.out.trans (by simp [opB])
    clear HR
    rcases P with f0 | ⟨f0, f1⟩ | ⟨f0, f1⟩
    · obtain ⟨ao, cap, rfl⟩ := HV1.out
      go_enter Tryz.func103, Tryz.ntmps103
      go_wp2_with fail
      first
        | (go_ret; exact ⟨ret_bool (by rw [HR2.out]; simp only [f0, Bool.true_and, Bool.false_and]), by first | exact belA (Below.refl _ _) _ | exact belDN' (belA (Below.refl _ _) _) _⟩)
        | (go_quiet (fail)
           go_wp2_with fail
           go_ret
           exact ⟨ret_bool (by rw [HR2.out]; simp only [f0, Bool.true_and, Bool.false_and]), belDN' (belA (Below.refl _ _) _) _⟩)
    · have hmq : m = 2 := by have := f0; simp at this; omega
      obtain ⟨g, o, cap, rfl, gl, y0, y1, y2⟩ := HV2.out (by omega)
      have jp : (0 : Int) < (m : Int) := by omega
      have y1' := y1 (by omega)
      have jq : (1 : Int) < (m : Int) := by omega
      clear hmq y1 y2
      go_enter Tryz.func103, Tryz.ntmps103
      go_wp2_with fail
      first
        | (go_ret; exact ⟨ret_bool (by rw [HR2.out]; simp only [f0, f1, Bool.true_and, Bool.false_and]), by first | exact belA (Below.refl _ _) _ | exact belDN' (belA (Below.refl _ _) _) _⟩)
        | (go_quiet (fail)
           go_wp2_with fail
           go_ret
           exact ⟨ret_bool (by rw [HR2.out]; simp only [f0, f1, Bool.true_and, Bool.false_and]), belDN' (belA (Below.refl _ _) _) _⟩)
    · have hmq : m = 2 := by have := f0; simp at this; omega
      obtain ⟨g, o, cap, rfl, gl, y0, y1, y2⟩ := HV2.out (by omega)
      have jp : (0 : Int) < (m : Int) := by omega
      have y1' := y1 (by omega)
      have jq : (1 : Int) < (m : Int) := by omega
      clear hmq y1 y2
      go_enter Tryz.func103, Tryz.ntmps103
      go_wp2_with fail
      first
        | (go_ret; exact ⟨ret_bool (by rw [HR2.out]; simp only [f0, f1, Bool.true_and, Bool.false_and]), by first | exact belA (Below.refl _ _) _ | exact belDN' (belA (Below.refl _ _) _) _⟩)
        | (go_quiet (fail)
           go_wp2_with fail
           go_ret
           exact ⟨ret_bool (by rw [HR2.out]; simp only [f0, f1, Bool.true_and, Bool.false_and]), belDN' (belA (Below.refl _ _) _) _⟩)
  · have P : (((m : Int) == 2) = false) ∨ (((m : Int) == 2) = true ∧ (w0 == w1) = false) ∨ (((m : Int) == 2) = true ∧ (w0 == w1) = true) := by cases (((m : Int) == 2)) <;> cases ((w0 == w1)) <;> simp
    have HR2 : Hid (R = (((m : Int) == 2) && (w0 == w1) && (wd == 1))) := HR.out.trans (by simp [opB])
    clear HR
    rcases P with f0 | ⟨f0, f1⟩ | ⟨f0, f1⟩
    · obtain ⟨ao, cap, rfl⟩ := HV1.out
      go_enter Tryz.func103, Tryz.ntmps103
      go_wp2_with fail
      first
        | (go_ret; exact ⟨ret_bool (by rw [HR2.out]; simp only [f0, Bool.true_and, Bool.false_and]), by first | exact belA (Below.refl _ _) _ | exact belDN' (belA (Below.refl _ _) _) _⟩)
        | (go_quiet (fail)
           go_wp2_with fail
           go_ret
           exact ⟨ret_bool (by rw [HR2.out]; simp only [f0, Bool.true_and, Bool.false_and]), belDN' (belA (Below.refl _ _) _) _⟩)
    · have hmq : m = 2 := by have := f0; simp at this; omega
      obtain ⟨g, o, cap, rfl, gl, y0, y1, y2⟩ := HV2.out (by omega)
      have jp : (0 : Int) < (m : Int) := by omega
      have y1' := y1 (by omega)
      have jq : (1 : Int) < (m : Int) := by omega
      clear hmq y1 y2
      go_enter Tryz.func103, Tryz.ntmps103
      go_wp2_with fail
      first
        | (go_ret; exact ⟨ret_bool (by rw [HR2.out]; simp only [f0, f1, Bool.true_and, Bool.false_and]), by first | exact belA (Below.refl _ _) _ | exact belDN' (belA (Below.refl _ _) _) _⟩)
        | (go_quiet (fail)
           go_wp2_with fail
           go_ret
           exact ⟨ret_bool (by rw [HR2.out]; simp only [f0, f1, Bool.true_and, Bool.false_and]), belDN' (belA (Below.refl _ _) _) _⟩)
    · have hmq : m = 2 := by have := f0; simp at this; omega
      obtain ⟨g, o, cap, rfl, gl, y0, y1, y2⟩ := HV2.out (by omega)
      have jp : (0 : Int) < (m : Int) := by omega
      have y1' := y1 (by omega)
      have jq : (1 : Int) < (m : Int) := by omega
      clear hmq y1 y2
      go_enter Tryz.func103, Tryz.ntmps103
      go_wp2_with fail
      first
        | (go_ret; exact ⟨ret_bool (by rw [HR2.out]; simp only [f0, f1, Bool.true_and, Bool.false_and]), by first | exact belA (Below.refl _ _) _ | exact belDN' (belA (Below.refl _ _) _) _⟩)
        | (go_quiet (fail)
           go_wp2_with fail
           go_ret
           exact ⟨ret_bool (by rw [HR2.out]; simp only [f0, f1, Bool.true_and, Bool.false_and]), belDN' (belA (Below.refl _ _) _) _⟩)
  · have P : (((m : Int) == 2) = false) ∨ (((m : Int) == 2) = true ∧ (w0 == w1) = false) ∨ (((m : Int) == 2) = true ∧ (w0 == w1) = true) := by cases (((m : Int) == 2)) <;> cases ((w0 == w1)) <;> simp
    have HR2 : Hid (R = (((m : Int) == 2) && (w0 == w1) && (wd == 1))) := HR.out.trans (by simp [opB])
    clear HR
    rcases P with f0 | ⟨f0, f1⟩ | ⟨f0, f1⟩
    · obtain ⟨ao, cap, rfl⟩ := HV1.out
      go_enter Tryz.func103, Tryz.ntmps103
      go_wp2_with fail
      first
        | (go_ret; exact ⟨ret_bool (by rw [HR2.out]; simp only [f0, Bool.true_and, Bool.false_and]), by first | exact belA (Below.refl _ _) _ | exact belDN' (belA (Below.refl _ _) _) _⟩)
        | (go_quiet (fail)
           go_wp2_with fail
           go_ret
           exact ⟨ret_bool (by rw [HR2.out]; simp only [f0, Bool.true_and, Bool.false_and]), belDN' (belA (Below.refl _ _) _) _⟩)
    · have hmq : m = 2 := by have := f0; simp at this; omega
      obtain ⟨g, o, cap, rfl, gl, y0, y1, y2⟩ := HV2.out (by omega)
      have jp : (0 : Int) < (m : Int) := by omega
      have y1' := y1 (by omega)
      have jq : (1 : Int) < (m : Int) := by omega
      clear hmq y1 y2
      go_enter Tryz.func103, Tryz.ntmps103
      go_wp2_with fail
      first
        | (go_ret; exact ⟨ret_bool (by rw [HR2.out]; simp only [f0, f1, Bool.true_and, Bool.false_and]), by first | exact belA (Below.refl _ _) _ | exact belDN' (belA (Below.refl _ _) _) _⟩)
        | (go_quiet (fail)
           go_wp2_with fail
           go_ret
           exact ⟨ret_bool (by rw [HR2.out]; simp only [f0, f1, Bool.true_and, Bool.false_and]), belDN' (belA (Below.refl _ _) _) _⟩)
    · have hmq : m = 2 := by have := f0; simp at this; omega
      obtain ⟨g, o, cap, rfl, gl, y0, y1, y2⟩ := HV2.out (by omega)
      have jp : (0 : Int) < (m : Int) := by omega
      have y1' := y1 (by omega)
      have jq : (1 : Int) < (m : Int) := by omega
      clear hmq y1 y2
      go_enter Tryz.func103, Tryz.ntmps103
      go_wp2_with fail
      first
        | (go_ret; exact ⟨ret_bool (by rw [HR2.out]; simp only [f0, f1, Bool.true_and, Bool.false_and]), by first | exact belA (Below.refl _ _) _ | exact belDN' (belA (Below.refl _ _) _) _⟩)
        | (go_quiet (fail)
           go_wp2_with fail
           go_ret
           exact ⟨ret_bool (by rw [HR2.out]; simp only [f0, f1, Bool.true_and, Bool.false_and]), belDN' (belA (Below.refl _ _) _) _⟩)
  · have P : (((m : Int) == 2) = false) ∨ (((m : Int) == 2) = true ∧ (w0 == w1) = false) ∨ (((m : Int) == 2) = true ∧ (w0 == w1) = true) := by cases (((m : Int) == 2)) <;> cases ((w0 == w1)) <;> simp
    have HR2 : Hid (R = (((m : Int) == 2) && (w0 == w1) && (wd == 1))) := HR.out.trans (by simp [opB])
    clear HR
    rcases P with f0 | ⟨f0, f1⟩ | ⟨f0, f1⟩
    · obtain ⟨ao, cap, rfl⟩ := HV1.out
      go_enter Tryz.func103, Tryz.ntmps103
      go_wp2_with fail
      first
        | (go_ret; exact ⟨ret_bool (by rw [HR2.out]; simp only [f0, Bool.true_and, Bool.false_and]), by first | exact belA (Below.refl _ _) _ | exact belDN' (belA (Below.refl _ _) _) _⟩)
        | (go_quiet (fail)
           go_wp2_with fail
           go_ret
           exact ⟨ret_bool (by rw [HR2.out]; simp only [f0, Bool.true_and, Bool.false_and]), belDN' (belA (Below.refl _ _) _) _⟩)
    · have hmq : m = 2 := by have := f0; simp at this; omega
      obtain ⟨g, o, cap, rfl, gl, y0, y1, y2⟩ := HV2.out (by omega)
      have jp : (0 : Int) < (m : Int) := by omega
      have y1' := y1 (by omega)
      have jq : (1 : Int) < (m : Int) := by omega
      clear hmq y1 y2
      go_enter Tryz.func103, Tryz.ntmps103
      go_wp2_with fail
      first
        | (go_ret; exact ⟨ret_bool (by rw [HR2.out]; simp only [f0, f1, Bool.true_and, Bool.false_and]), by first | exact belA (Below.refl _ _) _ | exact belDN' (belA (Below.refl _ _) _) _⟩)
        | (go_quiet (fail)
           go_wp2_with fail
           go_ret
           exact ⟨ret_bool (by rw [HR2.out]; simp only [f0, f1, Bool.true_and, Bool.false_and]), belDN' (belA (Below.refl _ _) _) _⟩)
    · have hmq : m = 2 := by have := f0; simp at this; omega
      obtain ⟨g, o, cap, rfl, gl, y0, y1, y2⟩ := HV2.out (by omega)
      have jp : (0 : Int) < (m : Int) := by omega
      have y1' := y1 (by omega)
      have jq : (1 : Int) < (m : Int) := by omega
      clear hmq y1 y2
      go_enter Tryz.func103, Tryz.ntmps103
      go_wp2_with fail
      first
        | (go_ret; exact ⟨ret_bool (by rw [HR2.out]; simp only [f0, f1, Bool.true_and, Bool.false_and]), by first | exact belA (Below.refl _ _) _ | exact belDN' (belA (Below.refl _ _) _) _⟩)
        | (go_quiet (fail)
           go_wp2_with fail
           go_ret
           exact ⟨ret_bool (by rw [HR2.out]; simp only [f0, f1, Bool.true_and, Bool.false_and]), belDN' (belA (Below.refl _ _) _) _⟩)
  · have P : (((m : Int) == 2) = false) ∨ (((m : Int) == 2) = true ∧ (w0 == w1) = false) ∨ (((m : Int) == 2) = true ∧ (w0 == w1) = true) := by cases (((m : Int) == 2)) <;> cases ((w0 == w1)) <;> simp
    have HR2 : Hid (R = (((m : Int) == 2) && (w0 == w1) && (wd == 1))) := HR.out.trans (by simp [opB])
    clear HR
    rcases P with f0 | ⟨f0, f1⟩ | ⟨f0, f1⟩
    · obtain ⟨ao, cap, rfl⟩ := HV1.out
      go_enter Tryz.func103, Tryz.ntmps103
      go_wp2_with fail
      first
        | (go_ret; exact ⟨ret_bool (by rw [HR2.out]; simp only [f0, Bool.true_and, Bool.false_and]), by first | exact belA (Below.refl _ _) _ | exact belDN' (belA (Below.refl _ _) _) _⟩)
        | (go_quiet (fail)
           go_wp2_with fail
           go_ret
           exact ⟨ret_bool (by rw [HR2.out]; simp only [f0, Bool.true_and, Bool.false_and]), belDN' (belA (Below.refl _ _) _) _⟩)
    · have hmq : m = 2 := by have := f0; simp at this; omega
      obtain ⟨g, o, cap, rfl, gl, y0, y1, y2⟩ := HV2.out (by omega)
      have jp : (0 : Int) < (m : Int) := by omega
      have y1' := y1 (by omega)
      have jq : (1 : Int) < (m : Int) := by omega
      clear hmq y1 y2
      go_enter Tryz.func103, Tryz.ntmps103
      go_wp2_with fail
      first
        | (go_ret; exact ⟨ret_bool (by rw [HR2.out]; simp only [f0, f1, Bool.true_and, Bool.false_and]), by first | exact belA (Below.refl _ _) _ | exact belDN' (belA (Below.refl _ _) _) _⟩)
        | (go_quiet (fail)
           go_wp2_with fail
           go_ret
           exact ⟨ret_bool (by rw [HR2.out]; simp only [f0, f1, Bool.true_and, Bool.false_and]), belDN' (belA (Below.refl _ _) _) _⟩)
    · have hmq : m = 2 := by have := f0; simp at this; omega
      obtain ⟨g, o, cap, rfl, gl, y0, y1, y2⟩ := HV2.out (by omega)
      have jp : (0 : Int) < (m : Int) := by omega
      have y1' := y1 (by omega)
      have jq : (1 : Int) < (m : Int) := by omega
      clear hmq y1 y2
      go_enter Tryz.func103, Tryz.ntmps103
      go_wp2_with fail
      first
        | (go_ret; exact ⟨ret_bool (by rw [HR2.out]; simp only [f0, f1, Bool.true_and, Bool.false_and]), by first | exact belA (Below.refl _ _) _ | exact belDN' (belA (Below.refl _ _) _) _⟩)
        | (go_quiet (fail)
           go_wp2_with fail
           go_ret
           exact ⟨ret_bool (by rw [HR2.out]; simp only [f0, f1, Bool.true_and, Bool.false_and]), belDN' (belA (Below.refl _ _) _) _⟩)
  · have P : (((m : Int) == 2) = false) ∨ (((m : Int) == 2) = true) := by cases (((m : Int) == 2)) <;> simp
    have HR2 : Hid (R = (((m : Int) == 2) && (wd == 1))) := HR.out.trans (by simp [opB])
    clear HR
    rcases P with f0 | f0
    · obtain ⟨ao, cap, rfl⟩ := HV1.out
      go_enter Tryz.func103, Tryz.ntmps103
      go_wp2_with fail
      first
        | (go_ret; exact ⟨ret_bool (by rw [HR2.out]; simp only [f0, Bool.true_and, Bool.false_and]), by first | exact belA (Below.refl _ _) _ | exact belDN' (belA (Below.refl _ _) _) _⟩)
        | (go_quiet (fail)
           go_wp2_with fail
           go_ret
           exact ⟨ret_bool (by rw [HR2.out]; simp only [f0, Bool.true_and, Bool.false_and]), belDN' (belA (Below.refl _ _) _) _⟩)
    · have hmq : m = 2 := by have := f0; simp at this; omega
      obtain ⟨g, o, cap, rfl, gl, y0, y1, y2⟩ := HV2.out (by omega)
      have jp : (0 : Int) < (m : Int) := by omega
      have y1' := y1 (by omega)
      have jq : (1 : Int) < (m : Int) := by omega
      clear hmq y1 y2
      go_enter Tryz.func103, Tryz.ntmps103
      go_wp2_with fail
      first
        | (go_ret; exact ⟨ret_bool (by rw [HR2.out]; simp only [f0, Bool.true_and, Bool.false_and]), by first | exact belA (Below.refl _ _) _ | exact belDN' (belA (Below.refl _ _) _) _⟩)
        | (go_quiet (fail)
           go_wp2_with fail
           go_ret
           exact ⟨ret_bool (by rw [HR2.out]; simp only [f0, Bool.true_and, Bool.false_and]), belDN' (belA (Below.refl _ _) _) _⟩)
  · have P : (((m : Int) == 2) = false) ∨ (((m : Int) == 2) = true) := by cases (((m : Int) == 2)) <;> simp
    have HR2 : Hid (R = (((m : Int) == 2) && (wd == 1))) := HR.out.trans (by simp [opB])
    clear HR
    rcases P with f0 | f0
    · obtain ⟨ao, cap, rfl⟩ := HV1.out
      go_enter Tryz.func103, Tryz.ntmps103
      go_wp2_with fail
      first
        | (go_ret; exact ⟨ret_bool (by rw [HR2.out]; simp only [f0, Bool.true_and, Bool.false_and]), by first | exact belA (Below.refl _ _) _ | exact belDN' (belA (Below.refl _ _) _) _⟩)
        | (go_quiet (fail)
           go_wp2_with fail
           go_ret
           exact ⟨ret_bool (by rw [HR2.out]; simp only [f0, Bool.true_and, Bool.false_and]), belDN' (belA (Below.refl _ _) _) _⟩)
    · have hmq : m = 2 := by have := f0; simp at this; omega
      obtain ⟨g, o, cap, rfl, gl, y0, y1, y2⟩ := HV2.out (by omega)
      have jp : (0 : Int) < (m : Int) := by omega
      have y1' := y1 (by omega)
      have jq : (1 : Int) < (m : Int) := by omega
      clear hmq y1 y2
      go_enter Tryz.func103, Tryz.ntmps103
      go_wp2_with fail
      first
        | (go_ret; exact ⟨ret_bool (by rw [HR2.out]; simp only [f0, Bool.true_and, Bool.false_and]), by first | exact belA (Below.refl _ _) _ | exact belDN' (belA (Below.refl _ _) _) _⟩)
        | (go_quiet (fail)
           go_wp2_with fail
           go_ret
           exact ⟨ret_bool (by rw [HR2.out]; simp only [f0, Bool.true_and, Bool.false_and]), belDN' (belA (Below.refl _ _) _) _⟩)
  · have P : (((m : Int) == 2) = false) ∨ (((m : Int) == 2) = true) := by cases (((m : Int) == 2)) <;> simp
    have HR2 : Hid (R = (((m : Int) == 2) && (wd == 1))) := HR.out.trans (by simp [opB])
    clear HR
    rcases P with f0 | f0
    · obtain ⟨ao, cap, rfl⟩ := HV1.out
      go_enter Tryz.func103, Tryz.ntmps103
      go_wp2_with fail
      first
        | (go_ret; exact ⟨ret_bool (by rw [HR2.out]; simp only [f0, Bool.true_and, Bool.false_and]), by first | exact belA (Below.refl _ _) _ | exact belDN' (belA (Below.refl _ _) _) _⟩)
        | (go_quiet (fail)
           go_wp2_with fail
           go_ret
           exact ⟨ret_bool (by rw [HR2.out]; simp only [f0, Bool.true_and, Bool.false_and]), belDN' (belA (Below.refl _ _) _) _⟩)
    · have hmq : m = 2 := by have := f0; simp at this; omega
      obtain ⟨g, o, cap, rfl, gl, y0, y1, y2⟩ := HV2.out (by omega)
      have jp : (0 : Int) < (m : Int) := by omega
      have y1' := y1 (by omega)
      have jq : (1 : Int) < (m : Int) := by omega
      clear hmq y1 y2
      go_enter Tryz.func103, Tryz.ntmps103
      go_wp2_with fail
      first
        | (go_ret; exact ⟨ret_bool (by rw [HR2.out]; simp only [f0, Bool.true_and, Bool.false_and]), by first | exact belA (Below.refl _ _) _ | exact belDN' (belA (Below.refl _ _) _) _⟩)
        | (go_quiet (fail)
           go_wp2_with fail
           go_ret
           exact ⟨ret_bool (by rw [HR2.out]; simp only [f0, Bool.true_and, Bool.false_and]), belDN' (belA (Below.refl _ _) _) _⟩)
  · have P : (((m : Int) == 3) = false) ∨ (((m : Int) == 3) = true ∧ (w1 == wd) = false) ∨ (((m : Int) == 3) = true ∧ (w1 == wd) = true) := by cases (((m : Int) == 3)) <;> cases ((w1 == wd)) <;> simp
    have HR2 : Hid (R = (((m : Int) == 3) && (w1 == wd) && (w2 == wd))) := HR.out.trans (by simp [opB])
    clear HR
    rcases P with f0 | ⟨f0, f1⟩ | ⟨f0, f1⟩
    · obtain ⟨ao, cap, rfl⟩ := HV1.out
      go_enter Tryz.func103, Tryz.ntmps103
      go_wp2_with fail
      first
        | (go_ret; exact ⟨ret_bool (by rw [HR2.out]; simp only [f0, Bool.true_and, Bool.false_and]), by first | exact belA (Below.refl _ _) _ | exact belDN' (belA (Below.refl _ _) _) _⟩)
        | (go_quiet (fail)
           go_wp2_with fail
           go_ret
           exact ⟨ret_bool (by rw [HR2.out]; simp only [f0, Bool.true_and, Bool.false_and]), belDN' (belA (Below.refl _ _) _) _⟩)
    · have hmq : m = 3 := by have := f0; simp at this; omega
      obtain ⟨g, o, cap, rfl, gl, y0, y1, y2⟩ := HV2.out (by omega)
      have jp : (0 : Int) < (m : Int) := by omega
      have y1' := y1 (by omega)
      have jq : (1 : Int) < (m : Int) := by omega
      have y2' := y2 (by omega)
      have jr : (2 : Int) < (m : Int) := by omega
      clear hmq y1 y2
      go_enter Tryz.func103, Tryz.ntmps103
      go_wp2_with fail
      first
        | (go_ret; exact ⟨ret_bool (by rw [HR2.out]; simp only [f0, f1, Bool.true_and, Bool.false_and]), by first | exact belA (Below.refl _ _) _ | exact belDN' (belA (Below.refl _ _) _) _⟩)
        | (go_quiet (fail)
           go_wp2_with fail
           go_ret
           exact ⟨ret_bool (by rw [HR2.out]; simp only [f0, f1, Bool.true_and, Bool.false_and]), belDN' (belA (Below.refl _ _) _) _⟩)
    · have hmq : m = 3 := by have := f0; simp at this; omega
      obtain ⟨g, o, cap, rfl, gl, y0, y1, y2⟩ := HV2.out (by omega)
      have jp : (0 : Int) < (m : Int) := by omega
      have y1' := y1 (by omega)
      have jq : (1 : Int) < (m : Int) := by omega
      have y2' := y2 (by omega)
      have jr : (2 : Int) < (m : Int) := by omega
      clear hmq y1 y2
      go_enter Tryz.func103, Tryz.ntmps103
      go_wp2_with fail
      first
        | (go_ret; exact ⟨ret_bool (by rw [HR2.out]; simp only [f0, f1, Bool.true_and, Bool.false_and]), by first | exact belA (Below.refl _ _) _ | exact belDN' (belA (Below.refl _ _) _) _⟩)
        | (go_quiet (fail)
           go_wp2_with fail
           go_ret
           exact ⟨ret_bool (by rw [HR2.out]; simp only [f0, f1, Bool.true_and, Bool.false_and]), belDN' (belA (Below.refl _ _) _) _⟩)
  · have P : (((m : Int) == 1) = false) ∨ (((m : Int) == 1) = true ∧ decide (0 ≤ lo) = false) ∨ (((m : Int) == 1) = true ∧ decide (0 ≤ lo) = true ∧ decide (lo ≤ hi') = false) ∨ (((m : Int) == 1) = true ∧ decide (0 ≤ lo) = true ∧ decide (lo ≤ hi') = true ∧ decide (hi' < w0) = false) ∨ (((m : Int) == 1) = true ∧ decide (0 ≤ lo) = true ∧ decide (lo ≤ hi') = true ∧ decide (hi' < w0) = true) := by cases (((m : Int) == 1)) <;> cases (decide (0 ≤ lo)) <;> cases (decide (lo ≤ hi')) <;> cases (decide (hi' < w0)) <;> simp
    have HR2 : Hid (R = (((m : Int) == 1) && decide (0 ≤ lo) && decide (lo ≤ hi') && decide (hi' < w0) && (wd == wrap64 (wrap64 (hi' - lo) + 1)))) := HR.out.trans (by simp [opB])
    clear HR
    rcases P with f0 | ⟨f0, f1⟩ | ⟨f0, f1, f2⟩ | ⟨f0, f1, f2, f3⟩ | ⟨f0, f1, f2, f3⟩
    · obtain ⟨ao, cap, rfl⟩ := HV1.out
      go_enter Tryz.func103, Tryz.ntmps103
      go_wp2_with fail
      first
        | (go_ret; exact ⟨ret_bool (by rw [HR2.out]; simp only [f0, Bool.true_and, Bool.false_and]), by first | exact belA (Below.refl _ _) _ | exact belDN' (belA (Below.refl _ _) _) _⟩)
        | (go_quiet (fail)
           go_wp2_with fail
           go_ret
           exact ⟨ret_bool (by rw [HR2.out]; simp only [f0, Bool.true_and, Bool.false_and]), belDN' (belA (Below.refl _ _) _) _⟩)
    · have hmq : m = 1 := by have := f0; simp at this; omega
      obtain ⟨g, o, cap, rfl, gl, y0, y1, y2⟩ := HV2.out (by omega)
      have jp : (0 : Int) < (m : Int) := by omega
      clear hmq y1 y2
      go_enter Tryz.func103, Tryz.ntmps103
      go_wp2_with fail
      first
        | (go_ret; exact ⟨ret_bool (by rw [HR2.out]; simp only [f0, f1, Bool.true_and, Bool.false_and]), by first | exact belA (Below.refl _ _) _ | exact belDN' (belA (Below.refl _ _) _) _⟩)
        | (go_quiet (fail)
           go_wp2_with fail
           go_ret
           exact ⟨ret_bool (by rw [HR2.out]; simp only [f0, f1, Bool.true_and, Bool.false_and]), belDN' (belA (Below.refl _ _) _) _⟩)
    · have hmq : m = 1 := by have := f0; simp at this; omega
      obtain ⟨g, o, cap, rfl, gl, y0, y1, y2⟩ := HV2.out (by omega)
      have jp : (0 : Int) < (m : Int) := by omega
      clear hmq y1 y2
      go_enter Tryz.func103, Tryz.ntmps103
      go_wp2_with fail
      first
        | (go_ret; exact ⟨ret_bool (by rw [HR2.out]; simp only [f0, f1, f2, Bool.true_and, Bool.false_and]), by first | exact belA (Below.refl _ _) _ | exact belDN' (belA (Below.refl _ _) _) _⟩)
        | (go_quiet (fail)
           go_wp2_with fail
           go_ret
           exact ⟨ret_bool (by rw [HR2.out]; simp only [f0, f1, f2, Bool.true_and, Bool.false_and]), belDN' (belA (Below.refl _ _) _) _⟩)
    · have hmq : m = 1 := by have := f0; simp at this; omega
      obtain ⟨g, o, cap, rfl, gl, y0, y1, y2⟩ := HV2.out (by omega)
      have jp : (0 : Int) < (m : Int) := by omega
      clear hmq y1 y2
      go_enter Tryz.func103, Tryz.ntmps103
      go_wp2_with fail
      first
        | (go_ret; exact ⟨ret_bool (by rw [HR2.out]; simp only [f0, f1, f2, f3, Bool.true_and, Bool.false_and]), by first | exact belA (Below.refl _ _) _ | exact belDN' (belA (Below.refl _ _) _) _⟩)
        | (go_quiet (fail)
           go_wp2_with fail
           go_ret
           exact ⟨ret_bool (by rw [HR2.out]; simp only [f0, f1, f2, f3, Bool.true_and, Bool.false_and]), belDN' (belA (Below.refl _ _) _) _⟩)
    · have hmq : m = 1 := by have := f0; simp at this; omega
      obtain ⟨g, o, cap, rfl, gl, y0, y1, y2⟩ := HV2.out (by omega)
      have jp : (0 : Int) < (m : Int) := by omega
      clear hmq y1 y2
      go_enter Tryz.func103, Tryz.ntmps103
      go_wp2_with fail
      first
        | (go_ret; exact ⟨ret_bool (by rw [HR2.out]; simp only [f0, f1, f2, f3, Bool.true_and, Bool.false_and]), by first | exact belA (Below.refl _ _) _ | exact belDN' (belA (Below.refl _ _) _) _⟩)
        | (go_quiet (fail)
           go_wp2_with fail
           go_ret
           exact ⟨ret_bool (by rw [HR2.out]; simp only [f0, f1, f2, f3, Bool.true_and, Bool.false_and]), belDN' (belA (Below.refl _ _) _) _⟩)
  · have HR2 : Hid (R = (decide (0 < (m : Int)) && (sm == wd))) := HR.out.trans (by simp [opB])
    clear HR
    obtain ⟨ao, cap, rfl⟩ := HV1.out
    rcases Nat.eq_zero_or_pos m with hz | hp
    · subst hz
      go_enter Tryz.func103, Tryz.ntmps103
      go_wp2_with (first | (go_at_call 119; refine (HSM.out _ (belA (Below.refl _ _) _)).mono ?_; rintro e w' ⟨rfl, hw'⟩; have hw2 := hw'.symm; subst hw2))
      first
        | (go_ret; exact ⟨ret_bool (by rw [HR2.out]; simp), by first | exact belA (Below.refl _ _) _ | exact belDN' (belA (Below.refl _ _) _) _⟩)
        | (go_quiet ((go_at_call 119; exact Calls.quiet_of_same (HSM.out _ (by first | exact belDN' (belA (Below.refl _ _) _) _ | exact belA (Below.refl _ _) _))))
           go_wp2_with fail
           go_ret
           exact ⟨ret_bool (by rw [HR2.out]; simp), belDN' (belA (Below.refl _ _) _) _⟩)
    · have jp : (0 : Int) < (m : Int) := by omega
      go_enter Tryz.func103, Tryz.ntmps103
      go_wp2_with (first | (go_at_call 119; refine (HSM.out _ (belA (Below.refl _ _) _)).mono ?_; rintro e w' ⟨rfl, hw'⟩; have hw2 := hw'.symm; subst hw2))
      first
        | (go_ret; exact ⟨ret_bool (by rw [HR2.out]; simp [hp]), by first | exact belA (Below.refl _ _) _ | exact belDN' (belA (Below.refl _ _) _) _⟩)
        | (go_quiet ((go_at_call 119; exact Calls.quiet_of_same (HSM.out _ (by first | exact belDN' (belA (Below.refl _ _) _) _ | exact belA (Below.refl _ _) _))))
           go_wp2_with fail
           go_ret
           exact ⟨ret_bool (by rw [HR2.out]; simp [hp]), belDN' (belA (Below.refl _ _) _) _⟩)
  · obtain ⟨k7, k9, k8, k10, k11, k12, k13, k14, k23, k25, k24, k15, k16, k17, k18, k19, k20, k21, k22, k26, k27, k3, k6, k4, k5⟩ := hops
    have HR2 : Hid (R = false) := HR.out.trans (by simp [opB, *])
    clear HR
    obtain ⟨ao, cap, rfl⟩ := HV1.out
    have g7 : (op == 7) = false := by simpa using k7
    have g9 : (op == 9) = false := by simpa using k9
    have g8 : (op == 8) = false := by simpa using k8
    have g10 : (op == 10) = false := by simpa using k10
    have g11 : (op == 11) = false := by simpa using k11
    have g12 : (op == 12) = false := by simpa using k12
    have g13 : (op == 13) = false := by simpa using k13
    have g14 : (op == 14) = false := by simpa using k14
    have g23 : (op == 23) = false := by simpa using k23
    have g25 : (op == 25) = false := by simpa using k25
    have g24 : (op == 24) = false := by simpa using k24
    have g15 : (op == 15) = false := by simpa using k15
    have g16 : (op == 16) = false := by simpa using k16
    have g17 : (op == 17) = false := by simpa using k17
    have g18 : (op == 18) = false := by simpa using k18
    have g19 : (op == 19) = false := by simpa using k19
    have g20 : (op == 20) = false := by simpa using k20
    have g21 : (op == 21) = false := by simpa using k21
    have g22 : (op == 22) = false := by simpa using k22
    have g26 : (op == 26) = false := by simpa using k26
    have g27 : (op == 27) = false := by simpa using k27
    have g3 : (op == 3) = false := by simpa using k3
    have g6 : (op == 6) = false := by simpa using k6
    have g4 : (op == 4) = false := by simpa using k4
    have g5 : (op == 5) = false := by simpa using k5
    clear k7 k9 k8 k10 k11 k12 k13 k14 k23 k25 k24 k15 k16 k17 k18 k19 k20 k21 k22 k26 k27 k3 k6 k4 k5
    go_enter Tryz.func103, Tryz.ntmps103
    go_wp2_with fail
    go_ret
    exact ⟨ret_bool HR2.out.symm, belA (Below.refl _ _) _⟩
end Go.Proofs.YtokepgnnepjiaaaGreat

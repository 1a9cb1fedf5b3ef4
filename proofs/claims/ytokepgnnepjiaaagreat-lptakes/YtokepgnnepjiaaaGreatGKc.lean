/- Texts KI KK, joined: what each part says stands ahead of it. -/
import Derived.Test.YtokepgnnepjiaaaGreatKH
/- The program's fits: is a node right for what goes in? -/
namespace Go.Proofs.YtokepgnnepjiaaaGreat
set_option maxRecDepth 100000
open Go.RowKit Lg Nl Go.Maps
set_option linter.unusedVariables false
set_option linter.unusedSimpArgs false

def fitN (k wd tm vn m w0 w1 w2 : Int) (vb ob : Bool) : Bool :=
  if k = 1 then (m == 0) && vb && (vn == wd) else
  if k = 2 then (m == 0) else
  if k = 3 then ob else
  if k = 4 then (m == 3) && (w1 == wd) && (w2 == wd) else
  if k = 5 then (m == 2) && (w0 == w1) && (wd == 1) else
  if k = 6 then (m == 1) else
  if k = 7 then (m == 2) && (w1 == wd) else
  if k = 8 then (m == 1) && (w0 == wd) && decide (1 ≤ tm) && decide (tm ≤ 1048576) else
  false
def fitX (x : Nd) (ws : List Int) : Bool := fitN x.k x.wd x.tm x.vl.length ws.length (wn ws 0) (wn ws 1) (wn ws 2) (vec x.vl) (opB x.op x.wd x.hi x.lo ws.length (sumW ws) (wn ws 0) (wn ws 1) (wn ws 2))
set_option maxRecDepth 100000 in
set_option maxHeartbeats 4000000 in
theorem kFits_c (x : Nd) (ws : List Int) (vi : Value) (ia : Option Addr) (iq ic : Nat) (w : World) (hi : IntsAt w vi ws) (hm : ws.length ≤ 17592186044416) (hv : x.vl.length ≤ 140737488355328) :
    Calls Tryz.prog 88 #[.agg #[.int .i64 x.k, .int .i64 x.op, .int .i64 x.wd, .slice ia iq ic, .string (S x.vl), .int .i64 x.hi, .int .i64 x.lo, .int .i64 x.tm], vi] w fun e w' => e = .returned (.bool (fitX x ws)) ∧ Below w.heap.size w w' := by
  have HOP : Hid (∀ W, Below w.heap.size w W → Calls Tryz.prog 103 #[.agg #[.int .i64 x.k, .int .i64 x.op, .int .i64 x.wd, .slice ia iq ic, .string (S x.vl), .int .i64 x.hi, .int .i64 x.lo, .int .i64 x.tm], vi] W fun e w' => e = .returned (.bool (opB x.op x.wd x.hi x.lo ws.length (sumW ws) (wn ws 0) (wn ws 1) (wn ws 2))) ∧ Below W.heap.size W w') := fun W hW => kOperates_c x ws vi ia iq ic W (hi.below hW) hm
  have HCK : Hid (∀ W, Calls Tryz.prog 50 #[.string (S x.vl)] W fun e w' => e = .returned (.int .i64 (chkE (L (S x.vl)))) ∧ Below W.heap.size W w') := fun W => Check_c (S x.vl) W (by rw [size_S]; unfold maxLen; omega)
  unfold fitX
  generalize opB x.op x.wd x.hi x.lo ws.length (sumW ws) (wn ws 0) (wn ws 1) (wn ws 2) = ob at *
  rw [L_S] at HCK
  have hce : chkE x.vl = if vec x.vl = true then 0 else 10 := rfl
  rw [hce] at HCK
  generalize vec x.vl = vb at *
  obtain ⟨k, op, wd, ins, vl, hi', lo, tm⟩ := x
  simp only at *
  obtain ⟨m, hml⟩ : ∃ m, m = ws.length := ⟨_, rfl⟩
  have hvv : (m = 0 ∧ ∃ ao cap, vi = .slice ao m cap) ∨ (1 ≤ m ∧ ∃ g o cap, vi = .slice (some ⟨g, o, none⟩) m cap ∧ g < w.heap.size ∧ w.cell? ⟨g, o, none⟩ = some (.int .i64 (wn ws 0)) ∧ (1 < m → w.cell? ⟨g, o + 1, none⟩ = some (.int .i64 (wn ws 1))) ∧ (2 < m → w.cell? ⟨g, o + 2, none⟩ = some (.int .i64 (wn ws 2)))) := by
    rcases Nat.eq_zero_or_pos ws.length with h0 | h0
    · obtain ⟨ao, cap, hv, _⟩ := hi
      exact Or.inl ⟨by omega, ao, cap, by rw [hml]; exact hv⟩
    · obtain ⟨g, o, cap, h⟩ := hi.wn_ h0
      rw [hml]; exact Or.inr ⟨h0, g, o, cap, h⟩
  rw [← hml] at hm ⊢
  obtain ⟨R, hR⟩ : ∃ R, R = fitN k wd tm vl.length m (wn ws 0) (wn ws 1) (wn ws 2) vb ob := ⟨_, rfl⟩
  rw [← hR]
  have HR : Hid (R = fitN k wd tm vl.length m (wn ws 0) (wn ws 1) (wn ws 2) vb ob) := hR
  clear hR hi hml hce
  generalize wn ws 0 = w0 at *
  generalize wn ws 1 = w1 at *
  generalize wn ws 2 = w2 at *
  have HV1 : Hid (∃ ao cap, vi = .slice ao m cap) := by rcases hvv with ⟨_, ao, cap, h⟩ | ⟨_, g, o, cap, h, _⟩ <;> exact ⟨_, _, h⟩
  have HV2 : Hid (1 ≤ m → ∃ g o cap, vi = .slice (some ⟨g, o, none⟩) m cap ∧ g < w.heap.size ∧ w.cell? ⟨g, o, none⟩ = some (.int .i64 w0) ∧ (1 < m → w.cell? ⟨g, o + 1, none⟩ = some (.int .i64 w1)) ∧ (2 < m → w.cell? ⟨g, o + 2, none⟩ = some (.int .i64 w2))) := by
    intro hm1
    rcases hvv with ⟨h0, _⟩ | ⟨_, h⟩
    · omega
    · exact h
  have mb : (m : Int) ≤ 17592186044416 := by omega
  clear hvv hm
  rcases (by omega : k = 1 ∨ k = 2 ∨ k = 3 ∨ k = 4 ∨ k = 5 ∨ k = 6 ∨ k = 7 ∨ k = 8 ∨ (k ≠ 1 ∧ k ≠ 2 ∧ k ≠ 3 ∧ k ≠ 4 ∧ k ≠ 5 ∧ k ≠ 6 ∧ k ≠ 7 ∧ k ≠ 8)) with rfl | rfl | rfl | rfl | rfl | rfl | rfl | rfl | hk
  · have HR2 : Hid (R = (((m : Int) == 0) && vb && ((vl.length : Int) == wd))) := HR.out.trans (by simp [fitN])
    clear HR
    obtain ⟨ao, cap, rfl⟩ := HV1.out
    have P : ((m : Int) == 0) = false ∨ (((m : Int) == 0) = true ∧ vb = false) ∨ (((m : Int) == 0) = true ∧ vb = true) := by cases ((m : Int) == 0) <;> cases vb <;> simp
    rcases P with f0 | ⟨f0, rfl⟩ | ⟨f0, rfl⟩
    all_goals
      try simp only [Bool.false_eq_true, if_false, if_true] at HCK
      go_enter Tryz.func88, Tryz.ntmps88
      go_wp2_with (first | (go_at_call 50; refine (HCK.out _).mono ?_; rintro e w5 ⟨rfl, hb5⟩; have hx := hb5.block w.heap.size (by simp); rw [alAt rfl] at hx; obtain ⟨x0, x1, x2, x3, x4, x5, x6, x7⟩ := cells8 hx))
      all_goals (go_ret; exact ⟨ret_bool (by rw [HR2.out]; simp only [f0, Bool.true_and, Bool.false_and, size_S]), by first | exact belA (Below.refl _ _) _ | exact bel (belA (Below.refl _ _) _) hb5⟩)
  · have HR2 : Hid (R = ((m : Int) == 0)) := HR.out.trans (by simp [fitN])
    clear HR
    obtain ⟨ao, cap, rfl⟩ := HV1.out
    go_enter Tryz.func88, Tryz.ntmps88
    go_wp2_with fail
    all_goals (go_ret; exact ⟨ret_bool (by rw [HR2.out]), belA (Below.refl _ _) _⟩)
  · have HR2 : Hid (R = (ob)) := HR.out.trans (by simp [fitN])
    clear HR
    obtain ⟨ao, cap, rfl⟩ := HV1.out
    go_enter Tryz.func88, Tryz.ntmps88
    go_wp2_with (first | (go_at_call 103; refine (HOP.out _ (belA (Below.refl _ _) _)).mono ?_; rintro e w5 ⟨rfl, hb5⟩))
    all_goals (go_ret; exact ⟨ret_bool (by rw [HR2.out]), bel (belA (Below.refl _ _) _) hb5⟩)
  · have HR2 : Hid (R = (((m : Int) == 3) && (w1 == wd) && (w2 == wd))) := HR.out.trans (by simp [fitN])
    clear HR
    have P : (((m : Int) == 3) = false) ∨ (((m : Int) == 3) = true ∧ (w1 == wd) = false) ∨ (((m : Int) == 3) = true ∧ (w1 == wd) = true) := by cases (((m : Int) == 3)) <;> cases ((w1 == wd)) <;> simp
    rcases P with f0 | ⟨f0, f1⟩ | ⟨f0, f1⟩
    · obtain ⟨ao, cap, rfl⟩ := HV1.out
      go_enter Tryz.func88, Tryz.ntmps88
      go_wp2_with fail
      first
        | (go_ret; exact ⟨ret_bool (by rw [HR2.out]; simp only [f0, Bool.true_and, Bool.false_and]), by first | exact belA (Below.refl _ _) _ | exact belDN' (belA (Below.refl _ _) _) _⟩)
        | (go_quiet (fail)
           go_wp2_with fail
           go_ret
           exact ⟨ret_bool (by rw [HR2.out]; simp only [f0, Bool.true_and, Bool.false_and]), belDN' (belA (Below.refl _ _) _) _⟩)
    · have hmq : m = 3 := by have := f0; simp at this; omega
      obtain ⟨g, o, cap, rfl, gl, y0, y1, y2⟩ := HV2.out (by omega)
      have jp : (0 : Int) < (m : Int) := by omega
      have y1' := y1 (by omega)
      have jq : (1 : Int) < (m : Int) := by omega
      have y2' := y2 (by omega)
      have jr : (2 : Int) < (m : Int) := by omega
      clear hmq y1 y2
      go_enter Tryz.func88, Tryz.ntmps88
      go_wp2_with fail
      first
        | (go_ret; exact ⟨ret_bool (by rw [HR2.out]; simp only [f0, f1, Bool.true_and, Bool.false_and]), by first | exact belA (Below.refl _ _) _ | exact belDN' (belA (Below.refl _ _) _) _⟩)
        | (go_quiet (fail)
           go_wp2_with fail
           go_ret
           exact ⟨ret_bool (by rw [HR2.out]; simp only [f0, f1, Bool.true_and, Bool.false_and]), belDN' (belA (Below.refl _ _) _) _⟩)
    · have hmq : m = 3 := by have := f0; simp at this; omega
      obtain ⟨g, o, cap, rfl, gl, y0, y1, y2⟩ := HV2.out (by omega)
      have jp : (0 : Int) < (m : Int) := by omega
      have y1' := y1 (by omega)
      have jq : (1 : Int) < (m : Int) := by omega
      have y2' := y2 (by omega)
      have jr : (2 : Int) < (m : Int) := by omega
      clear hmq y1 y2
      go_enter Tryz.func88, Tryz.ntmps88
      go_wp2_with fail
      first
        | (go_ret; exact ⟨ret_bool (by rw [HR2.out]; simp only [f0, f1, Bool.true_and, Bool.false_and]), by first | exact belA (Below.refl _ _) _ | exact belDN' (belA (Below.refl _ _) _) _⟩)
        | (go_quiet (fail)
           go_wp2_with fail
           go_ret
           exact ⟨ret_bool (by rw [HR2.out]; simp only [f0, f1, Bool.true_and, Bool.false_and]), belDN' (belA (Below.refl _ _) _) _⟩)
  · have HR2 : Hid (R = (((m : Int) == 2) && (w0 == w1) && (wd == 1))) := HR.out.trans (by simp [fitN])
    clear HR
    have P : (((m : Int) == 2) = false) ∨ (((m : Int) == 2) = true ∧ (w0 == w1) = false) ∨ (((m : Int) == 2) = true ∧ (w0 == w1) = true) := by cases (((m : Int) == 2)) <;> cases ((w0 == w1)) <;> simp
    rcases P with f0 | ⟨f0, f1⟩ | ⟨f0, f1⟩
    · obtain ⟨ao, cap, rfl⟩ := HV1.out
      go_enter Tryz.func88, Tryz.ntmps88
      go_wp2_with fail
      first
        | (go_ret; exact ⟨ret_bool (by rw [HR2.out]; simp only [f0, Bool.true_and, Bool.false_and]), by first | exact belA (Below.refl _ _) _ | exact belDN' (belA (Below.refl _ _) _) _⟩)
        | (go_quiet (fail)
           go_wp2_with fail
           go_ret
           exact ⟨ret_bool (by rw [HR2.out]; simp only [f0, Bool.true_and, Bool.false_and]), belDN' (belA (Below.refl _ _) _) _⟩)
    · have hmq : m = 2 := by have := f0; simp at this; omega
      obtain ⟨g, o, cap, rfl, gl, y0, y1, y2⟩ := HV2.out (by omega)
      have jp : (0 : Int) < (m : Int) := by omega
      have y1' := y1 (by omega)
      have jq : (1 : Int) < (m : Int) := by omega
      clear hmq y1 y2
      go_enter Tryz.func88, Tryz.ntmps88
      go_wp2_with fail
      first
        | (go_ret; exact ⟨ret_bool (by rw [HR2.out]; simp only [f0, f1, Bool.true_and, Bool.false_and]), by first | exact belA (Below.refl _ _) _ | exact belDN' (belA (Below.refl _ _) _) _⟩)
        | (go_quiet (fail)
           go_wp2_with fail
           go_ret
           exact ⟨ret_bool (by rw [HR2.out]; simp only [f0, f1, Bool.true_and, Bool.false_and]), belDN' (belA (Below.refl _ _) _) _⟩)
    · have hmq : m = 2 := by have := f0; simp at this; omega
      obtain ⟨g, o, cap, rfl, gl, y0, y1, y2⟩ := HV2.out (by omega)
      have jp : (0 : Int) < (m : Int) := by omega
      have y1' := y1 (by omega)
      have jq : (1 : Int) < (m : Int) := by omega
      clear hmq y1 y2
      go_enter Tryz.func88, Tryz.ntmps88
      go_wp2_with fail
      first
        | (go_ret; exact ⟨ret_bool (by rw [HR2.out]; simp only [f0, f1, Bool.true_and, Bool.false_and]), by first | exact belA (Below.refl _ _) _ | exact belDN' (belA (Below.refl _ _) _) _⟩)
        | (go_quiet (fail)
           go_wp2_with fail
           go_ret
           exact ⟨ret_bool (by rw [HR2.out]; simp only [f0, f1, Bool.true_and, Bool.false_and]), belDN' (belA (Below.refl _ _) _) _⟩)
  · have HR2 : Hid (R = ((m : Int) == 1)) := HR.out.trans (by simp [fitN])
    clear HR
    obtain ⟨ao, cap, rfl⟩ := HV1.out
    go_enter Tryz.func88, Tryz.ntmps88
    go_wp2_with fail
    all_goals (go_ret; exact ⟨ret_bool (by rw [HR2.out]), belA (Below.refl _ _) _⟩)
  · have HR2 : Hid (R = (((m : Int) == 2) && (w1 == wd))) := HR.out.trans (by simp [fitN])
    clear HR
    have P : (((m : Int) == 2) = false) ∨ (((m : Int) == 2) = true) := by cases (((m : Int) == 2)) <;> simp
    rcases P with f0 | f0
    · obtain ⟨ao, cap, rfl⟩ := HV1.out
      go_enter Tryz.func88, Tryz.ntmps88
      go_wp2_with fail
      first
        | (go_ret; exact ⟨ret_bool (by rw [HR2.out]; simp only [f0, Bool.true_and, Bool.false_and]), by first | exact belA (Below.refl _ _) _ | exact belDN' (belA (Below.refl _ _) _) _⟩)
        | (go_quiet (fail)
           go_wp2_with fail
           go_ret
           exact ⟨ret_bool (by rw [HR2.out]; simp only [f0, Bool.true_and, Bool.false_and]), belDN' (belA (Below.refl _ _) _) _⟩)
    · have hmq : m = 2 := by have := f0; simp at this; omega
      obtain ⟨g, o, cap, rfl, gl, y0, y1, y2⟩ := HV2.out (by omega)
      have jp : (0 : Int) < (m : Int) := by omega
      have y1' := y1 (by omega)
      have jq : (1 : Int) < (m : Int) := by omega
      clear hmq y1 y2
      go_enter Tryz.func88, Tryz.ntmps88
      go_wp2_with fail
      first
        | (go_ret; exact ⟨ret_bool (by rw [HR2.out]; simp only [f0, Bool.true_and, Bool.false_and]), by first | exact belA (Below.refl _ _) _ | exact belDN' (belA (Below.refl _ _) _) _⟩)
        | (go_quiet (fail)
           go_wp2_with fail
           go_ret
           exact ⟨ret_bool (by rw [HR2.out]; simp only [f0, Bool.true_and, Bool.false_and]), belDN' (belA (Below.refl _ _) _) _⟩)
  · have HR2 : Hid (R = (((m : Int) == 1) && (w0 == wd) && decide (1 ≤ tm) && (decide (tm ≤ 1048576)))) := HR.out.trans (by simp [fitN])
    clear HR
    have P : (((m : Int) == 1) = false) ∨ (((m : Int) == 1) = true ∧ (w0 == wd) = false) ∨ (((m : Int) == 1) = true ∧ (w0 == wd) = true ∧ decide (1 ≤ tm) = false) ∨ (((m : Int) == 1) = true ∧ (w0 == wd) = true ∧ decide (1 ≤ tm) = true) := by cases (((m : Int) == 1)) <;> cases ((w0 == wd)) <;> cases (decide (1 ≤ tm)) <;> simp
    rcases P with f0 | ⟨f0, f1⟩ | ⟨f0, f1, f2⟩ | ⟨f0, f1, f2⟩
    · obtain ⟨ao, cap, rfl⟩ := HV1.out
      go_enter Tryz.func88, Tryz.ntmps88
      go_wp2_with fail
      first
        | (go_ret; exact ⟨ret_bool (by rw [HR2.out]; simp only [f0, Bool.true_and, Bool.false_and]), by first | exact belA (Below.refl _ _) _ | exact belDN' (belA (Below.refl _ _) _) _⟩)
        | (go_quiet (fail)
           go_wp2_with fail
           go_ret
           exact ⟨ret_bool (by rw [HR2.out]; simp only [f0, Bool.true_and, Bool.false_and]), belDN' (belA (Below.refl _ _) _) _⟩)
    · have hmq : m = 1 := by have := f0; simp at this; omega
      obtain ⟨g, o, cap, rfl, gl, y0, y1, y2⟩ := HV2.out (by omega)
      have jp : (0 : Int) < (m : Int) := by omega
      clear hmq y1 y2
      go_enter Tryz.func88, Tryz.ntmps88
      go_wp2_with fail
      first
        | (go_ret; exact ⟨ret_bool (by rw [HR2.out]; simp only [f0, f1, Bool.true_and, Bool.false_and]), by first | exact belA (Below.refl _ _) _ | exact belDN' (belA (Below.refl _ _) _) _⟩)
        | (go_quiet (fail)
           go_wp2_with fail
           go_ret
           exact ⟨ret_bool (by rw [HR2.out]; simp only [f0, f1, Bool.true_and, Bool.false_and]), belDN' (belA (Below.refl _ _) _) _⟩)
    · have hmq : m = 1 := by have := f0; simp at this; omega
      obtain ⟨g, o, cap, rfl, gl, y0, y1, y2⟩ := HV2.out (by omega)
      have jp : (0 : Int) < (m : Int) := by omega
      clear hmq y1 y2
      go_enter Tryz.func88, Tryz.ntmps88
      go_wp2_with fail
      first
        | (go_ret; exact ⟨ret_bool (by rw [HR2.out]; simp only [f0, f1, f2, Bool.true_and, Bool.false_and]), by first | exact belA (Below.refl _ _) _ | exact belDN' (belA (Below.refl _ _) _) _⟩)
        | (go_quiet (fail)
           go_wp2_with fail
           go_ret
           exact ⟨ret_bool (by rw [HR2.out]; simp only [f0, f1, f2, Bool.true_and, Bool.false_and]), belDN' (belA (Below.refl _ _) _) _⟩)
    · have hmq : m = 1 := by have := f0; simp at this; omega
      obtain ⟨g, o, cap, rfl, gl, y0, y1, y2⟩ := HV2.out (by omega)
      have jp : (0 : Int) < (m : Int) := by omega
      clear hmq y1 y2
      go_enter Tryz.func88, Tryz.ntmps88
      go_wp2_with fail
      first
        | (go_ret; exact ⟨ret_bool (by rw [HR2.out]; simp only [f0, f1, f2, Bool.true_and, Bool.false_and]), by first | exact belA (Below.refl _ _) _ | exact belDN' (belA (Below.refl _ _) _) _⟩)
        | (go_quiet (fail)
           go_wp2_with fail
           go_ret
           exact ⟨ret_bool (by rw [HR2.out]; simp only [f0, f1, f2, Bool.true_and, Bool.false_and]), belDN' (belA (Below.refl _ _) _) _⟩)
  · obtain ⟨k1, k2, k3, k4, k5, k6, k7, k8⟩ := hk
    have HR2 : Hid (R = false) := HR.out.trans (by simp [fitN, *])
    clear HR
    obtain ⟨ao, cap, rfl⟩ := HV1.out
    have g1 : (k == 1) = false := by simpa using k1
    have g2 : (k == 2) = false := by simpa using k2
    have g3 : (k == 3) = false := by simpa using k3
    have g4 : (k == 4) = false := by simpa using k4
    have g5 : (k == 5) = false := by simpa using k5
    have g6 : (k == 6) = false := by simpa using k6
    have g7 : (k == 7) = false := by simpa using k7
    have g8 : (k == 8) = false := by simpa using k8
    clear k1 k2 k3 k4 k5 k6 k7 k8
    go_enter Tryz.func88, Tryz.ntmps88
    go_wp2_with fail
    go_ret
    exact ⟨ret_bool HR2.out.symm, belA (Below.refl _ _) _⟩
end Go.Proofs.YtokepgnnepjiaaaGreat

/- The program's mayBe: is a node as its kind asks for? -/
namespace Go.Proofs.YtokepgnnepjiaaaGreat
set_option maxRecDepth 100000
open Go.RowKit Lg Nl Go.Maps
set_option linter.unusedVariables false
set_option linter.unusedSimpArgs false

def mbB (l : List Nd) (x : Nd) : Bool := x.ins.all (inB l.length) && wideB x && fitX x (wsOf l x.ins) && zeroB x
theorem own_ints {w : World} {B : Nat} {v : Value} {ws : List Int} (h : w.ownsRow B 3 1 v ws.length (iC ws)) : IntsAt w v ws := by
  rcases h.2 with ⟨rfl, h0⟩ | ⟨g, cap, cur, rfl, hg, hh, hc, _⟩
  · exact ⟨none, 0, by rw [h0], by omega, Or.inl (List.eq_nil_of_length_eq_zero h0)⟩
  · exact ⟨_, cap, rfl, hc, Or.inr ⟨g, 0, rfl, hLt hh, fun i hi => by rw [Nat.zero_add]; exact own_cell h i hi⟩⟩
set_option maxRecDepth 100000 in
set_option maxHeartbeats 4000000 in
theorem kMayBe_c (l : List Nd) (x : Nd) (vN : Value) (ia : Option Addr) (ic : Nat) (w : World) (hN : NdsAt w vN l) (hi : IntsAt w (.slice ia x.ins.length ic) x.ins) (hl : l.length ≤ 140737488355328) (hm : x.ins.length ≤ 17592186044416) (hv : x.vl.length ≤ 140737488355328) :
    Calls Tryz.prog 60 #[.agg #[.int .i64 x.k, .int .i64 x.op, .int .i64 x.wd, .slice ia x.ins.length ic, .string (S x.vl), .int .i64 x.hi, .int .i64 x.lo, .int .i64 x.tm], vN] w fun e w' => e = .returned (.bool (mbB l x)) ∧ Below w.heap.size w w' := by
  have HW : Hid (∀ W, Below w.heap.size w W → Calls Tryz.prog 87 #[.slice ia x.ins.length ic, vN] W fun e w' => ((x.ins.all (inB l.length) = true ∧ ∃ ao cp, e = .returned (.tuple #[.slice ao x.ins.length cp, .bool true]) ∧ w'.ownsRow W.heap.size 3 1 (.slice ao x.ins.length cp) x.ins.length (iC (wsOf l x.ins))) ∨ (x.ins.all (inB l.length) = false ∧ e = .returned (.tuple #[.slice none 0 0, .bool false]))) ∧ Below W.heap.size W w') := fun W hW => kWidths_c l x.ins vN _ W (hN.below hW) (hi.below hW) hl hm
  have HFI : Hid (∀ (W : World) (vi : Value), IntsAt W vi (wsOf l x.ins) → Calls Tryz.prog 88 #[.agg #[.int .i64 x.k, .int .i64 x.op, .int .i64 x.wd, .slice ia x.ins.length ic, .string (S x.vl), .int .i64 x.hi, .int .i64 x.lo, .int .i64 x.tm], vi] W fun e w' => e = .returned (.bool (fitX x (wsOf l x.ins))) ∧ Below W.heap.size W w') := fun W vi h => kFits_c x (wsOf l x.ins) vi ia _ ic W h (by rw [wsOf_len]; exact hm) hv
  obtain ⟨na, nc, rfl, hnc, hN'⟩ := id hN
  unfold mbB
  generalize fitX x (wsOf l x.ins) = fx at *
  have hwl : (wsOf l x.ins).length = x.ins.length := wsOf_len l x.ins
  generalize wsOf l x.ins = ws at *
  generalize x.ins.all (inB l.length) = ai at *
  obtain ⟨k, op, wd, ins, vl, hi', lo, tm⟩ := x
  simp only at *
  generalize ins.length = q at *
  have HWL : Hid (ws.length = q) := hwl
  obtain ⟨R, hR⟩ : ∃ R, R = (ai && wideB ⟨k, op, wd, ins, vl, hi', lo, tm⟩ && fx && zeroB ⟨k, op, wd, ins, vl, hi', lo, tm⟩) := ⟨_, rfl⟩
  rw [← hR]
  have HR : Hid (R = (ai && wideB ⟨k, op, wd, ins, vl, hi', lo, tm⟩ && fx && zeroB ⟨k, op, wd, ins, vl, hi', lo, tm⟩)) := hR
  clear hR hwl hN hi hN'
  have hP : ai = false ∨ (ai = true ∧ wd < 1) ∨ (ai = true ∧ 1 ≤ wd ∧ 256 < wd) ∨ (ai = true ∧ 1 ≤ wd ∧ wd ≤ 256 ∧ fx = false) ∨ (ai = true ∧ 1 ≤ wd ∧ wd ≤ 256 ∧ fx = true) := by
    cases ai <;> cases fx <;> simp <;> omega
  rcases hP with rfl | ⟨rfl, p1⟩ | ⟨rfl, p1, p2⟩ | ⟨rfl, p1, p2, rfl⟩ | ⟨rfl, p1, p2, rfl⟩
  · simp only [Bool.false_eq_true, false_and, true_and, false_or] at HW
    go_enter Tryz.func60, Tryz.ntmps60
    go_wp2_with (first | (go_at_call 87; refine (HW.out _ (belA (Below.refl _ _) _)).mono ?_; rintro e w5 ⟨rfl, hb5⟩))
    all_goals (go_ret; exact ⟨ret_bool (by rw [HR.out]; rfl), bel (belA (Below.refl _ _) _) hb5⟩)
  all_goals simp only [true_and, Bool.true_eq_false, false_and, or_false] at HW
  · go_enter Tryz.func60, Tryz.ntmps60
    go_wp2_with (first | (go_at_call 87; refine (HW.out _ (belA (Below.refl _ _) _)).mono ?_; rintro e w5 ⟨⟨ao, cp, rfl, ho5⟩, hb5⟩; have hx := hb5.block w.heap.size (by simp); rw [alAt rfl] at hx; obtain ⟨x0, x1, x2, x3, x4, x5, x6, x7⟩ := cells8 hx))
    all_goals (go_ret; exact ⟨ret_bool (by rw [HR.out]; simp [wideB]; omega), bel (belA (Below.refl _ _) _) hb5⟩)
  · go_enter Tryz.func60, Tryz.ntmps60
    go_wp2_with (first | (go_at_call 87; refine (HW.out _ (belA (Below.refl _ _) _)).mono ?_; rintro e w5 ⟨⟨ao, cp, rfl, ho5⟩, hb5⟩; have hx := hb5.block w.heap.size (by simp); rw [alAt rfl] at hx; obtain ⟨x0, x1, x2, x3, x4, x5, x6, x7⟩ := cells8 hx))
    all_goals (go_ret; exact ⟨ret_bool (by rw [HR.out]; simp [wideB]; omega), bel (belA (Below.refl _ _) _) hb5⟩)
  · go_enter Tryz.func60, Tryz.ntmps60
    go_wp2_with (first | (go_at_call 87; refine (HW.out _ (belA (Below.refl _ _) _)).mono ?_; rintro e w5 ⟨⟨ao, cp, rfl, ho5⟩, hb5⟩; have hx := hb5.block w.heap.size (by simp); rw [alAt rfl] at hx; obtain ⟨x0, x1, x2, x3, x4, x5, x6, x7⟩ := cells8 hx) | (go_at_call 88; refine (HFI.out _ _ (own_ints (by rw [HWL.out]; exact ho5))).mono ?_; rintro e w6 ⟨rfl, hb6⟩))
    all_goals (go_ret; exact ⟨ret_bool (by rw [HR.out]; simp), bel (bel (belA (Below.refl _ _) _) hb5) hb6⟩)
  · have W56 : ∀ {w5 w6 : World} {bx : Obj}, Below (w.alloc bx).heap.size (w.alloc bx) w5 → Below w5.heap.size w5 w6 → w6.heap[w.heap.size]? = some bx := fun h5 h6 => (h6.block _ (Nat.lt_of_lt_of_le (by simp) h5.size)).trans ((h5.block _ (by simp)).trans (alAt rfl))
    rcases (by omega : k = 1 ∨ (k = 3 ∧ op = 4) ∨ (k = 3 ∧ op ≠ 4) ∨ k = 8 ∨ (k ≠ 1 ∧ k ≠ 3 ∧ k ≠ 8)) with rfl | ⟨rfl, rfl⟩ | ⟨rfl, h4⟩ | rfl | ⟨h1, h3, h8⟩
    all_goals
      go_enter Tryz.func60, Tryz.ntmps60
      go_wp2_with (first | (go_at_call 87; refine (HW.out _ (belA (Below.refl _ _) _)).mono ?_; rintro e w5 ⟨⟨ao, cp, rfl, ho5⟩, hb5⟩; have hx := hb5.block w.heap.size (by simp); rw [alAt rfl] at hx; obtain ⟨x0, x1, x2, x3, x4, x5, x6, x7⟩ := cells8 hx) | (go_at_call 88; refine (HFI.out _ _ (own_ints (by rw [HWL.out]; exact ho5))).mono ?_; rintro e w6 ⟨rfl, hb6⟩; have hy := W56 hb5 hb6; have yf := fun j => Lib.frozen_of_heap hy j; obtain ⟨y0, y1, y2, y3, y4, y5, y6, y7⟩ := cells8 hy; have yl := hLt hy))
      all_goals have B6 := bel (bel (belA (Below.refl _ _) _) hb5) hb6
      all_goals (go_ret; exact ⟨ret_bool (by rw [HR.out, Bool.eq_iff_iff]; clear HR HW HFI HWL W56 B6; simp_all [wideB, zeroB, S_toList]), by first | exact B6 | exact B6.setCell (Nat.le_refl _) _ | exact (B6.setCell (Nat.le_refl _) _).setCell (Nat.le_refl _) _ | exact ((B6.setCell (Nat.le_refl _) _).setCell (Nat.le_refl _) _).setCell (Nat.le_refl _) _⟩)
end Go.Proofs.YtokepgnnepjiaaaGreat

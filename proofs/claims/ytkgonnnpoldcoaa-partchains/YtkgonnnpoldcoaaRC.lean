/- Sets of nodes in memory: newSets, lowest, join. -/
import Derived.Test.YtkgonnnpoldcoaaRB
import Derived.Test.YtkgonnnpoldcoaaGLb
import Derived.BigRegion
namespace Go.Proofs.Ytkgonnnpoldcoaa
open Go.RowKit Lg Nl Go.Maps
set_option linter.unusedVariables false
set_option linter.unusedSimpArgs false

/-- one block alone has turned -/
structure Only (T : Nat) (w w' : World) : Prop where
  os : w'.os = w.os
  tape : w'.tape = w.tape
  output : w'.output = w.output
  size : w'.heap.size = w.heap.size
  block : ∀ k, k ≠ T → w'.heap[k]? = w.heap[k]?
theorem Only.refl (T : Nat) (w : World) : Only T w w := ⟨rfl, rfl, rfl, rfl, fun _ _ => rfl⟩
theorem Only.trans {T : Nat} {a b c : World} (h : Only T a b) (k : Only T b c) : Only T a c := ⟨k.os.trans h.os, k.tape.trans h.tape, k.output.trans h.output, k.size.trans h.size, fun i hi => (k.block i hi).trans (h.block i hi)⟩
theorem Only.set {T : Nat} {w w' : World} (h : Only T w w') (i : Nat) (v : Value) : Only T w (w'.setCell ⟨T, i, none⟩ v) :=
  ⟨h.os, h.tape, h.output, by rw [show (w'.setCell ⟨T, i, none⟩ v).heap.size = w'.heap.size by simp [World.setCell]]; exact h.size, fun k hk => (Below.heap_setCell _ _ _ _ (by show k ≠ T; exact hk)).trans (h.block k hk)⟩
theorem Only.below {T B : Nat} {w w' : World} (h : Only T w w') (hB : B ≤ T) : Below B w w' := ⟨h.os, h.tape, h.output, by rw [h.size]; exact Nat.le_refl _, fun k hk => h.block k (by omega)⟩
theorem mkSets (n : Nat) (hn : n ≤ 140737488355328 / 8) : ∀ w : World, (Instr.makeSlice 78 (.int .i64 (n : Int)) (.int .i64 (n : Int))).run Try.prog w = .ok (.slice (some ⟨w.heap.size, 0, none⟩) n n) (w.alloc (.cells (madeCells #[.int .i64 0] n) 3)) := fun w =>
  run_make_row' (P := Try.prog) 78 3 (.int .i64 0) 8 Try.underlying78 (by kernel_rfl) rfl .i64 .i64 n (by omega) (by omega) w
/-- numbers of a row -/
def nF (f : Nat → Nat) : Nat → Value := fun q => .int .i64 ((f q : Nat) : Int)
set_option maxHeartbeats 1000000 in
theorem newSets_c (n : Nat) (w : World) (hn : n ≤ 4096) :
    Calls Try.prog 35 #[.int .i64 (n : Int)] w fun e w' => ∃ T, e = .returned (.slice (some ⟨T, 0, none⟩) n n) ∧ w.heap.size ≤ T ∧ w'.rowIs T 3 n (nF fun q => q) ∧ Below w.heap.size w w' := by
  have hmk := mkSets n (by omega)
  go_enter Try.func35, Try.ntmps35
  go_wp2
  obtain ⟨T, hT⟩ : ∃ T, T = w.heap.size := ⟨_, rfl⟩
  have hT0 : w.heap.size ≤ T := by omega
  have HR0 : Hid ((w.alloc (.cells (madeCells #[.int .i64 0] n) 3)).rowIs T 3 n (nF fun q => if q < 0 then q else 0)) := by
    have h := World.rowIs_made w (.int .i64 0) n 3
    rw [← hT] at h
    exact h.congr (fun q _ => by simp [nF])
  have HB0 : Hid (Below w.heap.size w (w.alloc (.cells (madeCells #[.int .i64 0] n) 3))) := belA (Below.refl _ _) _
  rw [← hT]
  clear hmk hT
  generalize w.alloc (.cells (madeCells #[.int .i64 0] n) 3) = W0 at HR0 HB0 ⊢
  go_loopw [9] (fun s9 W => ∃ (i : Nat), i ≤ n ∧ s9 = .int .i64 i ∧ Hid (Below w.heap.size w W) ∧ Hid (W.rowIs T 3 n (nF fun q => if q < i then q else 0))) (fun s9 W => n - (intOf s9).toNat)
  case atStart => exact ⟨0, Nat.zero_le _, rfl, HB0.out, HR0.out⟩
  case round =>
    clear HB0 HR0
    obtain ⟨i, hi, rfl, HB, HR⟩ := hrel
    by_cases hlt : i < n
    · have c0 := HR.out.cell hlt
      have cf := HR.out.frozen i
      have hTl := HR.out.lt
      have i1 : (0 : Int) ≤ (i : Int) := by omega
      have i2 : (i : Int) < (n : Int) := by omega
      go_wp2
      go_roundw
      case rel =>
        refine ⟨i + 1, hlt, by go_num, HB.out.setCell hT0 _, (HR.out.set i _).congr (fun q hq => ?_)⟩
        unfold nF
        dsimp only
        split
        · rename_i e; subst e; rw [if_pos (Nat.lt_succ_self _)]
        · rename_i e; congr 2; split <;> split <;> omega
      case measure => simp [intOf]; omega
    · obtain rfl : i = n := by omega
      go_wp2
      go_ret
      exact ⟨T, rfl, hT0, HR.out.congr (fun q hq => by unfold nF; dsimp only; rw [if_pos hq]), HB.out⟩
set_option maxHeartbeats 1000000 in
theorem lowest_c (T n : Nat) (f : Nat → Nat) (i0 : Nat) (w : World) (hf : ∀ i, f i ≤ i) (hr : w.rowIs T 3 n (nF f)) (h0 : i0 < n) (hn : n ≤ 4096) :
    Calls Try.prog 37 #[.slice (some ⟨T, 0, none⟩) n n, .int .i64 (i0 : Int)] w fun e w' => ∃ f', e = .returned (.int .i64 ((rt f i0 : Nat) : Int)) ∧ Hid (∀ i, f' i ≤ i) ∧ Hid (∀ i, rt f' i = rt f i) ∧ Hid (w'.rowIs T 3 n (nF f')) ∧ Hid (Only T w w') := by
  have HF : Hid (∀ i, f i ≤ i) := hf
  have HR0 : Hid (w.rowIs T 3 n (nF f)) := hr
  clear hf hr
  go_enter Try.func37, Try.ntmps37
  go_wp2
  go_loopw [1] (fun s1 W => ∃ (i : Nat) (g : Nat → Nat), i < n ∧ s1 = .int .i64 i ∧ Hid (∀ q, g q ≤ q) ∧ Hid (∀ q, rt g q = rt f q) ∧ Hid (rt f i = rt f i0) ∧ Hid (W.rowIs T 3 n (nF g)) ∧ Hid (Only T w W)) (fun s1 W => (intOf s1).toNat)
  case atStart => exact ⟨i0, f, h0, rfl, HF.out, fun _ => rfl, rfl, HR0.out, Only.refl _ _⟩
  case round =>
    clear HR0
    obtain ⟨i, g, hi, rfl, HG, HE, HI, HR, HO⟩ := hrel
    have i1 : (0 : Int) ≤ (i : Int) := by omega
    have i2 : (i : Int) < (n : Int) := by omega
    have hgi := HG.out i
    have c0 : wr.cell? ⟨T, i, none⟩ = some (.int .i64 ((g i : Nat) : Int)) := HR.out.cell hi
    have hTl := HR.out.lt
    by_cases he : g i = i
    · rw [he] at c0
      have HX : Hid (rt f i0 = i) := by show rt f i0 = i; rw [← HI.out, ← HE.out]; exact rt_root he
      have ee : ((i : Int) != (i : Int)) = false := by simp
      clear he hgi
      go_wp2
      go_ret
      exact ⟨g, by rw [HX.out]; rfl, HG.out, HE.out, HR.out, HO.out⟩
    · have hlt : g i < i := by omega
      have cf := HR.out.frozen i
      have c1 : wr.cell? ⟨T, g i, none⟩ = some (.int .i64 ((g (g i) : Nat) : Int)) := HR.out.cell (by omega)
      have hgg := HG.out (g i)
      have HU : Hid (rt f (g (g i)) = rt f i0) := by
        show rt f (g (g i)) = rt f i0
        rw [← HI.out, ← HE.out i, rt_lt hlt, ← HE.out]
        by_cases h4 : g (g i) < g i
        · rw [rt_lt h4]
        · rw [show g (g i) = g i by omega]
      have HRn : Hid ((wr.setCell ⟨T, i, none⟩ (.int .i64 ((g (g i) : Nat) : Int))).rowIs T 3 n (nF (upd g i (g (g i))))) := (HR.out.set i _).congr (fun q _ => by unfold nF upd; split <;> rfl)
      have HUl : Hid (∀ q, upd g i (g (g i)) q ≤ q) := upd_le HG.out (by omega)
      have HUr : Hid (∀ q, rt (upd g i (g (g i))) q = rt f q) := fun q => (rt_halve HG.out i q).trans (HE.out q)
      have HOn : Hid (Only T w (wr.setCell ⟨T, i, none⟩ (.int .i64 ((g (g i) : Nat) : Int)))) := HO.out.set i _
      generalize hG2 : upd g i (g (g i)) = g2 at HRn HUl HUr
      generalize g (g i) = b at *
      generalize g i = a at *
      have a1 : (0 : Int) ≤ (a : Int) := by omega
      have a2 : (a : Int) < (n : Int) := by omega
      have ne : ((a : Int) != (i : Int)) = true := by simp; omega
      clear he hG2
      go_wp2
      go_roundw
      case rel => exact ⟨b, g2, by omega, rfl, HUl.out, HUr.out, HU.out, HRn.out, HOn.out⟩
      case measure => simp [intOf]; omega
set_option maxHeartbeats 1000000 in
theorem join_c (T n : Nat) (f : Nat → Nat) (a b : Nat) (w : World) (hf : ∀ i, f i ≤ i) (hr : w.rowIs T 3 n (nF f)) (ha : a < n) (hb : b < n) (hn : n ≤ 4096) :
    Calls Try.prog 36 #[.slice (some ⟨T, 0, none⟩) n n, .int .i64 (a : Int), .int .i64 (b : Int)] w fun e w' => ∃ g, e = .returned (.tuple #[]) ∧ Hid (∀ i, g i ≤ i) ∧ Hid (∀ i j, rt f i = rt f j → rt g i = rt g j) ∧ Hid (rt g a = rt g b) ∧ Hid (w'.rowIs T 3 n (nF g)) ∧ Hid (Only T w w') := by
  have HC1 : Hid (Calls Try.prog 37 #[.slice (some ⟨T, 0, none⟩) n n, .int .i64 (a : Int)] w fun e w' => ∃ f', e = .returned (.int .i64 ((rt f a : Nat) : Int)) ∧ Hid (∀ i, f' i ≤ i) ∧ Hid (∀ i, rt f' i = rt f i) ∧ Hid (w'.rowIs T 3 n (nF f')) ∧ Hid (Only T w w')) := lowest_c T n f a w hf hr ha hn
  have HC2 : Hid (∀ W f1, (∀ i, f1 i ≤ i) → (∀ i, rt f1 i = rt f i) → W.rowIs T 3 n (nF f1) → Calls Try.prog 37 #[.slice (some ⟨T, 0, none⟩) n n, .int .i64 (b : Int)] W fun e w' => ∃ f', e = .returned (.int .i64 ((rt f b : Nat) : Int)) ∧ Hid (∀ i, f' i ≤ i) ∧ Hid (∀ i, rt f' i = rt f i) ∧ (∀ q, w'.frozen? ⟨T, q, none⟩ = false) ∧ (∀ q, q < n → w'.cell? ⟨T, q, none⟩ = some (nF f' q)) ∧ T < w'.heap.size ∧ Hid (w'.rowIs T 3 n (nF f')) ∧ Hid (Only T W w')) := fun W f1 h1 h2 h3 =>
    (lowest_c T n f1 b W h1 h3 hb hn).mono fun e w' hh => by
      obtain ⟨f', rfl, x1, x2, x3, x4⟩ := hh
      exact ⟨f', by rw [h2], x1, fun i => (x2.out i).trans (h2 i), fun q => x3.out.frozen q, fun q hq => x3.out.cell hq, x3.out.lt, x3, x4⟩
  have ra := rt_le f a
  have rb := rt_le f b
  have HF : Hid (∀ i, f i ≤ i) := hf
  have HJ : Hid (∀ g : Nat → Nat, (∀ i, rt g i = rt f i) → (∀ i, g i ≤ i) → (∀ i, upd g (max (rt f a) (rt f b)) (min (rt f a) (rt f b)) i ≤ i) ∧ (∀ i j, rt f i = rt f j → rt (upd g (max (rt f a) (rt f b)) (min (rt f a) (rt f b))) i = rt (upd g (max (rt f a) (rt f b)) (min (rt f a) (rt f b))) j) ∧ rt (upd g (max (rt f a) (rt f b)) (min (rt f a) (rt f b))) a = rt (upd g (max (rt f a) (rt f b)) (min (rt f a) (rt f b))) b) := fun g h1 h2 => rt_joined hf a b h1 h2
  clear hf hr
  generalize rt f a = x at *
  generalize rt f b = y at *
  obtain ⟨hi, lo, hlo, hhi, hmx, hmn, hM, hN⟩ : ∃ hi lo : Nat, lo ≤ hi ∧ hi < n ∧ hi = max x y ∧ lo = min x y ∧ (max (x : Int) (y : Int) = (hi : Int)) ∧ (min (x : Int) (y : Int) = (lo : Int)) := ⟨max x y, min x y, by omega, by omega, rfl, rfl, by omega, by omega⟩
  have x1 : (0 : Int) ≤ (x : Int) := by omega
  have x2 : (x : Int) < (n : Int) := by omega
  have y1 : (0 : Int) ≤ (y : Int) := by omega
  have y2 : (y : Int) < (n : Int) := by omega
  rw [← hmx, ← hmn] at HJ
  rcases Nat.lt_trichotomy x y with hxy | hxy | hxy
  · obtain rfl : hi = y := by omega
    obtain rfl : lo = x := by omega
    have h1 : (lo : Int) < (hi : Int) := by omega
    have h2 : ¬ (hi : Int) < (lo : Int) := by omega
    clear hM hN hmx hmn
    go_enter Try.func36, Try.ntmps36
    go_wp2_with (first
      | (go_at_call 37; refine HC1.out.mono ?_; clear HC1; rintro e w1 ⟨f1, rfl, H1, H2, H3, H4⟩)
      | (go_at_call 37; refine (HC2.out _ f1 H1.out H2.out H3.out).mono ?_; rintro e w2 ⟨f2, rfl, K1, K2, kf, kc, kl, K3, K4⟩; have kc1 := kc hi hhi; have kf1 := kf hi; clear kc kf))
    go_end0
    obtain ⟨j1, j2, j3⟩ := HJ.out f2 K2.out K1.out
    exact ⟨_, rfl, j1, j2, j3, (K3.out.set hi _).congr (fun q _ => by unfold nF upd; split <;> rfl), (H4.out.trans K4.out).set hi _⟩
  · subst hxy
    obtain rfl : hi = x := by omega
    obtain rfl : lo = hi := by omega
    clear hM hN hmx hmn
    go_enter Try.func36, Try.ntmps36
    go_wp2_with (first
      | (go_at_call 37; refine HC1.out.mono ?_; clear HC1; rintro e w1 ⟨f1, rfl, H1, H2, H3, H4⟩)
      | (go_at_call 37; refine (HC2.out _ f1 H1.out H2.out H3.out).mono ?_; rintro e w2 ⟨f2, rfl, K1, K2, kf, kc, kl, K3, K4⟩; have kc1 := kc lo hhi; have kf1 := kf lo; clear kc kf))
    go_end0
    obtain ⟨j1, j2, j3⟩ := HJ.out f2 K2.out K1.out
    exact ⟨_, rfl, j1, j2, j3, (K3.out.set lo _).congr (fun q _ => by unfold nF upd; split <;> rfl), (H4.out.trans K4.out).set lo _⟩
  · obtain rfl : hi = x := by omega
    obtain rfl : lo = y := by omega
    have h1 : (lo : Int) < (hi : Int) := by omega
    have h2 : ¬ (hi : Int) < (lo : Int) := by omega
    clear hM hN hmx hmn
    go_enter Try.func36, Try.ntmps36
    go_wp2_with (first
      | (go_at_call 37; refine HC1.out.mono ?_; clear HC1; rintro e w1 ⟨f1, rfl, H1, H2, H3, H4⟩)
      | (go_at_call 37; refine (HC2.out _ f1 H1.out H2.out H3.out).mono ?_; rintro e w2 ⟨f2, rfl, K1, K2, kf, kc, kl, K3, K4⟩; have kc1 := kc hi hhi; have kf1 := kf hi; clear kc kf))
    go_end0
    obtain ⟨j1, j2, j3⟩ := HJ.out f2 K2.out K1.out
    exact ⟨_, rfl, j1, j2, j3, (K3.out.set hi _).congr (fun q _ => by unfold nF upd; split <;> rfl), (H4.out.trans K4.out).set hi _⟩
end Go.Proofs.Ytkgonnnpoldcoaa

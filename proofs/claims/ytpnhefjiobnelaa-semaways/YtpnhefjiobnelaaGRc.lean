/- Texts NrF NrG NrH, joined: what each part says stands ahead of it. -/
import Derived.Test.YtpnhefjiobnelaaGRb
import Derived.Test.YtpnhefjiobnelaaGYd
/- The reference's reader: primaries that are numbers or names. -/
namespace Go.Proofs.Ytpnhefjiobnelaa
open Go.RowKit Lg Rp
set_option linter.unusedVariables false
set_option linter.unusedSimpArgs false

/-- what reading an expression comes to -/
def ExR (b g cap : Nat) (l : List Tok) (w : World) (x : List Dc) (k : Nat) (e : Ending) (w' : World) : Prop :=
  (∃ a0 a1 a2 a3 a4 a5, e = .returned (.agg #[a0, a1, a2, a3, a4, a5]) ∧ DAt w' (Ge w.heap.size) x [a0, a1, a2, a3, a4, a5]) ∧ Rq b g cap l k w' ∧ Kp b w w'
theorem one6 {w : World} {N : Nat → Prop} {x : List Dc} {a0 a1 a2 a3 a4 a5 : Value} (h : DAt w N x [a0, a1, a2, a3, a4, a5]) : (#[a0, a1, a2, a3, a4, a5] : Array Value).all (·.oneCell') = true :=
  Array.all_eq_true_iff_forall_mem.2 fun u hu => h.one u (by simpa using hu)
theorem Rq.six {b g cap k R : Nat} {l : List Tok} {w : World} {v0 v1 v2 v3 v4 v5 : Value} (h : Rq b g cap l k w) (h1 : R ≠ b) (h2 : R ≠ g) : Rq b g cap l k ((((((w.setCell ⟨R, 0, none⟩ v0).setCell ⟨R, 1, none⟩ v1).setCell ⟨R, 2, none⟩ v2).setCell ⟨R, 3, none⟩ v3).setCell ⟨R, 4, none⟩ v4).setCell ⟨R, 5, none⟩ v5) :=
  (((((h.setR h1 h2).setR h1 h2).setR h1 h2).setR h1 h2).setR h1 h2).setR h1 h2
theorem Rq.row {b g cap k R : Nat} {l : List Tok} {w : World} {c : Array Value} (h : Rq b g cap l k w) (h1 : R ≠ b) (h2 : R ≠ g) : Rq b g cap l k (w.setRow R c) := h.oth Oth.row h1 h2
def zV : Array Value := #[.int .i64 0, .string ⟨#[]⟩, .string ⟨#[]⟩, .bool false, .slice none 0 0, .int .i64 0]
/-- a function's result, and a token that it holds -/
theorem box2 {w w' : World} {bb R : Nat} {c d : Array Value} {t1 t2 : TypeId} (hk : Kp bb ((w.alloc (.cells c t1)).alloc (.cells d t2)) w') (hb : bb < R) (hR : w.heap.size = R) :
    w'.heap[R]? = some (.cells c t1 (0, 0)) ∧ w'.heap[R + 1]? = some (.cells d t2 (0, 0)) := by
  subst hR
  constructor
  · refine (hk.block w.heap.size (by simp; omega) (by omega)).trans ?_
    show ((w.heap.push _).push _)[w.heap.size]? = _
    rw [Array.getElem?_push, if_neg (by simp), Array.getElem?_push, if_pos rfl]
  · refine (hk.block (w.heap.size + 1) (by simp) (by omega)).trans ?_
    show ((w.heap.push _).push _)[w.heap.size + 1]? = _
    rw [Array.getElem?_push, if_pos (by simp)]
theorem set_size {w : World} {a : Addr} {y : Value} : (w.setCell a y).heap.size = w.heap.size := by simp [World.setCell]
theorem cells3' {w : World} {R : Nat} {a b c : Value} {t : TypeId} (h : w.heap[R]? = some (.cells #[a, b, c] t (0, 0))) :
    w.cell? ⟨R, 0, none⟩ = some a ∧ w.cell? ⟨R, 1, none⟩ = some b ∧ w.cell? ⟨R, 2, none⟩ = some c ∧ (∀ j, w.frozen? ⟨R, j, none⟩ = false) ∧ R < w.heap.size := by
  refine ⟨?_, ?_, ?_, fun j => Lib.frozen_of_heap h j, heap_lt h⟩ <;> (rw [Lib.cell_of_heap h]; rfl)
theorem cells6' {w : World} {R : Nat} {a b c d e f : Value} {t : TypeId} (h : w.heap[R]? = some (.cells #[a, b, c, d, e, f] t (0, 0))) :
    w.cell? ⟨R, 0, none⟩ = some a ∧ w.cell? ⟨R, 1, none⟩ = some b ∧ w.cell? ⟨R, 2, none⟩ = some c ∧ w.cell? ⟨R, 3, none⟩ = some d ∧ w.cell? ⟨R, 4, none⟩ = some e ∧ w.cell? ⟨R, 5, none⟩ = some f ∧ (∀ j, w.frozen? ⟨R, j, none⟩ = false) ∧ R < w.heap.size := by
  refine ⟨?_, ?_, ?_, ?_, ?_, ?_, fun j => Lib.frozen_of_heap h j, heap_lt h⟩ <;> (rw [Lib.cell_of_heap h]; rfl)
theorem xr_size : (Try.prog.info? 81).map (·.size) = some 6 := by kernel_rfl
set_option maxRecDepth 100000 in
set_option maxHeartbeats 4000000 in
theorem rPrimNum {b g cap k : Nat} {l : List Tok} {w : World} (h : Rq b g cap l k w) (d : Nat) (hk2 : (tk l k).k = 2) (v : List UInt8) (pl : Bool) (hv : numV (tk l k).x = some (v, pl)) (hsz : (tk l k).x.length ≤ 100000) :
    Calls Try.prog 74 #[.pointer (some ⟨b, 0, none⟩), .int .i64 d] w fun e w' => ExR b g cap l w (xD 1 [] v pl 0 [] (tk l k).p) (k + 1) e w' := by
  obtain ⟨c0, c1, c3, cf⟩ := h.at_
  obtain ⟨d0, d1, d2⟩ := h.tok h.k
  have HN := fun w' => rNumber_c (S (tk l k).x) w' (by rw [size_S]; omega)
  obtain ⟨n1, n2, n3⟩ := num_some hv
  rw [L_S, n1, n2, n3] at HN
  have HX : Hid _ := h.next (by rw [hk2]; decide)
  have HT : Hid _ := h
  have hl := h.len
  have hk := h.k
  have hlt := h.lt
  have hb := h.blt
  have hne := h.ne
  obtain ⟨n, hn⟩ : ∃ n, n = l.length := ⟨_, rfl⟩
  rw [← hn] at c0 hk hl
  unfold ExR
  obtain ⟨⟨kk, tx, p⟩, ht⟩ : ∃ t, t = tk l k := ⟨_, rfl⟩
  rw [← ht] at d0 d1 d2 HN hk2 ⊢
  simp only at d0 d1 d2 HN hk2 ⊢
  subst hk2
  obtain ⟨sx, hsx⟩ : ∃ sx, sx = S tx := ⟨_, rfl⟩
  rw [← hsx] at d1 HN
  obtain ⟨sv, hsv⟩ : ∃ sv, sv = S v := ⟨_, rfl⟩
  rw [← hsv] at HN
  have HV : Hid _ := hsv
  clear h hn ht hsx hsv n1 n2 n3 hv hsz
  have hkI : (k : Int) < (n : Int) := by omega
  have hkb : k ≤ 100000 := by omega
  go_enter Try.func74, Try.ntmps74
  go_wp2
  go_region
  all_goals go_wp2_with (first
    | (go_at_call 25; refine (HN _).mono ?_; rintro e w2 ⟨rfl, hb2⟩; obtain ⟨B0, B1⟩ := box2 (R := w.heap.size) ((Kp.refl b _).drew.trans (Kp.of hb2)) hb set_size; obtain ⟨t0, t1, t2, tf, tl⟩ := cells3' B1; obtain ⟨u0, u1, u2, u3, u4, u5, uf, ul⟩ := cells6' B0))
  all_goals
    refine bodyPost_ret (v := .agg #[.int .i64 1, .string ⟨#[]⟩, .string sv, .bool pl, .slice none 0 0, .int .i64 p]) (by simp [results, Try.results74, go_sem, u0, u1, u2, u3, u4, u5, uf, ul]) rfl ?_
    rw [show sv = S v from HV.out]
    have hB := ((((Rq.set HT.out HX.out (.int .i64 ((k : Int) + 1)) (by simp)).below bxS).below bxS).below belD).below hb2
    exact ⟨⟨_, _, _, _, _, _, rfl, .i (.t (x := []) (.t (.b (.s0 (.i .nil)))))⟩, hB.six (by omega) (by omega), ((Kp.set.alloc.alloc.drew).trans (Kp.of hb2)).six (Nat.le_refl _)⟩
end Go.Proofs.Ytpnhefjiobnelaa

/- The reference's reader: a primary that is a name. -/
namespace Go.Proofs.Ytpnhefjiobnelaa
open Go.RowKit Lg Rp
set_option linter.unusedVariables false
set_option linter.unusedSimpArgs false

theorem sw_nm {l : List Tok} {k : Nat} (h : nmK l k = true) : (tk l k).k = 1 := by unfold nmK at h; simp at h; exact h.1
theorem hset6' {w : World} {b : Nat} {x0 x1 x2 x3 x4 x5 : Value} {t : TypeId} (h : w.heap[b]? = some (.cells #[x0, x1, x2, x3, x4, x5] t (0, 0))) (y0 y1 y2 y3 y4 y5 : Value) : ((((((w.setCell ⟨b, 0, none⟩ y0).setCell ⟨b, 1, none⟩ y1).setCell ⟨b, 2, none⟩ y2).setCell ⟨b, 3, none⟩ y3).setCell ⟨b, 4, none⟩ y4).setCell ⟨b, 5, none⟩ y5).heap[b]? = some (.cells #[y0, y1, y2, y3, y4, y5] t (0, 0)) := by
  simp only [World.setCell, Array.getElem?_modify, if_true, h, Option.map_some]
  rfl
theorem res6b {w w1 : World} {bb R : Nat} {c : Array Value} {t : TypeId} (h : Kp bb (w.alloc (.cells c t)) w1) (hb : bb < w.heap.size) (hR : w.heap.size = R) : w1.heap[R]? = some (.cells c t (0, 0)) := by
  subst hR
  exact (h.block w.heap.size (by simp) (by omega)).trans (by show (w.heap.push _)[w.heap.size]? = _; simp)
set_option maxRecDepth 100000 in
set_option maxHeartbeats 4000000 in
theorem rPrimName {b g cap k : Nat} {l : List Tok} {w : World} (h : Rq b g cap l k w) (d : Nat) (hn1 : nmK l k = true) (h40 : sw l k [40] = false) (h123 : sw l k [123] = false) (h91 : sw l (k + 1) [91] = false) :
    Calls Try.prog 74 #[.pointer (some ⟨b, 0, none⟩), .int .i64 d] w fun e w' => ExR b g cap l w (xD 2 (tk l k).x [] false 0 [] (tk l k).p) (k + 1) e w' := by
  obtain ⟨c0, c1, c3, cf⟩ := h.at_
  obtain ⟨d0, d1, d2⟩ := h.tok h.k
  have hk1 := sw_nm hn1
  have HA := fun w' (hb : Below w.heap.size w w') => rTakesN (h.below hb) ⟨#[40]⟩ h40
  have HB := fun w' (hb : Below w.heap.size w w') => rTakesN (h.below hb) ⟨#[123]⟩ h123
  have HM := fun w' (hb : Below w.heap.size w w') => rName (h.below hb) hn1
  have HC := fun w' (hs : Rq b g cap l (k + 1) w') => rTakesN hs ⟨#[91]⟩ h91
  have HT : Hid _ := h
  have hk := h.k
  have hlt := h.lt
  have hb := h.blt
  have hne := h.ne
  obtain ⟨n, hn⟩ : ∃ n, n = l.length := ⟨_, rfl⟩
  rw [← hn] at c0 hk
  unfold ExR
  obtain ⟨⟨kk, tx, p⟩, ht⟩ : ∃ t, t = tk l k := ⟨_, rfl⟩
  rw [← ht] at d0 d1 d2 HM hk1 ⊢
  simp only at d0 d1 d2 HM hk1 ⊢
  subst hk1
  obtain ⟨sx, hsx⟩ : ∃ sx, sx = S tx := ⟨_, rfl⟩
  rw [← hsx] at d1 HM
  have HV : Hid _ := hsx
  clear h hn ht hsx hn1 h40 h123 h91
  have hkI : (k : Int) < (n : Int) := by omega
  go_enter Try.func74, Try.ntmps74
  go_wp2
  go_region
  all_goals go_wp2_with (first
    | (have hx := hb2; go_at_call 30; refine (HB _ hB2).mono ?_; rintro e w3 ⟨rfl, hb3⟩; have hB3 := bel hB2 hb3; obtain ⟨B0, B1⟩ := box2 (bb := b) (R := w.heap.size) ((Kp.refl b _).drew.trans (Kp.of (bel hb2 hb3))) hb rfl; obtain ⟨t0, t1, t2, tf, tl⟩ := cells3' B1)
    | (go_at_call 30; refine (HA _ (bel bxS bxS).drew).mono ?_; rintro e w2 ⟨rfl, hb2⟩; have hB2 := bel (bel (bxS (w := w) (o := .cells zV 81)) bxS).drew hb2))
  all_goals go_region_with (first
    | (go_at_call 29; refine (HM _ hB3.drew).mono ?_; rintro e w4 ⟨rfl, hs4, hk4⟩; have hK4 : Kp b w3 w4 := (Kp.refl b w3).drew.trans hk4; have hT4 := (hK4.block (w.heap.size + 1) tl (by omega)).trans B1; obtain ⟨s0, s1, s2, sf, sl⟩ := cells3' hT4)
    | (go_at_call 29; refine (HM _ (belA hB3.drew _)).mono ?_; rintro e w4 ⟨rfl, hs4, hk4⟩; have hK4 : Kp b w3 w4 := ((Kp.refl b w3).drew.alloc).trans hk4; have hT4 := (hK4.block (w.heap.size + 1) tl (by omega)).trans B1; obtain ⟨s0, s1, s2, sf, sl⟩ := cells3' hT4; obtain ⟨v0, v1, v2, v3, v4, v5, vf, vl⟩ := res6 (R := w3.heap.size) hk4 (show b < w3.heap.size by omega) rfl))
  all_goals go_wp2_with (first
    | (have hx := vl; go_at_call 30; refine (HC _ (hs4.six (R := w3.heap.size) (by omega) (by omega))).mono ?_; rintro e w5 ⟨rfl, hb5⟩; have hX5 := (hb5.block w3.heap.size (by simp [World.setCell]; exact vl)).trans (hset6' (res6b (R := w3.heap.size) hk4 (show b < w3.heap.size by omega) rfl) _ _ _ _ _ _); have hs5 := (hs4.six (R := w3.heap.size) (by omega) (by omega)).below hb5; have hK5 : Kp b w3 w5 := (hK4.six (Nat.le_refl _)).trans (Kp.of hb5); obtain ⟨x0, x1, x2, x3, x4, x5, xf, xl⟩ := cells6' hX5; obtain ⟨y0, y1, y2, y3, y4, y5, yf, yl⟩ := cells6' ((hK5.block w.heap.size (heap_lt B0) (by omega)).trans B0))
    | (go_at_call 30; refine (HC _ (hs4.below bxS)).mono ?_; rintro e w5 ⟨rfl, hb5⟩; have hX5 := (hb5.block w4.heap.size (by simp)).trans (heap_alloc_last w4 _); have hs5 := (hs4.below bxS).below hb5; have hK5 : Kp b w3 w5 := (hK4.trans (Kp.of bxS)).trans (Kp.of hb5); obtain ⟨x0, x1, x2, x3, x4, x5, xf, xl⟩ := cells6' hX5; obtain ⟨y0, y1, y2, y3, y4, y5, yf, yl⟩ := cells6' ((hK5.block w.heap.size (heap_lt B0) (by omega)).trans B0)))
  all_goals
    refine bodyPost_ret (v := .agg #[.int .i64 2, .string sx, .string ⟨#[]⟩, .bool false, .slice none 0 0, .int .i64 p]) (by simp [results, Try.results74, go_sem, y0, y1, y2, y3, y4, y5, yf, yl]) rfl ?_
    rw [show sx = S tx from HV.out]
    exact ⟨⟨_, _, _, _, _, _, rfl, .i (.t (.t (x := []) (.b (.s0 (.i .nil)))))⟩, hs5.six (by omega) (by omega), ((Kp.of hB3).trans hK5).six (Nat.le_refl _)⟩
end Go.Proofs.Ytpnhefjiobnelaa

/- The reference's reader: a unary expression that is a primary; an expression without a question. -/
namespace Go.Proofs.Ytpnhefjiobnelaa
open Go.RowKit Lg Rp
set_option linter.unusedVariables false
set_option linter.unusedSimpArgs false

theorem DAt.monoG {w : World} {B B' : Nat} {x : List Dc} {v : List Value} (h : DAt w (Ge B) x v) (hB : B' ≤ B) : DAt w (Ge B') x v := h.mono fun g _ hg => by unfold Ge at hg ⊢; omega
set_option maxRecDepth 100000 in
set_option maxHeartbeats 4000000 in
theorem rUn {b g cap k k' : Nat} {l : List Tok} {w : World} {x : List Dc} (h : Rq b g cap l k w) (d : Nat) (hbg : bgK l k = true) (hk3 : (tk l k).k ≠ 3)
    (HP : ∀ w', Rq b g cap l k w' → Calls Try.prog 74 #[.pointer (some ⟨b, 0, none⟩), .int .i64 d] w' fun e w'' => ExR b g cap l w' x k' e w'') :
    Calls Try.prog 72 #[.pointer (some ⟨b, 0, none⟩), .int .i64 d] w fun e w' => ExR b g cap l w x k' e w' := by
  have HG := fun w' (hb : Below w.heap.size w w') => rGoing (h.below hb)
  have HB := fun w' (hb : Below w.heap.size w w') => rBegins (h.below hb)
  rw [hbg] at HB
  have HU := fun w' => rUnary_c (S (tk l k).x) w'
  rw [L_S] at HU
  have HT : Hid _ := h
  have hk := h.k
  have hbl := h.blt
  have hne := h.ne
  obtain ⟨n, hn⟩ : ∃ n, n = l.length := ⟨_, rfl⟩
  have HM : Hid _ := hn
  rw [← hn] at hk
  unfold ExR at HP ⊢
  have HD := fun w' (hb : Below w.heap.size w w') => (h.below hb).tok h.k
  obtain ⟨⟨kk, tx, p⟩, ht⟩ : ∃ t, t = tk l k := ⟨_, rfl⟩
  rw [← ht] at HU hk3 HD
  simp only at HU hk3 HD
  have b3 : (kk == 3) = false := by simpa using hk3
  obtain ⟨u, hu⟩ : ∃ u, u = unL tx := ⟨_, rfl⟩
  rw [← hu] at HU
  obtain ⟨sx, hsx⟩ : ∃ sx, sx = S tx := ⟨_, rfl⟩
  rw [← hsx] at HU HD
  have HD2 : Hid _ := HD
  clear h hn ht hsx hu hk3 hbg HD
  have hkI : (k : Int) < (n : Int) := by omega
  go_enter Try.func72, Try.ntmps72
  go_wp2_with (first
    | (have hx := hb1; go_at_call 18; refine (HG _ (bel bxS hb1)).mono ?_; rintro e w2 ⟨rfl, hw⟩; have hw2 := hw.symm; subst hw2; obtain ⟨c0, c1, c3, cf⟩ := (HT.out.below (bel bxS hb1)).at_; rw [← HM.out] at c0; obtain ⟨d0, d1, d2⟩ := HD2.out _ (bel bxS hb1); have hlt2 := (HT.out.below (bel bxS hb1)).lt; have hb2 := (HT.out.below (bel bxS hb1)).blt)
    | (go_at_call 18; refine (HG _ bxS).mono ?_; rintro e w0 ⟨rfl, hw⟩; have hw2 := hw.symm; subst hw2)
    | (go_at_call 55; refine (HB _ bxS).mono ?_; rintro e w1 ⟨rfl, hb1⟩))
  go_region
  all_goals go_wp2_with (first
    | (go_at_call 71; refine (HU _).mono ?_; rintro e w3 ⟨rfl, hb3⟩; obtain ⟨t0, t1, t2, tf, tl⟩ := res_cellsD hb3; have hB3 := bel (bel bxS hb1) (bel (belA (Below.refl w1.heap.size w1) _).drew hb3))
    | (go_at_call 74; refine (HP _ (HT.out.below hB3)).mono ?_; rintro e w4 ⟨⟨a0, a1, a2, a3, a4, a5, rfl, hv⟩, hs4, hk4⟩; have hR4 := res6b (R := w.heap.size) (bb := b) ((Kp.of (bel hb1 (bel (belA (Below.refl w1.heap.size w1) _).drew hb3))).trans hk4) hbl rfl)
    | (refine wpl_store rfl 81 _ _ rfl _ rfl _ rfl _ _ hR4 xr_size rfl (one6 hv) ?_))
  all_goals
    refine bodyPost_ret (results_cell (r := 4) (t := 81) rfl w.heap.size rfl _ _ _ (setRow_at hR4) Try.underlying81 rfl xr_size) rfl ?_
    have hg := HT.out.lt
    have z1 := hb1.size
    have z3 := hB3.size
    have z4 : w.heap.size < w3.heap.size := by have := hb1.size; simp at this; omega
    exact ⟨⟨_, _, _, _, _, _, rfl, (hv.keep (Up.row (by unfold Ge; omega))).monoG (by omega)⟩, hs4.row (by omega) (by omega), ((Kp.of hB3).trans hk4).row (Nat.le_refl _)⟩
set_option maxRecDepth 100000 in
set_option maxHeartbeats 4000000 in
theorem rExpr {b g cap k k' : Nat} {l : List Tok} {w : World} {x : List Dc} (h : Rq b g cap l k w) (d : Nat) (hbg : bgK l k = true) (hd : d ≤ 32) (hq : sw l k' [63] = false)
    (HP : ∀ w', Rq b g cap l k w' → Calls Try.prog 56 #[.pointer (some ⟨b, 0, none⟩), .int .i64 1, .int .i64 d] w' fun e w'' => ExR b g cap l w' x k' e w'') :
    Calls Try.prog 48 #[.pointer (some ⟨b, 0, none⟩), .int .i64 d] w fun e w' => ExR b g cap l w x k' e w' := by
  have HG := fun w' (hb : Below w.heap.size w w') => rGoing (h.below hb)
  have HB := fun w' (hb : Below w.heap.size w w') => rBegins (h.below hb)
  rw [hbg] at HB
  have HQ := fun w' (h : Rq b g cap l k' w') => rTakesN h ⟨#[63]⟩ hq
  have HL := fun w' (h : Rq b g cap l k' w') => rPlace h
  have HT : Hid _ := h
  have hbl := h.blt
  have hdI : (d : Int) ≤ 32 := by omega
  unfold ExR at HP ⊢
  obtain ⟨p, hp⟩ : ∃ p, p = (tk l k').p := ⟨_, rfl⟩
  rw [← hp] at HL
  clear h hbg hd hq hp
  go_enter Try.func48, Try.ntmps48
  go_wp2_with (first
    | (have hx := hb1; go_at_call 18; refine (HG _ (bel bxS hb1)).mono ?_; rintro e w2 ⟨rfl, hw⟩; have hw2 := hw.symm; subst hw2)
    | (go_at_call 18; refine (HG _ bxS).mono ?_; rintro e w0 ⟨rfl, hw⟩; have hw2 := hw.symm; subst hw2)
    | (go_at_call 55; refine (HB _ bxS).mono ?_; rintro e w1 ⟨rfl, hb1⟩)
    | (go_at_call 56; refine (HP _ (HT.out.below (bel bxS hb1))).mono ?_; rintro e w4 ⟨⟨a0, a1, a2, a3, a4, a5, rfl, hv⟩, hs4, hk4⟩)
    | (refine wpl_storeN rfl 81 _ _ rfl _ rfl rfl #[a0, a1, a2, a3, a4, a5] rfl _ _ xr_size rfl (one6 hv) ?_)
    | (go_at_call 27; refine (HL _ (hs4.below bxS)).mono ?_; rintro e w5 ⟨rfl, hb5⟩)
    | (go_at_call 30; refine (HQ _ ((hs4.below bxS).below hb5)).mono ?_; rintro e w6 ⟨rfl, hb6⟩; have hB6 : Below w4.heap.size w4 w6 := bel bxS (bel hb5 hb6); have hX6 := ((bel hb5 hb6).block w4.heap.size (by simp)).trans (heap_alloc_last w4 _); have hR6 := res6b (R := w.heap.size) (bb := b) (((Kp.of hb1).trans hk4).trans (Kp.of hB6)) hbl rfl)
    | (refine wpl_load rfl 81 _ rfl _ rfl _ _ _ hX6 Try.underlying81 rfl xr_size ?_)
    | (refine wpl_store rfl 81 _ _ rfl _ rfl _ rfl _ _ hR6 xr_size rfl (one6 hv) ?_))
  refine bodyPost_ret (results_cell (r := 4) (t := 81) rfl w.heap.size rfl _ _ _ (setRow_at hR6) Try.underlying81 rfl xr_size) rfl ?_
  have hg := HT.out.lt
  have z4 : w.heap.size < w1.heap.size := by have := hb1.size; simp at this; omega
  exact ⟨⟨_, _, _, _, _, _, rfl, ((hv.keep (Up.of (b := b) (Kp.of hB6) (by unfold Ge; omega))).keep (Up.row (by unfold Ge; omega))).monoG (by omega)⟩, (hs4.below hB6).row (by omega) (by omega), (((Kp.of (bel bxS hb1)).trans hk4).trans (Kp.of hB6)).row (Nat.le_refl _)⟩
end Go.Proofs.Ytpnhefjiobnelaa

/- A process at its block; cut, Done, Next. -/
import Derived.Test.YtokepgnnepjiaaaGreatGPe
namespace Go.Proofs.YtokepgnnepjiaaaGreat
set_option maxRecDepth 100000
open Go.RowKit Lg Nl Go.Maps
set_option linter.unusedVariables false
set_option linter.unusedSimpArgs false

/-- a process at its block -/
def prC (p F q : Nat) (d : Int) (vs : Value) (mk : Int) (vv : Value) (pp : Option Addr) : Obj := .cells #[.pointer (some ⟨p, 0, none⟩), .pointer (some ⟨F, 0, none⟩), .int .i64 d, vs, .int .i64 mk, vv, .pointer (some ⟨q, 0, none⟩), .pointer pp] 52 (0, 0)
theorem pr8 {W : World} {p F q : Nat} {d mk : Int} {vs vv : Value} {pp : Option Addr} (h : W.heap[p]? = some (prC p F q d vs mk vv pp)) :
    W.cell? ⟨p, 0, none⟩ = some (.pointer (some ⟨p, 0, none⟩)) ∧ W.cell? ⟨p, 1, none⟩ = some (.pointer (some ⟨F, 0, none⟩)) ∧ W.cell? ⟨p, 2, none⟩ = some (.int .i64 d) ∧ W.cell? ⟨p, 3, none⟩ = some vs ∧ W.cell? ⟨p, 4, none⟩ = some (.int .i64 mk) ∧ W.cell? ⟨p, 5, none⟩ = some vv ∧ W.cell? ⟨p, 6, none⟩ = some (.pointer (some ⟨q, 0, none⟩)) ∧ W.cell? ⟨p, 7, none⟩ = some (.pointer pp) := cells8 h
theorem pr8f {W : World} {p F q : Nat} {d mk : Int} {vs vv : Value} {pp : Option Addr} (h : W.heap[p]? = some (prC p F q d vs mk vv pp)) (i : Nat) : W.frozen? ⟨p, i, none⟩ = false := by unfold prC at h; simp [World.frozen?, h]
set_option maxHeartbeats 1000000 in
theorem cut_nil (p F q : Nat) (d mk tm : Int) (vv : Value) (pp : Option Addr) (w : World) (h : w.heap[p]? = some (prC p F q d (.slice none 0 0) mk vv pp)) :
    Calls Tryz.prog 42 #[.pointer (some ⟨p, 0, none⟩), .int .i64 tm] w fun e w' => e = .returned (.tuple #[.slice none 0 0, .slice none 0 0]) ∧ Below w.heap.size w w' := by
  obtain ⟨y0, y1, y2, y3, y4, y5, y6, y7⟩ := pr8 h
  clear h
  go_enter Tryz.func42, Tryz.ntmps42
  go_wp2_with fail
  go_loopw [6] (fun s6 W => s6 = .int .i64 0 ∧ Hid (W = w)) (fun s6 W => 0)
  case atStart => exact ⟨rfl, rfl⟩
  case round =>
    obtain ⟨rfl, HW⟩ := hrel
    rw [HW.out]
    go_wp2_with fail
    go_quiet (fail)
    go_wp2_with fail
    go_ret2
    exact ⟨rfl, Q.belDN (Below.refl _ _) _⟩
set_option maxHeartbeats 1000000 in
theorem cut_no (p F q bS cS : Nat) (d mk t tm : Int) (vv : Value) (pp : Option Addr) (w : World) (h : w.heap[p]? = some (prC p F q d (.slice (some ⟨bS, 0, none⟩) 1 cS) mk vv pp)) (hS : w.cell? ⟨bS, 0, none⟩ = some (.int .i64 t)) (ht : (t == tm) = false) :
    Calls Tryz.prog 42 #[.pointer (some ⟨p, 0, none⟩), .int .i64 tm] w fun e w' => e = .returned (.tuple #[.slice (some ⟨bS, 0, none⟩) 0 cS, .slice (some ⟨bS, 0, none⟩) 1 cS]) ∧ Below w.heap.size w w' := by
  obtain ⟨y0, y1, y2, y3, y4, y5, y6, y7⟩ := pr8 h
  clear h
  go_enter Tryz.func42, Tryz.ntmps42
  go_wp2_with fail
  go_loopw [6] (fun s6 W => s6 = .int .i64 0 ∧ Hid (W = w)) (fun s6 W => 0)
  case atStart => exact ⟨rfl, rfl⟩
  case round =>
    obtain ⟨rfl, HW⟩ := hrel
    rw [HW.out]
    go_wp2_with fail
    go_quiet (fail)
    go_wp2_with fail
    go_ret2
    exact ⟨rfl, Q.belDN (Below.refl _ _) _⟩
set_option maxHeartbeats 1000000 in
theorem cut_yes (p F q bS cS : Nat) (d mk tm : Int) (vv : Value) (pp : Option Addr) (w : World) (h : w.heap[p]? = some (prC p F q d (.slice (some ⟨bS, 0, none⟩) 1 cS) mk vv pp)) (hS : w.cell? ⟨bS, 0, none⟩ = some (.int .i64 tm)) (hc : 1 ≤ cS) :
    Calls Tryz.prog 42 #[.pointer (some ⟨p, 0, none⟩), .int .i64 tm] w fun e w' => ∃ ao c, e = .returned (.tuple #[.slice (some ⟨bS, 0, none⟩) 1 cS, .slice ao 0 c]) ∧ Below w.heap.size w w' := by
  obtain ⟨y0, y1, y2, y3, y4, y5, y6, y7⟩ := pr8 h
  clear h
  go_enter Tryz.func42, Tryz.ntmps42
  go_wp2_with fail
  go_loopw [6] (fun s6 W => ∃ (k : Int), (k = 0 ∨ k = 1) ∧ s6 = .int .i64 k ∧ Hid (W = w)) (fun s6 W => 1 - (intOf s6).toNat)
  case atStart => exact ⟨0, Or.inl rfl, rfl, rfl⟩
  case round =>
    obtain ⟨k, hk, rfl, HW⟩ := hrel
    rw [HW.out]
    rcases hk with rfl | rfl
    · go_wp2_with fail
      go_roundw
      case rel => exact ⟨1, Or.inr rfl, rfl, by first | exact rfl | exact True.intro⟩
      case measure => simp [intOf]
    · go_wp2_with fail
      go_quiet (fail)
      go_wp2_with fail
      all_goals (go_ret2; exact ⟨⟨_, _, rfl⟩, Q.belDN (Below.refl _ _) _⟩)
set_option maxHeartbeats 1000000 in
theorem pdone_c (p F q : Nat) (d mk : Int) (vs vv : Value) (pp : Option Addr) (w : World) (h : w.heap[p]? = some (prC p F q d vs mk vv pp)) :
    Calls Tryz.prog 8 #[.pointer (some ⟨p, 0, none⟩)] w fun e w' => e = .returned (.int .i64 d) ∧ w' = w := by
  obtain ⟨y0, y1, y2, y3, y4, y5, y6, y7⟩ := pr8 h
  have H : Hid (Calls Tryz.prog 22 #[.pointer (some ⟨p, 0, none⟩)] w fun e w' => e = .returned (.bool true) ∧ w' = w) := pgiven_c p w y0
  clear h
  go_enter Tryz.func8, Tryz.ntmps8
  go_wp2_with (first
    | (go_at_call 22; refine H.out.mono ?_; rintro e w1 ⟨rfl, hw⟩; rw [hw]; clear hw))
  go_ret
  exact ⟨rfl, rfl⟩
set_option maxHeartbeats 1000000 in
theorem pnext_0 (p F q : Nat) (mk : Int) (vs vv : Value) (pp : Option Addr) (w : World) (h : w.heap[p]? = some (prC p F q (-1) vs mk vv pp)) :
    Calls Tryz.prog 13 #[.pointer (some ⟨p, 0, none⟩)] w fun e w' => e = .returned (.tuple #[.int .i64 0, .bool true]) ∧ w' = w := by
  obtain ⟨y0, y1, y2, y3, y4, y5, y6, y7⟩ := pr8 h
  have H : Hid (Calls Tryz.prog 22 #[.pointer (some ⟨p, 0, none⟩)] w fun e w' => e = .returned (.bool true) ∧ w' = w) := pgiven_c p w y0
  clear h
  go_enter Tryz.func13, Tryz.ntmps13
  go_wp2_with (first
    | (go_at_call 22; refine H.out.mono ?_; rintro e w1 ⟨rfl, hw⟩; rw [hw]; clear hw))
  go_ret2
  exact ⟨rfl, rfl⟩
/-- the first event of a queue, if there is one -/
theorem minQ (B q : Nat) (v : Value) (w : World) (h : Q.Qh B q 4096 w v []) : Calls Tryz.prog 27 #[.pointer (some ⟨q, 0, none⟩)] w fun e w' => e = .returned (.tuple #[.agg #[.int .i64 0, .int .i64 0, .string ⟨#[]⟩, .int .i64 0, .int .i64 0, .bool false], .bool false]) ∧ Below w.heap.size w w' :=
  Q.min_none _ w fun W hW => Q.len_c B q 4096 v [] W (h.b.below hW)
set_option maxHeartbeats 2000000 in
theorem pnext_none (B p F q : Nat) (d hz mk : Int) (vv vq : Value) (pp : Option Addr) (w : World) (h : w.heap[p]? = some (prC p F q d (.slice none 0 0) mk vv pp)) (hF : w.cell? ⟨F, 1, none⟩ = some (.int .i64 hz)) (hd : 0 ≤ d) (h0 : 0 ≤ hz) (h1 : hz ≤ 1000000) (hq : Q.Qh B q 4096 w vq []) :
    Calls Tryz.prog 13 #[.pointer (some ⟨p, 0, none⟩)] w fun e w' => e = .returned (.tuple #[.int .i64 0, .bool false]) ∧ Below w.heap.size w w' := by
  obtain ⟨y0, y1, y2, y3, y4, y5, y6, y7⟩ := pr8 h
  have lp := hLt h
  have lF := World.block_lt_of_cell? w ⟨F, 1, none⟩ hF
  have H : Hid (Calls Tryz.prog 22 #[.pointer (some ⟨p, 0, none⟩)] w fun e w' => e = .returned (.bool true) ∧ w' = w) := pgiven_c p w y0
  have HM : Hid (Calls Tryz.prog 27 #[.pointer (some ⟨q, 0, none⟩)] w fun e w' => e = .returned (.tuple #[.agg #[.int .i64 0, .int .i64 0, .string ⟨#[]⟩, .int .i64 0, .int .i64 0, .bool false], .bool false]) ∧ Below w.heap.size w w') := minQ B q vq w hq
  clear h hq
  go_enter Tryz.func13, Tryz.ntmps13
  go_wp2_with (first
    | (go_at_call 22; refine H.out.mono ?_; rintro e w1 ⟨rfl, hw⟩; rw [hw]; clear hw)
    | (go_at_call 27; refine HM.out.mono ?_; rintro e w2 ⟨rfl, hb2⟩; have z1 := (hb2.cell (p := ⟨p, 1, none⟩) lp).trans y1; have z2 := (hb2.cell (p := ⟨F, 1, none⟩) lF).trans hF; have lp2 := Nat.lt_of_lt_of_le lp hb2.size; have lF2 := Nat.lt_of_lt_of_le lF hb2.size))
  go_ret2
  exact ⟨rfl, belA hb2 _⟩
set_option maxHeartbeats 2000000 in
theorem pnext_ev (B p F q m : Nat) (d hz mk : Int) (vv vq : Value) (pp : Option Addr) (l : List Q.Qu.Ev) (w : World) (h : w.heap[p]? = some (prC p F q d (.slice none 0 0) mk vv pp)) (hF : w.cell? ⟨F, 1, none⟩ = some (.int .i64 hz)) (hd : 0 ≤ d) (h0 : 0 ≤ hz) (h1 : hz ≤ 1000000) (hq : Q.Qh B q 4096 w vq l) (hm : l.length = m + 1) (hm2 : m ≤ 4096) (ht : (Q.Qu.g l 0).t ≤ hz) :
    Calls Tryz.prog 13 #[.pointer (some ⟨p, 0, none⟩)] w fun e w' => e = .returned (.tuple #[.int .i64 (Q.Qu.g l 0).t, .bool true]) ∧ Below w.heap.size w w' := by
  obtain ⟨y0, y1, y2, y3, y4, y5, y6, y7⟩ := pr8 h
  have lp := hLt h
  have lF := World.block_lt_of_cell? w ⟨F, 1, none⟩ hF
  have H : Hid (Calls Tryz.prog 22 #[.pointer (some ⟨p, 0, none⟩)] w fun e w' => e = .returned (.bool true) ∧ w' = w) := pgiven_c p w y0
  have HM := Q.min_c B q m 4096 vq l w hq hm hm2
  generalize Q.Qu.g l 0 = x at HM ht ⊢
  have HM2 : Hid (Calls Tryz.prog 27 #[.pointer (some ⟨q, 0, none⟩)] w fun e w' => e = .returned (.tuple #[.agg #[.int .i64 x.t, .int .i64 x.nd, .string x.v, .int .i64 x.fr, .int .i64 x.sq, .bool x.an], .bool true]) ∧ Below w.heap.size w w') := HM
  clear h hq HM hm hm2
  obtain ⟨xt, xn, xv, xf, xs, xa⟩ := x
  simp only at HM2 ht ⊢
  have hmin : min (hz + 1) xt = xt := by omega
  go_enter Tryz.func13, Tryz.ntmps13
  go_wp2_with (first
    | (go_at_call 22; refine H.out.mono ?_; rintro e w1 ⟨rfl, hw⟩; rw [hw]; clear hw)
    | (go_at_call 27; refine HM2.out.mono ?_; rintro e w2 ⟨rfl, hb2⟩; have z1 := (hb2.cell (p := ⟨p, 1, none⟩) lp).trans y1; have z2 := (hb2.cell (p := ⟨F, 1, none⟩) lF).trans hF; have lp2 := Nat.lt_of_lt_of_le lp hb2.size; have lF2 := Nat.lt_of_lt_of_le lF hb2.size))
  go_ret2
  exact ⟨rfl, belA hb2 _⟩
set_option maxHeartbeats 2000000 in
theorem pnext_late (B p F q m : Nat) (d hz mk : Int) (vv vq : Value) (pp : Option Addr) (l : List Q.Qu.Ev) (w : World) (h : w.heap[p]? = some (prC p F q d (.slice none 0 0) mk vv pp)) (hF : w.cell? ⟨F, 1, none⟩ = some (.int .i64 hz)) (hd : 0 ≤ d) (h0 : 0 ≤ hz) (h1 : hz ≤ 1000000) (hq : Q.Qh B q 4096 w vq l) (hm : l.length = m + 1) (hm2 : m ≤ 4096) (ht : hz < (Q.Qu.g l 0).t) :
    Calls Tryz.prog 13 #[.pointer (some ⟨p, 0, none⟩)] w fun e w' => e = .returned (.tuple #[.int .i64 0, .bool false]) ∧ Below w.heap.size w w' := by
  obtain ⟨y0, y1, y2, y3, y4, y5, y6, y7⟩ := pr8 h
  have lp := hLt h
  have lF := World.block_lt_of_cell? w ⟨F, 1, none⟩ hF
  have H : Hid (Calls Tryz.prog 22 #[.pointer (some ⟨p, 0, none⟩)] w fun e w' => e = .returned (.bool true) ∧ w' = w) := pgiven_c p w y0
  have HM := Q.min_c B q m 4096 vq l w hq hm hm2
  generalize Q.Qu.g l 0 = x at HM ht ⊢
  have HM2 : Hid (Calls Tryz.prog 27 #[.pointer (some ⟨q, 0, none⟩)] w fun e w' => e = .returned (.tuple #[.agg #[.int .i64 x.t, .int .i64 x.nd, .string x.v, .int .i64 x.fr, .int .i64 x.sq, .bool x.an], .bool true]) ∧ Below w.heap.size w w') := HM
  clear h hq HM hm hm2
  obtain ⟨xt, xn, xv, xf, xs, xa⟩ := x
  simp only at HM2 ht ⊢
  have hmin : min (hz + 1) xt = hz + 1 := by omega
  go_enter Tryz.func13, Tryz.ntmps13
  go_wp2_with (first
    | (go_at_call 22; refine H.out.mono ?_; rintro e w1 ⟨rfl, hw⟩; rw [hw]; clear hw)
    | (go_at_call 27; refine HM2.out.mono ?_; rintro e w2 ⟨rfl, hb2⟩; have z1 := (hb2.cell (p := ⟨p, 1, none⟩) lp).trans y1; have z2 := (hb2.cell (p := ⟨F, 1, none⟩) lF).trans hF; have lp2 := Nat.lt_of_lt_of_le lp hb2.size; have lF2 := Nat.lt_of_lt_of_le lF hb2.size))
  go_ret2
  exact ⟨rfl, belA hb2 _⟩
set_option maxHeartbeats 2000000 in
theorem pnext_st (B p F q bS cS : Nat) (d hz mk t : Int) (vv vq : Value) (pp : Option Addr) (w : World) (h : w.heap[p]? = some (prC p F q d (.slice (some ⟨bS, 0, none⟩) 1 cS) mk vv pp)) (hF : w.cell? ⟨F, 1, none⟩ = some (.int .i64 hz)) (hS : w.cell? ⟨bS, 0, none⟩ = some (.int .i64 t)) (hd : 0 ≤ d) (h0 : 0 ≤ hz) (h1 : hz ≤ 1000000) (ht : t ≤ hz) (hq : Q.Qh B q 4096 w vq []) :
    Calls Tryz.prog 13 #[.pointer (some ⟨p, 0, none⟩)] w fun e w' => e = .returned (.tuple #[.int .i64 t, .bool true]) ∧ Below w.heap.size w w' := by
  obtain ⟨y0, y1, y2, y3, y4, y5, y6, y7⟩ := pr8 h
  have lp := hLt h
  have lF := World.block_lt_of_cell? w ⟨F, 1, none⟩ hF
  have H : Hid (Calls Tryz.prog 22 #[.pointer (some ⟨p, 0, none⟩)] w fun e w' => e = .returned (.bool true) ∧ w' = w) := pgiven_c p w y0
  have HM : Hid (Calls Tryz.prog 27 #[.pointer (some ⟨q, 0, none⟩)] w fun e w' => e = .returned (.tuple #[.agg #[.int .i64 0, .int .i64 0, .string ⟨#[]⟩, .int .i64 0, .int .i64 0, .bool false], .bool false]) ∧ Below w.heap.size w w') := minQ B q vq w hq
  clear h hq
  have hmin : min (hz + 1) t = t := by omega
  go_enter Tryz.func13, Tryz.ntmps13
  go_wp2_with (first
    | (go_at_call 22; refine H.out.mono ?_; rintro e w1 ⟨rfl, hw⟩; rw [hw]; clear hw)
    | (go_at_call 27; refine HM.out.mono ?_; rintro e w2 ⟨rfl, hb2⟩; have z1 := (hb2.cell (p := ⟨p, 1, none⟩) lp).trans y1; have z2 := (hb2.cell (p := ⟨F, 1, none⟩) lF).trans hF; have lp2 := Nat.lt_of_lt_of_le lp hb2.size; have lF2 := Nat.lt_of_lt_of_le lF hb2.size))
  go_ret2
  exact ⟨rfl, belA hb2 _⟩
end Go.Proofs.YtokepgnnepjiaaaGreat

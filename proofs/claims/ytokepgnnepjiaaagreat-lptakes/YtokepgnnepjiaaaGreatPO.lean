/- A process goes through a time: the walk, over what its parts tell. -/
import Derived.Test.YtokepgnnepjiaaaGreatGPh
import Derived.Test.YtokepgnnepjiaaaGreatGPi
import Derived.Deep.RegionHeld
namespace Go.Proofs.YtokepgnnepjiaaaGreat
set_option maxRecDepth 100000
open Go.RowKit Lg Nl Go.Maps
set_option linter.unusedVariables false
set_option linter.unusedSimpArgs false

/-- the world behind the last stores of a time -/
def fin5 (W : World) (p : Nat) (pp' : Option Addr) (mk' tm : Int) (vs' vv' : Value) : World := ((((W.setCell ⟨p, 7, none⟩ (.pointer pp')).setCell ⟨p, 4, none⟩ (.int .i64 mk')).setCell ⟨p, 2, none⟩ (.int .i64 tm)).setCell ⟨p, 3, none⟩ vs').setCell ⟨p, 5, none⟩ vv'
set_option maxHeartbeats 8000000 in
theorem through_g (p F q bV cV : Nat) (d tm mk : Int) (xa : Option Addr) (xn xc : Nat) (pp : Option Addr) (w : World)
    (A1 : Option Addr → Nat → Nat → World → Prop)
    (A2 : Option Addr → Nat → Nat → Option Addr → Nat → Nat → Option Addr → Nat → Nat → World → Prop)
    (A3 : Option Addr → Nat → Nat → Option Addr → Nat → Nat → World → Prop)
    (A4 : Option Addr → Nat → Nat → Nat → Nat → World → Prop)
    (A5 : Option Addr → Nat → Nat → Nat → Nat → Option Addr → Nat → Nat → World → Prop)
    (A6 : Option Addr → Nat → Nat → Nat → Nat → Option Addr → Nat → Nat → Option Addr → Nat → Nat → World → Prop)
    (A7 : Option Addr → Nat → Nat → Nat → Nat → Option Addr → Nat → Nat → Option Addr → World → Prop)
    (hk0 : 0 ≤ mk) (hk1 : mk ≤ 1000000)
    (h1 : Calls Tryz.prog 41 #[.pointer (some ⟨p, 0, none⟩), .int .i64 tm] w fun e w' => ∃ a n c, e = .returned (.slice a n c) ∧ Hid (A1 a n c w'))
    (h2 : ∀ a n c W, A1 a n c W → Calls Tryz.prog 42 #[.pointer (some ⟨p, 0, none⟩), .int .i64 tm] W fun e w' => ∃ sa sn sc ta tn tc, e = .returned (.tuple #[.slice sa sn sc, .slice ta tn tc]) ∧ Hid (A2 a n c sa sn sc ta tn tc w'))
    (p2 : ∀ a n c sa sn sc ta tn tc W, A2 a n c sa sn sc ta tn tc W → W.heap[p]? = some (prC p F q d (.slice xa xn xc) mk (.slice (some ⟨bV, 0, none⟩) 1 cV) pp))
    (d2 : ∀ a n c sa sn sc ta tn tc W, A2 a n c sa sn sc ta tn tc W → A2 a n c sa sn sc ta tn tc W.drew)
    (h3 : ∀ a n c sa sn sc ta tn tc W, A2 a n c sa sn sc ta tn tc W → Calls Tryz.prog 44 #[.pointer (some ⟨F, 0, none⟩), .slice sa sn sc, .slice a n c] W fun e w' => ∃ ga gn gc, e = .returned (.slice ga gn gc) ∧ Hid (A3 ta tn tc ga gn gc w'))
    (p3 : ∀ ta tn tc ga gn gc W, A3 ta tn tc ga gn gc W → W.heap[p]? = some (prC p F q d (.slice xa xn xc) mk (.slice (some ⟨bV, 0, none⟩) 1 cV) pp))
    (h4 : ∀ ta tn tc ga gn gc W, A3 ta tn tc ga gn gc W → Calls Tryz.prog 43 #[.pointer (some ⟨F, 0, none⟩), .slice (some ⟨bV, 0, none⟩) 1 cV, .slice ga gn gc] W fun e w' => ∃ g4 c4, e = .returned (.slice (some ⟨g4, 0, none⟩) 1 c4) ∧ Hid (A4 ta tn tc g4 c4 w'))
    (p4 : ∀ ta tn tc g4 c4 W, A4 ta tn tc g4 c4 W → W.heap[p]? = some (prC p F q d (.slice xa xn xc) mk (.slice (some ⟨bV, 0, none⟩) 1 cV) pp))
    (h5 : ∀ ta tn tc g4 c4 W, A4 ta tn tc g4 c4 W → Calls Tryz.prog 45 #[.pointer (some ⟨p, 0, none⟩), .int .i64 tm, .slice (some ⟨g4, 0, none⟩) 1 c4] W fun e w' => ∃ ua un uc, e = .returned (.tuple #[.slice none 0 0, .slice ua un uc]) ∧ Hid (un ≤ 1000) ∧ Hid (A5 ta tn tc g4 c4 ua un uc w'))
    (p5 : ∀ ta tn tc g4 c4 ua un uc W, A5 ta tn tc g4 c4 ua un uc W → W.heap[p]? = some (prC p F q d (.slice xa xn xc) mk (.slice (some ⟨bV, 0, none⟩) 1 cV) pp))
    (d5 : ∀ ta tn tc g4 c4 ua un uc W, A5 ta tn tc g4 c4 ua un uc W → A5 ta tn tc g4 c4 ua un uc W.drew)
    (hl : ∀ ta tn tc g4 c4 ua un uc W, A5 ta tn tc g4 c4 ua un uc W → ∃ m : Nat, m ≤ 4096 ∧ Calls Tryz.prog 46 #[.pointer (some ⟨q, 0, none⟩)] W fun e w' => e = .returned (.int .i64 (m : Int)) ∧ w' = W)
    (h6 : ∀ ta tn tc g4 c4 ua un uc W, A5 ta tn tc g4 c4 ua un uc W → Calls Tryz.prog 49 #[.pointer (some ⟨F, 0, none⟩), .int .i64 tm, .slice (some ⟨bV, 0, none⟩) 1 cV, .slice (some ⟨g4, 0, none⟩) 1 c4] W fun e w' => ∃ ca cn cc, e = .returned (.slice ca cn cc) ∧ Hid (A6 ta tn tc g4 c4 ua un uc ca cn cc w'))
    (p6 : ∀ ta tn tc g4 c4 ua un uc ca cn cc W, A6 ta tn tc g4 c4 ua un uc ca cn cc W → W.heap[p]? = some (prC p F q d (.slice xa xn xc) mk (.slice (some ⟨bV, 0, none⟩) 1 cV) pp))
    (h7 : ∀ ta tn tc g4 c4 ua un uc ca cn cc W, A6 ta tn tc g4 c4 ua un uc ca cn cc W → Calls Tryz.prog 48 #[.pointer pp, .slice ca cn cc] W fun e w' => ∃ pp', e = .returned (.pointer pp') ∧ Hid (A7 ta tn tc g4 c4 ua un uc pp' w'))
    (p7 : ∀ ta tn tc g4 c4 ua un uc pp' W, A7 ta tn tc g4 c4 ua un uc pp' W → W.heap[p]? = some (prC p F q d (.slice xa xn xc) mk (.slice (some ⟨bV, 0, none⟩) 1 cV) pp)) :
    Calls Tryz.prog 23 #[.pointer (some ⟨p, 0, none⟩), .int .i64 tm] w fun e w' => ∃ ua un uc, e = .returned (.tuple #[.slice ua un uc, .int .i64 0]) ∧ ∃ ta tn tc g4 c4 pp' W, Hid (A7 ta tn tc g4 c4 ua un uc pp' W) ∧ Hid (w' = fin5 W p pp' (mk + (un : Int)) tm (.slice ta tn tc) (.slice (some ⟨g4, 0, none⟩) 1 c4)) := by
  have Hh1 : Hid (Calls Tryz.prog 41 #[.pointer (some ⟨p, 0, none⟩), .int .i64 tm] w fun e w' => ∃ a n c, e = .returned (.slice a n c) ∧ Hid (A1 a n c w')) := h1
  have Hh2 : Hid (∀ a n c W, A1 a n c W → Calls Tryz.prog 42 #[.pointer (some ⟨p, 0, none⟩), .int .i64 tm] W fun e w' => ∃ sa sn sc ta tn tc, e = .returned (.tuple #[.slice sa sn sc, .slice ta tn tc]) ∧ Hid (A2 a n c sa sn sc ta tn tc w')) := h2
  have Hp2 : Hid (∀ a n c sa sn sc ta tn tc W, A2 a n c sa sn sc ta tn tc W → W.heap[p]? = some (prC p F q d (.slice xa xn xc) mk (.slice (some ⟨bV, 0, none⟩) 1 cV) pp)) := p2
  have Hd2 : Hid (∀ a n c sa sn sc ta tn tc W, A2 a n c sa sn sc ta tn tc W → A2 a n c sa sn sc ta tn tc W.drew) := d2
  have Hh3 : Hid (∀ a n c sa sn sc ta tn tc W, A2 a n c sa sn sc ta tn tc W → Calls Tryz.prog 44 #[.pointer (some ⟨F, 0, none⟩), .slice sa sn sc, .slice a n c] W fun e w' => ∃ ga gn gc, e = .returned (.slice ga gn gc) ∧ Hid (A3 ta tn tc ga gn gc w')) := h3
  have Hp3 : Hid (∀ ta tn tc ga gn gc W, A3 ta tn tc ga gn gc W → W.heap[p]? = some (prC p F q d (.slice xa xn xc) mk (.slice (some ⟨bV, 0, none⟩) 1 cV) pp)) := p3
  have Hh4 : Hid (∀ ta tn tc ga gn gc W, A3 ta tn tc ga gn gc W → Calls Tryz.prog 43 #[.pointer (some ⟨F, 0, none⟩), .slice (some ⟨bV, 0, none⟩) 1 cV, .slice ga gn gc] W fun e w' => ∃ g4 c4, e = .returned (.slice (some ⟨g4, 0, none⟩) 1 c4) ∧ Hid (A4 ta tn tc g4 c4 w')) := h4
  have Hp4 : Hid (∀ ta tn tc g4 c4 W, A4 ta tn tc g4 c4 W → W.heap[p]? = some (prC p F q d (.slice xa xn xc) mk (.slice (some ⟨bV, 0, none⟩) 1 cV) pp)) := p4
  have Hh5 : Hid (∀ ta tn tc g4 c4 W, A4 ta tn tc g4 c4 W → Calls Tryz.prog 45 #[.pointer (some ⟨p, 0, none⟩), .int .i64 tm, .slice (some ⟨g4, 0, none⟩) 1 c4] W fun e w' => ∃ ua un uc, e = .returned (.tuple #[.slice none 0 0, .slice ua un uc]) ∧ Hid (un ≤ 1000) ∧ Hid (A5 ta tn tc g4 c4 ua un uc w')) := h5
  have Hp5 : Hid (∀ ta tn tc g4 c4 ua un uc W, A5 ta tn tc g4 c4 ua un uc W → W.heap[p]? = some (prC p F q d (.slice xa xn xc) mk (.slice (some ⟨bV, 0, none⟩) 1 cV) pp)) := p5
  have Hd5 : Hid (∀ ta tn tc g4 c4 ua un uc W, A5 ta tn tc g4 c4 ua un uc W → A5 ta tn tc g4 c4 ua un uc W.drew) := d5
  have Hhl : Hid (∀ ta tn tc g4 c4 ua un uc W, A5 ta tn tc g4 c4 ua un uc W → ∃ m : Nat, m ≤ 4096 ∧ Calls Tryz.prog 46 #[.pointer (some ⟨q, 0, none⟩)] W fun e w' => e = .returned (.int .i64 (m : Int)) ∧ w' = W) := hl
  have Hh6 : Hid (∀ ta tn tc g4 c4 ua un uc W, A5 ta tn tc g4 c4 ua un uc W → Calls Tryz.prog 49 #[.pointer (some ⟨F, 0, none⟩), .int .i64 tm, .slice (some ⟨bV, 0, none⟩) 1 cV, .slice (some ⟨g4, 0, none⟩) 1 c4] W fun e w' => ∃ ca cn cc, e = .returned (.slice ca cn cc) ∧ Hid (A6 ta tn tc g4 c4 ua un uc ca cn cc w')) := h6
  have Hp6 : Hid (∀ ta tn tc g4 c4 ua un uc ca cn cc W, A6 ta tn tc g4 c4 ua un uc ca cn cc W → W.heap[p]? = some (prC p F q d (.slice xa xn xc) mk (.slice (some ⟨bV, 0, none⟩) 1 cV) pp)) := p6
  have Hh7 : Hid (∀ ta tn tc g4 c4 ua un uc ca cn cc W, A6 ta tn tc g4 c4 ua un uc ca cn cc W → Calls Tryz.prog 48 #[.pointer pp, .slice ca cn cc] W fun e w' => ∃ pp', e = .returned (.pointer pp') ∧ Hid (A7 ta tn tc g4 c4 ua un uc pp' w')) := h7
  have Hp7 : Hid (∀ ta tn tc g4 c4 ua un uc pp' W, A7 ta tn tc g4 c4 ua un uc pp' W → W.heap[p]? = some (prC p F q d (.slice xa xn xc) mk (.slice (some ⟨bV, 0, none⟩) 1 cV) pp)) := p7
  clear h1 h2 p2 d2 h3 p3 h4 p4 h5 p5 d5 hl h6 p6 h7 p7
  go_enter Tryz.func23, Tryz.ntmps23
  go_wp2_with (first
    | (go_at_call 41; refine Hh1.out.mono ?_; rintro e w1 ⟨a, n, c, rfl, H1⟩)
    | (go_at_call 42; refine (Hh2.out a n c w1 H1.out).mono ?_; rintro e w2 ⟨sa, sn, sc, ta, tn, tc, rfl, H2⟩; have ky := Hp2.out _ _ _ _ _ _ _ _ _ _ H2.out; obtain ⟨y0, y1, y2, y3, y4, y5, y6, y7⟩ := pr8 ky; have ly := hLt ky; clear ky y0 y2 y3 y4 y6 y7))
  have H2d : Hid (A2 a n c sa sn sc ta tn tc w2.drew) := Hd2.out _ _ _ _ _ _ _ _ _ _ H2.out
  go_region_held (fun w' => w'.cell? ⟨p, 1, none⟩ = some (.pointer (some ⟨F, 0, none⟩)) ∧ w'.cell? ⟨p, 5, none⟩ = some (.slice (some ⟨bV, 0, none⟩) 1 cV)) (go_keep) (first
    | (go_at_call 44; refine (Hh3.out _ _ _ _ _ _ _ _ _ _ H2d.out).mono ?_; rintro e w3 ⟨ga, gn, gc, rfl, H3⟩; have kz := Hp3.out _ _ _ _ _ _ _ H3.out; obtain ⟨z0, z1, z2, z3, z4, z5, z6, z7⟩ := pr8 kz; have lz := hLt kz; clear kz z0 z2 z3 z4 z6 z7)
    | (go_at_call 43; refine (Hh4.out _ _ _ _ _ _ _ H3.out).mono ?_; rintro e w4 ⟨g4, c4, rfl, H4⟩; have ku := Hp4.out _ _ _ _ _ _ H4.out; obtain ⟨u0, u1, u2, u3, u4, u5, u6, u7⟩ := pr8 ku; have lu := hLt ku; clear ku u0 u2 u3 u4 u7))
  clear y1 y5 ly z1 z5 lz
  go_wp2_with (first
    | (go_at_call 45; refine (Hh5.out _ _ _ _ _ _ H4.out).mono ?_; rintro e w5 ⟨ua, un, uc, rfl, HU, H5⟩; have kv := Hp5.out _ _ _ _ _ _ _ _ _ H5.out; obtain ⟨v0, v1, v2, v3, v4, v5, v6, v7⟩ := pr8 kv; have lv := hLt kv; clear kv v0 v2 v3 v4; obtain ⟨m, hm, hlen⟩ := Hhl.out _ _ _ _ _ _ _ _ _ H5.out; have HLen : Hid (Calls Tryz.prog 46 #[.pointer (some ⟨q, 0, none⟩)] w5 fun e w' => e = .returned (.int .i64 (m : Int)) ∧ w' = w5) := hlen; clear hlen)
    | (go_at_call 46; refine HLen.out.mono ?_; rintro e w' ⟨rfl, hw⟩; rw [hw]; clear hw)
    | (go_at_call 47; refine (put_nil p w5).mono ?_; rintro e w' ⟨rfl, hw⟩; rw [hw]; clear hw))
  have H5d : Hid (A5 ta tn tc g4 c4 ua un uc w5.drew) := Hd5.out _ _ _ _ _ _ _ _ _ H5.out
  have hun : (un : Int) ≤ 1000 := by have := HU.out; omega
  clear u1 u5 u6 lu v6 hm HLen
  go_region_with (first
    | (go_at_call 49; refine (Hh6.out _ _ _ _ _ _ _ _ _ H5d.out).mono ?_; rintro e w6 ⟨ca, cn, cc, rfl, H6⟩; have ks := Hp6.out _ _ _ _ _ _ _ _ _ _ _ _ H6.out; obtain ⟨s0, s1, s2, s3, s4, s5, s6, s7⟩ := pr8 ks; have ls := hLt ks; clear ks s0 s1 s2 s3 s4 s5 s6)
    | (go_at_call 48; refine (Hh7.out _ _ _ _ _ _ _ _ _ _ _ _ H6.out).mono ?_; rintro e w7 ⟨pp', rfl, H7⟩; have kr := Hp7.out _ _ _ _ _ _ _ _ _ _ H7.out; obtain ⟨r0, r1, r2, r3, r4, r5, r6, r7⟩ := pr8 kr; have lr := hLt kr; have rf2 := pr8f kr 2; have rf3 := pr8f kr 3; have rf4 := pr8f kr 4; have rf5 := pr8f kr 5; have rf7 := pr8f kr 7; clear kr r0 r1 r6))
  all_goals
    clear v1 v5 v7 lv s7 ls
    go_wp2_with fail
    go_ret2
    exact ⟨ua, un, uc, rfl, ta, tn, tc, g4, c4, pp', w7, H7.out, rfl⟩
end Go.Proofs.YtokepgnnepjiaaaGreat

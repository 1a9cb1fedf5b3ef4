/- A queue and the document's one, side by side; drained. -/
import Derived.Test.YtfjkhcpneehdjaaEwE
namespace Go.Proofs.Ytfjkhcpneehdjaa
open Go.RowKit Qu Go.Maps
set_option linter.unusedVariables false
set_option linter.unusedSimpArgs false
set_option maxRecDepth 100000

/-- events of one number are one -/
def KU (s : List Ev) : Prop := ∀ a ∈ s, ∀ b ∈ s, a.fr = b.fr → a.sq = b.sq → a = b
theorem KU.sub {s t : List Ev} (h : KU s) (k : ∀ x ∈ t, x ∈ s) : KU t := fun a ha b hb => h a (k a ha) b (k b hb)
theorem min_eq {l s t : List Ev} {a : Ev} (hp : Hp l l.length) (p : l.Perm s) (sd : Sd s) (ku : KU s) (hs : s = a :: t) : g l 0 = a := by
  have ha : a ∈ s := by rw [hs]; simp
  obtain ⟨m, hm⟩ : ∃ m, l.length = m + 1 := ⟨t.length, by rw [p.length_eq, hs]; rfl⟩
  have h1 := hp_all hp a (p.mem_iff.2 ha)
  have hg : g l 0 ∈ s := p.mem_iff.1 (g0_mem hm)
  have h2 : le a (g l 0) := by
    rw [hs] at hg
    rcases List.mem_cons.1 hg with e | e
    · rw [e]; exact le_refl _
    · unfold Sd at sd; rw [hs] at sd; exact (List.pairwise_cons.1 sd).1 _ e
  exact ku _ hg a ha (by unfold le lt at h1 h2; omega) (by unfold le lt at h1 h2; omega)
/-- a queue and the document's one -/
structure Pr (B q : Nat) (lim : Int) (w0 W : World) (v : Value) (l : List Ev) (vr : Value) (s : List Ev) : Prop where
  fq : Wd B q lim w0 W v l
  r : EvS B W vr s
  t : Two v vr
  p : l.Perm s
  sd : Sd s
  ku : KU s
  n : (s.length : Int) ≤ lim
  m : lim ≤ 4096
/-- a list beside a queue that is called -/
theorem EvS.beside {B B' q : Nat} {lim : Int} {W W' : World} {v vr : Value} {l s : List Ev} (h : EvS B W vr s) (hq : Qh B' q lim W v l) (t : Two v vr) (hb : But2 q v.ownBlock W W') : EvS B W' vr s :=
  own_at h fun k hk => hb.block k (World.ownsRow.lt h k hk).2 (fun e => by subst e; exact own_neT h hq.b.blk (by decide) hk) (fun e => t k e hk)
theorem EvS.lt {B : Nat} {W : World} {v : Value} {l : List Ev} (h : EvS B W v l) : ∀ x, v.ownBlock = some x → x < W.heap.size := fun x e => (World.ownsRow.lt h x e).2
theorem g_drop {s : List Ev} {i : Nat} (h : i < s.length) : s.drop i = g s i :: s.drop (i + 1) := by rw [List.drop_eq_getElem_cons h, g_at h]
set_option maxHeartbeats 4000000 in
theorem drained1 {B q : Nat} {lim : Int} {w0 w : World} {v : Value} {l : List Ev} {gb n cap : Nat} {s : List Ev} (h : Pr B q lim w0 w v l (.slice (some ⟨gb, 0, none⟩) n cap) s) (hB : B ≤ w0.heap.size) (hnn : n = s.length) :
    Calls Try.prog 14 #[.pointer (some ⟨q, 0, none⟩), .agg #[.int .i64 lim, .slice (some ⟨gb, 0, none⟩) n cap]] w fun e w' => e = .returned (.bool true) ∧ Hid (But2 q v.ownBlock w w') ∧ Hid (Below B w0 w') := by
  have HP : Hid (Pr B q lim w0 w v l (.slice (some ⟨gb, 0, none⟩) n cap) s) := h
  have HN : Hid (n = s.length) := hnn
  clear hnn h
  have hn4 : n ≤ 4096 := by have h1 := HP.out.n; have h2 := HP.out.m; have h3 := HN.out; omega
  go_enter Try.func14, Try.ntmps14
  go_wp2
  obtain ⟨T, hT⟩ : ∃ T, T = w.heap.size := ⟨_, rfl⟩
  have HT : Hid (T = w.heap.size) := hT
  have HB0 : Hid (Below w.heap.size w (w.alloc (.cells #[.int .i64 lim, (.slice (some ⟨gb, 0, none⟩) n cap)] 29))) := belA (Below.refl _ _) _
  have HX0 : Hid ((w.alloc (.cells #[.int .i64 lim, (.slice (some ⟨gb, 0, none⟩) n cap)] 29)).heap[T]? = some (.cells #[.int .i64 lim, (.slice (some ⟨gb, 0, none⟩) n cap)] 29 (0, 0))) := alAt hT.symm
  rw [← hT]
  clear hT
  generalize w.alloc (.cells #[.int .i64 lim, (.slice (some ⟨gb, 0, none⟩) n cap)] 29) = W0 at HB0 HX0 ⊢
  go_loopw [5] (fun s5 W => ∃ (i : Nat) (v' : Value) (l' : List Ev), i ≤ n ∧ s5 = .int .i64 i ∧ Hid (Wd B q lim w0 W v' l') ∧ Hid (l'.Perm (s.drop i)) ∧ Hid (EvS B W (.slice (some ⟨gb, 0, none⟩) n cap) s) ∧ Hid (Two v' (.slice (some ⟨gb, 0, none⟩) n cap)) ∧ Hid (But2 q v.ownBlock w W ∧ Mv v v' w) ∧ Hid (W.heap[T]? = some (.cells #[.int .i64 lim, (.slice (some ⟨gb, 0, none⟩) n cap)] 29 (0, 0)))) (fun s5 W => n - (intOf s5).toNat)
  case atStart => exact ⟨0, v, l, Nat.zero_le _, rfl, HP.out.fq.up hB HB0.out, by show l.Perm (s.drop 0); rw [List.drop_zero]; exact HP.out.p, HP.out.r.below HB0.out, HP.out.t, ⟨But2.bel HB0.out, fun x e => Or.inl e⟩, HX0.out⟩
  case round =>
    clear HB0 HX0
    obtain ⟨i, v', l', hi, rfl, HW, HL, HR, HTw, HBt, HX⟩ := hrel
    obtain ⟨c0, c1, _, _⟩ := cells2 HX.out
    have lT := hLt HX.out
    by_cases hlt : i < n
    · have hl : i < s.length := by have := HN.out; omega
      have hlen : l'.length = (s.length - (i + 1)) + 1 := by rw [HL.out.length_eq, List.length_drop]; omega
      have hme : g l' 0 = g s i := min_eq HW.out.q.h HL.out (by have := HP.out.sd; unfold Sd at *; exact this.sublist (List.drop_sublist i s)) (HP.out.ku.sub fun x hx => List.mem_of_mem_drop hx) (g_drop hl)
      have HTk : Hid (Calls Try.prog 16 #[.pointer (some ⟨q, 0, none⟩)] wr fun e w' => e = .returned (.tuple #[.agg #[.int .i64 (g s i).t, .int .i64 (g s i).nd, .string (g s i).v, .int .i64 (g s i).fr, .int .i64 (g s i).sq, .bool (g s i).an], .bool true]) ∧ ∃ v2 l2, Hid (Wd B q lim w0 w' v2 l2) ∧ Hid (l'.Perm (g s i :: l2)) ∧ Hid (But2 q v'.ownBlock wr w') ∧ Hid (Mv v' v2 wr)) := by
        have k := take_w HW.out hB hlen (by have h1 := HP.out.n; have h2 := HP.out.m; omega)
        rw [hme] at k
        exact k
      have hr : EvR B wr gb cap s := by have := HR.out; rw [HN.out] at this; exact this
      obtain ⟨a0, a1, a2, a3, a4, a5⟩ := hr.cells i hl
      have i1 : (0 : Int) ≤ (i : Int) := by omega
      have i2 : (i : Int) < (n : Int) := by omega
      clear hme hlen hr
      obtain ⟨x, hx⟩ : ∃ x, x = g s i := ⟨_, rfl⟩
      have Hx : Hid (x = g s i) := hx
      rw [← hx] at HTk a0 a1 a2 a3 a4 a5
      clear hx
      go_wp2_with (first
        | (go_at_call 16; refine HTk.out.mono ?_; rintro e w2 ⟨rfl, v2, l2, r1, r2, r3, r4⟩))
      have nT : v'.ownBlock ≠ some T := own_neT HW.out.q.b.row HX.out (by decide)
      have nq : T ≠ q := fun e => by have h1 := hLt HP.out.fq.q.b.blk; have h2 := HT.out; omega
      obtain ⟨X, hX⟩ : ∃ X, X = w2.heap.size := ⟨_, rfl⟩
      obtain ⟨W3, hW3⟩ : ∃ W3, W3 = w2.alloc (.cells #[.int .i64 x.t, .int .i64 x.nd, .string x.v, .int .i64 x.fr, .int .i64 x.sq, .bool x.an] 34) := ⟨_, rfl⟩
      have b3 : Below w2.heap.size w2 W3 := by rw [hW3]; exact belA (Below.refl _ _) _
      have HX3 : Hid (W3.heap[T]? = some (.cells #[.int .i64 lim, (.slice (some ⟨gb, 0, none⟩) n cap)] 29 (0, 0))) := (b3.block T (by have := r3.out.size; omega)).trans ((r3.out.block T lT nq nT).trans HX.out)
      have HR3 : Hid (EvS B W3 (.slice (some ⟨gb, 0, none⟩) n cap) s) := (HR.out.beside HW.out.q HTw.out r3.out).below b3
      have HW3 : Hid (Wd B q lim w0 W3 v2 l2) := r1.out.up hB b3
      have HT3 : Hid (Two v2 (.slice (some ⟨gb, 0, none⟩) n cap)) := (HTw.out.sym.mv r4.out HR.out.lt).sym
      have HB3 : Hid (But2 q v.ownBlock w W3 ∧ Mv v v2 w) := ⟨(HBt.out.1.trans r3.out HBt.out.2).below b3, fun y e => by
        rcases r4.out y e with k | k
        · exact HBt.out.2 y k
        · exact Or.inr (Nat.le_trans HBt.out.1.size k)⟩
      have hr3 : EvR B W3 gb cap s := by have := HR3.out; rw [HN.out] at this; exact this
      obtain ⟨b0, b1, b2, b3', b4, b5⟩ := hr3.cells i hl
      rw [← Hx.out] at b0 b1 b2 b3' b4 b5
      obtain ⟨c0', c1', _, _⟩ := cells2 HX3.out
      obtain ⟨⟨d0, d1, d2, d3, d4, d5⟩, _⟩ := cell6 (w := W3) (b := X) (by rw [hW3]; exact alAt hX.symm)
      rw [← hX, ← hW3]
      have HL3 : Hid (l2.Perm (s.drop (i + 1))) := by
        have k := r2.out.symm.trans HL.out
        rw [g_drop hl, Hx.out] at k
        exact (List.perm_cons _).1 k
      clear hX hW3 b3 r1 r2 r3 r4 a0 a1 a2 a3 a4 a5 c0 c1 hr3 nT nq
      go_quiet (fail)
      go_wp2
      go_roundw
      case rel => exact ⟨i + 1, v2, l2, hlt, by go_num, HW3.out.up hB (belDN (Below.refl _ _) _), HL3.out, HR3.out.below (belDN (Below.refl _ _) _), HT3.out, ⟨HB3.out.1.below (belDN (Below.refl _ _) _), HB3.out.2⟩, HX3.out⟩
      case measure => simp [intOf]; omega
    · obtain rfl : n = i := by omega
      have HLn : Hid (Calls Try.prog 13 #[.pointer (some ⟨q, 0, none⟩)] wr fun e w' => e = .returned (.int .i64 (l'.length : Int)) ∧ w' = wr) := len_c _ q lim v' l' wr HW.out.q.b
      rw [show l'.length = 0 by rw [HL.out.length_eq, List.length_drop]; have := HN.out; omega] at HLn
      go_wp2_with (first
        | (go_at_call 13; refine HLn.out.mono ?_; rintro e w1 ⟨rfl, hw⟩; rw [hw]; clear hw))
      go_ret
      exact ⟨rfl, HBt.out.1, HW.out.b⟩
set_option maxHeartbeats 4000000 in
theorem drained0 {B q : Nat} {lim : Int} {w0 w : World} {v : Value} {l : List Ev} {s : List Ev} (h : Pr B q lim w0 w v l (.slice none 0 0) s) (hB : B ≤ w0.heap.size) (hnn : s = []) :
    Calls Try.prog 14 #[.pointer (some ⟨q, 0, none⟩), .agg #[.int .i64 lim, .slice none 0 0]] w fun e w' => e = .returned (.bool true) ∧ Hid (But2 q v.ownBlock w w') ∧ Hid (Below B w0 w') := by
  have HP : Hid (Pr B q lim w0 w v l (.slice none 0 0) s) := h
  have HN : Hid (0 = s.length) := by show 0 = s.length; rw [hnn]; rfl
  clear hnn h
  have hn4 : 0 ≤ 4096 := by have h1 := HP.out.n; have h2 := HP.out.m; have h3 := HN.out; omega
  go_enter Try.func14, Try.ntmps14
  go_wp2
  obtain ⟨T, hT⟩ : ∃ T, T = w.heap.size := ⟨_, rfl⟩
  have HT : Hid (T = w.heap.size) := hT
  have HB0 : Hid (Below w.heap.size w (w.alloc (.cells #[.int .i64 lim, (.slice none 0 0)] 29))) := belA (Below.refl _ _) _
  have HX0 : Hid ((w.alloc (.cells #[.int .i64 lim, (.slice none 0 0)] 29)).heap[T]? = some (.cells #[.int .i64 lim, (.slice none 0 0)] 29 (0, 0))) := alAt hT.symm
  rw [← hT]
  clear hT
  generalize w.alloc (.cells #[.int .i64 lim, (.slice none 0 0)] 29) = W0 at HB0 HX0 ⊢
  go_loopw [5] (fun s5 W => ∃ (i : Nat) (v' : Value) (l' : List Ev), i ≤ 0 ∧ s5 = .int .i64 i ∧ Hid (Wd B q lim w0 W v' l') ∧ Hid (l'.Perm (s.drop i)) ∧ Hid (EvS B W (.slice none 0 0) s) ∧ Hid (Two v' (.slice none 0 0)) ∧ Hid (But2 q v.ownBlock w W ∧ Mv v v' w) ∧ Hid (W.heap[T]? = some (.cells #[.int .i64 lim, (.slice none 0 0)] 29 (0, 0)))) (fun s5 W => 0 - (intOf s5).toNat)
  case atStart => exact ⟨0, v, l, Nat.zero_le _, rfl, HP.out.fq.up hB HB0.out, by show l.Perm (s.drop 0); rw [List.drop_zero]; exact HP.out.p, HP.out.r.below HB0.out, HP.out.t, ⟨But2.bel HB0.out, fun x e => Or.inl e⟩, HX0.out⟩
  case round =>
    clear HB0 HX0
    obtain ⟨i, v', l', hi, rfl, HW, HL, HR, HTw, HBt, HX⟩ := hrel
    obtain ⟨c0, c1, _, _⟩ := cells2 HX.out
    have lT := hLt HX.out
    by_cases hlt : i < 0
    · omega
    · obtain rfl : 0 = i := by omega
      have HLn : Hid (Calls Try.prog 13 #[.pointer (some ⟨q, 0, none⟩)] wr fun e w' => e = .returned (.int .i64 (l'.length : Int)) ∧ w' = wr) := len_c _ q lim v' l' wr HW.out.q.b
      rw [show l'.length = 0 by rw [HL.out.length_eq, List.length_drop]; have := HN.out; omega] at HLn
      go_wp2_with (first
        | (go_at_call 13; refine HLn.out.mono ?_; rintro e w1 ⟨rfl, hw⟩; rw [hw]; clear hw))
      go_ret
      exact ⟨rfl, HBt.out.1, HW.out.b⟩
theorem drained_c {B q : Nat} {lim : Int} {w0 w : World} {v : Value} {l : List Ev} {vr : Value} {s : List Ev} (h : Pr B q lim w0 w v l vr s) (hB : B ≤ w0.heap.size) :
    Calls Try.prog 14 #[.pointer (some ⟨q, 0, none⟩), .agg #[.int .i64 lim, vr]] w fun e w' => e = .returned (.bool true) ∧ Hid (But2 q v.ownBlock w w') ∧ Hid (Below B w0 w') := by
  rcases h.r.shape with ⟨rfl, hs⟩ | ⟨gb, cap, rfl, hr⟩
  · exact drained0 h hB hs
  · exact drained1 h hB rfl
end Go.Proofs.Ytfjkhcpneehdjaa

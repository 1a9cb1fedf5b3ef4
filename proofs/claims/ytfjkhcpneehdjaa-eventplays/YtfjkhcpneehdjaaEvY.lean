/- A copy and its queue know nothing of each other. -/
import Derived.Test.YtfjkhcpneehdjaaEvX
namespace Go.Proofs.Ytfjkhcpneehdjaa
open Go.RowKit Qu Go.Maps
set_option linter.unusedVariables false
set_option linter.unusedSimpArgs false
set_option maxRecDepth 100000

def mkK (zs : List Int) (j : Nat) : Ev := ⟨zs.getD j 0 % 4096, 0, ⟨#[]⟩, 0, (j : Int), false⟩
/-- two rows are not one -/
def Two (v v' : Value) : Prop := ∀ x, v.ownBlock = some x → v'.ownBlock ≠ some x
theorem Two.sym {v v' : Value} (h : Two v v') : Two v' v := fun x a b => h x b a
theorem Two.mv {v v' v2 : Value} {W : World} (t : Two v v') (m : Mv v' v2 W) (hl : ∀ x, v.ownBlock = some x → x < W.heap.size) : Two v v2 := fun x a b => by
  rcases m x b with e | e
  · exact t x a e
  · have := hl x a; omega
theorem Qh.lt {B q : Nat} {lim : Int} {W : World} {v : Value} {l : List Ev} (h : Qh B q lim W v l) : ∀ x, v.ownBlock = some x → x < W.heap.size := fun x e => (World.ownsRow.lt h.b.row x e).2
/-- a queue beside one that is called -/
theorem Qh.beside {B B' q q' : Nat} {lim lim' : Int} {W W' : World} {v v' : Value} {l l' : List Ev} (h : Qh B q lim W v l) (h' : Qh B' q' lim' W v' l') (ne : q ≠ q') (t : Two v v') (hb : But2 q' v'.ownBlock W W') : Qh B q lim W' v l :=
  ⟨⟨(hb.block q (hLt h.b.blk) ne (own_neT h'.b.row h.b.blk (by decide))).trans h.b.blk, own_at h.b.row fun k hk => hb.block k (h.lt k hk) (fun e => by subst e; exact own_neT h.b.row h'.b.blk (by decide) hk) (t k hk), h.b.ge⟩, h.h⟩
theorem own_mono {w : World} {B B' e z n : Nat} {v : Value} {xs : List Value} (h : w.ownsRow B e z v n xs) (hB : B' ≤ B) : w.ownsRow B' e z v n xs := by
  obtain ⟨h1, h2⟩ := h
  refine ⟨h1, ?_⟩
  rcases h2 with h2 | ⟨g, cap, cur, a, hg, r⟩
  · exact Or.inl h2
  · exact Or.inr ⟨g, cap, cur, a, Nat.le_trans hB hg, r⟩
theorem Qh.mono {B B' q : Nat} {lim : Int} {W : World} {v : Value} {l : List Ev} (h : Qh B q lim W v l) (hB : B' ≤ B) : Qh B' q lim W v l := ⟨⟨h.b.blk, own_mono h.b.row hB, Nat.le_trans hB h.b.ge⟩, h.h⟩
/-- a queue and two copies -/
structure Tri (B q c d : Nat) (w0 W : World) (vq vc vd : Value) (lq lc ld : List Ev) : Prop where
  fq : Wd B q 4096 w0 W vq lq
  fc : Qh B c 4096 W vc lc
  fd : Qh B d 4096 W vd ld
  qc : q ≠ c
  qd : q ≠ d
  cd : c ≠ d
  tqc : Two vq vc
  tqd : Two vq vd
  tcd : Two vc vd
theorem Tri.up {B q c d : Nat} {w0 W W' : World} {vq vc vd : Value} {lq lc ld : List Ev} (h : Tri B q c d w0 W vq vc vd lq lc ld) (hB : B ≤ w0.heap.size) (hb : Below W.heap.size W W') : Tri B q c d w0 W' vq vc vd lq lc ld := ⟨h.fq.up hB hb, h.fc.below hb, h.fd.below hb, h.qc, h.qd, h.cd, h.tqc, h.tqd, h.tcd⟩
theorem Tri.actC {B q c d : Nat} {w0 W W' : World} {vq vc vd vc' : Value} {lq lc ld lc' : List Ev} (h : Tri B q c d w0 W vq vc vd lq lc ld) (hB : B ≤ w0.heap.size) (hc : Qh B c 4096 W' vc' lc') (hb : But2 c vc.ownBlock W W') (hm : Mv vc vc' W) : Tri B q c d w0 W' vq vc' vd lq lc' ld :=
  ⟨⟨h.fq.q.beside h.fc h.qc h.tqc hb, h.fq.b.trans (hb.belowB h.fc.b.ge h.fc.own_ge (by have := h.fq.b.size; omega))⟩, hc, h.fd.beside h.fc h.cd.symm h.tcd.sym hb, h.qc, h.qd, h.cd, h.tqc.mv hm h.fq.q.lt, h.tqd, (h.tcd.sym.mv hm h.fd.lt).sym⟩
theorem Tri.actQ {B q c d : Nat} {w0 W W' : World} {vq vc vd vq' : Value} {lq lc ld lq' : List Ev} (h : Tri B q c d w0 W vq vc vd lq lc ld) (hq : Wd B q 4096 w0 W' vq' lq') (hb : But2 q vq.ownBlock W W') (hm : Mv vq vq' W) : Tri B q c d w0 W' vq' vc vd lq' lc ld :=
  ⟨hq, h.fc.beside h.fq.q h.qc.symm h.tqc.sym hb, h.fd.beside h.fq.q h.qd.symm h.tqd.sym hb, h.qc, h.qd, h.cd, (h.tqc.sym.mv hm h.fc.lt).sym, (h.tqd.sym.mv hm h.fd.lt).sym, h.tcd⟩
theorem Tri.actD {B q c d : Nat} {w0 W W' : World} {vq vc vd vd' : Value} {lq lc ld ld' : List Ev} (h : Tri B q c d w0 W vq vc vd lq lc ld) (hB : B ≤ w0.heap.size) (hd : Qh B d 4096 W' vd' ld') (hb : But2 d vd.ownBlock W W') (hm : Mv vd vd' W) : Tri B q c d w0 W' vq vc vd' lq lc ld' :=
  ⟨⟨h.fq.q.beside h.fd h.qd h.tqd hb, h.fq.b.trans (hb.belowB h.fd.b.ge h.fd.own_ge (by have := h.fq.b.size; omega))⟩, h.fc.beside h.fd h.cd h.tcd hb, hd, h.qc, h.qd, h.cd, h.tqc, h.tqd.mv hm h.fq.q.lt, h.tcd.mv hm h.fc.lt⟩
theorem tri_start {B q c d : Nat} {w0 W W1 W2 : World} {vq vc vd : Value} {l : List Ev} (h : Wd B q 4096 w0 W vq l) (hB : B ≤ w0.heap.size) (h1 : Qh W.heap.size c 4096 W1 vc l) (b1 : Below W.heap.size W W1) (h2 : Qh W1.heap.size d 4096 W2 vd l) (b2 : Below W1.heap.size W1 W2) : Tri B q c d w0 W2 vq vc vd l l l := by
  have s0 := h.b.size
  have s1 := b1.size
  have lq := hLt h.q.b.blk
  have gc := h1.b.ge
  have gd := h2.b.ge
  have lc := hLt h1.b.blk
  refine ⟨h.up hB (belT b1 b2), (h1.below b2).mono (by omega), h2.mono (by omega), by omega, by omega, by omega, fun x a b => ?_, fun x a b => ?_, fun x a b => ?_⟩
  · have := h.q.lt x a; have := h1.own_ge x b; omega
  · have := h.q.lt x a; have := h2.own_ge x b; omega
  · have := h1.lt x a; have := h2.own_ge x b; omega
/-- what the copy holds behind i rounds -/
structure Cl (n i : Nat) (lc : List Ev) : Prop where
  l : lc.length = max n (min 1 i)
  k : ∀ z ∈ lc, z.fr = 0 ∨ (z.fr = 9 ∧ z.sq < (i : Int))
def mk9 (i : Nat) : Ev := ⟨1048576, 0, ⟨#[]⟩, 9, (i : Int), false⟩
/-- the copy gives one, if it has one -/
theorem c_take {B q c d : Nat} {w0 W : World} {vq vc vd : Value} {lq lc ld : List Ev} (h : Tri B q c d w0 W vq vc vd lq lc ld) (hB : B ≤ w0.heap.size) (hl : lc.length ≤ 4096) :
    Calls Try.prog 16 #[.pointer (some ⟨c, 0, none⟩)] W fun e w' => (∃ r, e = .returned r) ∧ ∃ vc' lc', Hid (Tri B q c d w0 w' vq vc' vd lq lc' ld) ∧ Hid (lc'.length = lc.length - 1 ∧ ∀ z ∈ lc', z ∈ lc) := by
  have hz := h.fq.b.size
  rcases Nat.eq_zero_or_pos lc.length with e | e
  · have e' : lc = [] := List.eq_nil_of_length_eq_zero e
    subst e'
    refine (take_none (some ⟨c, 0, none⟩) W (fun W' hW' => len_c B c 4096 vc [] W' (h.fc.b.below hW'))).mono ?_
    rintro e w' ⟨rfl, hb⟩
    exact ⟨⟨_, rfl⟩, vc, [], h.up hB hb, rfl, fun z hz => hz⟩
  · obtain ⟨m, hm⟩ : ∃ m, lc.length = m + 1 := ⟨lc.length - 1, by omega⟩
    refine (take_c B c m 4096 vc lc W h.fc hm (by omega) (by omega)).mono ?_
    rintro e w' ⟨rfl, v', l', a, b, c1, d1⟩
    refine ⟨⟨_, rfl⟩, v', l', h.actC hB a.out c1.out d1.out, ?_, fun z hz => b.out.mem_iff.2 (by simp [hz])⟩
    have := b.out.length_eq
    simp at this
    omega
/-- and takes one -/
theorem c_put {B q c d n i : Nat} {w0 W : World} {vq vc vd : Value} {lq lc ld : List Ev} (h : Tri B q c d w0 W vq vc vd lq lc ld) (hB : B ≤ w0.heap.size) (hl : lc.length = max n (min 1 i) - 1) (hn : n ≤ 100) (hk : ∀ z ∈ lc, z.fr = 0 ∨ (z.fr = 9 ∧ z.sq < (i : Int))) :
    Calls Try.prog 15 #[.pointer (some ⟨c, 0, none⟩), .agg #[.int .i64 1048576, .int .i64 0, .string ⟨#[]⟩, .int .i64 9, .int .i64 (i : Int), .bool false]] W fun e w' => e = .returned (.int .i64 0) ∧ ∃ vc' lc', Hid (Tri B q c d w0 w' vq vc' vd lq lc' ld) ∧ Hid (Cl n (i + 1) lc') := by
  have hz := h.fq.b.size
  refine (put_ok B c 4096 vc lc (mk9 i) W h.fc (by show (0 : Int) ≤ 1048576; omega) rfl (by omega) (hasK_no.2 fun z hz => ?_) (by show (1048576 : Int) ≤ _; omega) (by omega) (by omega)).mono ?_
  · rintro ⟨a, b⟩
    have a' : z.fr = 9 := a
    have b' : z.sq = (i : Int) := b
    rcases hk z hz with k | k <;> omega
  · rintro e w' ⟨rfl, v', l', a, b, c1, d1⟩
    refine ⟨rfl, v', l', h.actC hB a.out c1.out d1.out, ?_, fun z hz => ?_⟩
    · have := b.out.length_eq
      simp at this
      omega
    · have hz' := b.out.mem_iff.1 hz
      rcases List.mem_cons.1 hz' with e | e
      · subst e; right; refine ⟨rfl, ?_⟩; show (i : Int) < ((i + 1 : Nat) : Int); omega
      · rcases hk z e with k | k
        · exact Or.inl k
        · right; refine ⟨k.1, ?_⟩; have := k.2; omega
theorem same_min {zs : List Int} {n : Nat} {lq ld : List Ev} {js : List Nat} (hq : Rem (mkK zs) n lq js) (hd : Rem (mkK zs) n ld js) (h1 : Hp lq lq.length) (h2 : Hp ld ld.length) {m : Nat} (hm : lq.length = m + 1) : g ld 0 = g lq 0 ∧ (g lq 0).fr = 0 := by
  have hm' : ld.length = m + 1 := by rw [hd.len, ← hq.len]; exact hm
  have pq : lq.Perm ld := hq.p.trans hd.p.symm
  have a := hp_all h1 _ (pq.mem_iff.2 (g0_mem hm'))
  have b := hp_all h2 _ (pq.mem_iff.1 (g0_mem hm))
  obtain ⟨j, _, e⟩ := List.mem_map.1 (hq.p.mem_iff.1 (g0_mem hm))
  obtain ⟨j', _, e'⟩ := List.mem_map.1 (hd.p.mem_iff.1 (g0_mem hm'))
  have hs : (g lq 0).sq = (g ld 0).sq := by unfold le lt at a b; omega
  rw [← e, ← e'] at hs
  have e3 : (j : Int) = (j' : Int) := hs
  have e4 : j = j' := by omega
  subst e4
  exact ⟨by rw [← e, ← e'], by rw [← e]; rfl⟩
set_option maxHeartbeats 8000000 in
theorem EventCopies_c (zs : List Int) (taken : Int) (v0 : Value) (w : World) (h : IntsAt w v0 zs) : Calls Try.prog 7 #[v0, .int .i64 taken] w fun e w' => e = .returned (.bool true) ∧ Below w.heap.size w w' := by
  obtain ⟨tk, htk, ht2⟩ : ∃ tk : Nat, bits .and .i64 taken 127 = (tk : Int) ∧ tk < 128 := ⟨(taken % 128).toNat, by rw [and127]; omega, by omega⟩
  obtain ⟨ao, cap, rfl⟩ := h.get
  have HI : Hid (IntsAt w (.slice ao zs.length cap) zs) := h
  clear h
  obtain ⟨n, hn⟩ : ∃ n, n = zs.length := ⟨_, rfl⟩
  have HN : Hid (n = zs.length) := hn
  rw [← hn]
  clear hn
  obtain ⟨q, hq⟩ : ∃ q, q = w.heap.size := ⟨_, rfl⟩
  obtain ⟨W0, hW0⟩ : ∃ W0, W0 = w.alloc (.cells #[.pointer (some ⟨w.heap.size, 0, none⟩), .int .i64 4096, .slice none 0 0] 51) := ⟨_, rfl⟩
  have HW0 : Hid (Wd w.heap.size q 4096 w W0 (.slice none 0 0) []) := by rw [hW0, hq]; exact ⟨Qh.start _ 4096 w (Nat.le_refl _), belA (Below.refl _ _) _⟩
  have HNw : Hid (Calls Try.prog 8 #[.int .i64 4096] w fun e w' => e = .returned (.tuple #[.pointer (some ⟨q, 0, none⟩), .int .i64 0]) ∧ w' = W0) := by rw [hW0, hq]; exact new_c 4096 w (by omega) (by omega)
  have HQ : Hid (q = w.heap.size) := hq
  clear hq hW0
  have HAw : Hid (∀ W, Calls Try.prog 10 #[] W fun e w' => e = .returned (.bool true) ∧ Below W.heap.size W w') := awake14
  by_cases hbig : 100 < n
  · have g1 : decide ((100 : Int) < (n : Int)) = true := by rw [decide_eq_true_eq]; omega
    go_enter Try.func7, Try.ntmps7
    go_wp2_with (first
      | (go_at_call 8; refine HNw.out.mono ?_; rintro e w1 ⟨rfl, hw⟩; rw [hw]; clear hw)
      | (go_at_call 10; refine (HAw.out _).mono ?_; rintro e wA ⟨rfl, hbA⟩))
    go_ret
    exact ⟨rfl, belN HW0.out.b (Nat.le_refl _) hbA⟩
  · have g1 : decide ((100 : Int) < (n : Int)) = false := by rw [decide_eq_false_iff_not]; omega
    obtain ⟨gz, oz, HZ⟩ : ∃ gz oz, Hid ((n = 0 ∨ ao = some ⟨gz, oz, none⟩) ∧ (0 < n → gz < w.heap.size ∧ ∀ i, i < n → w.cell? ⟨gz, oz + i, none⟩ = some (.int .i64 (zs.getD i 0)))) := by
      rcases Nat.eq_zero_or_pos n with h0 | hpos
      · exact ⟨0, 0, Or.inl h0, fun h => by omega⟩
      · obtain ⟨gz, oz, cap', e, hgz, hcz⟩ := HI.out.some_ (by have := HN.out; omega)
        injection e with e1 e2 e3
        exact ⟨gz, oz, Or.inr e1, fun _ => ⟨hgz, fun i hi => hcz i (by have := HN.out; omega)⟩⟩
    clear HI
    rcases HZ.out.1 with h0 | h0
    · have hn0 : n ≤ 0 := by omega
      clear h0
      go_enter Try.func7, Try.ntmps7
      go_wp2_with (first
        | (go_at_call 8; refine HNw.out.mono ?_; rintro e w1 ⟨rfl, hw⟩; rw [hw]; clear hw))
      clear HNw g1
      go_loopw [7] (fun s7 W => ∃ (i : Nat) (v : Value) (l : List Ev), i ≤ n ∧ s7 = .int .i64 i ∧ Hid (Wd w.heap.size q 4096 w W v l) ∧ Hid (Rem (mkK zs) i l (List.range i))) (fun s7 W => n - (intOf s7).toNat)
      case atStart => exact ⟨0, _, [], Nat.zero_le _, rfl, HW0.out, Rem.zero _⟩
      case round =>
        clear HW0
        obtain ⟨i, v, l, hi, rfl, HW, HR⟩ := hrel
        by_cases hlt : i < n
        · omega
        · obtain rfl : i = n := by omega
          have hll : Hid (l.length ≤ 4096) := by show l.length ≤ 4096; rw [HR.out.len, List.length_range]; omega
          go_wp2_with (first
            | (have hg := b1; go_at_call 11; refine (copy_c _ q 4096 v l _ ((HW.out.q.below b1)) hll.out).mono ?_; rintro e w2 ⟨d, vd, rfl, h2, b2⟩)
            | (go_at_call 11; refine (copy_c _ q 4096 v l _ HW.out.q hll.out).mono ?_; rintro e w1 ⟨c, vc, rfl, h1, b1⟩))
          have HTri : Hid (Tri w.heap.size q c d w w2 v vc vd l l l) := tri_start HW.out (Nat.le_refl _) h1.out b1 h2.out b2
          have HCl : Hid (Cl i 0 l) := ⟨by rw [HR.out.len, List.length_range]; omega, fun z hz => by
            obtain ⟨j, _, rfl⟩ := List.mem_map.1 (HR.out.p.mem_iff.1 hz)
            exact Or.inl rfl⟩
          clear h1 h2 b1 b2 HW hlt hi hg hll
          go_loopw [10] (fun s10 W => ∃ (k : Nat) (vc : Value) (lc : List Ev), k ≤ tk ∧ s10 = .int .i64 k ∧ Hid (Tri w.heap.size q c d w W v vc vd l lc l) ∧ Hid (Cl i k lc)) (fun s10 W => tk - (intOf s10).toNat)
          case atStart => exact ⟨0, vc, l, Nat.zero_le _, rfl, HTri.out, HCl.out⟩
          case round =>
            clear HTri HCl
            obtain ⟨k, vc, lc, hk, rfl, HTri, HCl⟩ := hrel
            by_cases hlt : k < tk
            · have hz : Hid (lc.length ≤ 4096) := by have := HCl.out.l; show lc.length ≤ 4096; omega
              go_wp2_with (first
                | (have hg := r2; go_at_call 15; refine (c_put (n := i) (i := k) r2.out (Nat.le_refl _) (by rw [s2.out.1, HCl.out.l]) (by omega) (fun z hz => HCl.out.k z (s2.out.2 z hz))).mono ?_; rintro e w3 ⟨rfl, vc3, lc3, r3, s3⟩)
                | (go_at_call 16; refine (c_take HTri.out (Nat.le_refl _) hz.out).mono ?_; rintro e w2 ⟨⟨x2, rfl⟩, vc2, lc2, r2, s2⟩))
              go_roundw
              case rel => exact ⟨k + 1, vc3, lc3, hlt, by go_num, r3.out, s3.out⟩
              case measure => simp [intOf]; omega
            · obtain rfl : k = tk := by omega
              go_wp2_with fail
              have HT' : Hid (Tri w.heap.size q c d w wr v vc vd l lc l) := HTri.out
              clear HTri hlt hk
              go_loopw [11] (fun s11 W => ∃ (t : Nat) (vq vd : Value) (lq ld : List Ev) (js : List Nat), t ≤ i ∧ s11 = .int .i64 t ∧ Hid (Tri w.heap.size q c d w W vq vc vd lq lc ld) ∧ Hid (Rem (mkK zs) i lq js ∧ Rem (mkK zs) i ld js ∧ js.length + t = i)) (fun s11 W => i - (intOf s11).toNat)
              case atStart => exact ⟨0, v, vd, l, l, _, Nat.zero_le _, rfl, HT'.out, HR.out, HR.out, by rw [List.length_range]; omega⟩
              case round =>
                clear HT' HR
                obtain ⟨t, vq, vd, lq, ld, js, ht, rfl, HT, HR⟩ := hrel
                by_cases hlt : t < i
                · omega
                · obtain rfl : t = i := by omega
                  have HLq : Hid (Calls Try.prog 13 #[.pointer (some ⟨q, 0, none⟩)] wr fun e w' => e = .returned (.int .i64 (lq.length : Int)) ∧ w' = wr) := len_c _ q 4096 vq lq wr HT.out.fq.q.b
                  have HLd : Hid (Calls Try.prog 13 #[.pointer (some ⟨d, 0, none⟩)] wr fun e w' => e = .returned (.int .i64 (ld.length : Int)) ∧ w' = wr) := len_c _ d 4096 vd ld wr HT.out.fd.b
                  have HLc : Hid (Calls Try.prog 13 #[.pointer (some ⟨c, 0, none⟩)] wr fun e w' => e = .returned (.int .i64 (lc.length : Int)) ∧ w' = wr) := len_c _ c 4096 vc lc wr HT.out.fc.b
                  rw [show lq.length = 0 by rw [HR.out.1.len]; have := HR.out.2.2; omega] at HLq
                  rw [show ld.length = 0 by rw [HR.out.2.1.len]; have := HR.out.2.2; omega] at HLd
                  rw [HCl.out.l] at HLc
                  go_wp2_with (first
                    | (go_at_call_of 13 q; refine HLq.out.mono ?_; rintro e w1 ⟨rfl, hw⟩; rw [hw]; clear hw)
                    | (go_at_call_of 13 d; refine HLd.out.mono ?_; rintro e w1 ⟨rfl, hw⟩; rw [hw]; clear hw)
                    | (go_at_call_of 13 c; refine HLc.out.mono ?_; rintro e w1 ⟨rfl, hw⟩; rw [hw]; clear hw)
                    | (go_at_call 10; refine (HAw.out _).mono ?_; rintro e wA ⟨rfl, hbA⟩))
                  all_goals first
                    | (go_ret; exact ⟨rfl, belN HT.out.fq.b (Nat.le_refl _) hbA⟩)
                    | (exfalso; omega)
    · subst h0
      go_enter Try.func7, Try.ntmps7
      go_wp2_with (first
        | (go_at_call 8; refine HNw.out.mono ?_; rintro e w1 ⟨rfl, hw⟩; rw [hw]; clear hw))
      clear HNw g1
      go_loopw [7] (fun s7 W => ∃ (i : Nat) (v : Value) (l : List Ev), i ≤ n ∧ s7 = .int .i64 i ∧ Hid (Wd w.heap.size q 4096 w W v l) ∧ Hid (Rem (mkK zs) i l (List.range i))) (fun s7 W => n - (intOf s7).toNat)
      case atStart => exact ⟨0, _, [], Nat.zero_le _, rfl, HW0.out, Rem.zero _⟩
      case round =>
        clear HW0
        obtain ⟨i, v, l, hi, rfl, HW, HR⟩ := hrel
        by_cases hlt : i < n
        · skip
          have hz : wr.cell? ⟨gz, oz + i, none⟩ = some (.int .i64 (zs.getD i 0)) := (HW.out.b.cell (p := ⟨gz, oz + i, none⟩) (HZ.out.2 (by omega)).1).trans ((HZ.out.2 (by omega)).2 i hlt)
          have i1 : (0 : Int) ≤ (i : Int) := by omega
          have i2 : (i : Int) < (n : Int) := by omega
          have a1 := and4095 (zs.getD i 0)
          have HP : Hid (Calls Try.prog 15 #[.pointer (some ⟨q, 0, none⟩), .agg #[.int .i64 (zs.getD i 0 % 4096), .int .i64 0, .string ⟨#[]⟩, .int .i64 0, .int .i64 (i : Int), .bool false]] wr fun e w' => e = .returned (.int .i64 0) ∧ ∃ v' l', Hid (Wd w.heap.size q 4096 w w' v' l') ∧ Hid (l'.Perm (mkK zs i :: l)) ∧ Hid (But2 q v.ownBlock wr w') ∧ Hid (Mv v v' wr)) := put_w (x := mkK zs i) HW.out (Nat.le_refl _) (by show 0 ≤ zs.getD i 0 % 4096; omega) (by show zs.getD i 0 % 4096 ≤ _; omega) rfl (HR.out.hasK fun j hj => by
            have := List.mem_range.1 hj
            show ¬ ((0 : Int) = 0 ∧ (j : Int) = (i : Int))
            omega) (by rw [HR.out.len, List.length_range]; omega) (by omega)
          generalize zs.getD i 0 = zi at hz a1 HP
          go_wp2_with (first
            | (go_at_call 15; refine HP.out.mono ?_; rintro e w2 ⟨rfl, v', l', r1, r2, r3, r4⟩))
          go_roundw
          case rel => exact ⟨i + 1, v', l', hlt, by go_num, r1.out, HR.out.put r2.out⟩
          case measure => simp [intOf]; omega
        · obtain rfl : i = n := by omega
          have hll : Hid (l.length ≤ 4096) := by show l.length ≤ 4096; rw [HR.out.len, List.length_range]; omega
          go_wp2_with (first
            | (have hg := b1; go_at_call 11; refine (copy_c _ q 4096 v l _ ((HW.out.q.below b1)) hll.out).mono ?_; rintro e w2 ⟨d, vd, rfl, h2, b2⟩)
            | (go_at_call 11; refine (copy_c _ q 4096 v l _ HW.out.q hll.out).mono ?_; rintro e w1 ⟨c, vc, rfl, h1, b1⟩))
          have HTri : Hid (Tri w.heap.size q c d w w2 v vc vd l l l) := tri_start HW.out (Nat.le_refl _) h1.out b1 h2.out b2
          have HCl : Hid (Cl i 0 l) := ⟨by rw [HR.out.len, List.length_range]; omega, fun z hz => by
            obtain ⟨j, _, rfl⟩ := List.mem_map.1 (HR.out.p.mem_iff.1 hz)
            exact Or.inl rfl⟩
          clear h1 h2 b1 b2 HW hlt hi hg hll
          go_loopw [10] (fun s10 W => ∃ (k : Nat) (vc : Value) (lc : List Ev), k ≤ tk ∧ s10 = .int .i64 k ∧ Hid (Tri w.heap.size q c d w W v vc vd l lc l) ∧ Hid (Cl i k lc)) (fun s10 W => tk - (intOf s10).toNat)
          case atStart => exact ⟨0, vc, l, Nat.zero_le _, rfl, HTri.out, HCl.out⟩
          case round =>
            clear HTri HCl
            obtain ⟨k, vc, lc, hk, rfl, HTri, HCl⟩ := hrel
            by_cases hlt : k < tk
            · have hz : Hid (lc.length ≤ 4096) := by have := HCl.out.l; show lc.length ≤ 4096; omega
              go_wp2_with (first
                | (have hg := r2; go_at_call 15; refine (c_put (n := i) (i := k) r2.out (Nat.le_refl _) (by rw [s2.out.1, HCl.out.l]) (by omega) (fun z hz => HCl.out.k z (s2.out.2 z hz))).mono ?_; rintro e w3 ⟨rfl, vc3, lc3, r3, s3⟩)
                | (go_at_call 16; refine (c_take HTri.out (Nat.le_refl _) hz.out).mono ?_; rintro e w2 ⟨⟨x2, rfl⟩, vc2, lc2, r2, s2⟩))
              go_roundw
              case rel => exact ⟨k + 1, vc3, lc3, hlt, by go_num, r3.out, s3.out⟩
              case measure => simp [intOf]; omega
            · obtain rfl : k = tk := by omega
              go_wp2_with fail
              have HT' : Hid (Tri w.heap.size q c d w wr v vc vd l lc l) := HTri.out
              clear HTri hlt hk
              go_loopw [11] (fun s11 W => ∃ (t : Nat) (vq vd : Value) (lq ld : List Ev) (js : List Nat), t ≤ i ∧ s11 = .int .i64 t ∧ Hid (Tri w.heap.size q c d w W vq vc vd lq lc ld) ∧ Hid (Rem (mkK zs) i lq js ∧ Rem (mkK zs) i ld js ∧ js.length + t = i)) (fun s11 W => i - (intOf s11).toNat)
              case atStart => exact ⟨0, v, vd, l, l, _, Nat.zero_le _, rfl, HT'.out, HR.out, HR.out, by rw [List.length_range]; omega⟩
              case round =>
                clear HT' HR
                obtain ⟨t, vq, vd, lq, ld, js, ht, rfl, HT, HR⟩ := hrel
                by_cases hlt : t < i
                · obtain ⟨m, hm⟩ : ∃ m, lq.length = m + 1 := ⟨lq.length - 1, by rw [HR.out.1.len]; have := HR.out.2.2; omega⟩
                  have hm2 : m ≤ 4096 := by rw [HR.out.1.len] at hm; have := HR.out.2.2; omega
                  have hmd : ld.length = m + 1 := by rw [HR.out.2.1.len, ← HR.out.1.len]; exact hm
                  obtain ⟨es, ef⟩ := same_min HR.out.1 HR.out.2.1 HT.out.fq.q.h HT.out.fd.h hm
                  have HT1 : Hid (Calls Try.prog 16 #[.pointer (some ⟨q, 0, none⟩)] wr fun e w' => e = .returned (.tuple #[.agg #[.int .i64 (g lq 0).t, .int .i64 (g lq 0).nd, .string (g lq 0).v, .int .i64 (g lq 0).fr, .int .i64 (g lq 0).sq, .bool (g lq 0).an], .bool true]) ∧ ∃ v' l', Hid (Tri w.heap.size q c d w w' v' vc vd l' lc ld) ∧ Hid (lq.Perm (g lq 0 :: l'))) := (take_w HT.out.fq (Nat.le_refl _) hm hm2).mono (by
                    rintro e w' ⟨rfl, v', l', r1, r2, r3, r4⟩
                    exact ⟨rfl, v', l', HT.out.actQ r1.out r3.out r4.out, r2.out⟩)
                  have HT2 : Hid (∀ W v' l', Tri w.heap.size q c d w W v' vc vd l' lc ld → Calls Try.prog 16 #[.pointer (some ⟨d, 0, none⟩)] W fun e w' => e = .returned (.tuple #[.agg #[.int .i64 (g lq 0).t, .int .i64 (g lq 0).nd, .string (g lq 0).v, .int .i64 (g lq 0).fr, .int .i64 (g lq 0).sq, .bool (g lq 0).an], .bool true]) ∧ ∃ vd' ld', Hid (Tri w.heap.size q c d w w' v' vc vd' l' lc ld') ∧ Hid (ld.Perm (g lq 0 :: ld')) ∧ Hid (But2 d vd.ownBlock W w')) := fun W v' l' hT => by
                    have hz := hT.fq.b.size
                    have k := take_c w.heap.size d m 4096 vd ld W hT.fd hmd hm2 (by omega)
                    rw [es] at k
                    refine k.mono ?_
                    rintro e w' ⟨rfl, v2, l2, r1, r2, r3, r4⟩
                    exact ⟨rfl, v2, l2, hT.actD (Nat.le_refl _) r1.out r3.out r4.out, r2.out, r3.out⟩
                  have HE : Hid ((g lq 0).fr = 0) := ef
                  clear es ef hm hmd
                  rw [HE.out] at HT1 HT2
                  generalize g lq 0 = x at HT1 HT2
                  clear HE
                  go_wp2_with (first
                    | (have hg := r1; go_at_call 16; refine (HT2.out _ v1 l1 (r1.out.up (Nat.le_refl _) (belA (Below.refl _ _) _))).mono ?_; rintro e w2 ⟨rfl, vd2, ld2, r2, s2, b2⟩; obtain ⟨⟨c0, c1, c2, c3, c4, c5⟩, _⟩ := cell6 ((b2.out.block w1.heap.size (by simp) (by have := hLt r1.out.fd.b.blk; omega) (fun e => by have := r1.out.fd.lt _ e; omega)).trans (alAt rfl)); have hz : w1.heap.size < w2.heap.size := (by have := b2.out.size; simp at this; omega))
                    | (go_at_call 16; refine HT1.out.mono ?_; rintro e w1 ⟨rfl, v1, l1, r1, s1⟩))
                  go_roundw
                  case rel =>
                    obtain ⟨j, hj, ex, hR1⟩ := HR.out.1.take s1.out
                    obtain ⟨j', hj', ex', hR2⟩ := HR.out.2.1.take s2.out
                    have e1 : (mkK zs j).sq = (mkK zs j').sq := by rw [← ex, ← ex']
                    have e2 : (j : Int) = (j' : Int) := e1
                    have e3 : j = j' := by omega
                    subst e3
                    refine ⟨t + 1, v1, vd2, l1, ld2, js.erase j, hlt, by go_num, r2.out.up (Nat.le_refl _) (belA (Below.refl _ _) _), hR1, hR2, ?_⟩
                    have h1 := HR.out.2.2
                    have h2 := List.length_erase_of_mem hj
                    have h3 := List.length_pos_of_mem hj
                    omega
                  case measure => simp [intOf]; omega
                · obtain rfl : t = i := by omega
                  have HLq : Hid (Calls Try.prog 13 #[.pointer (some ⟨q, 0, none⟩)] wr fun e w' => e = .returned (.int .i64 (lq.length : Int)) ∧ w' = wr) := len_c _ q 4096 vq lq wr HT.out.fq.q.b
                  have HLd : Hid (Calls Try.prog 13 #[.pointer (some ⟨d, 0, none⟩)] wr fun e w' => e = .returned (.int .i64 (ld.length : Int)) ∧ w' = wr) := len_c _ d 4096 vd ld wr HT.out.fd.b
                  have HLc : Hid (Calls Try.prog 13 #[.pointer (some ⟨c, 0, none⟩)] wr fun e w' => e = .returned (.int .i64 (lc.length : Int)) ∧ w' = wr) := len_c _ c 4096 vc lc wr HT.out.fc.b
                  rw [show lq.length = 0 by rw [HR.out.1.len]; have := HR.out.2.2; omega] at HLq
                  rw [show ld.length = 0 by rw [HR.out.2.1.len]; have := HR.out.2.2; omega] at HLd
                  rw [HCl.out.l] at HLc
                  go_wp2_with (first
                    | (go_at_call_of 13 q; refine HLq.out.mono ?_; rintro e w1 ⟨rfl, hw⟩; rw [hw]; clear hw)
                    | (go_at_call_of 13 d; refine HLd.out.mono ?_; rintro e w1 ⟨rfl, hw⟩; rw [hw]; clear hw)
                    | (go_at_call_of 13 c; refine HLc.out.mono ?_; rintro e w1 ⟨rfl, hw⟩; rw [hw]; clear hw)
                    | (go_at_call 10; refine (HAw.out _).mono ?_; rintro e wA ⟨rfl, hbA⟩))
                  all_goals first
                    | (go_ret; exact ⟨rfl, belN HT.out.fq.b (Nat.le_refl _) hbA⟩)
                    | (exfalso; omega)
end Go.Proofs.Ytfjkhcpneehdjaa

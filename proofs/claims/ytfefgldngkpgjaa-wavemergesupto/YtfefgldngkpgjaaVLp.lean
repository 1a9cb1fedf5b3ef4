/- Layer 18: the program's Merge. -/
import Derived.Test.YtfefgldngkpgjaaVLo
namespace Go.Proofs.Ytfefgldngkpgjaa
set_option maxRecDepth 100000
open Go.RowKit Lg Nl Go.Maps Wf
set_option linter.unusedVariables false
set_option linter.unusedSimpArgs false

theorem grown_bel {W w' : World} {B e z n : Nat} {v : Value} {xs : List Value} (hg : W.grownBy w' v.ownBlock) (h : W.ownsRow B e z v n xs) (hB : B ≤ W.heap.size) : Below B W w' :=
  ⟨hg.os, hg.tape, hg.output, hg.size, fun k hk => hg.block k (Nat.lt_of_lt_of_le hk hB) fun e => by have := World.ownsRow.lt h k e.symm; omega⟩
theorem emp_len {l : List Ch} (h : l.length = 0) : l.isEmpty = true := by cases l with | nil => rfl | cons a b => simp at h
theorem emp_not {l : List Ch} (h : ¬ l.length = 0) : l.isEmpty = false := by cases l with | nil => simp at h | cons a b => rfl
set_option maxHeartbeats 8000000 in
set_option maxRecDepth 100000 in
theorem merge_c : MergeC := by
  intro x vn vw vf vl vp ps w hx hp hpl hpn hpz
  obtain ⟨o, ho⟩ : ∃ o, o = okM x ps := ⟨_, rfl⟩
  obtain ⟨y, hy⟩ : ∃ y, y = (if okM x ps then withL x (mergeL ps) else wv0) := ⟨_, rfl⟩
  rw [← hy, ← ho]
  have HOo : Hid (o = okM x ps) := ho
  have HYy : Hid (y = (if okM x ps then withL x (mergeL ps) else wv0)) := hy
  clear ho hy
  have HZ : Hid (Sz x ∧ Bd x) := ⟨hx.z, hx.b⟩
  have HA : Hid (WvAt w vn vw vf vl x ∧ PsAt w vp ps) := ⟨hx.a, hp⟩
  have HPz : Hid ((ps.flatten.length ≤ bigV ∧ ps.length ≤ bigV) ∧ ∀ p ∈ ps, ∀ c ∈ p, c.v.size ≤ maxLen) := ⟨⟨hpl, hpn⟩, hpz⟩
  obtain ⟨al, cl, rfl, _, _⟩ := hx.a.li
  obtain ⟨ap, cp, rfl, _, _⟩ := hp
  clear hx hpl hpn hpz
  obtain ⟨W0, hW0⟩ : ∃ W0, W0 = (w.alloc (.cells #[vn, vw, vf, .slice al x.li.length cl] 26)).alloc (.cells #[.slice none 0 0, .slice none 0 0, .slice none 0 0, .slice none 0 0] 26) := ⟨_, rfl⟩
  have HB0 : Hid (Below w.heap.size w W0) := by rw [hW0]; exact belA (belA (Below.refl _ _) _) _
  have HX0 : Hid (W0.heap[w.heap.size]? = some (.cells #[vn, vw, vf, .slice al x.li.length cl] 26 (0, 0))) := by rw [hW0]; exact (alOld (by simp)).trans (alAt rfl)
  have HR0 : Hid (W0.heap[w.heap.size + 1]? = some (.cells #[.slice none 0 0, .slice none 0 0, .slice none 0 0, .slice none 0 0] 26 (0, 0))) := by rw [hW0]; exact alAt (by simp)
  have HA0 : Hid (WvAt W0 vn vw vf (.slice al x.li.length cl) x ∧ PsAt W0 (.slice ap ps.length cp) ps) := ⟨HA.out.1.below HB0.out, HA.out.2.below HB0.out⟩
  have HCk : Hid (∀ W, Below W0.heap.size W0 W → Calls Try.prog 9 #[.agg #[vn, vw, vf, .slice al x.li.length cl]] W fun e w' => e = .returned (.int .i64 (erOf (mayW x))) ∧ Below W.heap.size W w') := fun W hW => check_c x vn vw vf _ W (HA0.out.1.below hW) HZ.out.1 HZ.out.2
  go_enter Try.func19, Try.ntmps19
  go_upto_region 1 with fail
  rw [← hW0]
  clear hW0 HA
  obtain ⟨b0, b1, b2, b3⟩ := cells4 HX0.out
  have lb := hLt HX0.out
  have lr := hLt HR0.out
  obtain ⟨r0, r1, r2, r3⟩ := cells4 HR0.out
  have g0 := Lib.frozen_of_heap HR0.out 0
  have g1 := Lib.frozen_of_heap HR0.out 1
  have g2 := Lib.frozen_of_heap HR0.out 2
  have g3 := Lib.frozen_of_heap HR0.out 3
  obtain ⟨E, hE⟩ : ∃ E, E = w.heap.size := ⟨_, rfl⟩
  rw [← hE] at HX0 HR0 b0 b1 b2 b3 lb lr r0 r1 r2 r3 g0 g1 g2 g3 ⊢
  have HE : Hid (E = w.heap.size) := hE
  clear hE
  obtain ⟨R, hR⟩ : ∃ R, R = E + 1 := ⟨_, rfl⟩
  rw [← hR] at HR0 lr r0 r1 r2 r3 g0 g1 g2 g3 ⊢
  have HR : Hid (R = E + 1) := hR
  clear hR
  have HLx : Hid (x.li.length = 0 → x.li.isEmpty = true) := emp_len
  have HLy : Hid (¬ x.li.length = 0 → x.li.isEmpty = false) := emp_not
  obtain ⟨k, hk⟩ : ∃ k, k = x.li.length := ⟨_, rfl⟩
  have HK : Hid (k = x.li.length) := hk
  rw [← hk] at HX0 HA0 HCk b3 HLx HLy ⊢
  clear hk
  by_cases h0 : k = 0
  · subst h0
    have hemp : x.li.isEmpty = true := HLx.out rfl
    cases hm : mayW x
    · rw [hm] at HCk
      have HO : Hid (okM x ps = false) := by show okM x ps = false; unfold okM; rw [hm]; rfl
      clear hm hemp r0 r1 r2 r3 g0 g1 g2 g3
      go_wp2_with (first
        | (go_at_call 9; refine (HCk.out _ (Below.refl _ _)).mono ?_; rintro e w1 ⟨rfl, hb1⟩; rw [erOf_f]; have HB1 : Hid (Below W0.heap.size W0 w1) := hb1; clear hb1; have hR1 := (HB1.out.block R lr).trans HR0.out; obtain ⟨r0, r1, r2, r3⟩ := cells4 hR1; have g0 := Lib.frozen_of_heap hR1 0; have g1 := Lib.frozen_of_heap hR1 1; have g2 := Lib.frozen_of_heap hR1 2; have g3 := Lib.frozen_of_heap hR1 3; have lr1 := Nat.lt_of_lt_of_le lr HB1.out.size; clear hR1))
      refine bodyPost_ret (v := .tuple #[.agg #[.slice none 0 0, .slice none 0 0, .slice none 0 0, .slice none 0 0], .int .i64 1]) (by simp [results, Try.results19, go_sem, *]) rfl ?_
      have hE := HE.out
      have hR := HR.out
      refine ⟨_, _, _, _, by rw [HOo.out, HO.out]; rfl, ?_, ?_⟩
      · rw [HYy.out, HO.out]; exact wv0_at _
      · exact belSetV (belSetV (belSetV (belSetV (bel HB0.out HB1.out) (by omega)) (by omega)) (by omega)) (by omega)
    · rw [hm] at HCk
      have HOk : Hid (okM x ps = mayW (withL x (mergeL ps))) := by show okM x ps = _; unfold okM; rw [hm, hemp]; rfl
      have hln := may_len hm
      have HLn : Hid (x.nm.length ≤ 4096 ∧ x.wd.length ≤ 4096 ∧ x.fi.length ≤ 4096) := ⟨by omega, by omega, by omega⟩
      clear hm hln hemp r0 r1 r2 r3 g0 g1 g2 g3
      go_upto_region 3 with (first
        | (go_at_call 9; refine (HCk.out _ (Below.refl _ _)).mono ?_; rintro e w1 ⟨rfl, hb1⟩; rw [erOf_t]; have HB1 : Hid (Below W0.heap.size W0 w1) := hb1; clear hb1))
      clear b0 b1 b2 b3
      have HX1 : Hid (w1.heap[E]? = some (.cells #[vn, vw, vf, .slice al 0 cl] 26 (0, 0))) := (HB1.out.block E lb).trans HX0.out
      obtain ⟨b0, b1, b2, b3⟩ := cells4 HX1.out
      have lb1 := Nat.lt_of_lt_of_le lb HB1.out.size
      have HU := hidV (unchanged_c x vn vw vf _ w1 (HA0.out.1.below HB1.out) HLn.out.1 HLn.out.2.1 HLn.out.2.2)
      go_upto_region 4 with (first
        | (go_at_call 26; refine HU.out.mono ?_; rintro e w2 ⟨a1, k1, a2, k2, a3, k3, rfl, HV1, HV2, HV3, hb2⟩; have HB2 : Hid (Below w1.heap.size w1 w2) := hb2; clear hb2))
      clear b0 b1 b2 b3 HU HLx HLy
      obtain ⟨W3, hW3⟩ : ∃ W3, W3 = w2.alloc (.cells #[.slice a1 x.nm.length k1, .slice a2 x.wd.length k2, .slice a3 x.fi.length k3, .slice none 0 0] 26) := ⟨_, rfl⟩
      rw [← hW3]
      have HB3 : Hid (Below w2.heap.size w2 W3) := by rw [hW3]; exact belA (Below.refl _ _) _
      have HO3 : Hid (W3.heap[w2.heap.size]? = some (.cells #[.slice a1 x.nm.length k1, .slice a2 x.wd.length k2, .slice a3 x.fi.length k3, .slice none 0 0] 26 (0, 0))) := by rw [hW3]; exact alAt rfl
      clear hW3
      obtain ⟨O, hOo⟩ : ∃ O, O = w2.heap.size := ⟨_, rfl⟩
      rw [← hOo] at HO3 ⊢
      have HOs : Hid (O = w2.heap.size) := hOo
      clear hOo
      have HBW : Hid (Below W0.heap.size W0 W3) := bel HB1.out (bel HB2.out HB3.out)
      have lo3 := hLt HO3.out
      have HCn := hidV (concat_c ps (.slice ap ps.length cp) W3 (HA0.out.2.below HBW.out) HPz.out.1.1 HPz.out.1.2)
      obtain ⟨n, hn⟩ : ∃ n, n = ps.flatten.length := ⟨_, rfl⟩
      have HNn : Hid (n = ps.flatten.length) := hn
      rw [← hn] at HCn
      clear hn
      go_upto_region 5 with (first
        | (go_at_call 34; refine HCn.out.mono ?_; rintro e w5 ⟨a5, k5, rfl, HO5, hb5⟩; have HB5 : Hid (Below W3.heap.size W3 w5) := hb5; clear hb5; have hO5 := (HB5.out.block O lo3).trans HO3.out; obtain ⟨o0, o1, o2, o3⟩ := cells4 hO5; have f3 := Lib.frozen_of_heap hO5 3; have lo5 := hLt hO5; clear hO5))
      have s1 := HB1.out.size
      have s2 := HB2.out.size
      have s3 := HB3.out.size
      have s5 := HB5.out.size
      have hO := HOs.out
      have hR := HR.out
      have hE := HE.out
      have s0 := HB0.out.size
      have hne : O ≠ R := by omega
      have hlo : O < W3.heap.size := lo3
      have u1 := own_below HV1.out HB3.out
      have u2 := own_below HV2.out HB3.out
      have u3 := own_below HV3.out HB3.out
      have l1 := fun k (h : (Value.slice a1 x.nm.length k1).ownBlock = some k) => (World.ownsRow.lt u1 k h).2
      have l2 := fun k (h : (Value.slice a2 x.wd.length k2).ownBlock = some k) => (World.ownsRow.lt u2 k h).2
      have l3 := fun k (h : (Value.slice a3 x.fi.length k3).ownBlock = some k) => (World.ownsRow.lt u3 k h).2
      have m1 := own_ne (b := O) HV1.out (Or.inr (by omega))
      have m2 := own_ne (b := O) HV2.out (Or.inr (by omega))
      have m3 := own_ne (b := O) HV3.out (Or.inr (by omega))
      have m5 := own_ne (b := O) HO5.out (Or.inl hlo)
      obtain ⟨W6, hW6⟩ : ∃ W6, W6 = w5.setCell ⟨O, 3, none⟩ (.slice a5 n k5) := ⟨_, rfl⟩
      rw [← hW6]
      have HB6 : Hid (Below W0.heap.size W0 W6) := by rw [hW6]; exact belSetV (bel HBW.out HB5.out) (by omega)
      have HS6 : Hid (W6.heap.size = w5.heap.size) := by rw [hW6]; show _ = _; simp [World.setCell]
      have p0 : W6.cell? ⟨O, 0, none⟩ = some (.slice a1 x.nm.length k1) := by rw [hW6]; exact (cellSO (by simp)).trans o0
      have p1 : W6.cell? ⟨O, 1, none⟩ = some (.slice a2 x.wd.length k2) := by rw [hW6]; exact (cellSO (by simp)).trans o1
      have p2 : W6.cell? ⟨O, 2, none⟩ = some (.slice a3 x.fi.length k3) := by rw [hW6]; exact (cellSO (by simp)).trans o2
      have p3 : W6.cell? ⟨O, 3, none⟩ = some (.slice a5 n k5) := by rw [hW6]; exact cellSS o3
      have HR6 : Hid (W6.heap[R]? = some (.cells #[.slice none 0 0, .slice none 0 0, .slice none 0 0, .slice none 0 0] 26 (0, 0))) := (HB6.out.block R lr).trans HR0.out
      have HV6 : Hid (W6.ownsRow w1.heap.size 9 1 (.slice a1 x.nm.length k1) x.nm.length (sC x.nm) ∧ W6.ownsRow w1.heap.size 3 1 (.slice a2 x.wd.length k2) x.wd.length (iC x.wd) ∧ W6.ownsRow w1.heap.size 9 1 (.slice a3 x.fi.length k3) x.fi.length (sC x.fi)) := by
        rw [hW6]
        exact ⟨own_set (own_below u1 HB5.out) m1, own_set (own_below u2 HB5.out) m2, own_set (own_below u3 HB5.out) m3⟩
      have HO6 : Hid (W6.ownsRow W3.heap.size 46 3 (.slice a5 n k5) n (chs ps.flatten)) := by rw [hW6]; exact own_set HO5.out m5
      have HLl : Hid ((∀ k, (Value.slice a1 x.nm.length k1).ownBlock = some k → k < W3.heap.size) ∧ (∀ k, (Value.slice a2 x.wd.length k2).ownBlock = some k → k < W3.heap.size) ∧ (∀ k, (Value.slice a3 x.fi.length k3).ownBlock = some k → k < W3.heap.size)) := ⟨l1, l2, l3⟩
      have HSr := hidV (sort_any W3.heap.size n k5 a5 ps.flatten W6 HO6.out HNn.out (by rw [HNn.out]; exact HPz.out.1.1))
      have HNe : Hid (O ≠ R ∧ O < W3.heap.size ∧ w1.heap.size ≤ O ∧ R < w1.heap.size ∧ W3.heap.size ≤ w5.heap.size ∧ w.heap.size ≤ R) := ⟨hne, hlo, by omega, by omega, s5, by omega⟩
      have lo6 : O < W6.heap.size := World.block_lt_of_cell? _ ⟨O, 0, none⟩ p0
      clear hW6 o0 o1 o2 o3 f3 lo5 s1 s2 s3 s5 hO hR hE s0 hne hlo u1 u2 u3 l1 l2 l3 m1 m2 m3 m5 HCn
      go_upto_region 6 with (first
        | (go_at_call 35; refine HSr.out.mono ?_; rintro e w7 ⟨rfl, l', hll, HPm, HSo, HO7, HG7⟩; have HLn' : Hid (l'.length = ps.flatten.length) := hll; clear hll))
      have HB7 : Hid (Below W3.heap.size W6 w7) := grown_bel HG7.out HO6.out (by have := HNe.out; have := HS6.out; omega)
      have p0' := (World.cell?_of_block (a := ⟨O, 0, none⟩) (HB7.out.block O HNe.out.2.1)).trans p0
      have p1' := (World.cell?_of_block (a := ⟨O, 1, none⟩) (HB7.out.block O HNe.out.2.1)).trans p1
      have p2' := (World.cell?_of_block (a := ⟨O, 2, none⟩) (HB7.out.block O HNe.out.2.1)).trans p2
      have p3' := (World.cell?_of_block (a := ⟨O, 3, none⟩) (HB7.out.block O HNe.out.2.1)).trans p3
      have lo7 := Nat.lt_of_lt_of_le lo6 HB7.out.size
      have HR7 : Hid (w7.heap[R]? = some (.cells #[.slice none 0 0, .slice none 0 0, .slice none 0 0, .slice none 0 0] 26 (0, 0))) := (HB7.out.block R (by have := HNe.out; omega)).trans HR6.out
      have HV7 : Hid (w7.ownsRow w1.heap.size 9 1 (.slice a1 x.nm.length k1) x.nm.length (sC x.nm) ∧ w7.ownsRow w1.heap.size 3 1 (.slice a2 x.wd.length k2) x.wd.length (iC x.wd) ∧ w7.ownsRow w1.heap.size 9 1 (.slice a3 x.fi.length k3) x.fi.length (sC x.fi)) :=
        ⟨own_at2 HV6.out.1 fun k hk => HB7.out.block k (HLl.out.1 k hk), own_at2 HV6.out.2.1 fun k hk => HB7.out.block k (HLl.out.2.1 k hk), own_at2 HV6.out.2.2 fun k hk => HB7.out.block k (HLl.out.2.2 k hk)⟩
      have HN7 : Hid (n = l'.length) := by show n = _; rw [HNn.out, HLn'.out]
      have hch : ChAt w7 (.slice a5 n k5) l' := own_chs (B := W3.heap.size) (by have h := HO7.out; rw [← HN7.out]; exact h)
      have hA7 : WvAt w7 (.slice a1 x.nm.length k1) (.slice a2 x.wd.length k2) (.slice a3 x.fi.length k3) (.slice a5 n k5) (withL x l') := ⟨own_strs HV7.out.1, own_intsV HV7.out.2.1, own_strs HV7.out.2.2, hch⟩
      have hbl : l'.length ≤ 4398046511000 := by have h := HPz.out.1.1; have h2 := HLn'.out; unfold bigV at h; omega
      have hz7 : Sz (withL x l') := ⟨HZ.out.1.nm, HZ.out.1.fi, fun c hc => by
        obtain ⟨q, h1, h2⟩ := List.mem_flatten.1 (HPm.out.mem_iff.1 hc)
        exact HPz.out.2 q h1 c h2, Nat.le_trans hbl (by decide)⟩
      have hb7 : Bd (withL x l') := ⟨HZ.out.2.nm, HZ.out.2.wd, HZ.out.2.fi, Nat.le_trans hbl (by decide)⟩
      have HC7 := hidV (check_c (withL x l') _ _ _ _ w7 hA7 hz7 hb7)
      have HMs := hidV (merge_sorted x ps l' HPm.out HSo.out)
      clear hch hA7 hbl hz7 hb7 p0 p1 p2 p3 lo6 HSr
      cases hq : mayW (withL x l')
      · rw [hq] at HC7 HMs
        have HO : Hid (okM x ps = false) := by show okM x ps = false; rw [HOk.out, ← HMs.out.1]
        clear hq HMs
        go_wp2_with (first
          | (go_at_call 9; refine HC7.out.mono ?_; rintro e w8 ⟨rfl, hb8⟩; rw [erOf_f]; have HB8 : Hid (Below w7.heap.size w7 w8) := hb8; clear hb8; have lr7 := hLt HR7.out; have hR8 := (HB8.out.block R lr7).trans HR7.out; obtain ⟨r0, r1, r2, r3⟩ := cells4 hR8; have g0 := Lib.frozen_of_heap hR8 0; have g1 := Lib.frozen_of_heap hR8 1; have g2 := Lib.frozen_of_heap hR8 2; have g3 := Lib.frozen_of_heap hR8 3; have lr8 := hLt hR8; clear hR8))
        refine bodyPost_ret (v := .tuple #[.agg #[.slice none 0 0, .slice none 0 0, .slice none 0 0, .slice none 0 0], .int .i64 1]) (by simp [results, Try.results19, go_sem, *]) rfl ?_
        have hn := HNe.out
        have hB7 : Below w.heap.size W6 w7 := ⟨HB7.out.os, HB7.out.tape, HB7.out.output, HB7.out.size, fun k hk => HB7.out.block k (by omega)⟩
        have hB8 : Below w.heap.size w7 w8 := ⟨HB8.out.os, HB8.out.tape, HB8.out.output, HB8.out.size, fun k hk => HB8.out.block k (by have := hB7.size; have := (bel HB0.out HB6.out).size; omega)⟩
        have hBw : Below w.heap.size w w8 := ((bel HB0.out HB6.out).trans hB7).trans hB8
        refine ⟨_, _, _, _, by rw [HOo.out, HO.out]; rfl, ?_, ?_⟩
        · rw [HYy.out, HO.out]; exact wv0_at _
        · exact belSetV (belSetV (belSetV (belSetV hBw (by omega)) (by omega)) (by omega)) (by omega)
      · rw [hq] at HC7 HMs
        have HO : Hid (okM x ps = true) := by show okM x ps = true; rw [HOk.out, ← HMs.out.1]
        have HEq : Hid (l' = mergeL ps) := HMs.out.2 rfl
        clear hq HMs
        go_wp2_with (first
          | (go_at_call 9; refine HC7.out.mono ?_; rintro e w8 ⟨rfl, hb8⟩; rw [erOf_t]; have HB8 : Hid (Below w7.heap.size w7 w8) := hb8; clear hb8; have lr7 := hLt HR7.out; have hR8 := (HB8.out.block R lr7).trans HR7.out; obtain ⟨r0, r1, r2, r3⟩ := cells4 hR8; have g0 := Lib.frozen_of_heap hR8 0; have g1 := Lib.frozen_of_heap hR8 1; have g2 := Lib.frozen_of_heap hR8 2; have g3 := Lib.frozen_of_heap hR8 3; have lr8 := hLt hR8; clear hR8; have q0 := (HB8.out.cell (p := ⟨O, 0, none⟩) lo7).trans p0'; have q1 := (HB8.out.cell (p := ⟨O, 1, none⟩) lo7).trans p1'; have q2 := (HB8.out.cell (p := ⟨O, 2, none⟩) lo7).trans p2'; have q3 := (HB8.out.cell (p := ⟨O, 3, none⟩) lo7).trans p3'; have lo8 := Nat.lt_of_lt_of_le lo7 HB8.out.size; have hne := HNe.out.1; have hne2 : R ≠ O := fun e => hne e.symm))
        refine bodyPost_ret (v := .tuple #[.agg #[.slice a1 x.nm.length k1, .slice a2 x.wd.length k2, .slice a3 x.fi.length k3, .slice a5 n k5], .int .i64 0]) (by simp [results, Try.results19, go_sem, *]) rfl ?_
        have hn := HNe.out
        have hB7 : Below w.heap.size W6 w7 := ⟨HB7.out.os, HB7.out.tape, HB7.out.output, HB7.out.size, fun k hk => HB7.out.block k (by omega)⟩
        have hB8 : Below w.heap.size w7 w8 := ⟨HB8.out.os, HB8.out.tape, HB8.out.output, HB8.out.size, fun k hk => HB8.out.block k (by have := hB7.size; have := (bel HB0.out HB6.out).size; omega)⟩
        have hBw : Below w.heap.size w w8 := ((bel HB0.out HB6.out).trans hB7).trans hB8
        have v1 := own_below HV7.out.1 HB8.out
        have v2 := own_below HV7.out.2.1 HB8.out
        have v3 := own_below HV7.out.2.2 HB8.out
        have v5 := own_below HO7.out HB8.out
        have q1R := own_ne (b := R) v1 (Or.inl (by omega))
        have q2R := own_ne (b := R) v2 (Or.inl (by omega))
        have q3R := own_ne (b := R) v3 (Or.inl (by omega))
        have q5R := own_ne (b := R) v5 (Or.inl (by omega))
        refine ⟨_, _, _, _, by rw [HOo.out, HO.out]; rfl, ?_, ?_⟩
        · rw [HYy.out, HO.out, if_pos rfl]
          have hc := own_set (i := 3) (u := .slice a5 n k5) (own_set (i := 2) (u := .slice a3 x.fi.length k3) (own_set (i := 1) (u := .slice a2 x.wd.length k2) (own_set (i := 0) (u := .slice a1 x.nm.length k1) v5 q5R) q5R) q5R) q5R
          refine ⟨own_strs (own_set (own_set (own_set (own_set v1 q1R) q1R) q1R) q1R), own_intsV (own_set (own_set (own_set (own_set v2 q2R) q2R) q2R) q2R), own_strs (own_set (own_set (own_set (own_set v3 q3R) q3R) q3R) q3R), ?_⟩
          show ChAt _ _ (mergeL ps)
          rw [← HEq.out]
          refine own_chs (B := W3.heap.size) ?_
          rw [← HN7.out]
          exact hc
        · exact belSetV (belSetV (belSetV (belSetV hBw (by omega)) (by omega)) (by omega)) (by omega)
  · have h0' : decide ((0 : Int) < (k : Int)) = true := decide_eq_true (by omega)
    have h0'' : decide (0 < k) = true := decide_eq_true (by omega)
    have HO : Hid (okM x ps = false) := by show okM x ps = false; unfold okM; rw [HLy.out h0, Bool.and_false]; rfl
    clear h0
    go_wp2_with fail
    refine bodyPost_ret (v := .tuple #[.agg #[.slice none 0 0, .slice none 0 0, .slice none 0 0, .slice none 0 0], .int .i64 1]) (by simp [results, Try.results19, go_sem, *]) rfl ?_
    have hE := HE.out
    have hR := HR.out
    refine ⟨_, _, _, _, by rw [HOo.out, HO.out]; rfl, ?_, ?_⟩
    · rw [HYy.out, HO.out]; exact wv0_at _
    · exact belSetV (belSetV (belSetV (belSetV HB0.out (by omega)) (by omega)) (by omega)) (by omega)
end Go.Proofs.Ytfefgldngkpgjaa

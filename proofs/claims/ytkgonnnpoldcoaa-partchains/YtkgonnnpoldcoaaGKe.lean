/- Texts KP KQ, joined: what each part says stands ahead of it. -/
import Derived.Test.YtkgonnnpoldcoaaGKd
/- The reference's Levels. -/
namespace Go.Proofs.Ytkgonnnpoldcoaa
open Go.RowKit Lg Nl Go.Maps
set_option linter.unusedVariables false
set_option linter.unusedSimpArgs false

theorem hang_mem {l : List Nd} (hk : Ok l) {x : Nd} (hx : x ∈ l) : ∀ z ∈ hangL x, inB l.length z = true := by
  intro z hz
  have h := hk.i x hx
  rw [List.all_eq_true] at h
  unfold hangL at hz
  split at hz
  · cases hz
  · split at hz
    · exact h z (List.mem_of_mem_take hz)
    · exact h z hz
theorem hang_len {l : List Nd} (hk : Ok l) {x : Nd} (hx : x ∈ l) : (hangL x).length ≤ 256 := by
  have := hk.q x hx
  unfold hangL
  split
  · simp
  · split
    · rw [List.length_take]; omega
    · exact this
theorem hgs_take (x : Nd) (k : Nat) (hk : k < (hangL x).length) : (hgs x).take (k + 1) = (hgs x).take k ++ [((hangL x)[k]).toNat] := by
  have h : k < (hgs x).length := by simpa [hgs] using hk
  rw [List.take_succ_eq_append_getElem h]
  simp [hgs]
theorem hgs_len (x : Nd) : (hgs x).length = (hangL x).length := by simp [hgs]
theorem mulE (r n : Nat) : (r + 1) * (n * 256) = r * (n * 256) + n * 256 := by rw [Nat.add_mul, Nat.one_mul]
theorem S1.drewN {w W : World} {bx : Obj} (h : S1 w bx W) (n : Nat) : S1 w bx (W.drewN n) := ⟨belDN h.bel n, h.x⟩
set_option maxRecDepth 100000 in
set_option maxHeartbeats 4000000 in
theorem kLevels_c (l : List Nd) (vN vT : Value) (pt : Int) (w : World) (hT : ∃ ao n c, vT = .slice ao n c) (hN : NdsAt w vN l) (hok : Ok l) :
    Calls Try.prog 14 #[.agg #[vN, vT, .int .i64 pt]] w fun e w' => ((levels l = none ∧ e = .returned (.tuple #[.slice none 0 0, .bool false])) ∨ (∃ f T, levels l = some f ∧ w.heap.size ≤ T ∧ e = .returned (.tuple #[.slice (some ⟨T, 0, none⟩) l.length l.length, .bool true]) ∧ w'.rowIs T 3 l.length (fun q => .int .i64 (f q)))) ∧ Below w.heap.size w w' := by
  obtain ⟨ta, m, tc, rfl⟩ := hT
  obtain ⟨na, nc, rfl, hnc, hN'⟩ := id hN
  obtain ⟨n, hn⟩ : ∃ n, n = l.length := ⟨_, rfl⟩
  have hn4 : n ≤ 4096 := by rw [hn]; exact hok.n
  rw [← hn] at hN hnc ⊢
  have HN : Hid (NdsAt w (.slice na n nc) l) := hN
  have HK : Hid (Ok l) := hok
  have HNL : Hid (n = l.length) := hn
  have hmk := mkInts n (by omega)
  clear hN hok hn hN'
  go_enter Try.func14, Try.ntmps14
  go_wp2
  obtain ⟨T, hT⟩ : ∃ T, T = w.heap.size + 1 := ⟨_, rfl⟩
  have hTx : w.heap.size + 1 ≤ T := by omega
  have HQ0 : Hid (((w.alloc (.cells #[.slice na n nc, .slice ta m tc, .int .i64 pt] 26)).alloc (.cells (madeCells #[.int .i64 0] n) 3)).rowIs T 3 n (fun q => .int .i64 ((fun _ => 0 : Nat → Int) q))) := rowCast (World.rowIs_made (w.alloc (.cells #[.slice na n nc, .slice ta m tc, .int .i64 pt] 26)) (.int .i64 0) n 3) (by simp [hT])
  have HS0 : Hid (S1 w (.cells #[.slice na n nc, .slice ta m tc, .int .i64 pt] 26 (0, 0)) ((w.alloc (.cells #[.slice na n nc, .slice ta m tc, .int .i64 pt] 26)).alloc (.cells (madeCells #[.int .i64 0] n) 3))) := S1.alloc S1.start
  rw [← hT]
  clear hmk hT
  generalize (w.alloc (.cells #[.slice na n nc, .slice ta m tc, .int .i64 pt] 26)).alloc (.cells (madeCells #[.int .i64 0] n) 3) = W0 at HQ0 HS0 ⊢
  go_loopw [6] (fun s6 W => ∃ (r : Nat) (f : Nat → Int), r ≤ n + 1 ∧ s6 = .int .i64 r ∧ Hid (levels l = lvR l (n + 1 - r) f) ∧ Hid (∀ q, 0 ≤ f q ∧ f q ≤ (r * (n * 256) : Nat)) ∧ Hid (S1 w (.cells #[.slice na n nc, .slice ta m tc, .int .i64 pt] 26 (0, 0)) W) ∧ Hid (W.rowIs T 3 n (fun q => .int .i64 (f q)))) (fun s6 W => n + 1 - (intOf s6).toNat)
  case atStart => exact ⟨0, fun _ => 0, Nat.zero_le _, rfl, by show levels l = _; unfold levels; rw [← HNL.out]; rfl, fun q => by simp, HS0.out, HQ0.out⟩
  case round =>
    obtain ⟨r, f, hr, rfl, HL, HBd, HS, HQ⟩ := hrel
    by_cases hrn : r ≤ n
    · have hr1 : (r : Int) ≤ (n : Int) := by omega
      go_wp2
      go_loopw [7, 8] (fun s7 s8 W => ∃ (i : Nat) (c : Bool) (h : Nat → Int), i ≤ n ∧ s8 = .int .i64 i ∧ s7 = .bool c ∧ Hid (sweepTo l f i = (h, c)) ∧ Hid (∀ q, 0 ≤ h q ∧ h q ≤ (r * (n * 256) + i * 256 : Nat)) ∧ Hid (S1 w (.cells #[.slice na n nc, .slice ta m tc, .int .i64 pt] 26 (0, 0)) W) ∧ Hid (W.rowIs T 3 n (fun q => .int .i64 (h q)))) (fun s7 s8 W => n - (intOf s8).toNat)
      case atStart => exact ⟨0, false, f, Nat.zero_le _, rfl, rfl, rfl, fun q => by have := HBd.out q; simpa using this, HS.out, HQ.out⟩
      case round =>
        clear HS HQ
        obtain ⟨i, c, h, hi, rfl, rfl, HSw, HBh, HS, HQ⟩ := hrel
        obtain ⟨b0, b1, b2⟩ := cells3n HS.out.x
        have lx := hLt HS.out.x
        by_cases hlt : i < n
        · have hil : i < l.length := by rw [← HNL.out]; exact hlt
          obtain ⟨g, o, cap, hg⟩ := HN.out.some_ (by omega)
          injection hg with e1 e2 e3
          subst e1
          obtain ⟨gl, ia, ic, hI, c0, c1, c2, c3, c4, c5, c6, c7⟩ := HN.out.at_ i hil
          have d0 := (HS.out.bel.cell (p := ⟨g, o + i * 8, none⟩) gl).trans c0
          have d1 := (HS.out.bel.cell (p := ⟨g, o + i * 8 + 1, none⟩) gl).trans c1
          have d2 := (HS.out.bel.cell (p := ⟨g, o + i * 8 + 2, none⟩) gl).trans c2
          have d3 := (HS.out.bel.cell (p := ⟨g, o + i * 8 + 3, none⟩) gl).trans c3
          have d4 := (HS.out.bel.cell (p := ⟨g, o + i * 8 + 4, none⟩) gl).trans c4
          have d5 := (HS.out.bel.cell (p := ⟨g, o + i * 8 + 5, none⟩) gl).trans c5
          have d6 := (HS.out.bel.cell (p := ⟨g, o + i * 8 + 6, none⟩) gl).trans c6
          have d7 := (HS.out.bel.cell (p := ⟨g, o + i * 8 + 7, none⟩) gl).trans c7
          clear c0 c1 c2 c3 c4 c5 c6 c7
          have hmem := List.getElem_mem hil
          have HC : Hid (Calls Try.prog 32 #[.agg #[.int .i64 l[i].k, .int .i64 l[i].op, .int .i64 l[i].wd, .slice ia l[i].ins.length ic, .string (S l[i].vl), .int .i64 l[i].hi, .int .i64 l[i].lo, .int .i64 l[i].tm]] wr fun e w' => (∃ ao m cp, e = .returned (.slice ao m cp) ∧ Hid (m = (hangL l[i]).length) ∧ Hid (IntsAt w (.slice ao m cp) (hangL l[i]))) ∧ Below wr.heap.size wr w') := (kHangs_c l[i] ia ic wr (hI.below HS.out.bel) (HK.out.f _ hmem) (by have := HK.out.q _ hmem; omega)).mono (fun e w' h => ⟨by obtain ⟨⟨ao, m, cp, h1, h2, h3⟩, _⟩ := h; exact ⟨ao, m, cp, h1, h2, h3 w hI⟩, h.2⟩)
          have hhm := hang_mem HK.out hmem
          have hhl := hang_len HK.out hmem
          have HX : Hid (ndAt l i = l[i]) := ndAt_eq hil
          have hst : sweepTo l f (i + 1) = bumps (h, c) i (hgs l[i]) := by rw [sweepTo, HSw.out, HX.out]
          generalize l[i] = x at d0 d1 d2 d3 d4 d5 d6 d7 HC hhm hhl hst
          have HST : Hid (sweepTo l f (i + 1) = bumps (h, c) i (hgs x)) := hst
          have HHM : Hid (∀ z ∈ hangL x, inB l.length z = true) := hhm
          clear hI e2 e3 hmem hst hhm
          have HGL : Hid ((hgs x).length = (hangL x).length) := hgs_len x
          have HGT : Hid (∀ k (hk : k < (hangL x).length), (hgs x).take (k + 1) = (hgs x).take k ++ [((hangL x)[k]).toNat]) := fun k hk => hgs_take x k hk
          generalize hgs x = gs at HST HGL HGT
          generalize hangL x = hs at HC hhl HHM HGL HGT
          obtain ⟨k, op, wd, ins, vl, hi', lo, tm⟩ := x
          simp only at d0 d1 d2 d3 d4 d5 d6 d7 HC
          have i1 : (0 : Int) ≤ (i : Int) := by omega
          have i2 : (i : Int) < (n : Int) := by omega
          go_wp2_with (first | (go_at_call 32; refine HC.out.mono ?_; rintro e w5 ⟨⟨ho, hm, hc, rfl, hmq, hI5⟩, hb5⟩))
          have HS5 := S1.below HS.out hb5
          have hTl := HQ.out.lt
          have HQ5 : Hid (w5.rowIs T 3 n (fun q => .int .i64 (h q))) := World.rowIs.of_block HQ.out (hb5.block T hTl)
          have HI5 : Hid (IntsAt w (.slice ho hm hc) hs) := hI5
          have HMQ : Hid (hm = hs.length) := hmq
          have hm2 : hm ≤ 256 := by rw [hmq.out]; exact hhl
          clear hmq hI5 hhl d0 d1 d2 d3 d4 d5 d6 d7 b0 b1 b2 lx hb5 HC
          go_loopw [7, 10] (fun s7 s10 W => ∃ (kk : Nat) (c' : Bool) (h' : Nat → Int), kk ≤ hm ∧ s10 = .int .i64 kk ∧ s7 = .bool c' ∧ Hid (bumps (h, c) i (gs.take kk) = (h', c')) ∧ Hid (∀ q, 0 ≤ h' q ∧ h' q ≤ (r * (n * 256) + i * 256 + kk : Nat)) ∧ Hid (S1 w (.cells #[.slice (some ⟨g, o, none⟩) n nc, .slice ta m tc, .int .i64 pt] 26 (0, 0)) W) ∧ Hid (W.rowIs T 3 n (fun q => .int .i64 (h' q)))) (fun s7 s10 W => hm - (intOf s10).toNat)
          case atStart => exact ⟨0, c, h, Nat.zero_le _, rfl, rfl, rfl, fun q => by have := HBh.out q; simpa using this, HS5, HQ5.out⟩
          case round =>
            clear HS5 HQ5 HS HQ hTl
            obtain ⟨kk, c', h', hkk, rfl, rfl, HB2, HBq, HS, HQ⟩ := hrel
            by_cases hlk : kk < hm
            · have hkl : kk < hs.length := by rw [← HMQ.out]; exact hlk
              obtain ⟨g2, o2, cap2, hg2⟩ := HI5.out.some_ (by omega)
              injection hg2 with e4 e5 e6
              subst e4
              obtain ⟨gl2, gd2⟩ := HI5.out.cell kk hkl
              have hzi := HHM.out hs[kk] (List.getElem_mem hkl)
              rw [← HNL.out] at hzi
              simp [inB] at hzi
              obtain ⟨z, hz⟩ : ∃ z : Nat, hs[kk] = (z : Int) := ⟨hs[kk].toNat, by omega⟩
              rw [hz] at gd2 hzi
              have hzn : z < n := by omega
              have d1 : wr.cell? ⟨g2, o2 + kk, none⟩ = some (.int .i64 z) := (HS.out.bel.cell (p := ⟨g2, o2 + kk, none⟩) gl2).trans gd2
              have y0 := HQ.out.cell hzn
              have y1 := HQ.out.cell hlt
              have yf := HQ.out.frozen i
              have bz := HBq.out z
              have bi := HBq.out i
              have hTl := HQ.out.lt
              obtain ⟨a, ha⟩ : ∃ a, a = h' z := ⟨_, rfl⟩
              obtain ⟨b, hb⟩ : ∃ b, b = h' i := ⟨_, rfl⟩
              rw [← ha] at y0 bz
              rw [← hb] at y1 bi
              have bnd : (r * (n * 256) + i * 256 + kk : Nat) ≤ 8589934592 := by
                have e1 : r * (n * 256) ≤ 4096 * (4096 * 256) := Nat.mul_le_mul (by omega) (by omega)
                omega
              have a1 : 0 ≤ a := bz.1
              have a2 : a ≤ 8589934592 := by omega
              have b1 : 0 ≤ b := bi.1
              have b2 : b ≤ 8589934592 := by omega
              have HA : Hid (a = h' z) := ha
              have HBB : Hid (b = h' i) := hb
              have HZ : Hid (hs[kk] = (z : Int)) := hz
              have HBZ : Hid (a ≤ (r * (n * 256) + i * 256 + kk : Nat)) := bz.2
              have z1 : (0 : Int) ≤ (z : Int) := by omega
              have z2 : (z : Int) < (n : Int) := by omega
              have k1 : (0 : Int) ≤ (kk : Int) := by omega
              have k2 : (kk : Int) < (hm : Int) := by omega
              have nT : g2 ≠ T := by omega
              clear ha hb hz hzi bz bi e5 e6 gd2 bnd
              have hbk : bumps (h, c) i (gs.take (kk + 1)) = bump i (h', c') z := by rw [HGT.out kk hkl, bumps_snoc, HB2.out, HZ.out, Int.toNat_natCast]
              have HBK : Hid (bumps (h, c) i (gs.take (kk + 1)) = bump i (h', c') z) := hbk
              clear hbk
              by_cases hgt : b < a + 1
              · go_wp2_with fail
                go_quiet (fail)
                go_wp2_with fail
                go_roundw
                case rel =>
                  refine ⟨kk + 1, true, fun q => if q = i then a + 1 else h' q, hlk, by go_num, rfl, ?_, fun q => ?_, S1.set (S1.drewN HS.out nq) hTx, ?_⟩
                  · show bumps (h, c) i (gs.take (kk + 1)) = _
                    rw [HBK.out]
                    unfold bump
                    rw [if_pos (by show h' i < h' z + 1; rw [← HA.out, ← HBB.out]; exact hgt)]
                    show (fun q => if q = i then h' z + 1 else h' q, true) = _
                    rw [← HA.out]
                  · have h1 := HBq.out q
                    have h2 := HBZ.out
                    show 0 ≤ (if q = i then a + 1 else h' q) ∧ (if q = i then a + 1 else h' q) ≤ _
                    split <;> omega
                  · refine World.rowIs.congr (World.rowIs.set (World.rowIs.of_block (w' := wr.drewN nq) HQ.out rfl) i (.int .i64 (a + 1))) (fun q hq => ?_)
                    show (if q = i then Value.int .i64 (a + 1) else .int .i64 (h' q)) = .int .i64 (if q = i then a + 1 else h' q)
                    split <;> rfl
                case measure => simp [intOf]; omega
              · go_wp2_with fail
                go_quiet (fail)
                go_wp2_with fail
                go_roundw
                case rel =>
                  refine ⟨kk + 1, c', h', hlk, by go_num, rfl, ?_, fun q => ?_, S1.drewN HS.out nq, World.rowIs.of_block (w' := wr.drewN nq) HQ.out rfl⟩
                  · show bumps (h, c) i (gs.take (kk + 1)) = _
                    rw [HBK.out]
                    unfold bump
                    rw [if_neg (by show ¬ h' i < h' z + 1; rw [← HA.out, ← HBB.out]; omega)]
                  · have h1 := HBq.out q
                    omega
                case measure => simp [intOf]; omega
            · obtain rfl : kk = hm := by omega
              have hgk : gs.take kk = gs := List.take_of_length_le (by rw [HGL.out, HMQ.out]; exact Nat.le_refl _)
              have HB3 : Hid (sweepTo l f (i + 1) = (h', c')) := by show sweepTo l f (i + 1) = (h', c'); rw [HST.out, ← HB2.out, hgk]
              clear hgk
              go_wp2
              go_roundw
              case rel => exact ⟨i + 1, c', h', hlt, by go_num, rfl, HB3.out, fun q => by have h1 := HBq.out q; omega, HS.out, HQ.out⟩
              case measure => simp [intOf]; omega
        · obtain rfl : i = n := by omega
          have HL2 : Hid (levels l = if c then lvR l (i - r) h else some h) := by
            show levels l = if c then lvR l (i - r) h else some h
            rw [HL.out, show i + 1 - r = (i - r) + 1 by omega, lvR, ← HNL.out, HSw.out]
          cases c with
          | true =>
            go_wp2
            go_roundw
            case rel =>
              refine ⟨r + 1, h, by omega, by go_num, ?_, fun q => ?_, HS.out, HQ.out⟩
              · show levels l = _
                rw [HL2.out, show i + 1 - (r + 1) = i - r by omega]; rfl
              · have h1 := HBh.out q
                rw [mulE]; exact h1
            case measure => simp [intOf]; omega
          | false =>
            go_wp2
            go_ret2
            exact ⟨Or.inr ⟨h, T, by rw [HL2.out]; rfl, by omega, rfl, HQ.out⟩, HS.out.bel⟩
    · obtain rfl : r = n + 1 := by omega
      have hr1 : ¬ ((n + 1 : Nat) : Int) ≤ (n : Int) := by omega
      have HL2 : Hid (levels l = none) := by show levels l = none; rw [HL.out, Nat.sub_self]; rfl
      go_wp2
      go_ret2
      exact ⟨Or.inl ⟨HL2.out, rfl⟩, HS.out.bel⟩
end Go.Proofs.Ytkgonnnpoldcoaa

/- A netlist that grows: the shared book's adds. -/
namespace Go.Proofs.Ytkgonnnpoldcoaa
open Go.RowKit Lg Nl Go.Maps
set_option linter.unusedVariables false
set_option linter.unusedSimpArgs false

/-- blocks from B on, but two -/
def Nb1 (B b : Nat) (v : Value) : Nat → Prop := fun g => B ≤ g ∧ g ≠ b ∧ v.ownBlock ≠ some g
def Nb (B b : Nat) (v vT : Value) : Nat → Prop := fun g => Nb1 B b v g ∧ vT.ownBlock ≠ some g
/-- numbers in a block such as N tells -/
def IntsN (w : World) (N : Nat → Prop) (v : Value) (l : List Int) : Prop :=
  ∃ ao cap, v = .slice ao l.length cap ∧ l.length ≤ cap ∧ (l = [] ∨ ∃ g o, ao = some ⟨g, o, none⟩ ∧ N g ∧ g < w.heap.size ∧ ∀ i (h : i < l.length), w.cell? ⟨g, o + i, none⟩ = some (.int .i64 l[i]))
def KeepN (N : Nat → Prop) (w w' : World) : Prop := w.heap.size ≤ w'.heap.size ∧ ∀ k, k < w.heap.size → N k → w'.heap[k]? = w.heap[k]?
theorem IntsN.keep {w w' : World} {N : Nat → Prop} {v : Value} {l : List Int} (h : IntsN w N v l) (hk : KeepN N w w') : IntsN w' N v l := by
  obtain ⟨ao, cap, rfl, hc, h⟩ := h
  refine ⟨ao, cap, rfl, hc, ?_⟩
  rcases h with h | ⟨g, o, rfl, hN, hg, h⟩
  · exact Or.inl h
  · exact Or.inr ⟨g, o, rfl, hN, Nat.lt_of_lt_of_le hg hk.1, fun i hi => by rw [World.cell?_of_block (w := w) (a := ⟨g, o + i, none⟩) (hk.2 g hg hN)]; exact h i hi⟩
theorem IntsN.mono {w : World} {N N' : Nat → Prop} {v : Value} {l : List Int} (h : IntsN w N v l) (hm : ∀ g, g < w.heap.size → N g → N' g) : IntsN w N' v l := by
  obtain ⟨ao, cap, rfl, hc, h⟩ := h
  refine ⟨ao, cap, rfl, hc, ?_⟩
  rcases h with h | ⟨g, o, rfl, hN, hg, h⟩
  · exact Or.inl h
  · exact Or.inr ⟨g, o, rfl, hm g hg hN, hg, h⟩
theorem IntsN.ints {w : World} {N : Nat → Prop} {v : Value} {l : List Int} (h : IntsN w N v l) : IntsAt w v l := by
  obtain ⟨ao, cap, rfl, hc, h⟩ := h
  refine ⟨ao, cap, rfl, hc, ?_⟩
  rcases h with h | ⟨g, o, rfl, hN, hg, h⟩
  · exact Or.inl h
  · exact Or.inr ⟨g, o, rfl, hg, h⟩
/-- cells are those of nodes -/
inductive NcAt (w : World) (N : Nat → Prop) : List Nd → List Value → Prop
  | nil : NcAt w N [] []
  | cons {x : Nd} {vi : Value} {l : List Nd} {xs : List Value} (hi : IntsN w N vi x.ins) (h : NcAt w N l xs) : NcAt w N (x :: l) (ndC x vi ++ xs)
theorem NcAt.keep {w w' : World} {N : Nat → Prop} (hk : KeepN N w w') {l : List Nd} {xs : List Value} (h : NcAt w N l xs) : NcAt w' N l xs := by
  induction h with
  | nil => exact .nil
  | cons hi _ ih => exact .cons (hi.keep hk) ih
theorem NcAt.mono {w : World} {N N' : Nat → Prop} (hm : ∀ g, g < w.heap.size → N g → N' g) {l : List Nd} {xs : List Value} (h : NcAt w N l xs) : NcAt w N' l xs := by
  induction h with
  | nil => exact .nil
  | cons hi _ ih => exact .cons (hi.mono hm) ih
theorem NcAt.snoc {w : World} {N : Nat → Prop} {l : List Nd} {xs : List Value} (h : NcAt w N l xs) {x : Nd} {vi : Value} (hi : IntsN w N vi x.ins) : NcAt w N (l ++ [x]) (xs ++ ndC x vi) := by
  induction h with
  | nil => have := NcAt.cons hi (NcAt.nil (w := w) (N := N)); simpa using this
  | cons hi' _ ih => rw [List.append_assoc]; exact .cons hi' ih
theorem NcAt.at_ {w : World} {N : Nat → Prop} {l : List Nd} {xs : List Value} (h : NcAt w N l xs) : ∀ i (hi : i < l.length), ∃ vi, IntsN w N vi l[i].ins ∧ ∀ j u, (ndC l[i] vi)[j]? = some u → xs[i * 8 + j]? = some u := by
  induction h with
  | nil => intro i hi; cases hi
  | @cons x vi l xs h1 _ ih =>
    intro i hi
    cases i with
    | zero =>
      refine ⟨vi, h1, fun j u hu => ?_⟩
      have hu' : (ndC x vi)[j]? = some u := hu
      rw [Nat.zero_mul, Nat.zero_add, List.getElem?_append_left (List.getElem?_eq_some_iff.1 hu').1]
      exact hu'
    | succ i =>
      obtain ⟨vi', a, b⟩ := ih i (by simpa using hi)
      refine ⟨vi', a, fun j u hu => ?_⟩
      have e : (i + 1) * 8 + j = (ndC x vi).length + (i * 8 + j) := by show _ = 8 + _; omega
      rw [e, List.getElem?_append_right (by omega), Nat.add_sub_cancel_left]
      exact b j u hu
/-- its ports' number, and its nets -/
structure Pt where
  z : Int
  nets : List Int
/-- the netlist that grows, at its block -/
structure LsW (B b : Nat) (l : List Nd) (vN vT : Value) (pt : Pt) (w : World) : Prop where
  blk : w.heap[b]? = some (.cells #[vN, vT, .int .i64 pt.z] 51 (0, 0))
  row : ∃ xs, w.ownsRow B 47 8 vN l.length xs ∧ NcAt w (Nb B b vN vT) l xs
  hb : B ≤ b
  nt : w.ownsRow B 3 1 vT pt.nets.length (iC pt.nets) ∧ ∀ g, vT.ownBlock = some g → Nb1 B b vN g
theorem own_keep {w w' : World} {N : Nat → Prop} {B e z n : Nat} {v : Value} {xs : List Value} (h : w.ownsRow B e z v n xs) (hN : ∀ g, v.ownBlock = some g → N g) (hk : KeepN N w w') : w'.ownsRow B e z v n xs := by
  obtain ⟨h1, h2⟩ := h
  refine ⟨h1, ?_⟩
  rcases h2 with h2 | ⟨g, cap, cur, rfl, hg, hh, r⟩
  · exact Or.inl h2
  · exact Or.inr ⟨g, cap, cur, rfl, hg, (hk.2 g (hLt hh) (hN g rfl)).trans hh, r⟩
theorem own_neT {w : World} {B n b : Nat} {v : Value} {xs : List Value} {c : Array Value} {e t z : Nat} (ho : w.ownsRow B e z v n xs) (hb : w.heap[b]? = some (.cells c t (0, 0))) (ht : t ≠ e) : v.ownBlock ≠ some b := by
  intro h
  rcases ho.2 with ⟨rfl, _⟩ | ⟨g, cap, cur, rfl, _, hh, _⟩
  · cases h
  · simp [Value.ownBlock] at h
    subst h
    rw [hb] at hh
    injection hh with hh
    injection hh with _ h2
    exact ht h2
theorem LsW.nds {B b : Nat} {l : List Nd} {vN vT : Value} {pt : Pt} {w : World} (h : LsW B b l vN vT pt w) : NdsAt w vN l := by
  obtain ⟨xs, ho, hn⟩ := h.row
  rcases ho.2 with ⟨rfl, h0⟩ | ⟨g, cap, cur, rfl, hg, hh, hc, _, hz, ht⟩
  · exact ⟨none, 0, by rw [h0], by omega, Or.inl (List.eq_nil_of_length_eq_zero h0)⟩
  · refine ⟨_, cap, rfl, hc, Or.inr ⟨g, 0, rfl, hLt hh, fun i hi => ?_⟩⟩
    obtain ⟨vi, a, b⟩ := hn.at_ i hi
    refine ⟨vi, a.ints, fun j u hu => ?_⟩
    have hx := b j u hu
    rw [Lib.cell_of_heap hh, Nat.zero_add]
    rw [← ht, List.getElem?_take] at hx
    split at hx
    · simpa using hx
    · cases hx
/-- what a call that adds nodes leaves: below B, and in blocks that are neither the netlist's nor its row's, all is as it was -/
structure Bx (B b : Nat) (v v' : Value) (w w' : World) : Prop where
  bel : Below B w w'
  kp : KeepN (Nb1 B b v) w w'
  nx : ∀ g, g < w.heap.size → Nb1 B b v g → Nb1 B b v' g
theorem Bx.of_below {B b : Nat} {v : Value} {w w' : World} (hB : B ≤ w.heap.size) (h : Below w.heap.size w w') : Bx B b v v w w' := ⟨h.mono hB, ⟨h.size, fun k hk _ => h.block k hk⟩, fun _ _ h => h⟩
theorem Bx.refl {B b : Nat} {v : Value} {w : World} : Bx B b v v w w := ⟨Below.refl _ _, ⟨Nat.le_refl _, fun _ _ _ => rfl⟩, fun _ _ h => h⟩
theorem Bx.trans {B b : Nat} {v v1 v2 : Value} {w w1 w2 : World} (h : Bx B b v v1 w w1) (k : Bx B b v1 v2 w1 w2) : Bx B b v v2 w w2 :=
  ⟨h.bel.trans k.bel, ⟨Nat.le_trans h.kp.1 k.kp.1, fun g hg hN => (k.kp.2 g (Nat.lt_of_lt_of_le hg h.kp.1) (h.nx g hg hN)).trans (h.kp.2 g hg hN)⟩, fun g hg hN => k.nx g (Nat.lt_of_lt_of_le hg h.kp.1) (h.nx g hg hN)⟩
theorem infoNd : ∃ i, Try.prog.info? 47 = some i ∧ i.zero = some (.agg #[.int .i64 0, .int .i64 0, .int .i64 0, .slice none 0 0, .string ⟨#[]⟩, .int .i64 0, .int .i64 0, .int .i64 0]) ∧ i.size = 8 ∧ i.bytes = 88 := info_parts (by kernel_rfl)
end Go.Proofs.Ytkgonnnpoldcoaa

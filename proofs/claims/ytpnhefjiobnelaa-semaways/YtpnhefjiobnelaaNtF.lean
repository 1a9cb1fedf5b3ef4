/- Layer 7 of the program: an always without a clock. -/
import Derived.Test.YtpnhefjiobnelaaNtE
import Derived.Maps.RangeWalk
namespace Go.Proofs.Ytpnhefjiobnelaa
open Go.RowKit Lg Rp Go.Maps
set_option linter.unusedVariables false
set_option linter.unusedSimpArgs false

theorem Pr.drive {cb mb k pb tb sb nb db : Nat} {f d d' : Asc} {fs : List (Asc × Asc)} {p : Option Addr} {tg : Asc} {w w' : World} (h : Pr cb mb k pb tb sb nb db f d fs p tg w) (hs : Sc w' cb sb nb db f d' fs p) (hk : Kp db w w') : Pr cb mb k pb tb sb nb db f d' fs p tg w' := by
  have h1 := h.l1
  have h2 := h.l2
  have h3 := h.s.lo
  have h4 := h.s.l1
  have h5 := h.s.l2
  have e : ∀ j, j < w.heap.size → j ≠ db → w'.heap[j]? = w.heap[j]? := fun j => hk.block j
  exact ⟨h.c.keep (e cb (heap_lt h.c) (by omega)), hs, (e pb (heap_lt h.blk) (by omega)).trans h.blk, h.t.keep (e tb h.t.lt (by omega)), h1, h2⟩
theorem Pr.bel {cb mb k pb tb sb nb db : Nat} {f d : Asc} {fs : List (Asc × Asc)} {p : Option Addr} {tg : Asc} {w w' : World} (h : Pr cb mb k pb tb sb nb db f d fs p tg w) (hb : Below w.heap.size w w') : Pr cb mb k pb tb sb nb db f d fs p tg w' :=
  ⟨h.c.keep (hb.block cb (heap_lt h.c)), h.s.below hb, (hb.block pb (heap_lt h.blk)).trans h.blk, h.t.keep (hb.block tb h.t.lt), h.l1, h.l2⟩
theorem Below.gr0 {w w' : World} (h : w.grownBy w' none) : Below w.heap.size w w' := ⟨h.os, h.tape, h.output, h.size, fun j hj => h.block j hj (by simp)⟩
/-- the iterator's block alone has changed, which is new -/
theorem Below.gr1 {B r : Nat} {w w1 w2 : World} (h : Below B w w1) (k : w1.grownBy w2 (some r)) (hr : B ≤ r) (hB : B ≤ w1.heap.size) : Below B w w2 := ⟨k.os.trans h.os, k.tape.trans h.tape, k.output.trans h.output, Nat.le_trans h.size k.size, fun j hj => (k.block j (by omega) (by intro e; injection e with e; omega)).trans (h.block j hj)⟩
theorem Kp.gr {db : Nat} {w w' : World} (h : Kp db w w') : w.grownBy w' (some db) := ⟨h.os, h.tape, h.output, h.size, fun j hj hb => h.block j hj (by intro e; exact hb (by rw [e]))⟩
theorem sKeyInv (key : Value) (kl : Lit) (h : keyOf Try.prog 9 key = some kl) : ∃ x : ByteArray, key = .string x := by
  obtain ⟨x, rfl, _⟩ := Go.WideMaps.string_of_keyOf Try.underlying9 h
  exact ⟨x, rfl⟩
theorem sValInv (v : Value) (y : DataW Unit × List MemPlace) (h : plainElem Try.prog 3 v = some y) : ∃ c : Int, v = .int .i64 c := by
  obtain ⟨c, rfl, _⟩ := plainElem_int_inv Try.underlying3 h
  exact ⟨c, rfl⟩
theorem Kp.ofG {r : Nat} {w w' : World} (h : w.grownBy w' (some r)) : Kp r w w' := ⟨h.os, h.tape, h.output, h.size, fun j hj hb => h.block j hj (by intro e; injection e with e; exact hb e)⟩
theorem Pr.kpr {cb mb k pb tb sb nb db r : Nat} {f d : Asc} {fs : List (Asc × Asc)} {p : Option Addr} {tg : Asc} {w w' : World} (h : Pr cb mb k pb tb sb nb db f d fs p tg w) (hk : Kp r w w') (hr : pb < r) : Pr cb mb k pb tb sb nb db f d fs p tg w' := by
  have h1 := h.l1
  have h2 := h.l2
  have h3 := h.s.lo
  have h4 := h.s.l1
  have h5 := h.s.l2
  have h6 := heap_lt h.s.blk
  obtain ⟨B0, hch, hB⟩ := h.s.ex
  have e : ∀ j, j < w.heap.size → j ≠ r → w'.heap[j]? = w.heap[j]? := fun j => hk.block j
  exact ⟨h.c.keep (e cb (heap_lt h.c) (by omega)), ⟨⟨B0, hch.keep fun j _ hj => e j (by omega) (by omega), hB⟩, h4, h5, (e sb h6 (by omega)).trans h.s.blk, h.s.hn.keep (e nb (by omega) (by omega)), h.s.hd.keep (e db (by omega) (by omega))⟩, (e pb (heap_lt h.blk) (by omega)).trans h.blk, h.t.keep (e tb h.t.lt (by omega)), h1, h2⟩
theorem Kz.kpr {a b c r : Nat} {w w1 w2 : World} (h : Kz a b c w w1) (k : Kp r w1 w2) (hr : w.heap.size ≤ r) : Kz a b c w w2 := ⟨k.os.trans h.os, k.tape.trans h.tape, k.output.trans h.output, Nat.le_trans h.size k.size, fun j hj h1 h2 h3 => (k.block j (Nat.lt_of_lt_of_le hj h.size) (by omega)).trans (h.block j hj h1 h2 h3)⟩
theorem Kz.kzr {a b c t : Nat} {w w1 w2 : World} (h : Kz a b c w w1) (k : Kz a t t w1 w2) (ht : w.heap.size ≤ t) : Kz a b c w w2 := ⟨k.os.trans h.os, k.tape.trans h.tape, k.output.trans h.output, Nat.le_trans h.size k.size, fun j hj h1 h2 h3 => (k.block j (Nat.lt_of_lt_of_le hj h.size) h1 (by omega) (by omega)).trans (h.block j hj h1 h2 h3)⟩
theorem tgM_two {tg f d d' : Asc} (h : tgM tg f d = some d') : (tg = [] ∧ d' = d) ∨ ∃ nm, tg = [(nm, 3)] ∧ lk f nm = some 3 ∧ lk d nm = none ∧ nm.length ≤ 1000000 ∧ d.length + 1 < 1000000 ∧ d' = (nm, 3) :: d := by
  match tg, h with
  | [], h => unfold tgM at h; injection h with h; exact Or.inl ⟨rfl, h.symm⟩
  | [(nm, v)], h =>
    unfold tgM at h
    simp only at h
    split at h
    · rename_i hc
      obtain ⟨rfl, h1, h2, h3, h4⟩ := hc
      injection h with h
      exact Or.inr ⟨nm, rfl, h1, h2, h3, h4, h.symm⟩
    · cases h
  | _ :: _ :: _, h => unfold tgM at h; cases h
set_option maxRecDepth 100000 in
set_option maxHeartbeats 16000000 in
theorem sAlways {cb mb F : Nat} : AlC (alM F) cb mb := by
  intro sb nb db g o f d fs p k x vs r w h0 hq hc h hX
  have hmm := @run_makeMap Try.prog
  unfold alM at hq
  rw [Option.bind_eq_some_iff] at hq
  obtain ⟨⟨n, l⟩, h45, hq⟩ := hq
  rw [Option.bind_eq_some_iff] at hq
  obtain ⟨at_, h47, hq⟩ := hq
  split at hq
  · rename_i hn
    rw [Option.bind_eq_some_iff] at hq
    obtain ⟨⟨tg, k1⟩, hps, hq⟩ := hq
    rw [Option.bind_eq_some_iff] at hq
    obtain ⟨d', htg, hq⟩ := hq
    rw [Option.bind_eq_some_iff] at hq
    obtain ⟨q, hkp, hq⟩ := hq
    injection hq with hq
    simp only at hps htg hkp hn
    have hlo := h.lo
    have hl1 := h.l1
    have hl2 := h.l2
    have hcb := heap_lt hc
    have hsl := heap_lt h.blk
    obtain ⟨a45, c45, _, hc45, hkid⟩ := hX.s h45
    have c47 := hX.i h47
    have c0 := hX.i h0
    rw [Nat.add_zero] at c0
    have hgl := hX.hl
    have hgc := hX.hg
    obtain ⟨W, hW⟩ : ∃ W, W = (w.alloc (.map #[] 0)).alloc (.cells #[.pointer (some ⟨cb, 0, none⟩), .pointer (some ⟨sb, 0, none⟩), .bool false, .map (some w.heap.size)] 131) := ⟨_, rfl⟩
    have hbW : Below w.heap.size w W := by rw [hW]; exact bel bxS bxS
    have e1 : (w.alloc (.map #[] 0)).heap.size = w.heap.size + 1 := by simp
    have hpW : Pr cb mb k (w.heap.size + 1) w.heap.size sb nb db f d fs p [] W := by
      refine ⟨hc.keep (hbW.block cb hcb), h.below hbW, ?_, ?_, by omega, by omega⟩
      · rw [hW, ← e1]; exact heap_alloc_last _ _
      · have n1 : Nm w.heap.size [] (w.alloc (.map #[] 0)) := nm_new (World.ownsMap_made w _ _ _)
        rw [hW]
        exact n1.keep (bxS.block w.heap.size (by simp))
    have HST : Calls Try.prog 81 #[.pointer (some ⟨w.heap.size + 1, 0, none⟩), .slice a45 n c45] W fun e w' => e = .returned (.tuple #[]) ∧ Pr cb mb k1 (w.heap.size + 1) w.heap.size sb nb db f d fs p tg w' ∧ Kz cb w.heap.size w.heap.size W w' :=
      sStmts (fun F' _ => sStmtC F') hps hn hpW (by
        rcases hkid with e | ⟨gk, us, e1, e2, e3⟩
        · exact Or.inl e
        · exact Or.inr ⟨gk, us, e1, e2, e3.kp (Kp.of hbW)⟩)
    have HT : Hid (∀ w', Pr cb mb k1 (w.heap.size + 1) w.heap.size sb nb db f d fs p tg w' → w'.ownsMap Try.prog 9 (plainElem Try.prog 3) w.heap.size tg.length (asD tg)) := by
      intro w' hp
      obtain ⟨D, hm, _, rfl⟩ := hp.t.ex
      exact hm
    have HCN : Hid ((Maps.size (asD tg) = 0 ∧ d' = d) ∨ Maps.size (asD tg) = 1) := by
      rcases tgM_two htg with ⟨rfl, h2⟩ | ⟨nm, rfl, _⟩
      · exact Or.inl ⟨rfl, h2⟩
      · exact Or.inr (asSz (tg := [(nm, 3)]) (by simp))
    have HD : Hid (∀ w' (y : ByteArray) kl, keyOf Try.prog 9 (.string y) = some kl → Maps.has (asD tg) kl = true → Pr cb mb k1 (w.heap.size + 1) w.heap.size sb nb db f d fs p tg w' →
        Calls Try.prog 65 #[.pointer (some ⟨sb, 0, none⟩), .string y, .int .i64 at_] w' fun e w'' => e = .returned (.tuple #[]) ∧ Pr cb mb k1 (w.heap.size + 1) w.heap.size sb nb db f d' fs p tg w'' ∧ Kp db w' w'') := by
      intro w' y kl hkey hhas hp
      obtain ⟨s, hs, hkl, hsz⟩ := Go.WideMaps.string_of_keyOf Try.underlying9 hkey
      injection hs with hs
      subst hs
      obtain ⟨D, _, hf, rfl⟩ := hp.t.ex
      have hL : L y = y.data.toList := rfl
      rcases tgM_two htg with ⟨rfl, _⟩ | ⟨nm, rfl, t1, t2, t3, t4, rfl⟩
      · have := (hf.2 (L y)).1 rfl
        rw [hkl, ← hL, this] at hhas
        cases hhas
      · have hy : L y = nm := by
          by_cases e : L y = nm
          · exact e
          · have hn : lk [(nm, 3)] (L y) = none := by simp [lk, e]
            have := (hf.2 (L y)).1 hn
            rw [hkl, ← hL, this] at hhas
            cases hhas
        subst hy
        exact (sDriveY hp.s y hsz 3 t1 t2 t4 at_).mono fun e w'' ⟨a1, a2, a3⟩ => ⟨a1, hp.drive a2 a3, a3⟩
    have HKN : Hid (∀ w', Pr cb mb k1 (w.heap.size + 1) w.heap.size sb nb db f d' fs p tg w' → Kz cb nb db w w' → Calls Try.prog 82 #[.pointer (some ⟨w.heap.size + 1, 0, none⟩), .pointer (some ⟨g, o, none⟩)] w' fun e w'' => KnR cb mb w' q e w'') := fun w' hp hk => zKeeps hkp hp (hX.kz hk (by omega) (by omega))
    have HC : Hid (∀ w', Kz cb nb db w w' → w'.cell? ⟨g, o + 47, none⟩ = some (.int .i64 at_) ∧ g < w'.heap.size) := fun w' hk => ⟨(World.cell?_of_block (w := w) (a := ⟨g, o + 47, none⟩) (hk.block g hgl (by omega) (by omega) (by omega))).trans c47, Nat.lt_of_lt_of_le hgl hk.size⟩
    have HQ1 : Hid (∀ e, q = .inl e → r = .inl e) := by rintro e rfl; exact hq.symm
    have HQ2 : Hid (∀ k', q = .inr k' → r = .inr (k', d')) := by rintro k' rfl; exact hq.symm
    have HZ1 : Hid (∀ w', Kz cb w.heap.size w.heap.size W w' → Kz cb nb db w w') := fun w' hk => (Kz.of hbW : Kz cb nb db w W).kzr hk (Nat.le_refl _)
    have hpbW : w.heap.size + 1 < W.heap.size := heap_lt hpW.blk
    obtain ⟨m, hm⟩ : ∃ m, m = tg.length := ⟨_, rfl⟩
    rw [← hm] at HT
    rw [hW] at HST HZ1
    clear hm h0 h45 h47 hps htg hkp hq hc h hX hkid c47 hW hpW hbW e1 hpbW
    go_enter Try.func67, Try.ntmps67
    go_wp2_with (first
      | (go_at_call 81; refine HST.mono ?_; rintro e w2 ⟨rfl, hp2, hk2⟩; have hz2 := HZ1.out _ hk2; have f2 := hp2.at_; obtain ⟨t0, t1, t2, t3, tl⟩ := f2; have hown2 := HT.out _ hp2)
      | (at_range; refine wpList_range_own _ rfl _ 62 rfl 9 3 sLaw Try.underlying62 _ w.heap.size m _ rfl hown2 ?_; intro w3 hrg3 hg3 hs3))
    have hp3 : Hid (Pr cb mb k1 (w.heap.size + 1) w.heap.size sb nb db f d fs p tg w3) := hp2.bel (Below.gr0 hg3)
    have hz3 : Hid (Kz cb nb db w w3) := hz2.trans (Kz.of (Below.gr0 hg3))
    have hrl : w.heap.size + 1 < w2.heap.size := tl
    clear HST hk2 hz2 hp2 t0 t1 t2 t3 tl hown2 hg3 hs3
    go_frame
    go_loopw [7] (fun _ wr => ∃ (left : Lit → Bool) (cnt : Nat) (dd : Asc), wr.ranges Try.prog 9 (plainElem Try.prog 3) w.heap.size w2.heap.size m (asD tg) left cnt ∧ Hid ((cnt = Maps.size (asD tg) ∧ left = Maps.has (asD tg) ∧ dd = d) ∨ (cnt = 0 ∧ dd = d')) ∧ Hid (Pr cb mb k1 (w.heap.size + 1) w.heap.size sb nb db f dd fs p tg wr) ∧ Hid (Kz cb nb db w wr)) (fun _ wr => wr.rangeLeft w.heap.size w2.heap.size)
    case atStart => exact ⟨_, _, d, hrg3, Or.inl ⟨rfl, rfl, rfl⟩, hp3, hz3⟩
    case round =>
      obtain ⟨left, cnt, dd, hrg, HCD, HPR, HKZ⟩ := hrel
      have HRG : Hid (wr.ranges Try.prog 9 (plainElem Try.prog 3) w.heap.size w2.heap.size m (asD tg) left cnt) := hrg
      go_wp2_with (first
        | (at_next; refine wpList_next_ranges _ rfl _ rfl 9 sLaw (plainElem Try.prog 3) Value.string (Value.int .i64) sKeyInv sValInv w.heap.size w2.heap.size m _ _ _ rfl hrg ?_ ?_))
      · intro hc0 hl0
        have hdd : dd = d' := by
          rcases HCD.out with ⟨h1, _, h3⟩ | ⟨_, h3⟩
          · rcases HCN.out with ⟨_, h5⟩ | h5
            · exact h3.trans h5.symm
            · omega
          · exact h3
        subst hdd
        obtain ⟨t0, t1, t2, t3, tl⟩ := HPR.out.at_
        have HK := HKN.out _ HPR.out HKZ.out
        unfold KnR at HK
        clear hc0 hl0 hrg hrg3 HCN HD
        cases q with
        | inl e =>
          obtain ⟨e1, e2⟩ := e
          have hr := HQ1.out _ rfl
          subst hr
          go_wp2_with (first
            | (go_at_call 82; refine HK.mono ?_; rintro e w5 ⟨rfl, hk5⟩))
          have hfin : IpR cb mb sb nb db f fs p w (.inl (e1, e2)) (.panicked (pnR e1 e2)) w5 := by unfold IpR; exact ⟨rfl, HKZ.out.trans (Kz.of1 hk5)⟩
          exact ⟨rfl, hfin⟩
        | inr k' =>
          have hr := HQ2.out _ rfl
          subst hr
          go_wp2_with (first
            | (go_at_call 82; refine HK.mono ?_; rintro e w5 ⟨rfl, hc5, hk5⟩))
          have hfin : IpR cb mb sb nb db f fs p w (.inr (k', dd)) (.returned (.tuple #[])) w5 := by unfold IpR; exact ⟨rfl, hc5, HPR.out.s.kp hk5, HKZ.out.trans (Kz.of1 hk5)⟩
          go_end0
          exact hfin
      · intro y c kl yy1 yy2 w4 cnt4 hkey hlk hv hat hrg4 hlt hg4 hs4 hen
        have hst : cnt = Maps.size (asD tg) ∧ left = Maps.has (asD tg) ∧ dd = d := by
          rcases HCD.out with h | ⟨h, _⟩
          · exact h
          · omega
        obtain ⟨hc1, rfl, rfl⟩ := hst
        have hc4 : Hid (cnt4 = 0) := by
          rcases HCN.out with ⟨h, _⟩ | h
          · omega
          · show cnt4 = 0; omega
        have hp4 := HPR.out.kpr (Kp.ofG hg4) hrl
        have hz4 : Hid (Kz cb nb db w w4) := HKZ.out.kpr (Kp.ofG hg4) (by omega)
        have HDR := HD.out w4 y kl hkey hlk hp4
        obtain ⟨x47, xl⟩ := HC.out _ hz4.out
        have HRG4 : Hid (w4.ranges Try.prog 9 (plainElem Try.prog 3) w.heap.size w2.heap.size m (asD tg) (fun z => Maps.has (asD tg) z && !z.sameKey kl) cnt4) := hrg4
        have HLT : Hid (cnt4 < cnt) := hlt
        clear hc1 hkey hlk hv hat hg4 hs4 hrg4 hrg hrg3 hp4 hlt HKN HCN
        go_wp2_with (first
          | (go_at_call 65; refine HDR.mono ?_; rintro e w5 ⟨rfl, hp5, hk5⟩))
        have hrg5 := HRG4.out.kept (Kp.gr hk5) (by intro e; injection e with e; omega) (by intro e; injection e with e; omega)
        go_roundw
        case rel => exact ⟨_, cnt4, d', hrg5, Or.inr ⟨hc4.out, rfl⟩, hp5, hz4.out.trans (Kz.of3 hk5)⟩
        case measure => rw [hrg5.left_eq, HRG.out.left_eq]; exact HLT.out
  · cases hq
end Go.Proofs.Ytpnhefjiobnelaa

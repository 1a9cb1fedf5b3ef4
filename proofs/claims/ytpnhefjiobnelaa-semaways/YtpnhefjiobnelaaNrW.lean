/- The reference's reader: the one module of a source. -/
import Derived.Test.YtpnhefjiobnelaaNrV
namespace Go.Proofs.Ytpnhefjiobnelaa
open Go.RowKit Lg Rp
set_option linter.unusedVariables false
set_option linter.unusedSimpArgs false

theorem slice_mo (w : World) (m0 m1 m2 m3 m4 : Value) : (Instr.buildSlice 24 1 #[(0, .agg #[m0, m1, m2, m3, m4])]).run Try.prog w = .ok (.slice (some ⟨w.heap.size, 0, none⟩) 1 1) (w.alloc (.cells #[m0, m1, m2, m3, m4] 59)) := by kernel_rfl
theorem sM_way {l : List Tok} {f k k' : Nat} {x : List Dc} (h : sM l f k = some (x, k')) : sw l k wModule = true ∧ nmK l (k + 1) = true ∧ sw l (k + 1 + 1) [35] = false ∧ sw l (k + 1 + 1) [40] = true ∧ sw l (k + 1 + 1 + 1) [41] = false ∧ ∃ np ps k1 ni its, sPs l f 0 [] (k + 1 + 1 + 1) = some (np, ps, k1) ∧ sw l k1 [41] = true ∧ sw l (k1 + 1) [59] = true ∧ sI l f f (.many wEndmod 1 0 []) (k1 + 1 + 1) = some (ni, its, k') ∧ x = moD (tk l (k + 1)).x np ps ni its (tk l k).p := by
  unfold sM at h
  split at h
  · rename_i hc
    cases h1 : sPs l f 0 [] (k + 1 + 1 + 1) with
    | none => rw [h1] at h; cases h
    | some r =>
      obtain ⟨np, ps, k1⟩ := r
      rw [h1] at h
      simp only at h
      split at h
      · rename_i hd
        cases h2 : sI l f f (.many wEndmod 1 0 []) (k1 + 1 + 1) with
        | none => rw [h2] at h; cases h
        | some r =>
          obtain ⟨ni, its, k2⟩ := r
          rw [h2] at h
          injection h with h; injection h with e1 e2
          subst e2
          exact ⟨hc.1, hc.2.1, hc.2.2.1, hc.2.2.2.1, hc.2.2.2.2, np, ps, k1, ni, its, rfl, hd.1, hd.2, h2, e1.symm⟩
      · cases h
  · cases h
theorem rMod {b g cap : Nat} {l : List Tok} (HL : Short l) {f k k' : Nat} {x : List Dc} (h : sM l f k = some (x, k')) (w : World) (hw : Rq b g cap l k w) :
    Calls Try.prog 17 #[.pointer (some ⟨b, 0, none⟩)] w fun e w' => MoR b g cap l w x k' e w' := by
  obtain ⟨h0, h1, h2, h3, h4, np, ps, k1, ni, its, h5, h6, h7, h8, rfl⟩ := sM_way h
  exact rModule hw h0 h1 h2 h3 h4 h5 h6 h7 (fun w' hw' => rItems (F := f) (fun f' hf' => rIm HL f f' hf') ⟨#[101, 110, 100, 109, 111, 100, 117, 108, 101]⟩ 1 _ _ _ _ h8 w' hw')
theorem one5 {w : World} {N : Nat → Prop} {x : List Dc} {a0 a1 a2 a3 a4 : Value} (h : DAt w N x [a0, a1, a2, a3, a4]) : (#[a0, a1, a2, a3, a4] : Array Value).all (·.oneCell') = true :=
  Array.all_eq_true_iff_forall_mem.2 fun u hu => h.one u (by simpa using hu)
theorem Below.kp {B b : Nat} {w w1 w2 : World} (h : Below B w w1) (hk : Kp b w1 w2) (hb : B ≤ b) (hB : B ≤ w1.heap.size) : Below B w w2 :=
  ⟨hk.os.trans h.os, hk.tape.trans h.tape, hk.output.trans h.output, Nat.le_trans h.size hk.size, fun k hk1 => (hk.block k (by omega) (by omega)).trans (h.block k hk1)⟩
set_option maxRecDepth 100000 in
set_option maxHeartbeats 4000000 in
theorem rParse {g cap : Nat} {l : List Tok} (HL : Short l) {f k' : Nat} {x : List Dc} (hm : sM l f 0 = some (x, k')) (h6 : (tk l k').k = 6) (hlen : l.length ≤ 100000) (h0 : 0 < l.length) (hlast : (tk l (l.length - 1)).k = 6) (w : World) (hg : g < w.heap.size) (hcap : l.length ≤ cap) (hsrc : ∀ j u, (tcells l)[j]? = some u → w.cell? ⟨g, j, none⟩ = some u) :
    Calls Try.prog 10 #[.slice (some ⟨g, 0, none⟩) l.length cap] w fun e w' => (∃ ao cp, e = .returned (.tuple #[.slice ao 1 cp, .slice none 0 0]) ∧ DAt w' (Ge w.heap.size) [.s 1 x] [.slice ao 1 cp]) ∧ Below w.heap.size w w' := by
  have HR := fun w' (h : Rq w.heap.size g cap l 0 w') => rMod HL hm w' h
  unfold MoR at HR
  obtain ⟨n, hn⟩ : ∃ n, l.length = n := ⟨_, rfl⟩
  have HS : Hid (∀ o : Obj, o = .cells #[.slice (some ⟨g, 0, none⟩) n cap, .int .i64 0, .int .i64 0, .int .i64 0] 54 (0, 0) → Rq w.heap.size g cap l 0 (w.alloc o)) := by
    intro o ho
    subst ho
    refine ⟨?_, by omega, by simp; omega, hcap, hlen, h0, hlast, fun j u hu => ?_⟩
    · rw [hn]; exact heap_alloc_last w _
    · rw [bxS.cell (p := ⟨g, j, none⟩) hg]; exact hsrc j u hu
  have HN : Hid _ := hn
  have H6 : Hid _ := h6
  rw [hn]
  clear hn hsrc hlast h6
  go_enter Try.func10, Try.ntmps10
  go_wp2_with (first
    | (go_at_call 17; refine (HR _ (HS.out _ rfl)).mono ?_; rintro e w1 ⟨⟨m0, m1, m2, m3, m4, rfl, hD⟩, hs1, hk1⟩; have y1 : w.heap.size + 1 ≤ w1.heap.size := (by have := hk1.size; simp at this; omega))
    | (refine wpl_sliceG rfl 24 1 _ rfl #[(0, .agg #[m0, m1, m2, m3, m4])] (by kernel_rfl) #[m0, m1, m2, m3, m4] 59 1 (slice_mo _ _ _ _ _ _) ?_; intro w2 hb2 C2; have hs2 := hs1.below hb2; have y2 := hb2.size; have D2 := DAt.single (c := #[m0, m1, m2, m3, m4]) (hD.monoG (B' := w.heap.size) (by simp)) hb2 C2 (by omega)))
  have hB2 : Below w.heap.size w w2 := bel (Below.kp (B := w.heap.size) bxS hk1 (Nat.le_refl _) (by simp)) hb2
  go_loopw [5] (fun v wr => v = .slice (some ⟨w1.heap.size, 0, none⟩) 1 1 ∧ Hid (Rq w.heap.size g cap l k' wr) ∧ Hid (Below w.heap.size w wr) ∧ Hid (DAt wr (Ge w.heap.size) [.s 1 x] [.slice (some ⟨w1.heap.size, 0, none⟩) 1 1])) (fun _ wr => 0)
  case atStart => exact ⟨rfl, hs2, hB2, D2⟩
  case round =>
    obtain ⟨rfl, HST, HB, HD⟩ := hrel
    have hU : Up (Ge w.heap.size) wr wr.drew := ⟨Nat.le_refl _, fun _ _ _ => rfl⟩
    have HU : Hid _ := hU
    clear hU
    obtain ⟨rc0, rc1, rc3, rcf⟩ := HST.out.at_
    rw [HN.out] at rc0
    obtain ⟨rd0, rd1, rd2⟩ := HST.out.tok HST.out.k
    rw [H6.out] at rd0
    have hkl := HST.out.k
    rw [HN.out] at hkl
    have hkI : (k' : Int) < (n : Int) := by omega
    have hbl := HST.out.blt
    have hgl := HST.out.lt
    go_wp2_with fail
    go_region_held (fun w' => w'.cell? ⟨w.heap.size, 0, none⟩ = some (.slice (some ⟨g, 0, none⟩) n cap) ∧ w'.cell? ⟨w.heap.size, 1, none⟩ = some (.int .i64 k') ∧ w'.cell? ⟨g, k' * 3, none⟩ = some (.int .i64 6)) (go_keep) (first
      | (go_at_call 18; refine (rGoing (HST.out.below belD)).mono ?_; rintro e wA ⟨rfl, hw⟩; have hw2 := hw.symm; subst hw2))
    all_goals go_wp2_with (first
      | (go_at_call 18; refine (rGoing (HST.out.below belD)).mono ?_; rintro e wA ⟨rfl, hw⟩; have hw2 := hw.symm; subst hw2))
    all_goals
      go_ret2
      exact ⟨⟨some ⟨w1.heap.size, 0, none⟩, 1, rfl, DAt.keep HU.out HD.out⟩, HB.out.drew⟩
set_option maxRecDepth 100000 in
set_option maxHeartbeats 4000000 in
theorem rOf (s : ByteArray) (w : World) (hs : s.size ≤ maxLen) {l : List Tok} (hl : lexL (L s) = .toks l) (HL : Short l) {f k' : Nat} {x : List Dc} (hm : sM l f 0 = some (x, k')) (h6 : (tk l k').k = 6) (hlen : l.length ≤ 100000) (h0 : 0 < l.length) (hlast : (tk l (l.length - 1)).k = 6) (hks : ∀ i, (tk l i).k ≠ 4 ∧ (tk l i).k ≠ 5) :
    Calls Try.prog 6 #[.string s] w fun e w' => (∃ ao cp, e = .returned (.slice ao 1 cp) ∧ DAt w' (Ge w.heap.size) [.s 1 x] [.slice ao 1 cp]) ∧ Below w.heap.size w w' := by
  have HX := rLex_t s w hs l hl
  have HP := fun (g cap : Nat) w' (hg : g < w'.heap.size) (hc : l.length ≤ cap) hsrc => rParse (g := g) (cap := cap) HL hm h6 hlen h0 hlast w' hg hc hsrc
  have HT : Hid (∀ (w' : World) (g i : Nat), i < l.length → (∀ j u, (tcells l)[j]? = some u → w'.cell? ⟨g, j, none⟩ = some u) → w'.cell? ⟨g, i * 3, none⟩ = some (.int .i64 (tk l i).k)) := by
    intro w' g i hi hsrc
    have e : l[i]? = some (tk l i) := by unfold tk; rw [List.getD_eq_getElem?_getD, List.getElem?_eq_getElem hi]; rfl
    exact hsrc _ _ (tcell_at e).1
  obtain ⟨n, hn⟩ : ∃ n, l.length = n := ⟨_, rfl⟩
  have HLn : Hid _ := hlen
  have HNl : Hid _ := hn
  rw [hn] at HX HP HLn HT
  have HK : Hid _ := hks
  clear hn hl hm h6 hlen h0 hlast hks
  go_enter Try.func6, Try.ntmps6
  go_wp2_with (first
    | (go_at_call 9; refine HX.mono ?_; rintro e w1 ⟨g, cap, rfl, hli, hb1⟩; have hgl := hli.lt; have hcap : n ≤ cap := HNl.out ▸ hli.cap.1; have HLi : Hid _ := hli))
  clear hli
  go_loop [5] (fun iv => ∃ i : Nat, i ≤ n ∧ iv = .int .i64 i) (fun iv => n - (intOf iv).toNat)
  case atStart => exact ⟨0, Nat.zero_le _, rfl⟩
  case round =>
    obtain ⟨i, hi, rfl⟩ := hrel
    have hnl : n ≤ 100000 := HLn.out
    by_cases hlt : i < n
    · have hc := HT.out w1 g i hlt HLi.out.at_
      obtain ⟨q4, q5⟩ := HK.out i
      obtain ⟨kk, hkk⟩ : ∃ kk, kk = (tk l i).k := ⟨_, rfl⟩
      rw [← hkk] at hc q4 q5
      have b4 : (kk == 4) = false := by simpa using q4
      have b5 : (kk == 5) = false := by simpa using q5
      have hiI : (i : Int) < (n : Int) := by omega
      clear hkk q4 q5
      go_wp2
      go_round
      case rel => exact ⟨i + 1, by omega, by go_num⟩
      case measure => simp [intOf]; omega
    · obtain rfl : i = n := by omega
      go_wp2_with (first
        | (go_at_call 10; refine (HP g cap _ hgl hcap HLi.out.at_).mono ?_; rintro e w2 ⟨⟨ao, cp, rfl, hD⟩, hb2⟩))
      go_ret
      have := hb1.size
      exact ⟨⟨_, _, rfl, hD.monoG (by omega)⟩, bel hb1 hb2⟩
end Go.Proofs.Ytpnhefjiobnelaa

/- The program's Check of a netlist. -/
import Derived.Test.YtpdcmehjndhcjaaKM
namespace Go.Proofs.Ytpdcmehjndhcjaa
open Go.RowKit Lg Nl Go.Maps
set_option linter.unusedVariables false
set_option linter.unusedSimpArgs false

def errB (b : Bool) : Int := if b then 0 else 1
theorem ck_size {l : List Nd} {nets : List Int} {pt : Int} (h : ¬ (l.length ≤ 4096 ∧ pt = (nets.length : Int))) : ckB l nets pt = false := by unfold ckB; rw [decide_eq_false h]; rfl
theorem ck_node {l : List Nd} {nets : List Int} {pt : Int} {i : Nat} (hi : i < l.length) (h : mbB l l[i] = false) : ckB l nets pt = false := by
  have : l.all (mbB l) = false := by rw [List.all_eq_false]; exact ⟨l[i], List.getElem_mem hi, by simp [h]⟩
  unfold ckB; rw [this]; simp
set_option maxRecDepth 100000 in
set_option maxHeartbeats 4000000 in
theorem kCheck_c (l : List Nd) (nets : List Int) (vN vT : Value) (pt : Int) (w : World) (hN : NdsAt w vN l) (hT : IntsAt w vT nets) (hf : Fits l nets) :
    Calls Try.prog 16 #[.agg #[vN, vT, .int .i64 pt]] w fun e w' => e = .returned (.int .i64 (errB (mayN l nets pt))) ∧ Below w.heap.size w w' := by
  rw [← ck_may pt hf]
  have HP : Hid (∀ W, Below w.heap.size w W → l.length ≤ 4096 → Calls Try.prog 28 #[.agg #[vN, vT, .int .i64 pt]] W fun e w' => e = .returned (.bool (portB l nets)) ∧ Below W.heap.size W w') := fun W hW h4 => kPorts_c l nets vN vT pt W (hN.below hW) (hT.below hW) hf h4
  have HM : Hid (∀ (W : World) (i : Nat) (hi : i < l.length) (ia : Option Addr) (ic : Nat), Below w.heap.size w W → IntsAt W (.slice ia l[i].ins.length ic) l[i].ins → Calls Try.prog 27 #[.agg #[.int .i64 l[i].k, .int .i64 l[i].op, .int .i64 l[i].wd, .slice ia l[i].ins.length ic, .string (S l[i].vl), .int .i64 l[i].hi, .int .i64 l[i].lo, .int .i64 l[i].tm], vN] W fun e w' => e = .returned (.bool (mbB l l[i])) ∧ Below W.heap.size W w') := fun W i hi ia ic hW hI => kMayBe_c l l[i] vN ia ic W (hN.below hW) hI hf.n (hf.i _ (List.getElem_mem hi)) (hf.v _ (List.getElem_mem hi))
  obtain ⟨na, nc, rfl, hnc, hN'⟩ := id hN
  obtain ⟨ta, tc, rfl, htc, hT'⟩ := id hT
  obtain ⟨n, hn⟩ : ∃ n, n = l.length := ⟨_, rfl⟩
  obtain ⟨m, hm⟩ : ∃ m, m = nets.length := ⟨_, rfl⟩
  have nb : n ≤ 140737488355328 := by rw [hn]; exact hf.n
  have mb : m ≤ 17592186044416 := by rw [hm]; exact hf.t
  have hN2 : NdsAt w (.slice na n nc) l := by rw [hn]; exact hN
  have HP2 : Hid (∀ W, Below w.heap.size w W → n ≤ 4096 → Calls Try.prog 28 #[.agg #[.slice na n nc, .slice ta m tc, .int .i64 pt]] W fun e w' => e = .returned (.bool (portB l nets)) ∧ Below W.heap.size W w') := by rw [hn, hm]; exact HP.out
  have HM2 : Hid (∀ (W : World) (i : Nat) (hi : i < l.length) (ia : Option Addr) (ic : Nat), Below w.heap.size w W → IntsAt W (.slice ia l[i].ins.length ic) l[i].ins → Calls Try.prog 27 #[.agg #[.int .i64 l[i].k, .int .i64 l[i].op, .int .i64 l[i].wd, .slice ia l[i].ins.length ic, .string (S l[i].vl), .int .i64 l[i].hi, .int .i64 l[i].lo, .int .i64 l[i].tm], .slice na n nc] W fun e w' => e = .returned (.bool (mbB l l[i])) ∧ Below W.heap.size W w') := by rw [hn]; exact HM.out
  rw [← hn] at hnc ⊢
  rw [← hm] at htc ⊢
  have HN : Hid (NdsAt w (.slice na n nc) l) := hN2
  have HNL : Hid (n = l.length) := hn
  have HML : Hid (m = nets.length) := hm
  obtain ⟨R, hR⟩ : ∃ R, R = ckB l nets pt := ⟨_, rfl⟩
  rw [← hR]
  have HR : Hid (R = ckB l nets pt) := hR
  clear hN hT hf hn hm hR hN' hT' hN2 HP HM
  by_cases h1 : 4096 < n
  · go_enter Try.func16, Try.ntmps16
    go_wp2
    all_goals (go_ret; exact ⟨ret_int (by rw [HR.out, ck_size (by rw [← HNL.out]; omega)]; rfl), belA (Below.refl _ _) _⟩)
  by_cases h2 : pt = (m : Int)
  · subst h2
    have hn : n ≤ 4096 := by omega
    clear h1
    go_enter Try.func16, Try.ntmps16
    go_wp2
    go_loopw [20] (fun s4 W => ∃ (i : Nat), i ≤ n ∧ s4 = .int .i64 i ∧ Hid ((l.take i).all (mbB l) = true) ∧ Hid (S1 w (.cells #[.slice na n nc, .slice ta m tc, .int .i64 m] 25 (0, 0)) W)) (fun s4 W => n - (intOf s4).toNat)
    case atStart => exact ⟨0, Nat.zero_le _, rfl, rfl, S1.start⟩
    case round =>
      obtain ⟨i, hi, rfl, HA, HS⟩ := hrel
      obtain ⟨b0, b1, b2⟩ := cells3n HS.out.x
      have lx := hLt HS.out.x
      by_cases hlt : i < n
      · have hil : i < l.length := by rw [← HNL.out]; exact hlt
        obtain ⟨g, o, cap, hg⟩ := HN.out.some_ (by omega)
        injection hg with e1 e2 e3
        subst e1
        obtain ⟨gl, ia, ic, hI, d0, d1, d2, d3, d4, d5, d6, d7⟩ := (HN.out.below HS.out.bel).at_ i hil
        have HC : Hid (∀ W, Below wr.heap.size wr W → Calls Try.prog 27 #[.agg #[.int .i64 l[i].k, .int .i64 l[i].op, .int .i64 l[i].wd, .slice ia l[i].ins.length ic, .string (S l[i].vl), .int .i64 l[i].hi, .int .i64 l[i].lo, .int .i64 l[i].tm], .slice (some ⟨g, o, none⟩) n nc] W fun e w' => e = .returned (.bool (mbB l l[i])) ∧ Below W.heap.size W w') := fun W hW => HM2.out W i hil ia ic (bel HS.out.bel hW) (hI.below hW)
        obtain ⟨nb', hnb⟩ : ∃ nb', nb' = mbB l l[i] := ⟨_, rfl⟩
        have HNB : Hid (nb' = mbB l l[i]) := hnb
        rw [← hnb] at HC
        generalize l[i] = x at d0 d1 d2 d3 d4 d5 d6 d7 HC
        clear hI e2 e3 hnb
        obtain ⟨k, op, wd, ins, vl, hi', lo, tm⟩ := x
        simp only at d0 d1 d2 d3 d4 d5 d6 d7 HC
        have i1 : (0 : Int) ≤ (i : Int) := by omega
        have i2 : (i : Int) < (n : Int) := by omega
        cases nb' with
        | false =>
          go_wp2_with (first | (go_at_call 27; refine (HC.out _ (belA (Below.refl _ _) _)).mono ?_; rintro e w5 ⟨rfl, hb5⟩))
          all_goals (go_ret; exact ⟨ret_int (by rw [HR.out, ck_node hil HNB.out.symm]; rfl), (S1.below (S1.alloc HS.out) hb5).bel⟩)
        | true =>
          go_wp2_with (first | (go_at_call 27; refine (HC.out _ (belA (Below.refl _ _) _)).mono ?_; rintro e w5 ⟨rfl, hb5⟩))
          go_roundw
          case rel => exact ⟨i + 1, hlt, by go_num, all_snocL hil HA.out HNB.out.symm, S1.below (S1.alloc HS.out) hb5⟩
          case measure => simp [intOf]; omega
      · obtain rfl : i = n := by omega
        have HAL : Hid (l.all (mbB l) = true) := all_done (Nat.le_of_eq HNL.out.symm) HA.out
        have hq := HP2.out wr HS.out.bel hn
        have HRP : Hid (R = portB l nets) := HR.out.trans (by unfold ckB; rw [HAL.out, ← HNL.out, ← HML.out]; simp [hn])
        generalize portB l nets = pb at hq HRP
        clear HA hi hlt HP2
        have HQ : Hid (Calls Try.prog 28 #[.agg #[.slice na i nc, .slice ta m tc, .int .i64 m]] wr fun e w' => e = .returned (.bool pb) ∧ Below wr.heap.size wr w') := hq
        clear hq
        cases pb with
        | false =>
          go_wp2_with (first | (go_at_call 28; refine HQ.out.mono ?_; rintro e w5 ⟨rfl, hb5⟩))
          all_goals (go_ret; exact ⟨ret_int (by rw [HRP.out]; rfl), bel HS.out.bel hb5⟩)
        | true =>
          go_wp2_with (first | (go_at_call 28; refine HQ.out.mono ?_; rintro e w5 ⟨rfl, hb5⟩))
          all_goals (go_ret; exact ⟨ret_int (by rw [HRP.out]; rfl), bel HS.out.bel hb5⟩)
  · have h3 : (pt != (m : Int)) = true := by simpa using h2
    go_enter Try.func16, Try.ntmps16
    go_wp2
    all_goals (go_ret; exact ⟨ret_int (by rw [HR.out, ck_size (by rw [← HML.out]; omega)]; rfl), belA (Below.refl _ _) _⟩)
end Go.Proofs.Ytpdcmehjndhcjaa

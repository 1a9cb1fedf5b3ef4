/- The program's groups. -/
import Derived.Test.YtkgonnnpoldcoaaRD
namespace Go.Proofs.Ytkgonnnpoldcoaa
open Go.RowKit Lg Nl Go.Maps
set_option linter.unusedVariables false
set_option linter.unusedSimpArgs false

/-- the row 'at': of each lowest node its class -/
def atF (ρ : Nat → Nat) (i : Nat) : Nat → Value := fun q => .int .i64 (((if q < i ∧ ρ q = q then nR ρ q else 0 : Nat)) : Int)
/-- no delay is between: one set -/
def Sm (l : List Nd) (i : Nat) (ρ : Nat → Nat) : Prop := ∀ j, j < i → (ndAt l j).k ≠ 8 → ∀ z ∈ (ndAt l j).ins, ρ z.toNat = ρ j
theorem glStep {ρ : Nat → Nat} (h1 : ∀ j, ρ j ≤ j) (h2 : ∀ j, ρ (ρ j) = ρ j) (i k : Nat) : glR (clR ρ) (i + 1) k = upd (glR (clR ρ) i) (clR ρ i) (glR (clR ρ) i (clR ρ i) ++ [i]) k := by
  rw [glR_succ]; unfold upd
  by_cases e : k = clR ρ i
  · subst e; simp
  · rw [if_neg e, if_neg (Ne.symm e)]
set_option maxRecDepth 100000 in
set_option maxHeartbeats 4000000 in
theorem groups_c (l : List Nd) (na : Option Addr) (n nc : Nat) (w : World) (hN : NdsAt w (.slice na n nc) l) (hnl : n = l.length) (hk : Ok l) :
    Calls Try.prog 22 #[.slice na n nc] w fun e w' => ∃ (c : Nat) (ρ : Nat → Nat) (B : Nat) (ao : Option Addr) (cap : Nat) (vs : List Value), e = .returned (.slice ao c cap) ∧ Hid (∀ j, ρ j ≤ j) ∧ Hid (∀ j, ρ (ρ j) = ρ j) ∧ Hid (Sm l n ρ) ∧ Hid (c = nR ρ n) ∧ Hid (vs.length = c) ∧ Hid (w.heap.size ≤ B) ∧ Hid (GL B (.slice ao c cap) vs (glR (clR ρ) n) w') ∧ Below w.heap.size w w' := by
  have hn4 : n ≤ 4096 := by rw [hnl]; exact hk.n
  have HN : Hid (NdsAt w (.slice na n nc) l) := hN
  have HNL : Hid (n = l.length) := hnl
  have HK : Hid (Ok l) := hk
  have HS : Hid (∀ W, Calls Try.prog 35 #[.int .i64 (n : Int)] W fun e w' => ∃ T, e = .returned (.slice (some ⟨T, 0, none⟩) n n) ∧ W.heap.size ≤ T ∧ Hid (w'.rowIs T 3 n (nF fun q => q)) ∧ Hid (Below W.heap.size W w')) := fun W => newSets_c n W hn4
  have hmk := mkInts n (by omega)
  clear hN hnl hk
  go_enter Try.func22, Try.ntmps22
  go_wp2_with (first | (go_at_call 35; refine (HS.out _).mono ?_; rintro e w1 ⟨T, rfl, hT, HR0, HB0⟩))
  go_loopw [17] (fun s17 W => ∃ (i : Nat) (g : Nat → Nat), i ≤ n ∧ s17 = .int .i64 i ∧ Hid (∀ q, g q ≤ q) ∧ Hid (Sm l i (rt g)) ∧ Hid (W.rowIs T 3 n (nF g)) ∧ Hid (Below w.heap.size w W)) (fun s17 W => n - (intOf s17).toNat)
  case atStart => exact ⟨0, fun q => q, Nat.zero_le _, rfl, fun q => Nat.le_refl _, fun j hj => absurd hj (Nat.not_lt_zero _), HR0.out, HB0.out⟩
  case round =>
    clear HR0 HB0 HS
    obtain ⟨i, g, hi, rfl, HG, HM, HR, HB⟩ := hrel
    by_cases hlt : i < n
    · have hil : i < l.length := by rw [← HNL.out]; exact hlt
      obtain ⟨gN, oN, cN, hg⟩ := HN.out.some_ (by omega)
      injection hg with e1 e2 e3
      subst e1
      obtain ⟨gl, ia, ic, hI, c0, c1, c2, c3, c4, c5, c6, c7⟩ := HN.out.at_ i hil
      have d0 := (HB.out.cell (p := ⟨gN, oN + i * 8, none⟩) gl).trans c0
      have d1 := (HB.out.cell (p := ⟨gN, oN + i * 8 + 1, none⟩) gl).trans c1
      have d2 := (HB.out.cell (p := ⟨gN, oN + i * 8 + 2, none⟩) gl).trans c2
      have d3 := (HB.out.cell (p := ⟨gN, oN + i * 8 + 3, none⟩) gl).trans c3
      have d4 := (HB.out.cell (p := ⟨gN, oN + i * 8 + 4, none⟩) gl).trans c4
      have d5 := (HB.out.cell (p := ⟨gN, oN + i * 8 + 5, none⟩) gl).trans c5
      have d6 := (HB.out.cell (p := ⟨gN, oN + i * 8 + 6, none⟩) gl).trans c6
      have d7 := (HB.out.cell (p := ⟨gN, oN + i * 8 + 7, none⟩) gl).trans c7
      have glw : gN < wr.heap.size := Nat.lt_of_lt_of_le gl HB.out.size
      clear c0 c1 c2 c3 c4 c5 c6 c7
      have hmem := List.getElem_mem hil
      have hin := HK.out.i _ hmem
      have hq := HK.out.q _ hmem
      have HX : Hid (ndAt l i = l[i]) := ndAt_eq hil
      have HIn : Hid (l[i].ins.all (inB n) = true) := by rw [HNL.out]; exact hin
      have i1 : (0 : Int) ≤ (i : Int) := by omega
      have i2 : (i : Int) < (n : Int) := by omega
      clear hin hmem e2 e3
      generalize l[i] = x at d0 d1 d2 d3 d4 d5 d6 d7 hI hq HX HIn
      obtain ⟨xk, xop, wd, ins, vl, hi', lo, tm⟩ := x
      simp only at d0 d1 d2 d3 d4 d5 d6 d7 hI hq HIn
      by_cases h8 : xk = 8
      · subst h8
        go_wp2
        go_roundw
        case rel =>
          refine ⟨i + 1, g, hlt, by go_num, HG.out, fun j hj hne => ?_, HR.out.alloc _, belA HB.out _⟩
          rcases Nat.lt_succ_iff_lt_or_eq.1 hj with h | h
          · exact HM.out j h hne
          · subst h; rw [HX.out] at hne; exact absurd rfl hne
        case measure => simp [intOf]; omega
      · have h8' : (xk == 8) = false := by simpa using h8
        have HI : Hid (IntsAt w (.slice ia ins.length ic) ins) := hI
        obtain ⟨m, hm⟩ : ∃ m, m = ins.length := ⟨_, rfl⟩
        rw [← hm] at d3 hq HI hI
        have HML : Hid (m = ins.length) := hm
        clear h8 hI hm
        go_wp2
        generalize hWA : wr.alloc (.cells #[.int .i64 xk, .int .i64 xop, .int .i64 wd, .slice ia m ic, .string (S vl), .int .i64 hi', .int .i64 lo, .int .i64 tm] 47) = WA
        have HRA : Hid (WA.rowIs T 3 n (nF g)) := by rw [← hWA]; exact HR.out.alloc _
        have HBA : Hid (Below w.heap.size w WA) := by rw [← hWA]; exact belA HB.out _
        clear hWA d0 d1 d2 d3 d4 d5 d6 d7 gl glw HR HB
        go_loopw [28] (fun s28 W => ∃ (kk : Nat) (g' : Nat → Nat), kk ≤ m ∧ s28 = .int .i64 kk ∧ Hid (∀ q, g' q ≤ q) ∧ Hid (∀ a b, rt g a = rt g b → rt g' a = rt g' b) ∧ Hid (∀ z ∈ ins.take kk, rt g' z.toNat = rt g' i) ∧ Hid (W.rowIs T 3 n (nF g')) ∧ Hid (Below w.heap.size w W)) (fun s28 W => m - (intOf s28).toNat)
        case atStart => exact ⟨0, g, Nat.zero_le _, rfl, HG.out, fun _ _ h => h, fun z hz => by simp at hz, HRA.out, HBA.out⟩
        case round =>
          clear HRA HBA
          obtain ⟨kk, g', hkk, rfl, HG', HE', HZ', HR', HB'⟩ := hrel
          by_cases hlk : kk < m
          · have hkl : kk < ins.length := by rw [← HML.out]; exact hlk
            obtain ⟨g2, o2, cap2, hg2⟩ := HI.out.some_ (by omega)
            injection hg2 with e4 e5 e6
            subst e4
            obtain ⟨gl3, gd3⟩ := HI.out.cell kk hkl
            have hzi := List.all_eq_true.1 HIn.out _ (List.getElem_mem hkl)
            simp [inB] at hzi
            obtain ⟨z, hz⟩ : ∃ z : Nat, ins[kk] = (z : Int) := ⟨ins[kk].toNat, by omega⟩
            have HTK : Hid (ins.take (kk + 1) = ins.take kk ++ [(z : Int)]) := by show ins.take (kk + 1) = ins.take kk ++ [(z : Int)]; rw [List.take_succ_eq_append_getElem hkl, hz]
            rw [hz] at gd3 hzi
            have hzn : z < n := by omega
            have f1 : wr.cell? ⟨g2, o2 + kk, none⟩ = some (.int .i64 (z : Int)) := (HB'.out.cell (p := ⟨g2, o2 + kk, none⟩) gl3).trans gd3
            have HJ : Hid (Calls Try.prog 36 #[.slice (some ⟨T, 0, none⟩) n n, .int .i64 (i : Int), .int .i64 (z : Int)] wr fun e w' => ∃ g, e = .returned (.tuple #[]) ∧ Hid (∀ i, g i ≤ i) ∧ Hid (∀ i j, rt g' i = rt g' j → rt g i = rt g j) ∧ Hid (rt g i = rt g z) ∧ Hid (w'.rowIs T 3 n (nF g)) ∧ Hid (Only T wr w')) := join_c T n g' i z wr HG'.out HR'.out hlt hzn hn4
            have k1 : (0 : Int) ≤ (kk : Int) := by omega
            have k2 : (kk : Int) < (m : Int) := by omega
            clear e5 e6 gd3 hz hzi
            go_wp2_with (first | (go_at_call 36; refine HJ.out.mono ?_; rintro e w5 ⟨g5, rfl, J1, J2, J3, J4, J5⟩))
            go_roundw
            case rel =>
              refine ⟨kk + 1, g5, hlk, by go_num, J1.out, fun a b h => J2.out a b (HE'.out a b h), fun y hy => ?_, J4.out, HB'.out.trans (J5.out.below hT)⟩
              rw [HTK.out, List.mem_append, List.mem_singleton] at hy
              rcases hy with hy | hy
              · exact J2.out _ _ (HZ'.out y hy)
              · rw [hy, Int.toNat_natCast]; exact J3.out.symm
            case measure => simp [intOf]; omega
          · obtain rfl : m = kk := by omega
            go_wp2
            go_roundw
            case rel =>
              refine ⟨i + 1, g', hlt, by go_num, HG'.out, fun j hj hne z hz => ?_, HR'.out, HB'.out⟩
              rcases Nat.lt_succ_iff_lt_or_eq.1 hj with h | h
              · exact HE'.out _ _ (HM.out j h hne z hz)
              · subst h; rw [HX.out] at hz
                exact HZ'.out z (by rw [List.take_of_length_le (by rw [HML.out]; exact Nat.le_refl _)]; exact hz)
            case measure => simp [intOf]; omega
    · obtain rfl : i = n := by omega
      have HP1 : Hid (∀ j, rt g j ≤ j) := rt_le g
      have HP2 : Hid (∀ j, rt g (rt g j) = rt g j) := rt_idem HG.out
      have HPE : Hid (∀ j, rt g j = rt g j) := fun _ => rfl
      generalize hρ : rt g = ρ at HM HP1 HP2 HPE
      have HPE2 : Hid (∀ j, rt g j = ρ j) := fun j => by rw [hρ]
      clear HPE hρ
      go_wp2
      obtain ⟨A, hA⟩ : ∃ A, A = wr.heap.size := ⟨_, rfl⟩
      have hTA : T < A := by rw [hA]; exact HR.out.lt
      have HA0 : Hid ((wr.alloc (.cells (madeCells #[.int .i64 0] i) 3)).rowIs A 3 i (atF ρ 0)) := by
        have h := World.rowIs_made wr (.int .i64 0) i 3
        rw [← hA] at h
        exact h.congr (fun q _ => by simp [atF])
      have HRA : Hid ((wr.alloc (.cells (madeCells #[.int .i64 0] i) 3)).rowIs T 3 i (nF g)) := HR.out.alloc _
      have HBA : Hid (Below w.heap.size w (wr.alloc (.cells (madeCells #[.int .i64 0] i) 3))) := belA HB.out _
      obtain ⟨B, hB⟩ : ∃ B, B = (wr.alloc (.cells (madeCells #[.int .i64 0] i) 3)).heap.size := ⟨_, rfl⟩
      have hAB : A < B := by rw [hA, hB]; simp
      have hBs : B ≤ (wr.alloc (.cells (madeCells #[.int .i64 0] i) 3)).heap.size := by omega
      have hwB : w.heap.size ≤ B := by omega
      rw [← hA]
      clear hA hB hmk HR HB hi hlt
      generalize wr.alloc (.cells (madeCells #[.int .i64 0] i) 3) = W0 at HA0 HRA HBA hBs ⊢
      obtain ⟨n, rfl⟩ : ∃ n, n = i := ⟨_, rfl⟩
      go_loopw [43, 8] (fun s43 s8 W => ∃ (i : Nat) (c : Nat) (ao : Option Addr) (cap : Nat) (vs : List Value) (g' : Nat → Nat), i ≤ n ∧ s43 = .int .i64 i ∧ s8 = .slice ao c cap ∧ Hid (c = nR ρ i) ∧ Hid (vs.length = c) ∧ Hid (GL B (.slice ao c cap) vs (glR (clR ρ) i) W) ∧ Hid (∀ q, g' q ≤ q) ∧ Hid (∀ q, rt g' q = ρ q) ∧ Hid (W.rowIs T 3 n (nF g')) ∧ Hid (W.rowIs A 3 n (atF ρ i)) ∧ Hid (Below w.heap.size w W) ∧ Hid (B ≤ W.heap.size)) (fun s43 s8 W => n - (intOf s43).toNat)
      case atStart => exact ⟨0, 0, none, 0, [], g, Nat.zero_le _, rfl, rfl, rfl, rfl, GL.start _ _ _, HG.out, HPE2.out, HRA.out, HA0.out, HBA.out, hBs⟩
      case round =>
        clear HRA HA0 HBA hBs HPE2 HG
        obtain ⟨i, c, ao, cap, vs, g', hi, rfl, rfl, HC, HV, HL, HG', HE', HR, HA, HB, HBs⟩ := hrel
        by_cases hlt : i < n
        · -- BOTH
          have j1 := HP1.out i
          have HLo : Hid (Calls Try.prog 37 #[.slice (some ⟨T, 0, none⟩) n n, .int .i64 (i : Int)] wr fun e w' => ∃ f', e = .returned (.int .i64 ((ρ i : Nat) : Int)) ∧ Hid (∀ i, f' i ≤ i) ∧ Hid (∀ i, rt f' i = ρ i) ∧ Hid (w'.rowIs T 3 n (nF f')) ∧ Hid (Only T wr w') ∧ Hid (w'.rowIs A 3 n (atF ρ i)) ∧ (∀ q, q < n → w'.cell? ⟨A, q, none⟩ = some (atF ρ i q)) ∧ (∀ q, w'.frozen? ⟨A, q, none⟩ = false) ∧ A < w'.heap.size) := by
            refine (lowest_c T n g' i wr HG'.out HR.out hlt hn4).mono fun e w' hh => ?_
            obtain ⟨f', rfl, x1, x2, x3, x4⟩ := hh
            have hA' : w'.rowIs A 3 n (atF ρ i) := HA.out.of_block (x4.out.block A (by omega))
            exact ⟨f', by rw [HE'.out], x1, fun q => (x2.out q).trans (HE'.out q), x3, x4, hA', fun q hq => hA'.cell hq, fun q => hA'.frozen q, hA'.lt⟩
          have hcn : c ≤ 4096 := by rw [HC.out]; exact Nat.le_trans (nR_le ρ i) (by omega)
          have i1 : (0 : Int) ≤ (i : Int) := by omega
          have i2 : (i : Int) < (n : Int) := by omega
          by_cases hr : ρ i = i
          · have HRt : Hid (ρ i = i) := hr
            rw [hr] at HLo
            have HO0 := HL.out.o
            rw [HV.out] at HO0
            obtain ⟨q0, hq0, hz0, hz1, hz2⟩ := infoInts
            have HOL : Hid (∀ W', Only T wr W' → W'.ownsRow B 24 1 (.slice ao c cap) c vs) := fun W' h => own_at HO0 fun k e => h.block k (by have := (HO0.lt k e).1; omega)
            have hBw := HBs.out
            have HOA : Hid (∀ (W' : World) (u : Value), W'.ownsRow B 24 1 (.slice ao c cap) c vs → (W'.setCell ⟨A, i, none⟩ u).ownsRow B 24 1 (.slice ao c cap) c vs) := fun W' u h => own_at h fun k e => Below.heap_setCell _ _ _ _ (by show k ≠ A; have := (h.lt k e).1; omega)
            clear hr HO0
            go_wp2_with (first
              | (go_at_call 37; refine HLo.out.mono ?_; rintro e w5 ⟨f5, rfl, H1, H2, H3, H4, H5, h6, h7, h8⟩; have cA5 := h6 i hlt; have fA5 := h7 i; have hB5 : B ≤ w5.heap.size := (by rw [H4.out.size]; exact hBw); clear h6 h7)
              | (at_builtin; go_loud (refine wpList_append_own_at _ rfl _ _ 28 rfl B 24 q0 _ 1 24 Try.underlying28 hq0 hz0 hz1 hz2 rfl (by decide) (.slice ao c cap) c vs rfl (World.ownsRow.alloc (HOA.out _ _ (HOL.out _ H4.out)) _) ⟨w5.heap.size, 0, none⟩ 1 1 [.slice none 0 0] rfl rfl (new1i _ _ _ _ (by simp [World.setCell])) (by intro u hu; simp at hu; subst hu; rfl) (by unfold maxLen; omega) (by omega) (by simp [World.setCell]; omega) ?_; intro v7 w7 hown7 hgrow7 hnil7 hloc7)))
            have hsz5 := H4.out.size
            obtain ⟨gL, capL, rfl⟩ := own_slice1 hown7
            have HL5 : Hid (GL B (.slice ao c cap) vs (glR (clR ρ) i) (w5.setCell ⟨A, i, none⟩ (.int .i64 (c : Int)))) := HL.out.keep fun k hk _ => (Below.heap_setCell _ _ _ _ (by show k ≠ A; omega)).trans (H4.out.block k (by omega))
            have hcl : clR ρ i = c := by unfold clR; rw [HRt.out, ← HC.out]
            have e5 : (w5.setCell ⟨A, i, none⟩ (.int .i64 (c : Int))).heap.size = w5.heap.size := by simp [World.setCell]
            have hgrow7' : ((w5.setCell ⟨A, i, none⟩ (.int .i64 (c : Int))).alloc (.cells #[.slice none 0 0] 24)).grownBy w7 (Value.slice ao c cap).ownBlock := hgrow7
            have HL7 : Hid (GL B (.slice (some ⟨gL, 0, none⟩) (c + 1) capL) (vs ++ [.slice none 0 0]) (glR (clR ρ) i) w7) :=
              GL.push HL5.out (glR_none fun j hj e => by have h9 := clR_lt HP1.out HP2.out hj; rw [e, HV.out, ← HC.out] at h9; omega) (fun k hk => alOld hk) (by simp [World.alloc]) (by rw [HV.out]; exact hown7) hgrow7' hloc7
            have HV7 : Hid ((vs ++ [Value.slice none 0 0]).length = c + 1) := by show _ = _; rw [List.length_append, HV.out]; rfl
            have HC7 : Hid (c + 1 = nR ρ (i + 1)) := by show c + 1 = nR ρ i + _; rw [if_pos HRt.out, HC.out]
            have kp7 : ∀ b, b < w5.heap.size → b < B → w7.heap[b]? = (w5.setCell ⟨A, i, none⟩ (.int .i64 (c : Int))).heap[b]? := fun b hb hb2 => (hgrow7'.block b (by simp [World.alloc, World.setCell]; omega) (fun e => by have := (HL.out.o.lt b (by rw [← e])).1; omega)).trans (alOld (by rw [e5]; exact hb))
            have HA7 : Hid (w7.rowIs A 3 n (atF ρ (i + 1))) := by
              have h1 : (w5.setCell ⟨A, i, none⟩ (.int .i64 (c : Int))).rowIs A 3 n (atF ρ (i + 1)) := (H5.out.set i (.int .i64 (c : Int))).congr fun q hq => by
                unfold atF
                by_cases e : q = i
                · subst e; rw [if_pos rfl, if_pos ⟨Nat.lt_succ_self _, HRt.out⟩, HC.out]
                · rw [if_neg e]
                  by_cases h2 : q < i ∧ ρ q = q
                  · rw [if_pos h2, if_pos ⟨by omega, h2.2⟩]
                  · rw [if_neg h2, if_neg (fun h3 => h2 ⟨by omega, h3.2⟩)]
              exact h1.of_block (kp7 A h8 hAB)
            have HR7 : Hid (w7.rowIs T 3 n (nF f5)) := H3.out.of_block ((kp7 T (by omega) (by omega)).trans (Below.heap_setCell _ _ _ _ (by show T ≠ A; omega)))
            have hs7 : w5.heap.size + 1 ≤ w7.heap.size := by have := hgrow7'.size; simp [World.alloc, World.setCell] at this; exact this
            have HBs7 : Hid (B ≤ w7.heap.size) := by show B ≤ w7.heap.size; omega
            have HB7 : Hid (Below w.heap.size w w7) := ⟨hgrow7'.os.trans (H4.out.os.trans HB.out.os), hgrow7'.tape.trans (H4.out.tape.trans HB.out.tape), hgrow7'.output.trans (H4.out.output.trans HB.out.output), by have := HB.out.size; omega, fun b hb => by
              have hb2 := HB.out.size
              rw [kp7 b (by omega) (by omega), Below.heap_setCell _ _ _ _ (by show b ≠ A; omega), H4.out.block b (by omega)]
              exact HB.out.block b hb⟩
            have cA : w7.cell? ⟨A, i, none⟩ = some (.int .i64 (c : Int)) := by
              have := HA7.out.cell hlt
              rw [this]; unfold atF; rw [if_pos ⟨Nat.lt_succ_self _, HRt.out⟩, HC.out]
            have hAl : A < w7.heap.size := HA7.out.lt
            have hkc : c < c + 1 := Nat.lt_succ_self _
            have HCL : Hid (clR ρ i = c) := hcl
            generalize hW7 : w7 = W7 at *
            clear hgrow7 hgrow7' hown7 hnil7 hloc7 kp7 cA5 fA5 h8 hsz5 hs7 e5 hcl HLo HOL HOA hW7
            have hkv : c < (vs ++ [Value.slice none 0 0]).length := by rw [HV7.out]; exact hkc
            obtain ⟨cL, fL, hgl, hBg⟩ := HL7.out.cell HV7.out.symm c hkv
            obtain ⟨v, hv⟩ : ∃ v, v = (vs ++ [Value.slice none 0 0])[c] := ⟨_, rfl⟩
            have HVK : Hid ((vs ++ [Value.slice none 0 0])[c]? = some v) := by show (vs ++ [Value.slice none 0 0])[c]? = some v; rw [List.getElem?_eq_getElem hkv, hv]
            rw [← hv] at cL
            have hrow := HL7.out.r c v HVK.out
            have hm4 := glR_len (clR ρ) i c
            obtain ⟨m, hm⟩ : ∃ m, m = (glR (clR ρ) i c).length := ⟨_, rfl⟩
            have HMl : Hid (m = (glR (clR ρ) i c).length) := hm
            rw [← hm] at hrow hm4
            obtain ⟨va, vcap, rfl⟩ := own_slice hrow
            obtain ⟨g9, cap9, W9, hrun, HO9, HG9, HLoc9⟩ := app_run infoInt Try.underlying24 rfl hrow (x := .int .i64 (i : Int)) rfl (by omega) (by decide) HBs7.out
            have kp9 : ∀ b, b < W7.heap.size → some b ≠ (Value.slice va m vcap).ownBlock → W9.heap[b]? = W7.heap[b]? := fun b hb hne => (HG9.out.block b (by show b < (W7.heap.push _).size; simp; omega) hne).trans (alOld hb)
            have hneL : some gL ≠ (Value.slice va m vcap).ownBlock := fun e => HL7.out.q c _ gL HVK.out e.symm rfl
            have hneO : ∀ b, b < B → some b ≠ (Value.slice va m vcap).ownBlock := fun b hb e => by have := (hrow.lt b e.symm).1; omega
            have cA9 : W9.cell? ⟨A, i, none⟩ = some (.int .i64 (c : Int)) := (World.cell?_of_block (w := W7) (a := ⟨A, i, none⟩) (kp9 A hAl (hneO A hAB))).trans cA
            have cL9 : W9.cell? ⟨gL, c, none⟩ = some (.slice va m vcap) := (World.cell?_of_block (w := W7) (a := ⟨gL, c, none⟩) (kp9 gL hgl hneL)).trans cL
            have fL9 : W9.frozen? ⟨gL, c, none⟩ = false := (World.frozen?_of_block (w := W7) (a := ⟨gL, c, none⟩) (kp9 gL hgl hneL)).trans fL
            have es9 : (W7.alloc (.cells #[.int .i64 (i : Int)] 3)).drew.heap.size = W7.heap.size + 1 := by show (W7.heap.push _).size = _; simp
            have hs9 := HG9.out.size
            rw [es9] at hs9
            have hgl9 : gL < W9.heap.size := by omega
            have hAl9 : A < W9.heap.size := by omega
            have KP9 : Hid (∀ b, b < B → W9.heap[b]? = W7.heap[b]?) := fun b hb => kp9 b (by have := HBs7.out; omega) (hneO b hb)
            have HH : Hid (GL B (.slice (some ⟨gL, 0, none⟩) (c + 1) capL) ((vs ++ [Value.slice none 0 0]).set c (.slice (some ⟨g9, 0, none⟩) (m + 1) cap9)) (glR (clR ρ) (i + 1)) (W9.setCell ⟨gL, c, none⟩ (.slice (some ⟨g9, 0, none⟩) (m + 1) cap9))) := by
              have h0 := HL7.out
              rw [← HV7.out] at h0 ⊢
              have h1 := GL.app (x := i) h0 HVK.out (W1 := (W7.alloc (.cells #[.int .i64 (i : Int)] 3)).drew) (fun j hj => alOld hj) (by show W7.heap.size ≤ (W7.heap.push _).size; simp) (by rw [← HMl.out]; exact HO9.out) HG9.out HLoc9.out
              exact h1.congr (fun q _ => by rw [glStep HP1.out HP2.out i q, HCL.out])
            have hBW9 : Hid (∀ b, b < B → (W9.setCell ⟨gL, c, none⟩ (.slice (some ⟨g9, 0, none⟩) (m + 1) cap9)).heap[b]? = W7.heap[b]?) := fun b hb => (Below.heap_setCell _ _ _ _ (by show b ≠ gL; omega)).trans (KP9.out b hb)
            have eS9 : (W9.setCell ⟨gL, c, none⟩ (.slice (some ⟨g9, 0, none⟩) (m + 1) cap9)).heap.size = W9.heap.size := by simp [World.setCell]
            have hS9 : Hid (B ≤ (W9.setCell ⟨gL, c, none⟩ (.slice (some ⟨g9, 0, none⟩) (m + 1) cap9)).heap.size) := by
              show B ≤ (W9.setCell _ _).heap.size
              have := HBs7.out
              omega
            have HBB9 : Hid (Below w.heap.size w (W9.setCell ⟨gL, c, none⟩ (.slice (some ⟨g9, 0, none⟩) (m + 1) cap9))) := ⟨HG9.out.os.trans HB7.out.os, HG9.out.tape.trans HB7.out.tape, HG9.out.output.trans HB7.out.output, by have := HB7.out.size; have := hS9.out; omega, fun b hb => (hBW9.out b (by omega)).trans (HB7.out.block b hb)⟩
            have k1 : (0 : Int) ≤ (c : Int) := by omega
            have k2 : (c : Int) < (c + 1 : Int) := by omega
            have HCe : Hid (c + 1 = nR ρ (i + 1)) := HC7.out
            have HVl : Hid ((vs ++ [Value.slice none 0 0]).length = c + 1) := HV7.out
            clear hv hm hrow kp9 hneL hneO hs9 es9 eS9 HO9 HG9 HLoc9 KP9 hBg
            go_region_law (refine step_app rfl _ _ 24 rfl (.slice va m vcap) (.slice (some ⟨W7.heap.size, 0, none⟩) 1 1) (.slice (some ⟨g9, 0, none⟩) (m + 1) cap9) W9 (by simp [Act.eval, Act.put]) (by simp [Act.eval, Act.put]) (hrun _) ?_)
            all_goals
              go_wp2
              go_roundw
              case rel =>
                exact ⟨i + 1, c + 1, _, capL, _, f5, hlt, by go_num, rfl, HCe.out, by show (List.set _ _ _).length = _; rw [List.length_set]; exact HVl.out, HH.out, H1.out, H2.out, HR7.out.of_block (hBW9.out T (by omega)), HA7.out.of_block (hBW9.out A hAB), HBB9.out, hS9.out⟩
              case measure => simp [intOf]; omega
          · have hri : ρ i < i := by omega
            have HRn : Hid (ρ i < i) := hri
            have HRt : Hid (¬ ρ i = i) := hr
            obtain ⟨f0, hf0⟩ : ∃ f0, f0 = ρ i := ⟨_, rfl⟩
            have HF0 : Hid (f0 = ρ i) := hf0
            rw [← hf0] at HLo hri
            have hkn : (((f0 : Nat) : Int) == (i : Int)) = false := by simp; omega
            obtain ⟨k, hk⟩ : ∃ k, k = clR ρ i := ⟨_, rfl⟩
            have HCL : Hid (clR ρ i = k) := hk.symm
            have hkc : k < c := by
              rw [hk, HC.out]
              have h9 := clR_lt HP1.out HP2.out (j := ρ i) (i := i) (by omega)
              unfold clR at h9 ⊢
              rw [HP2.out] at h9
              exact h9
            have f01 : (0 : Int) ≤ (f0 : Int) := by omega
            have f02 : (f0 : Int) < (n : Int) := by omega
            have HL0 := HL.out
            obtain ⟨gL, capL, hvL⟩ : ∃ gL capL, Value.slice ao c cap = .slice (some ⟨gL, 0, none⟩) c capL := by
              obtain ⟨c', rfl⟩ : ∃ c', c = c' + 1 := ⟨c - 1, by omega⟩
              have ho := HL0.o
              rw [HV.out] at ho
              exact own_slice1 ho
            injection hvL with hv1 hv2 hv3
            subst hv1 hv3
            clear hr hv2 hk hf0 HL0
            go_wp2_with (first
              | (go_at_call 37; refine HLo.out.mono ?_; rintro e w5 ⟨f5, rfl, H1, H2, H3, H4, H5, h6, h7, h8⟩; have cA := h6 f0 (by omega); clear h6 h7))
            have hsz5 := H4.out.size
            have HL7 : Hid (GL B (.slice (some ⟨gL, 0, none⟩) c cap) vs (glR (clR ρ) i) w5) := HL.out.keep fun k hk _ => H4.out.block k (by omega)
            have HV7 : Hid (vs.length = c) := HV.out
            have HC7 : Hid (c = nR ρ (i + 1)) := by show c = nR ρ i + _; rw [if_neg HRt.out, HC.out]; rfl
            have HA7 : Hid (w5.rowIs A 3 n (atF ρ (i + 1))) := H5.out.congr fun q hq => by
              unfold atF
              by_cases e : q = i
              · subst e; rw [if_neg (fun h => absurd h.1 (Nat.lt_irrefl _)), if_neg (fun h => HRt.out h.2)]
              · by_cases h2 : q < i ∧ ρ q = q
                · rw [if_pos h2, if_pos ⟨by omega, h2.2⟩]
                · rw [if_neg h2, if_neg (fun h3 => h2 ⟨by omega, h3.2⟩)]
            have HR7 : Hid (w5.rowIs T 3 n (nF f5)) := H3.out
            have HBs7 : Hid (B ≤ w5.heap.size) := by show B ≤ w5.heap.size; have := HBs.out; omega
            have HB7 : Hid (Below w.heap.size w w5) := HB.out.trans (H4.out.below hT)
            have cA' : w5.cell? ⟨A, f0, none⟩ = some (.int .i64 (k : Int)) := by
              rw [cA]; unfold atF
              rw [if_pos ⟨hri, by rw [HF0.out]; exact HP2.out i⟩, ← HCL.out]; unfold clR; rw [HF0.out]
            have hAl : A < w5.heap.size := h8
            clear cA
            have cA := cA'
            generalize hW7 : w5 = W7 at *
            clear cA' h8 hsz5 HLo hW7
            obtain ⟨capL, hcL⟩ : ∃ capL, capL = cap := ⟨_, rfl⟩
            subst hcL
            have hkv : k < (vs).length := by rw [HV7.out]; exact hkc
            obtain ⟨cL, fL, hgl, hBg⟩ := HL7.out.cell HV7.out.symm k hkv
            obtain ⟨v, hv⟩ : ∃ v, v = (vs)[k] := ⟨_, rfl⟩
            have HVK : Hid ((vs)[k]? = some v) := by show (vs)[k]? = some v; rw [List.getElem?_eq_getElem hkv, hv]
            rw [← hv] at cL
            have hrow := HL7.out.r k v HVK.out
            have hm4 := glR_len (clR ρ) i k
            obtain ⟨m, hm⟩ : ∃ m, m = (glR (clR ρ) i k).length := ⟨_, rfl⟩
            have HMl : Hid (m = (glR (clR ρ) i k).length) := hm
            rw [← hm] at hrow hm4
            obtain ⟨va, vcap, rfl⟩ := own_slice hrow
            obtain ⟨g9, cap9, W9, hrun, HO9, HG9, HLoc9⟩ := app_run infoInt Try.underlying24 rfl hrow (x := .int .i64 (i : Int)) rfl (by omega) (by decide) HBs7.out
            have kp9 : ∀ b, b < W7.heap.size → some b ≠ (Value.slice va m vcap).ownBlock → W9.heap[b]? = W7.heap[b]? := fun b hb hne => (HG9.out.block b (by show b < (W7.heap.push _).size; simp; omega) hne).trans (alOld hb)
            have hneL : some gL ≠ (Value.slice va m vcap).ownBlock := fun e => HL7.out.q k _ gL HVK.out e.symm rfl
            have hneO : ∀ b, b < B → some b ≠ (Value.slice va m vcap).ownBlock := fun b hb e => by have := (hrow.lt b e.symm).1; omega
            have cA9 : W9.cell? ⟨A, f0, none⟩ = some (.int .i64 (k : Int)) := (World.cell?_of_block (w := W7) (a := ⟨A, f0, none⟩) (kp9 A hAl (hneO A hAB))).trans cA
            have cL9 : W9.cell? ⟨gL, k, none⟩ = some (.slice va m vcap) := (World.cell?_of_block (w := W7) (a := ⟨gL, k, none⟩) (kp9 gL hgl hneL)).trans cL
            have fL9 : W9.frozen? ⟨gL, k, none⟩ = false := (World.frozen?_of_block (w := W7) (a := ⟨gL, k, none⟩) (kp9 gL hgl hneL)).trans fL
            have es9 : (W7.alloc (.cells #[.int .i64 (i : Int)] 3)).drew.heap.size = W7.heap.size + 1 := by show (W7.heap.push _).size = _; simp
            have hs9 := HG9.out.size
            rw [es9] at hs9
            have hgl9 : gL < W9.heap.size := by omega
            have hAl9 : A < W9.heap.size := by omega
            have KP9 : Hid (∀ b, b < B → W9.heap[b]? = W7.heap[b]?) := fun b hb => kp9 b (by have := HBs7.out; omega) (hneO b hb)
            have HH : Hid (GL B (.slice (some ⟨gL, 0, none⟩) (c) capL) ((vs).set k (.slice (some ⟨g9, 0, none⟩) (m + 1) cap9)) (glR (clR ρ) (i + 1)) (W9.setCell ⟨gL, k, none⟩ (.slice (some ⟨g9, 0, none⟩) (m + 1) cap9))) := by
              have h0 := HL7.out
              rw [← HV7.out] at h0 ⊢
              have h1 := GL.app (x := i) h0 HVK.out (W1 := (W7.alloc (.cells #[.int .i64 (i : Int)] 3)).drew) (fun j hj => alOld hj) (by show W7.heap.size ≤ (W7.heap.push _).size; simp) (by rw [← HMl.out]; exact HO9.out) HG9.out HLoc9.out
              exact h1.congr (fun q _ => by rw [glStep HP1.out HP2.out i q, HCL.out])
            have hBW9 : Hid (∀ b, b < B → (W9.setCell ⟨gL, k, none⟩ (.slice (some ⟨g9, 0, none⟩) (m + 1) cap9)).heap[b]? = W7.heap[b]?) := fun b hb => (Below.heap_setCell _ _ _ _ (by show b ≠ gL; omega)).trans (KP9.out b hb)
            have eS9 : (W9.setCell ⟨gL, k, none⟩ (.slice (some ⟨g9, 0, none⟩) (m + 1) cap9)).heap.size = W9.heap.size := by simp [World.setCell]
            have hS9 : Hid (B ≤ (W9.setCell ⟨gL, k, none⟩ (.slice (some ⟨g9, 0, none⟩) (m + 1) cap9)).heap.size) := by
              show B ≤ (W9.setCell _ _).heap.size
              have := HBs7.out
              omega
            have HBB9 : Hid (Below w.heap.size w (W9.setCell ⟨gL, k, none⟩ (.slice (some ⟨g9, 0, none⟩) (m + 1) cap9))) := ⟨HG9.out.os.trans HB7.out.os, HG9.out.tape.trans HB7.out.tape, HG9.out.output.trans HB7.out.output, by have := HB7.out.size; have := hS9.out; omega, fun b hb => (hBW9.out b (by omega)).trans (HB7.out.block b hb)⟩
            have k1 : (0 : Int) ≤ (k : Int) := by omega
            have k2 : (k : Int) < (c : Int) := by omega
            have HCe : Hid (c = nR ρ (i + 1)) := HC7.out
            have HVl : Hid ((vs).length = c) := HV7.out
            clear hv hm hrow kp9 hneL hneO hs9 es9 eS9 HO9 HG9 HLoc9 KP9 hBg
            go_region_law (refine step_app rfl _ _ 24 rfl (.slice va m vcap) (.slice (some ⟨W7.heap.size, 0, none⟩) 1 1) (.slice (some ⟨g9, 0, none⟩) (m + 1) cap9) W9 (by simp [Act.eval, Act.put]) (by simp [Act.eval, Act.put]) (hrun _) ?_)
            all_goals
              go_wp2
              go_roundw
              case rel =>
                exact ⟨i + 1, c, _, capL, _, f5, hlt, by go_num, rfl, HCe.out, by show (List.set _ _ _).length = _; rw [List.length_set]; exact HVl.out, HH.out, H1.out, H2.out, HR7.out.of_block (hBW9.out T (by omega)), HA7.out.of_block (hBW9.out A hAB), HBB9.out, hS9.out⟩
              case measure => simp [intOf]; omega
        · obtain rfl : n = i := by omega
          go_wp2
          go_ret
          exact ⟨c, ρ, B, ao, cap, vs, rfl, HP1.out, HP2.out, HM.out, HC.out, HV.out, hwB, HL.out, HB.out⟩
end Go.Proofs.Ytkgonnnpoldcoaa

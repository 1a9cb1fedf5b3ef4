/- The program's Check of layer 9: sums, widths. -/
import Derived.Test.YtpdcmehjndhcjaaKC
namespace Go.Proofs.Ytpdcmehjndhcjaa
open Go.RowKit Lg Nl Go.Maps
set_option linter.unusedVariables false
set_option linter.unusedSimpArgs false

/-- a sum as the machine adds -/
def sumW (ws : List Int) : Int := ws.foldl (fun a z => wrap64 (a + z)) 0
theorem sumW_snoc (ws : List Int) (z : Int) : sumW (ws ++ [z]) = wrap64 (sumW ws + z) := by simp [sumW]
set_option maxHeartbeats 400000 in
theorem kSum_c (ws : List Int) (v : Value) (w : World) (h : IntsAt w v ws) (hm : ws.length ≤ 17592186044416) : Calls Try.prog 40 #[v] w fun e w' => e = .returned (.int .i64 (sumW ws)) ∧ w' = w := by
  obtain ⟨ao, cap, rfl, hc, h'⟩ := id h
  obtain ⟨m, hml⟩ : ∃ m, m = ws.length := ⟨_, rfl⟩
  rw [← hml] at hc hm h ⊢
  have H : Hid (IntsAt w (.slice ao m cap) ws) := h
  have HML : Hid (m = ws.length) := hml
  obtain ⟨R, hR⟩ : ∃ R, R = sumW ws := ⟨_, rfl⟩
  rw [← hR]
  have HR : Hid (R = sumW ws) := hR
  clear h h' hml hR
  go_enter Try.func40, Try.ntmps40
  go_wp2
  go_loop [3, 8] (fun s3 s8 => ∃ (j : Nat) (t : Int), j ≤ m ∧ s8 = .int .i64 j ∧ s3 = .int .i64 t ∧ Hid (t = sumW (ws.take j))) (fun s3 s8 => m - (intOf s8).toNat)
  case atStart => exact ⟨0, 0, Nat.zero_le _, rfl, rfl, rfl⟩
  case round =>
    obtain ⟨j, t, hj, rfl, rfl, HT⟩ := hrel
    by_cases hlt : j < m
    · have hjl : j < ws.length := by rw [← HML.out]; exact hlt
      obtain ⟨g, o, cap', hg⟩ := H.out.some_ (by omega)
      injection hg with e1 e2 e3
      subst e1
      obtain ⟨gl, gd⟩ := H.out.cell j hjl
      obtain ⟨z, hz⟩ : ∃ z, z = ws[j] := ⟨_, rfl⟩
      rw [← hz] at gd
      have HZ : Hid (z = ws[j]) := hz
      clear hz e2 e3
      go_wp2
      go_round
      case rel => exact ⟨j + 1, _, hlt, by go_num, rfl, by rw [List.take_succ_eq_append_getElem hjl, sumW_snoc, ← HT.out, ← HZ.out]; exact rfl⟩
      case measure => simp [intOf]; omega
    · obtain rfl : j = m := by omega
      go_wp2
      go_ret
      exact ⟨ret_int (by rw [HR.out, HT.out, HML.out, List.take_length]), rfl⟩
theorem all_snocK {α : Type} {p : α → Bool} {l : List α} {k : Nat} (hk : k < l.length) (h : (l.take k).all p = true) (hp : p l[k] = true) : (l.take (k + 1)).all p = true := by
  rw [List.take_succ_eq_append_getElem hk, List.all_append, h]; simp [hp]
theorem wdAtK {l : List Nd} {i : Nat} (hi : i < l.length) : wdAt l (i : Int) = l[i].wd := by unfold wdAt; rw [Int.toNat_natCast, ndAt_eq hi]
theorem Gb {w W W' : World} {row : Option Nat} (h : Below w.heap.size w W) (hg : W.grownBy W' row) (hr : ∀ g, row = some g → w.heap.size ≤ g) : Below w.heap.size w W' :=
  ⟨hg.os.trans h.os, hg.tape.trans h.tape, hg.output.trans h.output, Nat.le_trans h.size hg.size, fun k hk => (hg.block k (Nat.lt_of_lt_of_le hk h.size) (fun e => by have := hr k e.symm; omega)).trans (h.block k hk)⟩
set_option maxRecDepth 100000 in
set_option maxHeartbeats 1000000 in
theorem kWidths_c (l : List Nd) (ins : List Int) (vN vi : Value) (w : World) (hN : NdsAt w vN l) (hi : IntsAt w vi ins) (hl : l.length ≤ 140737488355328) (hm : ins.length ≤ 17592186044416) :
    Calls Try.prog 32 #[vi, vN] w fun e w' => ((ins.all (inB l.length) = true ∧ ∃ ao cp, e = .returned (.tuple #[.slice ao ins.length cp, .bool true]) ∧ w'.ownsRow w.heap.size 3 1 (.slice ao ins.length cp) ins.length (iC (wsOf l ins))) ∨ (ins.all (inB l.length) = false ∧ e = .returned (.tuple #[.slice none 0 0, .bool false]))) ∧ Below w.heap.size w w' := by
  obtain ⟨na, nc, rfl, hnc, hN'⟩ := id hN
  obtain ⟨ia, ic, rfl, hic, hi'⟩ := id hi
  obtain ⟨n, hn⟩ : ∃ n, n = l.length := ⟨_, rfl⟩
  obtain ⟨m, hm'⟩ : ∃ m, m = ins.length := ⟨_, rfl⟩
  rw [← hn] at hnc hl hN ⊢
  rw [← hm'] at hic hm hi ⊢
  have HN : Hid (NdsAt w (.slice na n nc) l) := hN
  have HI : Hid (IntsAt w (.slice ia m ic) ins) := hi
  have HNL : Hid (n = l.length) := hn
  have HML : Hid (m = ins.length) := hm'
  clear hN hi hN' hi' hn hm'
  go_enter Try.func32, Try.ntmps32
  go_wp2
  go_loopw [6, 11] (fun s6 s11 W => ∃ (j : Nat) (ao : Option Addr) (cp : Nat), j ≤ m ∧ s11 = .int .i64 j ∧ s6 = .slice ao j cp ∧ Hid ((ins.take j).all (inB n) = true) ∧ Hid (W.ownsRow w.heap.size 3 1 (.slice ao j cp) j (iC (wsOf l (ins.take j)))) ∧ Hid (Below w.heap.size w W)) (fun s6 s11 W => m - (intOf s11).toNat)
  case atStart => exact ⟨0, none, 0, Nat.zero_le _, rfl, rfl, rfl, World.ownsRow_nil _ _ _ _, Below.refl _ _⟩
  case round =>
    obtain ⟨j, ao, cp, hj, rfl, rfl, HA, HO, HB⟩ := hrel
    by_cases hlt : j < m
    · have hjl : j < ins.length := by rw [← HML.out]; exact hlt
      obtain ⟨g2, o2, cap2, hg2⟩ := HI.out.some_ (by omega)
      injection hg2 with e4 e5 e6
      subst e4
      obtain ⟨gl2, gd2⟩ := (HI.out.below HB.out).cell j hjl
      obtain ⟨z, hz⟩ : ∃ z, z = ins[j] := ⟨_, rfl⟩
      rw [← hz] at gd2
      have HZ : Hid (z = ins[j]) := hz
      clear hz e5 e6
      have hwz := HB.out.size
      rcases (by omega : (z < 0 ∨ (0 ≤ z ∧ (n : Int) ≤ z)) ∨ (0 ≤ z ∧ z < (n : Int))) with hz | ⟨hz1, hz2⟩
      · have hno : inB n ins[j] = false := by rw [← HZ.out]; simp [inB]; omega
        have HNO : Hid (ins.all (inB n) = false) := by
          show ins.all (inB n) = false
          rw [List.all_eq_false]; exact ⟨ins[j], List.getElem_mem hjl, by simp [hno]⟩
        clear hno
        rcases hz with hz | ⟨hz1, hz2⟩
        all_goals
          go_wp2
          go_ret2
          exact ⟨Or.inr ⟨HNO.out, rfl⟩, HB.out⟩
      · obtain ⟨i, rfl⟩ : ∃ i : Nat, z = (i : Int) := ⟨z.toNat, by omega⟩
        have hil : i < l.length := by rw [← HNL.out]; omega
        obtain ⟨g, o, cap, hg⟩ := HN.out.some_ (by omega)
        injection hg with e1 e2 e3
        subst e1
        obtain ⟨gl, gd⟩ := (HN.out.below HB.out).wd i hil
        obtain ⟨wi, hwi⟩ : ∃ wi, wi = l[i].wd := ⟨_, rfl⟩
        rw [← hwi] at gd
        have HWI : Hid (wi = l[i].wd) := hwi
        clear hwi e2 e3
        obtain ⟨i0, ti, tz0, tz1, tz2⟩ := infoInt
        have HOA : ∀ o', (wr.alloc o').ownsRow w.heap.size 3 1 (.slice ao j cp) j (iC (wsOf l (ins.take j))) := fun o' => World.ownsRow.alloc HO.out o'
        go_wp2_with (first
          | (at_builtin; refine wpList_append_own_at _ rfl _ _ 23 rfl w.heap.size 3 i0 _ 1 8 Try.underlying23 ti tz0 tz1 tz2 rfl (by decide) (.slice ao j cp) j (iC (wsOf l (ins.take j))) rfl (HOA _) ⟨wr.heap.size, 0, none⟩ 1 1 [.int .i64 wi] rfl rfl (new1i _ _ _ _ rfl) (one1 _) (by unfold maxLen; omega) (by omega) (by simp; omega) ?_; intro v7 w7 ho7 hg7 hn7 hl7; have HB7 := Gb (belA HB.out _) hg7 (own_ge HO.out); obtain ⟨gq, cq, rfl⟩ := own_slice1 ho7; rw [← iC_one, ← iC_app] at ho7))
        go_roundw
        case rel => exact ⟨j + 1, _, _, hlt, by go_num, rfl, all_snocK hjl HA.out (by rw [← HZ.out]; simp [inB]; omega), by rw [wsOf_take l ins j hjl, ← HZ.out, wdAtK hil, ← HWI.out]; exact ho7, HB7⟩
        case measure => simp [intOf]; omega
    · obtain rfl : j = m := by omega
      have htk : ins.take j = ins := by rw [HML.out]; exact List.take_length
      have HA2 := HA.out
      have HO2 := HO.out
      rw [htk] at HA2 HO2
      have HA3 : Hid (ins.all (inB n) = true) := HA2
      have HO3 : Hid (wr.ownsRow w.heap.size 3 1 (.slice ao j cp) j (iC (wsOf l ins))) := HO2
      clear HA2 HO2 htk
      go_wp2
      go_ret2
      exact ⟨Or.inl ⟨HA3.out, _, _, rfl, HO3.out⟩, HB.out⟩
end Go.Proofs.Ytpdcmehjndhcjaa

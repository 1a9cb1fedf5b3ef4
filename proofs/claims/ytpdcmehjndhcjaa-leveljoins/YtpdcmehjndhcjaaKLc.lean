/- The program's newWalker; the library's Index and Clone of numbers. -/
import Derived.Test.YtpdcmehjndhcjaaKLb
namespace Go.Proofs.Ytpdcmehjndhcjaa
open Go.RowKit Lg Nl Go.Maps
set_option linter.unusedVariables false
set_option linter.unusedSimpArgs false

theorem newW_end (w : World) (n : Nat) (vN : Value) (T1 T2 T3 : Nat) (h1 : T1 = w.heap.size ∨ T1 = w.heap.size + 1 ∨ T1 = w.heap.size + 1 + 1) (h2 : T2 = w.heap.size ∨ T2 = w.heap.size + 1 ∨ T2 = w.heap.size + 1 + 1) (h3 : T3 = w.heap.size ∨ T3 = w.heap.size + 1 ∨ T3 = w.heap.size + 1 + 1) (d1 : T1 ≠ T2) (d2 : T1 ≠ T3) (d3 : T2 ≠ T3) :
    Ap w.heap.size (w.heap.size + 1 + 1 + 1) T1 T2 T3 ∧ Wk w (w.heap.size + 1 + 1 + 1) T1 T2 T3 n vN (fun _ => 0) (fun _ => 0) (fun _ => 0) ((((w.alloc (.cells (madeCells #[.int .i64 0] n) 3)).alloc (.cells (madeCells #[.int .i64 0] n) 3)).alloc (.cells (madeCells #[.int .i64 0] n) 3)).alloc (.cells #[vN, .slice (some ⟨T1, 0, none⟩) n n, .slice (some ⟨T2, 0, none⟩) n n, .slice (some ⟨T3, 0, none⟩) n n] 49)).drew := by
  have key : ∀ T, (T = w.heap.size ∨ T = w.heap.size + 1 ∨ T = w.heap.size + 1 + 1) → ((((w.alloc (.cells (madeCells #[.int .i64 0] n) 3)).alloc (.cells (madeCells #[.int .i64 0] n) 3)).alloc (.cells (madeCells #[.int .i64 0] n) 3)).alloc (.cells #[vN, .slice (some ⟨T1, 0, none⟩) n n, .slice (some ⟨T2, 0, none⟩) n n, .slice (some ⟨T3, 0, none⟩) n n] 49)).drew.rowIs T 3 n (fun _ => .int .i64 0) := by
    intro T hT
    apply World.rowIs.drew
    apply World.rowIs.alloc
    rcases hT with rfl | rfl | rfl
    · exact ((World.rowIs_made w _ n _).alloc _).alloc _
    · exact (by simpa using (World.rowIs_made (w.alloc (.cells (madeCells #[.int .i64 0] n) 3)) (.int .i64 0) n 3).alloc (.cells (madeCells #[.int .i64 0] n) 3))
    · exact (by simpa using (World.rowIs_made ((w.alloc (.cells (madeCells #[.int .i64 0] n) 3)).alloc (.cells (madeCells #[.int .i64 0] n) 3)) (.int .i64 0) n 3))
  refine ⟨⟨by omega, by omega, by omega, by omega, by omega, by omega, by omega, d1, d2, d3⟩, ?_, ?_, key T1 h1, key T2 h2, key T3 h3⟩
  · exact (belA (belA (belA (belA (Below.refl _ _) _) _) _) _).drew
  · exact alAt (by simp)
set_option maxHeartbeats 1000000 in
theorem newW_c (n : Nat) (na : Option Addr) (nc : Nat) (w : World) (hn : n ≤ 4096) :
    Calls Try.prog 17 #[.slice na n nc] w fun e w' => ∃ b T1 T2 T3, e = .returned (.pointer (some ⟨b, 0, none⟩)) ∧ Ap w.heap.size b T1 T2 T3 ∧ Wk w b T1 T2 T3 n (.slice na n nc) (fun _ => 0) (fun _ => 0) (fun _ => 0) w' := by
  have hmk := mkInts n (by omega)
  go_enter Try.func17, Try.ntmps17
  go_wp2
  go_region
  all_goals go_wp2
  all_goals (go_ret; exact ⟨_, _, _, _, rfl, newW_end w n _ _ _ _ (by omega) (by omega) (by omega) (by omega) (by omega) (by omega)⟩)
set_option maxHeartbeats 1000000 in
theorem index_c (xs : List Int) (ao : Option Addr) (n cap : Nat) (z : Int) (w : World) (h : IntsAt w (.slice ao n cap) xs) (hn : n ≤ 17592186044416) (hz : z ∈ xs) :
    Calls Try.prog 36 #[.slice ao n cap, .int .i64 z] w fun e w' => ∃ i : Nat, e = .returned (.int .i64 i) ∧ xs[i]? = some z ∧ w' = w := by
  obtain ⟨HL, hcells⟩ : Hid (n = xs.length) ∧ (0 < n → ∃ g o, ao = some ⟨g, o, none⟩ ∧ ∀ i (hi : i < xs.length), w.cell? ⟨g, o + i, none⟩ = some (.int .i64 xs[i])) := by
    obtain ⟨ao', c, hv, _, h⟩ := h
    injection hv with e1 e2 e3
    subst e1
    refine ⟨e2, fun hp => ?_⟩
    rcases h with h | ⟨g, o, e, _, h⟩
    · subst h; simp at e2; omega
    · exact ⟨g, o, e, h⟩
  have hpos : 0 < n := by rw [HL.out]; exact List.length_pos_of_mem hz
  obtain ⟨g, o, rfl, hc⟩ := hcells hpos
  have HC : Hid (∀ i (hi : i < xs.length), w.cell? ⟨g, o + i, none⟩ = some (.int .i64 xs[i])) := hc
  have HZ : Hid (z ∈ xs) := hz
  clear h hc hz hcells
  go_enter Try.func36, Try.ntmps36
  go_wp2
  go_loop [8] (fun s8 => ∃ k : Nat, k ≤ n ∧ s8 = .int .i64 k ∧ Hid (z ∉ xs.take k)) (fun s8 => n - (intOf s8).toNat)
  case atStart => exact ⟨0, Nat.zero_le _, rfl, by show _ ∉ _; simp⟩
  case round =>
    obtain ⟨k, hk, rfl, HK⟩ := hrel
    by_cases hlt : k < n
    · have hkl : k < xs.length := by rw [← HL.out]; exact hlt
      have hx := HC.out k hkl
      have k1 : (0 : Int) ≤ (k : Int) := by omega
      have k2 : (k : Int) < (n : Int) := by omega
      obtain ⟨y, hy⟩ : ∃ y, y = xs[k] := ⟨_, rfl⟩
      rw [← hy] at hx
      have HY : Hid (y = xs[k]) := hy
      clear hy
      by_cases he : z = y
      · have he' : (z == y) = true := by simpa using he
        have HE : Hid (z = y) := he
        clear he
        go_wp2
        go_ret
        exact ⟨k, rfl, by rw [List.getElem?_eq_getElem hkl, ← HY.out, ← HE.out], rfl⟩
      · have he' : (z == y) = false := by simpa using he
        have HE : Hid (z ≠ y) := he
        clear he
        go_wp2
        go_round
        case rel =>
          refine ⟨k + 1, hlt, by go_num, ?_⟩
          show z ∉ xs.take (k + 1)
          rw [List.take_succ_eq_append_getElem hkl, List.mem_append]
          rintro (h | h)
          · exact HK.out h
          · simp at h; exact HE.out (by rw [h, HY.out])
        case measure => simp [intOf]; omega
    · exfalso
      apply HK.out
      rw [List.take_of_length_le (by rw [← HL.out]; omega)]
      exact HZ.out
theorem notNil (g o n cap : Nat) (W : World) : Sem.run Try.prog (binOp BinOp.eql 23 (.slice (some ⟨g, o, none⟩) n cap) (.slice none 0 0)) W = .ok (.bool false) W := by
  first
  | kernel_rfl
  | rfl
  | (simp [binOp, go_sem]; done)
theorem addO (g o j : Nat) : ((⟨g, o, none⟩ : Addr).add j) = ⟨g, o + j, none⟩ := by
  by_cases h : j = 0
  · subst h; simp [Addr.add]
  · simp [Addr.add, h]
theorem one_iC (xs : List Int) : ∀ u ∈ iC xs, u.oneCell' = true := by intro u hu; unfold iC at hu; obtain ⟨z, _, rfl⟩ := List.mem_map.1 hu; rfl
theorem iC_len (xs : List Int) : (iC xs).length = xs.length := by simp [iC]
theorem iC_get {xs : List Int} {j : Nat} {u : Value} (h : (iC xs)[j]? = some u) : ∃ hj : j < xs.length, u = .int .i64 xs[j] := by
  unfold iC at h
  rw [List.getElem?_map] at h
  rcases hq : xs[j]? with _ | z
  · rw [hq] at h; cases h
  · rw [hq] at h
    obtain ⟨hj, e⟩ := List.getElem?_eq_some_iff.1 hq
    exact ⟨hj, by rw [e]; injection h with h; exact h.symm⟩
set_option maxHeartbeats 1000000 in
theorem clone_c (xs : List Int) (g o n cap : Nat) (w : World) (hl : n = xs.length) (h : ∀ i (hi : i < xs.length), w.cell? ⟨g, o + i, none⟩ = some (.int .i64 xs[i])) (hg : g < w.heap.size) (hn : n ≤ 4096) (hp : 0 < n) :
    Calls Try.prog 35 #[.slice (some ⟨g, o, none⟩) n cap] w fun e w' => ∃ v', e = .returned v' ∧ IntsAt w' v' xs ∧ Below w.heap.size w w' := by
  have HL : Hid (n = xs.length) := hl
  have HC : Hid (∀ i (hi : i < xs.length), w.cell? ⟨g, o + i, none⟩ = some (.int .i64 xs[i])) := h
  clear hl h
  have hnil := notNil g o n cap
  have HNW : Hid (∀ j u, (iC xs)[j]? = some u → (w.alloc (.cells #[] 3)).cell? ((⟨g, o, none⟩ : Addr).add j) = some u) := by
    intro j u hj
    obtain ⟨hl, rfl⟩ := iC_get hj
    have e : ((⟨g, o, none⟩ : Addr).add j) = ⟨g, o + j, none⟩ := addO g o j
    rw [e, World.cell?_of_block (w := w) (a := ⟨g, o + j, none⟩) (alOld hg)]
    exact HC.out j hl
  obtain ⟨i0, hi0, hz0, hz1, hz2⟩ := infoInt
  go_enter Try.func35, Try.ntmps35
  go_wp2_with (first
    | (at_builtin; refine wpList_append_own_at _ rfl _ _ 23 rfl w.heap.size 3 i0 _ 1 8 Try.underlying23 hi0 hz0 hz1 hz2 rfl (by decide) (.slice (some ⟨w.heap.size, 0, none⟩) 0 0) 0 [] rfl (World.ownsRow_lit w #[] 0 (Nat.le_refl _) (by decide) rfl) ⟨g, o, none⟩ n cap (iC xs) rfl (by have := HL.out; rw [iC_len]; omega) HNW.out (one_iC xs) (by unfold maxLen; omega) (by omega) (by simp) ?_; intro v' w2 hown2 hgrow2 hnil2 hloc2))
  go_ret
  refine ⟨v', rfl, own_ints (B := w.heap.size) (by have h := hown2; rw [Nat.zero_add, HL.out, List.nil_append] at h; exact h), ?_⟩
  have b1 : Below w.heap.size w (w.alloc (.cells #[] 3)) := belA (Below.refl _ _) _
  exact ⟨hgrow2.os.trans b1.os, hgrow2.tape.trans b1.tape, hgrow2.output.trans b1.output, Nat.le_trans b1.size hgrow2.size, fun k hk => (hgrow2.block k (by simp; omega) (fun e => by simp [Value.ownBlock] at e; omega)).trans (b1.block k hk)⟩
end Go.Proofs.Ytpdcmehjndhcjaa

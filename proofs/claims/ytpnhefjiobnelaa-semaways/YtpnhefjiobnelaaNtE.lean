/- Layer 7 of the program: an always that keeps nothing. -/
import Derived.Test.YtpnhefjiobnelaaNtD
namespace Go.Proofs.Ytpnhefjiobnelaa
open Go.RowKit Lg Rp Go.Maps
set_option linter.unusedVariables false
set_option linter.unusedSimpArgs false

theorem suSz (so : Option (List UInt8)) : Maps.size (suD so) = if so = none then 0 else 1 := by
  cases so <;> simp [suD, Maps.size, DataW.put, DataW.del, DataW.insert]
theorem asSz {tg : Asc} (h : tg.length ≤ 1) : Maps.size (asD tg) = tg.length := by
  match tg, h with
  | [], _ => rfl
  | [(x, v)], _ => simp [asD, Maps.size, DataW.put, DataW.del, DataW.insert]
/-- a map that is new: no name is sure -/
theorem su_new {ub : Nat} {w : World} (h : sMp ub 0 (.map []) w) : Su ub 0 none w := h
def KnR (cb mb : Nat) (w : World) (r : Sum (Int × Int) Nat) (e : Ending) (w' : World) : Prop := match r with
  | .inr k' => e = .returned (.tuple #[]) ∧ Cb cb mb k' w' ∧ Kp cb w w'
  | .inl (q, c) => e = .panicked (pnR q c) ∧ Kp cb w w'
set_option maxRecDepth 100000 in
set_option maxHeartbeats 8000000 in
theorem zKeeps {cb mb k pb tb sb nb db F g o : Nat} {f d : Asc} {fs : List (Asc × Asc)} {p : Option Addr} {tg : Asc} {w : World} {x : List Dc} {vs : List Value} {r : Sum (Int × Int) Nat} (hq : kpM tg F x k = some r) (h : Pr cb mb k pb tb sb nb db f d fs p tg w) (hX : Xa w cb g o x vs) :
    Calls Try.prog 82 #[.pointer (some ⟨pb, 0, none⟩), .pointer (some ⟨g, o, none⟩)] w fun e w' => KnR cb mb w r e w' := by
  have hmm := @run_makeMap Try.prog
  unfold kpM at hq
  rw [Option.bind_eq_some_iff] at hq
  obtain ⟨⟨n, l⟩, h45, hq⟩ := hq
  rw [Option.bind_eq_some_iff] at hq
  obtain ⟨at_, h47, hq⟩ := hq
  split at hq
  · rename_i hcond
    obtain ⟨hn, htl⟩ := hcond
    rw [Option.bind_eq_some_iff] at hq
    obtain ⟨⟨fr, so', k', m'⟩, hz, hq⟩ := hq
    injection hq with hq
    obtain ⟨a45, c45, _, hc45, hkid⟩ := hX.s h45
    have c47 := hX.i h47
    have hgl := hX.hl
    have hgc := hX.hg
    have hlt1 : cb < tb := by have := h.s.lo; have := h.s.l1; have := h.s.l2; have := h.l1; omega
    have htb := h.t.lt
    have hcb := heap_lt h.c
    obtain ⟨q0, q1, q2, q3, ql⟩ := h.at_
    have HZ : Hid (∀ w1 ab ub, Below w.heap.size w w1 → w1.heap[ab]? = some (.cells #[.pointer (some ⟨cb, 0, none⟩), .map (some tb), .map (some ub)] 146 (0, 0)) → Su ub 0 none w1 → w.heap.size ≤ ub → w.heap.size ≤ ab → ub ≠ ab →
        Calls Try.prog 88 #[.pointer (some ⟨ab, 0, none⟩), .slice a45 n c45] w1 fun e w' => ∃ vo vm vc, e = .returned (.slice vo vm vc) ∧ Pz cb mb k' ab tb ub m' tg so' w' ∧ Kp cb w w') := by
      intro w1 ab ub hb hab hsu hu1 hu2 hu3
      have hp : Pz cb mb k ab tb ub 0 tg none w1 := ⟨h.c.keep (hb.block cb hcb), ⟨hab, h.t.keep (hb.block tb htb), hlt1, by omega⟩, hsu, by omega, hu3⟩
      refine (zStmts (fun F' _ => zStmtC F') hz hn hp (by
        rcases hkid with e | ⟨gk, us, e1, e2, e3⟩
        · exact Or.inl e
        · exact Or.inr ⟨gk, us, e1, e2, e3.kp (Kp.of hb)⟩)).mono fun e w' ⟨⟨v, e1, e2⟩, e3, e4⟩ => ?_
      obtain ⟨vo, vm, vc, rfl, _⟩ := e2.slice_
      exact ⟨vo, vm, vc, e1, e3, Kp.ofz (Kp.of hb) e4 hu1 hu1⟩
    have HT : Hid (∀ w', Kp cb w w' → w'.ownsMap Try.prog 9 (plainElem Try.prog 3) tb tg.length (asD tg)) := by
      intro w' hk
      obtain ⟨D, hm, _, rfl⟩ := (h.t.keep (hk.block tb htb (by omega))).ex
      exact hm
    have HG : Hid (∀ w', Kp cb w w' → w'.cell? ⟨g, o + 47, none⟩ = some (.int .i64 at_) ∧ g < w'.heap.size) := fun w' hk => ⟨(World.cell?_of_block (w := w) (a := ⟨g, o + 47, none⟩) (hk.block g hgl (by omega))).trans c47, Nat.lt_of_lt_of_le hgl hk.size⟩
    have HR : Hid ((if so' = none ∧ tg ≠ [] then (.inl (at_, 75) : Sum (Int × Int) Nat) else .inr k') = r) := hq
    have HTL : Hid (Maps.size (asD tg) = tg.length) := asSz htl
    have hC : w.cell? ⟨g, o + 45, none⟩ = some (.slice a45 n c45) := hc45
    have HZ1 : Calls Try.prog 88 #[.pointer (some ⟨w.heap.size + 1, 0, none⟩), .slice a45 n c45] (((w.alloc (.map #[] 0)).alloc (.cells #[.pointer (some ⟨cb, 0, none⟩), .map (some tb), .map (some w.heap.size)] 146)).drew) fun e w' => ∃ vo vm vc, e = .returned (.slice vo vm vc) ∧ Pz cb mb k' (w.heap.size + 1) tb (w.heap.size) m' tg so' w' ∧ Kp cb w w' := by
      have e1 : (w.alloc (.map #[] 0)).heap.size = w.heap.size + 1 := by simp
      refine HZ.out _ _ _ (bel (bel bxS bxS) belD) ?_ ?_ (Nat.le_refl _) (by omega) (by omega)
      · show ((w.alloc (.map #[] 0)).alloc _).heap[w.heap.size + 1]? = _
        rw [← e1]; exact heap_alloc_last _ _
      · have n1 : Su w.heap.size 0 none (w.alloc (.map #[] 0)) := su_new (World.ownsMap_made w _ _ _)
        exact n1.keep (by show ((w.alloc (.map #[] 0)).alloc _).heap[w.heap.size]? = _; exact bxS.block w.heap.size (by simp))
    have HZ2 : Calls Try.prog 88 #[.pointer (some ⟨w.heap.size, 0, none⟩), .slice a45 n c45] (((w.alloc (.cells #[.pointer (some ⟨cb, 0, none⟩), .map (some tb), .map (some (w.heap.size + 1))] 146)).alloc (.map #[] 0)).drew) fun e w' => ∃ vo vm vc, e = .returned (.slice vo vm vc) ∧ Pz cb mb k' (w.heap.size) tb (w.heap.size + 1) m' tg so' w' ∧ Kp cb w w' := by
      have e1 : (w.alloc (.cells #[.pointer (some ⟨cb, 0, none⟩), .map (some tb), .map (some (w.heap.size + 1))] 146)).heap.size = w.heap.size + 1 := by simp
      refine HZ.out _ _ _ (bel (bel bxS bxS) belD) ?_ ?_ (by omega) (Nat.le_refl _) (by omega)
      · show ((w.alloc (.cells #[.pointer (some ⟨cb, 0, none⟩), .map (some tb), .map (some (w.heap.size + 1))] 146)).alloc (.map #[] 0)).heap[w.heap.size]? = _
        exact (bxS.block w.heap.size (by simp)).trans (heap_alloc_last _ _)
      · have n1 : Su (w.heap.size + 1) 0 none ((w.alloc (.cells #[.pointer (some ⟨cb, 0, none⟩), .map (some tb), .map (some (w.heap.size + 1))] 146)).alloc (.map #[] 0)) := by
          have n0 := World.ownsMap_made (H := Unit) (w.alloc (.cells #[.pointer (some ⟨cb, 0, none⟩), .map (some tb), .map (some (w.heap.size + 1))] 146)) Try.prog 9 (plainElem Try.prog 3)
          rw [e1] at n0
          exact su_new n0
        exact n1.keep rfl
    obtain ⟨sa, hsa⟩ : ∃ sa, sa = Maps.size (suD so') := ⟨_, rfl⟩
    obtain ⟨sc, hsc⟩ : ∃ sc, sc = Maps.size (asD tg) := ⟨_, rfl⟩
    have HSA : Hid (sa = Maps.size (suD so')) := hsa
    have HSC : Hid (sc = Maps.size (asD tg)) := hsc
    obtain ⟨tl, htl2⟩ : ∃ tl, tl = tg.length := ⟨_, rfl⟩
    have HT2 : Hid (∀ w', Kp cb w w' → w'.ownsMap Try.prog 9 (plainElem Try.prog 3) tb tl (asD tg)) := by rw [htl2]; exact HT.out
    have hlen : sc = tg.length := hsc.trans HTL.out
    rw [suSz] at hsa
    by_cases hcc : so' = none ∧ tg ≠ []
    · have hr : r = .inl (at_, 75) := by have := HR.out; rw [if_pos hcc] at this; exact this.symm
      subst hr
      have hlt : (sa : Int) < (sc : Int) := by
        have h1 : sa = 0 := by rw [hsa, if_pos hcc.1]
        have h2 : tg.length ≠ 0 := fun e => hcc.2 (List.eq_nil_of_length_eq_zero e)
        omega
      unfold KnR
      clear h hX hq hz h45 h47 hkid hc45 hsa hsc htl2 hlen HR HZ hcc HT htl hn
      go_enter Try.func82, Try.ntmps82
      go_wp2
      go_region
      · go_wp2_with (first
        | (go_at_call 88; refine HZ1.mono ?_; rintro e w3 ⟨vo, vm, vc, rfl, hp3, hk3⟩; have f3 := hp3.at_; obtain ⟨y0, y1, y2, yl⟩ := f3; have f4 := HG.out _ hk3; obtain ⟨x47, xl⟩ := f4; have hu3 : w3.ownsMap Try.prog 9 (plainElem Try.prog 3) (w.heap.size) m' (suD so') := hp3.u; have ht3 := HT2.out _ hk3)
        | (at_len; refine wpList_len_own _ rfl _ 62 rfl 9 3 Try.underlying62 _ (w.heap.size) m' _ rfl hu3 ?_; rw [← HSA.out])
        | (at_len; refine wpList_len_own _ rfl _ 62 rfl 9 3 Try.underlying62 _ tb tl _ rfl ht3 ?_; rw [← HSC.out])
        | (go_at_call 19; refine (sGive _ _ _).mono ?_; rintro e w5 ⟨rfl, hw⟩; have hw2 := hw.symm; subst hw2))
        all_goals exact ⟨rfl, rfl, hk3⟩
      · go_wp2_with (first
        | (go_at_call 88; refine HZ2.mono ?_; rintro e w3 ⟨vo, vm, vc, rfl, hp3, hk3⟩; have f3 := hp3.at_; obtain ⟨y0, y1, y2, yl⟩ := f3; have f4 := HG.out _ hk3; obtain ⟨x47, xl⟩ := f4; have hu3 : w3.ownsMap Try.prog 9 (plainElem Try.prog 3) (w.heap.size + 1) m' (suD so') := hp3.u; have ht3 := HT2.out _ hk3)
        | (at_len; refine wpList_len_own _ rfl _ 62 rfl 9 3 Try.underlying62 _ (w.heap.size + 1) m' _ rfl hu3 ?_; rw [← HSA.out])
        | (at_len; refine wpList_len_own _ rfl _ 62 rfl 9 3 Try.underlying62 _ tb tl _ rfl ht3 ?_; rw [← HSC.out])
        | (go_at_call 19; refine (sGive _ _ _).mono ?_; rintro e w5 ⟨rfl, hw⟩; have hw2 := hw.symm; subst hw2))
        all_goals exact ⟨rfl, rfl, hk3⟩
    · have hr : r = .inr k' := by have := HR.out; rw [if_neg hcc] at this; exact this.symm
      subst hr
      have hlt : ¬ ((sa : Int) < (sc : Int)) := by
        by_cases e : so' = none
        · have h2 : tg = [] := by
            by_cases e2 : tg = []
            · exact e2
            · exact absurd ⟨e, e2⟩ hcc
          rw [h2] at hlen
          simp at hlen
          omega
        · rw [if_neg e] at hsa
          omega
      unfold KnR
      clear h hX hq hz h45 h47 hkid hc45 hsa hsc htl2 hlen HR HZ hcc HT htl hn
      go_enter Try.func82, Try.ntmps82
      go_wp2
      go_region
      · go_wp2_with (first
        | (go_at_call 88; refine HZ1.mono ?_; rintro e w3 ⟨vo, vm, vc, rfl, hp3, hk3⟩; have f3 := hp3.at_; obtain ⟨y0, y1, y2, yl⟩ := f3; have f4 := HG.out _ hk3; obtain ⟨x47, xl⟩ := f4; have hu3 : w3.ownsMap Try.prog 9 (plainElem Try.prog 3) (w.heap.size) m' (suD so') := hp3.u; have ht3 := HT2.out _ hk3)
        | (at_len; refine wpList_len_own _ rfl _ 62 rfl 9 3 Try.underlying62 _ (w.heap.size) m' _ rfl hu3 ?_; rw [← HSA.out])
        | (at_len; refine wpList_len_own _ rfl _ 62 rfl 9 3 Try.underlying62 _ tb tl _ rfl ht3 ?_; rw [← HSC.out]))
        go_end0
        exact ⟨rfl, hp3.c, hk3⟩
      · go_wp2_with (first
        | (go_at_call 88; refine HZ2.mono ?_; rintro e w3 ⟨vo, vm, vc, rfl, hp3, hk3⟩; have f3 := hp3.at_; obtain ⟨y0, y1, y2, yl⟩ := f3; have f4 := HG.out _ hk3; obtain ⟨x47, xl⟩ := f4; have hu3 : w3.ownsMap Try.prog 9 (plainElem Try.prog 3) (w.heap.size + 1) m' (suD so') := hp3.u; have ht3 := HT2.out _ hk3)
        | (at_len; refine wpList_len_own _ rfl _ 62 rfl 9 3 Try.underlying62 _ (w.heap.size + 1) m' _ rfl hu3 ?_; rw [← HSA.out])
        | (at_len; refine wpList_len_own _ rfl _ 62 rfl 9 3 Try.underlying62 _ tb tl _ rfl ht3 ?_; rw [← HSC.out]))
        go_end0
        exact ⟨rfl, hp3.c, hk3⟩
  · cases hq
end Go.Proofs.Ytpnhefjiobnelaa

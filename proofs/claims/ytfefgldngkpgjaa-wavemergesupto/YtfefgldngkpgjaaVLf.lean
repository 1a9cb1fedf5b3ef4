/- Layer 18: the changes ahead of the first that is too late. -/
import Derived.Test.YtfefgldngkpgjaaVP
import Derived.Test.YtfefgldngkpgjaaVLb
import Derived.Test.YtfefgldngkpgjaaShV
namespace Go.Proofs.Ytfefgldngkpgjaa
set_option maxRecDepth 100000
open Go.RowKit Lg Nl Go.Maps Wf Go.Sort
set_option linter.unusedVariables false
set_option linter.unusedSimpArgs false

set_option maxHeartbeats 1000000 in
theorem late_c (gn T2 T3 Tc gl ol n cap i : Nat) (t : Int) (b : Bool) (W : World) (hi : i < n) (ha : W.cell? ⟨T2, 0, none⟩ = some (.slice (some ⟨gl, ol, none⟩) n cap)) (hf : W.cell? ⟨T3, 0, none⟩ = some (.func (.func gn) #[] #[.pointer (some ⟨Tc, 0, none⟩)]))
    (hc : W.cell? ⟨gl, ol + i * 3, none⟩ = some (.int .i64 t)) (eg : ∀ args w, (callFunc gn args).run Try.prog w = .ok (.enter gn args) w) (hg : ∀ q, Calls Try.prog gn #[.int .i64 t, .pointer (some ⟨Tc, 0, none⟩)] (W.drewN q) fun e w' => e = .returned (.bool b) ∧ w' = W.drewN q) :
    Calls Try.prog 44 #[.int .i64 i, .pointer (some ⟨T3, 0, none⟩), .pointer (some ⟨T2, 0, none⟩)] W fun e w' => e = .returned (.bool b) ∧ ∃ q, w' = W.drewN q := by
  have HG : Hid (∀ q, Calls Try.prog gn #[.int .i64 t, .pointer (some ⟨Tc, 0, none⟩)] (W.drewN q) fun e w' => e = .returned (.bool b) ∧ w' = W.drewN q) := hg
  have i0 : (0 : Int) ≤ (i : Int) := by omega
  have i1 : (i : Int) < (n : Int) := by omega
  clear hg hi
  go_enter Try.func44, Try.ntmps44
  go_wp2_with fail
  go_quiet (first | (go_at_fn gn; exact Calls.quiet_of_same (HG.out _)))
  go_wp2_with fail
  go_ret
  exact ⟨rfl, _, rfl⟩
theorem grown_blk {W : World} {k : Nat} (hk : k < W.heap.size) (m : Nat) (os : Array Obj) : (grow (W.drewN m) os).heap[k]? = W.heap[k]? := by
  show (W.heap ++ os)[k]? = _
  exact Array.getElem?_append_left hk
theorem bel_grown (W : World) (m : Nat) (os : Array Obj) : Below W.heap.size W (grow (W.drewN m) os) :=
  ⟨rfl, rfl, rfl, by show W.heap.size ≤ (W.heap ++ os).size; simp, fun k hk => grown_blk hk m os⟩
theorem chat_take {w : World} {gl ol n cap cap' : Nat} {l : List Ch} (h : ChAt w (.slice (some ⟨gl, ol, none⟩) n cap) l) (m : Nat) (hm : m ≤ l.length) (hc : m ≤ cap') : ChAt w (.slice (some ⟨gl, ol, none⟩) m cap') (l.take m) := by
  obtain ⟨ao, c, e, _, h⟩ := h
  injection e with e1 e2 e3
  refine ⟨some ⟨gl, ol, none⟩, cap', by rw [List.length_take, Nat.min_eq_left hm], ⟨by rw [List.length_take]; omega, fun e => by cases e⟩, ?_⟩
  rcases h with h | ⟨g, o, e4, hg, h⟩
  · left; rw [h]; simp
  · right
    rw [e4] at e1; injection e1 with e1; injection e1 with e5 e6
    refine ⟨gl, ol, rfl, by rw [e5]; exact hg, fun i hi j u hu => ?_⟩
    rw [List.length_take] at hi
    rw [e5, e6]
    refine h i (by omega) j u ?_
    rw [List.getElem_take] at hu
    exact hu
set_option maxHeartbeats 4000000 in
theorem ahead_l (gn Tc : Nat) (lt : Int → Bool) (l : List Ch) (ao : Option Addr) (cap : Nat) (w : World) (h : ChAt w (.slice ao l.length cap) l) (hn : l.length ≤ 4398046511000) (eg : ∀ args w, (callFunc gn args).run Try.prog w = .ok (.enter gn args) w)
    (hg : ∀ W, (∀ k, k < w.heap.size → W.heap[k]? = w.heap[k]?) → ∀ t : Int, Calls Try.prog gn #[.int .i64 t, .pointer (some ⟨Tc, 0, none⟩)] W fun e w' => e = .returned (.bool (lt t)) ∧ w' = W) (hm : ∀ i j, i ≤ j → j < l.length → lt (cA l i).t = true → lt (cA l j).t = true) :
    Calls Try.prog 28 #[.slice ao l.length cap, .func (.func gn) #[] #[.pointer (some ⟨Tc, 0, none⟩)]] w fun e w' => ∃ m v', e = .returned v' ∧ m ≤ l.length ∧ Hid (m = (List.range l.length).countP (fun i => !lt (cA l i).t)) ∧ Hid (∀ W2, ChAt W2 (.slice ao l.length cap) l → ChAt W2 v' (l.take m)) ∧ Below w.heap.size w w' := by
  have HA : Hid (ChAt w (.slice ao l.length cap) l) := h
  have hcap : l.length ≤ cap ∧ (ao = none → cap = 0) := by
    obtain ⟨ao', c, e, hc, _⟩ := h
    injection e with e1 e2 e3
    rw [e1, e3]; exact hc
  obtain ⟨W0, hW0⟩ : ∃ W0, W0 = (w.alloc (.cells #[.slice ao l.length cap] 24)).alloc (.cells #[.func (.func gn) #[] #[.pointer (some ⟨Tc, 0, none⟩)]] 53) := ⟨_, rfl⟩
  have HB0 : Hid (Below w.heap.size w W0) := by rw [hW0]; exact belA (belA (Below.refl _ _) _) _
  have HX : Hid (W0.heap[w.heap.size]? = some (.cells #[.slice ao l.length cap] 24 (0, 0))) := by rw [hW0]; exact (alOld (by simp)).trans (alAt rfl)
  have HF : Hid (W0.heap[w.heap.size + 1]? = some (.cells #[.func (.func gn) #[] #[.pointer (some ⟨Tc, 0, none⟩)]] 53 (0, 0))) := by rw [hW0]; exact alAt (by simp)
  have HA0 : Hid (ChAt W0 (.slice ao l.length cap) l) := HA.out.below HB0.out
  have eg44 : ∀ args w, (callFunc 44 args).run Try.prog w = .ok (.enter 44 args) w := enters_of Try.func44 (by kernel_rfl) rfl
  have hS := Any.sort_Search Try.search 44 #[.pointer (some ⟨w.heap.size + 1, 0, none⟩), .pointer (some ⟨w.heap.size, 0, none⟩)] l.length (fun i => lt (cA l i).t) W0 eg44 (by omega)
    (fun m os i hi => by
      obtain ⟨gl, ol, rfl, hgl, c0, c1, c2⟩ := HA0.out.at_ i hi
      have lx := hLt HX.out
      have lf := hLt HF.out
      refine (late_c gn w.heap.size (w.heap.size + 1) Tc gl ol l.length cap i (cA l i).t (lt (cA l i).t) _ hi (one_cell ((grown_blk lx m os).trans HX.out)) (one_cell ((grown_blk lf m os).trans HF.out)) ?_ eg (fun q => hg _ (fun k hk => ?_) _)).mono ?_
      · rw [← c0]; exact World.cell?_of_block (grown_blk hgl m os)
      · exact (grown_blk (Nat.lt_of_lt_of_le hk HB0.out.size) m os).trans (HB0.out.block k hk)
      · rintro e w' ⟨he, q, hq⟩
        exact ⟨he, q, #[], by rw [hq, grow_empty]⟩)
    (fun a b hab hb h => hm a b hab hb h)
  generalize hr : (List.range l.length).countP (fun i => !(fun i => lt (cA l i).t) i) = m at hS
  have HM : Hid (m = (List.range l.length).countP (fun i => !lt (cA l i).t)) := hr.symm
  have hml : m ≤ l.length := by rw [← hr]; exact Nat.le_trans List.countP_le_length (by simp)
  have HS : Hid (Calls Try.prog 43 #[.int .i64 l.length, .func (.func 44) #[] #[.pointer (some ⟨w.heap.size + 1, 0, none⟩), .pointer (some ⟨w.heap.size, 0, none⟩)]] W0 fun e w' => e = .returned (.int .i64 (m : Nat)) ∧ ∃ q os, w' = grow (W0.drewN q) os) := hS
  clear hr hS hg hm h eg eg44
  go_enter Try.func28, Try.ntmps28
  go_upto_region 1 with fail
  rw [← hW0]
  clear hW0 HA
  have x0 := one_cell HX.out
  have lx := hLt HX.out
  have lf := hLt HF.out
  generalize w.heap.size + 1 = F at HF HS lf ⊢
  generalize w.heap.size = E at HX HS x0 lx ⊢
  have HC : Hid (l.length ≤ cap ∧ (ao = none → cap = 0)) := hcap
  have HML : Hid (m ≤ l.length) := hml
  have m0 : (0 : Int) ≤ (m : Int) := by omega
  have m1 : (m : Int) ≤ (cap : Int) := by have := HC.out; omega
  clear hcap hml
  cases ao with
  | none =>
    have hl : l = [] := ChAt.none HA0.out
    have e1 : cap = 0 := HC.out.2 rfl
    have e2 : m = 0 := by have := HML.out; rw [hl] at this; simpa using this
    subst hl e1 e2
    clear HC HML m0 m1
    go_wp2_with (first
      | (go_at_call 43; refine HS.out.mono ?_; rintro e w1 ⟨rfl, q, os, rfl⟩; have x0' := one_cell ((grown_blk lx q os).trans HX.out))
      )
    go_ret
    exact ⟨0, _, rfl, Nat.le_refl _, HM.out, fun _ _ => ⟨none, 0, rfl, ⟨Nat.le_refl _, fun _ => rfl⟩, Or.inl rfl⟩, bel HB0.out (bel_grown W0 q os)⟩
  | some ad =>
    by_cases hl : l = []
    · have e2 : m = 0 := by have := HML.out; rw [hl] at this; simpa using this
      subst hl e2
      clear HC HML m0
      go_wp2_with (first
        | (go_at_call 43; refine HS.out.mono ?_; rintro e w1 ⟨rfl, q, os, rfl⟩; have x0' := one_cell ((grown_blk lx q os).trans HX.out))
        )
      go_ret
      exact ⟨0, _, rfl, Nat.le_refl _, HM.out, fun _ _ => ⟨_, 0, rfl, ⟨Nat.le_refl _, fun e => by cases e⟩, Or.inl rfl⟩, bel HB0.out (bel_grown W0 q os)⟩
    · have hpos : 0 < l.length := List.length_pos_iff.2 hl
      obtain ⟨gl, ol, e4, hgl, _⟩ := HA0.out.at_ 0 hpos
      injection e4 with e4
      subst e4
      have HML2 : Hid (m ≤ cap) := Nat.le_trans HML.out HC.out.1
      clear hl hpos HC hgl
      go_wp2_with (first
        | (go_at_call 43; refine HS.out.mono ?_; rintro e w1 ⟨rfl, q, os, rfl⟩; have x0' := one_cell ((grown_blk lx q os).trans HX.out))
        )
      go_ret
      exact ⟨m, _, rfl, HML.out, rfl, fun W2 h2 => chat_take h2 m HML.out (Nat.le_refl _), bel HB0.out (bel_grown W0 q os)⟩
end Go.Proofs.Ytfefgldngkpgjaa

/- Layer 3 of the reference, over tokens without ticks: a token is kept. -/
import Derived.Test.YthdhmlojihpfkaaGreatSK
import Derived.Test.YthdhmlojihpfkaaGreatZC
namespace Go.Proofs.YthdhmlojihpfkaaGreat
open Go.RowKit Lg Go.Maps
set_option linter.unusedVariables false
set_option linter.unusedSimpArgs false

theorem RRl.set4 {b g n cap k : Nat} {vo : Value} {w : World} (h : RRl b g n cap k vo w) (y : Value) : RRl b g n cap k y (w.setCell ⟨b, 4, none⟩ y) := by
  unfold RRl; simp only [World.setCell]; rw [Array.getElem?_modify, if_pos rfl, h]; rfl
theorem rrG2 {b g n cap k : Nat} {vo : Value} {w W w2 : World} {row : Option Nat} {o1 o2 : Obj} (h : RRl b g n cap k vo w) (hW : W.heap = (w.heap.push o1).push o2) (hg : W.grownBy w2 row) (hne : row ≠ some b) : RRl b g n cap k vo w2 := by
  have hb := heap_lt h
  have hWs : W.heap.size = w.heap.size + 2 := by rw [hW]; simp
  exact (hg.block b (by omega) (fun e => hne e.symm)).trans ((by rw [hW, Array.getElem?_push, if_neg (by simp; omega), Array.getElem?_push, if_neg (by omega)] : W.heap[b]? = w.heap[b]?).trans h)
theorem puts_end {B b g n cap k m : Nat} {vo v v' : Value} {w W w2 : World} {o1 o2 : Obj} {xs : List Value} (h : RRl b g n cap k vo w) (hv : vo = v) (hg : W.grownBy w2 v.ownBlock) (hW : W.heap = (w.heap.push o1).push o2) (hos : W.os = w.os) (ht : W.tape = w.tape) (hout : W.output = w.output) (hne : v.ownBlock ≠ some b)
    (ho : w2.ownsRow B 33 3 v' m xs) :
    ∃ v'', RRl b g n cap k v'' (w2.setCell ⟨b, 4, none⟩ v') ∧ (w2.setCell ⟨b, 4, none⟩ v').ownsRow B 33 3 v'' m xs ∧ Grw b vo w (w2.setCell ⟨b, 4, none⟩ v') := by
  subst hv
  have hb := heap_lt h
  have hWs : W.heap.size = w.heap.size + 2 := by rw [hW]; simp
  have hR : RRl b g n cap k vo w2 := (hg.block b (by omega) (fun e => hne e.symm)).trans ((by rw [hW, Array.getElem?_push, if_neg (by simp; omega), Array.getElem?_push, if_neg (by omega)] : W.heap[b]? = w.heap[b]?).trans h)
  refine ⟨v', hR.set4 v', owns_set ho (own_ne ho hR (by decide)), ⟨hg.os.trans hos, hg.tape.trans ht, hg.output.trans hout, ?_, fun i hi h1 h2 => ?_⟩⟩
  · have := hg.size; simp [World.setCell]; omega
  · rw [Below.heap_setCell _ _ _ _ h1, hg.block i (by omega) h2, hW, Array.getElem?_push, if_neg (by simp; omega), Array.getElem?_push, if_neg (by omega)]
set_option maxRecDepth 100000 in
set_option maxHeartbeats 2000000 in
theorem rPuts (B b g n cap at_ : Nat) (vo : Value) (kp : List Tok) (k : Int) (x : ByteArray) (p : Int) (w : World) (h : RRl b g n cap at_ vo w) (ho : w.ownsRow B 33 3 vo kp.length (tcells kp)) (hl : kp.length < 16384) (hBw : B ≤ w.heap.size) :
    Calls Tryz.prog 33 #[.pointer (some ⟨b, 0, none⟩), .agg #[.int .i64 k, .string x, .int .i64 p]] w fun e w' => e = .returned (.tuple #[]) ∧ ∃ v', RRl b g n cap at_ v' w' ∧
      w'.ownsRow B 33 3 v' (kp.length + 1) (tcells kp ++ [.int .i64 k, .string x, .int .i64 p]) ∧ Grw b vo w w' := by
  obtain ⟨c0, c1, c2, c3, c4, c5, c6, c7, cf, cl⟩ := h.at_
  obtain ⟨ao, cap2, hv⟩ := slice_of ho
  obtain ⟨i0, hi, hz0, hz1, hz2⟩ := infoTok
  have hne : b ≠ w.heap.size := by omega
  have hlenb : (kp.length : Int) < 16384 := by omega
  have hne2 : vo.ownBlock ≠ some b := own_ne ho h (by decide)
  have HH : Hid _ := h
  have HV : Hid _ := hv
  have HN2 : Hid (Value.ownBlock (.slice ao kp.length cap2) ≠ some b) := by rw [← hv]; exact hne2
  rw [hv] at c4 ho
  clear h hv hne2
  have f4 := cf 4
  clear cf
  go_enter Tryz.func33, Tryz.ntmps33
  go_wp2
  go_region_law (refine step_append_own_at rfl _ _ 22 rfl B 33 i0 _ 3 32 Tryz.underlying22 hi hz0 hz1 hz2 rfl (by decide) _ kp.length (tcells kp) (by simp [Act.eval, Act.put]) (World.ownsRow.alloc (World.ownsRow.drew (World.ownsRow.alloc ho _)) _) ⟨w.heap.size + 1, 0, none⟩ 1 1 [.int .i64 k, .string x, .int .i64 p] (by simp [Act.eval, Act.put]) rfl (new3e _ _ (by simp) _ _ _ _) (one3 _ _ _) (by simp [maxLen]; omega) (by omega) (by simp; omega) ?_; intro v' w2 hown2 hgrow2 hloc; obtain ⟨ao2, cap3, rfl⟩ := slice_of hown2; obtain ⟨d0, d1, d2, d3, d4, d5, d6, d7, df, dl⟩ := (rrG2 HH.out rfl hgrow2 HN2.out).at_; have g4 := df 4)
  all_goals go_wp2
  all_goals go_end0
  all_goals exact ⟨rfl, puts_end HH.out HV.out hgrow2 rfl rfl rfl rfl HN2.out hown2⟩
end Go.Proofs.YthdhmlojihpfkaaGreat

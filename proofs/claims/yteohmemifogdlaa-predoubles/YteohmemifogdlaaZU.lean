/- Layer 3 of the program: all steps of a run, and what is told. -/
import Derived.Test.YteohmemifogdlaaZT
namespace Go.Proofs.Yteohmemifogdlaa
open Go.RowKit Lg Go.Maps
set_option linter.unusedVariables false
set_option linter.unusedSimpArgs false

/-- what a run tells -/
def AllOut (b0 : Nat) (w : World) (res : Pr) (e : Ending) (w' : World) : Prop :=
  match res with
  | .no p c => (∃ g, e = .returned (.tuple #[.slice none 0 0, .slice (some ⟨g, 0, none⟩) 1 1]) ∧ b0 ≤ g ∧ w'.heap[g]? = some (.cells #[.int .i64 p, .int .i64 c] 31 (0, 0))) ∧ Below b0 w w'
  | .ok l => (∃ v, e = .returned (.tuple #[v, .slice none 0 0]) ∧ w'.ownsRow b0 35 3 v l.length (tcells l)) ∧ Below b0 w w'
theorem all_start {b : Nat} {src : List Tok} {r : RB} {w : World} (hb : RBl b r w) (hm : w.ownsMap Try.prog 9 rdV r.mb 0 (.map [])) (hvo : r.vo = .slice none 0 0) (hvk : r.vk = .slice none 0 0) (hg : r.g < w.heap.size) (hgb : r.g ≠ b) (hn : r.n = src.length ∧ src.length ≤ r.cap ∧ src.length ≤ 1000000) (hs : ∀ j u, (tcells src)[j]? = some u → w.cell? ⟨r.g, j, none⟩ = some u) (hgm : r.g ≠ r.mb) (o : Obj) :
    Inv (w.heap.size + 1) b src r (.map []) 0 [] [] (w.alloc o) := by
  have hbl := heap_lt hb
  have hB : Below w.heap.size w (w.alloc o) := bxB
  refine ⟨(hB.block b hbl).trans hb, map_block hm (hB.block _ hm.lt), by rw [hvo]; exact World.ownsRow_nil _ _ _ _, by rw [hvk]; exact World.ownsRow_nil _ _ _ _, by omega, by have := hm.lt; omega, by omega, hgb, hgm, by simp, hn, fun j u hu => by rw [hB.cell (p := ⟨r.g, j, none⟩) hg]; exact hs j u hu⟩

theorem rs_cell {b m : Nat} {w wr w2 : World} {o : Obj} (hF : Frm b m (w.heap.size + 1) (w.alloc o) wr) (hF2 : Frm b m (w.heap.size + 1) wr w2) (hb : b < w.heap.size) (hm : m < w.heap.size) : w2.heap[w.heap.size]? = some o ∧ w.heap.size < w2.heap.size := by
  have e : w2.heap[w.heap.size]? = some o := (hF2.block w.heap.size (by omega) (by omega) (by omega)).trans ((hF.block w.heap.size (by omega) (by omega) (by omega)).trans (by show (w.heap.push _)[w.heap.size]? = _; simp))
  exact ⟨e, heap_lt e⟩
theorem one_cell {W : World} {rb : Nat} {v0 : Value} {t : TypeId} (h : W.heap[rb]? = some (.cells #[v0] t (0, 0))) : W.cell? ⟨rb, 0, none⟩ = some v0 := (Lib.cell_of_heap h 0).trans rfl
theorem set_far (w5 : World) {rb b : Nat} (hne : b ≠ rb) (j : Nat) (y : Value) : (w5.setCell ⟨rb, 0, none⟩ y).cell? ⟨b, j, none⟩ = w5.cell? ⟨b, j, none⟩ := World.cell?_of_block (w := w5) (a := ⟨b, j, none⟩) (Below.heap_setCell _ _ _ _ hne)
theorem set_cell {W : World} {rb : Nat} {v0 y : Value} {t : TypeId} (h : W.heap[rb]? = some (.cells #[v0] t (0, 0))) : (W.setCell ⟨rb, 0, none⟩ y).cell? ⟨rb, 0, none⟩ = some y := by
  have e : (W.setCell ⟨rb, 0, none⟩ y).heap[rb]? = some (.cells #[y] t (0, 0)) := by simp only [World.setCell]; rw [Array.getElem?_modify, if_pos rfl, h]; rfl
  rw [Lib.cell_of_heap e]; rfl
theorem own_mono {w : World} {B B' e z n : Nat} {v : Value} {xs : List Value} (h : w.ownsRow B e z v n xs) (hB : B' ≤ B) : w.ownsRow B' e z v n xs := by
  obtain ⟨h1, h2⟩ := h
  refine ⟨h1, ?_⟩
  rcases h2 with h2 | ⟨g, cap, cur, rfl, hg, hh, r⟩
  · exact Or.inl h2
  · exact Or.inr ⟨g, cap, cur, rfl, by omega, hh, r⟩
theorem rs_far {B rb m : Nat} {wr W w5 : World} {v0 v : Value} {xs : List Value} {S : Obj} (h : wr.heap[rb]? = some (.cells #[v0] 25 (0, 0))) (how : wr.ownsRow B 35 3 v m xs) (hg : W.grownBy w5 v.ownBlock) (hW : W.heap = wr.heap.push S) : w5.heap[rb]? = some (.cells #[v0] 25 (0, 0)) := by
  have hl := heap_lt h
  have hne := own_ne how h (by decide)
  exact (hg.block rb (by rw [hW]; simp; omega) (fun e => hne e.symm)).trans (by rw [hW, Array.getElem?_push, if_neg (by omega)]; exact h)
theorem rb_far {b : Nat} {r : RB} {wr W w5 : World} {S : Obj} {row : Option Nat} (h : RBl b r wr) (hg : W.grownBy w5 row) (hW : W.heap = wr.heap.push S) (hne : row ≠ some b) : RBl b r w5 := by
  have hb := heap_lt h
  exact (hg.block b (by rw [hW]; simp; omega) (fun e => hne e.symm)).trans (by rw [hW, Array.getElem?_push, if_neg (by omega)]; exact h)
theorem all_ok {b0 b mb : Nat} {w wr W w5 : World} {o So D0 : Obj} {res : Pr} {kp : List Tok} {e : Tok} {v v' : Value} (hr : Pr.ok (kp ++ [e]) = res) (hF : Frm b mb (w.heap.size + 1) (w.alloc o) wr) (hb : b0 ≤ b ∧ b0 ≤ mb) (hbl : b < w.heap.size) (how : wr.ownsRow (w.heap.size + 1) 35 3 v kp.length (tcells kp)) (hcb : w5.heap[w.heap.size]? = some (.cells #[.slice none 0 0] 25 (0, 0))) (hg : W.grownBy w5 v.ownBlock) (hW : W.heap = wr.heap.push So) (hos : W.os = wr.os) (ht : W.tape = wr.tape) (hout : W.output = wr.output)
    (ho : w5.ownsRow (w.heap.size + 1) 35 3 v' (kp.length + 1) (tcells kp ++ [.int .i64 e.k, .string (S e.x), .int .i64 e.p])) : AllOut b0 w res (.returned (.tuple #[v', .slice none 0 0])) ((w5.setCell ⟨w.heap.size, 0, none⟩ (.slice none 0 0)).alloc D0) := by
  subst hr
  have h1 := hF.size
  have h3 : (w.alloc o).heap.size = w.heap.size + 1 := by simp
  have hsz : W.heap.size = wr.heap.size + 1 := by rw [hW]; simp
  refine ⟨⟨v', rfl, ?_⟩, ?_⟩
  · rw [tcells_app, tcells_one, List.length_append]
    exact World.ownsRow.alloc (owns_set (own_mono ho (by omega)) (own_ne ho hcb (by decide))) _
  · have a1 : Below b0 w (w.alloc o) := bxB.mono (by omega)
    have a2 := a1.trans (hF.below hb.1 hb.2 (by omega))
    have a3 : Below b0 wr w5 := ⟨hg.os.trans hos, hg.tape.trans ht, hg.output.trans hout, by have := hg.size; omega, fun k hk => (hg.block k (by omega) (fun e => by have := (own_ge how k e.symm).1; omega)).trans (by rw [hW, Array.getElem?_push, if_neg (by omega)])⟩
    have h5 := a3.size
    exact ((a2.trans a3).setCell (by show b0 ≤ w.heap.size; omega) _).alloc (by simp [World.setCell]; omega) _
theorem all_no {b0 b m p : Nat} {c : Int} {w wr w2 : World} {o : Obj} {res : Pr} (hr : Pr.no p c = res) (hF : Frm b m (w.heap.size + 1) (w.alloc o) wr) (hF2 : Frm b m (w.heap.size + 1) wr w2) (hb : b0 ≤ b ∧ b0 ≤ m) (hbl : b < w.heap.size) :
    AllOut b0 w res (.returned (.tuple #[.slice none 0 0, .slice (some ⟨w2.heap.size + 1, 0, none⟩) 1 1])) (((w2.alloc (.cells #[.int .i64 p, .int .i64 c] 31)).alloc (.cells #[.int .i64 p, .int .i64 c] 31)).setCell ⟨w.heap.size, 0, none⟩ (.slice (some ⟨w2.heap.size + 1, 0, none⟩) 1 1)) := by
  subst hr
  have h1 := hF.size
  have h2 := hF2.size
  have h3 : (w.alloc o).heap.size = w.heap.size + 1 := by simp
  refine ⟨⟨w2.heap.size + 1, rfl, by omega, ?_⟩, ?_⟩
  · rw [Below.heap_setCell _ _ _ _ (by show w2.heap.size + 1 ≠ w.heap.size; omega)]
    have e : (w2.alloc (.cells #[.int .i64 p, .int .i64 c] 31)).heap.size = w2.heap.size + 1 := by simp
    rw [← e]; exact diag_heap _ _ _ _
  · have a1 : Below b0 w (w.alloc o) := bxB.mono (by omega)
    have a2 := (a1.trans (hF.below hb.1 hb.2 (by omega))).trans (hF2.below hb.1 hb.2 (by omega))
    exact ((a2.alloc (by omega) _).alloc (by simp; omega) _).setCell (by show b0 ≤ w.heap.size; omega) _
set_option maxRecDepth 100000 in
set_option maxHeartbeats 4000000 in
theorem all_c (hstep : StepC) (b b0 : Nat) (src : List Tok) (r : RB) (w : World) (hb : RBl b r w) (hm : w.ownsMap Try.prog 9 rdV r.mb 0 (.map [])) (hvo : r.vo = .slice none 0 0) (hvk : r.vk = .slice none 0 0) (hat : r.at_ = 0) (hg : r.g < w.heap.size) (hgb : r.g ≠ b) (hgm : r.g ≠ r.mb) (hn : r.n = src.length ∧ src.length ≤ r.cap ∧ src.length ≤ 1000000) (hs : ∀ j u, (tcells src)[j]? = some u → w.cell? ⟨r.g, j, none⟩ = some u) (hsz : ∀ t ∈ src, t.x.length ≤ 65536) (hb0 : b0 ≤ b ∧ b0 ≤ r.mb) :
    Calls Try.prog 12 #[.pointer (some ⟨b, 0, none⟩)] w fun e w' => AllOut b0 w (runP r.e src ps0) e w' := by
  have hmf : ∀ (fn : Fn) (first cap : Array Value) (w : World), (Instr.makeFunc fn first cap).run Try.prog w = .ok (.func fn first cap) w := fun _ _ _ _ => rfl
  have hbl := heap_lt hb
  have hne : b ≠ w.heap.size := by omega
  have HST : Hid (∀ o, Inv (w.heap.size + 1) b src r (.map []) 0 [] [] (w.alloc o)) := fun o => all_start hb hm hvo hvk hg hgb hn hs hgm o
  have HSZ : Hid _ := hsz
  have HSC : Hid _ := hstep
  have HB0 : Hid _ := hb0
  have HAT : Hid _ := hat
  obtain ⟨n, hnn⟩ : ∃ n, src.length = n := ⟨_, rfl⟩
  have HN : Hid _ := hnn
  have hn1 : n ≤ 1000000 := by rw [← hnn]; exact hn.2.2
  have hml : r.mb < w.heap.size := hm.lt
  clear hb hm hvo hvk hg hgb hgm hn hs hsz hstep hb0 hat hnn
  go_enter_defers Try.func12, Try.ntmps12
  go_wp2_with fail
  go_loopw [5] (fun _ wr => ∃ (r2 : RB) (D2 : DataW Value) (s : Ps) (nD : Nat), r2.g = r.g ∧ r2.mb = r.mb ∧ Hid (r2.e = r.e) ∧ r2.at_ ≤ n ∧ s.o.length ≤ r2.at_ ∧ s.kp.length ≤ 16384 ∧ nD ≤ r2.at_ ∧ Hid (Inv (w.heap.size + 1) b src r2 D2 nD s.o s.kp wr) ∧ Hid (NmOk r.g src D2 s.n) ∧ Hid (runP r.e (src.drop r2.at_) s = runP r.e src ps0) ∧ Hid (Frm b r.mb (w.heap.size + 1) (w.alloc (.cells #[.slice none 0 0] 25)) wr)) (fun _ wr => n - atR b wr)
  case atStart => exact ⟨r, .map [], ps0, 0, rfl, rfl, rfl, by rw [HAT.out]; exact Nat.zero_le _, by exact Nat.zero_le _, by exact Nat.zero_le _, Nat.zero_le _, HST.out _, nm0 _ _, by rw [HAT.out, List.drop_zero]; exact rfl, Frm.refl _ _ _ _⟩
  case round =>
    obtain ⟨r2, D2, s, nD, hg2, hm2, HE2, hat2, ho2, hk2, hnd2, HI, HNM, HRUN, HF⟩ := hrel
    obtain ⟨c0, c1, c2, c3, c4, c5, c6, c7, cf⟩ := HI.out.blk.at_
    have hn0 := HI.out.n.1
    rw [hn0, HN.out] at c0
    by_cases hlt : r2.at_ < n
    · have hltI : (r2.at_ : Int) < (n : Int) := by omega
      obtain ⟨t, rest, hdr⟩ : ∃ t rest, src.drop r2.at_ = t :: rest := ⟨_, _, List.drop_eq_getElem_cons (by rw [HN.out]; exact hlt)⟩
      have hrl : rest.length + r2.at_ + 1 = n := by have := congrArg List.length hdr; rw [List.length_drop, HN.out, List.length_cons] at this; omega
      have HSTEP : ∀ w', Below wr.heap.size wr w' → Calls Try.prog 18 #[.pointer (some ⟨b, 0, none⟩)] w' fun e w'' => StepOut (w.heap.size + 1) b src r2 nD w' (stpP t rest s) e w'' := fun w' hbb => HSC.out _ b src r2 D2 nD s w' (HI.out.same hbb) (by rw [hg2]; exact HNM.out) HSZ.out ho2 hk2 hnd2 t rest hdr
      cases hq : stpP t rest s with
      | no p c =>
        rw [hq] at HSTEP
        have hR := HRUN.out
        rw [hdr, runP_no hq] at hR
        have HR : Hid _ := hR
        clear hR hq hdr
        go_wp2_with fail
        go_region
        all_goals go_wp2_with (first | (go_at_call 18; refine (HSTEP _ (by first | exact Below.refl _ _ | exact (Below.refl _ _).drew)).mono ?_; rintro e w2 ⟨rfl, hf2⟩))
        all_goals
          obtain ⟨hcb, hcl⟩ := rs_cell HF.out (by rw [← hm2]; exact (Frm.of_below (Below.refl _ _).drew HI.out.Bw).trans hf2) hbl hml
          refine leaves_cons (f := 17) (args := #[.pointer (some ⟨w.heap.size, 0, none⟩)]) (by simp) (by simp [go_sem]) ?_
          refine (catch_panic w.heap.size (.slice none 0 0) p c w2 (by rw [Lib.cell_of_heap hcb]; rfl) (Lib.frozen_of_heap hcb 0) hcl).mono ?_
          rintro e u' w'' ⟨rfl, rfl, rfl⟩
          have hend := all_no (b0 := b0) HR.out HF.out (by rw [← hm2]; exact (Frm.of_below (Below.refl _ _).drew HI.out.Bw).trans hf2) HB0.out hbl
          have hset : ∀ o1 o2 y, (((w2.alloc o1).alloc o2).setCell ⟨w.heap.size, 0, none⟩ y).cell? ⟨w.heap.size, 0, none⟩ = some y := fun o1 o2 y => set_cell (((belA (bxB (w := w2) (o := o1)) o2).block _ hcl).trans hcb)
          simp [Leaves, settle, results, Try.results12, go_sem, hset]
          exact hend
      | go m s2 =>
        rw [hq] at HSTEP
        have hR := HRUN.out
        rw [hdr, runP_go hq] at hR
        have hsd : rest.drop m = src.drop (r2.at_ + 1 + m) := by rw [show rest = src.drop (r2.at_ + 1) by rw [← List.drop_drop, hdr]; rfl, List.drop_drop]
        rw [hsd] at hR
        have HR : Hid _ := hR
        obtain ⟨q1, q2, q3⟩ := stp_bounds hq hk2
        have HAT2 : Hid (atR b wr = r2.at_) := atR_eq HI.out.blk
        clear hR hq hdr hsd
        go_wp2_with fail
        go_region
        all_goals go_wp2_with (first | (go_at_call 18; refine (HSTEP _ (by first | exact Below.refl _ _ | exact (Below.refl _ _).drew)).mono ?_; rintro e w2 ⟨rfl, ⟨r3, D3, z1, z2, z3, z4, z5, z6⟩, hf2⟩))
        all_goals
          go_roundw
          case rel => exact ⟨r3, D3, s2, nD + 1, by rw [z1]; exact hg2, by rw [z2]; exact hm2, by rw [z3]; exact HE2, by omega, by omega, q3, by omega, z5, by rw [← hg2]; exact z6, by rw [z4]; exact HR, HF.out.trans (by rw [← hm2]; exact (Frm.of_below (Below.refl _ _).drew HI.out.Bw).trans hf2)⟩
          case measure =>
            have e1 := atR_eq z5.blk
            rw [e1, HAT2.out, z4]; omega
    · have hge : (n : Int) ≤ (r2.at_ : Int) := by omega
      have hate : r2.at_ = n := by omega
      have hR := HRUN.out
      rw [List.drop_of_length_le (by rw [HN.out]; omega)] at hR
      cases hso : s.o with
      | nil =>
        rw [runP_nil _ _ hso] at hR
        have HR : Hid _ := hR
        have HI2 : Hid (Inv (w.heap.size + 1) b src r2 D2 nD [] s.kp wr) := by have := HI.out; rw [hso] at this; exact this
        obtain ⟨ao, cap, hv⟩ := slice_of HI2.out.opn
        obtain ⟨ak, capk, hvk⟩ := slice_of HI2.out.kpt
        rw [hv] at c6
        rw [hvk] at c7
        obtain ⟨hcb, hcl⟩ := rs_cell HF.out (Frm.refl _ _ _ _) hbl hml
        have hkl : s.kp.length ≤ 16384 := hk2
        obtain ⟨kn, hkn⟩ : ∃ kn, s.kp.length = kn := ⟨_, rfl⟩
        rw [hkn] at c7 hkl hvk
        have HKN : Hid _ := hkn
        have HVK : Hid _ := hvk
        have HKP : Hid (wr.ownsRow (w.heap.size + 1) 35 3 (.slice ak kn capk) kn (tcells s.kp)) := by have := HI2.out.kpt; rw [hvk, hkn] at this; exact this
        have HCB : Hid _ := hcb
        have hrb : b ≠ wr.heap.size := by have := heap_lt HI2.out.blk; omega
        have hrw : w.heap.size ≠ wr.heap.size := by omega
        have hBw := HI2.out.Bw
        have hrc : wr.cell? ⟨w.heap.size, 0, none⟩ = some (.slice none 0 0) := by rw [Lib.cell_of_heap hcb]; rfl
        have hrf : wr.frozen? ⟨w.heap.size, 0, none⟩ = false := Lib.frozen_of_heap hcb 0
        have HOB : Hid _ := own_ne HKP.out HI2.out.blk (by decide)
        obtain ⟨ek, hek⟩ : ∃ ek, ek = r2.e.k := ⟨_, rfl⟩
        obtain ⟨ex, hex⟩ : ∃ ex, ex = S r2.e.x := ⟨_, rfl⟩
        obtain ⟨ep, hep⟩ : ∃ ep, ep = r2.e.p := ⟨_, rfl⟩
        rw [← hek] at c1
        rw [← hex] at c2
        rw [← hep] at c3
        have HEK : Hid _ := hek
        have HEX : Hid _ := hex
        have HEP : Hid _ := hep
        obtain ⟨i0, hi, hz0, hz1, hz2⟩ := infoTok
        clear hR hso hv hvk hkn hcb hek hex hep cf
        go_wp2_with fail
        go_region
        all_goals go_wp2_with fail
        all_goals
          go_region_held3 (fun w' => w'.cell? ⟨b, 7, none⟩ = some (.slice ak kn capk) ∧ w'.cell? ⟨b, 1, none⟩ = some (.int .i64 ek) ∧ w'.cell? ⟨b, 2, none⟩ = some (.string ex) ∧ w'.cell? ⟨b, 3, none⟩ = some (.int .i64 ep)) (go_keep) (first | (refine step_append_own rfl _ _ 22 rfl (w.heap.size + 1) 35 i0 _ 3 32 Try.underlying22 hi hz0 hz1 hz2 rfl (by decide) _ kn (tcells s.kp) (by simp [Act.eval, Act.put]) (World.ownsRow.alloc (World.ownsRow.drew (World.ownsRow.drew HKP.out)) _) ⟨wr.heap.size, 0, none⟩ 1 1 [.int .i64 ek, .string ex, .int .i64 ep] (by simp [Act.eval, Act.put]) rfl (new3e _ _ (by simp) _ _ _ _) (one3 _ _ _) (by simp [maxLen]; omega) (by omega) (by simp <;> omega) ?_; intro v' w5 hown5 hgrow5; have HOW5 : Hid _ := hown5; have HGR5 : Hid _ := hgrow5; obtain ⟨y0, y1, y2, y3, y4, y5, y6, y7, yf⟩ := (rb_far HI2.out.blk hgrow5 rfl HOB.out).at_; have hcb5 := rs_far HCB.out HKP.out hgrow5 rfl; have HCB5 : Hid _ := hcb5; have hrc5 := one_cell hcb5; have hrf5 := Lib.frozen_of_heap hcb5 0; have hs5 := set_far w5 hne; rw [HVK.out] at y7; rw [← HEK.out] at y1; rw [← HEX.out] at y2; rw [← HEP.out] at y3; clear hown5 hgrow5 hcb5 y0 y4 y5 y6 yf))
          all_goals go_wp2_with fail
          all_goals
            refine leaves_cons (f := 17) (args := #[.pointer (some ⟨w.heap.size, 0, none⟩)]) (by simp) (by simp [go_sem]) ?_
            refine (catch_idle w.heap.size _).mono ?_
            rintro e u' w'' ⟨rfl, rfl, rfl⟩
            have hend := all_ok (b0 := b0) (res := runP r.e src ps0) (kp := s.kp) (D0 := .cells #[.int .i64 0, .int .i64 0] 31) (e := r2.e) (by rw [HE2.out]; exact HR.out) HF.out HB0.out hbl (by rw [HKN.out]; exact HKP.out) HCB5.out HGR5.out rfl rfl rfl rfl (by rw [HKN.out, ← HEK.out, ← HEX.out, ← HEP.out]; exact HOW5.out)
            have hsetA : ∀ o y, ((w5.setCell ⟨w.heap.size, 0, none⟩ y).alloc o).cell? ⟨w.heap.size, 0, none⟩ = some y := fun o y => ((bxB (w := w5.setCell ⟨w.heap.size, 0, none⟩ y) (o := o)).cell (p := ⟨w.heap.size, 0, none⟩) (by have := heap_lt HCB5.out; simp [World.setCell]; exact this)).trans (set_cell HCB5.out)
            simp [Leaves, settle, results, Try.results12, go_sem, hsetA]
            exact hend
      | cons br o2 =>
        rw [runP_open _ _ br o2 hso] at hR
        have HR : Hid _ := hR
        have hop := HI.out.opn
        obtain ⟨og, cap, hv, h1, h2, h3, h4⟩ := own_some hop (by rw [hso]; simp)
        have hp0 := h4 0 _ (by rw [hso]; exact (brcs_at (i := 0) rfl).1)
        rw [hv] at c6
        obtain ⟨ln, hln⟩ : ∃ ln, s.o.length = ln + 1 := ⟨o2.length, by rw [hso]; rfl⟩
        rw [hln] at c6
        have hlb : ln + 1 ≤ 1000000 := by rw [← hln]; omega
        clear hR hso hop h4 hv
        go_wp2_with fail
        go_region
        all_goals go_wp2_with (first | (go_at_call 19; refine (giveUp_c _ _ _).mono ?_; rintro e w2 ⟨rfl, hw2⟩; have hw3 := hw2.symm; subst hw3))
        all_goals
          obtain ⟨hcb, hcl⟩ := rs_cell HF.out (Frm.of_below (Below.refl _ _).drew HI.out.Bw) hbl hml
          refine leaves_cons (f := 17) (args := #[.pointer (some ⟨w.heap.size, 0, none⟩)]) (by simp) (by simp [go_sem]) ?_
          refine (catch_panic w.heap.size (.slice none 0 0) br.p 30 wr.drew (by rw [Lib.cell_of_heap hcb]; rfl) (Lib.frozen_of_heap hcb 0) hcl).mono ?_
          rintro e u' w'' ⟨rfl, rfl, rfl⟩
          have hend := all_no (b0 := b0) HR.out HF.out (Frm.of_below (Below.refl _ _).drew HI.out.Bw) HB0.out hbl
          have hset : ∀ o1 o2 y, (((wr.drew.alloc o1).alloc o2).setCell ⟨w.heap.size, 0, none⟩ y).cell? ⟨w.heap.size, 0, none⟩ = some y := fun o1 o2 y => set_cell (((belA (bxB (w := wr.drew) (o := o1)) o2).block _ hcl).trans hcb)
          have hset2 : ∀ o1 o2 y, (((wr.alloc o1).alloc o2).setCell ⟨w.heap.size, 0, none⟩ y).cell? ⟨w.heap.size, 0, none⟩ = some y := fun o1 o2 y => hset o1 o2 y
          simp [Leaves, settle, results, Try.results12, go_sem, hset, hset2]
          exact hend
end Go.Proofs.Yteohmemifogdlaa

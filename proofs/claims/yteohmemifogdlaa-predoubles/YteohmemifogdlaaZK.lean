/- Layer 3 of the program: a use's tokens, and those of uses among them. -/
import Derived.Test.YteohmemifogdlaaZJ
namespace Go.Proofs.Yteohmemifogdlaa
open Go.RowKit Lg Go.Maps
set_option linter.unusedVariables false
set_option linter.unusedSimpArgs false

theorem ex_no {ob p : Nat} {out : List Tok} {w w' : World} {c : Int} {res : Ec} (h : res = .no c) (hb : Below ob w w') : ExOut ob p out w res (.panicked (pnc p c)) w' := by subst h; exact ⟨rfl, hb⟩
theorem ex_ok {ob p f : Nat} {out a : List Tok} {w w' : World} {res : Ec} {vl : Value} (h : res = .ok f a) (h1 : OBl ob p (4096 - f) vl w') (h2 : w'.ownsRow ob 35 3 vl (out ++ a).length (tcells (out ++ a))) (hb : Below ob w w') : ExOut ob p out w res (.returned (.tuple #[])) w' := by subst h; exact ⟨rfl, vl, h1, h2, hb⟩
theorem belO {ob : Nat} {w wr w' : World} (h : Below ob w wr) (hl : ob < wr.heap.size) (hb : Below wr.heap.size wr w') : Below ob w w' := h.trans (hb.mono (by omega))

/-- a region whose call gives up is left at once: what stands behind is nothing -/
theorem dead {G : Prop} (h : G) (w : World) (k : wpAny Try.prog Region.Mode.any #[] (fun _ _ _ => True) 0 #[] { tmps := #[], defers := [] } w) : G := h
theorem put_rel {ob p c m : Nat} {vl vl' : Value} {w wr W w2 w3 : World} {out a : List Tok} {k : Int} {x : List UInt8} {sx : ByteArray} {o o2 : Obj} (hm : (out ++ a).length = m) (hsx : sx = S x) (hB : Below ob w wr) (hl : ob < wr.heap.size) (hoth : Oth ob (wr.alloc o2) w2) (h : OBl ob p c vl w2) (ho : w2.ownsRow ob 35 3 vl m (tcells (out ++ a))) (hg : W.grownBy w3 vl.ownBlock) (hW : W.heap = w2.heap.push o) (hos : W.os = w2.os) (ht : W.tape = w2.tape) (hout : W.output = w2.output)
    (ho2 : w3.ownsRow ob 35 3 vl' (m + 1) (tcells (out ++ a) ++ [.int .i64 k, .string sx, .int .i64 p])) :
    OBl ob p c vl' (w3.setCell ⟨ob, 2, none⟩ vl') ∧ (w3.setCell ⟨ob, 2, none⟩ vl').ownsRow ob 35 3 vl' (out ++ (a ++ [(⟨k, x, p⟩ : Tok)])).length (tcells (out ++ (a ++ [⟨k, x, p⟩]))) ∧ Below ob w (w3.setCell ⟨ob, 2, none⟩ vl') := by
  subst hm hsx
  obtain ⟨a1, a2, a3⟩ := put_end h ho hg hW hos ht hout ho2
  refine ⟨a1, ?_, ?_⟩
  · rw [← List.append_assoc]; exact a2
  · exact ((belO hB hl bxB).trans hoth.below).trans a3
set_option maxRecDepth 100000 in
set_option maxHeartbeats 8000000 in
theorem expand_c (B b : Nat) (src : List Tok) (r : RB) (D : DataW Value) (nD : Nat) (o : List Br) (kp : List Tok) (N : Nm) (ob p : Nat) (w0 : World) (hI : ∀ w, Below ob w0 w → Inv B b src r D nD o kp w) (hN : NmOk r.g src D N) (hsz : ∀ t ∈ src, t.x.length ≤ 65536) (hob : b < ob ∧ r.g < ob) :
    ∀ (f0 : Nat), f0 ≤ 4096 → ∀ (fr : Nat) (list out : List Tok) (vl : Value) (w : World), fr + list.length ≤ src.length → (src.drop fr).take list.length = list → out.length + f0 ≤ 4096 → Below ob w0 w → OBl ob p (4096 - f0) vl w → w.ownsRow ob 35 3 vl out.length (tcells out) →
    Calls Try.prog 41 #[.pointer (some ⟨b, 0, none⟩), .slice (some ⟨r.g, fr * 3, none⟩) list.length list.length, .pointer (some ⟨ob, 0, none⟩)] w fun e w' => ExOut ob p out w (eC N p f0 list) e w' := by
  intro f0
  induction f0 using Nat.strongRecOn with
  | ind f0 ih =>
  intro hf0 fr list out vl w hfr hsub hout hw hobl hown
  obtain ⟨g, hg⟩ : ∃ g, r.g = g := ⟨_, rfl⟩
  have hsl := (hI w hw).n.2.2
  obtain ⟨n, hn⟩ : ∃ n, list.length = n := ⟨_, rfl⟩
  rw [hn] at hfr hsub ⊢
  rw [hg] at hob ⊢
  have HG : Hid (r.g = g) := hg
  have HN : Hid (list.length = n) := hn
  have HSUB : Hid _ := hsub
  have HI : Hid _ := hI
  have HNM : Hid _ := hN
  have HSZ : Hid _ := hsz
  have HW : Hid _ := hw
  have IH : Hid _ := ih
  obtain ⟨i0, hi, hz0, hz1, hz2⟩ := infoTok
  have hnb : n ≤ 1000000 := by omega
  have HST : Hid (∃ (i f : Nat) (a : List Tok) (vl' : Value), i = 0 ∧ f ≤ f0 ∧ a.length + f ≤ f0 ∧ Ec.app a (eC N p f (list.drop i)) = eC N p f0 list ∧ OBl ob p (4096 - f) vl' w ∧ w.ownsRow ob 35 3 vl' (out ++ a).length (tcells (out ++ a)) ∧ Below ob w w) := ⟨0, f0, [], vl, rfl, Nat.le_refl _, by simp, by rw [ec_app_nil]; rfl, hobl, by rw [List.append_nil]; exact hown, Below.refl _ _⟩
  clear hI hN hsz hw ih hobl hown hg hsub hn
  go_enter Try.func41, Try.ntmps41
  go_wp2_with fail
  go_loopw [11] (fun iv wr => ∃ (i f : Nat) (a : List Tok) (vl' : Value), i ≤ n ∧ iv = .int .i64 i ∧ f ≤ f0 ∧ a.length + f ≤ f0 ∧ Hid (Ec.app a (eC N p f (list.drop i)) = eC N p f0 list) ∧ Hid (OBl ob p (4096 - f) vl' wr) ∧ Hid (wr.ownsRow ob 35 3 vl' (out ++ a).length (tcells (out ++ a))) ∧ Hid (Below ob w wr)) (fun iv _ => n - (intOf iv).toNat)
  case atStart =>
    obtain ⟨i, f, a, vl', rfl, q1, q2, q3, q4, q5, q6⟩ := HST.out
    exact ⟨0, f, a, vl', Nat.zero_le _, rfl, q1, q2, q3, q4, q5, q6⟩
  case round =>
    obtain ⟨i, f, a, vl', hi1, rfl, hf1, hf2, HE, HOB, HO, HB⟩ := hrel
    have hobl := heap_lt HOB.out
    have hIr := HI.out wr (HW.out.trans HB.out)
    by_cases hlt : i < n
    · have hltI : (i : Int) < (n : Int) := by omega
      obtain ⟨t, ht⟩ : ∃ t, list[i]? = some t := ⟨_, List.getElem?_eq_getElem (by rw [HN.out]; exact hlt)⟩
      have hdr : list.drop i = t :: list.drop (i + 1) := by
        obtain ⟨hl2, rfl⟩ := List.getElem?_eq_some_iff.1 ht
        exact List.drop_eq_getElem_cons hl2
      have hsrc : src[fr + i]? = some t := sub_get (by rw [HN.out]; exact HSUB.out) ht
      have htx : t.x.length ≤ 65536 := HSZ.out t (List.mem_of_getElem? hsrc)
      obtain ⟨q0, q1, q2⟩ := hIr.get hsrc
      obtain ⟨sx, hsx⟩ : ∃ sx, sx = S t.x := ⟨_, rfl⟩
      have hsxl : L sx = t.x := by rw [hsx, L_S]
      rw [HG.out, show (fr + i) * 3 = fr * 3 + i * 3 by omega] at q0 q1 q2
      rw [← hsx] at q1
      have hE := HE.out
      rw [hdr] at hE
      have hgw : g < wr.heap.size := by omega
      have hgne : g ≠ wr.heap.size := by omega
      have hobne : ob ≠ wr.heap.size := by omega
      have HSX : Hid (sx = S t.x) := hsx
      clear hdr ht hsx
      by_cases hk : t.k = 4
      · rw [hk] at q0
        cases hs : stn N t.x with
        | none =>
          rw [eC_bad hk hs] at hE
          have HX : Hid (eC N p f0 list = .no 30) := by rw [← hE]; exact rfl
          have HS : ∀ w', Below wr.heap.size wr w' → Calls Try.prog 42 #[.pointer (some ⟨b, 0, none⟩), .string sx, .int .i64 p] w' fun e w'' => e = .panicked (pnc p 30) ∧ w'' = w' := fun w' hb => stands_no b src r D nD N w' (hIr.same hb).blk (hIr.same hb).map HNM.out sx (by rw [← len_L, hsxl]; unfold maxLen; omega) p (by rw [hsxl]; exact hs)
          obtain ⟨e0, e1, e2, ef⟩ := HOB.out.at_
          clear hE hk hIr hsrc hs ef
          go_wp2_with fail
          go_region_with (go_at_call 42; refine (HS _ (by first | exact bxB | exact bxB.drew)).mono ?_; rintro e w2 ⟨rfl, hw2⟩; have hw3 := hw2.symm; subst hw3; refine dead ⟨rfl, ex_no HX.out (belO HB.out hobl (by first | exact bxB | exact bxB.drew))⟩ wr ?_)
          all_goals trivial
        | some body =>
          have HS : ∀ w', Below wr.heap.size wr w' → Calls Try.prog 42 #[.pointer (some ⟨b, 0, none⟩), .string sx, .int .i64 p] w' fun e w'' => (∃ fb, e = .returned (.slice (some ⟨g, fb * 3, none⟩) body.length body.length) ∧ fb + body.length ≤ src.length ∧ (src.drop fb).take body.length = body) ∧ w'' = w' := fun w' hb => by
            rw [← HG.out]; exact stands_ok b src r D nD N w' (hIr.same hb).blk (hIr.same hb).map HNM.out sx (by rw [← len_L, hsxl]; unfold maxLen; omega) p body (by rw [hsxl]; exact hs)
          obtain ⟨e0, e1, e2, ef⟩ := HOB.out.at_
          cases f with
          | zero =>
            rw [eC_full (Or.inr (by rw [hs]; simp))] at hE
            have HX : Hid (eC N p f0 list = .no 31) := by rw [← hE]; exact rfl
            have HC : ∀ w', Below wr.heap.size wr w' → Calls Try.prog 43 #[.pointer (some ⟨ob, 0, none⟩)] w' fun e w'' => e = .panicked (pnc p 31) ∧ w'' = w' := fun w' hb => come_full ob p vl' w' (ob_keep HOB.out hb)
            clear hE hk hIr hsrc hs ef
            go_wp2_with fail
            go_region_with (go_at_call 42; refine (HS _ (by first | exact bxB | exact bxB.drew)).mono ?_; rintro e w2 ⟨⟨fb, rfl, hb1, hb2⟩, hw2⟩; have hw3 := hw2.symm; subst hw3)
            all_goals
              go_wp2_with (first | (go_at_call 43; refine (HC _ (by first | exact bxB | exact bxB.drew)).mono ?_; rintro e w2 ⟨rfl, hw2⟩; have hw3 := hw2.symm; subst hw3))
              exact ⟨rfl, ex_no HX.out (belO HB.out hobl (by first | exact bxB | exact bxB.drew))⟩
          | succ f =>
            rw [eC_use hk hs] at hE
            have HC : ∀ w', Below wr.heap.size wr w' → Calls Try.prog 43 #[.pointer (some ⟨ob, 0, none⟩)] w' fun e w'' => e = .returned (.tuple #[]) ∧ OBl ob p (4096 - f) vl' w'' ∧ Oth ob w' w'' := fun w' hb => by
              have := come_o ob p (4096 - (f + 1)) vl' w' (ob_keep HOB.out hb) (by omega)
              rw [show 4096 - (f + 1) + 1 = 4096 - f by omega] at this
              exact this
            have hol : (out ++ a).length + f ≤ 4096 := by rw [List.length_append]; omega
            have HX2 : ∀ (fb : Nat) (w2 w' : World), fb + body.length ≤ src.length → (src.drop fb).take body.length = body → Below wr.heap.size wr w2 → OBl ob p (4096 - f) vl' w' → Oth ob w2 w' → Calls Try.prog 41 #[.pointer (some ⟨b, 0, none⟩), .slice (some ⟨g, fb * 3, none⟩) body.length body.length, .pointer (some ⟨ob, 0, none⟩)] w' fun e w'' => ExOut ob p (out ++ a) w' (eC N p f body) e w'' ∧ Below ob w w' := fun fb w2 w' h1 h2 h3 h4 h5 => by
              have hbw : Below ob w w' := (belO HB.out hobl h3).trans h5.below
              rw [← HG.out]
              exact (IH.out f (by omega) (by omega) fb body (out ++ a) vl' w' h1 h2 hol (HW.out.trans hbw) h4 (own_oth (owns_keep h3 HO.out) h5 (own_ob HO.out HOB.out))).mono fun e w'' h => ⟨h, hbw⟩
            cases hr : eC N p f body with
            | no c =>
              rw [hr] at hE HX2
              have HX : Hid (eC N p f0 list = .no c) := by rw [← hE]; exact rfl
              have HXX : Hid _ := HX2
              clear hE hk hIr hsrc hs ef hr HX2
              go_wp2_with fail
              go_region_with (go_at_call 42; refine (HS _ (by first | exact bxB | exact bxB.drew)).mono ?_; rintro e w2 ⟨⟨fb, rfl, hb1, hb2⟩, hw2⟩; have hw3 := hw2.symm; subst hw3; have HB1 : Hid _ := hb1; have HB2 : Hid _ := hb2; clear hb1 hb2)
              all_goals
                go_wp2_with (first | (go_at_call 43; refine (HC _ (by first | exact bxB | exact bxB.drew)).mono ?_; rintro e w2 ⟨rfl, hob2, hoth⟩) | (go_at_call 41; refine (HXX.out fb _ _ HB1.out HB2.out (by first | exact bxB | exact bxB.drew) hob2 hoth).mono ?_; rintro e w4 ⟨⟨rfl, hb4⟩, hb5⟩))
                exact ⟨rfl, ex_no HX.out (hb5.trans hb4)⟩
            | ok f2 a2 =>
              rw [hr] at hE HX2
              have hle := eC_le hr
              simp only [Ec.bind] at hE
              rw [ec_app_app] at hE
              have HE2 : Hid _ := hE
              have HXX : Hid _ := HX2
              clear hE hk hIr hsrc hs ef hr HX2
              go_wp2_with fail
              go_region_with (go_at_call 42; refine (HS _ (by first | exact bxB | exact bxB.drew)).mono ?_; rintro e w2 ⟨⟨fb, rfl, hb1, hb2⟩, hw2⟩; have hw3 := hw2.symm; subst hw3; have HB1 : Hid _ := hb1; have HB2 : Hid _ := hb2; clear hb1 hb2)
              all_goals
                go_wp2_with (first | (go_at_call 43; refine (HC _ (by first | exact bxB | exact bxB.drew)).mono ?_; rintro e w2 ⟨rfl, hob2, hoth⟩) | (go_at_call 41; refine (HXX.out fb _ _ HB1.out HB2.out (by first | exact bxB | exact bxB.drew) hob2 hoth).mono ?_; rintro e w4 ⟨⟨rfl, vl4, hob4, how4, hb4⟩, hb5⟩))
                exact ⟨⟨i + 1, f2, a ++ a2, vl4, by omega, by go_num, by omega, by simp; omega, HE2, hob4, by rw [← List.append_assoc]; exact how4, hb5.trans hb4⟩, by simp [intOf]; omega⟩
      · have hk1 : (t.k != 4) = true := by simpa using hk
        cases f with
        | zero =>
          rw [eC_full (Or.inl hk)] at hE
          have HX : Hid (eC N p f0 list = .no 31) := by rw [← hE]; exact rfl
          have HC : ∀ w', Below wr.heap.size wr w' → Calls Try.prog 43 #[.pointer (some ⟨ob, 0, none⟩)] w' fun e w'' => e = .panicked (pnc p 31) ∧ w'' = w' := fun w' hb => come_full ob p vl' w' (ob_keep HOB.out hb)
          clear hE hk hIr hsrc
          go_wp2_with (first | (go_at_call 43; refine (HC _ bxB).mono ?_; rintro e w2 ⟨rfl, hw2⟩; have hw3 := hw2.symm; subst hw3))
          exact ⟨rfl, ex_no HX.out (belO HB.out hobl bxB)⟩
        | succ f =>
          rw [eC_tok hk, ec_app_app] at hE
          have HE2 : Hid _ := hE
          have HC : ∀ w', Below wr.heap.size wr w' → Calls Try.prog 43 #[.pointer (some ⟨ob, 0, none⟩)] w' fun e w'' => e = .returned (.tuple #[]) ∧ OBl ob p (4096 - f) vl' w'' ∧ Oth ob w' w'' := fun w' hb => by
            have := come_o ob p (4096 - (f + 1)) vl' w' (ob_keep HOB.out hb) (by omega)
            rw [show 4096 - (f + 1) + 1 = 4096 - f by omega] at this
            exact this
          have hol : (out ++ a).length ≤ 4096 := by rw [List.length_append]; omega
          obtain ⟨m, hm⟩ : ∃ m, (out ++ a).length = m := ⟨_, rfl⟩
          have HM : Hid _ := hm
          have hvl : ∃ ao cap, vl' = .slice ao m cap := by rw [← hm]; exact slice_of HO.out
          obtain ⟨ao, cap, rfl⟩ := hvl
          rw [hm] at hol
          have HOm : Hid (wr.ownsRow ob 35 3 (.slice ao m cap) m (tcells (out ++ a))) := by rw [← hm]; rw [← hm] at HO; exact HO
          clear hE hk hIr hsrc hm HO
          go_wp2_with (first | (go_at_call 43; refine (HC _ bxB).mono ?_; rintro e w2 ⟨rfl, hob2, hoth⟩; obtain ⟨d0, d1, d2⟩ := bxO hoth hobl; obtain ⟨e0, e1, e2, ef⟩ := hob2.at_; have f2 := ef 2; have HO2 : Hid _ := own_oth (World.ownsRow.alloc HOm.out _) hoth (own_ob HOm.out HOB.out); have hobl2 := heap_lt hob2))
          go_region_law (refine step_append_own rfl _ _ 22 rfl ob 35 i0 _ 3 32 Try.underlying22 hi hz0 hz1 hz2 rfl (by decide) _ m (tcells (out ++ a)) (by simp [Act.eval, Act.put]) (World.ownsRow.alloc (World.ownsRow.drew HO2.out) _) ⟨w2.heap.size, 0, none⟩ 1 1 [.int .i64 t.k, .string sx, .int .i64 p] (by simp [Act.eval, Act.put]) rfl (new3 w2.drew _ _ _ _) (one3 _ _ _) (by simp [maxLen]; omega) (by omega) (by simp; omega) ?_; intro v' w3 hown3 hgrow3; obtain ⟨ao2, cap2, rfl⟩ := slice_of hown3; have hR := obG hob2 rfl hgrow3 (own_ob HO2.out hob2); obtain ⟨x0, x1, x2, xf⟩ := hR.at_; have g2 := xf 2)
          all_goals go_wp2_with fail
          all_goals
            obtain ⟨z1, z2, z3⟩ := put_rel HM.out HSX.out HB.out hobl hoth hob2 HO2.out hgrow3 rfl rfl rfl rfl hown3
            refine ⟨⟨i + 1, f, a ++ [(⟨t.k, t.x, p⟩ : Tok)], .slice ao2 (m + 1) cap2, by omega, by go_num, by omega, by simp; omega, HE2, z1, ?_, z3⟩, by simp [intOf]; omega⟩
            exact z2
    · have hge : (n : Int) ≤ (i : Int) := by omega
      have hE := HE.out
      rw [List.drop_of_length_le (by rw [HN.out]; omega), eC_nil] at hE
      have HX : Hid (eC N p f0 list = .ok f a) := by rw [← hE]; simp [Ec.app, Hid]
      clear hE hIr
      go_wp2_with fail
      go_end0
      exact ex_ok HX.out HOB.out HO.out HB.out
end Go.Proofs.Yteohmemifogdlaa

/- Layer 3 of the program: a use. -/
import Derived.Test.YteohmemifogdlaaZL
namespace Go.Proofs.Yteohmemifogdlaa
open Go.RowKit Lg Go.Maps
set_option linter.unusedVariables false
set_option linter.unusedSimpArgs false

theorem useX {B b : Nat} {src : List Tok} {r : RB} {D : DataW Value} {nD : Nat} {o : List Br} {kp : List Tok} {w : World} (h : Inv B b src r D nD o kp w) {N : Nm} (hN : NmOk r.g src D N) (hsz : ∀ t ∈ src, t.x.length ≤ 65536) (p : Nat) (T : Obj) (body : List Tok) (fb : Nat) (h1 : fb + body.length ≤ src.length) (h2 : (src.drop fb).take body.length = body) :
    Calls Try.prog 41 #[.pointer (some ⟨b, 0, none⟩), .slice (some ⟨r.g, fb * 3, none⟩) body.length body.length, .pointer (some ⟨w.heap.size + 1, 0, none⟩)] ((w.alloc T).alloc (.cells #[.int .i64 p, .int .i64 0, .slice none 0 0] 72)) fun e w' => ExOut (w.heap.size + 1) p [] ((w.alloc T).alloc (.cells #[.int .i64 p, .int .i64 0, .slice none 0 0] 72)) (eC N p 4096 body) e w' := by
  have e : (w.alloc T).heap.size = w.heap.size + 1 := by simp
  have h0 := h.same (bxB (o := T))
  have ho := ob_new (w.alloc T) p
  rw [e] at ho
  refine expand_c B b src r D nD o kp N (w.heap.size + 1) p (w.alloc T) (fun w' hb => h0.same (by rw [e]; exact hb)) hN hsz ?_ 4096 (Nat.le_refl _) fb body [] (.slice none 0 0) _ h1 h2 (by simp) ?_ ho (World.ownsRow_nil _ _ _ _)
  · have := heap_lt h.blk; have := h.gB; have := h.Bw; omega
  · rw [← e]; exact bxB
theorem use_bel {w w' : World} {T O : Obj} (h : Below (w.heap.size + 1) ((w.alloc T).alloc O) w') : Below w.heap.size w w' := (belA (bxB (o := T)) O).trans (h.mono (by omega))

set_option maxRecDepth 100000 in
set_option maxHeartbeats 4000000 in
theorem use_ex (B b : Nat) (src : List Tok) (r : RB) (D : DataW Value) (nD : Nat) (o : List Br) (kp : List Tok) (w : World) (h : Inv B b src r D nD o kp w) (N : Nm) (hN : NmOk r.g src D N) (hsz : ∀ t ∈ src, t.x.length ≤ 65536) (t : Tok) (sx : ByteArray) (hsx : sx = S t.x) (htx : t.x.length ≤ 65536) (body : List Tok) (hs : stn N t.x = some body) (c : Int) (hr : eC N t.p 4096 body = .no c) :
    Calls Try.prog 39 #[.pointer (some ⟨b, 0, none⟩), .agg #[.int .i64 t.k, .string sx, .int .i64 t.p]] w fun e w' => e = .panicked (pnc t.p c) ∧ Frm b r.mb B w w' := by
  have hsxl : L sx = t.x := by rw [hsx, L_S]
  have HS : ∀ w', Below w.heap.size w w' → Calls Try.prog 42 #[.pointer (some ⟨b, 0, none⟩), .string sx, .int .i64 t.p] w' fun e w'' => (∃ fb, e = .returned (.slice (some ⟨r.g, fb * 3, none⟩) body.length body.length) ∧ fb + body.length ≤ src.length ∧ (src.drop fb).take body.length = body) ∧ w'' = w' := fun w' hb => stands_ok b src r D nD N w' (h.same hb).blk (h.same hb).map hN sx (by rw [← len_L, hsxl]; unfold maxLen; omega) t.p body (by rw [hsxl]; exact hs)
  have HX := fun T fb h1 h2 => useX h hN hsz t.p T body fb h1 h2
  rw [hr] at HX
  have HF : ∀ w', Below w.heap.size w w' → Frm b r.mb B w w' := fun w' hb => Frm.of_below hb h.Bw
  have HXX : Hid _ := HX
  clear h hN hsxl hsx hs hsz hr HX
  go_enter Try.func39, Try.ntmps39
  go_wp2_with (first | (go_at_call 42; refine (HS _ (belA bxB _)).mono ?_; rintro e w2 ⟨⟨fb, rfl, hb1, hb2⟩, hw2⟩; have hw3 := hw2.symm; subst hw3; have HB1 : Hid _ := hb1; have HB2 : Hid _ := hb2; clear hb1 hb2) | (go_at_call 41; refine (HXX.out _ fb HB1.out HB2.out).mono ?_; rintro e w4 ⟨rfl, hb4⟩))
  exact ⟨rfl, rfl, HF _ (use_bel hb4)⟩
theorem take_succ_app {a kp : List Tok} {i : Nat} {t : Tok} (h : a[i]? = some t) : kp ++ a.take i ++ [t] = kp ++ a.take (i + 1) := by
  rw [List.append_assoc, List.take_add_one, h]; rfl

set_option maxRecDepth 100000 in
set_option maxHeartbeats 4000000 in
theorem use_ok (B b : Nat) (src : List Tok) (r : RB) (D : DataW Value) (nD : Nat) (o : List Br) (kp : List Tok) (w : World) (h : Inv B b src r D nD o kp w) (hk : kp.length ≤ 16384) (N : Nm) (hN : NmOk r.g src D N) (hsz : ∀ t ∈ src, t.x.length ≤ 65536) (t : Tok) (sx : ByteArray) (hsx : sx = S t.x) (htx : t.x.length ≤ 65536) (body : List Tok) (hs : stn N t.x = some body) (f : Nat) (a : List Tok) (hr : eC N t.p 4096 body = .ok f a) :
    Calls Try.prog 39 #[.pointer (some ⟨b, 0, none⟩), .agg #[.int .i64 t.k, .string sx, .int .i64 t.p]] w fun e w' => UOut B b src r D nD o w (keepP a t.p ⟨N, o, kp⟩) e w' := by
  have hsxl : L sx = t.x := by rw [hsx, L_S]
  have HS : ∀ w', Below w.heap.size w w' → Calls Try.prog 42 #[.pointer (some ⟨b, 0, none⟩), .string sx, .int .i64 t.p] w' fun e w'' => (∃ fb, e = .returned (.slice (some ⟨r.g, fb * 3, none⟩) body.length body.length) ∧ fb + body.length ≤ src.length ∧ (src.drop fb).take body.length = body) ∧ w'' = w' := fun w' hb => stands_ok b src r D nD N w' (h.same hb).blk (h.same hb).map hN sx (by rw [← len_L, hsxl]; unfold maxLen; omega) t.p body (by rw [hsxl]; exact hs)
  have HX := fun T fb h1 h2 => useX h hN hsz t.p T body fb h1 h2
  have hap := eC_p _ _ _ _ hr
  have hal := eC_le hr
  rw [hr] at HX
  have HI : Hid _ := h
  have HAP : Hid _ := hap
  have hbw := heap_lt h.blk
  have HXX : Hid _ := HX
  clear h hN hsxl hsx hs hsz hr HX hap
  have hkb : ((kp.length : Nat) : Int) ≤ 16384 := by omega
  go_enter Try.func39, Try.ntmps39
  rcases Nat.eq_zero_or_pos a.length with hz | hpos
  · have ha : a = [] := List.eq_nil_of_length_eq_zero hz
    subst ha
    have HK : Hid (keepP [] t.p ⟨N, o, kp⟩ = .go 0 ⟨N, o, kp⟩) := by unfold keepP; rw [if_neg (by simp; omega)]; simp [Hid]
    clear hz
    go_wp2_with (first | (go_at_call 42; refine (HS _ (belA bxB _)).mono ?_; rintro e w2 ⟨⟨fb, rfl, hb1, hb2⟩, hw2⟩; have hw3 := hw2.symm; subst hw3; have HB1 : Hid _ := hb1; have HB2 : Hid _ := hb2; clear hb1 hb2) | (go_at_call 41; refine (HXX.out _ fb HB1.out HB2.out).mono ?_; rintro e w4 ⟨rfl, vl, hob, how, hb4⟩; obtain ⟨ao, cap, rfl⟩ := slice_of how; obtain ⟨e0, e1, e2, ef⟩ := hob.at_))
    go_loopw [21] (fun iv wr => iv = .int .i64 0 ∧ wr = w4) (fun _ _ => 0)
    case atStart => exact ⟨rfl, rfl⟩
    case round =>
      obtain ⟨rfl, rfl⟩ := hrel
      go_wp2_with fail
      go_end0
      exact u_go (v' := r.vk) HK.out (HI.out.same (use_bel hb4)) (Frm.of_below (use_bel hb4) HI.out.Bw)
  · obtain ⟨n, hn⟩ : ∃ n, a.length = n := ⟨_, rfl⟩
    have HN : Hid _ := hn
    rw [hn] at hpos hal
    clear hn
    go_wp2_with (first | (go_at_call 42; refine (HS _ (belA bxB _)).mono ?_; rintro e w2 ⟨⟨fb, rfl, hb1, hb2⟩, hw2⟩; have hw3 := hw2.symm; subst hw3; have HB1 : Hid _ := hb1; have HB2 : Hid _ := hb2; clear hb1 hb2) | (go_at_call 41; refine (HXX.out _ fb HB1.out HB2.out).mono ?_; rintro e w4 ⟨rfl, vl, hob, how, hb4⟩; rw [List.nil_append, HN.out] at how; obtain ⟨lg, cap, rfl, l1, l2, l3, l4, l5⟩ := own_some2 how hpos; obtain ⟨e0, e1, e2, ef⟩ := hob.at_; have L4 : Hid _ := l4; clear l4 l5 how))
    go_loopw [21] (fun iv wr => ∃ (i : Nat) (v' : Value), i ≤ n ∧ iv = .int .i64 i ∧ kp.length + i ≤ 16384 ∧ Hid (Inv B b src { r with vk := v' } D nD o (kp ++ a.take i) wr) ∧ Hid (Frm b r.mb B w wr) ∧ Hid (∀ j u, (tcells a)[j]? = some u → wr.cell? ⟨lg, j, none⟩ = some u) ∧ Hid (v'.ownBlock ≠ some lg) ∧ lg < wr.heap.size) (fun iv _ => n - (intOf iv).toNat)
    case atStart => exact ⟨0, r.vk, Nat.zero_le _, rfl, hk, by rw [List.take_zero, List.append_nil]; exact HI.out.same (use_bel hb4), Frm.of_below (use_bel hb4) HI.out.Bw, L4, fun e => by have := (own_ge HI.out.kpt lg e).2; omega, l2⟩
    case round =>
      obtain ⟨i, v', hi1, rfl, hki, HIr, HFr, HLr, HVr, hlw⟩ := hrel
      by_cases hlt : i < n
      · have hltI : (i : Int) < (n : Int) := by omega
        obtain ⟨u, hu⟩ : ∃ u, a[i]? = some u := ⟨_, List.getElem?_eq_getElem (by rw [HN.out]; exact hlt)⟩
        obtain ⟨q0, q1, q2⟩ := tcell_at hu
        replace q0 := HLr.out _ _ q0
        replace q1 := HLr.out _ _ q1
        replace q2 := HLr.out _ _ q2
        have hup := HAP.out u (List.mem_of_getElem? hu)
        obtain ⟨su, hsu⟩ : ∃ su, su = S u.x := ⟨_, rfl⟩
        rw [← hsu] at q1
        have hlb : lg ≠ b := by omega
        by_cases hfull : kp.length + i = 16384
        · have HK : Hid (keepP a t.p ⟨N, o, kp⟩ = .no t.p 2) := by unfold keepP; rw [if_pos (by show 16384 < kp.length + a.length; rw [HN.out]; omega)]; exact rfl
          have hkl : (kp ++ a.take i).length = 16384 := by rw [List.length_append, List.length_take, HN.out]; omega
          have HC : ∀ w', Below wr.heap.size wr w' → Calls Try.prog 29 #[.pointer (some ⟨b, 0, none⟩), .agg #[.int .i64 u.k, .string su, .int .i64 u.p]] w' fun e w'' => e = .panicked (pnc t.p 2) ∧ Below w'.heap.size w' w'' := fun w' hb => by rw [← hup]; exact keepI_full (HIr.out.same hb) hkl u su
          clear hu hup hsu hfull hkl
          go_wp2_with (first | (go_at_call 29; refine (HC _ bxB).mono ?_; rintro e w5 ⟨rfl, hb5⟩))
          exact ⟨rfl, u_no HK.out (HFr.out.trans (Frm.of_below (bel bxB hb5) HIr.out.Bw))⟩
        · have hkl : (kp ++ a.take i).length < 16384 := by rw [List.length_append, List.length_take]; omega
          have HC : ∀ w', Below wr.heap.size wr w' → Calls Try.prog 29 #[.pointer (some ⟨b, 0, none⟩), .agg #[.int .i64 u.k, .string su, .int .i64 u.p]] w' fun e w'' => e = .returned (.tuple #[]) ∧ ∃ v'', (Inv B b src { r with vk := v'' } D nD o (kp ++ a.take (i + 1)) w'' ∧ Frm b r.mb B w' w'') ∧ (v''.ownBlock = v'.ownBlock ∨ ∃ g, v''.ownBlock = some g ∧ w'.heap.size ≤ g) ∧ Grw b v' w' w'' := fun w' hb => by rw [← take_succ_app hu]; exact keepI (HIr.out.same hb) hkl u su hsu
          clear hu hup hsu hkl
          go_wp2_with (first | (go_at_call 29; refine (HC _ bxB).mono ?_; rintro e w5 ⟨rfl, v5, ⟨hI5, hF5⟩, hv5, hg5⟩))
          go_roundw
          case rel => exact ⟨i + 1, v5, by omega, by go_num, by omega, hI5, (HFr.out.trans (Frm.of_below bxB HIr.out.Bw)).trans hF5, (fun j u hu => by rw [World.cell?_of_block (w := wr) (a := ⟨lg, j, none⟩) ((hg5.block lg (by simp; omega) hlb (fun e => HVr.out e.symm)).trans (Below.heap_alloc _ _ _ hlw))]; exact HLr.out j u hu), (fun e => hv5.elim (fun e2 => HVr.out (by rw [← e2]; exact e)) (fun ⟨g, e2, e3⟩ => by rw [e] at e2; injection e2 with e2; simp at e3; omega)), by have := hg5.size; simp at this; omega⟩
          case measure => simp [intOf]; omega
      · have hge : (n : Int) ≤ (i : Int) := by omega
        have HK : Hid (keepP a t.p ⟨N, o, kp⟩ = .go 0 ⟨N, o, kp ++ a⟩) := by unfold keepP; rw [if_neg (by show ¬ 16384 < kp.length + a.length; rw [HN.out]; omega)]; exact rfl
        have hI2 := HIr.out
        rw [List.take_of_length_le (by rw [HN.out]; omega)] at hI2
        have HI2 : Hid _ := hI2
        clear hI2
        go_wp2_with fail
        go_end0
        exact u_go HK.out HI2.out HFr.out
end Go.Proofs.Yteohmemifogdlaa

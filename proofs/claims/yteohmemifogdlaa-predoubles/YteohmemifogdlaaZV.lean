/- Layer 3 of the program: what a step calls, in one form. -/
import Derived.Test.YteohmemifogdlaaZU
namespace Go.Proofs.Yteohmemifogdlaa
open Go.RowKit Lg Go.Maps
set_option linter.unusedVariables false
set_option linter.unusedSimpArgs false

def SOut (B b : Nat) (src : List Tok) (r : RB) (nD : Nat) (w : World) (res : Po) (e : Ending) (w' : World) : Prop :=
  match res with
  | .no p c => e = .panicked (pnc p c) ∧ Frm b r.mb B w w'
  | .go m s => e = .returned (.tuple #[]) ∧ (∃ r2 D2, r2.g = r.g ∧ r2.mb = r.mb ∧ r2.e = r.e ∧ r2.at_ = r.at_ + m ∧ Inv B b src r2 D2 (nD + 1) s.o s.kp w' ∧ NmOk r.g src D2 s.n) ∧ Frm b r.mb B w w'
theorem Inv.more {B b : Nat} {src : List Tok} {r : RB} {D : DataW Value} {nD : Nat} {o : List Br} {kp : List Tok} {w : World} (h : Inv B b src r D nD o kp w) : Inv B b src r D (nD + 1) o kp w :=
  ⟨h.blk, h.map.mono (by omega), h.opn, h.kpt, h.bB, h.mB, h.gB, h.gb, h.gm, h.Bw, h.n, h.src⟩
/-- ifdef and ifndef open a part -/
def SplitIfC : Prop := ∀ (B b : Nat) (src : List Tok) (r : RB) (D : DataW Value) (nD : Nat) (o : List Br) (kp : List Tok) (w : World), Inv B b src r D nD o kp w → o.length ≤ 1000000 → ∀ (N : Nm), NmOk r.g src D N → ∀ (k : Int) (x : ByteArray) (p : Nat), (x.toList == [101, 108, 115, 101]) = false → (x.toList == [101, 110, 100, 105, 102]) = false → r.at_ ≤ src.length → ∀ (y : List UInt8), y.length ≤ 65536 → nameAt (src.drop r.at_) = some y → ∀ (isd : Bool), (x.toList == [105, 102, 100, 101, 102]) = isd →
    Calls Try.prog 26 #[.pointer (some ⟨b, 0, none⟩), .agg #[.int .i64 k, .string x, .int .i64 p]] w fun e w' => e = .returned (.tuple #[]) ∧ (∃ v, Inv B b src { r with at_ := r.at_ + 1, vo := v } D nD (o ++ [⟨p, kpB o, kpB o && ((N y).isSome == isd), false⟩]) kp w') ∧ Frm b r.mb B w w'
theorem bq {sx : ByteArray} {x y : List UInt8} (h : sx = S x) : (sx.toList == y) = (x == y) := by rw [h, toL, L_S]
theorem name_len {src : List Tok} {a : Nat} {y : List UInt8} (hsz : ∀ t ∈ src, t.x.length ≤ 65536) (h : nameAt (src.drop a) = some y) : y.length ≤ 65536 ∧ a < src.length := by
  rcases Nat.lt_or_ge a src.length with hl | hl
  · rw [List.drop_eq_getElem_cons hl] at h
    unfold nameAt at h
    simp only at h
    split at h
    · injection h with h; subst h; exact ⟨hsz _ (List.getElem_mem hl), hl⟩
    · cases h
  · rw [List.drop_of_length_le hl] at h; cases h

theorem split_all (hif : SplitIfC) (B b : Nat) (src : List Tok) (r : RB) (D : DataW Value) (nD : Nat) (s : Ps) (w : World) (h : Inv B b src r D nD s.o s.kp w) (hN : NmOk r.g src D s.n) (hsz : ∀ t ∈ src, t.x.length ≤ 65536) (hol : s.o.length ≤ 1000000) (hat : r.at_ ≤ src.length) (t : Tok) (sx : ByteArray) (hsx : sx = S t.x) :
    Calls Try.prog 26 #[.pointer (some ⟨b, 0, none⟩), .agg #[.int .i64 t.k, .string sx, .int .i64 t.p]] w fun e w' => SOut B b src r nD w (splP t (src.drop r.at_) s) e w' := by
  unfold splP
  by_cases h1 : t.x = elsW
  · rw [if_pos h1]
    have hx : (sx.toList == [101, 108, 115, 101]) = true := by rw [bq hsx, h1]; rfl
    cases hg : s.o.getLast? with
    | none => exact (split_else_no B b src r D nD s.o s.kp w h t.k sx t.p hx (Or.inl hg) hol).mono fun e w' q => ⟨q.1, Frm.of_below q.2 h.Bw⟩
    | some br =>
      simp only
      cases ht : br.t with
      | true => exact (split_else_no B b src r D nD s.o s.kp w h t.k sx t.p hx (Or.inr ⟨br, hg, ht⟩) hol).mono fun e w' q => ⟨q.1, Frm.of_below q.2 h.Bw⟩
      | false => exact (split_else B b src r D nD s.o s.kp w h t.k sx t.p hx br hg ht hol).mono fun e w' q => ⟨q.1, ⟨r, D, rfl, rfl, rfl, rfl, q.2.1.more, hN⟩, q.2.2⟩
  · rw [if_neg h1]
    have hx0 : (sx.toList == [101, 108, 115, 101]) = false := by rw [bq hsx]; simpa [elsW] using h1
    by_cases h2 : t.x = endW
    · rw [if_pos h2]
      have hx : (sx.toList == [101, 110, 100, 105, 102]) = true := by rw [bq hsx, h2]; rfl
      by_cases ho : s.o = []
      · rw [if_pos ho]
        exact (split_endif_no B b src r D nD s.o s.kp w h t.k sx t.p hx0 hx ho).mono fun e w' q => ⟨q.1, Frm.of_below q.2 h.Bw⟩
      · rw [if_neg ho]
        exact (split_endif B b src r D nD s.o s.kp w h t.k sx t.p hx0 hx ho hol).mono fun e w' ⟨q1, v, q2, q3⟩ => ⟨q1, ⟨{ r with vo := v }, D, rfl, rfl, rfl, rfl, q2.more, hN⟩, q3⟩
    · rw [if_neg h2]
      have hx2 : (sx.toList == [101, 110, 100, 105, 102]) = false := by rw [bq hsx]; simpa [endW] using h2
      cases hn : nameAt (src.drop r.at_) with
      | none => exact (split_if_no B b src r D nD s.o s.kp w h t.k sx t.p hx0 hx2 hat hn).mono fun e w' q => ⟨q.1, Frm.of_below q.2 h.Bw⟩
      | some y =>
        have hy := (name_len hsz hn).1
        refine (hif B b src r D nD s.o s.kp w h hol s.n hN t.k sx t.p hx0 hx2 hat y hy hn (t.x == ifdW) (by rw [bq hsx]; rfl)).mono ?_
        rintro e w' ⟨q1, ⟨v, q2⟩, q3⟩
        exact ⟨q1, ⟨{ r with at_ := r.at_ + 1, vo := v }, D, rfl, rfl, rfl, rfl, q2.more, hN⟩, q3⟩
theorem use_all (B b : Nat) (src : List Tok) (r : RB) (D : DataW Value) (nD : Nat) (s : Ps) (w : World) (h : Inv B b src r D nD s.o s.kp w) (hN : NmOk r.g src D s.n) (hsz : ∀ t ∈ src, t.x.length ≤ 65536) (hk : s.kp.length ≤ 16384) (t : Tok) (htx : t.x.length ≤ 65536) (sx : ByteArray) (hsx : sx = S t.x) :
    Calls Try.prog 39 #[.pointer (some ⟨b, 0, none⟩), .agg #[.int .i64 t.k, .string sx, .int .i64 t.p]] w fun e w' => SOut B b src r nD w (useP t s) e w' := by
  unfold useP
  cases hs : stn s.n t.x with
  | none => exact use_no B b src r D nD s.o s.kp w h s.n hN t sx hsx htx hs
  | some body =>
    simp only
    rw [exW_all]
    cases hr : eC s.n t.p 4096 body with
    | no c => exact use_ex B b src r D nD s.o s.kp w h s.n hN hsz t sx hsx htx body hs c hr
    | ok f a =>
      refine (use_ok B b src r D nD s.o s.kp w h hk s.n hN hsz t sx hsx htx body hs f a hr).mono ?_
      intro e w' q
      simp only
      unfold keepP at q ⊢
      split
      · rename_i hl
        rw [if_pos hl] at q
        exact q
      · rename_i hl
        rw [if_neg hl] at q
        obtain ⟨q1, v, q2, q3⟩ := q
        exact ⟨q1, ⟨{ r with vk := v }, D, rfl, rfl, rfl, rfl, q2.more, hN⟩, q3⟩
set_option maxRecDepth 100000 in
set_option maxHeartbeats 2000000 in
theorem tick_use (B b : Nat) (src : List Tok) (r : RB) (D : DataW Value) (nD : Nat) (s : Ps) (w : World) (h : Inv B b src r D nD s.o s.kp w) (hN : NmOk r.g src D s.n) (hsz : ∀ t ∈ src, t.x.length ≤ 65536) (hk : s.kp.length ≤ 16384) (t : Tok) (htx : t.x.length ≤ 65536) (sx : ByteArray) (hsx : sx = S t.x) (hx0 : (sx.toList == [100, 101, 102, 105, 110, 101]) = false) (hx : (sx.toList == [117, 110, 100, 101, 102]) = false) :
    Calls Try.prog 28 #[.pointer (some ⟨b, 0, none⟩), .agg #[.int .i64 t.k, .string sx, .int .i64 t.p]] w fun e w' => SOut B b src r nD w (useP t s) e w' := by
  have HU : ∀ w', Below w.heap.size w w' → Calls Try.prog 39 #[.pointer (some ⟨b, 0, none⟩), .agg #[.int .i64 t.k, .string sx, .int .i64 t.p]] w' fun e w'' => SOut B b src r nD w (useP t s) e w'' := fun w' hb => (use_all B b src r D nD s w' (h.same hb) hN hsz hk t htx sx hsx).mono fun e w'' q => by
    cases hq : useP t s with
    | no p c => rw [hq] at q; exact ⟨q.1, (Frm.of_below hb h.Bw).trans q.2⟩
    | go m s2 => rw [hq] at q; exact ⟨q.1, q.2.1, (Frm.of_below hb h.Bw).trans q.2.2⟩
  clear h hN hsz hsx
  cases hq : useP t s with
  | no p c =>
    rw [hq] at HU
    go_enter Try.func28, Try.ntmps28
    go_wp2_with (first | (go_at_call 39; refine (HU _ bxB).mono ?_; rintro e w2 ⟨rfl, hw2⟩))
    exact ⟨rfl, rfl, hw2⟩
  | go m s2 =>
    rw [hq] at HU
    go_enter Try.func28, Try.ntmps28
    go_wp2_with (first | (go_at_call 39; refine (HU _ bxB).mono ?_; rintro e w2 ⟨rfl, hw2, hw3⟩; have HW2 : Hid _ := hw2; clear hw2))
    go_end0
    exact ⟨rfl, HW2.out, hw3⟩
theorem tick_all (B b : Nat) (src : List Tok) (r : RB) (D : DataW Value) (nD : Nat) (hnD : nD ≤ 1000000) (s : Ps) (w : World) (h : Inv B b src r D nD s.o s.kp w) (hN : NmOk r.g src D s.n) (hsz : ∀ t ∈ src, t.x.length ≤ 65536) (hk : s.kp.length ≤ 16384) (hat : r.at_ ≤ src.length) (t : Tok) (htx : t.x.length ≤ 65536) (sx : ByteArray) (hsx : sx = S t.x) :
    Calls Try.prog 28 #[.pointer (some ⟨b, 0, none⟩), .agg #[.int .i64 t.k, .string sx, .int .i64 t.p]] w fun e w' => SOut B b src r nD w (tckP t (src.drop r.at_) s) e w' := by
  unfold tckP
  by_cases h1 : t.x = defW
  · rw [if_pos h1]
    have hx : (sx.toList == [100, 101, 102, 105, 110, 101]) = true := by rw [bq hsx, h1]; rfl
    cases hn : nameAt (src.drop r.at_) with
    | none => exact (tick_no B b src r D nD s.o s.kp w h t.k sx t.p (Or.inl hx) hat hn).mono fun e w' q => ⟨q.1, Frm.of_below q.2 h.Bw⟩
    | some y =>
      obtain ⟨hy, hal⟩ := name_len hsz hn
      have htl : (src.drop r.at_).tail = src.drop (r.at_ + 1) := by rw [← List.drop_one, List.drop_drop]
      simp only
      rw [htl]
      refine (tick_define B b src r D nD hnD s.o s.kp w h s.n hN t.k sx t.p hx hal y hy hn _ rfl).mono ?_
      rintro e w' ⟨q1, ⟨D', q2, q3⟩, q4⟩
      exact ⟨q1, ⟨{ r with at_ := r.at_ + 1 + ((src.drop (r.at_ + 1)).takeWhile notL).length }, D', rfl, rfl, rfl, Nat.add_assoc r.at_ 1 _, q2, q3⟩, q4⟩
  · rw [if_neg h1]
    have hx0 : (sx.toList == [100, 101, 102, 105, 110, 101]) = false := by rw [bq hsx]; simpa [defW] using h1
    by_cases h2 : t.x = undW
    · rw [if_pos h2]
      have hx : (sx.toList == [117, 110, 100, 101, 102]) = true := by rw [bq hsx, h2]; rfl
      cases hn : nameAt (src.drop r.at_) with
      | none => exact (tick_no B b src r D nD s.o s.kp w h t.k sx t.p (Or.inr ⟨hx0, hx⟩) hat hn).mono fun e w' q => ⟨q.1, Frm.of_below q.2 h.Bw⟩
      | some y =>
        refine (tick_undef B b src r D nD s.o s.kp w h s.n hN t.k sx t.p hx0 hx hat y (name_len hsz hn).1 hn).mono ?_
        rintro e w' ⟨q1, ⟨D', q2, q3⟩, q4⟩
        exact ⟨q1, ⟨{ r with at_ := r.at_ + 1 }, D', rfl, rfl, rfl, rfl, q2.more, q3⟩, q4⟩
    · rw [if_neg h2]
      exact tick_use B b src r D nD s w h hN hsz hk t htx sx hsx hx0 (by rw [bq hsx]; simpa [undW] using h2)
theorem keep_all (B b : Nat) (src : List Tok) (r : RB) (D : DataW Value) (nD : Nat) (s : Ps) (w : World) (h : Inv B b src r D nD s.o s.kp w) (hN : NmOk r.g src D s.n) (hk : s.kp.length ≤ 16384) (t : Tok) (sx : ByteArray) (hsx : sx = S t.x) :
    Calls Try.prog 29 #[.pointer (some ⟨b, 0, none⟩), .agg #[.int .i64 t.k, .string sx, .int .i64 t.p]] w fun e w' => SOut B b src r nD w (keepP [t] t.p s) e w' := by
  unfold keepP
  by_cases hl : 16384 < s.kp.length + [t].length
  · rw [if_pos hl]
    have hl2 : s.kp.length = 16384 := by simp at hl; omega
    exact (keepI_full h hl2 t sx).mono fun e w' q => ⟨q.1, Frm.of_below q.2 h.Bw⟩
  · rw [if_neg hl]
    have hl2 : s.kp.length < 16384 := by simp at hl; omega
    refine (keepI h hl2 t sx hsx).mono ?_
    rintro e w' ⟨q1, v, ⟨q2, q3⟩, _, _⟩
    exact ⟨q1, ⟨{ r with vk := v }, D, rfl, rfl, rfl, rfl, q2.more, hN⟩, q3⟩
end Go.Proofs.Yteohmemifogdlaa

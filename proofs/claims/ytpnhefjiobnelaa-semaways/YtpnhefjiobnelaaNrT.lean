/- The reference's reader: several items. -/
import Derived.Test.YtpnhefjiobnelaaNrS
namespace Go.Proofs.Ytpnhefjiobnelaa
open Go.RowKit Lg Rp
set_option linter.unusedVariables false
set_option linter.unusedSimpArgs false

theorem itD_len {kd : Int} {nm : List UInt8} {nn : Nat} {nms vl wh nx : List Dc} {vr : List UInt8} {nb : Nat} {bd : List Dc} {ni : Nat} {its : List Dc} {p : Nat} (h1 : vl.length = 6) (h2 : wh.length = 6) (h3 : nx.length = 6) : (itD kd nm nn nms vl wh nx vr nb bd ni its p).length = 48 := by
  simp [itD, zX, xD, h1, h2, h3]
theorem zX_len : zX.length = 6 := rfl
def wire1 (l : List Tok) (k : Nat) : List Dc := itD 1 [] 1 [.t (tk l (k + 1)).x] zX zX zX [] 0 [] 0 [] (tk l k).p
/-- the ways that an item is read -/
theorem sI_one {l : List Tok} {fe f d k n k' : Nat} {ds : List Dc} (h : sI l fe (f + 1) (.one d) k = some (n, ds, k')) : d ≤ 32 ∧ n = 1 ∧
    ((sw l k wWire = true ∧ sw l (k + 1) [91] = false ∧ nmK l (k + 1) = true ∧ sw l (k + 1 + 1) [44] = false ∧ sw l (k + 1 + 1) [59] = true ∧ ds = wire1 l k ∧ k' = k + 1 + 1 + 1) ∨
     (sw l k wWire = false ∧ sw l k wReg = false ∧ sw l k wLocal = false ∧ sw l k wAssign = true ∧ sw l (k + 1) [35] = false ∧ nmK l (k + 1) = true ∧ sw l (k + 1 + 1) [61] = true ∧ ∃ v k1, sE l fe (.ex 1) (k + 1 + 1 + 1) = some (v, k1) ∧ sw l k1 [59] = true ∧ ds = itD 4 (tk l (k + 1)).x 0 [] v zX zX [] 0 [] 0 [] (tk l k).p ∧ k' = k1 + 1) ∨
     (sw l k wWire = false ∧ sw l k wReg = false ∧ sw l k wLocal = false ∧ sw l k wAssign = false ∧ sw l k wAlways = true ∧ sw l (k + 1) [64] = true ∧ sw l (k + 1 + 1) [40] = true ∧ sw l (k + 1 + 1 + 1) [42] = true ∧ sw l (k + 1 + 1 + 1 + 1) [41] = true ∧ ∃ nb bd, sS l fe fe (.one 1) (k + 1 + 1 + 1 + 1 + 1) = some (nb, bd, k') ∧ ds = itD 5 [] 0 [] zX zX zX [] nb bd 0 [] (tk l k).p) ∨
     (sw l k wWire = false ∧ sw l k wReg = false ∧ sw l k wLocal = false ∧ sw l k wAssign = false ∧ sw l k wAlways = false ∧ sw l k wFor = true ∧ sw l (k + 1) [40] = true ∧ nmK l (k + 1 + 1) = true ∧ sw l (k + 1 + 1 + 1) [61] = true ∧ ∃ v k1 wh k2 nx k3 ni its, sE l fe (.ex 1) (k + 1 + 1 + 1 + 1) = some (v, k1) ∧ sw l k1 [59] = true ∧ sE l fe (.ex 1) (k1 + 1) = some (wh, k2) ∧ sw l k2 [59] = true ∧ nmK l (k2 + 1) = true ∧ (tk l (k2 + 1)).x = (tk l (k + 1 + 1)).x ∧ sw l (k2 + 1 + 1) [61] = true ∧ sE l fe (.ex 1) (k2 + 1 + 1 + 1) = some (nx, k3) ∧ sw l k3 [41] = true ∧ sw l (k3 + 1) wBegin = true ∧ sw l (k3 + 1 + 1) [58] = true ∧ nmK l (k3 + 1 + 1 + 1) = true ∧ sI l fe f (.many wEnd (d + 1) 0 []) (k3 + 1 + 1 + 1 + 1) = some (ni, its, k') ∧ ds = itD 8 (tk l (k3 + 1 + 1 + 1)).x 0 [] v wh nx (tk l (k + 1 + 1)).x 0 [] ni its (tk l k).p)) := by
  by_cases hd : 32 < d
  · rw [sI, if_pos hd] at h; cases h
  · rw [sI, if_neg hd] at h
    refine ⟨by omega, ?_⟩
    cases hw : sw l k wWire with
    | true =>
      rw [hw] at h
      simp only [if_true] at h
      split at h
      · rename_i hc
        injection h with h; injection h with e1 h; injection h with e2 e3
        exact ⟨e1.symm, Or.inl ⟨rfl, hc.1, hc.2.1, hc.2.2.1, hc.2.2.2, e2.symm, e3.symm⟩⟩
      · cases h
    | false =>
      rw [hw] at h
      simp only [Bool.false_eq_true, if_false] at h
      cases hr : sw l k wReg with
      | true => rw [hr] at h; cases h
      | false =>
        rw [hr] at h
        simp only [Bool.false_eq_true, if_false] at h
        cases hl : sw l k wLocal with
        | true => rw [hl] at h; cases h
        | false =>
          rw [hl] at h
          simp only [Bool.false_eq_true, if_false] at h
          cases ha : sw l k wAssign with
          | true =>
            rw [ha] at h
            simp only [if_true] at h
            split at h
            · rename_i hc
              cases he : sE l fe (.ex 1) (k + 1 + 1 + 1) with
              | none => rw [he] at h; cases h
              | some r =>
                obtain ⟨v, k1⟩ := r
                rw [he] at h
                simp only at h
                cases hs : sw l k1 [59] with
                | false => rw [hs] at h; cases h
                | true =>
                  rw [hs] at h
                  simp only [if_true] at h
                  injection h with h; injection h with e1 h; injection h with e2 e3
                  exact ⟨e1.symm, Or.inr (Or.inl ⟨rfl, rfl, rfl, rfl, hc.1, hc.2.1, hc.2.2, v, k1, rfl, hs, e2.symm, e3.symm⟩)⟩
            · cases h
          | false =>
            rw [ha] at h
            simp only [Bool.false_eq_true, if_false] at h
            cases hy : sw l k wAlways with
            | true =>
              rw [hy] at h
              simp only [if_true] at h
              split at h
              · rename_i hc
                cases he : sS l fe fe (.one 1) (k + 1 + 1 + 1 + 1 + 1) with
                | none => rw [he] at h; cases h
                | some r =>
                  obtain ⟨nb, bd, k1⟩ := r
                  rw [he] at h
                  injection h with h; injection h with e1 h; injection h with e2 e3
                  subst e3
                  exact ⟨e1.symm, Or.inr (Or.inr (Or.inl ⟨rfl, rfl, rfl, rfl, rfl, hc.1, hc.2.1, hc.2.2.1, hc.2.2.2, nb, bd, rfl, e2.symm⟩))⟩
              · cases h
            | false =>
              rw [hy] at h
              simp only [Bool.false_eq_true, if_false] at h
              cases hf : sw l k wFor with
              | false => rw [hf] at h; cases h
              | true =>
                rw [hf] at h
                simp only [if_true] at h
                split at h
                · rename_i hc
                  cases he : sE l fe (.ex 1) (k + 1 + 1 + 1 + 1) with
                  | none => rw [he] at h; cases h
                  | some r =>
                    obtain ⟨v, k1⟩ := r
                    rw [he] at h
                    simp only at h
                    split at h
                    · rename_i hs1
                      cases he2 : sE l fe (.ex 1) (k1 + 1) with
                      | none => rw [he2] at h; cases h
                      | some r =>
                        obtain ⟨wh, k2⟩ := r
                        rw [he2] at h
                        simp only at h
                        split at h
                        · rename_i hs2
                          cases he3 : sE l fe (.ex 1) (k2 + 1 + 1 + 1) with
                          | none => rw [he3] at h; cases h
                          | some r =>
                            obtain ⟨nx, k3⟩ := r
                            rw [he3] at h
                            simp only at h
                            split at h
                            · rename_i hs3
                              cases he4 : sI l fe f (.many wEnd (d + 1) 0 []) (k3 + 1 + 1 + 1 + 1) with
                              | none => rw [he4] at h; cases h
                              | some r =>
                                obtain ⟨ni, its, k4⟩ := r
                                rw [he4] at h
                                injection h with h; injection h with e1 h; injection h with e2 e3
                                subst e3
                                exact ⟨e1.symm, Or.inr (Or.inr (Or.inr ⟨rfl, rfl, rfl, rfl, rfl, rfl, hc.1, hc.2.1, hc.2.2, v, k1, wh, k2, nx, k3, ni, its, rfl, hs1, he2, hs2.1, hs2.2.1, hs2.2.2.1, hs2.2.2.2, he3, hs3.1, hs3.2.1, hs3.2.2.1, hs3.2.2.2, he4, e2.symm⟩))⟩
                            · cases h
                        · cases h
                    · cases h
                · cases h
theorem sI_many {l : List Tok} {fe f d n0 k n k' : Nat} {en : List UInt8} {a ds : List Dc} (h : sI l fe (f + 1) (.many en d n0 a) k = some (n, ds, k')) :
    (sw l k en = true ∧ n = n0 ∧ ds = a ∧ k' = k + 1) ∨ (sw l k en = false ∧ ∃ m b k1, sI l fe f (.one d) k = some (m, b, k1) ∧ sI l fe f (.many en d (n0 + 1) (a ++ b)) k1 = some (n, ds, k')) := by
  rw [sI] at h
  cases hb : sw l k en with
  | true =>
    rw [hb] at h
    simp only [if_true] at h
    injection h with h; injection h with e1 h; injection h with e2 e3
    exact Or.inl ⟨rfl, e1.symm, e2.symm, e3.symm⟩
  | false =>
    rw [hb] at h
    simp only [Bool.false_eq_true, if_false] at h
    right
    cases h1 : sI l fe f (.one d) k with
    | none => rw [h1] at h; cases h
    | some r => obtain ⟨m, b, k1⟩ := r; rw [h1] at h; exact ⟨rfl, m, b, k1, rfl, h⟩
theorem sI_lt {l : List Tok} {fe : Nat} : ∀ f, (∀ d k n ds k', sI l fe f (.one d) k = some (n, ds, k') → ds.length = 48 ∧ k < k') ∧ (∀ en d n0 a k n ds k', sI l fe f (.many en d n0 a) k = some (n, ds, k') → k < k') := by
  intro f
  induction f with
  | zero => exact ⟨fun d k n ds k' h => (by rw [sI] at h; cases h), fun en d n0 a k n ds k' h => (by rw [sI] at h; cases h)⟩
  | succ f ih =>
    refine ⟨fun d k n ds k' h => ?_, fun en d n0 a k n ds k' h => ?_⟩
    · obtain ⟨_, _, hh⟩ := sI_one h
      rcases hh with ⟨_, _, _, _, _, rfl, rfl⟩ | ⟨_, _, _, _, _, _, _, v, k1, he, _, rfl, rfl⟩ | ⟨_, _, _, _, _, _, _, _, _, nb, bd, hs, rfl⟩ | ⟨_, _, _, _, _, _, _, _, _, v, k1, wh, k2, nx, k3, ni, its, e1, _, e2, _, _, _, _, e3, _, _, _, _, e4, rfl⟩
      · exact ⟨itD_len rfl rfl rfl, by omega⟩
      · have := sE_le _ _ _ _ _ he
        exact ⟨itD_len (sE_len' he) rfl rfl, by omega⟩
      · have := (sS_len fe).1 _ _ _ _ _ hs
        exact ⟨itD_len rfl rfl rfl, by omega⟩
      · have a1 := sE_le _ _ _ _ _ e1
        have a2 := sE_le _ _ _ _ _ e2
        have a3 := sE_le _ _ _ _ _ e3
        have a4 := ih.2 _ _ _ _ _ _ _ _ e4
        exact ⟨itD_len (sE_len' e1) (sE_len' e2) (sE_len' e3), by omega⟩
    · rcases sI_many h with ⟨_, rfl, rfl, rfl⟩ | ⟨_, m, b, k1, h1, h2⟩
      · omega
      · have a1 := ih.1 _ _ _ _ _ h1
        have a2 := ih.2 _ _ _ _ _ _ _ _ h2
        omega
def ImR (b g cap : Nat) (l : List Tok) (fe f : Nat) : Prop := ∀ d k n ds k', sI l fe f (.one d) k = some (n, ds, k') → ∀ w, Rq b g cap l k w → Calls Try.prog 50 #[.pointer (some ⟨b, 0, none⟩), .int .i64 d] w fun e w' => ItR b g cap l w ds k' e w'
set_option maxRecDepth 100000 in
set_option maxHeartbeats 8000000 in
theorem rItems {b g cap : Nat} {l : List Tok} {fe F : Nat} (HS0 : ∀ f, f ≤ F → ImR b g cap l fe f) (en : ByteArray) (d k n : Nat) (ds : List Dc) (k' : Nat) (hq : sI l fe F (.many (L en) d 0 []) k = some (n, ds, k')) (w : World) (h : Rq b g cap l k w) :
    Calls Try.prog 33 #[.pointer (some ⟨b, 0, none⟩), .string en, .int .i64 d] w fun e w' => SlR b g cap l w n ds k' e w' := by
  have HT : Hid _ := h
  have hbl := h.blt
  have hgl := h.lt
  have HSS : Hid _ := HS0
  have HQ0 : Hid _ := hq
  obtain ⟨i0, hi, hz0, hz1, hz2⟩ := infoItem
  clear h HS0 hq
  unfold SlR
  go_enter Try.func33, Try.ntmps33
  go_wp2
  go_loopw [7] (fun v wr => ∃ (f' m : Nat) (a : List Dc) (kz : Nat) (ao : Option Addr) (cp : Nat), f' ≤ F ∧ v = .slice ao m cp ∧ m ≤ kz ∧ Hid (sI l fe f' (.many (L en) d m a) kz = some (n, ds, k')) ∧ Hid (Row wr w.heap.size 106 48 v m a) ∧ Hid (Rq b g cap l kz wr) ∧ Hid (Kp b w wr)) (fun _ wr => l.length - atQ b wr)
  case atStart => exact ⟨F, 0, [], k, none, 0, Nat.le_refl _, rfl, Nat.zero_le _, HQ0, Row.nil _ _ _ _, HT, Kp.refl _ _⟩
  case round =>
    obtain ⟨f', m, a, kz, ao, cp, hf', rfl, hmk, HQ, HRW, HST, HKP⟩ := hrel
    have HG := rGoing HST.out
    have hkl := HST.out.k
    have hll := HST.out.len
    cases f' with
    | zero => have := HQ.out; rw [sI] at this; cases this
    | succ f' =>
      rcases sI_many HQ.out with ⟨he, rfl, rfl, rfl⟩ | ⟨he, m2, b2, k1, h1, h2⟩
      · go_wp2_with (first
          | (go_at_call 30; refine (rTk HST.out en true (kz + 1) he rfl).mono ?_; rintro e w5 ⟨rfl, hs5, hk5⟩)
          | (go_at_call 18; refine HG.mono ?_; rintro e w' ⟨rfl, hw⟩; have hw2 := hw.symm; subst hw2))
        go_ret
        exact ⟨⟨_, _, rfl, ((HRW.out.keep hk5 hbl).cell)⟩, hs5, HKP.out.trans hk5⟩
      · have HS1 := HSS.out f' (by omega) d kz m2 b2 k1 h1
        unfold ItR at HS1
        have hL := (sI_lt f').1 _ _ _ _ _ h1
        have HN : Hid _ := h2
        clear h1 h2
        go_wp2_with (first
          | (have hx := hs5; go_at_call 50; refine (HS1 _ hs5).mono ?_; rintro e w6 ⟨⟨kd, nm, nms, vv, vw, vn, vr, vb, vi, vp, rfl, hD⟩, hs6, hk6⟩; have HR6 := (HRW.out.keep hk5 hbl).keep hk6 hbl; have hbd := hs6.k; have hle6 := hk6.size; have hle5 := hk5.size; have hleK := HKP.out.size)
          | (go_at_call 30; refine (rTk HST.out en false kz he rfl).mono ?_; rintro e w5 ⟨rfl, hs5, hk5⟩)
          | (go_at_call 18; refine HG.mono ?_; rintro e w' ⟨rfl, hw⟩; have hw2 := hw.symm; subst hw2)
          | (refine wpl_sliceG rfl 57 1 _ rfl #[(0, .agg (itV kd nm nms vv vw vn vr vb vi vp))] (by kernel_rfl) (itV kd nm nms vv vw vn vr vb vi vp) 106 1 (slice_it _ _ _ _ _ _ _ _ _ _ _) ?_; intro w7 hb7 C7; have HR7 := HR6.keep (Kp.of (b := b) hb7) hbl; have HX7 := HR7.ex; obtain ⟨xs, hown, hdo⟩ := HX7; have hle7 := hb7.size)
          | (refine wpList_append_own_at _ rfl _ _ 57 rfl w.heap.size 106 i0 _ 48 680 Try.underlying57 hi hz0 hz1 hz2 rfl (by decide) _ m xs rfl hown ⟨w6.heap.size, 0, none⟩ 1 1 (itV kd nm nms vv vw vn vr vb vi vp).toList rfl rfl (fun j u hj => by rw [show (⟨w6.heap.size, 0, none⟩ : Addr).add j = ⟨w6.heap.size, j, none⟩ by unfold Addr.add; split <;> simp_all, Lib.cell_of_heap C7]; simpa using hj) hD.one (by unfold maxLen; omega) (by omega) (by omega) ?_; intro v8 w8 hown8 hgrow8 hnil8 hat8; have HS8 := slice_of hown8; obtain ⟨o8, c8, hv8⟩ := HS8))
        go_roundw
        case rel =>
          have hO := HRW.out.own
          have hnw := (hD.keep ⟨hb7.size, fun k hk _ => hb7.block k hk⟩).mono (N' := fun g' => w.heap.size ≤ g' ∧ (Value.slice ao m cp).ownBlock ≠ some g') (fun g' _ hg' => by
            unfold Ge at hg'
            refine ⟨by omega, fun e => ?_⟩
            have := hO g' e
            omega)
          have HR8 := Row.more hdo hnw hown8 hgrow8 hat8
          rw [hv8] at HR8
          exact ⟨f', m + 1, a ++ b2, k1, o8, c8, by omega, rfl, by omega, HN.out, HR8, (hs6.below hb7).grow hgrow8 (fun e => by have := hO _ e; omega) (fun e => by have := hO _ e; omega), (((HKP.out.trans hk5).trans hk6).trans (Kp.of hb7)).grow hgrow8 (fun k e => (hO k e).1)⟩
        case measure =>
          have hO := HRW.out.own
          have a1 := atQ_eq ((hs6.below hb7).grow hgrow8 (fun e => by have := hO _ e; omega) (fun e => by have := hO _ e; omega))
          have a2 := atQ_eq HST.out
          rw [a1, a2]; omega
theorem rIm {b g cap : Nat} {l : List Tok} (HL : Short l) {fe : Nat} : ∀ F f, f ≤ F → ImR b g cap l fe f := by
  intro F
  induction F with
  | zero =>
    intro f hf d k n ds k' h w hw
    have h0 : f = 0 := Nat.le_zero.1 hf
    subst h0
    rw [sI] at h
    cases h
  | succ F ih =>
    intro f hf d k n ds k' h w hw
    cases f with
    | zero => rw [sI] at h; cases h
    | succ f =>
      obtain ⟨hd, hn, hh⟩ := sI_one h
      rcases hh with ⟨h0, h1, h2, h3, h4, rfl, rfl⟩ | ⟨h0, h1, h2, h3, h4, h5, h6, v, k1, he, h7, rfl, rfl⟩ | ⟨h0, h1, h2, h3, h4, h5, h6, h7, h8, nb, bd, hs, rfl⟩ | ⟨h0, h1, h2, h3, h4, h5, h6, h7, h8, v, k1, wh, k2, nx, k3, ni, its, e1, h9, e2, h10, h11, h12, h13, e3, h14, h15, h16, h17, e4, rfl⟩
      · exact rItem_wire hw d hd rfl (sw_word h0 (by decide)) h0 (fun w' hw' => rWire hw' h1 h2 h3 h4)
      · exact rItem_assign hw d hd rfl (sw_word h3 (by decide)) h0 h1 h2 h3 (fun w' hw' => rAssign hw' h4 h5 h6 (fun w'' hw'' => rEx HL he w'' hw'') h7)
      · exact rItem_always hw d hd rfl (sw_word h4 (by decide)) h0 h1 h2 h3 h4 (fun w' hw' => rAlways hw' h5 h6 h7 h8 (fun w'' hw'' => rSt HL fe fe (Nat.le_refl _) 1 _ _ _ _ hs w'' hw''))
      · exact rItem_for hw d hd rfl (sw_word h5 (by decide)) h0 h1 h2 h3 h4 h5 (fun w' hw' => rFor hw' (by omega) h6 h7 h8 (fun w'' hw'' => rEx HL e1 w'' hw'') h9 (fun w'' hw'' => rEx HL e2 w'' hw'') h10 rfl h11 h12 h13 (fun w'' hw'' => rEx HL e3 w'' hw'') h14 h15 h16 h17 (fun w'' hw'' => rItems (F := f) (fun f' hf' => ih f' (by omega)) ⟨#[101, 110, 100]⟩ (d + 1) _ _ _ _ e4 w'' hw''))
end Go.Proofs.Ytpnhefjiobnelaa

/- Layer 19 of the program: changes are read. -/
import Derived.Test.YtfcongggmjijfaaDoorUP
namespace Go.Proofs.YtfcongggmjijfaaDoor
set_option maxRecDepth 100000
open Go.RowKit Lg Nl Go.Maps Wf Vd
set_option linter.unusedVariables false
set_option linter.unusedSimpArgs false

/-- does a line tell a time -/
def isT : List UInt8 → Bool
  | [] => false
  | x :: _ => x == 35
theorem pf_S (t : List UInt8) : pfB 35 (S t) = isT t := by
  unfold pfB isT
  rw [L_S]
  cases t <;> rfl
theorem tl_S (t : List UInt8) : tlS (S t) = S (t.drop 1) := by unfold tlS; rw [L_S]
def chM : Nat → List UInt8 → Cds → Int → List Ch → Option (List Ch)
  | 0, _, _, _, _ => none
  | k + 1, l, a, z, li => if l = [] then some li else match cutO 10 l with
    | none => none
    | some (t, r) => if isT t then (match numA (t.drop 1) with | none => none | some z' => chM k r a z' li) else match valM a t with
      | none => none
      | some (n, v) => chM k r a z (li ++ [⟨z, n, S v⟩])
theorem chM_fuel : ∀ (k k' : Nat) (l : List UInt8) (a : Cds) (z : Int) (li : List Ch), l.length < k → l.length < k' → chM k l a z li = chM k' l a z li
  | 0, _, l, _, _, _, h, _ => absurd h (Nat.not_lt_zero _)
  | _ + 1, 0, l, _, _, _, _, h => absurd h (Nat.not_lt_zero _)
  | k + 1, k' + 1, l, a, z, li, h, h' => by
    unfold chM
    by_cases e : l = []
    · rw [if_pos e, if_pos e]
    · rw [if_neg e, if_neg e]
      cases hc : cutO 10 l with
      | none => rfl
      | some p =>
        obtain ⟨t, r⟩ := p
        have hl := (cutO_inv hc).1
        have hr : r.length + 1 + t.length = l.length := by rw [hl, List.length_append, List.length_cons]; omega
        simp only
        by_cases et : isT t = true
        · rw [if_pos et, if_pos et]
          cases hn : numA (t.drop 1) with
          | none => rfl
          | some z' => exact chM_fuel k k' r a z' li (by omega) (by omega)
        · rw [if_neg et, if_neg et]
          cases hn : valM a t with
          | none => rfl
          | some p =>
            obtain ⟨n, v⟩ := p
            exact chM_fuel k k' r a z _ (by omega) (by omega)
def changesM (l : List UInt8) (a : Cds) : Option (List Ch) := chM (l.length + 1) l a 0 []
def RcQ (B R mb : Nat) (w : World) (a : Cds) (nm : List ByteArray) (wd : List Int) (fi : List ByteArray) (q : Option (List Ch)) (e : Ending) (w' : World) : Prop := Below B w w' ∧ match q with
  | some li => e = .returned (.tuple #[]) ∧ N3 B R mb w' (S []) a ⟨nm, wd, fi, li⟩
  | none => e = .panicked pnV
theorem RcQ.no {B R mb : Nat} {w w' : World} {a : Cds} {nm : List ByteArray} {wd : List Int} {fi : List ByteArray} {q : Option (List Ch)} (hq : q = none) (hb : Below B w w') : RcQ B R mb w a nm wd fi q (.panicked pnV) w' := by
  subst hq; exact ⟨hb, rfl⟩
theorem RcQ.yes {B R mb : Nat} {w w' : World} {a : Cds} {nm : List ByteArray} {wd : List Int} {fi : List ByteArray} {q : Option (List Ch)} {li : List Ch} (hq : q = some li) (hb : Below B w w') (h : N3 B R mb w' (S []) a ⟨nm, wd, fi, li⟩) : RcQ B R mb w a nm wd fi q (.returned (.tuple #[])) w' := by
  subst hq; exact ⟨hb, rfl, h⟩
set_option maxHeartbeats 4000000 in
set_option maxRecDepth 100000 in
theorem rchanges_c (w0 w : World) (R mb : Nat) (l : List UInt8) (a : Cds) (nm : List ByteArray) (wd : List Int) (fi : List ByteArray) (h : N3 w0.heap.size R mb w (S l) a ⟨nm, wd, fi, []⟩) (hW : Below w0.heap.size w0 w) (hl : l.length ≤ 1048576) (hF : changesM l a = none → NumF w0) :
    Calls Tryd.prog 34 #[.pointer (some ⟨R, 0, none⟩)] w fun e w' => RcQ w0.heap.size R mb w a nm wd fi (changesM l a) e w' := by
  have HN := hidV h
  have HW := hidV hW
  have HL := hidV hl
  have HF := hidV hF
  obtain ⟨q, hq⟩ : ∃ q, q = changesM l a := ⟨_, rfl⟩
  have HD : Hid (q = chM (l.length + 1) l a 0 []) := hq
  rw [← hq] at HF ⊢
  clear h hW hl hF hq
  go_enter Tryd.func34, Tryd.ntmps34
  go_upto_region 1 with fail
  go_loopg [2] l.length (fun g s2 wr => ∃ (r : List UInt8) (z : Int) (li : List Ch), s2 = .int .i64 z ∧ g = r.length ∧ Hid (q = chM (r.length + 1) r a z li) ∧ Hid (N3 w0.heap.size R mb wr (S r) a ⟨nm, wd, fi, li⟩) ∧ Hid (li.length + r.length ≤ 1048576) ∧ Hid (Below w0.heap.size w wr))
  case atStart => exact ⟨l, 0, [], rfl, rfl, HD.out, HN.out, by show _ ≤ _; have := HL.out; simp only [List.length_nil]; omega, Below.refl _ _⟩
  case round =>
    obtain ⟨l1, z, li, rfl, rfl, HQ, HNx, HLn, HBx⟩ := hrel
    obtain ⟨wx, hwx⟩ : ∃ wx, wx = wr := ⟨_, rfl⟩
    rw [← hwx] at HNx HBx ⊢
    clear hwx HN HD
    have HWx := hidV (HW.out.trans HBx.out)
    obtain ⟨an, cn, aw, cw, af, cf, al, cl, hbx, _⟩ := HNx.out.bx
    obtain ⟨b0, b1, b2, b3, b4, b5⟩ := cells6 hbx
    clear hbx b1 b2 b3 b4 b5
    by_cases h0 : l1 = []
    · have e0 : (S l1).toList.isEmpty = true := by rw [toL, L_S, h0]; rfl
      have HY : Hid (q = some li) := by show q = _; rw [HQ.out]; unfold chM; rw [if_pos h0]
      have HN9 : Hid (N3 w0.heap.size R mb wx (S []) a ⟨nm, wd, fi, li⟩) := by rw [← h0]; exact HNx.out
      clear h0 HQ
      generalize S l1 = sl at *
      go_wp2_with fail
      go_end0
      exact RcQ.yes HY.out HBx.out HN9.out
    · have e0 : (S l1).toList.isEmpty = false := by
        rw [toL, L_S]
        cases l1 with
        | nil => exact absurd rfl h0
        | cons x y => rfl
      have HQ1 : Hid (q = match cutO 10 l1 with | none => none | some (t, r) => if isT t then (match numA (t.drop 1) with | none => none | some z' => chM l1.length r a z' li) else match valM a t with | none => none | some (n, v) => chM l1.length r a z (li ++ [⟨z, n, S v⟩])) := by show q = _; rw [HQ.out]; conv => lhs; unfold chM; rw [if_neg h0]
      clear h0 HQ
      cases hc : cutO 10 l1 with
      | none =>
        have HY : Hid (q = none) := by show q = none; rw [HQ1.out, hc]
        have HC := hidV (lineN30 HNx.out hc)
        clear hc HQ1
        generalize S l1 = sl at *
        go_wp2_with (first
          | (go_at_call 43; refine HC.out.mono ?_; rintro e w2 ⟨rfl, hb2⟩))
        exact ⟨rfl, RcQ.no HY.out (HBx.out.trans hb2)⟩
      | some p =>
        obtain ⟨t, r⟩ := p
        have HC := hidV (lineN3 HNx.out (by have := HLn.out; omega) hc)
        have HLc : Hid (t.length + r.length + 1 = l1.length) := by show _ = _; have := (cutO_inv hc).1; rw [this, List.length_append, List.length_cons]; omega
        have HQ2 : Hid (q = if isT t then (match numA (t.drop 1) with | none => none | some z' => chM l1.length r a z' li) else match valM a t with | none => none | some (n, v) => chM l1.length r a z (li ++ [⟨z, n, S v⟩])) := by show q = _; rw [HQ1.out, hc]
        have HCp := hidV (fun W => cutp_c (S t) 35 W (by rw [size_S]; have := HLn.out; have := HLc.out; omega))
        rw [pf_S, tl_S] at HCp
        clear hc HQ1
        by_cases ht : isT t = true
        · rw [ht, if_pos rfl] at HCp
          cases hn : numA (t.drop 1) with
          | none =>
            have HY : Hid (q = none) := by show q = none; rw [HQ2.out, if_pos ht, hn]
            have HNo : Hid (∀ W, Below w0.heap.size w0 W → Calls Tryd.prog 47 #[.string (S (t.drop 1))] W fun e w' => e = .panicked pnV ∧ Below W.heap.size W w') := fun W hW' => (HF.out HY.out) W (S (t.drop 1)) hW' (by rw [size_S, List.length_drop]; have := HLn.out; have := HLc.out; omega) (by rw [L_S]; exact hn)
            clear hn ht HQ2
            generalize S (t.drop 1) = qd at *
            generalize S t = qt at *
            generalize S l1 = sl at *
            go_upto_region 5 with (first
              | (go_at_call 43; refine HC.out.mono ?_; rintro e w2 ⟨rfl, hn2, hb2⟩; have HN2 := hidV hn2; have HB2 := hidV (HBx.out.trans hb2); clear hn2 hb2)
              | (go_at_call 46; refine (HCp.out _).mono ?_; rintro e w3 ⟨rfl, rfl⟩))
            go_wp2_with (first
              | (go_at_call 47; refine (HNo.out _ (HW.out.trans HB2.out)).mono ?_; rintro e w4 ⟨rfl, hb4⟩))
            exact ⟨rfl, RcQ.no HY.out (HB2.out.trans (hb4.mono (Nat.le_trans HW.out.size HB2.out.size)))⟩
          | some z' =>
            have HY : Hid (q = chM (r.length + 1) r a z' li) := by show q = _; rw [HQ2.out, if_pos ht, hn]; exact chM_fuel _ _ _ _ _ _ (by have := HLc.out; omega) (by omega)
            have HNo := hidV (fun W => number_ok (S (t.drop 1)) z' W (by rw [L_S]; exact hn) (by rw [size_S, List.length_drop]; have := HLn.out; have := HLc.out; omega))
            clear hn ht HQ2
            generalize S (t.drop 1) = qd at *
            generalize S t = qt at *
            generalize S l1 = sl at *
            go_upto_region 5 with (first
              | (go_at_call 43; refine HC.out.mono ?_; rintro e w2 ⟨rfl, hn2, hb2⟩; have HN2 := hidV hn2; have HB2 := hidV (HBx.out.trans hb2); clear hn2 hb2)
              | (go_at_call 46; refine (HCp.out _).mono ?_; rintro e w3 ⟨rfl, rfl⟩))
            go_wp2_with (first
              | (go_at_call 47; refine (HNo.out _).mono ?_; rintro e w4 ⟨rfl, hb4⟩; have HN4 := hidV (HN2.out.below hb4); have HB4 := hidV (HB2.out.trans (hb4.mono (Nat.le_trans HW.out.size HB2.out.size))); clear hb4))
            go_roundg r.length
            case measure => have := HLc.out; omega
            case rel => exact ⟨r, z', li, rfl, rfl, HY.out, HN4.out, by show _ ≤ _; have := HLc.out; have := HLn.out; omega, HB4.out⟩
        · have ht' : isT t = false := by simpa using ht
          rw [ht'] at HCp
          cases hn : valM a t with
          | none =>
            have HY : Hid (q = none) := by show q = none; rw [HQ2.out, if_neg ht, hn]
            have HV : Hid (∀ W, N3 w0.heap.size R mb W (S r) a ⟨nm, wd, fi, li⟩ → w0.heap.size ≤ W.heap.size → Calls Tryd.prog 45 #[.pointer (some ⟨R, 0, none⟩), .string (S t)] W fun e w' => e = .panicked pnV ∧ Below w0.heap.size W w') := fun W h1 h2 => valN30 h1 h2 (by have := HLn.out; have := HLc.out; omega) hn
            clear hn ht ht' HQ2
            replace HCp : Hid (∀ W, Calls Tryd.prog 46 #[.string (S t), .string ⟨#[35]⟩] W fun e w' => e = .returned (.tuple #[.string (S t), .bool false]) ∧ W = w') := HCp.out
            generalize S t = qt at *
            generalize S l1 = sl at *
            go_upto_region 6 with (first
              | (go_at_call 43; refine HC.out.mono ?_; rintro e w2 ⟨rfl, hn2, hb2⟩; have HN2 := hidV hn2; have HB2 := hidV (HBx.out.trans hb2); clear hn2 hb2)
              | (go_at_call 46; refine (HCp.out _).mono ?_; rintro e w3 ⟨rfl, rfl⟩))
            go_wp2_with (first
              | (go_at_call 45; refine (HV.out _ HN2.out (Nat.le_trans HW.out.size HB2.out.size)).mono ?_; rintro e w4 ⟨rfl, hb4⟩))
            exact ⟨rfl, RcQ.no HY.out (HB2.out.trans hb4)⟩
          | some p =>
            obtain ⟨n, v⟩ := p
            have HY : Hid (q = chM (r.length + 1) r a z (li ++ [⟨z, n, S v⟩])) := by show q = _; rw [HQ2.out, if_neg ht, hn]; exact chM_fuel _ _ _ _ _ _ (by have := HLc.out; omega) (by omega)
            have HV : Hid (∀ W, N3 w0.heap.size R mb W (S r) a ⟨nm, wd, fi, li⟩ → w0.heap.size ≤ W.heap.size → Calls Tryd.prog 45 #[.pointer (some ⟨R, 0, none⟩), .string (S t)] W fun e w' => e = .returned (.tuple #[.int .i64 n, .string (S v)]) ∧ N3 w0.heap.size R mb w' (S r) a ⟨nm, wd, fi, li⟩ ∧ Below w0.heap.size W w') := fun W h1 h2 => valN3 h1 h2 (by have := HLn.out; have := HLc.out; omega) hn
            clear hn ht ht' HQ2
            replace HCp : Hid (∀ W, Calls Tryd.prog 46 #[.string (S t), .string ⟨#[35]⟩] W fun e w' => e = .returned (.tuple #[.string (S t), .bool false]) ∧ W = w') := HCp.out
            generalize S t = qt at *
            generalize S l1 = sl at *
            generalize S v = qv at *
            go_upto_region 6 with (first
              | (go_at_call 43; refine HC.out.mono ?_; rintro e w2 ⟨rfl, hn2, hb2⟩; have HN2 := hidV hn2; have HB2 := hidV (HBx.out.trans hb2); clear hn2 hb2)
              | (go_at_call 46; refine (HCp.out _).mono ?_; rintro e w3 ⟨rfl, rfl⟩))
            go_upto_region 7 with (first
              | (go_at_call 45; refine (HV.out _ HN2.out (Nat.le_trans HW.out.size HB2.out.size)).mono ?_; rintro e w4 ⟨rfl, hn4, hb4⟩; have HN3' := hidV hn4; have HB3 := hidV (HB2.out.trans hb4); clear hn4 hb4))
            clear HV HCp HC HN2 b0 HNx
            have HZ3 : Hid (w0.heap.size ≤ w4.heap.size) := Nat.le_trans HW.out.size HB3.out.size
            obtain ⟨an, cn, aw, cw, af, cf, al, cl, hbx, hon, how, hof, hol, hd⟩ := HN3'.out.bx
            obtain ⟨b0, b1, b2, b3, b4, b5⟩ := cells6 hbx
            have HX := hidV hbx
            have HON := hidV hon
            have HOW := hidV how
            have HOF := hidV hof
            have HOL := hidV hol
            have HDd := hidV hd
            have hlR := hLt hbx
            clear hbx hon how hof hol hd
            obtain ⟨jj, HJ⟩ : ∃ jj, Hid (Tryd.prog.info? 41 = some jj ∧ jj.zero = some (.agg #[.int .i64 0, .int .i64 0, .string ⟨#[]⟩]) ∧ jj.size = 3 ∧ jj.bytes = 32) := infoCh
            have a2 : (w4.alloc (.cells #[.int .i64 z, .int .i64 n, .string qv] 41)).cell? ⟨R, 5, none⟩ = some (.slice al li.length cl) := by rw [Lib.cell_of_heap ((alOld hlR).trans HX.out)]; rfl
            go_wp2_with (first
              | (at_builtin; refine wpList_append_own_at _ rfl _ _ 24 rfl w0.heap.size 41 jj _ 3 32 Tryd.underlying24 HJ.out.1 HJ.out.2.1 HJ.out.2.2.1 HJ.out.2.2.2 rfl (by decide) (.slice al li.length cl) li.length (chs li) rfl (HOL.out.alloc _) ⟨w4.heap.size, 0, none⟩ 1 1 [.int .i64 z, .int .i64 n, .string qv] rfl rfl (fun j u hj => new3 _ ⟨z, n, qv⟩ 41 _ rfl j u hj) (one3 ⟨z, n, qv⟩) (by have := HLn.out; unfold maxLen; omega) (by have := HLn.out; omega) (Nat.le_trans HZ3.out (by simp)) ?_; intro v7 w7 hown7 hgrow7 hnil7 hloc7; obtain ⟨a7, c7, rfl⟩ := own_slice hown7; have HO7 := hidV hown7; have HG7 := hidV hgrow7; have hx7 : w7.heap[R]? = some (.cells #[.string (S r), .map (some mb), .slice an nm.length cn, .slice aw wd.length cw, .slice af fi.length cf, .slice al li.length cl] 67 (0, 0)) := (hgrow7.block R (by simp; omega) (fun e => own_ne HOL.out HX.out (rd_ne_c _ _) e.symm)).trans ((alOld hlR).trans HX.out); have HX7 := hidV hx7; have d7 : w7.cell? ⟨R, 5, none⟩ = some (.slice al li.length cl) := (by rw [Lib.cell_of_heap hx7]; rfl); have f7 : w7.frozen? ⟨R, 5, none⟩ = false := Lib.frozen_of_heap hx7 5; clear hown7 hgrow7 hnil7 hloc7 hx7))
            have HB7 : Hid (Below w0.heap.size w w7) := gB (HB3.out.alloc HZ3.out (.cells #[.int .i64 z, .int .i64 n, .string qv] 41)) HG7.out (fun g e => (World.ownsRow.lt HOL.out g e).1) (Nat.le_trans HZ3.out (by simp))
            have HB8 : Hid (Below w0.heap.size w (w7.setCell ⟨R, 5, none⟩ (.slice a7 (li.length + 1) c7))) := HB7.out.setCell (p := ⟨R, 5, none⟩) HN3'.out.rb.1 _
            have hn7 : w7.ownsRow w0.heap.size 9 1 (.slice an nm.length cn) nm.length (sC nm) := own_grown (HON.out.alloc _) HG7.out (own_own HON.out HOL.out (by decide))
            have hw7 : w7.ownsRow w0.heap.size 3 1 (.slice aw wd.length cw) wd.length (iC wd) := own_grown (HOW.out.alloc _) HG7.out (own_own HOW.out HOL.out (by decide))
            have hf7 : w7.ownsRow w0.heap.size 9 1 (.slice af fi.length cf) fi.length (sC fi) := own_grown (HOF.out.alloc _) HG7.out (own_own HOF.out HOL.out (by decide))
            have hm7 : Mc mb a w7 := HN3'.out.mc.keep ((HG7.out.block mb (by have := HN3'.out.mc.lt; simp; omega) (HN3'.out.mc.neRow HOL.out)).trans (alOld HN3'.out.mc.lt))
            have HN8 : Hid (N3 w0.heap.size R mb (w7.setCell ⟨R, 5, none⟩ (.slice a7 (li.length + 1) c7)) (S r) a ⟨nm, wd, fi, li ++ [⟨z, n, qv⟩]⟩) := by
              refine ⟨⟨an, cn, aw, cw, af, cf, a7, c7, ?_, own_set hn7 (own_ne hn7 HX7.out (rd_ne_s _ _)), own_set hw7 (own_ne hw7 HX7.out (rd_ne_i _ _)), own_set hf7 (own_ne hf7 HX7.out (rd_ne_s _ _)), ?_, HDd.out⟩, hm7.keep (Below.heap_setCell _ _ _ _ (show mb ≠ R from HN3'.out.neq)), HN3'.out.rb⟩
              · show _ = some (Obj.cells #[_, _, _, _, _, .slice a7 (li ++ [_]).length c7] _ _)
                rw [List.length_append]
                exact set65 HX7.out
              · show World.ownsRow _ _ _ _ (.slice a7 (li ++ [_]).length c7) (li ++ [_]).length (chs (li ++ [_]))
                rw [List.length_append, show chs (li ++ [(⟨z, n, qv⟩ : Ch)]) = chs li ++ [.int .i64 z, .int .i64 n, .string qv] from by unfold chs; rw [List.flatMap_append]; rfl]
                exact own_set HO7.out (own_ne HO7.out HX7.out (rd_ne_c _ _))
            go_roundg r.length
            case measure => have := HLc.out; omega
            case rel => exact ⟨r, z, li ++ [Ch.mk z n qv], rfl, rfl, HY.out, HN8.out, by show _ ≤ _; rw [List.length_append]; have := HLc.out; have := HLn.out; simp only [List.length_cons, List.length_nil]; omega, HB8.out⟩
end Go.Proofs.YtfcongggmjijfaaDoor

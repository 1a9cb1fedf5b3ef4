/- Layer 19 of the program: what is declared is read. -/
import Derived.Test.YtfcongggmjijfaaDoorUN
namespace Go.Proofs.YtfcongggmjijfaaDoor
set_option maxRecDepth 100000
open Go.RowKit Lg Nl Go.Maps Wf Vd
set_option linter.unusedVariables false
set_option linter.unusedSimpArgs false

def tsT : List UInt8 := [36, 116, 105, 109, 101, 115, 99, 97, 108, 101, 32, 49, 32, 110, 115, 32, 36, 101, 110, 100]
def scT : List UInt8 := [36, 115, 99, 111, 112, 101, 32, 109, 111, 100, 117, 108, 101, 32, 116, 111, 112, 32, 36, 101, 110, 100]
def upT : List UInt8 := [36, 117, 112, 115, 99, 111, 112, 101, 32, 36, 101, 110, 100]
def deT : List UInt8 := [36, 101, 110, 100, 100, 101, 102, 105, 110, 105, 116, 105, 111, 110, 115, 32, 36, 101, 110, 100]
/-- what is declared: the rest, the codes, names, widths -/
abbrev Dcl := List UInt8 × Cds × List ByteArray × List Int
def netsM : Nat → List UInt8 → Cds → List ByteArray → List Int → Option Dcl
  | 0, _, _, _, _ => none
  | k + 1, l, a, nm, wd => match cutO 10 l with
    | none => none
    | some (t, r) => if t = upT then some (r, a, nm, wd) else match netM t with
      | none => none
      | some (c, n, v) => netsM k r ((c, (nm.length : Int)) :: a) (nm ++ [S n]) (wd ++ [v])
def netsU (k : Nat) (t r : List UInt8) (a : Cds) (nm : List ByteArray) (wd : List Int) : Option Dcl := if t = upT then some (r, a, nm, wd) else match netM t with
  | none => none
  | some (c, n, v) => netsM k r ((c, (nm.length : Int)) :: a) (nm ++ [S n]) (wd ++ [v])
theorem netsM_succ (k : Nat) (l : List UInt8) (a : Cds) (nm : List ByteArray) (wd : List Int) : netsM (k + 1) l a nm wd = match cutO 10 l with | none => none | some (t, r) => netsU k t r a nm wd := rfl
def declM (l : List UInt8) : Option Dcl := match fixM [tsT, scT] l with
  | none => none
  | some l1 => match netsM (l1.length + 1) l1 [] [] [] with
    | none => none
    | some (r, a, nm, wd) => (fixM [deT] r).map fun r2 => (r2, a, nm, wd)
theorem netsM_fuel : ∀ (k k' : Nat) (l : List UInt8) (a : Cds) (nm : List ByteArray) (wd : List Int), l.length < k → l.length < k' → netsM k l a nm wd = netsM k' l a nm wd
  | 0, _, l, _, _, _, h, _ => absurd h (Nat.not_lt_zero _)
  | _ + 1, 0, l, _, _, _, _, h => absurd h (Nat.not_lt_zero _)
  | k + 1, k' + 1, l, a, nm, wd, h, h' => by
    rw [netsM_succ, netsM_succ]
    cases hc : cutO 10 l with
    | none => rfl
    | some p =>
      obtain ⟨t, r⟩ := p
      have hl := (cutO_inv hc).1
      have hr : r.length + 1 + t.length = l.length := by rw [hl, List.length_append, List.length_cons]; omega
      show netsU k t r a nm wd = netsU k' t r a nm wd
      unfold netsU
      by_cases e : t = upT
      · rw [if_pos e, if_pos e]
      · rw [if_neg e, if_neg e]
        cases hn : netM t with
        | none => rfl
        | some p =>
          obtain ⟨c, n, v⟩ := p
          exact netsM_fuel k k' r _ _ _ (by omega) (by omega)
theorem netsU_fuel (k k' : Nat) (t r : List UInt8) (a : Cds) (nm : List ByteArray) (wd : List Int) (h : r.length < k) (h' : r.length < k') : netsU k t r a nm wd = netsU k' t r a nm wd := by
  unfold netsU
  by_cases e : t = upT
  · rw [if_pos e, if_pos e]
  · rw [if_neg e, if_neg e]
    cases hn : netM t with
    | none => rfl
    | some p =>
      obtain ⟨c, n, v⟩ := p
      exact netsM_fuel k k' r _ _ _ h h'
theorem N1.lt {B R mb : Nat} {w : World} {s : ByteArray} {a : Cds} {nm : List ByteArray} {wd : List Int} (h : N1 B R mb w s a nm wd) : R < w.heap.size := by
  obtain ⟨an, cn, aw, cw, hbx, _⟩ := h.bx
  exact hLt hbx
theorem N1.neq {B R mb : Nat} {w : World} {s : ByteArray} {a : Cds} {nm : List ByteArray} {wd : List Int} (h : N1 B R mb w s a nm wd) : mb ≠ R := by
  obtain ⟨an, cn, aw, cw, hbx, _⟩ := h.bx
  obtain ⟨es, clock, h1⟩ := h.mc.block
  intro e
  rw [e, hbx] at h1
  injection h1 with h1
  cases h1
theorem N1.below {B R mb : Nat} {w w' : World} {s : ByteArray} {a : Cds} {nm : List ByteArray} {wd : List Int} (h : N1 B R mb w s a nm wd) (hb : Below w.heap.size w w') : N1 B R mb w' s a nm wd := by
  obtain ⟨an, cn, aw, cw, hbx, hon, how⟩ := h.bx
  exact ⟨⟨an, cn, aw, cw, (hb.block R (hLt hbx)).trans hbx, own_below hon hb, own_below how hb⟩, h.mc.keep (hb.block mb h.mc.lt), h.la, h.lw, h.rb⟩
/-- the reader, its rest turned -/
theorem N1.turn {B R mb : Nat} {w w' : World} {s s' : ByteArray} {a : Cds} {nm : List ByteArray} {wd : List Int} {v1 v2 v3 v4 v5 : Value} (h : N1 B R mb w s a nm wd) (hs : w.heap[R]? = some (.cells #[.string s, v1, v2, v3, v4, v5] 67 (0, 0))) (hx : w'.heap[R]? = some (.cells #[.string s', v1, v2, v3, v4, v5] 67 (0, 0))) (hk : Kx R w w') : N1 B R mb w' s' a nm wd := by
  obtain ⟨an, cn, aw, cw, hbx, hon, how⟩ := h.bx
  have hn := h.neq
  rw [hbx] at hs
  injection hs with hs
  injection hs with hs _ _
  have hs2 := congrArg Array.toList hs
  simp only [List.cons.injEq] at hs2
  obtain ⟨_, rfl, rfl, rfl, rfl, rfl, _⟩ := hs2
  exact ⟨⟨an, cn, aw, cw, hx, own_keep hon (fun g e => hk.far g fun e2 => own_ne hon hbx (rd_ne_s _ _) (by rw [e, e2])), own_keep how (fun g e => hk.far g fun e2 => own_ne how hbx (rd_ne_i _ _) (by rw [e, e2]))⟩, h.mc.keep (hk.far mb hn), h.la, h.lw, h.rb⟩
/-- a line, fixed lines, while nets are told -/
theorem lineN1 {B R mb : Nat} {w : World} {l t r : List UInt8} {a : Cds} {nm : List ByteArray} {wd : List Int} (h : N1 B R mb w (S l) a nm wd) (hl : l.length ≤ 4294967280) (hc : cutO 10 l = some (t, r)) :
    Calls Tryd.prog 43 #[.pointer (some ⟨R, 0, none⟩)] w fun e w' => e = .returned (.string (S t)) ∧ N1 B R mb w' (S r) a nm wd ∧ Below B w w' := by
  obtain ⟨an, cn, aw, cw, hbx, _⟩ := h.bx
  refine (rline_ok R (S l) _ _ _ _ _ t r w hbx (by rw [size_S]; exact hl) (by rw [L_S]; exact hc)).mono ?_
  rintro e w' ⟨h1, h2, h3⟩
  exact ⟨h1, h.turn hbx h2 h3, h3.low.mono h.rb.1⟩
theorem lineN0 {B R mb : Nat} {w : World} {l : List UInt8} {a : Cds} {nm : List ByteArray} {wd : List Int} (h : N1 B R mb w (S l) a nm wd) (hc : cutO 10 l = none) :
    Calls Tryd.prog 43 #[.pointer (some ⟨R, 0, none⟩)] w fun e w' => e = .panicked pnV ∧ Below B w w' := by
  obtain ⟨an, cn, aw, cw, hbx, _⟩ := h.bx
  refine (rline_no R (S l) _ _ _ _ _ w hbx (by rw [L_S]; exact hc)).mono ?_
  rintro e w' ⟨h1, h3⟩
  exact ⟨h1, h3.low.mono h.rb.1⟩
theorem fixN1 {B R mb : Nat} {W : World} {l r : List UInt8} {a : Cds} {nm : List ByteArray} {wd : List Int} (ts : List ByteArray) (tl : List (List UInt8)) (n : Nat) (cs : Array Value) (htl : tl = ts.map L) (hcs : cs = (ts.map Value.string).toArray) (hn : n = ts.length) (h : N1 B R mb W (S l) a nm wd) (hB : B ≤ W.heap.size) (hl : l.length ≤ 4294967280) (hn16 : n ≤ 16) (hq : fixM tl l = some r) :
    Calls Tryd.prog 42 #[.pointer (some ⟨R, 0, none⟩), .slice (some ⟨W.heap.size, 0, none⟩) n n] (W.alloc (.cells cs 9)) fun e w' => e = .returned (.tuple #[]) ∧ N1 B R mb w' (S r) a nm wd ∧ Below B W w' := by
  subst hcs hn htl
  have hb : Below W.heap.size W (W.alloc (.cells (ts.map Value.string).toArray 9)) := belA (Below.refl _ _) _
  have h' := h.below hb
  obtain ⟨an, cn, aw, cw, hbx, _⟩ := h'.bx
  refine (fixed_c R W.heap.size ts l _ _ _ _ _ _ hbx hl (alAt rfl) (by have := h.lt; omega) hn16).mono ?_
  rintro e w' ⟨hk, hm⟩
  rw [hq] at hm
  exact ⟨hm.1, h'.turn hbx hm.2 hk, (hb.mono hB).trans (hk.low.mono h.rb.1)⟩
theorem fixN0 {B R mb : Nat} {W : World} {l : List UInt8} {a : Cds} {nm : List ByteArray} {wd : List Int} (ts : List ByteArray) (tl : List (List UInt8)) (n : Nat) (cs : Array Value) (htl : tl = ts.map L) (hcs : cs = (ts.map Value.string).toArray) (hn : n = ts.length) (h : N1 B R mb W (S l) a nm wd) (hB : B ≤ W.heap.size) (hl : l.length ≤ 4294967280) (hn16 : n ≤ 16) (hq : fixM tl l = none) :
    Calls Tryd.prog 42 #[.pointer (some ⟨R, 0, none⟩), .slice (some ⟨W.heap.size, 0, none⟩) n n] (W.alloc (.cells cs 9)) fun e w' => e = .panicked pnV ∧ Below B W w' := by
  subst hcs hn htl
  have hb : Below W.heap.size W (W.alloc (.cells (ts.map Value.string).toArray 9)) := belA (Below.refl _ _) _
  have h' := h.below hb
  obtain ⟨an, cn, aw, cw, hbx, _⟩ := h'.bx
  refine (fixed_c R W.heap.size ts l _ _ _ _ _ _ hbx hl (alAt rfl) (by have := h.lt; omega) hn16).mono ?_
  rintro e w' ⟨hk, hm⟩
  rw [hq] at hm
  exact ⟨hm, (hb.mono hB).trans (hk.low.mono h.rb.1)⟩
theorem fixM_len : ∀ (ts : List (List UInt8)) (l r : List UInt8), fixM ts l = some r → r.length ≤ l.length
  | [], l, r, h => by injection h with h; rw [h]; exact Nat.le_refl _
  | t :: ts, l, r, h => by
    unfold fixM at h
    cases hc : cutO 10 l with
    | none => rw [hc] at h; cases h
    | some p =>
      obtain ⟨a, b⟩ := p
      rw [hc] at h
      have h : (if a = t then fixM ts b else none) = some r := h
      have hl := (cutO_inv hc).1
      by_cases e : a = t
      · rw [if_pos e] at h
        have := fixM_len ts b r h
        rw [hl, List.length_append, List.length_cons]; omega
      · rw [if_neg e] at h; cases h
def RdQ (B R mb : Nat) (w : World) (q : Option Dcl) (e : Ending) (w' : World) : Prop := Below B w w' ∧ match q with
  | some (r, a, nm, wd) => e = .returned (.tuple #[]) ∧ N1 B R mb w' (S r) a nm wd
  | none => e = .panicked pnV
theorem RdQ.no {B R mb : Nat} {w w' : World} {q : Option Dcl} (hq : q = none) (hb : Below B w w') : RdQ B R mb w q (.panicked pnV) w' := by
  subst hq; exact ⟨hb, rfl⟩
theorem RdQ.yes {B R mb : Nat} {w w' : World} {q : Option Dcl} {r : List UInt8} {a : Cds} {nm : List ByteArray} {wd : List Int} (hq : q = some (r, a, nm, wd)) (hb : Below B w w') (h : N1 B R mb w' (S r) a nm wd) : RdQ B R mb w q (.returned (.tuple #[])) w' := by
  subst hq; exact ⟨hb, rfl, h⟩
theorem net_yes {w0 w : World} {R mb : Nat} {s : ByteArray} {a : Cds} {nm : List ByteArray} {wd : List Int} {t c n : List UInt8} {v : Int} (h : N1 w0.heap.size R mb w s a nm wd) (hW : Below w0.heap.size w0 w) (ht : t.length ≤ 4294967280) (hn : nm.length ≤ 4000000) (hq : netM t = some (c, n, v)) :
    Calls Tryd.prog 44 #[.pointer (some ⟨R, 0, none⟩), .string (S t)] w fun e w' => e = .returned (.tuple #[]) ∧ N1 w0.heap.size R mb w' s ((c, (nm.length : Int)) :: a) (nm ++ [S n]) (wd ++ [v]) ∧ Below w0.heap.size w w' := by
  refine (net_c w0 w R mb s a nm wd t h hW ht hn (fun e => by rw [hq] at e; cases e)).mono ?_
  rintro e w' ⟨hb, hm⟩
  rw [hq] at hm
  exact ⟨hm.1, hm.2, hb⟩
theorem net_not {w0 w : World} {R mb : Nat} {s : ByteArray} {a : Cds} {nm : List ByteArray} {wd : List Int} {t : List UInt8} (h : N1 w0.heap.size R mb w s a nm wd) (hW : Below w0.heap.size w0 w) (ht : t.length ≤ 4294967280) (hn : nm.length ≤ 4000000) (hF : NumF w0) (hq : netM t = none) :
    Calls Tryd.prog 44 #[.pointer (some ⟨R, 0, none⟩), .string (S t)] w fun e w' => e = .panicked pnV ∧ Below w0.heap.size w w' := by
  refine (net_c w0 w R mb s a nm wd t h hW ht hn (fun e => hF)).mono ?_
  rintro e w' ⟨hb, hm⟩
  rw [hq] at hm
  exact ⟨hm, hb⟩
set_option maxHeartbeats 4000000 in
set_option maxRecDepth 100000 in
theorem declared_c (w0 w : World) (R mb : Nat) (l : List UInt8) (h : N1 w0.heap.size R mb w (S l) [] [] []) (hW : Below w0.heap.size w0 w) (hl : l.length ≤ 1048576) (hF : declM l = none → NumF w0) :
    Calls Tryd.prog 32 #[.pointer (some ⟨R, 0, none⟩)] w fun e w' => RdQ w0.heap.size R mb w (declM l) e w' := by
  have HN := hidV h
  have HW := hidV hW
  have HL := hidV hl
  have HD : Hid (declM l = match fixM [tsT, scT] l with | none => none | some l1 => match netsM (l1.length + 1) l1 [] [] [] with | none => none | some (r, a, nm, wd) => (fixM [deT] r).map fun r2 => (r2, a, nm, wd)) := rfl
  have HF := hidV hF
  obtain ⟨q, hq⟩ : ∃ q, q = declM l := ⟨_, rfl⟩
  rw [← hq] at HD HF ⊢
  clear h hW hl hF hq
  cases hf : fixM [tsT, scT] l with
  | none =>
    have HY : Hid (q = none) := by show q = none; rw [HD.out, hf]
    have HP := hidV (fixN0 [S tsT, S scT] [tsT, scT] 2 #[.string ⟨#[36, 116, 105, 109, 101, 115, 99, 97, 108, 101, 32, 49, 32, 110, 115, 32, 36, 101, 110, 100]⟩, .string ⟨#[36, 115, 99, 111, 112, 101, 32, 109, 111, 100, 117, 108, 101, 32, 116, 111, 112, 32, 36, 101, 110, 100]⟩] rfl rfl rfl HN.out HW.out.size (by have := HL.out; omega) (by decide) hf)
    clear hf HD HF
    go_enter Tryd.func32, Tryd.ntmps32
    go_wp2_with (first
      | (go_at_call 42; refine HP.out.mono ?_; rintro e w1 ⟨rfl, hb1⟩))
    exact ⟨rfl, RdQ.no HY.out hb1⟩
  | some l1 =>
    have HP := hidV (fixN1 [S tsT, S scT] [tsT, scT] 2 #[.string ⟨#[36, 116, 105, 109, 101, 115, 99, 97, 108, 101, 32, 49, 32, 110, 115, 32, 36, 101, 110, 100]⟩, .string ⟨#[36, 115, 99, 111, 112, 101, 32, 109, 111, 100, 117, 108, 101, 32, 116, 111, 112, 32, 36, 101, 110, 100]⟩] rfl rfl rfl HN.out HW.out.size (by have := HL.out; omega) (by decide) hf)
    have HL1 : Hid (l1.length ≤ 1048576) := Nat.le_trans (fixM_len _ _ _ hf) HL.out
    have HD1 : Hid (q = match netsM (l1.length + 1) l1 [] [] [] with | none => none | some (r, a, nm, wd) => (fixM [deT] r).map fun r2 => (r2, a, nm, wd)) := by show q = _; rw [HD.out, hf]
    clear hf HD
    rw [netsM_succ] at HD1
    go_enter Tryd.func32, Tryd.ntmps32
    go_upto_region 1 with (first
      | (go_at_call 42; refine HP.out.mono ?_; rintro e w1 ⟨rfl, hn1, hb1⟩))
    have HN1 := hidV hn1
    have HB1 := hidV hb1
    clear hn1 hb1 HP
    cases hc : cutO 10 l1 with
    | none =>
      have HY : Hid (q = none) := by show q = none; rw [HD1.out, hc]
      have HC := hidV (lineN0 HN1.out hc)
      clear hc HD1 HF
      go_wp2_with (first
        | (go_at_call 43; refine HC.out.mono ?_; rintro e w2 ⟨rfl, hb2⟩))
      exact ⟨rfl, RdQ.no HY.out (HB1.out.trans hb2)⟩
    | some p =>
      obtain ⟨t1, r1⟩ := p
      have HC := hidV (lineN1 HN1.out (by have := HL1.out; omega) hc)
      have HD2 : Hid (q = match netsU l1.length t1 r1 [] [] [] with | none => none | some (r, a, nm, wd) => (fixM [deT] r).map fun r2 => (r2, a, nm, wd)) := by show q = _; rw [HD1.out, hc]
      have HLc : Hid (t1.length + r1.length + 1 = l1.length) := by show _ = _; have := (cutO_inv hc).1; rw [this, List.length_append, List.length_cons]; omega
      clear hc HD1
      go_upto_region 2 with (first
        | (go_at_call 43; refine HC.out.mono ?_; rintro e w2 ⟨rfl, hn2, hb2⟩))
      have HN2 := hidV hn2
      have HB2 := hidV (HB1.out.trans hb2)
      clear hn2 hb2 HC
      go_loopg [2] r1.length (fun g s2 wr => ∃ (t r : List UInt8) (a : Cds) (nm : List ByteArray) (wd : List Int), s2 = .string (S t) ∧ g = r.length ∧ Hid (q = match netsU (r.length + 1) t r a nm wd with | none => none | some (r, a, nm, wd) => (fixM [deT] r).map fun r2 => (r2, a, nm, wd)) ∧ Hid (N1 w0.heap.size R mb wr (S r) a nm wd) ∧ Hid (nm.length + t.length + r.length ≤ 1048576) ∧ Hid (Below w0.heap.size w wr))
      case atStart => exact ⟨t1, r1, [], [], [], rfl, rfl, by show q = _; rw [HD2.out, netsU_fuel l1.length (r1.length + 1) t1 r1 [] [] [] (by have := HLc.out; omega) (by omega)], HN2.out, by show _ ≤ _; have := HLc.out; have := HL1.out; simp only [List.length_nil]; omega, HB2.out⟩
      case round =>
        obtain ⟨t, r, a, nm, wd, rfl, rfl, HQ, HNx, HLn, HBx⟩ := hrel
        obtain ⟨wx, hwx⟩ : ∃ wx, wx = wr := ⟨_, rfl⟩
        rw [← hwx] at HNx HBx ⊢
        clear hwx HN2 HB2 HD2 HN1 HB1 HN
        have HWx := hidV (HW.out.trans HBx.out)
        by_cases hu : t = upT
        · have hu' : ((S t).toList == [36, 117, 112, 115, 99, 111, 112, 101, 32, 36, 101, 110, 100]) = true := by rw [beq_iff_eq, toL, L_S, hu]; rfl
          have HQ2 : Hid (q = (fixM [deT] r).map fun r2 => (r2, a, nm, wd)) := by show q = _; rw [HQ.out]; unfold netsU; rw [if_pos hu]
          clear hu HQ HF
          generalize S t = qt at *
          cases hf2 : fixM [deT] r with
          | none =>
            have HY : Hid (q = none) := by show q = none; rw [HQ2.out, hf2]; rfl
            have HP := hidV (fixN0 [S deT] [deT] 1 #[.string ⟨#[36, 101, 110, 100, 100, 101, 102, 105, 110, 105, 116, 105, 111, 110, 115, 32, 36, 101, 110, 100]⟩] rfl rfl rfl HNx.out HWx.out.size (by have := HLn.out; omega) (by decide) hf2)
            clear hf2 HQ2
            go_wp2_with (first
              | (go_at_call 42; refine HP.out.mono ?_; rintro e w3 ⟨rfl, hb3⟩))
            exact ⟨rfl, RdQ.no HY.out (HBx.out.trans hb3)⟩
          | some r2 =>
            have HY : Hid (q = some (r2, a, nm, wd)) := by show q = _; rw [HQ2.out, hf2]; rfl
            have HP := hidV (fixN1 [S deT] [deT] 1 #[.string ⟨#[36, 101, 110, 100, 100, 101, 102, 105, 110, 105, 116, 105, 111, 110, 115, 32, 36, 101, 110, 100]⟩] rfl rfl rfl HNx.out HWx.out.size (by have := HLn.out; omega) (by decide) hf2)
            clear hf2 HQ2
            go_wp2_with (first
              | (go_at_call 42; refine HP.out.mono ?_; rintro e w3 ⟨rfl, hn3, hb3⟩))
            go_end0
            exact RdQ.yes HY.out (HBx.out.trans hb3) hn3
        · have hu' : ((S t).toList == [36, 117, 112, 115, 99, 111, 112, 101, 32, 36, 101, 110, 100]) = false := by rw [beq_eq_false_iff_ne, toL, L_S]; exact hu
          cases hn : netM t with
          | none =>
            have HY : Hid (q = none) := by show q = none; rw [HQ.out]; unfold netsU; rw [if_neg hu, hn]
            have HC := hidV (net_not HNx.out HWx.out (by have := HLn.out; omega) (by have := HLn.out; omega) (HF.out HY.out) hn)
            clear hn hu HQ HF
            generalize S t = qt at *
            go_wp2_with (first
              | (go_at_call 44; refine HC.out.mono ?_; rintro e w3 ⟨rfl, hb3⟩))
            exact ⟨rfl, RdQ.no HY.out (HBx.out.trans hb3)⟩
          | some p =>
            obtain ⟨c, n, v⟩ := p
            have HQ2 : Hid (q = match netsM (r.length + 1) r ((c, (nm.length : Int)) :: a) (nm ++ [S n]) (wd ++ [v]) with | none => none | some (r, a, nm, wd) => (fixM [deT] r).map fun r2 => (r2, a, nm, wd)) := by show q = _; rw [HQ.out]; unfold netsU; rw [if_neg hu, hn]
            have HC := hidV (net_yes HNx.out HWx.out (by have := HLn.out; omega) (by have := HLn.out; omega) hn)
            clear hn hu HQ
            rw [netsM_succ] at HQ2
            generalize S t = qt at *
            go_upto_region 3 with (first
              | (go_at_call 44; refine HC.out.mono ?_; rintro e w3 ⟨rfl, hn3, hb3⟩))
            have HN3 := hidV hn3
            have HB3 := hidV (HBx.out.trans hb3)
            clear hn3 hb3 HC hu'
            cases hc2 : cutO 10 r with
            | none =>
              have HY : Hid (q = none) := by show q = none; rw [HQ2.out, hc2]
              have HC := hidV (lineN0 HN3.out hc2)
              clear hc2 HQ2 HF
              go_wp2_with (first
                | (go_at_call 43; refine HC.out.mono ?_; rintro e w4 ⟨rfl, hb4⟩))
              exact ⟨rfl, RdQ.no HY.out (HB3.out.trans hb4)⟩
            | some p =>
              obtain ⟨t', r'⟩ := p
              have HLr : Hid (t'.length + r'.length + 1 = r.length) := by show _ = _; have := (cutO_inv hc2).1; rw [this, List.length_append, List.length_cons]; omega
              have HQ3 : Hid (q = match netsU (r'.length + 1) t' r' ((c, (nm.length : Int)) :: a) (nm ++ [S n]) (wd ++ [v]) with | none => none | some (r, a, nm, wd) => (fixM [deT] r).map fun r2 => (r2, a, nm, wd)) := by
                show q = _
                rw [HQ2.out, hc2]
                show (match netsU r.length t' r' ((c, (nm.length : Int)) :: a) (nm ++ [S n]) (wd ++ [v]) with | none => none | some (r, a, nm, wd) => (fixM [deT] r).map fun r2 => (r2, a, nm, wd)) = _
                rw [netsU_fuel r.length (r'.length + 1) t' r' _ _ _ (by have := HLr.out; omega) (by omega)]
              have HC := hidV (lineN1 HN3.out (by have := HLn.out; omega) hc2)
              have HL3 : Hid ((nm ++ [S n]).length + t'.length + r'.length ≤ 1048576) := by show _ ≤ _; rw [List.length_append]; have := HLr.out; have := HLn.out; simp only [List.length_cons, List.length_nil]; omega
              clear hc2 HQ2
              go_wp2_with (first
                | (go_at_call 43; refine HC.out.mono ?_; rintro e w4 ⟨rfl, hn4, hb4⟩; have HN4 := hidV hn4; have HB4 := hidV (HB3.out.trans hb4); clear hn4 hb4))
              go_roundg r'.length
              case measure => have := HLr.out; omega
              case rel => exact ⟨t', r', _, _, _, rfl, rfl, HQ3.out, HN4.out, HL3.out, HB4.out⟩
end Go.Proofs.YtfcongggmjijfaaDoor

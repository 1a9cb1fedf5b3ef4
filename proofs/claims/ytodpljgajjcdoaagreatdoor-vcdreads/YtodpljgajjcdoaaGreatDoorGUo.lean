/- Texts UO UP UQ, joined: what each part says stands ahead of it. -/
import Derived.Test.YtodpljgajjcdoaaGreatDoorGUm
/- Layer 19 of the program: what is declared is read. -/
namespace Go.Proofs.YtodpljgajjcdoaaGreatDoor
set_option maxRecDepth 100000
open Go.RowKit Lg Nl Go.Maps Wf Vd
set_option linter.unusedVariables false
set_option linter.unusedSimpArgs false

def tsT : List UInt8 := [36, 116, 105, 109, 101, 115, 99, 97, 108, 101, 32, 49, 32, 110, 115, 32, 36, 101, 110, 100]
def scT : List UInt8 := [36, 115, 99, 111, 112, 101, 32, 109, 111, 100, 117, 108, 101, 32, 116, 111, 112, 32, 36, 101, 110, 100]
def upT : List UInt8 := [36, 117, 112, 115, 99, 111, 112, 101, 32, 36, 101, 110, 100]
def deT : List UInt8 := [36, 101, 110, 100, 100, 101, 102, 105, 110, 105, 116, 105, 111, 110, 115, 32, 36, 101, 110, 100]
/-- what is declared: the rest, the codes, names, widths -/
abbrev Dcl := List UInt8 × Cds × List ByteArray × List Int
def netsM : Nat → List UInt8 → Cds → List ByteArray → List Int → Option Dcl
  | 0, _, _, _, _ => none
  | k + 1, l, a, nm, wd => match cutO 10 l with
    | none => none
    | some (t, r) => if t = upT then some (r, a, nm, wd) else match netM t with
      | none => none
      | some (c, n, v) => netsM k r ((c, (nm.length : Int)) :: a) (nm ++ [S n]) (wd ++ [v])
def netsU (k : Nat) (t r : List UInt8) (a : Cds) (nm : List ByteArray) (wd : List Int) : Option Dcl := if t = upT then some (r, a, nm, wd) else match netM t with
  | none => none
  | some (c, n, v) => netsM k r ((c, (nm.length : Int)) :: a) (nm ++ [S n]) (wd ++ [v])
theorem netsM_succ (k : Nat) (l : List UInt8) (a : Cds) (nm : List ByteArray) (wd : List Int) : netsM (k + 1) l a nm wd = match cutO 10 l with | none => none | some (t, r) => netsU k t r a nm wd := rfl
def declM (l : List UInt8) : Option Dcl := match fixM [tsT, scT] l with
  | none => none
  | some l1 => match netsM (l1.length + 1) l1 [] [] [] with
    | none => none
    | some (r, a, nm, wd) => (fixM [deT] r).map fun r2 => (r2, a, nm, wd)
theorem netsM_fuel : ∀ (k k' : Nat) (l : List UInt8) (a : Cds) (nm : List ByteArray) (wd : List Int), l.length < k → l.length < k' → netsM k l a nm wd = netsM k' l a nm wd
  | 0, _, l, _, _, _, h, _ => absurd h (Nat.not_lt_zero _)
  | _ + 1, 0, l, _, _, _, _, h => absurd h (Nat.not_lt_zero _)
  | k + 1, k' + 1, l, a, nm, wd, h, h' => by
    rw [netsM_succ, netsM_succ]
    cases hc : cutO 10 l with
    | none => rfl
    | some p =>
      obtain ⟨t, r⟩ := p
      have hl := (cutO_inv hc).1
      have hr : r.length + 1 + t.length = l.length := by rw [hl, List.length_append, List.length_cons]; omega
      show netsU k t r a nm wd = netsU k' t r a nm wd
      unfold netsU
      by_cases e : t = upT
      · rw [if_pos e, if_pos e]
      · rw [if_neg e, if_neg e]
        cases hn : netM t with
        | none => rfl
        | some p =>
          obtain ⟨c, n, v⟩ := p
          exact netsM_fuel k k' r _ _ _ (by omega) (by omega)
theorem netsU_fuel (k k' : Nat) (t r : List UInt8) (a : Cds) (nm : List ByteArray) (wd : List Int) (h : r.length < k) (h' : r.length < k') : netsU k t r a nm wd = netsU k' t r a nm wd := by
  unfold netsU
  by_cases e : t = upT
  · rw [if_pos e, if_pos e]
  · rw [if_neg e, if_neg e]
    cases hn : netM t with
    | none => rfl
    | some p =>
      obtain ⟨c, n, v⟩ := p
      exact netsM_fuel k k' r _ _ _ h h'
theorem N1.lt {B R mb : Nat} {w : World} {s : ByteArray} {a : Cds} {nm : List ByteArray} {wd : List Int} (h : N1 B R mb w s a nm wd) : R < w.heap.size := by
  obtain ⟨an, cn, aw, cw, hbx, _⟩ := h.bx
  exact hLt hbx
theorem N1.neq {B R mb : Nat} {w : World} {s : ByteArray} {a : Cds} {nm : List ByteArray} {wd : List Int} (h : N1 B R mb w s a nm wd) : mb ≠ R := by
  obtain ⟨an, cn, aw, cw, hbx, _⟩ := h.bx
  obtain ⟨es, clock, h1⟩ := h.mc.block
  intro e
  rw [e, hbx] at h1
  injection h1 with h1
  cases h1
theorem N1.below {B R mb : Nat} {w w' : World} {s : ByteArray} {a : Cds} {nm : List ByteArray} {wd : List Int} (h : N1 B R mb w s a nm wd) (hb : Below w.heap.size w w') : N1 B R mb w' s a nm wd := by
  obtain ⟨an, cn, aw, cw, hbx, hon, how⟩ := h.bx
  exact ⟨⟨an, cn, aw, cw, (hb.block R (hLt hbx)).trans hbx, own_below hon hb, own_below how hb⟩, h.mc.keep (hb.block mb h.mc.lt), h.la, h.lw, h.rb⟩
/-- the reader, its rest turned -/
theorem N1.turn {B R mb : Nat} {w w' : World} {s s' : ByteArray} {a : Cds} {nm : List ByteArray} {wd : List Int} {v1 v2 v3 v4 v5 : Value} (h : N1 B R mb w s a nm wd) (hs : w.heap[R]? = some (.cells #[.string s, v1, v2, v3, v4, v5] 55 (0, 0))) (hx : w'.heap[R]? = some (.cells #[.string s', v1, v2, v3, v4, v5] 55 (0, 0))) (hk : Kx R w w') : N1 B R mb w' s' a nm wd := by
  obtain ⟨an, cn, aw, cw, hbx, hon, how⟩ := h.bx
  have hn := h.neq
  rw [hbx] at hs
  injection hs with hs
  injection hs with hs _ _
  have hs2 := congrArg Array.toList hs
  simp only [List.cons.injEq] at hs2
  obtain ⟨_, rfl, rfl, rfl, rfl, rfl, _⟩ := hs2
  exact ⟨⟨an, cn, aw, cw, hx, own_keep hon (fun g e => hk.far g fun e2 => own_ne hon hbx (rd_ne_s _ _) (by rw [e, e2])), own_keep how (fun g e => hk.far g fun e2 => own_ne how hbx (rd_ne_i _ _) (by rw [e, e2]))⟩, h.mc.keep (hk.far mb hn), h.la, h.lw, h.rb⟩
/-- a line, fixed lines, while nets are told -/
theorem lineN1 {B R mb : Nat} {w : World} {l t r : List UInt8} {a : Cds} {nm : List ByteArray} {wd : List Int} (h : N1 B R mb w (S l) a nm wd) (hl : l.length ≤ 4294967280) (hc : cutO 10 l = some (t, r)) :
    Calls Tryz.prog 36 #[.pointer (some ⟨R, 0, none⟩)] w fun e w' => e = .returned (.string (S t)) ∧ N1 B R mb w' (S r) a nm wd ∧ Below B w w' := by
  obtain ⟨an, cn, aw, cw, hbx, _⟩ := h.bx
  refine (rline_ok R (S l) _ _ _ _ _ t r w hbx (by rw [size_S]; exact hl) (by rw [L_S]; exact hc)).mono ?_
  rintro e w' ⟨h1, h2, h3⟩
  exact ⟨h1, h.turn hbx h2 h3, h3.low.mono h.rb.1⟩
theorem lineN0 {B R mb : Nat} {w : World} {l : List UInt8} {a : Cds} {nm : List ByteArray} {wd : List Int} (h : N1 B R mb w (S l) a nm wd) (hc : cutO 10 l = none) :
    Calls Tryz.prog 36 #[.pointer (some ⟨R, 0, none⟩)] w fun e w' => e = .panicked pnV ∧ Below B w w' := by
  obtain ⟨an, cn, aw, cw, hbx, _⟩ := h.bx
  refine (rline_no R (S l) _ _ _ _ _ w hbx (by rw [L_S]; exact hc)).mono ?_
  rintro e w' ⟨h1, h3⟩
  exact ⟨h1, h3.low.mono h.rb.1⟩
theorem fixN1 {B R mb : Nat} {W : World} {l r : List UInt8} {a : Cds} {nm : List ByteArray} {wd : List Int} (ts : List ByteArray) (tl : List (List UInt8)) (n : Nat) (cs : Array Value) (htl : tl = ts.map L) (hcs : cs = (ts.map Value.string).toArray) (hn : n = ts.length) (h : N1 B R mb W (S l) a nm wd) (hB : B ≤ W.heap.size) (hl : l.length ≤ 4294967280) (hn16 : n ≤ 16) (hq : fixM tl l = some r) :
    Calls Tryz.prog 35 #[.pointer (some ⟨R, 0, none⟩), .slice (some ⟨W.heap.size, 0, none⟩) n n] (W.alloc (.cells cs 9)) fun e w' => e = .returned (.tuple #[]) ∧ N1 B R mb w' (S r) a nm wd ∧ Below B W w' := by
  subst hcs hn htl
  have hb : Below W.heap.size W (W.alloc (.cells (ts.map Value.string).toArray 9)) := belA (Below.refl _ _) _
  have h' := h.below hb
  obtain ⟨an, cn, aw, cw, hbx, _⟩ := h'.bx
  refine (fixed_c R W.heap.size ts l _ _ _ _ _ _ hbx hl (alAt rfl) (by have := h.lt; omega) hn16).mono ?_
  rintro e w' ⟨hk, hm⟩
  rw [hq] at hm
  exact ⟨hm.1, h'.turn hbx hm.2 hk, (hb.mono hB).trans (hk.low.mono h.rb.1)⟩
theorem fixN0 {B R mb : Nat} {W : World} {l : List UInt8} {a : Cds} {nm : List ByteArray} {wd : List Int} (ts : List ByteArray) (tl : List (List UInt8)) (n : Nat) (cs : Array Value) (htl : tl = ts.map L) (hcs : cs = (ts.map Value.string).toArray) (hn : n = ts.length) (h : N1 B R mb W (S l) a nm wd) (hB : B ≤ W.heap.size) (hl : l.length ≤ 4294967280) (hn16 : n ≤ 16) (hq : fixM tl l = none) :
    Calls Tryz.prog 35 #[.pointer (some ⟨R, 0, none⟩), .slice (some ⟨W.heap.size, 0, none⟩) n n] (W.alloc (.cells cs 9)) fun e w' => e = .panicked pnV ∧ Below B W w' := by
  subst hcs hn htl
  have hb : Below W.heap.size W (W.alloc (.cells (ts.map Value.string).toArray 9)) := belA (Below.refl _ _) _
  have h' := h.below hb
  obtain ⟨an, cn, aw, cw, hbx, _⟩ := h'.bx
  refine (fixed_c R W.heap.size ts l _ _ _ _ _ _ hbx hl (alAt rfl) (by have := h.lt; omega) hn16).mono ?_
  rintro e w' ⟨hk, hm⟩
  rw [hq] at hm
  exact ⟨hm, (hb.mono hB).trans (hk.low.mono h.rb.1)⟩
theorem fixM_len : ∀ (ts : List (List UInt8)) (l r : List UInt8), fixM ts l = some r → r.length ≤ l.length
  | [], l, r, h => by injection h with h; rw [h]; exact Nat.le_refl _
  | t :: ts, l, r, h => by
    unfold fixM at h
    cases hc : cutO 10 l with
    | none => rw [hc] at h; cases h
    | some p =>
      obtain ⟨a, b⟩ := p
      rw [hc] at h
      have h : (if a = t then fixM ts b else none) = some r := h
      have hl := (cutO_inv hc).1
      by_cases e : a = t
      · rw [if_pos e] at h
        have := fixM_len ts b r h
        rw [hl, List.length_append, List.length_cons]; omega
      · rw [if_neg e] at h; cases h
def RdQ (B R mb : Nat) (w : World) (q : Option Dcl) (e : Ending) (w' : World) : Prop := Below B w w' ∧ match q with
  | some (r, a, nm, wd) => e = .returned (.tuple #[]) ∧ N1 B R mb w' (S r) a nm wd
  | none => e = .panicked pnV
theorem RdQ.no {B R mb : Nat} {w w' : World} {q : Option Dcl} (hq : q = none) (hb : Below B w w') : RdQ B R mb w q (.panicked pnV) w' := by
  subst hq; exact ⟨hb, rfl⟩
theorem RdQ.yes {B R mb : Nat} {w w' : World} {q : Option Dcl} {r : List UInt8} {a : Cds} {nm : List ByteArray} {wd : List Int} (hq : q = some (r, a, nm, wd)) (hb : Below B w w') (h : N1 B R mb w' (S r) a nm wd) : RdQ B R mb w q (.returned (.tuple #[])) w' := by
  subst hq; exact ⟨hb, rfl, h⟩
theorem net_yes {w0 w : World} {R mb : Nat} {s : ByteArray} {a : Cds} {nm : List ByteArray} {wd : List Int} {t c n : List UInt8} {v : Int} (h : N1 w0.heap.size R mb w s a nm wd) (hW : Below w0.heap.size w0 w) (ht : t.length ≤ 4294967280) (hn : nm.length ≤ 4000000) (hq : netM t = some (c, n, v)) :
    Calls Tryz.prog 37 #[.pointer (some ⟨R, 0, none⟩), .string (S t)] w fun e w' => e = .returned (.tuple #[]) ∧ N1 w0.heap.size R mb w' s ((c, (nm.length : Int)) :: a) (nm ++ [S n]) (wd ++ [v]) ∧ Below w0.heap.size w w' := by
  refine (net_c w0 w R mb s a nm wd t h hW ht hn (fun e => by rw [hq] at e; cases e)).mono ?_
  rintro e w' ⟨hb, hm⟩
  rw [hq] at hm
  exact ⟨hm.1, hm.2, hb⟩
theorem net_not {w0 w : World} {R mb : Nat} {s : ByteArray} {a : Cds} {nm : List ByteArray} {wd : List Int} {t : List UInt8} (h : N1 w0.heap.size R mb w s a nm wd) (hW : Below w0.heap.size w0 w) (ht : t.length ≤ 4294967280) (hn : nm.length ≤ 4000000) (hF : NumF w0) (hq : netM t = none) :
    Calls Tryz.prog 37 #[.pointer (some ⟨R, 0, none⟩), .string (S t)] w fun e w' => e = .panicked pnV ∧ Below w0.heap.size w w' := by
  refine (net_c w0 w R mb s a nm wd t h hW ht hn (fun e => hF)).mono ?_
  rintro e w' ⟨hb, hm⟩
  rw [hq] at hm
  exact ⟨hm, hb⟩
set_option maxHeartbeats 4000000 in
set_option maxRecDepth 100000 in
theorem declared_c (w0 w : World) (R mb : Nat) (l : List UInt8) (h : N1 w0.heap.size R mb w (S l) [] [] []) (hW : Below w0.heap.size w0 w) (hl : l.length ≤ 1048576) (hF : declM l = none → NumF w0) :
    Calls Tryz.prog 21 #[.pointer (some ⟨R, 0, none⟩)] w fun e w' => RdQ w0.heap.size R mb w (declM l) e w' := by
  have HN := hidV h
  have HW := hidV hW
  have HL := hidV hl
  have HD : Hid (declM l = match fixM [tsT, scT] l with | none => none | some l1 => match netsM (l1.length + 1) l1 [] [] [] with | none => none | some (r, a, nm, wd) => (fixM [deT] r).map fun r2 => (r2, a, nm, wd)) := rfl
  have HF := hidV hF
  obtain ⟨q, hq⟩ : ∃ q, q = declM l := ⟨_, rfl⟩
  rw [← hq] at HD HF ⊢
  clear h hW hl hF hq
  cases hf : fixM [tsT, scT] l with
  | none =>
    have HY : Hid (q = none) := by show q = none; rw [HD.out, hf]
    have HP := hidV (fixN0 [S tsT, S scT] [tsT, scT] 2 #[.string ⟨#[36, 116, 105, 109, 101, 115, 99, 97, 108, 101, 32, 49, 32, 110, 115, 32, 36, 101, 110, 100]⟩, .string ⟨#[36, 115, 99, 111, 112, 101, 32, 109, 111, 100, 117, 108, 101, 32, 116, 111, 112, 32, 36, 101, 110, 100]⟩] rfl rfl rfl HN.out HW.out.size (by have := HL.out; omega) (by decide) hf)
    clear hf HD HF
    go_enter Tryz.func21, Tryz.ntmps21
    go_wp2_with (first
      | (go_at_call 35; refine HP.out.mono ?_; rintro e w1 ⟨rfl, hb1⟩))
    exact ⟨rfl, RdQ.no HY.out hb1⟩
  | some l1 =>
    have HP := hidV (fixN1 [S tsT, S scT] [tsT, scT] 2 #[.string ⟨#[36, 116, 105, 109, 101, 115, 99, 97, 108, 101, 32, 49, 32, 110, 115, 32, 36, 101, 110, 100]⟩, .string ⟨#[36, 115, 99, 111, 112, 101, 32, 109, 111, 100, 117, 108, 101, 32, 116, 111, 112, 32, 36, 101, 110, 100]⟩] rfl rfl rfl HN.out HW.out.size (by have := HL.out; omega) (by decide) hf)
    have HL1 : Hid (l1.length ≤ 1048576) := Nat.le_trans (fixM_len _ _ _ hf) HL.out
    have HD1 : Hid (q = match netsM (l1.length + 1) l1 [] [] [] with | none => none | some (r, a, nm, wd) => (fixM [deT] r).map fun r2 => (r2, a, nm, wd)) := by show q = _; rw [HD.out, hf]
    clear hf HD
    rw [netsM_succ] at HD1
    go_enter Tryz.func21, Tryz.ntmps21
    go_upto_region 1 with (first
      | (go_at_call 35; refine HP.out.mono ?_; rintro e w1 ⟨rfl, hn1, hb1⟩))
    have HN1 := hidV hn1
    have HB1 := hidV hb1
    clear hn1 hb1 HP
    cases hc : cutO 10 l1 with
    | none =>
      have HY : Hid (q = none) := by show q = none; rw [HD1.out, hc]
      have HC := hidV (lineN0 HN1.out hc)
      clear hc HD1 HF
      go_wp2_with (first
        | (go_at_call 36; refine HC.out.mono ?_; rintro e w2 ⟨rfl, hb2⟩))
      exact ⟨rfl, RdQ.no HY.out (HB1.out.trans hb2)⟩
    | some p =>
      obtain ⟨t1, r1⟩ := p
      have HC := hidV (lineN1 HN1.out (by have := HL1.out; omega) hc)
      have HD2 : Hid (q = match netsU l1.length t1 r1 [] [] [] with | none => none | some (r, a, nm, wd) => (fixM [deT] r).map fun r2 => (r2, a, nm, wd)) := by show q = _; rw [HD1.out, hc]
      have HLc : Hid (t1.length + r1.length + 1 = l1.length) := by show _ = _; have := (cutO_inv hc).1; rw [this, List.length_append, List.length_cons]; omega
      clear hc HD1
      go_upto_region 2 with (first
        | (go_at_call 36; refine HC.out.mono ?_; rintro e w2 ⟨rfl, hn2, hb2⟩))
      have HN2 := hidV hn2
      have HB2 := hidV (HB1.out.trans hb2)
      clear hn2 hb2 HC
      go_loopg [2] r1.length (fun g s2 wr => ∃ (t r : List UInt8) (a : Cds) (nm : List ByteArray) (wd : List Int), s2 = .string (S t) ∧ g = r.length ∧ Hid (q = match netsU (r.length + 1) t r a nm wd with | none => none | some (r, a, nm, wd) => (fixM [deT] r).map fun r2 => (r2, a, nm, wd)) ∧ Hid (N1 w0.heap.size R mb wr (S r) a nm wd) ∧ Hid (nm.length + t.length + r.length ≤ 1048576) ∧ Hid (Below w0.heap.size w wr))
      case atStart => exact ⟨t1, r1, [], [], [], rfl, rfl, by show q = _; rw [HD2.out, netsU_fuel l1.length (r1.length + 1) t1 r1 [] [] [] (by have := HLc.out; omega) (by omega)], HN2.out, by show _ ≤ _; have := HLc.out; have := HL1.out; simp only [List.length_nil]; omega, HB2.out⟩
      case round =>
        obtain ⟨t, r, a, nm, wd, rfl, rfl, HQ, HNx, HLn, HBx⟩ := hrel
        obtain ⟨wx, hwx⟩ : ∃ wx, wx = wr := ⟨_, rfl⟩
        rw [← hwx] at HNx HBx ⊢
        clear hwx HN2 HB2 HD2 HN1 HB1 HN
        have HWx := hidV (HW.out.trans HBx.out)
        by_cases hu : t = upT
        · have hu' : ((S t).toList == [36, 117, 112, 115, 99, 111, 112, 101, 32, 36, 101, 110, 100]) = true := by rw [beq_iff_eq, toL, L_S, hu]; rfl
          have HQ2 : Hid (q = (fixM [deT] r).map fun r2 => (r2, a, nm, wd)) := by show q = _; rw [HQ.out]; unfold netsU; rw [if_pos hu]
          clear hu HQ HF
          generalize S t = qt at *
          cases hf2 : fixM [deT] r with
          | none =>
            have HY : Hid (q = none) := by show q = none; rw [HQ2.out, hf2]; rfl
            have HP := hidV (fixN0 [S deT] [deT] 1 #[.string ⟨#[36, 101, 110, 100, 100, 101, 102, 105, 110, 105, 116, 105, 111, 110, 115, 32, 36, 101, 110, 100]⟩] rfl rfl rfl HNx.out HWx.out.size (by have := HLn.out; omega) (by decide) hf2)
            clear hf2 HQ2
            go_wp2_with (first
              | (go_at_call 35; refine HP.out.mono ?_; rintro e w3 ⟨rfl, hb3⟩))
            exact ⟨rfl, RdQ.no HY.out (HBx.out.trans hb3)⟩
          | some r2 =>
            have HY : Hid (q = some (r2, a, nm, wd)) := by show q = _; rw [HQ2.out, hf2]; rfl
            have HP := hidV (fixN1 [S deT] [deT] 1 #[.string ⟨#[36, 101, 110, 100, 100, 101, 102, 105, 110, 105, 116, 105, 111, 110, 115, 32, 36, 101, 110, 100]⟩] rfl rfl rfl HNx.out HWx.out.size (by have := HLn.out; omega) (by decide) hf2)
            clear hf2 HQ2
            go_wp2_with (first
              | (go_at_call 35; refine HP.out.mono ?_; rintro e w3 ⟨rfl, hn3, hb3⟩))
            go_end0
            exact RdQ.yes HY.out (HBx.out.trans hb3) hn3
        · have hu' : ((S t).toList == [36, 117, 112, 115, 99, 111, 112, 101, 32, 36, 101, 110, 100]) = false := by rw [beq_eq_false_iff_ne, toL, L_S]; exact hu
          cases hn : netM t with
          | none =>
            have HY : Hid (q = none) := by show q = none; rw [HQ.out]; unfold netsU; rw [if_neg hu, hn]
            have HC := hidV (net_not HNx.out HWx.out (by have := HLn.out; omega) (by have := HLn.out; omega) (HF.out HY.out) hn)
            clear hn hu HQ HF
            generalize S t = qt at *
            go_wp2_with (first
              | (go_at_call 37; refine HC.out.mono ?_; rintro e w3 ⟨rfl, hb3⟩))
            exact ⟨rfl, RdQ.no HY.out (HBx.out.trans hb3)⟩
          | some p =>
            obtain ⟨c, n, v⟩ := p
            have HQ2 : Hid (q = match netsM (r.length + 1) r ((c, (nm.length : Int)) :: a) (nm ++ [S n]) (wd ++ [v]) with | none => none | some (r, a, nm, wd) => (fixM [deT] r).map fun r2 => (r2, a, nm, wd)) := by show q = _; rw [HQ.out]; unfold netsU; rw [if_neg hu, hn]
            have HC := hidV (net_yes HNx.out HWx.out (by have := HLn.out; omega) (by have := HLn.out; omega) hn)
            clear hn hu HQ
            rw [netsM_succ] at HQ2
            generalize S t = qt at *
            go_upto_region 3 with (first
              | (go_at_call 37; refine HC.out.mono ?_; rintro e w3 ⟨rfl, hn3, hb3⟩))
            have HN3 := hidV hn3
            have HB3 := hidV (HBx.out.trans hb3)
            clear hn3 hb3 HC hu'
            cases hc2 : cutO 10 r with
            | none =>
              have HY : Hid (q = none) := by show q = none; rw [HQ2.out, hc2]
              have HC := hidV (lineN0 HN3.out hc2)
              clear hc2 HQ2 HF
              go_wp2_with (first
                | (go_at_call 36; refine HC.out.mono ?_; rintro e w4 ⟨rfl, hb4⟩))
              exact ⟨rfl, RdQ.no HY.out (HB3.out.trans hb4)⟩
            | some p =>
              obtain ⟨t', r'⟩ := p
              have HLr : Hid (t'.length + r'.length + 1 = r.length) := by show _ = _; have := (cutO_inv hc2).1; rw [this, List.length_append, List.length_cons]; omega
              have HQ3 : Hid (q = match netsU (r'.length + 1) t' r' ((c, (nm.length : Int)) :: a) (nm ++ [S n]) (wd ++ [v]) with | none => none | some (r, a, nm, wd) => (fixM [deT] r).map fun r2 => (r2, a, nm, wd)) := by
                show q = _
                rw [HQ2.out, hc2]
                show (match netsU r.length t' r' ((c, (nm.length : Int)) :: a) (nm ++ [S n]) (wd ++ [v]) with | none => none | some (r, a, nm, wd) => (fixM [deT] r).map fun r2 => (r2, a, nm, wd)) = _
                rw [netsU_fuel r.length (r'.length + 1) t' r' _ _ _ (by have := HLr.out; omega) (by omega)]
              have HC := hidV (lineN1 HN3.out (by have := HLn.out; omega) hc2)
              have HL3 : Hid ((nm ++ [S n]).length + t'.length + r'.length ≤ 1048576) := by show _ ≤ _; rw [List.length_append]; have := HLr.out; have := HLn.out; simp only [List.length_cons, List.length_nil]; omega
              clear hc2 HQ2
              go_wp2_with (first
                | (go_at_call 36; refine HC.out.mono ?_; rintro e w4 ⟨rfl, hn4, hb4⟩; have HN4 := hidV hn4; have HB4 := hidV (HB3.out.trans hb4); clear hn4 hb4))
              go_roundg r'.length
              case measure => have := HLr.out; omega
              case rel => exact ⟨t', r', _, _, _, rfl, rfl, HQ3.out, HN4.out, HL3.out, HB4.out⟩
end Go.Proofs.YtodpljgajjcdoaaGreatDoor

/- Layer 19 of the program: first values are read. -/
namespace Go.Proofs.YtodpljgajjcdoaaGreatDoor
set_option maxRecDepth 100000
open Go.RowKit Lg Nl Go.Maps Wf Vd
set_option linter.unusedVariables false
set_option linter.unusedSimpArgs false

/-- the reader with all that it has kept -/
structure N3 (B R mb : Nat) (w : World) (s : ByteArray) (a : Cds) (x : Wv) : Prop where
  bx : ∃ (an : Option Addr) (cn : Nat) (aw : Option Addr) (cw : Nat) (af : Option Addr) (cf : Nat) (al : Option Addr) (cl : Nat), w.heap[R]? = some (.cells #[.string s, .map (some mb), .slice an x.nm.length cn, .slice aw x.wd.length cw, .slice af x.fi.length cf, .slice al x.li.length cl] 55 (0, 0)) ∧ w.ownsRow B 9 1 (.slice an x.nm.length cn) x.nm.length (sC x.nm) ∧ w.ownsRow B 3 1 (.slice aw x.wd.length cw) x.wd.length (iC x.wd) ∧ w.ownsRow B 9 1 (.slice af x.fi.length cf) x.fi.length (sC x.fi) ∧ w.ownsRow B 34 3 (.slice al x.li.length cl) x.li.length (chs x.li) ∧ (∀ g, (Value.slice an x.nm.length cn).ownBlock = some g → some g ≠ (Value.slice af x.fi.length cf).ownBlock)
  mc : Mc mb a w
  rb : B ≤ R ∧ B ≤ mb
theorem N1.three {B R mb : Nat} {w : World} {s : ByteArray} {a : Cds} {nm : List ByteArray} {wd : List Int} (h : N1 B R mb w s a nm wd) : N3 B R mb w s a ⟨nm, wd, [], []⟩ := by
  obtain ⟨an, cn, aw, cw, hbx, hon, how⟩ := h.bx
  exact ⟨⟨an, cn, aw, cw, none, 0, none, 0, hbx, hon, how, World.ownsRow_nil _ _ _ _, World.ownsRow_nil _ _ _ _, fun g _ e => by cases e⟩, h.mc, h.rb⟩
theorem N3.lt {B R mb : Nat} {w : World} {s : ByteArray} {a : Cds} {x : Wv} (h : N3 B R mb w s a x) : R < w.heap.size := by
  obtain ⟨an, cn, aw, cw, af, cf, al, cl, hbx, _⟩ := h.bx
  exact hLt hbx
theorem N3.neq {B R mb : Nat} {w : World} {s : ByteArray} {a : Cds} {x : Wv} (h : N3 B R mb w s a x) : mb ≠ R := by
  obtain ⟨an, cn, aw, cw, af, cf, al, cl, hbx, _⟩ := h.bx
  obtain ⟨es, clock, h1⟩ := h.mc.block
  intro e
  rw [e, hbx] at h1
  injection h1 with h1
  cases h1
theorem N3.below {B R mb : Nat} {w w' : World} {s : ByteArray} {a : Cds} {x : Wv} (h : N3 B R mb w s a x) (hb : Below w.heap.size w w') : N3 B R mb w' s a x := by
  obtain ⟨an, cn, aw, cw, af, cf, al, cl, hbx, hon, how, hof, hol, hd⟩ := h.bx
  exact ⟨⟨an, cn, aw, cw, af, cf, al, cl, (hb.block R (hLt hbx)).trans hbx, own_below hon hb, own_below how hb, own_below hof hb, own_below hol hb, hd⟩, h.mc.keep (hb.block mb h.mc.lt), h.rb⟩
theorem N3.turn {B R mb : Nat} {w w' : World} {s s' : ByteArray} {a : Cds} {x : Wv} {v1 v2 v3 v4 v5 : Value} (h : N3 B R mb w s a x) (hs : w.heap[R]? = some (.cells #[.string s, v1, v2, v3, v4, v5] 55 (0, 0))) (hx : w'.heap[R]? = some (.cells #[.string s', v1, v2, v3, v4, v5] 55 (0, 0))) (hk : Kx R w w') : N3 B R mb w' s' a x := by
  obtain ⟨an, cn, aw, cw, af, cf, al, cl, hbx, hon, how, hof, hol, hd⟩ := h.bx
  have hn := h.neq
  rw [hbx] at hs
  injection hs with hs
  injection hs with hs _ _
  have hs2 := congrArg Array.toList hs
  simp only [List.cons.injEq] at hs2
  obtain ⟨_, rfl, rfl, rfl, rfl, rfl, _⟩ := hs2
  exact ⟨⟨an, cn, aw, cw, af, cf, al, cl, hx, own_keep hon (fun g e => hk.far g fun e2 => own_ne hon hbx (rd_ne_s _ _) (by rw [e, e2])), own_keep how (fun g e => hk.far g fun e2 => own_ne how hbx (rd_ne_i _ _) (by rw [e, e2])), own_keep hof (fun g e => hk.far g fun e2 => own_ne hof hbx (rd_ne_s _ _) (by rw [e, e2])), own_keep hol (fun g e => hk.far g fun e2 => own_ne hol hbx (rd_ne_c _ _) (by rw [e, e2])), hd⟩, h.mc.keep (hk.far mb hn), h.rb⟩
theorem lineN3 {B R mb : Nat} {w : World} {l t r : List UInt8} {a : Cds} {x : Wv} (h : N3 B R mb w (S l) a x) (hl : l.length ≤ 4294967280) (hc : cutO 10 l = some (t, r)) :
    Calls Tryz.prog 36 #[.pointer (some ⟨R, 0, none⟩)] w fun e w' => e = .returned (.string (S t)) ∧ N3 B R mb w' (S r) a x ∧ Below B w w' := by
  obtain ⟨an, cn, aw, cw, af, cf, al, cl, hbx, _⟩ := h.bx
  refine (rline_ok R (S l) _ _ _ _ _ t r w hbx (by rw [size_S]; exact hl) (by rw [L_S]; exact hc)).mono ?_
  rintro e w' ⟨h1, h2, h3⟩
  exact ⟨h1, h.turn hbx h2 h3, h3.low.mono h.rb.1⟩
theorem lineN30 {B R mb : Nat} {w : World} {l : List UInt8} {a : Cds} {x : Wv} (h : N3 B R mb w (S l) a x) (hc : cutO 10 l = none) :
    Calls Tryz.prog 36 #[.pointer (some ⟨R, 0, none⟩)] w fun e w' => e = .panicked pnV ∧ Below B w w' := by
  obtain ⟨an, cn, aw, cw, af, cf, al, cl, hbx, _⟩ := h.bx
  refine (rline_no R (S l) _ _ _ _ _ w hbx (by rw [L_S]; exact hc)).mono ?_
  rintro e w' ⟨h1, h3⟩
  exact ⟨h1, h3.low.mono h.rb.1⟩
theorem fixN3 {B R mb : Nat} {W : World} {l r : List UInt8} {a : Cds} {x : Wv} (ts : List ByteArray) (tl : List (List UInt8)) (n : Nat) (cs : Array Value) (htl : tl = ts.map L) (hcs : cs = (ts.map Value.string).toArray) (hn : n = ts.length) (h : N3 B R mb W (S l) a x) (hB : B ≤ W.heap.size) (hl : l.length ≤ 4294967280) (hn16 : n ≤ 16) (hq : fixM tl l = some r) :
    Calls Tryz.prog 35 #[.pointer (some ⟨R, 0, none⟩), .slice (some ⟨W.heap.size, 0, none⟩) n n] (W.alloc (.cells cs 9)) fun e w' => e = .returned (.tuple #[]) ∧ N3 B R mb w' (S r) a x ∧ Below B W w' := by
  subst hcs hn htl
  have hb : Below W.heap.size W (W.alloc (.cells (ts.map Value.string).toArray 9)) := belA (Below.refl _ _) _
  have h' := h.below hb
  obtain ⟨an, cn, aw, cw, af, cf, al, cl, hbx, _⟩ := h'.bx
  refine (fixed_c R W.heap.size ts l _ _ _ _ _ _ hbx hl (alAt rfl) (by have := h.lt; omega) hn16).mono ?_
  rintro e w' ⟨hk, hm⟩
  rw [hq] at hm
  exact ⟨hm.1, h'.turn hbx hm.2 hk, (hb.mono hB).trans (hk.low.mono h.rb.1)⟩
theorem fixN30 {B R mb : Nat} {W : World} {l : List UInt8} {a : Cds} {x : Wv} (ts : List ByteArray) (tl : List (List UInt8)) (n : Nat) (cs : Array Value) (htl : tl = ts.map L) (hcs : cs = (ts.map Value.string).toArray) (hn : n = ts.length) (h : N3 B R mb W (S l) a x) (hB : B ≤ W.heap.size) (hl : l.length ≤ 4294967280) (hn16 : n ≤ 16) (hq : fixM tl l = none) :
    Calls Tryz.prog 35 #[.pointer (some ⟨R, 0, none⟩), .slice (some ⟨W.heap.size, 0, none⟩) n n] (W.alloc (.cells cs 9)) fun e w' => e = .panicked pnV ∧ Below B W w' := by
  subst hcs hn htl
  have hb : Below W.heap.size W (W.alloc (.cells (ts.map Value.string).toArray 9)) := belA (Below.refl _ _) _
  have h' := h.below hb
  obtain ⟨an, cn, aw, cw, af, cf, al, cl, hbx, _⟩ := h'.bx
  refine (fixed_c R W.heap.size ts l _ _ _ _ _ _ hbx hl (alAt rfl) (by have := h.lt; omega) hn16).mono ?_
  rintro e w' ⟨hk, hm⟩
  rw [hq] at hm
  exact ⟨hm, (hb.mono hB).trans (hk.low.mono h.rb.1)⟩
theorem valN3 {B R mb : Nat} {w : World} {s : ByteArray} {a : Cds} {x : Wv} {t v : List UInt8} {n : Int} (h : N3 B R mb w s a x) (hB : B ≤ w.heap.size) (ht : t.length ≤ 4294967280) (hq : valM a t = some (n, v)) :
    Calls Tryz.prog 38 #[.pointer (some ⟨R, 0, none⟩), .string (S t)] w fun e w' => e = .returned (.tuple #[.int .i64 n, .string (S v)]) ∧ N3 B R mb w' s a x ∧ Below B w w' := by
  obtain ⟨an, cn, aw, cw, af, cf, al, cl, hbx, _⟩ := h.bx
  refine (rvalue_c R mb a s _ _ _ _ t w hbx h.mc ht).mono ?_
  rintro e w' ⟨hb, hm⟩
  rw [hq] at hm
  exact ⟨hm, h.below hb, hb.mono hB⟩
theorem valN30 {B R mb : Nat} {w : World} {s : ByteArray} {a : Cds} {x : Wv} {t : List UInt8} (h : N3 B R mb w s a x) (hB : B ≤ w.heap.size) (ht : t.length ≤ 4294967280) (hq : valM a t = none) :
    Calls Tryz.prog 38 #[.pointer (some ⟨R, 0, none⟩), .string (S t)] w fun e w' => e = .panicked pnV ∧ Below B w w' := by
  obtain ⟨an, cn, aw, cw, af, cf, al, cl, hbx, _⟩ := h.bx
  refine (rvalue_c R mb a s _ _ _ _ t w hbx h.mc ht).mono ?_
  rintro e w' ⟨hb, hm⟩
  rw [hq] at hm
  exact ⟨hm, hb.mono hB⟩
def dvT : List UInt8 := [36, 100, 117, 109, 112, 118, 97, 114, 115]
def enT : List UInt8 := [36, 101, 110, 100]
def firM : Nat → List UInt8 → Cds → List ByteArray → Option (List UInt8 × List ByteArray)
  | 0, _, _, _ => none
  | k + 1, l, a, fi => match cutO 10 l with
    | none => none
    | some (t, r) => if t = enT then some (r, fi) else match valM a t with
      | none => none
      | some (_, v) => firM k r a (fi ++ [S v])
def firU (k : Nat) (t r : List UInt8) (a : Cds) (fi : List ByteArray) : Option (List UInt8 × List ByteArray) := if t = enT then some (r, fi) else match valM a t with
  | none => none
  | some (_, v) => firM k r a (fi ++ [S v])
theorem firM_succ (k : Nat) (l : List UInt8) (a : Cds) (fi : List ByteArray) : firM (k + 1) l a fi = match cutO 10 l with | none => none | some (t, r) => firU k t r a fi := rfl
theorem firM_fuel : ∀ (k k' : Nat) (l : List UInt8) (a : Cds) (fi : List ByteArray), l.length < k → l.length < k' → firM k l a fi = firM k' l a fi
  | 0, _, l, _, _, h, _ => absurd h (Nat.not_lt_zero _)
  | _ + 1, 0, l, _, _, _, h => absurd h (Nat.not_lt_zero _)
  | k + 1, k' + 1, l, a, fi, h, h' => by
    rw [firM_succ, firM_succ]
    cases hc : cutO 10 l with
    | none => rfl
    | some p =>
      obtain ⟨t, r⟩ := p
      have hl := (cutO_inv hc).1
      have hr : r.length + 1 + t.length = l.length := by rw [hl, List.length_append, List.length_cons]; omega
      show firU k t r a fi = firU k' t r a fi
      unfold firU
      by_cases e : t = enT
      · rw [if_pos e, if_pos e]
      · rw [if_neg e, if_neg e]
        cases hn : valM a t with
        | none => rfl
        | some p =>
          obtain ⟨n, v⟩ := p
          exact firM_fuel k k' r _ _ (by omega) (by omega)
theorem firU_fuel (k k' : Nat) (t r : List UInt8) (a : Cds) (fi : List ByteArray) (h : r.length < k) (h' : r.length < k') : firU k t r a fi = firU k' t r a fi := by
  unfold firU
  by_cases e : t = enT
  · rw [if_pos e, if_pos e]
  · rw [if_neg e, if_neg e]
    cases hn : valM a t with
    | none => rfl
    | some p =>
      obtain ⟨n, v⟩ := p
      exact firM_fuel k k' r _ _ h h'
def firstM (l : List UInt8) (a : Cds) : Option (List UInt8 × List ByteArray) := match fixM [dvT] l with
  | none => none
  | some l1 => firM (l1.length + 1) l1 a []
def RfiQ (B R mb : Nat) (w : World) (a : Cds) (nm : List ByteArray) (wd : List Int) (q : Option (List UInt8 × List ByteArray)) (e : Ending) (w' : World) : Prop := Below B w w' ∧ match q with
  | some (r, fi) => e = .returned (.tuple #[]) ∧ N3 B R mb w' (S r) a ⟨nm, wd, fi, []⟩
  | none => e = .panicked pnV
theorem RfiQ.no {B R mb : Nat} {w w' : World} {a : Cds} {nm : List ByteArray} {wd : List Int} {q : Option (List UInt8 × List ByteArray)} (hq : q = none) (hb : Below B w w') : RfiQ B R mb w a nm wd q (.panicked pnV) w' := by
  subst hq; exact ⟨hb, rfl⟩
theorem RfiQ.yes {B R mb : Nat} {w w' : World} {a : Cds} {nm : List ByteArray} {wd : List Int} {q : Option (List UInt8 × List ByteArray)} {r : List UInt8} {fi : List ByteArray} (hq : q = some (r, fi)) (hb : Below B w w') (h : N3 B R mb w' (S r) a ⟨nm, wd, fi, []⟩) : RfiQ B R mb w a nm wd q (.returned (.tuple #[])) w' := by
  subst hq; exact ⟨hb, rfl, h⟩
set_option maxHeartbeats 4000000 in
set_option maxRecDepth 100000 in
theorem first_c (w0 w : World) (R mb : Nat) (l : List UInt8) (a : Cds) (nm : List ByteArray) (wd : List Int) (h : N3 w0.heap.size R mb w (S l) a ⟨nm, wd, [], []⟩) (hW : Below w0.heap.size w0 w) (hl : l.length ≤ 1048576) :
    Calls Tryz.prog 22 #[.pointer (some ⟨R, 0, none⟩)] w fun e w' => RfiQ w0.heap.size R mb w a nm wd (firstM l a) e w' := by
  have HN := hidV h
  have HW := hidV hW
  have HL := hidV hl
  have HD : Hid (firstM l a = match fixM [dvT] l with | none => none | some l1 => firM (l1.length + 1) l1 a []) := rfl
  obtain ⟨q, hq⟩ : ∃ q, q = firstM l a := ⟨_, rfl⟩
  rw [← hq] at HD ⊢
  clear h hW hl hq
  cases hf : fixM [dvT] l with
  | none =>
    have HY : Hid (q = none) := by show q = none; rw [HD.out, hf]
    have HP := hidV (fixN30 [S dvT] [dvT] 1 #[.string ⟨#[36, 100, 117, 109, 112, 118, 97, 114, 115]⟩] rfl rfl rfl HN.out HW.out.size (by have := HL.out; omega) (by decide) hf)
    clear hf HD
    go_enter Tryz.func22, Tryz.ntmps22
    go_wp2_with (first
      | (go_at_call 35; refine HP.out.mono ?_; rintro e w1 ⟨rfl, hb1⟩))
    exact ⟨rfl, RfiQ.no HY.out hb1⟩
  | some l1 =>
    have HP := hidV (fixN3 [S dvT] [dvT] 1 #[.string ⟨#[36, 100, 117, 109, 112, 118, 97, 114, 115]⟩] rfl rfl rfl HN.out HW.out.size (by have := HL.out; omega) (by decide) hf)
    have HL1 : Hid (l1.length ≤ 1048576) := Nat.le_trans (fixM_len _ _ _ hf) HL.out
    have HD1 : Hid (q = firM (l1.length + 1) l1 a []) := by show q = _; rw [HD.out, hf]
    clear hf HD
    rw [firM_succ] at HD1
    go_enter Tryz.func22, Tryz.ntmps22
    go_upto_region 1 with (first
      | (go_at_call 35; refine HP.out.mono ?_; rintro e w1 ⟨rfl, hn1, hb1⟩))
    have HN1 := hidV hn1
    have HB1 := hidV hb1
    clear hn1 hb1 HP
    cases hc : cutO 10 l1 with
    | none =>
      have HY : Hid (q = none) := by show q = none; rw [HD1.out, hc]
      have HC := hidV (lineN30 HN1.out hc)
      clear hc HD1
      go_wp2_with (first
        | (go_at_call 36; refine HC.out.mono ?_; rintro e w2 ⟨rfl, hb2⟩))
      exact ⟨rfl, RfiQ.no HY.out (HB1.out.trans hb2)⟩
    | some p =>
      obtain ⟨t1, r1⟩ := p
      have HC := hidV (lineN3 HN1.out (by have := HL1.out; omega) hc)
      have HD2 : Hid (q = firU l1.length t1 r1 a []) := by show q = _; rw [HD1.out, hc]
      have HLc : Hid (t1.length + r1.length + 1 = l1.length) := by show _ = _; have := (cutO_inv hc).1; rw [this, List.length_append, List.length_cons]; omega
      clear hc HD1
      go_upto_region 2 with (first
        | (go_at_call 36; refine HC.out.mono ?_; rintro e w2 ⟨rfl, hn2, hb2⟩))
      have HN2 := hidV hn2
      have HB2 := hidV (HB1.out.trans hb2)
      clear hn2 hb2 HC
      go_loopg [2] r1.length (fun g s2 wr => ∃ (t r : List UInt8) (fi : List ByteArray), s2 = .string (S t) ∧ g = r.length ∧ Hid (q = firU (r.length + 1) t r a fi) ∧ Hid (N3 w0.heap.size R mb wr (S r) a ⟨nm, wd, fi, []⟩) ∧ Hid (fi.length + t.length + r.length ≤ 1048576) ∧ Hid (Below w0.heap.size w wr))
      case atStart => exact ⟨t1, r1, [], rfl, rfl, by show q = _; rw [HD2.out, firU_fuel l1.length (r1.length + 1) t1 r1 a [] (by have := HLc.out; omega) (by omega)], HN2.out, by show _ ≤ _; have := HLc.out; have := HL1.out; simp only [List.length_nil]; omega, HB2.out⟩
      case round =>
        obtain ⟨t, r, fi, rfl, rfl, HQ, HNx, HLn, HBx⟩ := hrel
        obtain ⟨wx, hwx⟩ : ∃ wx, wx = wr := ⟨_, rfl⟩
        rw [← hwx] at HNx HBx ⊢
        clear hwx HN2 HB2 HD2 HN1 HB1 HN
        have HWx := hidV (HW.out.trans HBx.out)
        by_cases hu : t = enT
        · have hu' : ((S t).toList == [36, 101, 110, 100]) = true := by rw [beq_iff_eq, toL, L_S, hu]; rfl
          have HY : Hid (q = some (r, fi)) := by show q = _; rw [HQ.out]; unfold firU; rw [if_pos hu]
          clear hu HQ
          generalize S t = qt at *
          go_wp2_with fail
          go_end0
          exact RfiQ.yes HY.out HBx.out HNx.out
        · have hu' : ((S t).toList == [36, 101, 110, 100]) = false := by rw [beq_eq_false_iff_ne, toL, L_S]; exact hu
          cases hn : valM a t with
          | none =>
            have HY : Hid (q = none) := by show q = none; rw [HQ.out]; unfold firU; rw [if_neg hu, hn]
            have HC := hidV (valN30 HNx.out HWx.out.size (by have := HLn.out; omega) hn)
            clear hn hu HQ
            generalize S t = qt at *
            go_wp2_with (first
              | (go_at_call 38; refine HC.out.mono ?_; rintro e w3 ⟨rfl, hb3⟩))
            exact ⟨rfl, RfiQ.no HY.out (HBx.out.trans hb3)⟩
          | some p =>
            obtain ⟨n, v⟩ := p
            have HQ2 : Hid (q = firM (r.length + 1) r a (fi ++ [S v])) := by show q = _; rw [HQ.out]; unfold firU; rw [if_neg hu, hn]
            have HC := hidV (valN3 HNx.out HWx.out.size (by have := HLn.out; omega) hn)
            clear hn hu HQ
            rw [firM_succ] at HQ2
            generalize S t = qt at *
            go_upto_region 5 with (first
              | (go_at_call 38; refine HC.out.mono ?_; rintro e w3 ⟨rfl, hn3, hb3⟩))
            have HN3' := hidV hn3
            have HB3 := hidV (HBx.out.trans hb3)
            clear hn3 hb3 HC hu'
            have HZ3 : Hid (w0.heap.size ≤ w3.heap.size) := Nat.le_trans HW.out.size HB3.out.size
            obtain ⟨an, cn, aw, cw, af, cf, al, cl, hbx, hon, how, hof, hol, hd⟩ := HN3'.out.bx
            obtain ⟨b0, b1, b2, b3, b4, b5⟩ := cells6 hbx
            have HX := hidV hbx
            have HON := hidV hon
            have HOW := hidV how
            have HOF := hidV hof
            have HOL := hidV hol
            have HDd := hidV hd
            have hlR := hLt hbx
            clear hbx hon how hof hol hd
            generalize S v = qv at *
            obtain ⟨jj, HJ⟩ : ∃ jj, Hid (Tryz.prog.info? 9 = some jj ∧ jj.zero = some (.string ⟨#[]⟩) ∧ jj.size = 1 ∧ jj.bytes = 16) := infoStr
            have a2 : (w3.alloc (.cells #[.string qv] 9)).cell? ⟨R, 4, none⟩ = some (.slice af fi.length cf) := by rw [Lib.cell_of_heap ((alOld hlR).trans HX.out)]; rfl
            go_upto_region 3 with (first
              | (at_builtin; refine wpList_append_own_at _ rfl _ _ 23 rfl w0.heap.size 9 jj _ 1 16 Tryz.underlying23 HJ.out.1 HJ.out.2.1 HJ.out.2.2.1 HJ.out.2.2.2 rfl (by decide) (.slice af fi.length cf) fi.length (sC fi) rfl (HOF.out.alloc _) ⟨w3.heap.size, 0, none⟩ 1 1 [.string qv] rfl rfl (fun j u hj => new1i _ _ _ _ rfl j u hj) (one_sC [qv]) (by have := HLn.out; unfold maxLen; omega) (by have := HLn.out; omega) (Nat.le_trans HZ3.out (by simp)) ?_; intro v7 w7 hown7 hgrow7 hnil7 hloc7; obtain ⟨a7, c7, rfl⟩ := own_slice hown7; have HO7 := hidV hown7; have HG7 := hidV hgrow7; have HC7 := hidV hloc7; have hx7 : w7.heap[R]? = some (.cells #[.string (S r), .map (some mb), .slice an nm.length cn, .slice aw wd.length cw, .slice af fi.length cf, .slice al 0 cl] 55 (0, 0)) := (hgrow7.block R (by simp; omega) (fun e => own_ne HOF.out HX.out (rd_ne_s _ _) e.symm)).trans ((alOld hlR).trans HX.out); have HX7 := hidV hx7; have d7 : w7.cell? ⟨R, 4, none⟩ = some (.slice af fi.length cf) := (by rw [Lib.cell_of_heap hx7]; rfl); have f7 : w7.frozen? ⟨R, 4, none⟩ = false := Lib.frozen_of_heap hx7 4; clear hown7 hgrow7 hnil7 hloc7 hx7))
            obtain ⟨W8, hW8⟩ : ∃ W8, W8 = w7.setCell ⟨R, 4, none⟩ (.slice a7 (fi.length + 1) c7) := ⟨_, rfl⟩
            rw [← hW8]
            have HB7 : Hid (Below w0.heap.size w w7) := gB (HB3.out.alloc HZ3.out (.cells #[.string qv] 9)) HG7.out (fun g e => (World.ownsRow.lt HOF.out g e).1) (Nat.le_trans HZ3.out (by simp))
            have HB8 : Hid (Below w0.heap.size w W8) := by rw [hW8]; exact HB7.out.setCell (p := ⟨R, 4, none⟩) HN3'.out.rb.1 _
            have hn7 : w7.ownsRow w0.heap.size 9 1 (.slice an nm.length cn) nm.length (sC nm) := own_grown (HON.out.alloc _) HG7.out HDd.out
            have hw7 : w7.ownsRow w0.heap.size 3 1 (.slice aw wd.length cw) wd.length (iC wd) := own_grown (HOW.out.alloc _) HG7.out (own_own HOW.out HOF.out (by decide))
            have hl7 : w7.ownsRow w0.heap.size 34 3 (.slice al 0 cl) 0 (chs []) := own_grown (HOL.out.alloc _) HG7.out (own_own HOL.out HOF.out (by decide))
            have hm7 : Mc mb a w7 := HN3'.out.mc.keep ((HG7.out.block mb (by have := HN3'.out.mc.lt; simp; omega) (HN3'.out.mc.neRow HOF.out)).trans (alOld HN3'.out.mc.lt))
            have HN8 : Hid (N3 w0.heap.size R mb W8 (S r) a ⟨nm, wd, fi ++ [qv], []⟩) := by
              rw [hW8]
              refine ⟨⟨an, cn, aw, cw, a7, c7, al, cl, ?_, own_set hn7 (own_ne hn7 HX7.out (rd_ne_s _ _)), own_set hw7 (own_ne hw7 HX7.out (rd_ne_i _ _)), ?_, own_set hl7 (own_ne hl7 HX7.out (rd_ne_c _ _)), ?_⟩, hm7.keep (Below.heap_setCell _ _ _ _ (show mb ≠ R from HN3'.out.neq)), HN3'.out.rb⟩
              · show _ = some (Obj.cells #[_, _, _, _, .slice a7 (fi ++ [qv]).length c7, _] _ _)
                rw [List.length_append]
                exact set64 HX7.out
              · show World.ownsRow _ _ _ _ (.slice a7 (fi ++ [qv]).length c7) (fi ++ [qv]).length (sC (fi ++ [qv]))
                rw [List.length_append, show sC (fi ++ [qv]) = sC fi ++ [.string qv] from by unfold sC; rw [List.map_append]; rfl]
                exact own_set HO7.out (own_ne HO7.out HX7.out (rd_ne_s _ _))
              · intro g hg e
                have h1 : (Value.slice a7 (fi ++ [qv]).length c7).ownBlock = (Value.slice a7 (fi.length + 1) c7).ownBlock := by rw [List.length_append]; rfl
                have e2 : some g = (Value.slice a7 (fi.length + 1) c7).ownBlock := by rw [← h1]; exact e
                rcases HC7.out with h | h
                · exact HDd.out g hg (e2.trans h)
                · rw [h] at e2
                  injection e2 with e2
                  have := (World.ownsRow.lt HON.out g hg).2
                  simp at e2
                  omega
            clear hW8 d7 f7 b0 b1 b2 b3 b4 b5 a2 HX7 HX HON HOW HOF HOL HDd HO7 HG7 HC7 hn7 hw7 hl7 hm7 HN3' HJ hlR
            cases hc2 : cutO 10 r with
            | none =>
              have HY : Hid (q = none) := by show q = none; rw [HQ2.out, hc2]
              have HC := hidV (lineN30 HN8.out hc2)
              clear hc2 HQ2
              go_wp2_with (first
                | (go_at_call 36; refine HC.out.mono ?_; rintro e w4 ⟨rfl, hb4⟩))
              exact ⟨rfl, RfiQ.no HY.out (HB8.out.trans hb4)⟩
            | some p =>
              obtain ⟨t', r'⟩ := p
              have HLr : Hid (t'.length + r'.length + 1 = r.length) := by show _ = _; have := (cutO_inv hc2).1; rw [this, List.length_append, List.length_cons]; omega
              have HQ3 : Hid (q = firU (r'.length + 1) t' r' a (fi ++ [qv])) := by
                show q = _
                rw [HQ2.out, hc2]
                exact firU_fuel r.length (r'.length + 1) t' r' _ _ (by have := HLr.out; omega) (by omega)
              have HC := hidV (lineN3 HN8.out (by have := HLn.out; omega) hc2)
              have HL3 : Hid ((fi ++ [qv]).length + t'.length + r'.length ≤ 1048576) := by show _ ≤ _; rw [List.length_append]; have := HLr.out; have := HLn.out; simp only [List.length_cons, List.length_nil]; omega
              clear hc2 HQ2
              go_wp2_with (first
                | (go_at_call 36; refine HC.out.mono ?_; rintro e w4 ⟨rfl, hn4, hb4⟩; have HN4 := hidV hn4; have HB4 := hidV (HB8.out.trans hb4); clear hn4 hb4))
              go_roundg r'.length
              case measure => have := HLr.out; omega
              case rel => exact ⟨t', r', _, rfl, rfl, HQ3.out, HN4.out, HL3.out, HB4.out⟩
end Go.Proofs.YtodpljgajjcdoaaGreatDoor

/- Layer 19 of the program: changes are read. -/
namespace Go.Proofs.YtodpljgajjcdoaaGreatDoor
set_option maxRecDepth 100000
open Go.RowKit Lg Nl Go.Maps Wf Vd
set_option linter.unusedVariables false
set_option linter.unusedSimpArgs false

/-- does a line tell a time -/
def isT : List UInt8 → Bool
  | [] => false
  | x :: _ => x == 35
theorem pf_S (t : List UInt8) : pfB 35 (S t) = isT t := by
  unfold pfB isT
  rw [L_S]
  cases t <;> rfl
theorem tl_S (t : List UInt8) : tlS (S t) = S (t.drop 1) := by unfold tlS; rw [L_S]
def chM : Nat → List UInt8 → Cds → Int → List Ch → Option (List Ch)
  | 0, _, _, _, _ => none
  | k + 1, l, a, z, li => if l = [] then some li else match cutO 10 l with
    | none => none
    | some (t, r) => if isT t then (match numA (t.drop 1) with | none => none | some z' => chM k r a z' li) else match valM a t with
      | none => none
      | some (n, v) => chM k r a z (li ++ [⟨z, n, S v⟩])
theorem chM_fuel : ∀ (k k' : Nat) (l : List UInt8) (a : Cds) (z : Int) (li : List Ch), l.length < k → l.length < k' → chM k l a z li = chM k' l a z li
  | 0, _, l, _, _, _, h, _ => absurd h (Nat.not_lt_zero _)
  | _ + 1, 0, l, _, _, _, _, h => absurd h (Nat.not_lt_zero _)
  | k + 1, k' + 1, l, a, z, li, h, h' => by
    unfold chM
    by_cases e : l = []
    · rw [if_pos e, if_pos e]
    · rw [if_neg e, if_neg e]
      cases hc : cutO 10 l with
      | none => rfl
      | some p =>
        obtain ⟨t, r⟩ := p
        have hl := (cutO_inv hc).1
        have hr : r.length + 1 + t.length = l.length := by rw [hl, List.length_append, List.length_cons]; omega
        simp only
        by_cases et : isT t = true
        · rw [if_pos et, if_pos et]
          cases hn : numA (t.drop 1) with
          | none => rfl
          | some z' => exact chM_fuel k k' r a z' li (by omega) (by omega)
        · rw [if_neg et, if_neg et]
          cases hn : valM a t with
          | none => rfl
          | some p =>
            obtain ⟨n, v⟩ := p
            exact chM_fuel k k' r a z _ (by omega) (by omega)
def changesM (l : List UInt8) (a : Cds) : Option (List Ch) := chM (l.length + 1) l a 0 []
def RcQ (B R mb : Nat) (w : World) (a : Cds) (nm : List ByteArray) (wd : List Int) (fi : List ByteArray) (q : Option (List Ch)) (e : Ending) (w' : World) : Prop := Below B w w' ∧ match q with
  | some li => e = .returned (.tuple #[]) ∧ N3 B R mb w' (S []) a ⟨nm, wd, fi, li⟩
  | none => e = .panicked pnV
theorem RcQ.no {B R mb : Nat} {w w' : World} {a : Cds} {nm : List ByteArray} {wd : List Int} {fi : List ByteArray} {q : Option (List Ch)} (hq : q = none) (hb : Below B w w') : RcQ B R mb w a nm wd fi q (.panicked pnV) w' := by
  subst hq; exact ⟨hb, rfl⟩
theorem RcQ.yes {B R mb : Nat} {w w' : World} {a : Cds} {nm : List ByteArray} {wd : List Int} {fi : List ByteArray} {q : Option (List Ch)} {li : List Ch} (hq : q = some li) (hb : Below B w w') (h : N3 B R mb w' (S []) a ⟨nm, wd, fi, li⟩) : RcQ B R mb w a nm wd fi q (.returned (.tuple #[])) w' := by
  subst hq; exact ⟨hb, rfl, h⟩
set_option maxHeartbeats 4000000 in
set_option maxRecDepth 100000 in
theorem rchanges_c (w0 w : World) (R mb : Nat) (l : List UInt8) (a : Cds) (nm : List ByteArray) (wd : List Int) (fi : List ByteArray) (h : N3 w0.heap.size R mb w (S l) a ⟨nm, wd, fi, []⟩) (hW : Below w0.heap.size w0 w) (hl : l.length ≤ 1048576) (hF : changesM l a = none → NumF w0) :
    Calls Tryz.prog 23 #[.pointer (some ⟨R, 0, none⟩)] w fun e w' => RcQ w0.heap.size R mb w a nm wd fi (changesM l a) e w' := by
  have HN := hidV h
  have HW := hidV hW
  have HL := hidV hl
  have HF := hidV hF
  obtain ⟨q, hq⟩ : ∃ q, q = changesM l a := ⟨_, rfl⟩
  have HD : Hid (q = chM (l.length + 1) l a 0 []) := hq
  rw [← hq] at HF ⊢
  clear h hW hl hF hq
  go_enter Tryz.func23, Tryz.ntmps23
  go_upto_region 1 with fail
  go_loopg [2] l.length (fun g s2 wr => ∃ (r : List UInt8) (z : Int) (li : List Ch), s2 = .int .i64 z ∧ g = r.length ∧ Hid (q = chM (r.length + 1) r a z li) ∧ Hid (N3 w0.heap.size R mb wr (S r) a ⟨nm, wd, fi, li⟩) ∧ Hid (li.length + r.length ≤ 1048576) ∧ Hid (Below w0.heap.size w wr))
  case atStart => exact ⟨l, 0, [], rfl, rfl, HD.out, HN.out, by show _ ≤ _; have := HL.out; simp only [List.length_nil]; omega, Below.refl _ _⟩
  case round =>
    obtain ⟨l1, z, li, rfl, rfl, HQ, HNx, HLn, HBx⟩ := hrel
    obtain ⟨wx, hwx⟩ : ∃ wx, wx = wr := ⟨_, rfl⟩
    rw [← hwx] at HNx HBx ⊢
    clear hwx HN HD
    have HWx := hidV (HW.out.trans HBx.out)
    obtain ⟨an, cn, aw, cw, af, cf, al, cl, hbx, _⟩ := HNx.out.bx
    obtain ⟨b0, b1, b2, b3, b4, b5⟩ := cells6 hbx
    clear hbx b1 b2 b3 b4 b5
    by_cases h0 : l1 = []
    · have e0 : (S l1).toList.isEmpty = true := by rw [toL, L_S, h0]; rfl
      have HY : Hid (q = some li) := by show q = _; rw [HQ.out]; unfold chM; rw [if_pos h0]
      have HN9 : Hid (N3 w0.heap.size R mb wx (S []) a ⟨nm, wd, fi, li⟩) := by rw [← h0]; exact HNx.out
      clear h0 HQ
      generalize S l1 = sl at *
      go_wp2_with fail
      go_end0
      exact RcQ.yes HY.out HBx.out HN9.out
    · have e0 : (S l1).toList.isEmpty = false := by
        rw [toL, L_S]
        cases l1 with
        | nil => exact absurd rfl h0
        | cons x y => rfl
      have HQ1 : Hid (q = match cutO 10 l1 with | none => none | some (t, r) => if isT t then (match numA (t.drop 1) with | none => none | some z' => chM l1.length r a z' li) else match valM a t with | none => none | some (n, v) => chM l1.length r a z (li ++ [⟨z, n, S v⟩])) := by show q = _; rw [HQ.out]; conv => lhs; unfold chM; rw [if_neg h0]
      clear h0 HQ
      cases hc : cutO 10 l1 with
      | none =>
        have HY : Hid (q = none) := by show q = none; rw [HQ1.out, hc]
        have HC := hidV (lineN30 HNx.out hc)
        clear hc HQ1
        generalize S l1 = sl at *
        go_wp2_with (first
          | (go_at_call 36; refine HC.out.mono ?_; rintro e w2 ⟨rfl, hb2⟩))
        exact ⟨rfl, RcQ.no HY.out (HBx.out.trans hb2)⟩
      | some p =>
        obtain ⟨t, r⟩ := p
        have HC := hidV (lineN3 HNx.out (by have := HLn.out; omega) hc)
        have HLc : Hid (t.length + r.length + 1 = l1.length) := by show _ = _; have := (cutO_inv hc).1; rw [this, List.length_append, List.length_cons]; omega
        have HQ2 : Hid (q = if isT t then (match numA (t.drop 1) with | none => none | some z' => chM l1.length r a z' li) else match valM a t with | none => none | some (n, v) => chM l1.length r a z (li ++ [⟨z, n, S v⟩])) := by show q = _; rw [HQ1.out, hc]
        have HCp := hidV (fun W => cutp_c (S t) 35 W (by rw [size_S]; have := HLn.out; have := HLc.out; omega))
        rw [pf_S, tl_S] at HCp
        clear hc HQ1
        by_cases ht : isT t = true
        · rw [ht, if_pos rfl] at HCp
          cases hn : numA (t.drop 1) with
          | none =>
            have HY : Hid (q = none) := by show q = none; rw [HQ2.out, if_pos ht, hn]
            have HNo : Hid (∀ W, Below w0.heap.size w0 W → Calls Tryz.prog 40 #[.string (S (t.drop 1))] W fun e w' => e = .panicked pnV ∧ Below W.heap.size W w') := fun W hW' => (HF.out HY.out) W (S (t.drop 1)) hW' (by rw [size_S, List.length_drop]; have := HLn.out; have := HLc.out; omega) (by rw [L_S]; exact hn)
            clear hn ht HQ2
            generalize S (t.drop 1) = qd at *
            generalize S t = qt at *
            generalize S l1 = sl at *
            go_upto_region 5 with (first
              | (go_at_call 36; refine HC.out.mono ?_; rintro e w2 ⟨rfl, hn2, hb2⟩; have HN2 := hidV hn2; have HB2 := hidV (HBx.out.trans hb2); clear hn2 hb2)
              | (go_at_call 39; refine (HCp.out _).mono ?_; rintro e w3 ⟨rfl, rfl⟩))
            go_wp2_with (first
              | (go_at_call 40; refine (HNo.out _ (HW.out.trans HB2.out)).mono ?_; rintro e w4 ⟨rfl, hb4⟩))
            exact ⟨rfl, RcQ.no HY.out (HB2.out.trans (hb4.mono (Nat.le_trans HW.out.size HB2.out.size)))⟩
          | some z' =>
            have HY : Hid (q = chM (r.length + 1) r a z' li) := by show q = _; rw [HQ2.out, if_pos ht, hn]; exact chM_fuel _ _ _ _ _ _ (by have := HLc.out; omega) (by omega)
            have HNo := hidV (fun W => number_ok (S (t.drop 1)) z' W (by rw [L_S]; exact hn) (by rw [size_S, List.length_drop]; have := HLn.out; have := HLc.out; omega))
            clear hn ht HQ2
            generalize S (t.drop 1) = qd at *
            generalize S t = qt at *
            generalize S l1 = sl at *
            go_upto_region 5 with (first
              | (go_at_call 36; refine HC.out.mono ?_; rintro e w2 ⟨rfl, hn2, hb2⟩; have HN2 := hidV hn2; have HB2 := hidV (HBx.out.trans hb2); clear hn2 hb2)
              | (go_at_call 39; refine (HCp.out _).mono ?_; rintro e w3 ⟨rfl, rfl⟩))
            go_wp2_with (first
              | (go_at_call 40; refine (HNo.out _).mono ?_; rintro e w4 ⟨rfl, hb4⟩; have HN4 := hidV (HN2.out.below hb4); have HB4 := hidV (HB2.out.trans (hb4.mono (Nat.le_trans HW.out.size HB2.out.size))); clear hb4))
            go_roundg r.length
            case measure => have := HLc.out; omega
            case rel => exact ⟨r, z', li, rfl, rfl, HY.out, HN4.out, by show _ ≤ _; have := HLc.out; have := HLn.out; omega, HB4.out⟩
        · have ht' : isT t = false := by simpa using ht
          rw [ht'] at HCp
          cases hn : valM a t with
          | none =>
            have HY : Hid (q = none) := by show q = none; rw [HQ2.out, if_neg ht, hn]
            have HV : Hid (∀ W, N3 w0.heap.size R mb W (S r) a ⟨nm, wd, fi, li⟩ → w0.heap.size ≤ W.heap.size → Calls Tryz.prog 38 #[.pointer (some ⟨R, 0, none⟩), .string (S t)] W fun e w' => e = .panicked pnV ∧ Below w0.heap.size W w') := fun W h1 h2 => valN30 h1 h2 (by have := HLn.out; have := HLc.out; omega) hn
            clear hn ht ht' HQ2
            replace HCp : Hid (∀ W, Calls Tryz.prog 39 #[.string (S t), .string ⟨#[35]⟩] W fun e w' => e = .returned (.tuple #[.string (S t), .bool false]) ∧ W = w') := HCp.out
            generalize S t = qt at *
            generalize S l1 = sl at *
            go_upto_region 6 with (first
              | (go_at_call 36; refine HC.out.mono ?_; rintro e w2 ⟨rfl, hn2, hb2⟩; have HN2 := hidV hn2; have HB2 := hidV (HBx.out.trans hb2); clear hn2 hb2)
              | (go_at_call 39; refine (HCp.out _).mono ?_; rintro e w3 ⟨rfl, rfl⟩))
            go_wp2_with (first
              | (go_at_call 38; refine (HV.out _ HN2.out (Nat.le_trans HW.out.size HB2.out.size)).mono ?_; rintro e w4 ⟨rfl, hb4⟩))
            exact ⟨rfl, RcQ.no HY.out (HB2.out.trans hb4)⟩
          | some p =>
            obtain ⟨n, v⟩ := p
            have HY : Hid (q = chM (r.length + 1) r a z (li ++ [⟨z, n, S v⟩])) := by show q = _; rw [HQ2.out, if_neg ht, hn]; exact chM_fuel _ _ _ _ _ _ (by have := HLc.out; omega) (by omega)
            have HV : Hid (∀ W, N3 w0.heap.size R mb W (S r) a ⟨nm, wd, fi, li⟩ → w0.heap.size ≤ W.heap.size → Calls Tryz.prog 38 #[.pointer (some ⟨R, 0, none⟩), .string (S t)] W fun e w' => e = .returned (.tuple #[.int .i64 n, .string (S v)]) ∧ N3 w0.heap.size R mb w' (S r) a ⟨nm, wd, fi, li⟩ ∧ Below w0.heap.size W w') := fun W h1 h2 => valN3 h1 h2 (by have := HLn.out; have := HLc.out; omega) hn
            clear hn ht ht' HQ2
            replace HCp : Hid (∀ W, Calls Tryz.prog 39 #[.string (S t), .string ⟨#[35]⟩] W fun e w' => e = .returned (.tuple #[.string (S t), .bool false]) ∧ W = w') := HCp.out
            generalize S t = qt at *
            generalize S l1 = sl at *
            generalize S v = qv at *
            go_upto_region 6 with (first
              | (go_at_call 36; refine HC.out.mono ?_; rintro e w2 ⟨rfl, hn2, hb2⟩; have HN2 := hidV hn2; have HB2 := hidV (HBx.out.trans hb2); clear hn2 hb2)
              | (go_at_call 39; refine (HCp.out _).mono ?_; rintro e w3 ⟨rfl, rfl⟩))
            go_upto_region 7 with (first
              | (go_at_call 38; refine (HV.out _ HN2.out (Nat.le_trans HW.out.size HB2.out.size)).mono ?_; rintro e w4 ⟨rfl, hn4, hb4⟩; have HN3' := hidV hn4; have HB3 := hidV (HB2.out.trans hb4); clear hn4 hb4))
            clear HV HCp HC HN2 b0 HNx
            have HZ3 : Hid (w0.heap.size ≤ w4.heap.size) := Nat.le_trans HW.out.size HB3.out.size
            obtain ⟨an, cn, aw, cw, af, cf, al, cl, hbx, hon, how, hof, hol, hd⟩ := HN3'.out.bx
            obtain ⟨b0, b1, b2, b3, b4, b5⟩ := cells6 hbx
            have HX := hidV hbx
            have HON := hidV hon
            have HOW := hidV how
            have HOF := hidV hof
            have HOL := hidV hol
            have HDd := hidV hd
            have hlR := hLt hbx
            clear hbx hon how hof hol hd
            obtain ⟨jj, HJ⟩ : ∃ jj, Hid (Tryz.prog.info? 34 = some jj ∧ jj.zero = some (.agg #[.int .i64 0, .int .i64 0, .string ⟨#[]⟩]) ∧ jj.size = 3 ∧ jj.bytes = 32) := infoCh
            have a2 : (w4.alloc (.cells #[.int .i64 z, .int .i64 n, .string qv] 34)).cell? ⟨R, 5, none⟩ = some (.slice al li.length cl) := by rw [Lib.cell_of_heap ((alOld hlR).trans HX.out)]; rfl
            go_wp2_with (first
              | (at_builtin; refine wpList_append_own_at _ rfl _ _ 25 rfl w0.heap.size 34 jj _ 3 32 Tryz.underlying25 HJ.out.1 HJ.out.2.1 HJ.out.2.2.1 HJ.out.2.2.2 rfl (by decide) (.slice al li.length cl) li.length (chs li) rfl (HOL.out.alloc _) ⟨w4.heap.size, 0, none⟩ 1 1 [.int .i64 z, .int .i64 n, .string qv] rfl rfl (fun j u hj => new3 _ ⟨z, n, qv⟩ 34 _ rfl j u hj) (one3 ⟨z, n, qv⟩) (by have := HLn.out; unfold maxLen; omega) (by have := HLn.out; omega) (Nat.le_trans HZ3.out (by simp)) ?_; intro v7 w7 hown7 hgrow7 hnil7 hloc7; obtain ⟨a7, c7, rfl⟩ := own_slice hown7; have HO7 := hidV hown7; have HG7 := hidV hgrow7; have hx7 : w7.heap[R]? = some (.cells #[.string (S r), .map (some mb), .slice an nm.length cn, .slice aw wd.length cw, .slice af fi.length cf, .slice al li.length cl] 55 (0, 0)) := (hgrow7.block R (by simp; omega) (fun e => own_ne HOL.out HX.out (rd_ne_c _ _) e.symm)).trans ((alOld hlR).trans HX.out); have HX7 := hidV hx7; have d7 : w7.cell? ⟨R, 5, none⟩ = some (.slice al li.length cl) := (by rw [Lib.cell_of_heap hx7]; rfl); have f7 : w7.frozen? ⟨R, 5, none⟩ = false := Lib.frozen_of_heap hx7 5; clear hown7 hgrow7 hnil7 hloc7 hx7))
            have HB7 : Hid (Below w0.heap.size w w7) := gB (HB3.out.alloc HZ3.out (.cells #[.int .i64 z, .int .i64 n, .string qv] 34)) HG7.out (fun g e => (World.ownsRow.lt HOL.out g e).1) (Nat.le_trans HZ3.out (by simp))
            have HB8 : Hid (Below w0.heap.size w (w7.setCell ⟨R, 5, none⟩ (.slice a7 (li.length + 1) c7))) := HB7.out.setCell (p := ⟨R, 5, none⟩) HN3'.out.rb.1 _
            have hn7 : w7.ownsRow w0.heap.size 9 1 (.slice an nm.length cn) nm.length (sC nm) := own_grown (HON.out.alloc _) HG7.out (own_own HON.out HOL.out (by decide))
            have hw7 : w7.ownsRow w0.heap.size 3 1 (.slice aw wd.length cw) wd.length (iC wd) := own_grown (HOW.out.alloc _) HG7.out (own_own HOW.out HOL.out (by decide))
            have hf7 : w7.ownsRow w0.heap.size 9 1 (.slice af fi.length cf) fi.length (sC fi) := own_grown (HOF.out.alloc _) HG7.out (own_own HOF.out HOL.out (by decide))
            have hm7 : Mc mb a w7 := HN3'.out.mc.keep ((HG7.out.block mb (by have := HN3'.out.mc.lt; simp; omega) (HN3'.out.mc.neRow HOL.out)).trans (alOld HN3'.out.mc.lt))
            have HN8 : Hid (N3 w0.heap.size R mb (w7.setCell ⟨R, 5, none⟩ (.slice a7 (li.length + 1) c7)) (S r) a ⟨nm, wd, fi, li ++ [⟨z, n, qv⟩]⟩) := by
              refine ⟨⟨an, cn, aw, cw, af, cf, a7, c7, ?_, own_set hn7 (own_ne hn7 HX7.out (rd_ne_s _ _)), own_set hw7 (own_ne hw7 HX7.out (rd_ne_i _ _)), own_set hf7 (own_ne hf7 HX7.out (rd_ne_s _ _)), ?_, HDd.out⟩, hm7.keep (Below.heap_setCell _ _ _ _ (show mb ≠ R from HN3'.out.neq)), HN3'.out.rb⟩
              · show _ = some (Obj.cells #[_, _, _, _, _, .slice a7 (li ++ [_]).length c7] _ _)
                rw [List.length_append]
                exact set65 HX7.out
              · show World.ownsRow _ _ _ _ (.slice a7 (li ++ [_]).length c7) (li ++ [_]).length (chs (li ++ [_]))
                rw [List.length_append, show chs (li ++ [(⟨z, n, qv⟩ : Ch)]) = chs li ++ [.int .i64 z, .int .i64 n, .string qv] from by unfold chs; rw [List.flatMap_append]; rfl]
                exact own_set HO7.out (own_ne HO7.out HX7.out (rd_ne_c _ _))
            go_roundg r.length
            case measure => have := HLc.out; omega
            case rel => exact ⟨r, z, li ++ [Ch.mk z n qv], rfl, rfl, HY.out, HN8.out, by show _ ≤ _; rw [List.length_append]; have := HLc.out; have := HLn.out; simp only [List.length_cons, List.length_nil]; omega, HB8.out⟩
end Go.Proofs.YtodpljgajjcdoaaGreatDoor

/- Texts UR US UT, joined: what each part says stands ahead of it. -/
import Derived.Test.YtodpljgajjcdoaaGreatDoorGUo
import Derived.Test.YtodpljgajjcdoaaGreatDoorDJ
/- Layer 19 of the program: a dump is read, or given up. -/
namespace Go.Proofs.YtodpljgajjcdoaaGreatDoor
set_option maxRecDepth 100000
open Go.RowKit Lg Nl Go.Maps Wf Vd
set_option linter.unusedVariables false
set_option linter.unusedSimpArgs false

def nilS : Value := .slice none 0 0
/-- what the bytes tell -/
def readM (l : List UInt8) : Option Wv := match declM l with
  | none => none
  | some (r, a, nm, wd) => match firstM r a with
    | none => none
    | some (r2, fi) => (changesM r2 a).map fun li => ⟨nm, wd, fi, li⟩
theorem Mc.new (w : World) : Mc w.heap.size [] (w.alloc (.map #[] 0)) := ⟨⟨_, World.ownsMap_made w Tryz.prog 9 (plainElem Tryz.prog 3), ⟨isMap_empty, fun x => ⟨fun _ => rfl, fun b h => by cases h⟩⟩⟩⟩
theorem NumF.later {w w' : World} (h : NumF w) (hb : Below w.heap.size w w') : NumF w' := fun W s hW hs hn => h W s (bel hb hW) hs hn
theorem put4 {W : World} {b : Nat} {y0 y1 y2 y3 z0 z1 z2 z3 : Value} {t : TypeId} (h : W.heap[b]? = some (.cells #[y0, y1, y2, y3] t (0, 0))) : ((((W.setCell ⟨b, 0, none⟩ z0).setCell ⟨b, 1, none⟩ z1).setCell ⟨b, 2, none⟩ z2).setCell ⟨b, 3, none⟩ z3).heap[b]? = some (.cells #[z0, z1, z2, z3] t (0, 0)) := by
  simp only [World.setCell]
  rw [Array.getElem?_modify, if_pos rfl, Array.getElem?_modify, if_pos rfl, Array.getElem?_modify, if_pos rfl, Array.getElem?_modify, if_pos rfl, h]; rfl
theorem put4f {W : World} {b k : Nat} {z0 z1 z2 z3 : Value} (h : k ≠ b) : ((((W.setCell ⟨b, 0, none⟩ z0).setCell ⟨b, 1, none⟩ z1).setCell ⟨b, 2, none⟩ z2).setCell ⟨b, 3, none⟩ z3).heap[k]? = W.heap[k]? :=
  (Below.heap_setCell _ _ _ _ (show k ≠ b from h)).trans ((Below.heap_setCell _ _ _ _ (show k ≠ b from h)).trans ((Below.heap_setCell _ _ _ _ (show k ≠ b from h)).trans (Below.heap_setCell _ _ _ _ (show k ≠ b from h))))
theorem netsM_len : ∀ (k : Nat) (l : List UInt8) (a : Cds) (nm : List ByteArray) (wd : List Int) (r : List UInt8) (a' : Cds) (nm' : List ByteArray) (wd' : List Int), netsM k l a nm wd = some (r, a', nm', wd') → r.length ≤ l.length
  | 0, _, _, _, _, _, _, _, _, h => by cases h
  | k + 1, l, a, nm, wd, r, a', nm', wd', h => by
    rw [netsM_succ] at h
    cases hc : cutO 10 l with
    | none => rw [hc] at h; cases h
    | some p =>
      obtain ⟨t, q⟩ := p
      rw [hc] at h
      have h : netsU k t q a nm wd = some (r, a', nm', wd') := h
      have hl := (cutO_inv hc).1
      have hq : q.length ≤ l.length := by rw [hl, List.length_append, List.length_cons]; omega
      unfold netsU at h
      by_cases e : t = upT
      · rw [if_pos e] at h
        injection h with h
        injection h with h _
        rw [← h]; exact hq
      · rw [if_neg e] at h
        cases hn : netM t with
        | none => rw [hn] at h; cases h
        | some p =>
          obtain ⟨c, n, v⟩ := p
          rw [hn] at h
          exact Nat.le_trans (netsM_len k q _ _ _ r a' nm' wd' h) hq
theorem declM_len {l r : List UInt8} {a : Cds} {nm : List ByteArray} {wd : List Int} (h : declM l = some (r, a, nm, wd)) : r.length ≤ l.length := by
  unfold declM at h
  cases hf : fixM [tsT, scT] l with
  | none => rw [hf] at h; cases h
  | some l1 =>
    rw [hf] at h
    simp only at h
    cases hn : netsM (l1.length + 1) l1 [] [] [] with
    | none => rw [hn] at h; cases h
    | some p =>
      obtain ⟨r1, a1, nm1, wd1⟩ := p
      rw [hn] at h
      simp only at h
      cases hf2 : fixM [deT] r1 with
      | none => rw [hf2] at h; cases h
      | some r2 =>
        rw [hf2] at h
        simp only [Option.map_some, Option.some.injEq, Prod.mk.injEq] at h
        have h0 := congrArg List.length h.1
        have h1 := fixM_len _ _ _ hf
        have h2 := netsM_len _ _ _ _ _ _ _ _ _ hn
        have h3 := fixM_len _ _ _ hf2
        omega
theorem firM_len : ∀ (k : Nat) (l : List UInt8) (a : Cds) (fi : List ByteArray) (r : List UInt8) (fi' : List ByteArray), firM k l a fi = some (r, fi') → r.length ≤ l.length
  | 0, _, _, _, _, _, h => by cases h
  | k + 1, l, a, fi, r, fi', h => by
    rw [firM_succ] at h
    cases hc : cutO 10 l with
    | none => rw [hc] at h; cases h
    | some p =>
      obtain ⟨t, q⟩ := p
      rw [hc] at h
      have h : firU k t q a fi = some (r, fi') := h
      have hl := (cutO_inv hc).1
      have hq : q.length ≤ l.length := by rw [hl, List.length_append, List.length_cons]; omega
      unfold firU at h
      by_cases e : t = enT
      · rw [if_pos e] at h
        injection h with h
        injection h with h _
        rw [← h]; exact hq
      · rw [if_neg e] at h
        cases hn : valM a t with
        | none => rw [hn] at h; cases h
        | some p =>
          obtain ⟨n, v⟩ := p
          rw [hn] at h
          exact Nat.le_trans (firM_len k q _ _ r fi' h) hq
theorem firstM_len {l r : List UInt8} {a : Cds} {fi : List ByteArray} (h : firstM l a = some (r, fi)) : r.length ≤ l.length := by
  unfold firstM at h
  cases hf : fixM [dvT] l with
  | none => rw [hf] at h; cases h
  | some l1 =>
    rw [hf] at h
    have h1 := fixM_len _ _ _ hf
    have h2 := firM_len _ _ _ _ _ _ h
    omega
set_option maxRecDepth 100000 in
set_option maxHeartbeats 2000000 in
theorem catchRv (B E OB : Nat) (v0 v1 v2 v3 o0 : Value) (w : World) (hE : w.heap[E]? = some (.cells #[v0, v1, v2, v3] 27 (0, 0))) (ho : w.heap[OB]? = some (.cells #[o0] 4 (0, 0))) (hne : E ≠ OB) (h1 : B ≤ E) (h2 : B ≤ OB) :
    CallsD Tryz.prog 20 #[.pointer (some ⟨E, 0, none⟩), .pointer (some ⟨OB, 0, none⟩)] (.panicking pnV) w fun e u' w' =>
      e = .returned (.tuple #[]) ∧ u' = .panicking [{ v := .iface 51 (.agg #[]), recovered := true }] ∧ w'.heap[E]? = some (.cells #[.slice none 0 0, .slice none 0 0, .slice none 0 0, .slice none 0 0] 27 (0, 0)) ∧ w'.heap[OB]? = some (.cells #[.bool false] 4 (0, 0)) ∧ Below B w w' := by
  obtain ⟨c0, c1, c2, c3⟩ := cells4 hE
  have hco : w.cell? ⟨OB, 0, none⟩ = some o0 := by rw [Lib.cell_of_heap ho]; rfl
  have hz0 := Lib.frozen_of_heap hE 0
  have hz1 := Lib.frozen_of_heap hE 1
  have hz2 := Lib.frozen_of_heap hE 2
  have hz3 := Lib.frozen_of_heap hE 3
  have hzo := Lib.frozen_of_heap ho 0
  have hls := hLt hE
  have hlo := hLt ho
  have HS := hidV hE
  have HO := hidV ho
  clear hE ho
  refine callsD_of_wpS Tryz.func20 rfl fun c₀ cs hu => ?_
  have hu2 : c₀.mode = .panicking [{ v := .iface 51 (.agg #[]), recovered := false }] := hu
  apply wpS_seq
  apply wpS_region
  simp [wpOpsS, go_sem, recoverD, hu2, Tryz.ntmps20, Exit.thenS, asV_yes, Array.replicate]
  refine wpS_of_wp ?_
  go_wp2_with fail
  simp [bodyPostS, results, Tryz.results20]
  have e1 := put4 (z0 := .slice none 0 0) (z1 := .slice none 0 0) (z2 := .slice none 0 0) (z3 := .slice none 0 0) HS.out
  have e3 := put4f (z0 := .slice none 0 0) (z1 := .slice none 0 0) (z2 := .slice none 0 0) (z3 := .slice none 0 0) (W := w) (b := E) (k := OB) (Ne.symm hne)
  have hb4 : Below B w ((((w.setCell ⟨E, 0, none⟩ (.slice none 0 0)).setCell ⟨E, 1, none⟩ (.slice none 0 0)).setCell ⟨E, 2, none⟩ (.slice none 0 0)).setCell ⟨E, 3, none⟩ (.slice none 0 0)) := ((((Below.refl B w).setCell (p := ⟨E, 0, none⟩) h1 _).setCell (p := ⟨E, 1, none⟩) h1 _).setCell (p := ⟨E, 2, none⟩) h1 _).setCell (p := ⟨E, 3, none⟩) h1 _
  generalize (((w.setCell ⟨E, 0, none⟩ (.slice none 0 0)).setCell ⟨E, 1, none⟩ (.slice none 0 0)).setCell ⟨E, 2, none⟩ (.slice none 0 0)).setCell ⟨E, 3, none⟩ (.slice none 0 0) = W at *
  have f1 : (W.setCell ⟨OB, 0, none⟩ (.bool false)).heap[E]? = some (.cells #[.slice none 0 0, .slice none 0 0, .slice none 0 0, .slice none 0 0] 27 (0, 0)) := (set_far hne).trans e1
  have f2 : (W.setCell ⟨OB, 0, none⟩ (.bool false)).heap[OB]? = some (.cells #[.bool false] 4 (0, 0)) := set10 (e3.trans HO.out)
  have hb5 := hb4.setCell (p := ⟨OB, 0, none⟩) h2 (.bool false)
  generalize W.setCell ⟨OB, 0, none⟩ (.bool false) = V at *
  have hb2 : Below V.heap.size V (V.alloc (.cells #[] 51)) := belA (Below.refl _ _) _
  exact ⟨(hb2.block E (hLt f1)).trans f1, (hb2.block OB (hLt f2)).trans f2, hb5.trans (hb2.mono (by have := hLt f1; omega))⟩
set_option maxRecDepth 100000 in
set_option maxHeartbeats 2000000 in
theorem catchRi (E OB : Nat) (w : World) :
    CallsD Tryz.prog 20 #[.pointer (some ⟨E, 0, none⟩), .pointer (some ⟨OB, 0, none⟩)] .returning w fun e u' w' => e = .returned (.tuple #[]) ∧ u' = .returning ∧ w' = w.alloc (.cells #[] 51) := by
  refine callsD_of_wpS Tryz.func20 rfl fun c₀ cs hu => ?_
  apply wpS_seq
  apply wpS_region
  simp [wpOpsS, go_sem, recoverD, hu, Tryz.ntmps20, Exit.thenS, asV_no, Array.replicate]
  refine wpS_of_wp ?_
  have hy := asV_no
  go_wp2_with fail
  cases c₀
  simp_all [bodyPostS, results, Tryz.results20]
/-- what read tells -/
def RrQ (w : World) (q : Option Wv) (e : Ending) (w' : World) : Prop := Below w.heap.size w w' ∧ match q with
  | some x => ∃ an cn aw_ cw af cf al cl, e = .returned (.tuple #[.agg #[.slice an x.nm.length cn, .slice aw_ x.wd.length cw, .slice af x.fi.length cf, .slice al x.li.length cl], .bool true]) ∧ WvAt w' (.slice an x.nm.length cn) (.slice aw_ x.wd.length cw) (.slice af x.fi.length cf) (.slice al x.li.length cl) x
  | none => e = .returned (.tuple #[.agg #[.slice none 0 0, .slice none 0 0, .slice none 0 0, .slice none 0 0], .bool false])
theorem RrQ.no {w w' : World} {q : Option Wv} (hq : q = none) (hb : Below w.heap.size w w') : RrQ w q (.returned (.tuple #[.agg #[.slice none 0 0, .slice none 0 0, .slice none 0 0, .slice none 0 0], .bool false])) w' := by
  subst hq; exact ⟨hb, rfl⟩
theorem RrQ.yes {w w' : World} {q : Option Wv} {x : Wv} {an aw_ af al : Option Addr} {cn cw cf cl : Nat} (hq : q = some x) (hb : Below w.heap.size w w') (h : WvAt w' (.slice an x.nm.length cn) (.slice aw_ x.wd.length cw) (.slice af x.fi.length cf) (.slice al x.li.length cl) x) : RrQ w q (.returned (.tuple #[.agg #[.slice an x.nm.length cn, .slice aw_ x.wd.length cw, .slice af x.fi.length cf, .slice al x.li.length cl], .bool true])) w' := by
  subst hq; exact ⟨hb, an, cn, aw_, cw, af, cf, al, cl, rfl, h⟩
set_option maxRecDepth 100000 in
set_option maxHeartbeats 8000000 in
theorem read_c (l : List UInt8) (w : World) (hl : l.length ≤ 1048576) (hF : readM l = none → NumF w) :
    Calls Tryz.prog 10 #[.string (S l)] w fun e w' => RrQ w (readM l) e w' := by
  have hmf : ∀ (fn : Fn) (first cap : Array Value) (w : World), (Instr.makeFunc fn first cap).run Tryz.prog w = .ok (.func fn first cap) w := fun _ _ _ _ => rfl
  have hmm := @run_makeMap Tryz.prog
  obtain ⟨W0, hW0⟩ : ∃ W0, W0 = (w.alloc (.cells #[.slice none 0 0, .slice none 0 0, .slice none 0 0, .slice none 0 0] 27)).alloc (.cells #[.bool false] 4) := ⟨_, rfl⟩
  have hz0 : W0.heap.size = w.heap.size + 1 + 1 := by rw [hW0]; simp
  have hb0 : Below w.heap.size w W0 := by rw [hW0]; exact belA (belA (Below.refl _ _) _) _
  have hE0 : W0.heap[w.heap.size]? = some (.cells #[.slice none 0 0, .slice none 0 0, .slice none 0 0, .slice none 0 0] 27 (0, 0)) := by rw [hW0]; exact (alOld (by simp)).trans (alAt rfl)
  have hO0 : W0.heap[w.heap.size + 1]? = some (.cells #[.bool false] 4 (0, 0)) := by rw [hW0]; exact alAt (by simp)
  obtain ⟨W4, hW4⟩ : ∃ W4, W4 = (W0.alloc (.map #[] 0)).alloc (.cells #[.string (S l), .map (some (w.heap.size + 1 + 1)), .slice none 0 0, .slice none 0 0, .slice none 0 0, .slice none 0 0] 55) := ⟨_, rfl⟩
  have hb4 : Below W0.heap.size W0 W4 := by rw [hW4]; exact belA (belA (Below.refl _ _) _) _
  have hm4 : Mc (w.heap.size + 1 + 1) [] W4 := by rw [hW4, ← hz0]; exact (Mc.new W0).keep (alOld (by simp))
  have hR4 : W4.heap[w.heap.size + 1 + 1 + 1]? = some (.cells #[.string (S l), .map (some (w.heap.size + 1 + 1)), .slice none 0 0, .slice none 0 0, .slice none 0 0, .slice none 0 0] 55 (0, 0)) := by rw [hW4]; exact alAt (by simp [hz0])
  have hN4 : N1 W0.heap.size (w.heap.size + 1 + 1 + 1) (w.heap.size + 1 + 1) W4 (S l) [] [] [] := ⟨⟨none, 0, none, 0, hR4, World.ownsRow_nil _ _ _ _, World.ownsRow_nil _ _ _ _⟩, hm4, rfl, rfl, by omega⟩
  rw [hW0] at hW4
  obtain ⟨q, hq⟩ : ∃ q, q = readM l := ⟨_, rfl⟩
  rw [← hq] at hF
  have HQ : Hid (q = match declM l with | none => none | some (r, a, nm, wd) => match firstM r a with | none => none | some (r2, fi) => (changesM r2 a).map fun li => ⟨nm, wd, fi, li⟩) := hq
  rw [← hq]
  have HF : Hid (q = none → NumF W0) := fun h => (hF h).later hb0
  have HL := hidV hl
  have HB0 := hidV hb0
  have HN4 := hidV hN4
  have HB4 := hidV hb4
  have HE0 := hidV hE0
  have HO0 := hidV hO0
  have HZ0 := hidV hz0
  clear hq hF hl hb0 hN4 hm4 hR4 hb4 hE0 hO0 hz0 hW0
  obtain ⟨R, hR⟩ : ∃ q, q = w.heap.size + 1 + 1 + 1 := ⟨_, rfl⟩
  obtain ⟨mb, hmb⟩ : ∃ q, q = w.heap.size + 1 + 1 := ⟨_, rfl⟩
  obtain ⟨OB, hOB⟩ : ∃ q, q = w.heap.size + 1 := ⟨_, rfl⟩
  obtain ⟨E, hE⟩ : ∃ q, q = w.heap.size := ⟨_, rfl⟩
  rw [← hR, ← hmb] at HN4
  rw [← hOB] at HO0
  rw [← hE] at HE0
  have HEq : Hid (w.heap.size = E ∧ OB = E + 1 ∧ mb = E + 1 + 1 ∧ R = E + 1 + 1 + 1 ∧ W0.heap.size = E + 1 + 1) := ⟨hE.symm, by rw [hOB, hE], by rw [hmb, hE], by rw [hR, hE], by rw [HZ0.out, hE]⟩
  have HWb : Hid (∀ W, Below W0.heap.size W4 W → Below w.heap.size w W) := fun W hW => bel HB0.out (HB4.out.trans hW)
  have HEw : Hid (∀ W, Below W0.heap.size W4 W → W.heap[E]? = some (.cells #[.slice none 0 0, .slice none 0 0, .slice none 0 0, .slice none 0 0] 27 (0, 0))) := fun W hW => ((HB4.out.trans hW).block E (by have := HEq.out; omega)).trans HE0.out
  have HOw : Hid (∀ W, Below W0.heap.size W4 W → W.heap[OB]? = some (.cells #[.bool false] 4 (0, 0))) := fun W hW => ((HB4.out.trans hW).block OB (by have := HEq.out; omega)).trans HO0.out
  have hE2 := hE.symm
  have hOB2 : OB = E + 1 := by omega
  have hmb2 : mb = OB + 1 := by omega
  have hR2 : R = mb + 1 := by omega
  clear hE hOB hmb hR
  rw [hE2, ← hOB2, ← hmb2] at hW4
  cases hd : declM l with
  | none =>
    have HY : Hid (q = none) := by show q = none; rw [HQ.out, hd]
    have HC := hidV (declared_c W0 W4 R mb l HN4.out HB4.out HL.out (fun _ => HF.out HY.out))
    rw [hd] at HC
    clear hd HQ HF
    go_enter_defers Tryz.func10, Tryz.ntmps10
    go_upto_region 3 with fail
    rw [← hOB2, ← hmb2, ← hR2, ← hW4]
    clear hW4 hOB2 hmb2 hR2 hE2
    go_wp2_with (first
      | (go_at_call 21; refine HC.out.mono ?_; rintro e w5 ⟨hb5, rfl⟩; have HB5 := hidV hb5; clear hb5))
    refine leaves_cons (f := 20) (args := #[.pointer (some ⟨E, 0, none⟩), .pointer (some ⟨OB, 0, none⟩)]) (by simp) (by simp [go_sem]) ?_
    refine (catchRv w.heap.size E OB _ _ _ _ _ w5 (HEw.out _ HB5.out) (HOw.out _ HB5.out) (by have := HEq.out; omega) (by have := HEq.out; omega) (by have := HEq.out; omega)).mono ?_
    rintro e u' w9 ⟨rfl, rfl, hE9, hO9, hbe⟩
    obtain ⟨c0, c1, c2, c3⟩ := cells4 hE9
    have c4 : w9.cell? ⟨OB, 0, none⟩ = some (.bool false) := by rw [Lib.cell_of_heap hO9]; rfl
    have HBe := hidV ((HWb.out _ HB5.out).trans hbe)
    simp [Leaves, settle, results, Tryz.results10, go_sem, c0, c1, c2, c3, c4]
    exact RrQ.no HY.out HBe.out
  | some p =>
    obtain ⟨r, a, nm, wd⟩ := p
    have HC := hidV (declared_c W0 W4 R mb l HN4.out HB4.out HL.out (fun e => by rw [hd] at e; cases e))
    rw [hd] at HC
    have HLr : Hid (r.length ≤ 1048576) := Nat.le_trans (declM_len hd) HL.out
    have HQ1 : Hid (q = match firstM r a with | none => none | some (r2, fi) => (changesM r2 a).map fun li => ⟨nm, wd, fi, li⟩) := by show q = _; rw [HQ.out, hd]
    clear hd HQ
    cases hf : firstM r a with
    | none =>
      have HY : Hid (q = none) := by show q = none; rw [HQ1.out, hf]
      have HC2 : Hid (∀ W, Below W0.heap.size W0 W → N1 W0.heap.size R mb W (S r) a nm wd → Calls Tryz.prog 22 #[.pointer (some ⟨R, 0, none⟩)] W fun e w' => Below W0.heap.size W w' ∧ e = .panicked pnV) := fun W h1 h2 => by
        have h := first_c W0 W R mb r a nm wd h2.three h1 HLr.out
        rw [hf] at h
        exact h
      clear hf HQ1 HF
      go_enter_defers Tryz.func10, Tryz.ntmps10
      go_upto_region 3 with fail
      rw [← hOB2, ← hmb2, ← hR2, ← hW4]
      clear hW4 hOB2 hmb2 hR2 hE2
      go_upto_region 4 with (first
        | (go_at_call 21; refine HC.out.mono ?_; rintro e w5 ⟨hb5, rfl, hn5⟩; have HB5 := hidV hb5; have HN5 := hidV hn5; clear hb5 hn5))
      go_wp2_with (first
        | (go_at_call 22; refine (HC2.out _ (HB4.out.trans HB5.out) HN5.out).mono ?_; rintro e w6 ⟨hb6, rfl⟩; have HB6 := hidV (HB5.out.trans hb6); clear hb6))
      refine leaves_cons (f := 20) (args := #[.pointer (some ⟨E, 0, none⟩), .pointer (some ⟨OB, 0, none⟩)]) (by simp) (by simp [go_sem]) ?_
      refine (catchRv w.heap.size E OB _ _ _ _ _ w6 (HEw.out _ HB6.out) (HOw.out _ HB6.out) (by have := HEq.out; omega) (by have := HEq.out; omega) (by have := HEq.out; omega)).mono ?_
      rintro e u' w9 ⟨rfl, rfl, hE9, hO9, hbe⟩
      obtain ⟨c0, c1, c2, c3⟩ := cells4 hE9
      have c4 : w9.cell? ⟨OB, 0, none⟩ = some (.bool false) := by rw [Lib.cell_of_heap hO9]; rfl
      have HBe := hidV ((HWb.out _ HB6.out).trans hbe)
      simp [Leaves, settle, results, Tryz.results10, go_sem, c0, c1, c2, c3, c4]
      exact RrQ.no HY.out HBe.out
    | some p =>
      obtain ⟨r2, fi⟩ := p
      have HC2 : Hid (∀ W, Below W0.heap.size W0 W → N1 W0.heap.size R mb W (S r) a nm wd → Calls Tryz.prog 22 #[.pointer (some ⟨R, 0, none⟩)] W fun e w' => Below W0.heap.size W w' ∧ e = .returned (.tuple #[]) ∧ N3 W0.heap.size R mb w' (S r2) a ⟨nm, wd, fi, []⟩) := fun W h1 h2 => by
        have h := first_c W0 W R mb r a nm wd h2.three h1 HLr.out
        rw [hf] at h
        exact h
      have HL2 : Hid (r2.length ≤ 1048576) := Nat.le_trans (firstM_len hf) HLr.out
      have HQ2 : Hid (q = (changesM r2 a).map fun li => ⟨nm, wd, fi, li⟩) := by show q = _; rw [HQ1.out, hf]
      clear hf HQ1
      cases hc : changesM r2 a with
      | none =>
        have HY : Hid (q = none) := by show q = none; rw [HQ2.out, hc]; rfl
        have HC3 : Hid (∀ W, Below W0.heap.size W0 W → N3 W0.heap.size R mb W (S r2) a ⟨nm, wd, fi, []⟩ → Calls Tryz.prog 23 #[.pointer (some ⟨R, 0, none⟩)] W fun e w' => Below W0.heap.size W w' ∧ e = .panicked pnV) := fun W h1 h2 => by
          have h := rchanges_c W0 W R mb r2 a nm wd fi h2 h1 HL2.out (fun _ => HF.out HY.out)
          rw [hc] at h
          exact h
        clear hc HQ2 HF
        go_enter_defers Tryz.func10, Tryz.ntmps10
        go_upto_region 3 with fail
        rw [← hOB2, ← hmb2, ← hR2, ← hW4]
        clear hW4 hOB2 hmb2 hR2 hE2
        go_upto_region 4 with (first
          | (go_at_call 21; refine HC.out.mono ?_; rintro e w5 ⟨hb5, rfl, hn5⟩; have HB5 := hidV hb5; have HN5 := hidV hn5; clear hb5 hn5))
        go_upto_region 5 with (first
          | (go_at_call 22; refine (HC2.out _ (HB4.out.trans HB5.out) HN5.out).mono ?_; rintro e w6 ⟨hb6, rfl, hn6⟩; have HB6 := hidV (HB5.out.trans hb6); have HN6 := hidV hn6; clear hb6 hn6))
        go_wp2_with (first
          | (go_at_call 23; refine (HC3.out _ (HB4.out.trans HB6.out) HN6.out).mono ?_; rintro e w7 ⟨hb7, rfl⟩; have HB7 := hidV (HB6.out.trans hb7); clear hb7))
        refine leaves_cons (f := 20) (args := #[.pointer (some ⟨E, 0, none⟩), .pointer (some ⟨OB, 0, none⟩)]) (by simp) (by simp [go_sem]) ?_
        refine (catchRv w.heap.size E OB _ _ _ _ _ w7 (HEw.out _ HB7.out) (HOw.out _ HB7.out) (by have := HEq.out; omega) (by have := HEq.out; omega) (by have := HEq.out; omega)).mono ?_
        rintro e u' w9 ⟨rfl, rfl, hE9, hO9, hbe⟩
        obtain ⟨c0, c1, c2, c3⟩ := cells4 hE9
        have c4 : w9.cell? ⟨OB, 0, none⟩ = some (.bool false) := by rw [Lib.cell_of_heap hO9]; rfl
        have HBe := hidV ((HWb.out _ HB7.out).trans hbe)
        simp [Leaves, settle, results, Tryz.results10, go_sem, c0, c1, c2, c3, c4]
        exact RrQ.no HY.out HBe.out
      | some li =>
        have HY : Hid (q = some ⟨nm, wd, fi, li⟩) := by show q = _; rw [HQ2.out, hc]; rfl
        have HC3 : Hid (∀ W, Below W0.heap.size W0 W → N3 W0.heap.size R mb W (S r2) a ⟨nm, wd, fi, []⟩ → Calls Tryz.prog 23 #[.pointer (some ⟨R, 0, none⟩)] W fun e w' => Below W0.heap.size W w' ∧ e = .returned (.tuple #[]) ∧ N3 W0.heap.size R mb w' (S []) a ⟨nm, wd, fi, li⟩) := fun W h1 h2 => by
          have h := rchanges_c W0 W R mb r2 a nm wd fi h2 h1 HL2.out (fun e => by rw [hc] at e; cases e)
          rw [hc] at h
          exact h
        clear hc HQ2 HF
        go_enter_defers Tryz.func10, Tryz.ntmps10
        go_upto_region 3 with fail
        rw [← hOB2, ← hmb2, ← hR2, ← hW4]
        clear hW4 hOB2 hmb2 hR2 hE2
        go_upto_region 4 with (first
          | (go_at_call 21; refine HC.out.mono ?_; rintro e w5 ⟨hb5, rfl, hn5⟩; have HB5 := hidV hb5; have HN5 := hidV hn5; clear hb5 hn5))
        go_upto_region 5 with (first
          | (go_at_call 22; refine (HC2.out _ (HB4.out.trans HB5.out) HN5.out).mono ?_; rintro e w6 ⟨hb6, rfl, hn6⟩; have HB6 := hidV (HB5.out.trans hb6); have HN6 := hidV hn6; clear hb6 hn6))
        go_upto_region 6 with (first
          | (go_at_call 23; refine (HC3.out _ (HB4.out.trans HB6.out) HN6.out).mono ?_; rintro e w7 ⟨hb7, rfl, hn7⟩; have HB7 := hidV (HB6.out.trans hb7); have HN7 := hidV hn7; clear hb7 hn7))
        obtain ⟨an, cn, aw, cw, af, cf, al, cl, hbx, hon, how, hof, hol, _⟩ := HN7.out.bx
        obtain ⟨b0, b1, b2, b3, b4, b5⟩ := cells6 hbx
        have HX := hidV hbx
        have HWv : Hid (WvAt w7 (.slice an nm.length cn) (.slice aw wd.length cw) (.slice af fi.length cf) (.slice al li.length cl) ⟨nm, wd, fi, li⟩) := ⟨own_strs hon, own_intsV how, own_strs hof, own_chs hol⟩
        have HOs := hidV hon
        have HOi := hidV how
        have HOf := hidV hof
        have HOc := hidV hol
        have hE7 := HEw.out _ HB7.out
        have hO7 := HOw.out _ HB7.out
        obtain ⟨d0, d1, d2, d3⟩ := cells4 hE7
        have f0 := Lib.frozen_of_heap hE7 0
        have f1 := Lib.frozen_of_heap hE7 1
        have f2 := Lib.frozen_of_heap hE7 2
        have f3 := Lib.frozen_of_heap hE7 3
        have HE7 := hidV hE7
        have HO7 := hidV hO7
        have hne : OB ≠ E := by have := HEq.out; omega
        have e8 := put4 (z0 := .slice an nm.length cn) (z1 := .slice aw wd.length cw) (z2 := .slice af fi.length cf) (z3 := .slice al li.length cl) hE7
        have o8 := (put4f (z0 := .slice an nm.length cn) (z1 := .slice aw wd.length cw) (z2 := .slice af fi.length cf) (z3 := .slice al li.length cl) (W := w7) (b := E) hne).trans hO7
        have HE8 := hidV e8
        have HO8 := hidV o8
        have o8c : ((((w7.setCell ⟨E, 0, none⟩ (.slice an nm.length cn)).setCell ⟨E, 1, none⟩ (.slice aw wd.length cw)).setCell ⟨E, 2, none⟩ (.slice af fi.length cf)).setCell ⟨E, 3, none⟩ (.slice al li.length cl)).cell? ⟨OB, 0, none⟩ = some (.bool false) := by rw [Lib.cell_of_heap o8]; rfl
        have o8f := Lib.frozen_of_heap o8 0
        clear hE7 hO7 hbx hon how hof hol hne e8 o8
        go_wp2_with fail
        refine leaves_cons (f := 20) (args := #[.pointer (some ⟨E, 0, none⟩), .pointer (some ⟨OB, 0, none⟩)]) (by simp) (by simp [go_sem]) ?_
        refine (catchRi E OB _).mono ?_
        rintro e u' w9 ⟨rfl, rfl, rfl⟩
        have hne : E ≠ OB := by have := HEq.out; omega
        have hfar : ∀ g, W0.heap.size ≤ g → (((((w7.setCell ⟨E, 0, none⟩ (.slice an nm.length cn)).setCell ⟨E, 1, none⟩ (.slice aw wd.length cw)).setCell ⟨E, 2, none⟩ (.slice af fi.length cf)).setCell ⟨E, 3, none⟩ (.slice al li.length cl)).setCell ⟨OB, 0, none⟩ (.bool true)).heap[g]? = w7.heap[g]? := fun g hg => (set_far (by have := HEq.out; omega)).trans (put4f (by have := HEq.out; omega))
        have hE9 : (((((w7.setCell ⟨E, 0, none⟩ (.slice an nm.length cn)).setCell ⟨E, 1, none⟩ (.slice aw wd.length cw)).setCell ⟨E, 2, none⟩ (.slice af fi.length cf)).setCell ⟨E, 3, none⟩ (.slice al li.length cl)).setCell ⟨OB, 0, none⟩ (.bool true)).heap[E]? = _ := (set_far hne).trans HE8.out
        have hO9 : (((((w7.setCell ⟨E, 0, none⟩ (.slice an nm.length cn)).setCell ⟨E, 1, none⟩ (.slice aw wd.length cw)).setCell ⟨E, 2, none⟩ (.slice af fi.length cf)).setCell ⟨E, 3, none⟩ (.slice al li.length cl)).setCell ⟨OB, 0, none⟩ (.bool true)).heap[OB]? = _ := set10 (y := .bool true) HO8.out
        have hle : w.heap.size ≤ E ∧ w.heap.size ≤ OB := by have := HEq.out; omega
        have hbs : Below w.heap.size w (((((w7.setCell ⟨E, 0, none⟩ (.slice an nm.length cn)).setCell ⟨E, 1, none⟩ (.slice aw wd.length cw)).setCell ⟨E, 2, none⟩ (.slice af fi.length cf)).setCell ⟨E, 3, none⟩ (.slice al li.length cl)).setCell ⟨OB, 0, none⟩ (.bool true)) := (((((HWb.out _ HB7.out).setCell (p := ⟨E, 0, none⟩) hle.1 _).setCell (p := ⟨E, 1, none⟩) hle.1 _).setCell (p := ⟨E, 2, none⟩) hle.1 _).setCell (p := ⟨E, 3, none⟩) hle.1 _).setCell (p := ⟨OB, 0, none⟩) hle.2 _
        generalize ((((w7.setCell ⟨E, 0, none⟩ (.slice an nm.length cn)).setCell ⟨E, 1, none⟩ (.slice aw wd.length cw)).setCell ⟨E, 2, none⟩ (.slice af fi.length cf)).setCell ⟨E, 3, none⟩ (.slice al li.length cl)).setCell ⟨OB, 0, none⟩ (.bool true) = W at *
        have hb2 : Below W.heap.size W (W.alloc (.cells #[] 51)) := belA (Below.refl _ _) _
        obtain ⟨c0, c1, c2, c3⟩ := cells4 ((hb2.block E (hLt hE9)).trans hE9)
        have c4 : (W.alloc (.cells #[] 51)).cell? ⟨OB, 0, none⟩ = some (.bool true) := by rw [Lib.cell_of_heap ((hb2.block OB (hLt hO9)).trans hO9)]; rfl
        have HV9 : Hid (WvAt (W.alloc (.cells #[] 51)) (.slice an nm.length cn) (.slice aw wd.length cw) (.slice af fi.length cf) (.slice al li.length cl) ⟨nm, wd, fi, li⟩) := by
          have k1 := own_keep HOs.out fun g e => hfar g (World.ownsRow.lt HOs.out g e).1
          have k2 := own_keep HOi.out fun g e => hfar g (World.ownsRow.lt HOi.out g e).1
          have k3 := own_keep HOf.out fun g e => hfar g (World.ownsRow.lt HOf.out g e).1
          have k4 := own_keep HOc.out fun g e => hfar g (World.ownsRow.lt HOc.out g e).1
          exact (⟨own_strs k1, own_intsV k2, own_strs k3, own_chs k4⟩ : WvAt W _ _ _ _ ⟨nm, wd, fi, li⟩).below hb2
        have HBe := hidV (bel hbs hb2)
        simp [Leaves, settle, results, Tryz.results10, go_sem, c0, c1, c2, c3, c4]
        exact RrQ.yes HY.out HBe.out HV9.out
end Go.Proofs.YtodpljgajjcdoaaGreatDoor

/- Layer 19 of the program: Read. -/
namespace Go.Proofs.YtodpljgajjcdoaaGreatDoor
set_option maxRecDepth 100000
open Go.RowKit Lg Nl Go.Maps Wf Vd
set_option linter.unusedVariables false
set_option linter.unusedSimpArgs false

/-- of a waveform, what Write asks -/
structure Fw (x : Wv) : Prop where
  z : Sz x
  b : Bd x
  l : x.li.length ≤ 100000000
def nilW : Value := .agg #[.slice none 0 0, .slice none 0 0, .slice none 0 0, .slice none 0 0]
theorem fw0 : Fw wv0 := ⟨⟨(by decide), (by decide), (by decide), (by decide)⟩, ⟨by decide, by decide, by decide, by decide⟩, by decide⟩
theorem read_txD : readM txD = some wvD := by kernel_rfl
theorem wv0_atN (W : World) : WvAt W (.slice none 0 0) (.slice none 0 0) (.slice none 0 0) (.slice none 0 0) wv0 :=
  ⟨⟨none, 0, rfl, ⟨Nat.le_refl _, fun _ => rfl⟩, Or.inl rfl⟩, ⟨none, 0, rfl, Nat.le_refl _, Or.inl rfl⟩, ⟨none, 0, rfl, ⟨Nat.le_refl _, fun _ => rfl⟩, Or.inl rfl⟩, ⟨none, 0, rfl, ⟨Nat.le_refl _, fun _ => rfl⟩, Or.inl rfl⟩⟩
theorem Read_long (s : ByteArray) (w : World) (hs : 1048576 < s.size) : Calls Tryz.prog 5 #[.string s] w fun e w' => e = .returned (.tuple #[nilW, .int .i64 4]) ∧ Below w.heap.size w w' := by
  have h1 : (1048576 : Int) < (s.size : Int) := by omega
  clear hs
  go_enter Tryz.func5, Tryz.ntmps5
  go_wp2_with fail
  simp [bodyPost, results, Tryz.results5, go_sem]
  exact ⟨rfl, belA (Below.refl _ _) _⟩
theorem far_blk {W : World} {E g k : Nat} {cs : Array Value} {t : TypeId} {fr : Nat × Nat} {u : Value} (hE : W.heap[E]? = some (.cells cs t fr)) (hcs : ∀ (j : Nat) (u : Value), cs[j]? = some u → ∃ (a : Option Addr) (n c : Nat), u = Value.slice a n c) (hu : ∀ (a : Option Addr) (n c : Nat), u ≠ Value.slice a n c) (hc : W.cell? ⟨g, k, none⟩ = some u) : g ≠ E := by
  intro e
  subst e
  rw [Lib.cell_of_heap hE] at hc
  obtain ⟨a, n, c, h⟩ := hcs k u hc
  exact hu a n c h
theorem wv_far {W W' : World} {E : Nat} {cs : Array Value} {t : TypeId} {fr : Nat × Nat} {vn vw vf vl : Value} {x : Wv} (hE : W.heap[E]? = some (.cells cs t fr)) (hcs : ∀ (j : Nat) (u : Value), cs[j]? = some u → ∃ (a : Option Addr) (n c : Nat), u = Value.slice a n c) (hf : ∀ k, k ≠ E → W'.heap[k]? = W.heap[k]?) (hs : W.heap.size ≤ W'.heap.size) (h : WvAt W vn vw vf vl x) : WvAt W' vn vw vf vl x := by
  have hS : ∀ (v : Value) (l : List ByteArray), StrAt W v l → StrAt W' v l := by
    rintro v l ⟨ao, cap, rfl, hc, hh⟩
    refine ⟨ao, cap, rfl, hc, ?_⟩
    rcases hh with hh | ⟨g, o, rfl, hg, hh⟩
    · exact Or.inl hh
    · cases l with
      | nil => exact Or.inl rfl
      | cons s l =>
        have hne := far_blk hE hcs (by intro a n c e; cases e) (hh 0 (Nat.zero_lt_succ _))
        exact Or.inr ⟨g, o, rfl, Nat.lt_of_lt_of_le hg hs, fun i hi => (World.cell?_of_block (hf g hne)).trans (hh i hi)⟩
  refine ⟨hS _ _ h.nm, ?_, hS _ _ h.fi, ?_⟩
  · obtain ⟨ao, cap, rfl, hc, hh⟩ := h.wd
    refine ⟨ao, cap, rfl, hc, ?_⟩
    rcases hh with hh | ⟨g, o, rfl, hg, hh⟩
    · exact Or.inl hh
    · cases hl : x.wd with
      | nil => exact Or.inl rfl
      | cons s l =>
        rw [hl] at hh
        have hne := far_blk hE hcs (by intro a n c e; cases e) (hh 0 (Nat.zero_lt_succ _))
        exact Or.inr ⟨g, o, rfl, Nat.lt_of_lt_of_le hg hs, fun i hi => (World.cell?_of_block (hf g hne)).trans (hh i hi)⟩
  · obtain ⟨ao, cap, rfl, hc, hh⟩ := h.li
    refine ⟨ao, cap, rfl, hc, ?_⟩
    rcases hh with hh | ⟨g, o, rfl, hg, hh⟩
    · exact Or.inl hh
    · cases hl : x.li with
      | nil => exact Or.inl rfl
      | cons s l =>
        rw [hl] at hh
        have hne := far_blk hE hcs (by intro a n c e; cases e) (hh 0 (Nat.zero_lt_succ _) 0 (.int .i64 s.t) rfl)
        exact Or.inr ⟨g, o, rfl, Nat.lt_of_lt_of_le hg hs, fun i hi j u hu => (World.cell?_of_block (hf g hne)).trans (hh i hi j u hu)⟩
theorem nil4 : ∀ (j : Nat) (u : Value), (#[Value.slice none 0 0, Value.slice none 0 0, Value.slice none 0 0, Value.slice none 0 0] : Array Value)[j]? = some u → ∃ (a : Option Addr) (n c : Nat), u = Value.slice a n c := by
  intro j u h
  match j, h with
  | 0, h => exact ⟨_, _, _, (Option.some.inj h).symm⟩
  | 1, h => exact ⟨_, _, _, (Option.some.inj h).symm⟩
  | 2, h => exact ⟨_, _, _, (Option.some.inj h).symm⟩
  | 3, h => exact ⟨_, _, _, (Option.some.inj h).symm⟩
/-- what Read tells of bytes that are not too many -/
def RdR (w : World) (q : Option Wv) (e : Ending) (w' : World) : Prop := Below w.heap.size w w' ∧ match q with
  | some x => ∃ an cn aw_ cw af cf al cl, e = .returned (.tuple #[.agg #[.slice an x.nm.length cn, .slice aw_ x.wd.length cw, .slice af x.fi.length cf, .slice al x.li.length cl], .int .i64 0]) ∧ WvAt w' (.slice an x.nm.length cn) (.slice aw_ x.wd.length cw) (.slice af x.fi.length cf) (.slice al x.li.length cl) x
  | none => e = .returned (.tuple #[nilW, .int .i64 190])
/-- what Read keeps of what the bytes tell -/
def keepM (l : List UInt8) : Option Wv := match readM l with
  | none => none
  | some x => if wrE x = 0 ∧ wrT x = l then some x else none
set_option maxHeartbeats 4000000 in
set_option maxRecDepth 100000 in
theorem Read_none (l : List UInt8) (w : World) (hl : l.length ≤ 1048576) (hp : PowT w) (hF : readM l = none → NumF w) (hq : readM l = none) :
    Calls Tryz.prog 5 #[.string (S l)] w fun e w' => e = .returned (.tuple #[nilW, .int .i64 190]) ∧ Below w.heap.size w w' := by
  have HL := hidV hl
  have h1 : ¬ (1048576 : Int) < ((S l).size : Int) := by rw [size_S]; omega
  obtain ⟨W1, hW1⟩ : ∃ W1, W1 = w.alloc (.cells #[.slice none 0 0, .slice none 0 0, .slice none 0 0, .slice none 0 0] 27) := ⟨_, rfl⟩
  have HB1 : Hid (Below w.heap.size w W1) := by rw [hW1]; exact belA (Below.refl _ _) _
  have HE1 : Hid (W1.heap[w.heap.size]? = some (.cells #[.slice none 0 0, .slice none 0 0, .slice none 0 0, .slice none 0 0] 27 (0, 0))) := by rw [hW1]; exact alAt rfl
  have HP1 : Hid (PowT W1) := hp.bel HB1.out
  have HR := hidV (read_c l W1 hl (fun e => (hF e).later HB1.out))
  have HLs : Hid (L (S l) = l) := L_S _
  rw [hq] at HR
  have HWr := hidV (fun W (h : PowT W) => write_c wv0 (.slice none 0 0) (.slice none 0 0) (.slice none 0 0) (.slice none 0 0) W (wv0_atN W) fw0.z fw0.b fw0.l h)
  clear hl hp hF hq HL HLs
  generalize S (wrT wv0) = tz at *
  generalize wrE wv0 = ez at *
  generalize S l = sl at *
  go_enter Tryz.func5, Tryz.ntmps5
  go_upto_region 3 with fail
  rw [← hW1]
  clear hW1
  obtain ⟨E, hE⟩ : ∃ q, q = w.heap.size := ⟨_, rfl⟩
  rw [← hE] at HE1 ⊢
  have HEs : Hid (E = w.heap.size) := hE
  clear hE
  go_upto_region 4 with (first
    | (go_at_call 10; refine HR.out.mono ?_; rintro e w2 ⟨hb2, rfl⟩; have HB2 := hidV hb2; clear hb2))
  obtain ⟨W3, hW3⟩ : ∃ W3, W3 = w2.alloc (.cells #[.slice none 0 0, .slice none 0 0, .slice none 0 0, .slice none 0 0] 27) := ⟨_, rfl⟩
  rw [← hW3]
  have HB3 : Hid (Below w2.heap.size w2 W3) := by rw [hW3]; exact belA (Below.refl _ _) _
  have h3 : W3.heap[w2.heap.size]? = some (.cells #[.slice none 0 0, .slice none 0 0, .slice none 0 0, .slice none 0 0] 27 (0, 0)) := by rw [hW3]; exact alAt rfl
  have HP3 : Hid (PowT W3) := (HP1.out.bel HB2.out).bel HB3.out
  clear hW3
  obtain ⟨F, hF3⟩ : ∃ q, q = w2.heap.size := ⟨_, rfl⟩
  rw [← hF3] at h3 ⊢
  clear hF3
  obtain ⟨b0, b1, b2, b3⟩ := cells4 h3
  go_upto_region 5 with (first
    | (go_at_call 8; refine (HWr.out _ HP3.out).mono ?_; rintro e w4 ⟨rfl, hb4⟩; have HB4 := hidV hb4; clear hb4))
  clear b0 b1 b2 b3 h3
  have hx4 := (HB4.out.block E (Nat.lt_of_lt_of_le (Nat.lt_of_lt_of_le (hLt HE1.out) HB2.out.size) HB3.out.size)).trans ((HB3.out.block E (Nat.lt_of_lt_of_le (hLt HE1.out) HB2.out.size)).trans ((HB2.out.block E (hLt HE1.out)).trans HE1.out))
  have HX4 := hidV hx4
  obtain ⟨c0, c1, c2, c3⟩ := cells4 hx4
  have f0 := Lib.frozen_of_heap hx4 0
  have f1 := Lib.frozen_of_heap hx4 1
  have f2 := Lib.frozen_of_heap hx4 2
  have f3 := Lib.frozen_of_heap hx4 3
  clear hx4
  go_wp2_with fail
  obtain ⟨d0, d1, d2, d3⟩ := cells4 (put4 (z0 := .slice none 0 0) (z1 := .slice none 0 0) (z2 := .slice none 0 0) (z3 := .slice none 0 0) HX4.out)
  have hle : w.heap.size ≤ E := by rw [HEs.out]; exact Nat.le_refl _
  have HBe := hidV (((((bel HB1.out (bel HB2.out (bel HB3.out HB4.out))).setCell (p := ⟨E, 0, none⟩) hle (.slice none 0 0)).setCell (p := ⟨E, 1, none⟩) hle (.slice none 0 0)).setCell (p := ⟨E, 2, none⟩) hle (.slice none 0 0)).setCell (p := ⟨E, 3, none⟩) hle (.slice none 0 0))
  simp [bodyPost, results, Tryz.results5, go_sem, d0, d1, d2, d3]
  exact ⟨rfl, HBe.out⟩
set_option maxHeartbeats 4000000 in
set_option maxRecDepth 100000 in
theorem Read_err (l : List UInt8) (x : Wv) (w : World) (hl : l.length ≤ 1048576) (hp : PowT w) (hq : readM l = some x) (hx : Fw x) (he : wrE x ≠ 0) :
    Calls Tryz.prog 5 #[.string (S l)] w fun e w' => e = .returned (.tuple #[nilW, .int .i64 190]) ∧ Below w.heap.size w w' := by
  have hF : readM l = none → NumF w := fun e => by rw [hq] at e; cases e
  have HL := hidV hl
  have h1 : ¬ (1048576 : Int) < ((S l).size : Int) := by rw [size_S]; omega
  obtain ⟨W1, hW1⟩ : ∃ W1, W1 = w.alloc (.cells #[.slice none 0 0, .slice none 0 0, .slice none 0 0, .slice none 0 0] 27) := ⟨_, rfl⟩
  have HB1 : Hid (Below w.heap.size w W1) := by rw [hW1]; exact belA (Below.refl _ _) _
  have HE1 : Hid (W1.heap[w.heap.size]? = some (.cells #[.slice none 0 0, .slice none 0 0, .slice none 0 0, .slice none 0 0] 27 (0, 0))) := by rw [hW1]; exact alAt rfl
  have HP1 : Hid (PowT W1) := hp.bel HB1.out
  have HR := hidV (read_c l W1 hl (fun e => (hF e).later HB1.out))
  have HLs : Hid (L (S l) = l) := L_S _
  rw [hq] at HR
  have HWr := hidV (fun vn vw vf vl W (h : WvAt W vn vw vf vl x) (h2 : PowT W) => write_c x vn vw vf vl W h hx.z hx.b hx.l h2)
  have HXx := hidV hx
  have hne : (wrE x == 0) = false := by rw [beq_eq_false_iff_ne]; exact he
  have hne2 : (wrE x != 0) = true := by rw [bne_iff_ne]; exact he
  have hne3 : ¬ wrE x = 0 := he
  clear hl hp hF hq HL HLs hx he
  generalize S (wrT x) = tz at *
  generalize wrE x = ez at *
  generalize S l = sl at *
  go_enter Tryz.func5, Tryz.ntmps5
  go_upto_region 3 with fail
  rw [← hW1]
  clear hW1
  obtain ⟨E, hE⟩ : ∃ q, q = w.heap.size := ⟨_, rfl⟩
  rw [← hE] at HE1 ⊢
  have HEs : Hid (E = w.heap.size) := hE
  clear hE
  go_upto_region 4 with (first
    | (go_at_call 10; refine HR.out.mono ?_; rintro e w2 ⟨hb2, an, cn, aw_, cw, af, cf, al, cl, rfl, hv2⟩; have HB2 := hidV hb2; have HV2 := hidV hv2; clear hb2 hv2))
  obtain ⟨W3, hW3⟩ : ∃ W3, W3 = w2.alloc (.cells #[.slice an x.nm.length cn, .slice aw_ x.wd.length cw, .slice af x.fi.length cf, .slice al x.li.length cl] 27) := ⟨_, rfl⟩
  rw [← hW3]
  have HB3 : Hid (Below w2.heap.size w2 W3) := by rw [hW3]; exact belA (Below.refl _ _) _
  have H3 : Hid (W3.heap[w2.heap.size]? = some (.cells #[.slice an x.nm.length cn, .slice aw_ x.wd.length cw, .slice af x.fi.length cf, .slice al x.li.length cl] 27 (0, 0))) := by rw [hW3]; exact alAt rfl
  have HP3 : Hid (PowT W3) := (HP1.out.bel HB2.out).bel HB3.out
  have HV3 := hidV (HV2.out.below HB3.out)
  clear hW3
  obtain ⟨F, hF3⟩ : ∃ q, q = w2.heap.size := ⟨_, rfl⟩
  rw [← hF3] at H3 ⊢
  have HFe : Hid (E < F) := by have h := Nat.lt_of_lt_of_le (hLt HE1.out) HB2.out.size; rw [← hF3] at h; exact h
  clear hF3
  obtain ⟨b0, b1, b2, b3⟩ := cells4 H3.out
  go_upto_region 5 with (first
    | (go_at_call 8; refine (HWr.out _ _ _ _ _ HV3.out HP3.out).mono ?_; rintro e w4 ⟨rfl, hb4⟩; have HB4 := hidV hb4; clear hb4))
  clear b0 b1 b2 b3
  have HV4 := hidV (HV3.out.below HB4.out)
  have hx4 := (HB4.out.block E (Nat.lt_of_lt_of_le (Nat.lt_of_lt_of_le (hLt HE1.out) HB2.out.size) HB3.out.size)).trans ((HB3.out.block E (Nat.lt_of_lt_of_le (hLt HE1.out) HB2.out.size)).trans ((HB2.out.block E (hLt HE1.out)).trans HE1.out))
  have HX4 := hidV hx4
  obtain ⟨c0, c1, c2, c3⟩ := cells4 hx4
  obtain ⟨b0, b1, b2, b3⟩ := cells4 ((HB4.out.block F (hLt H3.out)).trans H3.out)
  have f0 := Lib.frozen_of_heap hx4 0
  have f1 := Lib.frozen_of_heap hx4 1
  have f2 := Lib.frozen_of_heap hx4 2
  have f3 := Lib.frozen_of_heap hx4 3
  have hle : w.heap.size ≤ E := by rw [HEs.out]; exact Nat.le_refl _
  clear hx4
  go_wp2_with fail
  obtain ⟨d0, d1, d2, d3⟩ := cells4 (put4 (z0 := .slice none 0 0) (z1 := .slice none 0 0) (z2 := .slice none 0 0) (z3 := .slice none 0 0) HX4.out)
  have HBe := hidV (((((bel HB1.out (bel HB2.out (bel HB3.out HB4.out))).setCell (p := ⟨E, 0, none⟩) hle (.slice none 0 0)).setCell (p := ⟨E, 1, none⟩) hle (.slice none 0 0)).setCell (p := ⟨E, 2, none⟩) hle (.slice none 0 0)).setCell (p := ⟨E, 3, none⟩) hle (.slice none 0 0))
  simp [bodyPost, results, Tryz.results5, go_sem, d0, d1, d2, d3]
  exact ⟨rfl, HBe.out⟩
set_option maxHeartbeats 4000000 in
set_option maxRecDepth 100000 in
theorem Read_ne (l : List UInt8) (x : Wv) (w : World) (hl : l.length ≤ 1048576) (hp : PowT w) (hq : readM l = some x) (hx : Fw x) (he : wrE x = 0) (ht : wrT x ≠ l) :
    Calls Tryz.prog 5 #[.string (S l)] w fun e w' => e = .returned (.tuple #[nilW, .int .i64 190]) ∧ Below w.heap.size w w' := by
  have hF : readM l = none → NumF w := fun e => by rw [hq] at e; cases e
  have HL := hidV hl
  have h1 : ¬ (1048576 : Int) < ((S l).size : Int) := by rw [size_S]; omega
  obtain ⟨W1, hW1⟩ : ∃ W1, W1 = w.alloc (.cells #[.slice none 0 0, .slice none 0 0, .slice none 0 0, .slice none 0 0] 27) := ⟨_, rfl⟩
  have HB1 : Hid (Below w.heap.size w W1) := by rw [hW1]; exact belA (Below.refl _ _) _
  have HE1 : Hid (W1.heap[w.heap.size]? = some (.cells #[.slice none 0 0, .slice none 0 0, .slice none 0 0, .slice none 0 0] 27 (0, 0))) := by rw [hW1]; exact alAt rfl
  have HP1 : Hid (PowT W1) := hp.bel HB1.out
  have HR := hidV (read_c l W1 hl (fun e => (hF e).later HB1.out))
  have HLs : Hid (L (S l) = l) := L_S _
  rw [hq] at HR
  have HWr := hidV (fun vn vw vf vl W (h : WvAt W vn vw vf vl x) (h2 : PowT W) => write_c x vn vw vf vl W h hx.z hx.b hx.l h2)
  have HXx := hidV hx
  have hne : ((S (wrT x)).toList == (S l).toList) = false := by rw [beq_eq_false_iff_ne, toL, toL, L_S, L_S]; exact ht
  rw [he] at HWr
  clear hl hp hF hq HL HLs hx he ht
  generalize S (wrT x) = tz at *
  generalize S l = sl at *
  go_enter Tryz.func5, Tryz.ntmps5
  go_upto_region 3 with fail
  rw [← hW1]
  clear hW1
  obtain ⟨E, hE⟩ : ∃ q, q = w.heap.size := ⟨_, rfl⟩
  rw [← hE] at HE1 ⊢
  have HEs : Hid (E = w.heap.size) := hE
  clear hE
  go_upto_region 4 with (first
    | (go_at_call 10; refine HR.out.mono ?_; rintro e w2 ⟨hb2, an, cn, aw_, cw, af, cf, al, cl, rfl, hv2⟩; have HB2 := hidV hb2; have HV2 := hidV hv2; clear hb2 hv2))
  obtain ⟨W3, hW3⟩ : ∃ W3, W3 = w2.alloc (.cells #[.slice an x.nm.length cn, .slice aw_ x.wd.length cw, .slice af x.fi.length cf, .slice al x.li.length cl] 27) := ⟨_, rfl⟩
  rw [← hW3]
  have HB3 : Hid (Below w2.heap.size w2 W3) := by rw [hW3]; exact belA (Below.refl _ _) _
  have H3 : Hid (W3.heap[w2.heap.size]? = some (.cells #[.slice an x.nm.length cn, .slice aw_ x.wd.length cw, .slice af x.fi.length cf, .slice al x.li.length cl] 27 (0, 0))) := by rw [hW3]; exact alAt rfl
  have HP3 : Hid (PowT W3) := (HP1.out.bel HB2.out).bel HB3.out
  have HV3 := hidV (HV2.out.below HB3.out)
  clear hW3
  obtain ⟨F, hF3⟩ : ∃ q, q = w2.heap.size := ⟨_, rfl⟩
  rw [← hF3] at H3 ⊢
  have HFe : Hid (E < F) := by have h := Nat.lt_of_lt_of_le (hLt HE1.out) HB2.out.size; rw [← hF3] at h; exact h
  clear hF3
  obtain ⟨b0, b1, b2, b3⟩ := cells4 H3.out
  go_upto_region 5 with (first
    | (go_at_call 8; refine (HWr.out _ _ _ _ _ HV3.out HP3.out).mono ?_; rintro e w4 ⟨rfl, hb4⟩; have HB4 := hidV hb4; clear hb4))
  clear b0 b1 b2 b3
  have HV4 := hidV (HV3.out.below HB4.out)
  have hx4 := (HB4.out.block E (Nat.lt_of_lt_of_le (Nat.lt_of_lt_of_le (hLt HE1.out) HB2.out.size) HB3.out.size)).trans ((HB3.out.block E (Nat.lt_of_lt_of_le (hLt HE1.out) HB2.out.size)).trans ((HB2.out.block E (hLt HE1.out)).trans HE1.out))
  have HX4 := hidV hx4
  obtain ⟨c0, c1, c2, c3⟩ := cells4 hx4
  obtain ⟨b0, b1, b2, b3⟩ := cells4 ((HB4.out.block F (hLt H3.out)).trans H3.out)
  have f0 := Lib.frozen_of_heap hx4 0
  have f1 := Lib.frozen_of_heap hx4 1
  have f2 := Lib.frozen_of_heap hx4 2
  have f3 := Lib.frozen_of_heap hx4 3
  have hle : w.heap.size ≤ E := by rw [HEs.out]; exact Nat.le_refl _
  clear hx4
  go_wp2_with fail
  obtain ⟨d0, d1, d2, d3⟩ := cells4 (put4 (z0 := .slice none 0 0) (z1 := .slice none 0 0) (z2 := .slice none 0 0) (z3 := .slice none 0 0) HX4.out)
  have HBe := hidV (((((bel HB1.out (bel HB2.out (bel HB3.out HB4.out))).setCell (p := ⟨E, 0, none⟩) hle (.slice none 0 0)).setCell (p := ⟨E, 1, none⟩) hle (.slice none 0 0)).setCell (p := ⟨E, 2, none⟩) hle (.slice none 0 0)).setCell (p := ⟨E, 3, none⟩) hle (.slice none 0 0))
  simp [bodyPost, results, Tryz.results5, go_sem, d0, d1, d2, d3]
  exact ⟨rfl, HBe.out⟩
set_option maxHeartbeats 4000000 in
set_option maxRecDepth 100000 in
theorem Read_yes (l : List UInt8) (x : Wv) (w : World) (hl : l.length ≤ 1048576) (hp : PowT w) (hq : readM l = some x) (hx : Fw x) (he : wrE x = 0) (ht : wrT x = l) :
    Calls Tryz.prog 5 #[.string (S l)] w fun e w' => ∃ an cn aw_ cw af cf al cl, e = .returned (.tuple #[.agg #[.slice an x.nm.length cn, .slice aw_ x.wd.length cw, .slice af x.fi.length cf, .slice al x.li.length cl], .int .i64 0]) ∧ Hid (WvAt w' (.slice an x.nm.length cn) (.slice aw_ x.wd.length cw) (.slice af x.fi.length cf) (.slice al x.li.length cl) x) ∧ Below w.heap.size w w' := by
  have hF : readM l = none → NumF w := fun e => by rw [hq] at e; cases e
  have HL := hidV hl
  have h1 : ¬ (1048576 : Int) < ((S l).size : Int) := by rw [size_S]; omega
  obtain ⟨W1, hW1⟩ : ∃ W1, W1 = w.alloc (.cells #[.slice none 0 0, .slice none 0 0, .slice none 0 0, .slice none 0 0] 27) := ⟨_, rfl⟩
  have HB1 : Hid (Below w.heap.size w W1) := by rw [hW1]; exact belA (Below.refl _ _) _
  have HE1 : Hid (W1.heap[w.heap.size]? = some (.cells #[.slice none 0 0, .slice none 0 0, .slice none 0 0, .slice none 0 0] 27 (0, 0))) := by rw [hW1]; exact alAt rfl
  have HP1 : Hid (PowT W1) := hp.bel HB1.out
  have HR := hidV (read_c l W1 hl (fun e => (hF e).later HB1.out))
  have HLs : Hid (L (S l) = l) := L_S _
  rw [hq] at HR
  have HWr := hidV (fun vn vw vf vl W (h : WvAt W vn vw vf vl x) (h2 : PowT W) => write_c x vn vw vf vl W h hx.z hx.b hx.l h2)
  have HXx := hidV hx
  have hne : ((S (wrT x)).toList == (S l).toList) = true := by rw [beq_iff_eq, ht]
  rw [he] at HWr
  clear hl hp hF hq HL HLs hx he ht
  generalize S (wrT x) = tz at *
  generalize S l = sl at *
  go_enter Tryz.func5, Tryz.ntmps5
  go_upto_region 3 with fail
  rw [← hW1]
  clear hW1
  obtain ⟨E, hE⟩ : ∃ q, q = w.heap.size := ⟨_, rfl⟩
  rw [← hE] at HE1 ⊢
  have HEs : Hid (E = w.heap.size) := hE
  clear hE
  go_upto_region 4 with (first
    | (go_at_call 10; refine HR.out.mono ?_; rintro e w2 ⟨hb2, an, cn, aw_, cw, af, cf, al, cl, rfl, hv2⟩; have HB2 := hidV hb2; have HV2 := hidV hv2; clear hb2 hv2))
  obtain ⟨W3, hW3⟩ : ∃ W3, W3 = w2.alloc (.cells #[.slice an x.nm.length cn, .slice aw_ x.wd.length cw, .slice af x.fi.length cf, .slice al x.li.length cl] 27) := ⟨_, rfl⟩
  rw [← hW3]
  have HB3 : Hid (Below w2.heap.size w2 W3) := by rw [hW3]; exact belA (Below.refl _ _) _
  have H3 : Hid (W3.heap[w2.heap.size]? = some (.cells #[.slice an x.nm.length cn, .slice aw_ x.wd.length cw, .slice af x.fi.length cf, .slice al x.li.length cl] 27 (0, 0))) := by rw [hW3]; exact alAt rfl
  have HP3 : Hid (PowT W3) := (HP1.out.bel HB2.out).bel HB3.out
  have HV3 := hidV (HV2.out.below HB3.out)
  clear hW3
  obtain ⟨F, hF3⟩ : ∃ q, q = w2.heap.size := ⟨_, rfl⟩
  rw [← hF3] at H3 ⊢
  have HFe : Hid (E < F) := by have h := Nat.lt_of_lt_of_le (hLt HE1.out) HB2.out.size; rw [← hF3] at h; exact h
  clear hF3
  obtain ⟨b0, b1, b2, b3⟩ := cells4 H3.out
  go_upto_region 5 with (first
    | (go_at_call 8; refine (HWr.out _ _ _ _ _ HV3.out HP3.out).mono ?_; rintro e w4 ⟨rfl, hb4⟩; have HB4 := hidV hb4; clear hb4))
  clear b0 b1 b2 b3
  have HV4 := hidV (HV3.out.below HB4.out)
  have hx4 := (HB4.out.block E (Nat.lt_of_lt_of_le (Nat.lt_of_lt_of_le (hLt HE1.out) HB2.out.size) HB3.out.size)).trans ((HB3.out.block E (Nat.lt_of_lt_of_le (hLt HE1.out) HB2.out.size)).trans ((HB2.out.block E (hLt HE1.out)).trans HE1.out))
  have HX4 := hidV hx4
  obtain ⟨c0, c1, c2, c3⟩ := cells4 hx4
  obtain ⟨b0, b1, b2, b3⟩ := cells4 ((HB4.out.block F (hLt H3.out)).trans H3.out)
  have f0 := Lib.frozen_of_heap hx4 0
  have f1 := Lib.frozen_of_heap hx4 1
  have f2 := Lib.frozen_of_heap hx4 2
  have f3 := Lib.frozen_of_heap hx4 3
  have hle : w.heap.size ≤ E := by rw [HEs.out]; exact Nat.le_refl _
  clear hx4
  go_wp2_with fail
  have hp4 := put4 (z0 := .slice an x.nm.length cn) (z1 := .slice aw_ x.wd.length cw) (z2 := .slice af x.fi.length cf) (z3 := .slice al x.li.length cl) HX4.out
  obtain ⟨d0, d1, d2, d3⟩ := cells4 hp4
  have HBe := hidV (((((bel HB1.out (bel HB2.out (bel HB3.out HB4.out))).setCell (p := ⟨E, 0, none⟩) hle (.slice an x.nm.length cn)).setCell (p := ⟨E, 1, none⟩) hle (.slice aw_ x.wd.length cw)).setCell (p := ⟨E, 2, none⟩) hle (.slice af x.fi.length cf)).setCell (p := ⟨E, 3, none⟩) hle (.slice al x.li.length cl))
  have HVe := hidV (wv_far HX4.out nil4 (fun k hk => put4f (z0 := .slice an x.nm.length cn) (z1 := .slice aw_ x.wd.length cw) (z2 := .slice af x.fi.length cf) (z3 := .slice al x.li.length cl) hk) (by simp [World.setCell]) HV4.out)
  clear hp4
  simp [bodyPost, results, Tryz.results5, go_sem, d0, d1, d2, d3]
  refine ⟨an, cn, aw_, cw, af, cf, al, cl, ?_⟩
  refine ⟨?_, HVe.out, HBe.out⟩
  simp
theorem wvD_fw : Fw wvD := ⟨wvD_sz, wvD_bd, by decide⟩
/-- Read, at awake's dump -/
theorem readA_c : ReadA := fun w hp => Read_yes txD wvD w (by decide) hp read_txD wvD_fw wvD_err wvD_tx
end Go.Proofs.YtodpljgajjcdoaaGreatDoor

/- Layer 19 of the program: what its functions tell, together. -/
namespace Go.Proofs.YtodpljgajjcdoaaGreatDoor
set_option maxRecDepth 100000
open Go.RowKit Lg Nl Go.Maps Wf Vd
set_option linter.unusedVariables false
set_option linter.unusedSimpArgs false

theorem pd : PD := ⟨write_c, readA_c, codeW_c⟩
end Go.Proofs.YtodpljgajjcdoaaGreatDoor

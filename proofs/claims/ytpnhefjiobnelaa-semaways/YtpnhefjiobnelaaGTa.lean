/- Texts NsA NsB NsC, joined: what each part says stands ahead of it. -/
import Derived.Test.YtpnhefjiobnelaaNrW
import Derived.Maps.OwnSet
import Derived.StringKeys
/- Layer 7 of the program: names in their maps, scopes, the checker at its block. -/
namespace Rp
open Go Lg
/-- names with what they are -/
abbrev Asc := List (List UInt8 × Int)
def lk (a : Asc) (x : List UInt8) : Option Int := match a with
  | [] => none
  | (y, v) :: r => if x = y then some v else lk r x
theorem lk_cons (a : Asc) (y : List UInt8) (v : Int) (x : List UInt8) : lk ((y, v) :: a) x = if x = y then some v else lk a x := rfl
/-- what a name is in the innermost scope that has it; 0: it is none -/
def kdA : List (Asc × Asc) → List UInt8 → Int
  | [], _ => 0
  | (f, _) :: r, x => match lk f x with | some v => v | none => kdA r x
end Rp
namespace Go.Proofs.Ytpnhefjiobnelaa
open Go.RowKit Lg Rp Go.Maps
set_option linter.unusedVariables false
set_option linter.unusedSimpArgs false

theorem sZero (w : World) : (zeroValue 3).run Try.prog w = .ok (.int .i64 0) w := by kernel_rfl
theorem sKey {s : ByteArray} (h : s.size ≤ maxLen) : keyOf Try.prog 9 (.string s) = some (.string (L s)) := Go.WideMaps.keyOf_string_mk Try.underlying9 h
theorem sStr (x : List UInt8) : WideAt.IsKeyLit (.string x) := by simp [WideAt.IsKeyLit]
def sMp (mb n : Nat) (D : DataW Unit) (w : World) : Prop := w.ownsMap Try.prog 9 (plainElem Try.prog 3) mb n D
def sNm (D : DataW Unit) (f : List UInt8 → Option Int) : Prop :=
  IsMap D ∧ ∀ x : List UInt8, (f x = none → Maps.has D (.string x) = false) ∧ (∀ n, f x = some n → Maps.has D (.string x) = true ∧ ∀ z, D.atKey (.string x) z = .lit (.int .i64 n))
def sPut (f : List UInt8 → Option Int) (x : List UInt8) (n : Int) : List UInt8 → Option Int := fun y => if y = x then some n else f y
theorem sNm_put {D : DataW Unit} {f : List UInt8 → Option Int} (h : sNm D f) (x : List UInt8) (n : Int) : sNm (D.put (.string x) (.lit (.int .i64 n))) (sPut f x n) := by
  refine ⟨h.1.put _ _, fun y => ?_⟩
  by_cases e : y = x
  · subst e
    have e2 : sPut f y n y = some n := by unfold sPut; rw [if_pos rfl]
    rw [e2]
    refine ⟨(fun h => by cases h), fun m hm => ?_⟩
    injection hm with hm
    subst hm
    exact ⟨has_put_same h.1 (sStr _) _, fun z => atKey_put_same h.1 (sStr _) _ _⟩
  · have e2 : sPut f x n y = f y := by unfold sPut; rw [if_neg e]
    have hne : (Lit.string y) ≠ Lit.string x := fun h => e (by injection h)
    rw [e2, has_put_other hne]
    refine ⟨(h.2 y).1, fun m hm => ?_⟩
    obtain ⟨a1, a2⟩ := (h.2 y).2 m hm
    exact ⟨a1, fun z => by rw [atKey_put_other hne]; exact a2 z⟩
def pnR (p c : Int) : List PanicEntry := [{ v := .iface 43 (.agg #[.int .i64 p, .int .i64 c]), recovered := false }]
/-- a map's data: its names as they were put -/
def asD : Asc → DataW Unit
  | [] => .map []
  | (x, v) :: a => (asD a).put (.string x) (.lit (.int .i64 v))
/-- names in a map's block -/
structure Nm (mb : Nat) (a : Asc) (w : World) : Prop where
  ex : ∃ D, sMp mb a.length D w ∧ sNm D (lk a) ∧ D = asD a
  nz : ∀ x v, lk a x = some v → v ≠ 0 ∧ (-10 ≤ v ∧ v ≤ 10)
  len : a.length < 1000000
theorem Nm.lt {mb : Nat} {a : Asc} {w : World} (h : Nm mb a w) : mb < w.heap.size := by obtain ⟨D, h1, _⟩ := h.ex; exact World.ownsMap.lt h1
theorem Nm.keep {mb : Nat} {a : Asc} {w w' : World} (h : Nm mb a w) (hb : w'.heap[mb]? = w.heap[mb]?) : Nm mb a w' := by
  obtain ⟨D, ⟨es, clock, h1, h2⟩, h3⟩ := h.ex
  exact ⟨⟨D, ⟨es, clock, hb.trans h1, h2⟩, h3⟩, h.nz, h.len⟩
/-- scopes within one another, in blocks above the checker's and below a bound, each above those around it -/
inductive Ch (w : World) (cb : Nat) : Nat → List (Asc × Asc) → Option Addr → Prop
  | nil {B : Nat} (h : cb < B) : Ch w cb B [] none
  | cons {B0 B sb nb db : Nat} {f d : Asc} {fs : List (Asc × Asc)} {p : Option Addr} (h0 : Ch w cb B0 fs p) (h1 : B0 ≤ nb) (h2 : nb < db) (h3 : db < sb) (h4 : sb < B) (hs : w.heap[sb]? = some (.cells #[.pointer p, .map (some nb), .map (some db)] 109 (0, 0))) (hn : Nm nb f w) (hd : Nm db d w) : Ch w cb B ((f, d) :: fs) (some ⟨sb, 0, none⟩)
theorem Ch.lo {w : World} {cb B : Nat} {fs : List (Asc × Asc)} {p : Option Addr} (h : Ch w cb B fs p) : cb < B := by
  induction h with
  | nil h => exact h
  | cons h0 h1 h2 h3 h4 hs hn hd ih => omega
theorem Ch.keep {w w' : World} {cb B : Nat} {fs : List (Asc × Asc)} {p : Option Addr} (h : Ch w cb B fs p) (hb : ∀ k, cb < k → k < B → w'.heap[k]? = w.heap[k]?) : Ch w' cb B fs p := by
  induction h with
  | nil h => exact .nil h
  | @cons B0 B sb nb db f d fs p h0 h1 h2 h3 h4 hs hn hd ih =>
    have := h0.lo
    exact .cons (ih fun k hk1 hk => hb k hk1 (by omega)) h1 h2 h3 h4 ((hb sb (by omega) h4).trans hs) (hn.keep (hb nb (by omega) (by omega))) (hd.keep (hb db (by omega) (by omega)))
theorem Ch.mono {w : World} {cb B B' : Nat} {fs : List (Asc × Asc)} {p : Option Addr} (h : Ch w cb B fs p) (hB : B ≤ B') : Ch w cb B' fs p := by
  cases h with
  | nil h => exact .nil (by omega)
  | cons h0 h1 h2 h3 h4 hs hn hd => exact .cons h0 h1 h2 h3 (by omega) hs hn hd
theorem sLaw : Keyed Try.prog 9 := string_keyed Try.underlying9
set_option maxRecDepth 100000 in
theorem sLook {mb : Nat} {a : Asc} {w : World} (h : Nm mb a w) (x : ByteArray) (hx : x.size ≤ maxLen) : (Instr.lookup 62 (.map (some mb)) (.string x) false).run Try.prog w = .ok (.int .i64 ((lk a (L x)).getD 0)) w := by
  obtain ⟨D, hm, hf, _⟩ := h.ex
  obtain ⟨v, ps, hrun, hv⟩ := World.ownsMap.lookup hm sLaw Try.underlying62 (sZero w) (plainElem_int Try.underlying3 (by decide)) (sKey hx)
  obtain ⟨c, rfl, hc, _⟩ := plainElem_int_inv Try.underlying3 hv
  have hc1 := congrArg Prod.fst hc
  simp only at hc1
  cases hk : lk a (L x) with
  | none =>
    have hh := (hf.2 (L x)).1 hk
    rw [atKey_of_not_has hh] at hc1
    injection hc1 with h1
    injection h1 with _ h1
    rw [hrun, ← h1]; rfl
  | some n =>
    have hh := ((hf.2 (L x)).2 n hk).2
    rw [hh] at hc1
    injection hc1 with h1
    injection h1 with _ h1
    rw [hrun, ← h1]; rfl
theorem lk_put {a : Asc} (x : List UInt8) (k : Int) : lk ((x, k) :: a) = sPut (lk a) x k := by
  funext y
  rw [lk_cons]; rfl
set_option maxRecDepth 100000 in
set_option maxHeartbeats 1000000 in
/-- a name that is not there is put -/
theorem sAddY {mb : Nat} {a : Asc} {w : World} (h : Nm mb a w) (x : ByteArray) (hx : x.size ≤ maxLen) (k : Int) (hk : k ≠ 0 ∧ (-10 ≤ k ∧ k ≤ 10)) (hn : lk a (L x) = none) (hl : a.length + 1 < 1000000) :
    Calls Try.prog 35 #[.map (some mb), .string x, .int .i64 k] w fun e w' => e = .returned (.bool true) ∧ Nm mb ((L x, k) :: a) w' ∧ Kp mb w w' := by
  have hrun := sLook h x hx
  rw [hn] at hrun
  replace hrun : (Instr.lookup 62 (.map (some mb)) (.string x) false).run Try.prog w = .ok (.int .i64 0) w := hrun
  obtain ⟨D, hm, hf, hD⟩ := h.ex
  have HD : Hid (D = asD a) := hD
  clear hD
  have HH : Hid _ := h
  have HF : Hid _ := hf
  have hlen := h.len
  unfold sMp at hm
  obtain ⟨hk0, hk1, hk2⟩ := hk
  clear h hf hn
  go_enter Try.func35, Try.ntmps35
  go_wp2_with (first
    | (at_mapUpdate; refine wpList_mapUpdate_own _ rfl _ _ _ 62 rfl 9 3 sLaw Try.underlying62 _ mb a.length _ rfl hm (by unfold maxLen; omega) _ _ _ rfl rfl (sKey hx) _ [] (plainElem_int Try.underlying3 (WalkArith.wf_i64 (by omega))) ?_; intro w1 hown1 hgrow1))
  go_ret
  refine ⟨rfl, ⟨⟨_, hown1, by rw [lk_put]; exact sNm_put HF.out _ _, by rw [HD.out]; rfl⟩, fun y v hv => ?_, by simpa using hl⟩, ⟨hgrow1.os, hgrow1.tape, hgrow1.output, hgrow1.size, fun j hj hb => hgrow1.block j hj (by intro e; injection e with e; exact hb e)⟩⟩
  rw [lk_cons] at hv
  split at hv
  · injection hv with hv; subst hv; exact ⟨hk0, hk1, hk2⟩
  · exact HH.out.nz y v hv
set_option maxRecDepth 100000 in
set_option maxHeartbeats 1000000 in
theorem sAddN {mb : Nat} {a : Asc} {w : World} (h : Nm mb a w) (x : ByteArray) (hx : x.size ≤ maxLen) (k v : Int) (hn : lk a (L x) = some v) :
    Calls Try.prog 35 #[.map (some mb), .string x, .int .i64 k] w fun e w' => e = .returned (.bool false) ∧ w' = w := by
  have hrun := sLook h x hx
  rw [hn] at hrun
  replace hrun : (Instr.lookup 62 (.map (some mb)) (.string x) false).run Try.prog w = .ok (.int .i64 v) w := hrun
  have hv := (h.nz _ _ hn).1
  have hv2 : (v == 0) = false := by simpa using hv
  clear h hn
  go_enter Try.func35, Try.ntmps35
  go_wp2
  go_ret
  exact ⟨rfl, rfl⟩
set_option maxRecDepth 100000 in
theorem sGive (p c : Int) (w : World) : Calls Try.prog 19 #[.int .i64 p, .int .i64 c] w fun e w' => e = .panicked (pnR p c) ∧ w' = w := by
  go_enter Try.func19, Try.ntmps19
  go_wp2
  exact ⟨rfl, rfl, rfl⟩
/-- the checker's block: its modules, how often it has looked -/
def Cb (cb mb k : Nat) (w : World) : Prop := w.heap[cb]? = some (.cells #[.map (some mb), .int .i64 k] 34 (0, 0))
theorem Cb.at_ {cb mb k : Nat} {w : World} (h : Cb cb mb k w) : w.cell? ⟨cb, 0, none⟩ = some (.map (some mb)) ∧ w.cell? ⟨cb, 1, none⟩ = some (.int .i64 k) ∧ (∀ j, w.frozen? ⟨cb, j, none⟩ = false) ∧ cb < w.heap.size :=
  ⟨by rw [Lib.cell_of_heap h]; rfl, by rw [Lib.cell_of_heap h]; rfl, fun j => Lib.frozen_of_heap h j, heap_lt h⟩
theorem Cb.set {cb mb k : Nat} {w : World} (h : Cb cb mb k w) (y : Value) (hy : y = .int .i64 (k + 1 : Nat)) : Cb cb mb (k + 1) (w.setCell ⟨cb, 1, none⟩ y) := by
  subst hy
  unfold Cb
  simp only [World.setCell]
  rw [Array.getElem?_modify, if_pos rfl, h]; rfl
set_option maxRecDepth 100000 in
set_option maxHeartbeats 1000000 in
theorem sLookC {cb mb k : Nat} {w : World} (h : Cb cb mb k w) (hk : k < 32768) : Calls Try.prog 34 #[.pointer (some ⟨cb, 0, none⟩)] w fun e w' => e = .returned (.tuple #[]) ∧ Cb cb mb (k + 1) w' ∧ Kp cb w w' := by
  obtain ⟨c0, c1, cf, cl⟩ := h.at_
  have HC : Hid _ := h
  have hk2 : ((k : Int) == 32768) = false := by simp; omega
  clear h
  go_enter Try.func34, Try.ntmps34
  go_wp2
  go_end0
  exact ⟨rfl, Cb.set HC.out _ (by simp), Kp.set⟩
end Go.Proofs.Ytpnhefjiobnelaa

/- Layer 7 of the program: scopes: what a name is, what is driven. -/
namespace Go.Proofs.Ytpnhefjiobnelaa
open Go.RowKit Lg Rp Go.Maps
set_option linter.unusedVariables false
set_option linter.unusedSimpArgs false

theorem nm_new {mb : Nat} {w : World} (h : sMp mb 0 (.map []) w) : Nm mb [] w := ⟨⟨_, h, ⟨isMap_empty, fun x => ⟨fun _ => rfl, (fun b h => by cases h)⟩⟩, rfl⟩, (fun x v h => by cases h), (by decide)⟩
set_option maxRecDepth 100000 in
set_option maxHeartbeats 1000000 in
theorem sNew {cb B : Nat} {fs : List (Asc × Asc)} {p : Option Addr} {w : World} (h : Ch w cb B fs p) (hB : B ≤ w.heap.size) :
    Calls Try.prog 37 #[.pointer p] w fun e w' => e = .returned (.pointer (some ⟨w.heap.size + 2, 0, none⟩)) ∧ Ch w' cb (w.heap.size + 3) (([], []) :: fs) (some ⟨w.heap.size + 2, 0, none⟩) ∧ Below w.heap.size w w' := by
  have hmm := @run_makeMap Try.prog
  have HC : Hid _ := h
  clear h
  go_enter Try.func37, Try.ntmps37
  go_wp2
  go_ret
  have hb : Below w.heap.size w (((w.alloc (.map #[] 0)).alloc (.map #[] 0)).alloc (.cells #[.pointer p, .map (some w.heap.size), .map (some (w.heap.size + 1))] 109)) := bel (bel bxS bxS) bxS
  have e1 : (w.alloc (.map #[] 0)).heap.size = w.heap.size + 1 := by simp
  have n1 : Nm w.heap.size [] (w.alloc (.map #[] 0)) := nm_new (World.ownsMap_made w _ _ _)
  have n2 : Nm (w.heap.size + 1) [] ((w.alloc (.map #[] 0)).alloc (.map #[] 0)) := by rw [← e1]; exact nm_new (World.ownsMap_made _ _ _ _)
  refine ⟨by simp, ?_, hb⟩
  refine .cons (B0 := B) (HC.out.keep fun k _ hk => hb.block k (by omega)) hB (Nat.lt_succ_self _) (Nat.lt_succ_self _) (Nat.lt_succ_self _) ?_ (n1.keep ?_) (n2.keep ?_)
  · show (((w.heap.push _).push _).push _)[w.heap.size + 2]? = _
    rw [Array.getElem?_push, if_pos (by simp)]
  · exact (bel (bxS (w := w.alloc (.map #[] 0))) bxS).block w.heap.size (by simp)
  · exact bxS.block (w.heap.size + 1) (by simp)
def blkP : Value → Nat
  | .pointer (some a) => a.block + 1
  | _ => 0
theorem Ch.size {w : World} {cb B : Nat} {fs : List (Asc × Asc)} {p : Option Addr} (h : Ch w cb B fs p) : blkP (.pointer p) ≤ B := by
  cases h with
  | nil h => exact Nat.zero_le _
  | cons h0 h1 h2 h3 h4 hs hn hd => exact h4
set_option maxRecDepth 100000 in
set_option maxHeartbeats 2000000 in
theorem sKind {cb B : Nat} {fs : List (Asc × Asc)} {p : Option Addr} {w : World} (h : Ch w cb B fs p) (x : ByteArray) (hx : x.size ≤ maxLen) :
    Calls Try.prog 76 #[.pointer p, .string x] w fun e w' => e = .returned (.int .i64 (kdA fs (L x))) ∧ w' = w := by
  have HC : Hid _ := h
  clear h
  go_enter Try.func76, Try.ntmps76
  go_wp2
  go_loop [0] (fun v => ∃ (B' : Nat) (fs' : List (Asc × Asc)) (p' : Option Addr), v = .pointer p' ∧ Hid (Ch w cb B' fs' p') ∧ Hid (kdA fs' (L x) = kdA fs (L x))) (fun v => blkP v)
  case atStart => exact ⟨B, fs, p, rfl, HC, rfl⟩
  case round =>
    obtain ⟨B', fs', p', rfl, HC2, HK⟩ := hrel
    have hC2 := HC2.out
    cases hC2 with
    | nil _ =>
      go_wp2
      go_ret
      exact ⟨by rw [← HK.out]; rfl, rfl⟩
    | @cons B0 _ sb nb db f d fs2 p2 h0 h1 h2 h3 h4 hs hn hd =>
      have c0 : w.cell? ⟨sb, 0, none⟩ = some (.pointer p2) := by rw [Lib.cell_of_heap hs]; rfl
      have c1 : w.cell? ⟨sb, 1, none⟩ = some (.map (some nb)) := by rw [Lib.cell_of_heap hs]; rfl
      have hsl := heap_lt hs
      have hrun := sLook hn x hx
      cases hk : lk f (L x) with
      | some v =>
        rw [hk] at hrun
        replace hrun : (Instr.lookup 62 (.map (some nb)) (.string x) false).run Try.prog w = .ok (.int .i64 v) w := hrun
        have hv : (v == 0) = false := by simpa using (hn.nz _ _ hk).1
        have HE : Hid (kdA fs (L x) = v) := by
          show kdA fs (L x) = v
          rw [← HK.out]
          show (match lk f (L x) with | some v => v | none => kdA fs2 (L x)) = v
          rw [hk]
        clear hk hn hd hs h0
        go_wp2
        go_ret
        exact ⟨by rw [HE.out]; rfl, rfl⟩
      | none =>
        rw [hk] at hrun
        replace hrun : (Instr.lookup 62 (.map (some nb)) (.string x) false).run Try.prog w = .ok (.int .i64 0) w := hrun
        have HE : Hid (kdA fs2 (L x) = kdA fs (L x)) := by
          show kdA fs2 (L x) = kdA fs (L x)
          rw [← HK.out]
          show _ = (match lk f (L x) with | some v => v | none => kdA fs2 (L x))
          rw [hk]
        have HC3 : Hid _ := h0
        have hz := h0.size
        have HZ : Hid _ := hz
        clear hk hn hd hs h0 hz
        go_wp2
        go_round
        case rel => exact ⟨B0, fs2, p2, rfl, HC3, HE⟩
        case measure =>
          have := HZ.out
          show blkP (.pointer p2) < sb + 1
          omega
def netK (k : Int) : Bool := k == 1 || k == 2 || k == 3
def valK (k : Int) : Bool := netK k || k == 4
set_option maxRecDepth 100000 in
theorem sNet (k : Int) (w : World) : Calls Try.prog 80 #[.int .i64 k] w fun e w' => e = .returned (.bool (netK k)) ∧ w' = w := by
  unfold netK
  cases h1 : (k == 1) <;> cases h2 : (k == 2) <;> cases h3 : (k == 3)
  all_goals
    go_enter Try.func80, Try.ntmps80
    go_wp2
    go_ret
    exact ⟨rfl, rfl⟩
set_option maxRecDepth 100000 in
theorem sVal (k : Int) (w : World) : Calls Try.prog 79 #[.int .i64 k] w fun e w' => e = .returned (.bool (valK k)) ∧ w' = w := by
  have HN := fun w => sNet k w
  unfold valK
  cases hn : netK k <;> rw [hn] at HN <;> cases h4 : (k == 4)
  all_goals
    clear hn
    go_enter Try.func79, Try.ntmps79
    go_wp2_with (first | (go_at_call 80; refine (HN _).mono ?_; rintro e w' ⟨rfl, hw⟩; have hw2 := hw.symm; subst hw2))
    go_ret
    exact ⟨rfl, rfl⟩
set_option maxRecDepth 100000 in
set_option maxHeartbeats 1000000 in
/-- what may be driven here -/
theorem sTarget {cb B : Nat} {f d : Asc} {fs : List (Asc × Asc)} {p : Option Addr} {w : World} (h : Ch w cb B ((f, d) :: fs) p) (x : ByteArray) (hx : x.size ≤ maxLen) (k : Int) (hk : lk f (L x) = some k) (a1 a2 : Int) :
    Calls Try.prog 64 #[.pointer p, .string x, .int .i64 k, .int .i64 a1, .int .i64 a2] w fun e w' => e = .returned (.tuple #[]) ∧ w' = w := by
  have HK := sKind h x hx
  have e1 : kdA ((f, d) :: fs) (L x) = k := by
    show (match lk f (L x) with | some v => v | none => kdA fs (L x)) = k
    rw [hk]
  rw [e1] at HK
  cases h with
  | @cons B0 _ sb nb db _ _ _ p2 h0 h1 h2 h3 h4 hs hn hd =>
    have c1 : w.cell? ⟨sb, 1, none⟩ = some (.map (some nb)) := by rw [Lib.cell_of_heap hs]; rfl
    have hsl := heap_lt hs
    have hrun := sLook hn x hx
    rw [hk] at hrun
    replace hrun : (Instr.lookup 62 (.map (some nb)) (.string x) false).run Try.prog w = .ok (.int .i64 k) w := hrun
    have hv : (k == 0) = false := by simpa using (hn.nz _ _ hk).1
    clear hk hn hd hs h0 e1
    go_enter Try.func64, Try.ntmps64
    go_wp2_with (first | (go_at_call 76; refine HK.mono ?_; rintro e w' ⟨rfl, hw⟩; have hw2 := hw.symm; subst hw2))
    go_end0
    exact ⟨rfl, rfl⟩
end Go.Proofs.Ytpnhefjiobnelaa

/- Layer 7 of the program: names are declared, nets are driven. -/
namespace Go.Proofs.Ytpnhefjiobnelaa
open Go.RowKit Lg Rp Go.Maps
set_option linter.unusedVariables false
set_option linter.unusedSimpArgs false

/-- all old blocks but three are as they were -/
structure Kz (a b c : Nat) (w w' : World) : Prop where
  os : w'.os = w.os
  tape : w'.tape = w.tape
  output : w'.output = w.output
  size : w.heap.size ≤ w'.heap.size
  block : ∀ k, k < w.heap.size → k ≠ a → k ≠ b → k ≠ c → w'.heap[k]? = w.heap[k]?
theorem Kz.refl (a b c : Nat) (w : World) : Kz a b c w w := ⟨rfl, rfl, rfl, Nat.le_refl _, fun _ _ _ _ _ => rfl⟩
theorem Kz.trans {a b c : Nat} {x y z : World} (h : Kz a b c x y) (k : Kz a b c y z) : Kz a b c x z :=
  ⟨k.os.trans h.os, k.tape.trans h.tape, k.output.trans h.output, Nat.le_trans h.size k.size, fun i hi h1 h2 h3 => (k.block i (Nat.lt_of_lt_of_le hi h.size) h1 h2 h3).trans (h.block i hi h1 h2 h3)⟩
theorem Kz.of1 {a b c : Nat} {w w' : World} (h : Kp a w w') : Kz a b c w w' := ⟨h.os, h.tape, h.output, h.size, fun k hk h1 _ _ => h.block k hk h1⟩
theorem Kz.of2 {a b c : Nat} {w w' : World} (h : Kp b w w') : Kz a b c w w' := ⟨h.os, h.tape, h.output, h.size, fun k hk _ h1 _ => h.block k hk h1⟩
theorem Kz.of3 {a b c : Nat} {w w' : World} (h : Kp c w w') : Kz a b c w w' := ⟨h.os, h.tape, h.output, h.size, fun k hk _ _ h1 => h.block k hk h1⟩
theorem Kz.of {a b c : Nat} {w w' : World} (h : Below w.heap.size w w') : Kz a b c w w' := ⟨h.os, h.tape, h.output, h.size, fun k hk _ _ _ => h.block k hk⟩
theorem Kz.at_ {a b c R : Nat} {w w' : World} {o : Obj} (h : Kz a b c w w') (ho : w.heap[R]? = some o) (h1 : R ≠ a) (h2 : R ≠ b) (h3 : R ≠ c) : w'.heap[R]? = some o := (h.block R (heap_lt ho) h1 h2 h3).trans ho
/-- blocks below the checker's: where trees lie -/
def Lt (B : Nat) : Nat → Prop := fun g => g < B
theorem DAt.kz {a b c : Nat} {w w' : World} {x : List Dc} {v : List Value} (h : DAt w (Lt a) x v) (hk : Kz a b c w w') (hb : a < b) (hc : a < c) : DAt w' (Lt a) x v :=
  h.keep ⟨hk.size, fun k hk1 hN => hk.block k hk1 (by unfold Lt at hN; omega) (by unfold Lt at hN; omega) (by unfold Lt at hN; omega)⟩
theorem DAt.kpL {a : Nat} {w w' : World} {x : List Dc} {v : List Value} (h : DAt w (Lt a) x v) (hk : Kp a w w') : DAt w' (Lt a) x v :=
  h.keep ⟨hk.size, fun k hk1 hN => hk.block k hk1 (by unfold Lt at hN; omega)⟩
/-- the innermost scope -/
structure Sc (w : World) (cb sb nb db : Nat) (f d : Asc) (fs : List (Asc × Asc)) (p : Option Addr) : Prop where
  ex : ∃ B0, Ch w cb B0 fs p ∧ B0 ≤ nb
  l1 : nb < db
  l2 : db < sb
  blk : w.heap[sb]? = some (.cells #[.pointer p, .map (some nb), .map (some db)] 109 (0, 0))
  hn : Nm nb f w
  hd : Nm db d w
theorem Sc.lo {w : World} {cb sb nb db : Nat} {f d : Asc} {fs : List (Asc × Asc)} {p : Option Addr} (h : Sc w cb sb nb db f d fs p) : cb < nb := by obtain ⟨B0, h1, h2⟩ := h.ex; have := h1.lo; omega
theorem Sc.ch {w : World} {cb sb nb db : Nat} {f d : Asc} {fs : List (Asc × Asc)} {p : Option Addr} (h : Sc w cb sb nb db f d fs p) : Ch w cb (sb + 1) ((f, d) :: fs) (some ⟨sb, 0, none⟩) := by
  obtain ⟨B0, h1, h2⟩ := h.ex
  exact .cons h1 h2 h.l1 h.l2 (Nat.lt_succ_self _) h.blk h.hn h.hd
theorem Sc.at_ {w : World} {cb sb nb db : Nat} {f d : Asc} {fs : List (Asc × Asc)} {p : Option Addr} (h : Sc w cb sb nb db f d fs p) : w.cell? ⟨sb, 0, none⟩ = some (.pointer p) ∧ w.cell? ⟨sb, 1, none⟩ = some (.map (some nb)) ∧ w.cell? ⟨sb, 2, none⟩ = some (.map (some db)) ∧ sb < w.heap.size :=
  ⟨by rw [Lib.cell_of_heap h.blk]; rfl, by rw [Lib.cell_of_heap h.blk]; rfl, by rw [Lib.cell_of_heap h.blk]; rfl, heap_lt h.blk⟩
theorem Sc.keep {w w' : World} {cb sb nb db : Nat} {f d : Asc} {fs : List (Asc × Asc)} {p : Option Addr} (h : Sc w cb sb nb db f d fs p) (hb : ∀ k, cb < k → k < w.heap.size → w'.heap[k]? = w.heap[k]?) : Sc w' cb sb nb db f d fs p := by
  obtain ⟨B0, h1, h2⟩ := h.ex
  have a1 := h.lo
  have a2 := h.l1
  have a3 := h.l2
  have a4 := heap_lt h.blk
  exact ⟨⟨B0, h1.keep fun k hk1 hk => hb k hk1 (by omega), h2⟩, h.l1, h.l2, (hb sb (by omega) a4).trans h.blk, h.hn.keep (hb nb (by omega) (by omega)), h.hd.keep (hb db (by omega) (by omega))⟩
theorem Sc.kp {w w' : World} {cb sb nb db : Nat} {f d : Asc} {fs : List (Asc × Asc)} {p : Option Addr} (h : Sc w cb sb nb db f d fs p) (hk : Kp cb w w') : Sc w' cb sb nb db f d fs p := h.keep fun k hk1 hk2 => hk.block k hk2 (by omega)
theorem Sc.below {w w' : World} {cb sb nb db : Nat} {f d : Asc} {fs : List (Asc × Asc)} {p : Option Addr} (h : Sc w cb sb nb db f d fs p) (hk : Below w.heap.size w w') : Sc w' cb sb nb db f d fs p := h.keep fun k _ hk2 => hk.block k hk2
theorem Sc.names {w w' : World} {cb sb nb db : Nat} {f f' d : Asc} {fs : List (Asc × Asc)} {p : Option Addr} (h : Sc w cb sb nb db f d fs p) (hk : Kp nb w w') (hf : Nm nb f' w') : Sc w' cb sb nb db f' d fs p := by
  obtain ⟨B0, h1, h2⟩ := h.ex
  have a1 := h.lo
  have a2 := h.l1
  have a3 := h.l2
  have a4 := heap_lt h.blk
  exact ⟨⟨B0, h1.keep fun k hk1 hk3 => hk.block k (by omega) (by omega), h2⟩, h.l1, h.l2, (hk.block sb a4 (by omega)).trans h.blk, hf, h.hd.keep (hk.block db (by omega) (by omega))⟩
theorem Sc.driven {w w' : World} {cb sb nb db : Nat} {f d d' : Asc} {fs : List (Asc × Asc)} {p : Option Addr} (h : Sc w cb sb nb db f d fs p) (hk : Kp db w w') (hf : Nm db d' w') : Sc w' cb sb nb db f d' fs p := by
  obtain ⟨B0, h1, h2⟩ := h.ex
  have a1 := h.lo
  have a2 := h.l1
  have a3 := h.l2
  have a4 := heap_lt h.blk
  exact ⟨⟨B0, h1.keep fun k hk1 hk3 => hk.block k (by omega) (by omega), h2⟩, h.l1, h.l2, (hk.block sb a4 (by omega)).trans h.blk, h.hn.keep (hk.block nb (by omega) (by omega)), hf⟩
theorem Cb.keep {cb mb k : Nat} {w w' : World} (h : Cb cb mb k w) (hb : w'.heap[cb]? = w.heap[cb]?) : Cb cb mb k w' := hb.trans h
set_option maxRecDepth 100000 in
set_option maxHeartbeats 1000000 in
theorem sDeclare {cb mb k sb nb db : Nat} {f d : Asc} {fs : List (Asc × Asc)} {p : Option Addr} {w : World} (hc : Cb cb mb k w) (hk : k < 32768) (h : Sc w cb sb nb db f d fs p) (x : ByteArray) (hx : x.size ≤ maxLen) (kd : Int) (hkd : kd ≠ 0 ∧ (-10 ≤ kd ∧ kd ≤ 10)) (hn : lk f (L x) = none) (hl : f.length + 1 < 1000000) (at_ : Int) :
    Calls Try.prog 38 #[.pointer (some ⟨cb, 0, none⟩), .pointer (some ⟨sb, 0, none⟩), .string x, .int .i64 kd, .int .i64 at_] w fun e w' => e = .returned (.tuple #[]) ∧ Cb cb mb (k + 1) w' ∧ Sc w' cb sb nb db ((L x, kd) :: f) d fs p ∧ Kz cb nb db w w' := by
  have HL := sLookC hc hk
  have HT : Hid _ := h
  have HA := fun w' (h : Nm nb f w') => sAddY h x hx kd hkd hn hl
  have hlo := h.lo
  have hc1 := hc.at_.2.2.2
  clear hc h hn hl hkd
  go_enter Try.func38, Try.ntmps38
  go_wp2_with (first
    | (go_at_call 34; refine HL.mono ?_; rintro e w1 ⟨rfl, hc1, hk1⟩; have hs1 := HT.out.kp hk1; obtain ⟨c0, c1, c2, cl⟩ := hs1.at_)
    | (go_at_call 35; refine (HA _ hs1.hn).mono ?_; rintro e w2 ⟨rfl, hn2, hk2⟩))
  go_end0
  exact ⟨rfl, hc1.keep (hk2.block cb (heap_lt hc1) (by omega)), hs1.names hk2 hn2, (Kz.of1 hk1).trans (Kz.of2 hk2)⟩
set_option maxRecDepth 100000 in
set_option maxHeartbeats 2000000 in
theorem sDriveY {cb sb nb db : Nat} {f d : Asc} {fs : List (Asc × Asc)} {p : Option Addr} {w : World} (h : Sc w cb sb nb db f d fs p) (x : ByteArray) (hx : x.size ≤ maxLen) (v : Int) (hv : lk f (L x) = some v) (hn : lk d (L x) = none) (hl : d.length + 1 < 1000000) (at_ : Int) :
    Calls Try.prog 65 #[.pointer (some ⟨sb, 0, none⟩), .string x, .int .i64 at_] w fun e w' => e = .returned (.tuple #[]) ∧ Sc w' cb sb nb db f ((L x, v) :: d) fs p ∧ Kp db w w' := by
  have HT : Hid _ := h
  have HA := sAddY (w := w.drew) (h.hd.keep rfl) x hx v (h.hn.nz _ _ hv) hn hl
  obtain ⟨c0, c1, c2, cl⟩ := h.at_
  have hrun := sLook (w := w.drew) (h.hn.keep rfl) x hx
  rw [hv] at hrun
  replace hrun : (Instr.lookup 62 (.map (some nb)) (.string x) false).run Try.prog w.drew = .ok (.int .i64 v) w.drew := hrun
  clear h hn hl hv
  go_enter Try.func65, Try.ntmps65
  go_wp2
  go_region_with (first
    | (go_at_call 35; refine HA.mono ?_; rintro e w1 ⟨rfl, hn1, hk1⟩))
  all_goals go_wp2
  all_goals
    go_end0
    exact ⟨rfl, (HT.out.below belD).driven hk1 hn1, (Kp.refl db w).drew.trans hk1⟩
set_option maxRecDepth 100000 in
set_option maxHeartbeats 2000000 in
theorem sDriveN {cb sb nb db : Nat} {f d : Asc} {fs : List (Asc × Asc)} {p : Option Addr} {w : World} (h : Sc w cb sb nb db f d fs p) (x : ByteArray) (hx : x.size ≤ maxLen) (v u : Int) (hv : lk f (L x) = some v) (hn : lk d (L x) = some u) (at_ : Int) :
    Calls Try.prog 65 #[.pointer (some ⟨sb, 0, none⟩), .string x, .int .i64 at_] w fun e w' => e = .panicked (pnR at_ 73) ∧ Below w.heap.size w w' := by
  have HA := sAddN (w := w.drew) (h.hd.keep rfl) x hx v u hn
  obtain ⟨c0, c1, c2, cl⟩ := h.at_
  have hrun := sLook (w := w.drew) (h.hn.keep rfl) x hx
  rw [hv] at hrun
  replace hrun : (Instr.lookup 62 (.map (some nb)) (.string x) false).run Try.prog w.drew = .ok (.int .i64 v) w.drew := hrun
  clear h hn hv
  go_enter Try.func65, Try.ntmps65
  go_wp2
  go_region_with (first
    | (go_at_call 35; refine HA.mono ?_; rintro e w1 ⟨rfl, hw⟩; have hw2 := hw.symm; subst hw2))
  all_goals go_wp2_with (first
    | (go_at_call 19; refine (sGive _ _ _).mono ?_; rintro e w2 ⟨rfl, hw⟩; have hw2 := hw.symm; subst hw2))
  all_goals exact ⟨rfl, rfl, belD⟩
end Go.Proofs.Ytpnhefjiobnelaa

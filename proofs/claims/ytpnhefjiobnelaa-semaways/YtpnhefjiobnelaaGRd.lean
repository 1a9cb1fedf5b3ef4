/- Texts NrJ NrK, joined: what each part says stands ahead of it. -/
import Derived.Test.YtpnhefjiobnelaaNrI
/- The reference's reader: expressions of names, numbers, and signs between them. -/
namespace Go.Proofs.Ytpnhefjiobnelaa
open Go.RowKit Lg Rp
set_option linter.unusedVariables false
set_option linter.unusedSimpArgs false

theorem sE_un {l : List Tok} {f d k k' : Nat} {x : List Dc} (h : sE l (f + 1) (.un d) k = some (x, k')) : bgK l k = true ∧ ¬ ((tk l k).k = 3 ∧ 0 < unL (tk l k).x) ∧ sE l f (.pr d) k = some (x, k') := by
  rw [sE] at h
  split at h
  · rename_i hc; exact ⟨hc.1, hc.2, h⟩
  · cases h
theorem sE_pr {l : List Tok} {f d k k' : Nat} {x : List Dc} (h : sE l (f + 1) (.pr d) k = some (x, k')) :
    ((tk l k).k = 2 ∧ ∃ v pl, numV (tk l k).x = some (v, pl) ∧ x = xD 1 [] v pl 0 [] (tk l k).p ∧ k' = k + 1) ∨ ((tk l k).k ≠ 2 ∧ nmK l k = true ∧ sw l k [40] = false ∧ sw l k [123] = false ∧ sw l (k + 1) [91] = false ∧ x = xD 2 (tk l k).x [] false 0 [] (tk l k).p ∧ k' = k + 1) := by
  rw [sE] at h
  split at h
  · rename_i hc
    left
    cases h1 : numV (tk l k).x with
    | none => rw [h1] at h; cases h
    | some r => obtain ⟨v, pl⟩ := r; rw [h1] at h; injection h with h; injection h with h2 h3; exact ⟨hc, v, pl, rfl, h2.symm, h3.symm⟩
  · rename_i hc
    right
    split at h
    · rename_i hd; injection h with h; injection h with h2 h3; exact ⟨hc, hd.1, hd.2.1, hd.2.2.1, hd.2.2.2, h2.symm, h3.symm⟩
    · cases h
theorem sE_bi {l : List Tok} {f n d k k' : Nat} {x : List Dc} (h : sE l (f + 1) (.bi n d) k = some (x, k')) (hn : ¬ 9 < n) : ∃ a k1, sE l f (.bi (n + 1) d) k = some (a, k1) ∧ sE l f (.bl n d a) k1 = some (x, k') := by
  rw [sE, if_neg hn] at h
  cases h1 : sE l f (.bi (n + 1) d) k with
  | none => rw [h1] at h; cases h
  | some r => obtain ⟨a, k1⟩ := r; rw [h1] at h; exact ⟨a, k1, rfl, h⟩
theorem sE_ex {l : List Tok} {f d k k' : Nat} {x : List Dc} (h : sE l (f + 1) (.ex d) k = some (x, k')) : bgK l k = true ∧ d ≤ 32 ∧ sE l f (.bi 1 d) k = some (x, k') ∧ sw l k' [63] = false := by
  rw [sE] at h
  split at h
  · rename_i hc
    cases h1 : sE l f (.bi 1 d) k with
    | none => rw [h1] at h; cases h
    | some r =>
      obtain ⟨a, k1⟩ := r
      rw [h1] at h
      simp only at h
      split at h
      · cases h
      · rename_i hq; injection h with h; injection h with h2 h3; subst h2 h3; exact ⟨hc.1, hc.2, rfl, by simpa using hq⟩
  · cases h
/-- no token is very long -/
def Short (l : List Tok) : Prop := ∀ k, (tk l k).x.length ≤ 100000
theorem rPr {b g cap : Nat} {l : List Tok} (HL : Short l) {f d k k' : Nat} {x : List Dc} (h : sE l f (.pr d) k = some (x, k')) (w : World) (hw : Rq b g cap l k w) :
    Calls Try.prog 74 #[.pointer (some ⟨b, 0, none⟩), .int .i64 d] w fun e w' => ExR b g cap l w x k' e w' := by
  cases f with
  | zero => rw [sE] at h; cases h
  | succ f =>
    rcases sE_pr h with ⟨h2, v, pl, hv, rfl, rfl⟩ | ⟨h2, h3, h4, h5, h6, rfl, rfl⟩
    · exact rPrimNum hw d h2 v pl hv (HL k)
    · exact rPrimName hw d h3 h4 h5 h6
theorem rUnA {b g cap : Nat} {l : List Tok} (HL : Short l) {f d k k' : Nat} {x : List Dc} (h : sE l f (.un d) k = some (x, k')) (w : World) (hw : Rq b g cap l k w) :
    Calls Try.prog 72 #[.pointer (some ⟨b, 0, none⟩), .int .i64 d] w fun e w' => ExR b g cap l w x k' e w' := by
  cases f with
  | zero => rw [sE] at h; cases h
  | succ f =>
    obtain ⟨h1, h2, h3⟩ := sE_un h
    refine rUn hw d h1 ?_ (fun w' hw' => rPr HL h3 w' hw')
    intro e
    cases f with
    | zero => rw [sE] at h3; cases h3
    | succ f =>
      rcases sE_pr h3 with ⟨h4, _⟩ | ⟨_, h4, _⟩
      · rw [e] at h4; exact absurd h4 (by decide)
      · have := sw_nm h4; rw [e] at this; exact absurd this (by decide)
theorem rBi {b g cap : Nat} {l : List Tok} (HL : Short l) : ∀ F f, f ≤ F → BiR b g cap l f := by
  intro F
  induction F with
  | zero =>
    intro f hf n d k x k' h hn w hw
    have h0 : f = 0 := Nat.le_zero.1 hf
    subst h0
    rw [sE] at h
    cases h
  | succ F ih =>
    intro f hf n d k x k' h hn w hw
    cases f with
    | zero => rw [sE] at h; cases h
    | succ f =>
      by_cases h9 : 9 < n
      · have h' := h
        rw [sE, if_pos h9] at h'
        exact rBiU hw n d h9 hn (fun w' hw' => rUnA HL h' w' hw')
      · obtain ⟨a, k1, h1, h2⟩ := sE_bi h h9
        exact rBiL (F := f) (fun f' hf' => ih f' (by omega)) n d k k' x a k1 (by omega) h1 h2 w hw
theorem rEx {b g cap : Nat} {l : List Tok} (HL : Short l) {f d k k' : Nat} {x : List Dc} (h : sE l f (.ex d) k = some (x, k')) (w : World) (hw : Rq b g cap l k w) :
    Calls Try.prog 48 #[.pointer (some ⟨b, 0, none⟩), .int .i64 d] w fun e w' => ExR b g cap l w x k' e w' := by
  cases f with
  | zero => rw [sE] at h; cases h
  | succ f =>
    obtain ⟨h1, h2, h3, h4⟩ := sE_ex h
    exact rExpr hw d h1 h2 h4 (fun w' hw' => rBi HL f f (Nat.le_refl _) 1 d k x k' h3 (by omega) w' hw')
end Go.Proofs.Ytpnhefjiobnelaa

/- Steps of a walk, each to a world of its own name: structs laid anew, parts of them written, slices made of them. -/
namespace Go.Proofs.Ytpnhefjiobnelaa
open Go.RowKit Lg Rp
set_option linter.unusedVariables false
set_option linter.unusedSimpArgs false

theorem wpl_newG {P : Program} {ops : Array Oper} {rest : List Oper} {o : Oper} {a : Act} {w : World} {Q : Exit → Act → World → Prop} (hgd : o.guard = none) (t : TypeId) (p x : Operand) (ho : o.op = .store t p x) (g : Nat) (hgw : g = w.heap.size) (hp : a.eval p = .pointer (some ⟨g, 0, none⟩)) (c : Array Value) (hx : a.eval x = .agg c) (old : Array Value) (t' : TypeId)
    (hi : (P.info? t).map (·.size) = some c.size) (hs : old.size = c.size) (h1 : c.all (·.oneCell') = true) (h : ∀ w', Below w.heap.size w w' → w'.heap[w.heap.size]? = some (.cells c t' (0, 0)) → wpList P ops Q rest (a.put o.dst undef) w') : wpList P ops Q (o :: rest) a (w.alloc (.cells old t')) :=
  wpl_storeN hgd t p x ho g hgw hp c hx old t' hi hs h1 (h _ bxS (heap_alloc_last w _))
theorem wpl_sliceG {P : Program} {ops : Array Oper} {rest : List Oper} {o : Oper} {a : Act} {w : World} {Q : Exit → Act → World → Prop} (hgd : o.guard = none) (t : TypeId) (n : Nat) (ps : Array (Nat × Operand)) (ho : o.op = .buildSlice t n ps) (qs : Array (Nat × Value)) (hq : (ps.map fun (i, x) => (i, a.eval x)) = qs) (c : Array Value) (te : TypeId) (m : Nat) (hv : (Instr.buildSlice t n qs).run P w = .ok (.slice (some ⟨w.heap.size, 0, none⟩) m m) (w.alloc (.cells c te)))
    (h : ∀ w', Below w.heap.size w w' → w'.heap[w.heap.size]? = some (.cells c te (0, 0)) → wpList P ops Q rest (a.put o.dst (.slice (some ⟨w.heap.size, 0, none⟩) m m)) w') : wpList P ops Q (o :: rest) a w :=
  wpl_bslice hgd t n ps ho qs hq _ _ hv (h _ bxS (heap_alloc_last w _))
/-- takes, whichever way -/
theorem rTk {b g cap k : Nat} {l : List Tok} {w : World} (h : Rq b g cap l k w) (x : ByteArray) (r : Bool) (k' : Nat) (hr : sw l k (L x) = r) (hk : (if r then k + 1 else k) = k') : Calls Try.prog 30 #[.pointer (some ⟨b, 0, none⟩), .string x] w fun e w' => e = .returned (.bool r) ∧ Rq b g cap l k' w' ∧ Kp b w w' := by
  subst hk
  cases r with
  | true => exact rTakesY h x hr
  | false => exact (rTakesN h x hr).mono fun e w' ⟨h1, h2⟩ => ⟨h1, h.below h2, Kp.of h2⟩
theorem rSe {b g cap k : Nat} {l : List Tok} {w : World} (h : Rq b g cap l k w) (x : ByteArray) (r : Bool) (hr : sw l k (L x) = r) : Calls Try.prog 47 #[.pointer (some ⟨b, 0, none⟩), .string x] w fun e w' => e = .returned (.bool r) ∧ Rq b g cap l k w' ∧ Kp b w w' :=
  (rSees h x).mono fun e w' ⟨h1, h2⟩ => ⟨by rw [h1, hr], h.below h2, Kp.of h2⟩
theorem rNd {b g cap k : Nat} {l : List Tok} {w : World} (h : Rq b g cap l k w) (r : Bool) (hr : nmK l k = r) : Calls Try.prog 46 #[.pointer (some ⟨b, 0, none⟩)] w fun e w' => e = .returned (.bool r) ∧ Rq b g cap l k w' ∧ Kp b w w' :=
  (rNamed h).mono fun e w' ⟨h1, h2⟩ => ⟨by rw [h1, hr], h.below h2, Kp.of h2⟩
theorem rPl {b g cap k : Nat} {l : List Tok} {w : World} (h : Rq b g cap l k w) (p : Nat) (hp : (tk l k).p = p) : Calls Try.prog 27 #[.pointer (some ⟨b, 0, none⟩)] w fun e w' => e = .returned (.int .i64 p) ∧ Rq b g cap l k w' ∧ Kp b w w' :=
  (rPlace h).mono fun e w' ⟨h1, h2⟩ => ⟨by rw [h1, hp], h.below h2, Kp.of h2⟩
theorem rNm {b g cap k : Nat} {l : List Tok} {w : World} (h : Rq b g cap l k w) (hx : nmK l k = true) (s : ByteArray) (hs : S (tk l k).x = s) : Calls Try.prog 29 #[.pointer (some ⟨b, 0, none⟩)] w fun e w' => e = .returned (.string s) ∧ Rq b g cap l (k + 1) w' ∧ Kp b w w' := by
  subst hs; exact rName h hx
theorem Kp.le {b : Nat} {w w' : World} (h : Kp b w w') : w.heap.size ≤ w'.heap.size := h.size
/-- a block that is known stays -/
theorem Kp.at_ {b R : Nat} {w w' : World} {o : Obj} (h : Kp b w w') (ho : w.heap[R]? = some o) (hR : R ≠ b) : w'.heap[R]? = some o := (h.block R (heap_lt ho) hR).trans ho
theorem DAt.kp {b B : Nat} {w w' : World} {x : List Dc} {v : List Value} (h : DAt w (Ge B) x v) (hk : Kp b w w') (hb : b < B) : DAt w' (Ge B) x v := h.keep (Up.of hk (by unfold Ge; omega))
theorem DAt.oth {R B : Nat} {w w' : World} {x : List Dc} {v : List Value} (h : DAt w (Ge B) x v) (hk : Oth R w w') (hb : R < B) : DAt w' (Ge B) x v := h.keep ⟨by rw [hk.size]; exact Nat.le_refl _, fun k _ hN => hk.block k (by unfold Ge at hN; omega)⟩
theorem DAt.slice {w : World} {N : Nat → Prop} {n : Nat} {ds : List Dc} {v : Value} (h : DAt w N [.s n ds] [v]) : ∃ ao cp, v = .slice ao n cp := by
  cases h with
  | s0 h => exact ⟨_, _, rfl⟩
  | s _ _ _ _ _ _ => exact ⟨_, _, rfl⟩
/-- one struct, made into a slice -/
theorem DAt.single {w w' : World} {B : Nat} {ds : List Dc} {c : Array Value} {t : TypeId} (h : DAt w (Ge B) ds c.toList) (hb : Below w.heap.size w w') (hc : w'.heap[w.heap.size]? = some (.cells c t (0, 0))) (hB : B ≤ w.heap.size) : DAt w' (Ge B) [.s 1 ds] [.slice (some ⟨w.heap.size, 0, none⟩) 1 1] := by
  refine .s (by unfold Ge; exact hB) (heap_lt hc) (Nat.le_refl _) (fun j u hu => ?_) (h.keep ⟨hb.size, fun k hk _ => hb.block k hk⟩) .nil
  rw [Lib.cell_of_heap hc]; simpa using hu
/-- what reading several comes to -/
def SlR (b g cap : Nat) (l : List Tok) (w : World) (n : Nat) (ds : List Dc) (k : Nat) (e : Ending) (w' : World) : Prop :=
  (∃ ao cp, e = .returned (.slice ao n cp) ∧ DAt w' (Ge w.heap.size) [.s n ds] [.slice ao n cp]) ∧ Rq b g cap l k w' ∧ Kp b w w'
theorem all6 {w : World} {N : Nat → Prop} {x : List Dc} {a0 a1 a2 a3 a4 a5 : Value} (h : DAt w N x [a0, a1, a2, a3, a4, a5]) : ∀ u ∈ (.agg #[a0, a1, a2, a3, a4, a5] : Value).cells.toList, u.oneCell' = true := by
  intro u hu
  exact h.one u (by simpa [Value.cells] using hu)
theorem oneS (ao : Option Addr) (n cp : Nat) : ∀ u ∈ (.slice ao n cp : Value).cells.toList, u.oneCell' = true := by intro u hu; simp [Value.cells] at hu; subst hu; rfl
theorem oneT (s : ByteArray) : ∀ u ∈ (.string s : Value).cells.toList, u.oneCell' = true := by intro u hu; simp [Value.cells] at hu; subst hu; rfl
theorem oneI (z : Int) : ∀ u ∈ (.int .i64 z : Value).cells.toList, u.oneCell' = true := by intro u hu; simp [Value.cells] at hu; subst hu; rfl
theorem oneB (z : Bool) : ∀ u ∈ (.bool z : Value).cells.toList, u.oneCell' = true := by intro u hu; simp [Value.cells] at hu; subst hu; rfl
theorem st_size : (Try.prog.info? 140).map (·.size) = some 12 := by kernel_rfl
theorem sl_size : (Try.prog.info? 104).map (·.size) = some 1 := by kernel_rfl
end Go.Proofs.Ytpnhefjiobnelaa

/- A queue's calls: Put, Min, Take, Cancel, Copy. -/
import Derived.Test.YtokepgnnepjiaaaGreatGEc
namespace Go.Proofs.YtokepgnnepjiaaaGreat.Q
set_option maxRecDepth 100000
open Go.RowKit Qu Go.Maps
set_option linter.unusedVariables false
set_option linter.unusedSimpArgs false

/-- a queue: a heap of as many as may be, no two of one number -/
structure Qx (B q : Nat) (lim : Int) (W : World) (v : Value) (l : List Ev) : Prop where
  h : Qh B q lim W v l
  n : (l.length : Int) ≤ lim
  m : lim ≤ 4096
theorem Qb.cells {B q : Nat} {lim : Int} {W : World} {v : Value} {l : List Ev} (h : Qb B q lim W v l) : W.cell? ⟨q, 0, none⟩ = some (.pointer (some ⟨q, 0, none⟩)) ∧ W.cell? ⟨q, 1, none⟩ = some (.int .i64 lim) ∧ W.cell? ⟨q, 2, none⟩ = some v := ⟨(cells3 h.blk).1, (cells3 h.blk).2.1, (cells3 h.blk).2.2.1⟩
def hasK (l : List Ev) (fr sq : Int) : Bool := l.any fun y => decide (y.fr = fr ∧ y.sq = sq)
/-- what stands in the way of an event -/
def putE (l : List Ev) (lim : Int) (x : Ev) : Int := if x.t < 0 ∨ x.an = true ∨ hasK l x.fr x.sq = true then 1 else if 4611686018427387903 < x.t then 140 else if lim ≤ (l.length : Int) then 141 else 0
def evB (x : Ev) : Obj := .cells #[.int .i64 x.t, .int .i64 x.nd, .string x.v, .int .i64 x.fr, .int .i64 x.sq, .bool x.an] 39
def isK (fr sq : Int) (x : Ev) : Prop := x.fr = fr ∧ x.sq = sq
theorem Fd.none_ {l : List Ev} {fr sq k : Int} (h : Fd l fr sq k) (hk : k < 0) : ∀ x ∈ l, ¬ isK fr sq x := by
  rcases h with ⟨_, h⟩ | ⟨i, _, e, _⟩
  · intro x hx
    obtain ⟨i, hi, rfl⟩ := List.getElem_of_mem hx
    have := h i hi
    rw [g_at hi] at this
    exact this
  · omega
theorem Fd.some_ {l : List Ev} {fr sq k : Int} (h : Fd l fr sq k) (hk : 0 ≤ k) : ∃ i : Nat, i < l.length ∧ k = (i : Int) ∧ isK fr sq (g l i) := by
  rcases h with ⟨e, _⟩ | ⟨i, hi, e, h⟩
  · omega
  · exact ⟨i, hi, e, h⟩
theorem hasK_iff {l : List Ev} {fr sq : Int} : hasK l fr sq = true ↔ ∃ x ∈ l, isK fr sq x := by
  unfold hasK isK; rw [List.any_eq_true]; simp
theorem hasK_no {l : List Ev} {fr sq : Int} : hasK l fr sq = false ↔ ∀ x ∈ l, ¬ isK fr sq x := by
  rw [← Bool.not_eq_true, hasK_iff]; simp
theorem g_mem {l : List Ev} {i : Nat} (h : i < l.length) : g l i ∈ l := by rw [g_at h]; exact List.getElem_mem h
theorem Fd.no {l : List Ev} {fr sq k : Int} (h : Fd l fr sq k) (hk : hasK l fr sq = false) : k = -1 := by
  rcases h with ⟨e, _⟩ | ⟨i, hi, _, h⟩
  · exact e
  · exact absurd h (hasK_no.1 hk _ (g_mem hi))
theorem Fd.yes {l : List Ev} {fr sq k : Int} (h : Fd l fr sq k) (hk : hasK l fr sq = true) : ∃ i : Nat, i < l.length ∧ k = (i : Int) ∧ isK fr sq (g l i) := by
  rcases h with ⟨e, h⟩ | ⟨i, hi, e, h⟩
  · obtain ⟨x, hx, hs⟩ := hasK_iff.1 hk
    obtain ⟨i, hi, rfl⟩ := List.getElem_of_mem hx
    have := h i hi
    rw [g_at hi] at this
    exact absurd hs this
  · exact ⟨i, hi, e, h⟩
theorem belDN {B : Nat} {w w' : World} (h : Below B w w') : ∀ n, Below B w (w'.drewN n) := fun n => ⟨h.os, h.tape, h.output, h.size, h.block⟩
set_option maxHeartbeats 4000000 in
theorem put_neg (B q : Nat) (lim : Int) (v : Value) (l : List Ev) (x : Ev) (w : World) (h : Qh B q lim w v l) (hx : x.t < 0) :
    Calls Tryz.prog 25 #[.pointer (some ⟨q, 0, none⟩), .agg #[.int .i64 x.t, .int .i64 x.nd, .string x.v, .int .i64 x.fr, .int .i64 x.sq, .bool x.an]] w fun e w' => e = .returned (.int .i64 1) ∧ Below w.heap.size w w' := by
  have HB : Hid (Below w.heap.size w (w.alloc (.cells #[.int .i64 x.t, .int .i64 x.nd, .string x.v, .int .i64 x.fr, .int .i64 x.sq, .bool x.an] 39))) := belA (Below.refl _ _) _
  have HQ : Hid (Qh B q lim (w.alloc (.cells #[.int .i64 x.t, .int .i64 x.nd, .string x.v, .int .i64 x.fr, .int .i64 x.sq, .bool x.an] 39)) v l) := ⟨h.b.below HB.out, h.h⟩
  clear h
  have d1 : decide (x.t < 0) = true := decide_eq_true hx
  go_enter Tryz.func25, Tryz.ntmps25
  go_wp2
  obtain ⟨W, hW⟩ : ∃ W, W = w.alloc (.cells #[.int .i64 x.t, .int .i64 x.nd, .string x.v, .int .i64 x.fr, .int .i64 x.sq, .bool x.an] 39) := ⟨_, rfl⟩
  have c0 : W.cell? ⟨w.heap.size, 0, none⟩ = some (.int .i64 x.t) := by rw [hW]; go_simp
  have c5 : W.cell? ⟨w.heap.size, 5, none⟩ = some (.bool x.an) := by rw [hW]; go_simp
  rw [← hW] at HB HQ ⊢
  clear hW
  have HG : Hid (∀ n, Calls Tryz.prog 51 #[.pointer (some ⟨q, 0, none⟩)] (W.drewN n) fun e w' => e = .returned (.bool true) ∧ w' = W.drewN n) := fun n => given_c q _ (by exact HQ.out.b.cells.1)
  go_quiet (first | (go_at_call 51; exact Calls.quiet_of_same (HG.out _)))
  go_wp2
  go_ret
  exact ⟨rfl, belDN HB.out _⟩
set_option maxHeartbeats 4000000 in
theorem put_anti (B q : Nat) (lim : Int) (v : Value) (l : List Ev) (x : Ev) (w : World) (h : Qh B q lim w v l) (hx : 0 ≤ x.t) (ha : x.an = true) :
    Calls Tryz.prog 25 #[.pointer (some ⟨q, 0, none⟩), .agg #[.int .i64 x.t, .int .i64 x.nd, .string x.v, .int .i64 x.fr, .int .i64 x.sq, .bool x.an]] w fun e w' => e = .returned (.int .i64 1) ∧ Below w.heap.size w w' := by
  rw [ha]
  have HB : Hid (Below w.heap.size w (w.alloc (.cells #[.int .i64 x.t, .int .i64 x.nd, .string x.v, .int .i64 x.fr, .int .i64 x.sq, .bool true] 39))) := belA (Below.refl _ _) _
  have HQ : Hid (Qh B q lim (w.alloc (.cells #[.int .i64 x.t, .int .i64 x.nd, .string x.v, .int .i64 x.fr, .int .i64 x.sq, .bool true] 39)) v l) := ⟨h.b.below HB.out, h.h⟩
  clear h
  have d1 : decide (x.t < 0) = false := decide_eq_false (by omega)

  go_enter Tryz.func25, Tryz.ntmps25
  go_wp2
  obtain ⟨W, hW⟩ : ∃ W, W = w.alloc (.cells #[.int .i64 x.t, .int .i64 x.nd, .string x.v, .int .i64 x.fr, .int .i64 x.sq, .bool true] 39) := ⟨_, rfl⟩
  have c0 : W.cell? ⟨w.heap.size, 0, none⟩ = some (.int .i64 x.t) := by rw [hW]; go_simp
  have c5 : W.cell? ⟨w.heap.size, 5, none⟩ = some (.bool true) := by rw [hW]; go_simp
  rw [← hW] at HB HQ ⊢
  clear hW
  have HG : Hid (∀ n, Calls Tryz.prog 51 #[.pointer (some ⟨q, 0, none⟩)] (W.drewN n) fun e w' => e = .returned (.bool true) ∧ w' = W.drewN n) := fun n => given_c q _ (by exact HQ.out.b.cells.1)
  go_quiet (first | (go_at_call 51; exact Calls.quiet_of_same (HG.out _)))
  go_wp2
  go_ret
  exact ⟨rfl, belDN HB.out _⟩
theorem belW {a b c : World} (h : Below a.heap.size a b) (k : Below b.drew.heap.size b.drew c) : Below a.heap.size a c := belT h ⟨k.os, k.tape, k.output, k.size, k.block⟩
set_option maxHeartbeats 4000000 in
theorem put_has (B q : Nat) (lim : Int) (v : Value) (l : List Ev) (x : Ev) (w : World) (h : Qh B q lim w v l) (hx : 0 ≤ x.t) (ha : x.an = false) (hl : l.length ≤ 4096) (hk : hasK l x.fr x.sq = true) :
    Calls Tryz.prog 25 #[.pointer (some ⟨q, 0, none⟩), .agg #[.int .i64 x.t, .int .i64 x.nd, .string x.v, .int .i64 x.fr, .int .i64 x.sq, .bool x.an]] w fun e w' => e = .returned (.int .i64 1) ∧ Below w.heap.size w w' := by
  rw [ha]
  have HB : Hid (Below w.heap.size w (w.alloc (.cells #[.int .i64 x.t, .int .i64 x.nd, .string x.v, .int .i64 x.fr, .int .i64 x.sq, .bool false] 39))) := belA (Below.refl _ _) _
  have HQ : Hid (Qh B q lim (w.alloc (.cells #[.int .i64 x.t, .int .i64 x.nd, .string x.v, .int .i64 x.fr, .int .i64 x.sq, .bool false] 39)) v l) := ⟨h.b.below HB.out, h.h⟩
  clear h
  have d1 : decide (x.t < 0) = false := decide_eq_false (by omega)
  have HH : Hid (hasK l x.fr x.sq = true) := hk
  clear hk

  go_enter Tryz.func25, Tryz.ntmps25
  go_wp2
  obtain ⟨W, hW⟩ : ∃ W, W = w.alloc (.cells #[.int .i64 x.t, .int .i64 x.nd, .string x.v, .int .i64 x.fr, .int .i64 x.sq, .bool false] 39) := ⟨_, rfl⟩
  have c0 : W.cell? ⟨w.heap.size, 0, none⟩ = some (.int .i64 x.t) := by rw [hW]; go_simp
  have c5 : W.cell? ⟨w.heap.size, 5, none⟩ = some (.bool false) := by rw [hW]; go_simp
  have c3 : W.cell? ⟨w.heap.size, 3, none⟩ = some (.int .i64 x.fr) := by rw [hW]; go_simp
  have c4 : W.cell? ⟨w.heap.size, 4, none⟩ = some (.int .i64 x.sq) := by rw [hW]; go_simp
  have c1 : W.cell? ⟨w.heap.size, 1, none⟩ = some (.int .i64 x.nd) := by rw [hW]; go_simp
  have c2 : W.cell? ⟨w.heap.size, 2, none⟩ = some (.string x.v) := by rw [hW]; go_simp
  have hsz : w.heap.size < W.heap.size := by rw [hW]; simp
  rw [← hW] at HB HQ ⊢
  clear hW
  obtain ⟨ao, cap, rfl⟩ := HQ.out.b.row.slice
  obtain ⟨q0, q1, q2⟩ := HQ.out.b.cells
  have hq := hLt HQ.out.b.blk
  have HG : Hid (Calls Tryz.prog 51 #[.pointer (some ⟨q, 0, none⟩)] W.drew fun e w' => e = .returned (.bool true) ∧ w' = W.drew) := given_c q _ q0
  have HF : Hid (Calls Tryz.prog 52 #[.slice ao l.length cap, .int .i64 x.fr, .int .i64 x.sq] W.drew fun e w' => ∃ k, e = .returned (.int .i64 k) ∧ Hid (Fd l x.fr x.sq k) ∧ Below W.drew.heap.size W.drew w') := find_c B ao cap l x.fr x.sq W.drew (HQ.out.b.row.below (Below.refl _ _).drew) (by omega)
  obtain ⟨n, hN⟩ : ∃ n, n = l.length := ⟨_, rfl⟩
  have HN : Hid (n = l.length) := hN
  rw [← hN] at q2 HF hl
  clear hN
  go_region_held (fun w' => w'.cell? ⟨w.heap.size, 0, none⟩ = some (.int .i64 x.t) ∧ w'.cell? ⟨w.heap.size, 5, none⟩ = some (.bool false) ∧ w'.cell? ⟨w.heap.size, 3, none⟩ = some (.int .i64 x.fr) ∧ w'.cell? ⟨w.heap.size, 4, none⟩ = some (.int .i64 x.sq) ∧ w'.cell? ⟨q, 2, none⟩ = some (.slice ao n cap)) (go_keep) (first
    | (go_at_call 51; refine HG.out.mono ?_; rintro e w' ⟨rfl, hw⟩; rw [hw]; clear hw)
    | (go_at_call 52; refine HF.out.mono ?_; rintro e w2 ⟨k, rfl, HK, hb2⟩; have e0 : w2.cell? ⟨w.heap.size, 0, none⟩ = some (.int .i64 x.t) := (hb2.cell (p := ⟨w.heap.size, 0, none⟩) hsz).trans c0; have e1 : w2.cell? ⟨w.heap.size, 1, none⟩ = some (.int .i64 x.nd) := (hb2.cell (p := ⟨w.heap.size, 1, none⟩) hsz).trans c1; have e2 : w2.cell? ⟨w.heap.size, 2, none⟩ = some (.string x.v) := (hb2.cell (p := ⟨w.heap.size, 2, none⟩) hsz).trans c2; have e3 : w2.cell? ⟨w.heap.size, 3, none⟩ = some (.int .i64 x.fr) := (hb2.cell (p := ⟨w.heap.size, 3, none⟩) hsz).trans c3; have e4 : w2.cell? ⟨w.heap.size, 4, none⟩ = some (.int .i64 x.sq) := (hb2.cell (p := ⟨w.heap.size, 4, none⟩) hsz).trans c4; have e5 : w2.cell? ⟨w.heap.size, 5, none⟩ = some (.bool false) := (hb2.cell (p := ⟨w.heap.size, 5, none⟩) hsz).trans c5; have e6 : w2.cell? ⟨q, 2, none⟩ = some (.slice ao n cap) := (hb2.cell (p := ⟨q, 2, none⟩) hq).trans q2; have e7 : w2.cell? ⟨q, 1, none⟩ = some (.int .i64 lim) := (hb2.cell (p := ⟨q, 1, none⟩) hq).trans q1))
  all_goals (
    have dk : decide (0 ≤ k) = true := (by obtain ⟨i, _, e, _⟩ := HK.out.yes HH.out; rw [e]; simp)
    rw [dk]
    clear dk
    go_wp2
    go_ret
    exact ⟨rfl, belW HB.out hb2⟩)
set_option maxHeartbeats 4000000 in
theorem put_late (B q : Nat) (lim : Int) (v : Value) (l : List Ev) (x : Ev) (w : World) (h : Qh B q lim w v l) (hx : 0 ≤ x.t) (ha : x.an = false) (hl : l.length ≤ 4096) (hk : hasK l x.fr x.sq = false) (ht : 4611686018427387903 < x.t) :
    Calls Tryz.prog 25 #[.pointer (some ⟨q, 0, none⟩), .agg #[.int .i64 x.t, .int .i64 x.nd, .string x.v, .int .i64 x.fr, .int .i64 x.sq, .bool x.an]] w fun e w' => e = .returned (.int .i64 140) ∧ Below w.heap.size w w' := by
  rw [ha]
  have HB : Hid (Below w.heap.size w (w.alloc (.cells #[.int .i64 x.t, .int .i64 x.nd, .string x.v, .int .i64 x.fr, .int .i64 x.sq, .bool false] 39))) := belA (Below.refl _ _) _
  have HQ : Hid (Qh B q lim (w.alloc (.cells #[.int .i64 x.t, .int .i64 x.nd, .string x.v, .int .i64 x.fr, .int .i64 x.sq, .bool false] 39)) v l) := ⟨h.b.below HB.out, h.h⟩
  clear h
  have d1 : decide (x.t < 0) = false := decide_eq_false (by omega)
  have HH : Hid (hasK l x.fr x.sq = false) := hk
  clear hk

  go_enter Tryz.func25, Tryz.ntmps25
  go_wp2
  obtain ⟨W, hW⟩ : ∃ W, W = w.alloc (.cells #[.int .i64 x.t, .int .i64 x.nd, .string x.v, .int .i64 x.fr, .int .i64 x.sq, .bool false] 39) := ⟨_, rfl⟩
  have c0 : W.cell? ⟨w.heap.size, 0, none⟩ = some (.int .i64 x.t) := by rw [hW]; go_simp
  have c5 : W.cell? ⟨w.heap.size, 5, none⟩ = some (.bool false) := by rw [hW]; go_simp
  have c3 : W.cell? ⟨w.heap.size, 3, none⟩ = some (.int .i64 x.fr) := by rw [hW]; go_simp
  have c4 : W.cell? ⟨w.heap.size, 4, none⟩ = some (.int .i64 x.sq) := by rw [hW]; go_simp
  have c1 : W.cell? ⟨w.heap.size, 1, none⟩ = some (.int .i64 x.nd) := by rw [hW]; go_simp
  have c2 : W.cell? ⟨w.heap.size, 2, none⟩ = some (.string x.v) := by rw [hW]; go_simp
  have hsz : w.heap.size < W.heap.size := by rw [hW]; simp
  rw [← hW] at HB HQ ⊢
  clear hW
  obtain ⟨ao, cap, rfl⟩ := HQ.out.b.row.slice
  obtain ⟨q0, q1, q2⟩ := HQ.out.b.cells
  have hq := hLt HQ.out.b.blk
  have HG : Hid (Calls Tryz.prog 51 #[.pointer (some ⟨q, 0, none⟩)] W.drew fun e w' => e = .returned (.bool true) ∧ w' = W.drew) := given_c q _ q0
  have HF : Hid (Calls Tryz.prog 52 #[.slice ao l.length cap, .int .i64 x.fr, .int .i64 x.sq] W.drew fun e w' => ∃ k, e = .returned (.int .i64 k) ∧ Hid (Fd l x.fr x.sq k) ∧ Below W.drew.heap.size W.drew w') := find_c B ao cap l x.fr x.sq W.drew (HQ.out.b.row.below (Below.refl _ _).drew) (by omega)
  obtain ⟨n, hN⟩ : ∃ n, n = l.length := ⟨_, rfl⟩
  have HN : Hid (n = l.length) := hN
  rw [← hN] at q2 HF hl
  clear hN
  go_region_held (fun w' => w'.cell? ⟨w.heap.size, 0, none⟩ = some (.int .i64 x.t) ∧ w'.cell? ⟨w.heap.size, 5, none⟩ = some (.bool false) ∧ w'.cell? ⟨w.heap.size, 3, none⟩ = some (.int .i64 x.fr) ∧ w'.cell? ⟨w.heap.size, 4, none⟩ = some (.int .i64 x.sq) ∧ w'.cell? ⟨q, 2, none⟩ = some (.slice ao n cap)) (go_keep) (first
    | (go_at_call 51; refine HG.out.mono ?_; rintro e w' ⟨rfl, hw⟩; rw [hw]; clear hw)
    | (go_at_call 52; refine HF.out.mono ?_; rintro e w2 ⟨k, rfl, HK, hb2⟩; have e0 : w2.cell? ⟨w.heap.size, 0, none⟩ = some (.int .i64 x.t) := (hb2.cell (p := ⟨w.heap.size, 0, none⟩) hsz).trans c0; have e1 : w2.cell? ⟨w.heap.size, 1, none⟩ = some (.int .i64 x.nd) := (hb2.cell (p := ⟨w.heap.size, 1, none⟩) hsz).trans c1; have e2 : w2.cell? ⟨w.heap.size, 2, none⟩ = some (.string x.v) := (hb2.cell (p := ⟨w.heap.size, 2, none⟩) hsz).trans c2; have e3 : w2.cell? ⟨w.heap.size, 3, none⟩ = some (.int .i64 x.fr) := (hb2.cell (p := ⟨w.heap.size, 3, none⟩) hsz).trans c3; have e4 : w2.cell? ⟨w.heap.size, 4, none⟩ = some (.int .i64 x.sq) := (hb2.cell (p := ⟨w.heap.size, 4, none⟩) hsz).trans c4; have e5 : w2.cell? ⟨w.heap.size, 5, none⟩ = some (.bool false) := (hb2.cell (p := ⟨w.heap.size, 5, none⟩) hsz).trans c5; have e6 : w2.cell? ⟨q, 2, none⟩ = some (.slice ao n cap) := (hb2.cell (p := ⟨q, 2, none⟩) hq).trans q2; have e7 : w2.cell? ⟨q, 1, none⟩ = some (.int .i64 lim) := (hb2.cell (p := ⟨q, 1, none⟩) hq).trans q1))
  all_goals (
    have dk : decide (0 ≤ k) = false := (by rw [HK.out.no HH.out]; rfl)
    rw [dk]
    clear dk
    have dt : decide (4611686018427387903 < x.t) = true := decide_eq_true ht
    go_wp2
    go_ret
    exact ⟨rfl, belW HB.out hb2⟩)
set_option maxHeartbeats 4000000 in
theorem put_full (B q : Nat) (lim : Int) (v : Value) (l : List Ev) (x : Ev) (w : World) (h : Qh B q lim w v l) (hx : 0 ≤ x.t) (ha : x.an = false) (hl : l.length ≤ 4096) (hk : hasK l x.fr x.sq = false) (ht : x.t ≤ 4611686018427387903) (hf : lim ≤ (l.length : Int)) :
    Calls Tryz.prog 25 #[.pointer (some ⟨q, 0, none⟩), .agg #[.int .i64 x.t, .int .i64 x.nd, .string x.v, .int .i64 x.fr, .int .i64 x.sq, .bool x.an]] w fun e w' => e = .returned (.int .i64 141) ∧ Below w.heap.size w w' := by
  rw [ha]
  have HB : Hid (Below w.heap.size w (w.alloc (.cells #[.int .i64 x.t, .int .i64 x.nd, .string x.v, .int .i64 x.fr, .int .i64 x.sq, .bool false] 39))) := belA (Below.refl _ _) _
  have HQ : Hid (Qh B q lim (w.alloc (.cells #[.int .i64 x.t, .int .i64 x.nd, .string x.v, .int .i64 x.fr, .int .i64 x.sq, .bool false] 39)) v l) := ⟨h.b.below HB.out, h.h⟩
  clear h
  have d1 : decide (x.t < 0) = false := decide_eq_false (by omega)
  have HH : Hid (hasK l x.fr x.sq = false) := hk
  clear hk

  go_enter Tryz.func25, Tryz.ntmps25
  go_wp2
  obtain ⟨W, hW⟩ : ∃ W, W = w.alloc (.cells #[.int .i64 x.t, .int .i64 x.nd, .string x.v, .int .i64 x.fr, .int .i64 x.sq, .bool false] 39) := ⟨_, rfl⟩
  have c0 : W.cell? ⟨w.heap.size, 0, none⟩ = some (.int .i64 x.t) := by rw [hW]; go_simp
  have c5 : W.cell? ⟨w.heap.size, 5, none⟩ = some (.bool false) := by rw [hW]; go_simp
  have c3 : W.cell? ⟨w.heap.size, 3, none⟩ = some (.int .i64 x.fr) := by rw [hW]; go_simp
  have c4 : W.cell? ⟨w.heap.size, 4, none⟩ = some (.int .i64 x.sq) := by rw [hW]; go_simp
  have c1 : W.cell? ⟨w.heap.size, 1, none⟩ = some (.int .i64 x.nd) := by rw [hW]; go_simp
  have c2 : W.cell? ⟨w.heap.size, 2, none⟩ = some (.string x.v) := by rw [hW]; go_simp
  have hsz : w.heap.size < W.heap.size := by rw [hW]; simp
  rw [← hW] at HB HQ ⊢
  clear hW
  obtain ⟨ao, cap, rfl⟩ := HQ.out.b.row.slice
  obtain ⟨q0, q1, q2⟩ := HQ.out.b.cells
  have hq := hLt HQ.out.b.blk
  have HG : Hid (Calls Tryz.prog 51 #[.pointer (some ⟨q, 0, none⟩)] W.drew fun e w' => e = .returned (.bool true) ∧ w' = W.drew) := given_c q _ q0
  have HF : Hid (Calls Tryz.prog 52 #[.slice ao l.length cap, .int .i64 x.fr, .int .i64 x.sq] W.drew fun e w' => ∃ k, e = .returned (.int .i64 k) ∧ Hid (Fd l x.fr x.sq k) ∧ Below W.drew.heap.size W.drew w') := find_c B ao cap l x.fr x.sq W.drew (HQ.out.b.row.below (Below.refl _ _).drew) (by omega)
  obtain ⟨n, hN⟩ : ∃ n, n = l.length := ⟨_, rfl⟩
  have HN : Hid (n = l.length) := hN
  rw [← hN] at q2 HF hl hf
  clear hN
  go_region_held (fun w' => w'.cell? ⟨w.heap.size, 0, none⟩ = some (.int .i64 x.t) ∧ w'.cell? ⟨w.heap.size, 5, none⟩ = some (.bool false) ∧ w'.cell? ⟨w.heap.size, 3, none⟩ = some (.int .i64 x.fr) ∧ w'.cell? ⟨w.heap.size, 4, none⟩ = some (.int .i64 x.sq) ∧ w'.cell? ⟨q, 2, none⟩ = some (.slice ao n cap)) (go_keep) (first
    | (go_at_call 51; refine HG.out.mono ?_; rintro e w' ⟨rfl, hw⟩; rw [hw]; clear hw)
    | (go_at_call 52; refine HF.out.mono ?_; rintro e w2 ⟨k, rfl, HK, hb2⟩; have e0 : w2.cell? ⟨w.heap.size, 0, none⟩ = some (.int .i64 x.t) := (hb2.cell (p := ⟨w.heap.size, 0, none⟩) hsz).trans c0; have e1 : w2.cell? ⟨w.heap.size, 1, none⟩ = some (.int .i64 x.nd) := (hb2.cell (p := ⟨w.heap.size, 1, none⟩) hsz).trans c1; have e2 : w2.cell? ⟨w.heap.size, 2, none⟩ = some (.string x.v) := (hb2.cell (p := ⟨w.heap.size, 2, none⟩) hsz).trans c2; have e3 : w2.cell? ⟨w.heap.size, 3, none⟩ = some (.int .i64 x.fr) := (hb2.cell (p := ⟨w.heap.size, 3, none⟩) hsz).trans c3; have e4 : w2.cell? ⟨w.heap.size, 4, none⟩ = some (.int .i64 x.sq) := (hb2.cell (p := ⟨w.heap.size, 4, none⟩) hsz).trans c4; have e5 : w2.cell? ⟨w.heap.size, 5, none⟩ = some (.bool false) := (hb2.cell (p := ⟨w.heap.size, 5, none⟩) hsz).trans c5; have e6 : w2.cell? ⟨q, 2, none⟩ = some (.slice ao n cap) := (hb2.cell (p := ⟨q, 2, none⟩) hq).trans q2; have e7 : w2.cell? ⟨q, 1, none⟩ = some (.int .i64 lim) := (hb2.cell (p := ⟨q, 1, none⟩) hq).trans q1))
  all_goals (
    have dk : decide (0 ≤ k) = false := (by rw [HK.out.no HH.out]; rfl)
    rw [dk]
    clear dk
    have dt : decide (4611686018427387903 < x.t) = false := decide_eq_false (by omega)
    have df : decide (lim ≤ (n : Int)) = true := decide_eq_true hf
    go_wp2
    go_quiet (fail)
    go_wp2
    go_ret
    exact ⟨rfl, belDN (belW HB.out hb2) _⟩)
set_option maxHeartbeats 4000000 in
theorem put_ok (B q : Nat) (lim : Int) (v : Value) (l : List Ev) (x : Ev) (w : World) (h : Qh B q lim w v l) (hx : 0 ≤ x.t) (ha : x.an = false) (hl : l.length ≤ 4096) (hk : hasK l x.fr x.sq = false) (ht : x.t ≤ 4611686018427387903) (hf : (l.length : Int) < lim) (hB : B ≤ w.heap.size) :
    Calls Tryz.prog 25 #[.pointer (some ⟨q, 0, none⟩), .agg #[.int .i64 x.t, .int .i64 x.nd, .string x.v, .int .i64 x.fr, .int .i64 x.sq, .bool x.an]] w fun e w' => e = .returned (.int .i64 0) ∧ ∃ v' l', Hid (Qh B q lim w' v' l') ∧ Hid (l'.Perm (x :: l)) ∧ Hid (But2 q v.ownBlock w w') ∧ Hid (Mv v v' w) := by
  have HA : Hid (x.an = false) := ha
  rw [ha]
  have HB : Hid (Below w.heap.size w (w.alloc (.cells #[.int .i64 x.t, .int .i64 x.nd, .string x.v, .int .i64 x.fr, .int .i64 x.sq, .bool false] 39))) := belA (Below.refl _ _) _
  have HQ : Hid (Qh B q lim (w.alloc (.cells #[.int .i64 x.t, .int .i64 x.nd, .string x.v, .int .i64 x.fr, .int .i64 x.sq, .bool false] 39)) v l) := ⟨h.b.below HB.out, h.h⟩
  clear h
  have d1 : decide (x.t < 0) = false := decide_eq_false (by omega)
  have HH : Hid (hasK l x.fr x.sq = false) := hk
  clear hk

  go_enter Tryz.func25, Tryz.ntmps25
  go_wp2
  obtain ⟨W, hW⟩ : ∃ W, W = w.alloc (.cells #[.int .i64 x.t, .int .i64 x.nd, .string x.v, .int .i64 x.fr, .int .i64 x.sq, .bool false] 39) := ⟨_, rfl⟩
  have c0 : W.cell? ⟨w.heap.size, 0, none⟩ = some (.int .i64 x.t) := by rw [hW]; go_simp
  have c5 : W.cell? ⟨w.heap.size, 5, none⟩ = some (.bool false) := by rw [hW]; go_simp
  have c3 : W.cell? ⟨w.heap.size, 3, none⟩ = some (.int .i64 x.fr) := by rw [hW]; go_simp
  have c4 : W.cell? ⟨w.heap.size, 4, none⟩ = some (.int .i64 x.sq) := by rw [hW]; go_simp
  have c1 : W.cell? ⟨w.heap.size, 1, none⟩ = some (.int .i64 x.nd) := by rw [hW]; go_simp
  have c2 : W.cell? ⟨w.heap.size, 2, none⟩ = some (.string x.v) := by rw [hW]; go_simp
  have hsz : w.heap.size < W.heap.size := by rw [hW]; simp
  rw [← hW] at HB HQ ⊢
  clear hW
  obtain ⟨ao, cap, rfl⟩ := HQ.out.b.row.slice
  obtain ⟨q0, q1, q2⟩ := HQ.out.b.cells
  have hq := hLt HQ.out.b.blk
  have HG : Hid (Calls Tryz.prog 51 #[.pointer (some ⟨q, 0, none⟩)] W.drew fun e w' => e = .returned (.bool true) ∧ w' = W.drew) := given_c q _ q0
  have HF : Hid (Calls Tryz.prog 52 #[.slice ao l.length cap, .int .i64 x.fr, .int .i64 x.sq] W.drew fun e w' => ∃ k, e = .returned (.int .i64 k) ∧ Hid (Fd l x.fr x.sq k) ∧ Below W.drew.heap.size W.drew w') := find_c B ao cap l x.fr x.sq W.drew (HQ.out.b.row.below (Below.refl _ _).drew) (by omega)
  obtain ⟨n, hN⟩ : ∃ n, n = l.length := ⟨_, rfl⟩
  have HN : Hid (n = l.length) := hN
  rw [← hN] at q2 HF hl hf
  clear hN
  go_region_held (fun w' => w'.cell? ⟨w.heap.size, 0, none⟩ = some (.int .i64 x.t) ∧ w'.cell? ⟨w.heap.size, 5, none⟩ = some (.bool false) ∧ w'.cell? ⟨w.heap.size, 3, none⟩ = some (.int .i64 x.fr) ∧ w'.cell? ⟨w.heap.size, 4, none⟩ = some (.int .i64 x.sq) ∧ w'.cell? ⟨q, 2, none⟩ = some (.slice ao n cap)) (go_keep) (first
    | (go_at_call 51; refine HG.out.mono ?_; rintro e w' ⟨rfl, hw⟩; rw [hw]; clear hw)
    | (go_at_call 52; refine HF.out.mono ?_; rintro e w2 ⟨k, rfl, HK, hb2⟩; have e0 : w2.cell? ⟨w.heap.size, 0, none⟩ = some (.int .i64 x.t) := (hb2.cell (p := ⟨w.heap.size, 0, none⟩) hsz).trans c0; have e1 : w2.cell? ⟨w.heap.size, 1, none⟩ = some (.int .i64 x.nd) := (hb2.cell (p := ⟨w.heap.size, 1, none⟩) hsz).trans c1; have e2 : w2.cell? ⟨w.heap.size, 2, none⟩ = some (.string x.v) := (hb2.cell (p := ⟨w.heap.size, 2, none⟩) hsz).trans c2; have e3 : w2.cell? ⟨w.heap.size, 3, none⟩ = some (.int .i64 x.fr) := (hb2.cell (p := ⟨w.heap.size, 3, none⟩) hsz).trans c3; have e4 : w2.cell? ⟨w.heap.size, 4, none⟩ = some (.int .i64 x.sq) := (hb2.cell (p := ⟨w.heap.size, 4, none⟩) hsz).trans c4; have e5 : w2.cell? ⟨w.heap.size, 5, none⟩ = some (.bool false) := (hb2.cell (p := ⟨w.heap.size, 5, none⟩) hsz).trans c5; have e6 : w2.cell? ⟨q, 2, none⟩ = some (.slice ao n cap) := (hb2.cell (p := ⟨q, 2, none⟩) hq).trans q2; have e7 : w2.cell? ⟨q, 1, none⟩ = some (.int .i64 lim) := (hb2.cell (p := ⟨q, 1, none⟩) hq).trans q1))
  all_goals (
    have dk : decide (0 ≤ k) = false := (by rw [HK.out.no HH.out]; rfl)
    rw [dk]
    clear dk
    have dt : decide (4611686018427387903 < x.t) = false := decide_eq_false (by omega)
    have df : decide (lim ≤ (n : Int)) = false := decide_eq_false (by omega)
    have HP : Hid (∀ W', Below w2.heap.size w2 W' → Calls Tryz.prog 53 #[.iface 104 (.pointer (some ⟨q, 2, none⟩)), .iface 39 (.agg #[.int .i64 x.t, .int .i64 x.nd, .string x.v, .int .i64 x.fr, .int .i64 x.sq, .bool false])] W' fun e w' => e = .returned (.tuple #[]) ∧ ∃ v' l', Hid (Qh B q lim w' v' l') ∧ Hid (l'.Perm (x :: l)) ∧ Hid (But2 q (Value.slice ao l.length cap).ownBlock w w') ∧ Hid (Mv (Value.slice ao l.length cap) v' w)) := fun W' hW' => by
      have hb3 : Below w.heap.size w W' := belT (belW HB.out hb2) hW'
      have hq3 : Qh B q lim W' (.slice ao l.length cap) l := ⟨(HQ.out.b.below ⟨hb2.os, hb2.tape, hb2.output, hb2.size, hb2.block⟩).below hW', HQ.out.h⟩
      have k := hPush_c B q lim (.slice ao l.length cap) l x W' hq3 (by have := HN.out; omega) (by have := hb3.size; omega)
      rw [HA.out] at k
      refine k.mono ?_
      rintro e w' ⟨rfl, v', l', a, b, c, d⟩
      exact ⟨rfl, v', l', a, b, (But2.bel hb3).trans c.out (fun x e => Or.inl e), fun x e => by rcases d.out x e with y | y; exact Or.inl y; exact Or.inr (Nat.le_trans hb3.size y)⟩
    go_wp2
    go_quiet (fail)
    go_wp2
    go_region_with (first
      | (go_at_call 53; refine (HP.out _ (belDN (Below.refl _ w2) _).drew).mono ?_; rintro e w3 ⟨rfl, v', l', r1, r2, r3, r4⟩)))
  all_goals (
    go_wp2
    go_ret
    exact ⟨rfl, v', l', r1, r2, r3, r4⟩)
end Go.Proofs.YtokepgnnepjiaaaGreat.Q

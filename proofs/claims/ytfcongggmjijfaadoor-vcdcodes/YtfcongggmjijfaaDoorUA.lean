/- Layer 19 of the program: the builder that lies in a writer. -/
import Derived.Test.YtfcongggmjijfaaDoorDD
import Derived.Shelf.Strings.Builder1
namespace Go.Proofs.YtfcongggmjijfaaDoor
set_option maxRecDepth 100000
open Go.RowKit Lg Nl Go.Maps Wf Vd
set_option linter.unusedVariables false
set_option linter.unusedSimpArgs false

/-- what a call of the writer leaves: all that lies below, and all but its own box and rows of bytes -/
structure Kb (b : Nat) (w w' : World) : Prop where
  low : Below b w w'
  far : ∀ (k : Nat) (cs : Array Value) (t : TypeId) (fr : Nat × Nat), w.heap[k]? = some (.cells cs t fr) → t ≠ 5 → k ≠ b → w'.heap[k]? = some (.cells cs t fr)
theorem Kb.refl (b : Nat) (w : World) : Kb b w w := ⟨Below.refl _ _, fun _ _ _ _ h _ _ => h⟩
theorem Kb.trans {b : Nat} {u v w : World} (h : Kb b u v) (k : Kb b v w) : Kb b u w := ⟨h.low.trans k.low, fun i cs t fr e ht hi => k.far i cs t fr (h.far i cs t fr e ht hi) ht hi⟩
theorem Kb.of {b : Nat} {w w' : World} (h : Below w.heap.size w w') (hb : b ≤ w.heap.size) : Kb b w w' := ⟨h.mono hb, fun k cs t fr e _ _ => (h.block k (hLt e)).trans e⟩
/-- all but one block stand -/
structure Kx (b : Nat) (w w' : World) : Prop where
  low : Below b w w'
  far : ∀ k, k ≠ b → w'.heap[k]? = w.heap[k]?
theorem Kx.refl (b : Nat) (w : World) : Kx b w w := ⟨Below.refl _ _, fun _ _ => rfl⟩
theorem Kx.set (b j : Nat) (y : Value) (w : World) : Kx b w (w.setCell ⟨b, j, none⟩ y) := ⟨(Below.refl b w).setCell (p := ⟨b, j, none⟩) (Nat.le_refl _) y, fun k hk => Below.heap_setCell _ _ _ _ (show k ≠ b from hk)⟩
theorem Kx.kb {b : Nat} {w w' : World} (h : Kx b w w') : Kb b w w' := ⟨h.low, fun k cs t fr e _ hk => (h.far k hk).trans e⟩
theorem set20 {W : World} {b : Nat} {x0 x1 y : Value} {t : TypeId} (h : W.heap[b]? = some (.cells #[x0, x1] t (0, 0))) : (W.setCell ⟨b, 0, none⟩ y).heap[b]? = some (.cells #[y, x1] t (0, 0)) := by
  simp only [World.setCell]
  rw [Array.getElem?_modify, if_pos rfl, h]; rfl
theorem set21 {W : World} {b : Nat} {x0 x1 y : Value} {t : TypeId} (h : W.heap[b]? = some (.cells #[x0, x1] t (0, 0))) : (W.setCell ⟨b, 1, none⟩ y).heap[b]? = some (.cells #[x0, y] t (0, 0)) := by
  simp only [World.setCell]
  rw [Array.getElem?_modify, if_pos rfl, h]; rfl
theorem own_keep {w w' : World} {B e z n : Nat} {v : Value} {xs : List Value} (h : w.ownsRow B e z v n xs) (hk : ∀ g, v.ownBlock = some g → w'.heap[g]? = w.heap[g]?) : w'.ownsRow B e z v n xs := by
  obtain ⟨h1, h2⟩ := h
  refine ⟨h1, ?_⟩
  rcases h2 with h2 | ⟨g, cap, cur, rfl, hg, hh, r⟩
  · exact Or.inl h2
  · exact Or.inr ⟨g, cap, cur, rfl, hg, (hk g rfl).trans hh, r⟩
theorem wtN : 60 ≠ 5 := by decide
theorem Ob.kx {b : Nat} {w w' : World} {a : Option Addr} {n c : Nat} {l : List UInt8} {cs : Array Value} (h : Ob b w a n c l) (hb : w.heap[b]? = some (.cells cs 60 (0, 0))) (k : Kx b w w') : Ob b w' a n c l :=
  ⟨own_keep h.o fun g e => k.far g fun e2 => h.ne hb wtN (by rw [e, e2]), h.e⟩
/-- a writer's box, its builder holding bytes -/
def Bu (b : Nat) (W : World) (l : List UInt8) : Prop := ∃ (p a : Option Addr) (n c : Nat), (p = none ∨ p = some ⟨b, 0, none⟩) ∧ W.heap[b]? = some (.cells #[.pointer p, .slice a n c] 60 (0, 0)) ∧ Ob b W a n c l
theorem Bu.lt {b : Nat} {W : World} {l : List UInt8} (h : Bu b W l) : b < W.heap.size := by
  obtain ⟨p, a, n, c, _, hh, _⟩ := h
  exact hLt hh
theorem Bu.below {b : Nat} {W W' : World} {l : List UInt8} (h : Bu b W l) (hb : Below W.heap.size W W') : Bu b W' l := by
  obtain ⟨p, a, n, c, hp, hh, ho⟩ := h
  exact ⟨p, a, n, c, hp, (hb.block b (hLt hh)).trans hh, ho.below hb⟩
theorem copy_c (b : Nat) (p : Option Addr) (v : Value) (w : World) (hh : w.heap[b]? = some (.cells #[.pointer p, v] 60 (0, 0))) (hp : p = none ∨ p = some ⟨b, 0, none⟩) :
    Calls Tryd.prog 58 #[.pointer (some ⟨b, 0, none⟩)] w fun e w' => e = .returned (.tuple #[]) ∧ w'.heap[b]? = some (.cells #[.pointer (some ⟨b, 0, none⟩), v] 60 (0, 0)) ∧ Kx b w w' := by
  obtain ⟨j, hj, hjs⟩ : ∃ j, Tryd.prog.info? 58 = some j ∧ j.size = 2 := Option.map_eq_some_iff.1 (show (Tryd.prog.info? 58).map (·.size) = some 2 by kernel_rfl)
  have h0 : w.cell? ⟨b, 0, none⟩ = some (.pointer p) := by rw [Lib.cell_of_heap hh]; rfl
  have hfz : w.frozen? ⟨b, 0, none⟩ = false := Lib.frozen_of_heap hh 0
  have hsh : w.shape? b = some (60, 2) := by simp [World.shape?, hh]
  have HS := hidV (set20 (y := .pointer (some ⟨b, 0, none⟩)) hh)
  have HH := hidV hh
  clear hh
  rcases hp with rfl | rfl
  · go_enter Tryd.func58, Tryd.ntmps58
    go_wp2
    rw [Lib.run_to_unsafe w ⟨b, 0, none⟩ Tryd.underlying56 Tryd.underlying96 hj (by rw [hjs]; decide) hsh (Nat.zero_lt_succ 1)]
    simp only [Result.andThen]
    rw [Oper.upon_value]
    go_wp2
    rw [run_callFunc_extern Tryd.func66 (by kernel_rfl) (by kernel_rfl) (by kernel_rfl) (e := Extern.AbiNoEscape.same) (by kernel_rfl)]
    rw [Lib.run_noEscape]
    simp only [Result.andThen]
    rw [Oper.upon_value]
    go_wp2
    rw [Lib.run_from_unsafe w ⟨b, 0, none⟩ Tryd.underlying96 Tryd.underlying56 hj hsh (by kernel_rfl)]
    simp only [Result.andThen]
    rw [Oper.upon_value]
    go_wp2
    go_end0
    exact ⟨rfl, HS.out, Kx.set _ _ _ _⟩
  · go_enter Tryd.func58, Tryd.ntmps58
    go_wp2
    rw [Lib.run_neq_ptr_same w _ Tryd.underlying56 hj]
    go_wp2
    go_end0
    exact ⟨rfl, HH.out, Kx.refl _ _⟩
theorem bu_put {b : Nat} {w w1 : World} {p a a1 : Option Addr} {n c n1 c1 : Nat} {l l1 : List UInt8} (hp : p = none ∨ p = some ⟨b, 0, none⟩) (hh : w.heap[b]? = some (.cells #[.pointer p, .slice a n c] 60 (0, 0))) (ho : Ob b w a n c l) (ho1 : Ob b w1 a1 n1 c1 l1)
    (hb : Below b w w1) (hg : ∀ k, k < w.heap.size → (Value.slice a n c).ownBlock ≠ some k → w1.heap[k]? = w.heap[k]?) : Bu b (w1.setCell ⟨b, 1, none⟩ (.slice a1 n1 c1)) l1 ∧ Kb b w (w1.setCell ⟨b, 1, none⟩ (.slice a1 n1 c1)) := by
  have h1 : w1.heap[b]? = some (.cells #[.pointer p, .slice a n c] 60 (0, 0)) := (hg b (hLt hh) (ho.ne hh wtN)).trans hh
  have hk := Kx.set b 1 (.slice a1 n1 c1) w1
  refine ⟨⟨p, a1, n1, c1, hp, set21 h1, ho1.kx h1 hk⟩, ⟨hb.trans hk.low, fun k cs t fr e ht hkb => (hk.far k hkb).trans ((hg k (hLt e) (ho.ne e ht)).trans e)⟩⟩
set_option maxHeartbeats 2000000 in
set_option maxRecDepth 100000 in
theorem wstr_c (b : Nat) (l : List UInt8) (s : ByteArray) (w : World) (h : Bu b w l) (hs : l.length + s.size ≤ 70368744177664) :
    Calls Tryd.prog 49 #[.pointer (some ⟨b, 0, none⟩), .string s] w fun e w' => (∃ v, e = .returned v) ∧ Bu b w' (l ++ L s) ∧ Kb b w w' := by
  obtain ⟨p, a, n, c, hp, hh, ho⟩ := h
  have HC := hidV (copy_c b p (.slice a n c) w hh hp)
  have HO := hidV ho
  have HN : Hid (n = l.length) := ho.e
  have HH := hidV hh
  have HL : Hid (l.length + s.size ≤ 70368744177664) := hs
  clear hh ho hs hp
  go_enter Tryd.func49, Tryd.ntmps49
  go_wp2_with (first
    | (go_at_call 58; refine HC.out.mono ?_; rintro e w1 ⟨rfl, hh1, hk1⟩; have ho1 := HO.out.kx HH.out hk1; have HH1 := hidV hh1; have HO1 := hidV ho1; have HK1 := hidV hk1; have HB1 : Hid (b ≤ w1.heap.size) := Nat.le_of_lt (hLt hh1); have d1 : w1.cell? ⟨b, 1, none⟩ = some (.slice a n c) := (by rw [Lib.cell_of_heap hh1]; rfl); clear hh1 hk1 ho1)
    | (at_builtin; refine app_str rfl _ _ rfl b a n c l rfl HO1.out s rfl (by have := HN.out; have := HL.out; omega) HB1.out ?_; intro a2 n2 c2 w2 HO2 HN2 hb2 hg2; have hh2 : w2.heap[b]? = some (.cells #[.pointer (some ⟨b, 0, none⟩), .slice a n c] 60 (0, 0)) := (hg2.out b (hLt HH1.out) (HO1.out.ne HH1.out wtN)).trans HH1.out; have HO2' := hidV HO2; have HB2' := hidV hb2; have d2 : w2.cell? ⟨b, 1, none⟩ = some (.slice a n c) := (by rw [Lib.cell_of_heap hh2]; rfl); have f2 : w2.frozen? ⟨b, 1, none⟩ = false := Lib.frozen_of_heap hh2 1; clear HO2 hb2 hh2))
  go_ret2
  obtain ⟨r1, r2⟩ := bu_put (Or.inr rfl) HH1.out HO1.out HO2'.out HB2'.out hg2.out
  exact ⟨⟨_, rfl⟩, r1, HK1.out.kb.trans r2⟩
set_option maxHeartbeats 2000000 in
set_option maxRecDepth 100000 in
theorem wbyte_c (b : Nat) (l : List UInt8) (x : UInt8) (z : Int) (hz : (x.toNat : Int) = z) (w : World) (h : Bu b w l) (hs : l.length + 1 ≤ 70368744177664) :
    Calls Tryd.prog 50 #[.pointer (some ⟨b, 0, none⟩), .int .u8 z] w fun e w' => (∃ v, e = .returned v) ∧ Bu b w' (l ++ [x]) ∧ Kb b w w' := by
  obtain ⟨p, a, n, c, hp, hh, ho⟩ := h
  have HC := hidV (copy_c b p (.slice a n c) w hh hp)
  have HO := hidV ho
  have HN : Hid (n = l.length) := ho.e
  have HH := hidV hh
  have HL : Hid (l.length + 1 ≤ 70368744177664) := hs
  have HZ : Hid ((x.toNat : Int) = z) := hz
  clear hh ho hs hp hz
  go_enter Tryd.func50, Tryd.ntmps50
  go_wp2_with (first
    | (go_at_call 58; refine HC.out.mono ?_; rintro e w1 ⟨rfl, hh1, hk1⟩; have ho1 := HO.out.kx HH.out hk1; have HH1 := hidV hh1; have HO1 := hidV ho1; have HK1 := hidV hk1; have HB1 : Hid (b ≤ w1.heap.size) := Nat.le_of_lt (hLt hh1); have d1 : w1.cell? ⟨b, 1, none⟩ = some (.slice a n c) := (by rw [Lib.cell_of_heap hh1]; rfl); clear hh1 hk1 ho1)
    | (at_builtin; refine app_byte rfl _ _ rfl b a n c l x z HZ.out rfl HO1.out rfl (by have := HN.out; have := HL.out; omega) HB1.out ?_; intro a2 n2 c2 w2 HO2 HN2 hb2 hg2; have hh2 : w2.heap[b]? = some (.cells #[.pointer (some ⟨b, 0, none⟩), .slice a n c] 60 (0, 0)) := (hg2.out b (hLt HH1.out) (HO1.out.ne HH1.out wtN)).trans HH1.out; have HO2' := hidV HO2; have HB2' := hidV hb2; have d2 : w2.cell? ⟨b, 1, none⟩ = some (.slice a n c) := (by rw [Lib.cell_of_heap hh2]; rfl); have f2 : w2.frozen? ⟨b, 1, none⟩ = false := Lib.frozen_of_heap hh2 1; clear HO2 hb2 hh2))
  go_ret
  obtain ⟨r1, r2⟩ := bu_put (Or.inr rfl) HH1.out HO1.out HO2'.out HB2'.out hg2.out
  exact ⟨⟨_, rfl⟩, r1, HK1.out.kb.trans r2⟩
theorem wlen_c (b : Nat) (l : List UInt8) (w : World) (h : Bu b w l) :
    Calls Tryd.prog 51 #[.pointer (some ⟨b, 0, none⟩)] w fun e w' => e = .returned (.int .i64 l.length) ∧ w' = w := by
  obtain ⟨p, a, n, c, hp, hh, ho⟩ := h
  have d1 : w.cell? ⟨b, 1, none⟩ = some (.slice a n c) := by rw [Lib.cell_of_heap hh]; rfl
  have HN : Hid (n = l.length) := ho.e
  clear hh ho hp
  go_enter Tryd.func51, Tryd.ntmps51
  go_wp2
  go_ret
  exact ⟨by rw [HN.out]; rfl, rfl⟩
set_option maxHeartbeats 2000000 in
set_option maxRecDepth 100000 in
theorem wfin_c (b : Nat) (l : List UInt8) (w : World) (h : Bu b w l) (h0 : l ≠ []) (hl : l.length ≤ 9223372036854775807) :
    Calls Tryd.prog 30 #[.pointer (some ⟨b, 0, none⟩)] w fun e w' => e = .returned (.string (S l)) ∧ Kb b w w' := by
  obtain ⟨p, a, n, c, hp, hh, ho⟩ := h
  have hn : n = l.length := ho.e
  subst hn
  have hl0 : l.length ≠ 0 := by simpa using h0
  have hown := ho.o
  obtain ⟨g, cap, cur, e0, hbg, hg, hnc, hcm, hcs, htake⟩ : ∃ g cap cur, Value.slice a l.length c = .slice (some ⟨g, 0, none⟩) l.length cap ∧ b ≤ g ∧ w.heap[g]? = some (.cells cur 5 (0, 0)) ∧ l.length ≤ cap ∧ cap ≤ maxLen ∧ cur.size = cap * 1 ∧ cur.toList.take (l.length * 1) = bC l := by
    rcases hown.2 with ⟨_, hz⟩ | ⟨g, cap, cur, hv, r⟩
    · exact absurd hz hl0
    · exact ⟨g, cap, cur, hv, r⟩
  injection e0 with e1 e2 e3
  subst e1 e3
  have hgb : g ≠ b := fun e => by subst e; rw [hg] at hh; injection hh with hh; injection hh with _ e2 _; exact wtN e2.symm
  have c1 : w.drew.cell? ⟨b, 1, none⟩ = some (.slice (some ⟨g, 0, none⟩) l.length c) := by
    have : w.drew.heap[b]? = some (.cells #[.pointer p, .slice (some ⟨g, 0, none⟩) l.length c] 60 (0, 0)) := hh
    rw [Lib.cell_of_heap this]; rfl
  have hSD : (Builtin.unsafeSliceData_ #[51] 73 #[.slice (some ⟨g, 0, none⟩) l.length c]).run Tryd.prog w.drew = .ok (.pointer (some ⟨g, 0, none⟩)) w.drew :=
    Lib.run_unsafeSliceData_row _ _ _ _ _ _ (by omega)
  have hUS : (Builtin.unsafeString_ #[73, 3] 9 #[.pointer (some ⟨g, 0, none⟩), .int .i64 l.length]).run Tryd.prog w.drew = .ok (.string (S l)) (w.drew.freeze ⟨g, 0, none⟩ l.length) := by
    refine Lib.run_unsafeString_row w.drew 73 3 9 5 Tryd.underlying73 (by kernel_rfl) g cur.size (by have hg' : w.drew.heap[g]? = some (.cells cur 5 (0, 0)) := hg; simp [World.shape?, hg']) l h0 (by omega) hl ?_
    intro j x hx
    have := hown.cells (g := g) rfl j (.int .u8 x.toNat) (by simp [bC, hx])
    exact this
  have HK : Hid (Kb b w (w.drew.freeze ⟨g, 0, none⟩ l.length)) := by
    refine ⟨Lib.below_freeze (Below.drew (Below.refl b w)) (p := ⟨g, 0, none⟩) hbg _, fun k cs t fr e ht hk => ?_⟩
    have hkg : k ≠ g := fun e2 => by subst e2; rw [hg] at e; injection e with e; injection e with _ e2 _; exact ht e2.symm
    have := (Lib.below_freeze (Below.drew (Below.refl b w)) (p := ⟨g, 0, none⟩) hbg l.length)
    show (w.drew.freeze ⟨g, 0, none⟩ l.length).heap[k]? = _
    rw [show (w.drew.freeze ⟨g, 0, none⟩ l.length).heap[k]? = w.heap[k]? from by simp only [World.freeze, if_neg hl0]; rw [Array.getElem?_modify, if_neg (show g ≠ k from fun e => hkg e.symm)]; rfl]
    exact e
  clear hh hg htake hown ho hcs hcm
  have mixed : Tryd.prog.follows .mixedOrders = true := by kernel_rfl
  go_enter Tryd.func30, Tryd.ntmps30
  go_wp2
  go_region_o
  all_goals (go_wp2; go_ret; exact ⟨rfl, HK.out⟩)
end Go.Proofs.YtfcongggmjijfaaDoor

/- Texts EvI EvJ, joined: what each part says stands ahead of it. -/
import Derived.Test.YtokepgnnepjiaaaGreatGEb
import Derived.LaidEqlPtr
/- The library's Push, Pop, Remove over a queue. -/
namespace Go.Proofs.YtokepgnnepjiaaaGreat.Q
set_option maxRecDepth 100000
open Go.RowKit Qu Go.Maps
set_option linter.unusedVariables false
set_option linter.unusedSimpArgs false

/-- a list's row stays where it was, or is new -/
def Mv (v v' : Value) (w : World) : Prop := ∀ x, v'.ownBlock = some x → v.ownBlock = some x ∨ w.heap.size ≤ x
theorem Qb.hr {B q n gb cap : Nat} {lim : Int} {W : World} {l : List Ev} (h : Qb B q lim W (.slice (some ⟨gb, 0, none⟩) n cap) l) (hn : l.length = n) : Hr B gb cap n ⟨q, 2, none⟩ W l := by
  have hr : EvR B W gb cap l := by have := h.row; unfold EvS at this; unfold EvR; rw [hn] at this ⊢; exact this
  exact ⟨hr, hn, (cells3 h.blk).2.2.1, fun e => h.ne (by show some gb = some q; rw [← e])⟩
theorem Hr.qb {B q n gb cap : Nat} {lim : Int} {W W' : World} {l l' : List Ev} (h : Qb B q lim W (.slice (some ⟨gb, 0, none⟩) n cap) l) (k : Hr B gb cap n ⟨q, 2, none⟩ W' l') (hb : But gb W W') : Qb B q lim W' (.slice (some ⟨gb, 0, none⟩) n cap) l' := by
  refine ⟨(hb.block q (hLt h.blk) (fun e => h.ne (by rw [e]; rfl))).trans h.blk, ?_, h.ge⟩
  have := k.r
  unfold EvR at this
  unfold EvS
  rw [k.n] at this ⊢
  exact this
/-- a queue whose list is a heap -/
structure Qh (B q : Nat) (lim : Int) (W : World) (v : Value) (l : List Ev) : Prop where
  b : Qb B q lim W v l
  h : Hp l l.length
theorem But2.but {T U : Nat} {w w' w2 : World} (h : But2 T (some U) w w') (k : But U w' w2) : But2 T (some U) w w2 := h.trans (But2.of' k) (fun x e => Or.inl e)
set_option maxHeartbeats 4000000 in
theorem hPush_c (B q : Nat) (lim : Int) (v : Value) (l : List Ev) (x : Ev) (w : World) (h : Qh B q lim w v l) (hn : l.length ≤ 4096) (hB : B ≤ w.heap.size) :
    Calls Tryz.prog 53 #[.iface 104 (.pointer (some ⟨q, 2, none⟩)), .iface 39 (.agg #[.int .i64 x.t, .int .i64 x.nd, .string x.v, .int .i64 x.fr, .int .i64 x.sq, .bool x.an])] w fun e w' => e = .returned (.tuple #[]) ∧ ∃ v' l', Hid (Qh B q lim w' v' l') ∧ Hid (l'.Perm (x :: l)) ∧ Hid (But2 q v.ownBlock w w') ∧ Hid (Mv v v' w) := by
  have HQ : Hid (Qh B q lim w v l) := h
  have m1 := mPush ⟨q, 2, none⟩ w
  have HP : Hid (Calls Tryz.prog 177 #[.pointer (some ⟨q, 2, none⟩), .iface 39 (.agg #[.int .i64 x.t, .int .i64 x.nd, .string x.v, .int .i64 x.fr, .int .i64 x.sq, .bool x.an])] w fun e w' => e = .returned (.tuple #[]) ∧ ∃ g' cap', Hid (Qb B q lim w' (.slice (some ⟨g', 0, none⟩) (l.length + 1) cap') (l ++ [x])) ∧ Hid (But2 q v.ownBlock w w') ∧ Hid (some g' = v.ownBlock ∨ w.heap.size ≤ g')) := push_c B q lim v l x w h.b (by omega) hB
  clear h
  obtain ⟨n, hN⟩ : ∃ n, n = l.length := ⟨_, rfl⟩
  have HN : Hid (n = l.length) := hN
  rw [← hN] at HP hn
  clear hN
  go_enter Tryz.func53, Tryz.ntmps53
  go_wp2_with (first
    | (go_at_call 177; refine HP.out.mono ?_; rintro e w1 ⟨rfl, gb, cap, HQ1, HB1, HL1⟩; have hr1 := HQ1.out.hr (by rw [List.length_append, HN.out]; rfl); have m2 := mLen ⟨q, 2, none⟩ (some ⟨gb, 0, none⟩) (n + 1) cap w1 hr1.c; have HR1 : Hid (Hr B gb cap (n + 1) ⟨q, 2, none⟩ w1 (l ++ [x])) := hr1; clear hr1)
    | (go_at_call 171; refine (lenE_c _ _ _ _).mono ?_; rintro e w2 ⟨rfl, hw2⟩; rw [hw2]; clear hw2)
    | (go_at_call 80; refine (up_c B gb cap (n + 1) ⟨q, 2, none⟩ (l ++ [x]) (n + 1) n _ HR1.out (by omega) (Nat.le_refl _) (by omega) (by rw [HN.out]; exact (HQ.out.h.push x).1) (by rw [HN.out]; exact (HQ.out.h.push x).2)).mono ?_; rintro e w3 ⟨rfl, l', HW, HH, HR3, HB3⟩))
  go_end0
  have hb : But2 q v.ownBlock w w3 := HB1.out.trans (But2.of' (T := q) HB3.out) (fun y e => by injection e with e; subst e; rcases HL1.out with k | k; exact Or.inl k.symm; exact Or.inr k)
  have hp : l'.Perm (x :: l) := HW.out.perm.trans (List.perm_append_comm)
  refine ⟨rfl, _, l', ⟨HR3.out.qb HQ1.out HB3.out, ?_⟩, hp, hb, fun y e => ?_⟩
  · have := HH.out; rw [HR3.out.n]; exact this
  · injection e with e; subst e; rcases HL1.out with k | k; exact Or.inl k.symm; exact Or.inr k
/-- behind a walk: the last one is taken off -/
theorem pop_fin {l l1 l2 : List Ev} {m i : Nat} (hm : l.length = m + 1) (hi : i < m + 1) (e1 : l1 = swp l i m) (hw : Wk l1 l2 m) (hp : Hp l2 m) : g l2 m = g l i ∧ l.Perm (g l i :: l2.take m) ∧ Hp (l2.take m) (l2.take m).length := by
  have h2 : l2.length = m + 1 := by rw [hw.len, e1, swp_len, hm]
  have hg : g l2 m = g l i := by rw [hw.tail m (Nat.le_refl _), e1, g_swp (by omega) (by omega), if_pos rfl]
  refine ⟨hg, ?_, ?_⟩
  · have a : l2.Perm l := hw.perm.trans (by rw [e1]; exact swp_perm (by omega) (by omega))
    rw [take_last h2, hg] at a
    exact a.symm.trans List.perm_append_comm
  · rw [List.length_take, h2, Nat.min_eq_left (by omega)]
    exact hp.congr fun c hc => g_take hc
def PopC (B q gb cap m : Nat) (lim : Int) (l : List Ev) (w : World) (x : Ev) : Prop :=
  Calls Tryz.prog 176 #[.pointer (some ⟨q, 2, none⟩)] w fun e w' => e = .returned (.iface 39 (.agg #[.int .i64 x.t, .int .i64 x.nd, .string x.v, .int .i64 x.fr, .int .i64 x.sq, .bool x.an])) ∧ Hid (Qb B q lim w' (.slice (some ⟨gb, 0, none⟩) m cap) (l.take m)) ∧ Hid (But2 q (some gb) w w')
theorem popC {B q gb cap m : Nat} {lim : Int} {l : List Ev} {w : World} {x : Ev} (hx : g l m = x) (hm : l.length = m + 1) (h : Qb B q lim w (.slice (some ⟨gb, 0, none⟩) (m + 1) cap) l) (hs : m ≤ 1000000) : PopC B q gb cap m lim l w x := by
  subst hx; exact pop_c B q gb cap m lim l w hm h hs
theorem PopC.out {B q gb cap m : Nat} {lim : Int} {l : List Ev} {w : World} {x : Ev} (h : Hid (PopC B q gb cap m lim l w x)) : Calls Tryz.prog 176 #[.pointer (some ⟨q, 2, none⟩)] w fun e w' => e = .returned (.iface 39 (.agg #[.int .i64 x.t, .int .i64 x.nd, .string x.v, .int .i64 x.fr, .int .i64 x.sq, .bool x.an])) ∧ Hid (Qb B q lim w' (.slice (some ⟨gb, 0, none⟩) m cap) (l.take m)) ∧ Hid (But2 q (some gb) w w') := h.out
theorem ho_zero {l : List Ev} : Ho l 0 0 := ⟨fun c _ h => by omega, fun c _ h => by omega⟩
theorem DnE.hp {l1 l2 : List Ev} {m : Nat} {b : Bool} (h : DnE l1 l2 m 0 b) (ho : Ho l1 m 0) : Wk l1 l2 m ∧ Hp l2 m := by
  refine ⟨h.1, ?_⟩
  rcases h.2 with ⟨_, k⟩ | ⟨_, k, c⟩
  · exact k
  · rw [k]; exact up_end ho c (Or.inl rfl)
set_option maxHeartbeats 4000000 in
theorem hPop_c (B q gb cap m : Nat) (lim : Int) (l : List Ev) (w : World) (hm : l.length = m + 1) (h : Qh B q lim w (.slice (some ⟨gb, 0, none⟩) (m + 1) cap) l) (hs : m ≤ 4096) :
    Calls Tryz.prog 96 #[.iface 104 (.pointer (some ⟨q, 2, none⟩))] w fun e w' => e = .returned (.iface 39 (.agg #[.int .i64 (g l 0).t, .int .i64 (g l 0).nd, .string (g l 0).v, .int .i64 (g l 0).fr, .int .i64 (g l 0).sq, .bool (g l 0).an])) ∧ ∃ l', Hid (Qh B q lim w' (.slice (some ⟨gb, 0, none⟩) m cap) l') ∧ Hid (l.Perm (g l 0 :: l')) ∧ Hid (But2 q (some gb) w w') := by
  have HQ : Hid (Qh B q lim w (.slice (some ⟨gb, 0, none⟩) (m + 1) cap) l) := h
  have HR : Hid (Hr B gb cap (m + 1) ⟨q, 2, none⟩ w l) := h.b.hr hm
  clear h
  have HM : Hid (l.length = m + 1) := hm
  clear hm
  have HO : Hid (Ho (swp l 0 m) m 0) := by
    rcases Nat.eq_zero_or_pos m with e | e
    · subst e; exact ho_zero
    · exact Hp.hole (by have := HQ.out.h; rw [HM.out] at this; exact this) HM.out e
  obtain ⟨l1, HL1⟩ : ∃ l1, Hid (l1 = swp l 0 m) := ⟨_, rfl⟩
  rw [← HL1.out] at HO
  have m1 := mLen ⟨q, 2, none⟩ (some ⟨gb, 0, none⟩) (m + 1) cap w HR.out.c
  have m2 := mSwap ⟨q, 2, none⟩ (some ⟨gb, 0, none⟩) (m + 1) cap w HR.out.c
  go_enter Tryz.func96, Tryz.ntmps96
  go_wp2_with (first
    | (go_at_call 171; refine (lenE_c _ _ _ _).mono ?_; rintro e w2 ⟨rfl, hw2⟩; rw [hw2]; clear hw2)
    | (go_at_call 173; refine (swap_z (l := l) HR.out.n 0 m _ HR.out.r (by omega) (by omega) rfl rfl).mono ?_; rintro e w1 ⟨rfl, hr1, hb1⟩; have HR1 : Hid (Hr B gb cap (m + 1) ⟨q, 2, none⟩ w1 l1) := (by rw [HL1.out]; exact HR.out.swap hr1 hb1); have HB1 : Hid (But gb w w1) := hb1; clear hr1 hb1)
    | (go_at_call 81; refine (down_c B gb cap (m + 1) ⟨q, 2, none⟩ l1 m 0 _ HR1.out (Nat.zero_le _) (by omega) (by omega) HO.out).mono ?_; rintro e w3 ⟨b, rfl, l2, HD, HR3, HB3⟩; have m3 := mPop ⟨q, 2, none⟩ w3; have HF : Hid (g l2 m = g l 0 ∧ l.Perm (g l 0 :: l2.take m) ∧ Hp (l2.take m) (l2.take m).length) := pop_fin HM.out (by omega) HL1.out (HD.out.hp HO.out).1 (HD.out.hp HO.out).2; have HQ3 : Hid (Qb B q lim w3 (.slice (some ⟨gb, 0, none⟩) (m + 1) cap) l2) := HR3.out.qb HQ.out.b (HB1.out.trans HB3.out); have HY : Hid (PopC B q gb cap m lim l2 w3 (g l 0)) := popC HF.out.1 HR3.out.n HQ3.out (by omega))
    | (go_at_call 176; refine (PopC.out HY).mono ?_; rintro e w4 ⟨rfl, HQ4, HB4⟩))
  go_ret
  exact ⟨rfl, _, ⟨HQ4.out, HF.out.2.2⟩, HF.out.2.1, (But2.of' (T := q) (HB1.out.trans HB3.out)).trans HB4.out (fun x e => Or.inl e)⟩
set_option maxHeartbeats 4000000 in
theorem hRemove_c (B q gb cap m i : Nat) (lim : Int) (l : List Ev) (w : World) (hm : l.length = m + 1) (h : Qh B q lim w (.slice (some ⟨gb, 0, none⟩) (m + 1) cap) l) (hs : m ≤ 4096) (hi : i < m + 1) :
    Calls Tryz.prog 54 #[.iface 104 (.pointer (some ⟨q, 2, none⟩)), .int .i64 (i : Int)] w fun e w' => (∃ r, e = .returned r) ∧ ∃ l', Hid (Qh B q lim w' (.slice (some ⟨gb, 0, none⟩) m cap) l') ∧ Hid (l.Perm (g l i :: l')) ∧ Hid (But2 q (some gb) w w') := by
  have HQ : Hid (Qh B q lim w (.slice (some ⟨gb, 0, none⟩) (m + 1) cap) l) := h
  have HR : Hid (Hr B gb cap (m + 1) ⟨q, 2, none⟩ w l) := h.b.hr hm
  clear h
  have HM : Hid (l.length = m + 1) := hm
  clear hm
  have m1 := mLen ⟨q, 2, none⟩ (some ⟨gb, 0, none⟩) (m + 1) cap w HR.out.c
  by_cases hlt : i < m
  · have HO : Hid (Ho (swp l i m) m i) := Hp.hole (by have := HQ.out.h; rw [HM.out] at this; exact this) HM.out hlt
    obtain ⟨l1, HL1⟩ : ∃ l1, Hid (l1 = swp l i m) := ⟨_, rfl⟩
    rw [← HL1.out] at HO
    have m2 := mSwap ⟨q, 2, none⟩ (some ⟨gb, 0, none⟩) (m + 1) cap w HR.out.c
    have ne1 : ((m : Int) != (i : Int)) = true := by simp; omega
    have HFin : Hid (∀ l2, Wk l1 l2 m → Hp l2 m → ∀ w3, Hr B gb cap (m + 1) ⟨q, 2, none⟩ w3 l2 → But gb w w3 → Calls Tryz.prog 176 #[.pointer (some ⟨q, 2, none⟩)] w3 fun e w' => (∃ r, e = .returned r) ∧ ∃ l', Hid (Qh B q lim w' (.slice (some ⟨gb, 0, none⟩) m cap) l') ∧ Hid (l.Perm (g l i :: l')) ∧ Hid (But2 q (some gb) w w')) := fun l2 hw hp w3 hr hb => by
      have hF := pop_fin HM.out (by omega) HL1.out hw hp
      refine (pop_c B q gb cap m lim l2 w3 hr.n (hr.qb HQ.out.b hb) (by omega)).mono ?_
      rintro e w4 ⟨rfl, HQ4, HB4⟩
      exact ⟨⟨_, rfl⟩, _, ⟨HQ4.out, hF.2.2⟩, hF.2.1, (But2.of' (T := q) hb).trans HB4.out (fun x e => Or.inl e)⟩
    go_enter Tryz.func54, Tryz.ntmps54
    go_wp2_with (first
      | (go_at_call 171; refine (lenE_c _ _ _ _).mono ?_; rintro e w2 ⟨rfl, hw2⟩; rw [hw2]; clear hw2)
      | (go_at_call 173; refine (swap_n (l := l) HR.out.n i m _ HR.out.r (by omega) (by omega)).mono ?_; rintro e w1 ⟨rfl, hr1, hb1⟩; have HR1 : Hid (Hr B gb cap (m + 1) ⟨q, 2, none⟩ w1 l1) := (by rw [HL1.out]; exact HR.out.swap hr1 hb1); have HB1 : Hid (But gb w w1) := hb1; clear hr1 hb1)
      | (go_at_call 81; refine (down_c B gb cap (m + 1) ⟨q, 2, none⟩ l1 m i _ HR1.out (by omega) (by omega) (by omega) HO.out).mono ?_; rintro e w3 ⟨b, rfl, l2, HD, HR3, HB3⟩; have m3 := mPop ⟨q, 2, none⟩ w3; have HB3' : Hid (But gb w w3) := HB1.out.trans HB3.out)
      | (have hq := m5; go_at_call 176; refine (HFin.out l3 (HD.out.1.trans HW5.out) HH5.out _ HR5.out HB5'.out).mono ?_; rintro e w4 ⟨⟨r4, rfl⟩, l', HQ4, HP4, HB4⟩)
      | (go_at_call 176; refine (HFin.out l2 HD.out.1 (by rcases HD.out.2 with ⟨_, k⟩ | ⟨k, _⟩; exact k; simp_all) _ HR3.out HB3'.out).mono ?_; rintro e w4 ⟨⟨r4, rfl⟩, l', HQ4, HP4, HB4⟩)
      | (go_at_call 80; refine (up_c B gb cap (m + 1) ⟨q, 2, none⟩ l2 m i _ HR3.out (by omega) (by omega) (by omega) (by rcases HD.out.2 with ⟨k, _⟩ | ⟨_, k, _⟩; simp_all; rw [k]; exact HO.out) (by rcases HD.out.2 with ⟨k, _⟩ | ⟨_, k, c⟩; simp_all; rw [k]; exact c)).mono ?_; rintro e w5 ⟨rfl, l3, HW5, HH5, HR5, HB5⟩; have m5 := mPop ⟨q, 2, none⟩ w5; have HB5' : Hid (But gb w w5) := HB3'.out.trans HB5.out; clear m3))
    all_goals (go_ret; exact ⟨⟨_, rfl⟩, l', HQ4.out, HP4.out, HB4.out⟩)
  · have e : i = m := by omega
    subst e
    have m2 := mPop ⟨q, 2, none⟩ w
    have ne1 : ((i : Int) != (i : Int)) = false := by simp
    have HF : Hid (g l i = g l i ∧ l.Perm (g l i :: l.take i) ∧ Hp (l.take i) (l.take i).length) := pop_fin HM.out hi (swp_same (l := l) (i := i) (by have := HM.out; omega)).symm (Wk.refl l i) (Hp.mono HQ.out.h (by have := HM.out; omega))
    have HX : Hid (PopC B q gb cap i lim l w (g l i)) := popC rfl HM.out HQ.out.b (by omega)
    go_enter Tryz.func54, Tryz.ntmps54
    go_wp2_with (first
      | (go_at_call 171; refine (lenE_c _ _ _ _).mono ?_; rintro e w2 ⟨rfl, hw2⟩; rw [hw2]; clear hw2)
      | (go_at_call 176; refine (PopC.out HX).mono ?_; rintro e w4 ⟨rfl, HQ4, HB4⟩))
    go_ret
    exact ⟨⟨_, rfl⟩, _, ⟨HQ4.out, HF.out.2.2⟩, HF.out.2.1, HB4.out⟩
end Go.Proofs.YtokepgnnepjiaaaGreat.Q

/- A queue's own: given, Len, queueOf, New; find. -/
namespace Go.Proofs.YtokepgnnepjiaaaGreat.Q
set_option maxRecDepth 100000
open Go.RowKit Qu Go.Maps
set_option linter.unusedVariables false
set_option linter.unusedSimpArgs false

theorem infoQ : ∃ i, Tryz.prog.info? 101 = some i ∧ i.zero = some (.agg #[.pointer none, .int .i64 0, .slice none 0 0]) ∧ i.size = 3 ∧ i.bytes = 40 := info_parts (by kernel_rfl)
set_option maxHeartbeats 400000 in
theorem given_nil (w : World) : Calls Tryz.prog 51 #[.pointer none] w fun e w' => e = .returned (.bool false) ∧ w' = w := by
  go_enter Tryz.func51, Tryz.ntmps51
  go_wp2
  go_ret
  exact ⟨rfl, rfl⟩
set_option maxHeartbeats 400000 in
theorem given_zero (q : Nat) (w : World) (h : w.cell? ⟨q, 0, none⟩ = some (.pointer none)) : Calls Tryz.prog 51 #[.pointer (some ⟨q, 0, none⟩)] w fun e w' => e = .returned (.bool false) ∧ w' = w := by
  have hq : (binOp BinOp.eql 49 (.pointer none) (.pointer (some ⟨q, 0, none⟩))).run Tryz.prog w = .ok (.bool false) w := by kernel_rfl
  go_enter Tryz.func51, Tryz.ntmps51
  go_wp2
  go_ret
  exact ⟨rfl, rfl⟩
set_option maxHeartbeats 400000 in
theorem given_c (q : Nat) (w : World) (h : w.cell? ⟨q, 0, none⟩ = some (.pointer (some ⟨q, 0, none⟩))) : Calls Tryz.prog 51 #[.pointer (some ⟨q, 0, none⟩)] w fun e w' => e = .returned (.bool true) ∧ w' = w := by
  obtain ⟨jj, hj, _, _, _⟩ := infoQ
  have hq := run_eql_ptr_same (P := Tryz.prog) w (tp := 49) (te := 101) (⟨q, 0, none⟩ : Addr) (by kernel_rfl) hj
  clear hj
  go_enter Tryz.func51, Tryz.ntmps51
  go_wp2
  go_ret
  exact ⟨rfl, rfl⟩
set_option maxHeartbeats 400000 in
theorem len_no (p : Option Addr) (w : World) (h : Calls Tryz.prog 51 #[.pointer p] w fun e w' => e = .returned (.bool false) ∧ w' = w) : Calls Tryz.prog 46 #[.pointer p] w fun e w' => e = .returned (.int .i64 0) ∧ w' = w := by
  have H : Hid (Calls Tryz.prog 51 #[.pointer p] w fun e w' => e = .returned (.bool false) ∧ w' = w) := h
  clear h
  go_enter Tryz.func46, Tryz.ntmps46
  go_wp2_with (first
    | (go_at_call 51; refine H.out.mono ?_; rintro e w1 ⟨rfl, hw⟩; rw [hw]; clear hw))
  go_ret
  exact ⟨rfl, rfl⟩
set_option maxHeartbeats 400000 in
theorem len_c (B q : Nat) (lim : Int) (v : Value) (l : List Ev) (w : World) (h : Qb B q lim w v l) : Calls Tryz.prog 46 #[.pointer (some ⟨q, 0, none⟩)] w fun e w' => e = .returned (.int .i64 (l.length : Int)) ∧ w' = w := by
  obtain ⟨c0, c1, c2, f2⟩ := cells3 h.blk
  obtain ⟨ao, cap, rfl⟩ := h.row.slice
  have H : Hid (Calls Tryz.prog 51 #[.pointer (some ⟨q, 0, none⟩)] w fun e w' => e = .returned (.bool true) ∧ w' = w) := given_c q w c0
  clear h
  go_enter Tryz.func46, Tryz.ntmps46
  go_wp2_with (first
    | (go_at_call 51; refine H.out.mono ?_; rintro e w1 ⟨rfl, hw⟩; rw [hw]; clear hw))
  go_ret
  exact ⟨rfl, rfl⟩
set_option maxHeartbeats 400000 in
theorem queueOf_c (lim : Int) (ao : Option Addr) (n cap : Nat) (w : World) : Calls Tryz.prog 36 #[.int .i64 lim, .slice ao n cap] w fun e w' => e = .returned (.pointer (some ⟨w.heap.size, 0, none⟩)) ∧ w' = w.alloc (.cells #[.pointer (some ⟨w.heap.size, 0, none⟩), .int .i64 lim, .slice ao n cap] 101) := by
  go_enter Tryz.func36, Tryz.ntmps36
  go_wp2
  go_ret
  exact ⟨rfl, rfl⟩
theorem Qh.start (B : Nat) (lim : Int) (w : World) (hB : B ≤ w.heap.size) : Qh B w.heap.size lim (w.alloc (.cells #[.pointer (some ⟨w.heap.size, 0, none⟩), .int .i64 lim, .slice none 0 0] 101)) (.slice none 0 0) [] :=
  ⟨⟨alAt rfl, World.ownsRow_nil _ _ _ _, hB⟩, fun c _ h => by simp at h⟩
set_option maxHeartbeats 400000 in
theorem new_c (lim : Int) (w : World) (h1 : 1 ≤ lim) (h2 : lim ≤ 4096) : Calls Tryz.prog 19 #[.int .i64 lim] w fun e w' => e = .returned (.tuple #[.pointer (some ⟨w.heap.size, 0, none⟩), .int .i64 0]) ∧ w' = w.alloc (.cells #[.pointer (some ⟨w.heap.size, 0, none⟩), .int .i64 lim, .slice none 0 0] 101) := by
  go_enter Tryz.func19, Tryz.ntmps19
  go_wp2_with (first
    | (go_at_call 36; refine (queueOf_c _ _ _ _ _).mono ?_; rintro e w1 ⟨rfl, hw⟩; rw [hw]; clear hw))
  go_ret2
  exact ⟨rfl, rfl⟩
set_option maxHeartbeats 400000 in
theorem new_no (lim : Int) (w : World) (h : lim < 1 ∨ 4096 < lim) : Calls Tryz.prog 19 #[.int .i64 lim] w fun e w' => e = .returned (.tuple #[.pointer none, .int .i64 1]) ∧ w' = w := by
  rcases h with h | h
  · go_enter Tryz.func19, Tryz.ntmps19
    go_wp2
    go_ret2
    exact ⟨rfl, rfl⟩
  · have h1 : ¬ lim < 1 := by omega
    go_enter Tryz.func19, Tryz.ntmps19
    go_wp2
    go_ret2
    exact ⟨rfl, rfl⟩
set_option maxHeartbeats 1000000 in
theorem is_c (x : Ev) (fr sq : Int) (b c : Nat) (w : World) (h1 : w.cell? ⟨b, 0, none⟩ = some (.int .i64 fr)) (h2 : w.cell? ⟨c, 0, none⟩ = some (.int .i64 sq)) :
    Calls Tryz.prog 79 #[.agg #[.int .i64 x.t, .int .i64 x.nd, .string x.v, .int .i64 x.fr, .int .i64 x.sq, .bool x.an], .pointer (some ⟨b, 0, none⟩), .pointer (some ⟨c, 0, none⟩)] w fun e w' => e = .returned (.bool (decide (x.fr = fr ∧ x.sq = sq))) ∧ Below w.heap.size w w' := by
  have hb : b < w.heap.size := World.block_lt_of_cell? w ⟨b, 0, none⟩ h1
  have hc : c < w.heap.size := World.block_lt_of_cell? w ⟨c, 0, none⟩ h2
  obtain ⟨xt, xn, xv, xf, xs, xa⟩ := x
  dsimp only
  go_enter Tryz.func79, Tryz.ntmps79
  go_wp2
  all_goals (go_ret; exact ⟨ret_bool (by rw [Bool.eq_iff_iff]; simp_all), belA (Below.refl _ _) _⟩)
/-- where an event of these numbers stands -/
def Fd (l : List Ev) (fr sq k : Int) : Prop := (k = -1 ∧ ∀ i, i < l.length → ¬ ((g l i).fr = fr ∧ (g l i).sq = sq)) ∨ (∃ i : Nat, i < l.length ∧ k = (i : Int) ∧ (g l i).fr = fr ∧ (g l i).sq = sq)
/-- an event of a row, its cells, at any world behind -/
theorem EvS.cells {B : Nat} {W : World} {gb : Addr} {n cap : Nat} {l : List Ev} (h : EvS B W (.slice (some gb) n cap) l) (i : Nat) (hi : i < l.length) : gb = ⟨gb.block, 0, none⟩ ∧ n = l.length ∧ EvR B W gb.block cap l := by
  have h' := h
  unfold EvS at h'
  rcases h'.2 with ⟨a, _⟩ | ⟨g', cap', cur, a, _⟩
  · cases a
  · injection a with a b c
    injection a with a
    subst a b c
    exact ⟨rfl, rfl, h⟩
theorem EvS.below {B : Nat} {W W' : World} {v : Value} {l : List Ev} (h : EvS B W v l) (hb : Below W.heap.size W W') : EvS B W' v l := own_at h fun k hk => hb.block k (World.ownsRow.lt h k hk).2
set_option maxHeartbeats 2000000 in
theorem index_some (B gb cap : Nat) (l : List Ev) (fr sq : Int) (b c : Nat) (w : World) (h : EvR B w gb cap l) (h1 : w.cell? ⟨b, 0, none⟩ = some (.int .i64 fr)) (h2 : w.cell? ⟨c, 0, none⟩ = some (.int .i64 sq)) (hn : l.length ≤ 1000000) :
    Calls Tryz.prog 78 #[.slice (some ⟨gb, 0, none⟩) l.length cap, .func (.func 79) #[] #[.pointer (some ⟨b, 0, none⟩), .pointer (some ⟨c, 0, none⟩)]] w fun e w' => ∃ k, e = .returned (.int .i64 k) ∧ Hid (Fd l fr sq k) ∧ Below w.heap.size w w' := by
  have hb : b < w.heap.size := World.block_lt_of_cell? w ⟨b, 0, none⟩ h1
  have hc : c < w.heap.size := World.block_lt_of_cell? w ⟨c, 0, none⟩ h2
  have HS : Hid (EvR B w gb cap l ∧ w.cell? ⟨b, 0, none⟩ = some (.int .i64 fr) ∧ w.cell? ⟨c, 0, none⟩ = some (.int .i64 sq)) := ⟨h, h1, h2⟩
  clear h h1 h2
  obtain ⟨n, hN⟩ : ∃ n, n = l.length := ⟨_, rfl⟩
  rw [← hN] at hn ⊢
  have HN : Hid (n = l.length) := hN
  clear hN
  go_enter Tryz.func78, Tryz.ntmps78
  go_wp2
  go_loopw [8] (fun s8 W => ∃ (i : Nat), i ≤ n ∧ s8 = .int .i64 i ∧ Hid (∀ j, j < i → ¬ ((g l j).fr = fr ∧ (g l j).sq = sq)) ∧ Hid (Below w.heap.size w W)) (fun s8 W => n - (intOf s8).toNat)
  case atStart => exact ⟨0, Nat.zero_le _, rfl, fun j hj => by omega, Below.refl _ _⟩
  case round =>
    obtain ⟨i, hi, rfl, HF, HB⟩ := hrel
    by_cases hlt : i < n
    · have hs := HS.out.1.at_ (HB.out.block gb HS.out.1.lt)
      have hl : i < l.length := by have := HN.out; omega
      have hr := hs
      obtain ⟨a0, a1, a2, a3, a4, a5⟩ := hr.cells i hl
      have HI : Hid (∀ W, Below wr.heap.size wr W → Calls Tryz.prog 79 #[.agg #[.int .i64 (g l i).t, .int .i64 (g l i).nd, .string (g l i).v, .int .i64 (g l i).fr, .int .i64 (g l i).sq, .bool (g l i).an], .pointer (some ⟨b, 0, none⟩), .pointer (some ⟨c, 0, none⟩)] W fun e w' => e = .returned (.bool (decide ((g l i).fr = fr ∧ (g l i).sq = sq))) ∧ Below W.heap.size W w') := fun W hW => is_c (g l i) fr sq b c W (by rw [((belT HB.out hW)).cell (p := ⟨b, 0, none⟩) hb]; exact HS.out.2.1) (by rw [((belT HB.out hW)).cell (p := ⟨c, 0, none⟩) hc]; exact HS.out.2.2)
      have i1 : (0 : Int) ≤ (i : Int) := by omega
      have i2 : (i : Int) < (n : Int) := by omega
      clear hs hr hl
      by_cases hx : (g l i).fr = fr ∧ (g l i).sq = sq
      · rw [decide_eq_true hx] at HI
        have HX : Hid ((g l i).fr = fr ∧ (g l i).sq = sq) := hx
        clear hx
        go_wp2_with (first
          | (go_at_call 79; refine (HI.out _ (Below.refl _ _)).mono ?_; rintro e w2 ⟨rfl, hb2⟩))
        go_ret
        exact ⟨_, rfl, Or.inr ⟨i, by have := HN.out; omega, rfl, HX.out⟩, belT HB.out hb2⟩
      · rw [decide_eq_false hx] at HI
        have HX : Hid (¬ ((g l i).fr = fr ∧ (g l i).sq = sq)) := hx
        clear hx
        go_wp2_with (first
          | (go_at_call 79; refine (HI.out _ (Below.refl _ _)).mono ?_; rintro e w2 ⟨rfl, hb2⟩))
        go_roundw
        case rel =>
          have HF2 : Hid (∀ j, j < i + 1 → ¬ ((g l j).fr = fr ∧ (g l j).sq = sq)) := fun j hj => by
            rcases (by omega : j < i ∨ j = i) with e | e
            · exact HF.out j e
            · subst e; exact HX.out
          exact ⟨i + 1, hlt, by go_num, HF2, belT HB.out hb2⟩
        case measure => simp [intOf]; omega
    · obtain rfl : i = n := by omega
      go_wp2
      go_ret
      exact ⟨_, rfl, Or.inl ⟨rfl, fun j hj => HF.out j (by have := HN.out; omega)⟩, HB.out⟩
set_option maxHeartbeats 400000 in
theorem index_nil (f : Value) (w : World) : Calls Tryz.prog 78 #[.slice none 0 0, f] w fun e w' => e = .returned (.int .i64 (-1)) ∧ w' = w := by
  go_enter Tryz.func78, Tryz.ntmps78
  go_wp2
  go_rounds 1
  go_ret
  exact ⟨rfl, rfl⟩
theorem index_c (B : Nat) (ao : Option Addr) (cap : Nat) (l : List Ev) (fr sq : Int) (b c : Nat) (w : World) (h : EvS B w (.slice ao l.length cap) l) (h1 : w.cell? ⟨b, 0, none⟩ = some (.int .i64 fr)) (h2 : w.cell? ⟨c, 0, none⟩ = some (.int .i64 sq)) (hn : l.length ≤ 1000000) :
    Calls Tryz.prog 78 #[.slice ao l.length cap, .func (.func 79) #[] #[.pointer (some ⟨b, 0, none⟩), .pointer (some ⟨c, 0, none⟩)]] w fun e w' => ∃ k, e = .returned (.int .i64 k) ∧ Hid (Fd l fr sq k) ∧ Below w.heap.size w w' := by
  have h' := h
  unfold EvS at h'
  rcases h'.2 with ⟨a, z⟩ | ⟨g', cap', cur, a, _⟩
  · rw [a]
    refine (index_nil _ w).mono ?_
    rintro e w' ⟨rfl, hw⟩
    rw [hw]
    exact ⟨_, rfl, Or.inl ⟨rfl, fun i hi => by omega⟩, Below.refl _ _⟩
  · injection a with a b c
    subst a c
    exact index_some B g' cap l fr sq _ _ w h h1 h2 hn
set_option maxHeartbeats 2000000 in
theorem find_c (B : Nat) (ao : Option Addr) (cap : Nat) (l : List Ev) (fr sq : Int) (w : World) (h : EvS B w (.slice ao l.length cap) l) (hn : l.length ≤ 1000000) :
    Calls Tryz.prog 52 #[.slice ao l.length cap, .int .i64 fr, .int .i64 sq] w fun e w' => ∃ k, e = .returned (.int .i64 k) ∧ Hid (Fd l fr sq k) ∧ Below w.heap.size w w' := by
  have HW : Hid (Below w.heap.size w ((w.alloc (.cells #[.int .i64 fr] 3)).alloc (.cells #[.int .i64 sq] 3))) := belA (belA (Below.refl _ _) _) _
  have HI : Hid (Calls Tryz.prog 78 #[.slice ao l.length cap, .func (.func 79) #[] #[.pointer (some ⟨w.heap.size, 0, none⟩), .pointer (some ⟨w.heap.size + 1, 0, none⟩)]] ((w.alloc (.cells #[.int .i64 fr] 3)).alloc (.cells #[.int .i64 sq] 3)) fun e w' => ∃ k, e = .returned (.int .i64 k) ∧ Hid (Fd l fr sq k) ∧ Below ((w.alloc (.cells #[.int .i64 fr] 3)).alloc (.cells #[.int .i64 sq] 3)).heap.size ((w.alloc (.cells #[.int .i64 fr] 3)).alloc (.cells #[.int .i64 sq] 3)) w') := index_c B ao cap l fr sq w.heap.size (w.heap.size + 1) _ (h.below HW.out) (by rw [Lib.cell_of_heap ((alOld (by simp)).trans (alAt rfl))]; rfl) (by rw [Lib.cell_of_heap (alAt (by simp))]; rfl) hn
  clear h
  generalize l.length = n at *
  go_enter Tryz.func52, Tryz.ntmps52
  go_wp2_with (first
    | (go_at_call 78; refine HI.out.mono ?_; rintro e w2 ⟨k, rfl, hk, hb2⟩))
  go_ret
  exact ⟨k, rfl, hk, belT HW.out hb2⟩
end Go.Proofs.YtokepgnnepjiaaaGreat.Q

/- The program's walk down from one node. -/
import Derived.Test.YtokepgnnepjiaaaGreatGLa
import Derived.Test.YtokepgnnepjiaaaGreatGKe
import Derived.BigRegion
namespace Go.Proofs.YtokepgnnepjiaaaGreat
set_option maxRecDepth 100000
open Go.RowKit Lg Nl Go.Maps
set_option linter.unusedVariables false
set_option linter.unusedSimpArgs false

def nZ (way : List Nat) : List Int := List.map (fun z : Nat => (z : Int)) way
theorem nZ_len (way : List Nat) : (nZ way).length = way.length := by simp [nZ]
theorem nZ_app (a b : List Nat) : nZ (a ++ b) = nZ a ++ nZ b := by simp [nZ]
theorem nZ_one (z : Nat) : nZ [z] = [(z : Int)] := rfl
theorem nZ_mem {way : List Nat} {z : Nat} (h : z ∈ way) : (z : Int) ∈ nZ way := List.mem_map.2 ⟨z, h, rfl⟩
theorem nZ_get {way : List Nat} {i z : Nat} (h : (nZ way)[i]? = some (z : Int)) : way[i]? = some z := by
  unfold nZ at h
  rw [List.getElem?_map] at h
  rcases hq : way[i]? with _ | y
  · rw [hq] at h; cases h
  · rw [hq] at h
    have h' : (y : Int) = (z : Int) := Option.some.inj h
    rw [show y = z by omega]
theorem nZ_drop (way : List Nat) (i : Nat) : nZ (way.drop i) = (nZ way).drop i := by simp [nZ, List.map_drop]
/-- where a call goes down from one node: its own way, and what the walker knows -/
structure Wy (w0 : World) (B b T1 T2 T3 n : Nat) (vN : Value) (l : List Nd) (st : Nat → Int) (nx : Nat → Nat) (lv : Nat → Int) (way : List Nat) (v : Value) (w : World) : Prop where
  k : Wk w0 b T1 T2 T3 n vN st nx lv w
  d : Dw l st nx lv way
  o : w.ownsRow B 3 1 v way.length (iC (nZ way))
  s : B ≤ w.heap.size
theorem Wy.below {w0 : World} {B b T1 T2 T3 n : Nat} {vN : Value} {l : List Nd} {st : Nat → Int} {nx : Nat → Nat} {lv : Nat → Int} {way : List Nat} {v : Value} {w w' : World} (h : Wy w0 B b T1 T2 T3 n vN l st nx lv way v w) (hb : Below w.heap.size w w') : Wy w0 B b T1 T2 T3 n vN l st nx lv way v w' :=
  ⟨h.k.below hb, h.d, own_below h.o hb, Nat.le_trans h.s hb.size⟩
/-- a node is met: its state is set, and it is put onto the way -/
theorem Wy.push {w0 : World} {B b T1 T2 T3 n : Nat} {vN : Value} {l : List Nd} {st : Nat → Int} {nx : Nat → Nat} {lv : Nat → Int} {pre : List Nat} {nn z k : Nat} {v v' : Value} {w w7 : World} {o : Obj} (h : Wy w0 B b T1 T2 T3 n vN l st nx lv (pre ++ [nn]) v w) (ap : Ap w0.heap.size b T1 T2 T3) (hp : pre.length = k)
    (hz : z < l.length) (h0 : st z = 0) (hh : (hgs (ndAt l nn))[nx nn]? = some z) (hb : b < B) (h1 : T1 < B) (h2 : T2 < B) (h3 : T3 < B) (h00 : w0.heap.size ≤ B)
    (ho : w7.ownsRow B 3 1 v' (k + 1 + 1) (iC (nZ (pre ++ [nn])) ++ [.int .i64 (z : Int)])) (hg : ((w.setCell ⟨T1, z, none⟩ (.int .i64 1)).alloc o).grownBy w7 v.ownBlock) : Wy w0 B b T1 T2 T3 n vN l (upd st z 1) nx lv ((pre ++ [nn]) ++ [z]) v' w7 := by
  refine ⟨?_, ?_, ?_, ?_⟩
  · exact ((h.k.set1 ap z 1).below (belA (Below.refl _ _) o)).grown hg (own_ge h.o) h00 hb h1 h2 h3
  · exact h.d.push hz h0 (fun a ha => by rw [last_at] at ha; injection ha with ha; subst ha; exact hh)
  · have e : ((pre ++ [nn]) ++ [z]).length = k + 1 + 1 := by simp [hp]
    rw [e, nZ_app _ [z], iC_app]; exact ho
  · have := hg.size; have := h.s; simp [World.setCell] at *; omega
/-- a node has its level: its state is set, and it is taken off the way -/
theorem Wy.pop {w0 : World} {B b T1 T2 T3 n : Nat} {vN : Value} {l : List Nd} {st : Nat → Int} {nx : Nat → Nat} {lv : Nat → Int} {pre : List Nat} {nn k g cap : Nat} {w : World} (h : Wy w0 B b T1 T2 T3 n vN l st nx lv (pre ++ [nn]) (.slice (some ⟨g, 0, none⟩) (k + 1) cap) w) (ap : Ap w0.heap.size b T1 T2 T3) (hp : pre.length = k)
    (hd : nx nn = (hgs (ndAt l nn)).length) (h1 : T1 < B) : Wy w0 B b T1 T2 T3 n vN l (upd st nn 2) nx lv pre (.slice (some ⟨g, 0, none⟩) k cap) (w.setCell ⟨T1, nn, none⟩ (.int .i64 2)) := by
  refine ⟨h.k.set1 ap nn 2, h.d.pop hd, ?_, ?_⟩
  · refine ownsRow_setCell_below ?_ (by show T1 < B; exact h1) _
    have ho := h.o
    rw [List.length_append, List.length_singleton, nZ_app, iC_app] at ho
    rw [hp] at ho ⊢
    exact ownsRow_pop (by rw [iC_len, nZ_len, hp, Nat.mul_one]) ho
  · have := h.s; simp [World.setCell]; exact this
/-- what a node hangs on has its level -/
theorem Wy.next {w0 : World} {B b T1 T2 T3 n : Nat} {vN : Value} {l : List Nd} {st : Nat → Int} {nx : Nat → Nat} {lv : Nat → Int} {pre : List Nat} {nn z : Nat} {v : Value} {w : World} (h : Wy w0 B b T1 T2 T3 n vN l st nx lv (pre ++ [nn]) v w) (hk : Ok l) (ap : Ap w0.heap.size b T1 T2 T3)
    (h2 : st z = 2) (hh : (hgs (ndAt l nn))[nx nn]? = some z) (h2' : T2 < B) (h3 : T3 < B) {c : Nat} (hc : c = nx nn + 1) {y : Int} (hy : y = max (lv nn) (lv z + 1)) :
    Wy w0 B b T1 T2 T3 n vN l st (upd nx nn c) (upd lv nn y) (pre ++ [nn]) v ((w.setCell ⟨T3, nn, none⟩ (.int .i64 y)).setCell ⟨T2, nn, none⟩ (.int .i64 (c : Int))) := by
  subst hc hy
  exact ⟨(h.k.set3 ap nn _).set2 ap nn _, h.d.next hk hh h2, ownsRow_setCell_below (ownsRow_setCell_below h.o (by show T3 < B; exact h3) _) (by show T2 < B; exact h2') _, by have := h.s; simp [World.setCell]; exact this⟩
theorem Wy.drew {w0 : World} {B b T1 T2 T3 n : Nat} {vN : Value} {l : List Nd} {st : Nat → Int} {nx : Nat → Nat} {lv : Nat → Int} {way : List Nat} {v : Value} {w : World} (h : Wy w0 B b T1 T2 T3 n vN l st nx lv way v w) : Wy w0 B b T1 T2 T3 n vN l st nx lv way v w.drew := ⟨h.k.drew, h.d, h.o, h.s⟩
theorem keepS {w : World} {b T z nn n : Nat} {a y : Int} (hb : b ≠ T) (hz : z ≠ nn) (h : w.cell? ⟨b, 3, none⟩ = some (.slice (some ⟨T, 0, none⟩) n n) ∧ w.cell? ⟨T, z, none⟩ = some (.int .i64 a)) :
    (w.setCell ⟨T, nn, none⟩ (.int .i64 y)).cell? ⟨b, 3, none⟩ = some (.slice (some ⟨T, 0, none⟩) n n) ∧ (w.setCell ⟨T, nn, none⟩ (.int .i64 y)).cell? ⟨T, z, none⟩ = some (.int .i64 a) :=
  ⟨by rw [World.cell?_setCell_other _ _ _ _ (fun e => hb (by injection e with e; exact e.symm))]; exact h.1, by rw [World.cell?_setCell_other _ _ _ _ (fun e => hz (by injection e with _ e; exact e.symm))]; exact h.2⟩
theorem hgs_get {x : Nd} {k : Nat} (hk : k < (hangL x).length) {z : Nat} (hz : (hangL x)[k] = (z : Int)) : (hgs x)[k]? = some z := by
  unfold hgs; rw [List.getElem?_map, List.getElem?_eq_getElem hk, hz]; rfl
theorem setAl {w : World} {g j : Nat} {v : Value} {o : Obj} (h : g < w.heap.size) : (w.setCell ⟨g, j, none⟩ v).alloc o = (w.alloc o).setCell ⟨g, j, none⟩ v := (World.setCell_alloc_past o g j v h).symm
theorem split_last {α : Type} (l : List α) {k : Nat} (h : l.length = k + 1) : ∃ pre x, l = pre ++ [x] ∧ pre.length = k :=
  ⟨l.take k, l[k], by rw [← List.take_succ_eq_append_getElem (by omega), List.take_of_length_le (by omega)], by rw [List.length_take]; omega⟩
theorem Wy.top_cell {w0 : World} {B b T1 T2 T3 n : Nat} {vN : Value} {l : List Nd} {st : Nat → Int} {nx : Nat → Nat} {lv : Nat → Int} {pre : List Nat} {nn k cap : Nat} {ao : Option Addr} {w : World} (h : Wy w0 B b T1 T2 T3 n vN l st nx lv (pre ++ [nn]) (.slice ao (k + 1) cap) w) (hp : pre.length = k) :
    ∃ g, ao = some ⟨g, 0, none⟩ ∧ B ≤ g ∧ g < w.heap.size ∧ w.cell? ⟨g, k, none⟩ = some (.int .i64 (nn : Int)) ∧ k + 1 ≤ cap := by
  have ho := h.o
  have hl : (pre ++ [nn]).length = k + 1 := by simp [hp]
  rw [hl] at ho
  obtain ⟨g, cap', e⟩ := own_slice1 ho
  injection e with e1 e2 e3
  subst e1
  have hc := own_cell ho k (by rw [nZ_len, hl]; omega)
  have hx : (nZ (pre ++ [nn]))[k]'(by rw [nZ_len, hl]; omega) = (nn : Int) := by
    simp [nZ, hp]
  rw [hx] at hc
  have hlt := (World.ownsRow.lt ho g rfl)
  refine ⟨g, rfl, hlt.1, hlt.2, hc, ?_⟩
  rcases ho.2 with ⟨h', _⟩ | ⟨g', c', cur, h', _, _, hcap, _⟩
  · cases h'
  · injection h' with _ _ e; subst e; exact hcap
set_option maxRecDepth 100000 in
set_option maxHeartbeats 4000000 in
theorem down_c (w0 : World) (b T1 T2 T3 : Nat) (l : List Nd) (n : Nat) (na : Option Addr) (nc : Nat) (st0 : Nat → Int) (nx0 : Nat → Nat) (lv0 : Nat → Int) (fr : Nat) (w : World)
    (hk : Ok l) (hN : NdsAt w0 (.slice na n nc) l) (hnl : n = l.length) (ap : Ap w0.heap.size b T1 T2 T3) (h : Wk w0 b T1 T2 T3 n (.slice na n nc) st0 nx0 lv0 w) (d : Dw l st0 nx0 lv0 []) (hf : fr < n) (h0 : st0 fr = 0) (hlv : ∀ i, i < n → lv0 i + mu st0 n ≤ 2 * n) :
    Calls Tryz.prog 102 #[.pointer (some ⟨b, 0, none⟩), .int .i64 fr] w fun e w' =>
      (∃ st nx lv, e = .returned (.slice none 0 0) ∧ Wk w0 b T1 T2 T3 n (.slice na n nc) st nx lv w' ∧ Dw l st nx lv [] ∧ (∀ i, i < n → lv i + mu st n ≤ 2 * n) ∧ (∀ i, i < n → st0 i ≤ st i) ∧ 1 ≤ st fr) ∨
      (∃ v p, e = .returned v ∧ IntsAt w' v (nZ p) ∧ Ring l p ∧ Below w0.heap.size w0 w') := by
  have hn4 : n ≤ 4096 := by rw [hnl]; exact hk.n
  obtain ⟨p0, p1, p2, p3⟩ := cells4n h.blk
  have hbl := hLt h.blk
  have y0 := h.r1.cell hf
  have yf := h.r1.frozen fr
  have l1 := h.r1.lt
  have l2 := h.r2.lt
  have l3 := h.r3.lt
  have f1 : (0 : Int) ≤ (fr : Int) := by omega
  have f2 : (fr : Int) < (n : Int) := by omega
  have hfl : fr < l.length := by omega
  have HS0 : Hid (w0.heap.size ≤ w.heap.size) := h.bel.size
  have HK : Hid (Ok l) := hk
  have HN : Hid (NdsAt w0 (.slice na n nc) l) := hN
  have HNL : Hid (n = l.length) := hnl
  have HAp : Hid (Ap w0.heap.size b T1 T2 T3) := ap
  have HLV : Hid (∀ i, i < n → lv0 i + mu st0 n ≤ 2 * n) := hlv
  have hs0 : 0 ≤ st0 fr := by omega
  have D1 := d.push hfl h0 (fun a ha => by simp at ha)
  have M1 := mu_upd st0 fr 1 (by omega) (by omega) n hf
  have hml := mu_le st0 n (fun i hi => by rcases d.s i (by omega) with h | h | h <;> omega)
  have W1 := ((h.below (belA (Below.refl _ _) (.cells #[.int .i64 (fr : Int)] 3))).set1 ap fr 1)
  have O1 : ((w.alloc (.cells #[.int .i64 (fr : Int)] 3)).setCell ⟨T1, fr, none⟩ (.int .i64 1)).ownsRow w.heap.size 3 1 (.slice (some ⟨w.heap.size, 0, none⟩) 1 1) 1 (iC (nZ [fr])) :=
    ownsRow_setCell_below (World.ownsRow_lit w #[.int .i64 (fr : Int)] 1 (Nat.le_refl _) (by decide) rfl) (by show T1 < w.heap.size; exact l1) _
  have HY1 : Hid (Wy w0 w.heap.size b T1 T2 T3 n (.slice na n nc) l (upd st0 fr 1) nx0 lv0 [fr] (.slice (some ⟨w.heap.size, 0, none⟩) 1 1) ((w.alloc (.cells #[.int .i64 (fr : Int)] 3)).setCell ⟨T1, fr, none⟩ (.int .i64 1))) := ⟨W1, D1, O1, by simp [World.setCell]⟩
  have HM1 : Hid (mu (upd st0 fr 1) n + 1 = mu st0 n) := M1
  have HML : Hid (mu st0 n ≤ 2 * n) := hml
  have HMo : Hid (∀ i, i < n → st0 i ≤ upd st0 fr 1 i) := fun i hi => by unfold upd; split; (rename_i e; rw [e]; omega); exact Int.le_refl _
  have H1 : Hid (1 ≤ upd st0 fr 1 fr) := by show (1 : Int) ≤ upd st0 fr 1 fr; rw [upd_at]; exact Int.le_refl _
  clear h d hlv hk hN ap D1 M1 W1 O1 hml h0 hnl hs0 hfl
  go_enter Tryz.func102, Tryz.ntmps102
  go_wp2
  go_step3
  go_wp2
  go_step3
  go_wp2
  go_loopg [5] (mu (upd st0 fr 1) n) (fun g s5 W => ∃ (ao : Option Addr) (m cap : Nat) (way : List Nat) (st : Nat → Int) (nx : Nat → Nat) (lv : Nat → Int), s5 = .slice ao m cap ∧ Hid (m = way.length) ∧ Hid (g = mu st n) ∧ Hid (m + g ≤ 2 * n) ∧ Hid (Wy w0 w.heap.size b T1 T2 T3 n (.slice na n nc) l st nx lv way (.slice ao m cap) W) ∧ Hid (∀ i, i < n → lv i + g ≤ 2 * n) ∧ Hid (∀ i, i < n → st0 i ≤ st i) ∧ Hid (1 ≤ st fr))
  case atStart =>
    rw [setAl l1]
    refine ⟨_, 1, 1, [fr], upd st0 fr 1, nx0, lv0, rfl, rfl, rfl, ?_, HY1.out, fun i hi => ?_, HMo.out, H1.out⟩
    · have := HM1.out; have := HML.out; show 1 + mu (upd st0 fr 1) n ≤ 2 * n; omega
    · have := HM1.out; have := HLV.out i hi; omega
  case round =>
    clear p0 p1 p2 p3 y0 yf f1 f2 HY1 HMo H1 HM1 HML HLV
    have hb0 := hbl
    clear hbl
    obtain ⟨ao, m, cap, way, st, nx, lv, rfl, HML, HG, HMG, HY, HLV, HMo, H1⟩ := hrel
    cases m with
    | zero =>
      have hw : way = [] := List.eq_nil_of_length_eq_zero HML.out.symm
      have HD : Hid (Dw l st nx lv []) := by rw [← hw]; exact HY.out.d
      clear hw
      go_wp2
      rw [Exit.noGoto_ret]
      go_ret
      exact Or.inl ⟨st, nx, lv, rfl, HY.out.k, HD.out, fun i hi => by have := HLV.out i hi; rw [HG.out] at this; exact this, HMo.out, H1.out⟩
    | succ k =>
      obtain ⟨pre, nn, hw, hp⟩ := split_last way HML.out.symm
      subst hw
      have HP : Hid (pre.length = k) := hp
      obtain ⟨gA, rfl, hBg, hgl, hck, hkc⟩ := HY.out.top_cell hp
      obtain ⟨hnl2, hn1, hnp⟩ := HY.out.d.top
      have hnn : nn < n := by rw [HNL.out]; exact hnl2
      have k2 : k ≤ 8192 := by have := HMG.out; omega
      obtain ⟨p0, p1, p2, p3⟩ := cells4n HY.out.k.blk
      have hbl := hLt HY.out.k.blk
      obtain ⟨g, o, cp, hg⟩ := HN.out.some_ (by omega)
      injection hg with e1 e2 e3
      subst e1
      obtain ⟨gl, ia, ic, hI, c0, c1, c2, c3, c4, c5, c6, c7⟩ := HN.out.at_ nn hnl2
      have hB := HY.out.k.bel
      have d0 := (hB.cell (p := ⟨g, o + nn * 8, none⟩) gl).trans c0
      have d1 := (hB.cell (p := ⟨g, o + nn * 8 + 1, none⟩) gl).trans c1
      have d2 := (hB.cell (p := ⟨g, o + nn * 8 + 2, none⟩) gl).trans c2
      have d3 := (hB.cell (p := ⟨g, o + nn * 8 + 3, none⟩) gl).trans c3
      have d4 := (hB.cell (p := ⟨g, o + nn * 8 + 4, none⟩) gl).trans c4
      have d5 := (hB.cell (p := ⟨g, o + nn * 8 + 5, none⟩) gl).trans c5
      have d6 := (hB.cell (p := ⟨g, o + nn * 8 + 6, none⟩) gl).trans c6
      have d7 := (hB.cell (p := ⟨g, o + nn * 8 + 7, none⟩) gl).trans c7
      have hmem := List.getElem_mem hnl2
      have hc0 := pHangs_c l[nn] ia ic wr (hI.below hB) (HK.out.f _ hmem) (by have := HK.out.q _ hmem; omega)
      have hmq : ∀ {ao m cp}, (∀ W0, IntsAt W0 (.slice ia l[nn].ins.length ic) l[nn].ins → IntsAt W0 (.slice ao m cp) (hangL l[nn])) → IntsAt w0 (.slice ao m cp) (hangL l[nn]) := fun hh => hh w0 hI
      have HC : Hid (Calls Tryz.prog 116 #[.agg #[.int .i64 l[nn].k, .int .i64 l[nn].op, .int .i64 l[nn].wd, .slice ia l[nn].ins.length ic, .string (S l[nn].vl), .int .i64 l[nn].hi, .int .i64 l[nn].lo, .int .i64 l[nn].tm]] wr fun e w' => (∃ ao m cp, e = .returned (.slice ao m cp) ∧ Hid (m = (hangL l[nn]).length) ∧ Hid (IntsAt w0 (.slice ao m cp) (hangL l[nn]))) ∧ Below wr.heap.size wr w') :=
        hc0.mono fun e w' hh => by obtain ⟨⟨a1, a2, a3, a4, a5, a6⟩, a7⟩ := hh; exact ⟨⟨a1, a2, a3, a4, a5, hmq a6⟩, a7⟩
      have HHM : Hid (∀ z ∈ hangL l[nn], inB l.length z = true) := hang_mem HK.out hmem
      have hhl := hang_len HK.out hmem
      have HGX : Hid (hgs (ndAt l nn) = hgs l[nn]) := by show hgs (ndAt l nn) = hgs l[nn]; rw [ndAt_eq hnl2]
      clear c0 c1 c2 c3 c4 c5 c6 c7 hI hmem hc0 hmq e2 e3
      generalize l[nn] = x at d0 d1 d2 d3 d4 d5 d6 d7 HC HHM hhl HGX
      obtain ⟨xk, op, wd, ins, vl, hi', lo, tm⟩ := x
      simp only at d0 d1 d2 d3 d4 d5 d6 d7 HC
      have i1 : (0 : Int) ≤ (nn : Int) := by omega
      have i2 : (nn : Int) < (n : Int) := by omega
      go_wp2_with (first | (go_at_call 116; refine HC.out.mono ?_; rintro e w5 ⟨⟨ho, hm, hc, rfl, HMQ, HI5⟩, hb5⟩))
      have HGL : Hid ((hgs (ndAt l nn)).length = hm) := by show (hgs (ndAt l nn)).length = hm; rw [HGX.out, hgs_len]; exact HMQ.out.symm
      have HGG : Hid (∀ c (hc : c < (hangL ⟨xk, op, wd, ins, vl, hi', lo, tm⟩).length) (z : Nat), (hangL ⟨xk, op, wd, ins, vl, hi', lo, tm⟩)[c] = (z : Int) → (hgs (ndAt l nn))[c]? = some z) := fun c hc z hz => by rw [HGX.out]; exact hgs_get hc hz
      have HY5 : Hid (Wy w0 w.heap.size b T1 T2 T3 n (.slice (some ⟨g, o, none⟩) n nc) l st nx lv (pre ++ [nn]) (.slice (some ⟨gA, 0, none⟩) (k + 1) cap) w5) := HY.out.below hb5
      have hm2 : hm ≤ 256 := by rw [HMQ.out]; exact hhl
      generalize hangL ⟨xk, op, wd, ins, vl, hi', lo, tm⟩ = hs at HMQ HI5 HHM hhl HGG
      obtain ⟨g1, hg1⟩ : ∃ g1, g1 = gk := ⟨_, rfl⟩
      have HG1 : Hid (g1 = gk) := hg1
      have HGm : Hid (g1 = mu st n) := hg1.trans HG.out
      have HMG1 : Hid (k + 1 + g1 ≤ 2 * n) := by show k + 1 + g1 ≤ 2 * n; rw [hg1]; exact HMG.out
      have HLV1 : Hid (∀ i, i < n → lv i + g1 ≤ 2 * n) := by rw [hg1]; exact HLV.out
      have hg3 : g1 ≤ 2 * n := by have := HMG1.out; omega
      clear d0 d1 d2 d3 d4 d5 d6 d7 p0 p1 p2 p3 hck HC HGX hhl hb5 HY hgl hbl hB HG HMG HLV hg1
      go_loopg [5] (hm - nx nn) (fun g2 s5 W => ∃ (nx' : Nat → Nat) (lv' : Nat → Int), s5 = .slice (some ⟨gA, 0, none⟩) (k + 1) cap ∧ Hid (g2 = hm - nx' nn) ∧ Hid (Wy w0 w.heap.size b T1 T2 T3 n (.slice (some ⟨g, o, none⟩) n nc) l st nx' lv' (pre ++ [nn]) (.slice (some ⟨gA, 0, none⟩) (k + 1) cap) W) ∧ Hid (∀ i, i < n → i ≠ nn → lv' i + g1 ≤ 2 * n) ∧ Hid (lv' nn + g1 ≤ 2 * n + 1))
      case atStart => exact ⟨nx, lv, rfl, rfl, HY5.out, fun i hi _ => HLV1.out i hi, by show lv nn + g1 ≤ 2 * n + 1; have := HLV1.out nn hnn; omega⟩
      case round =>
        clear HY5 HLV1
        obtain ⟨nx', lv', rfl, HG2, HY, HLo, HLn⟩ := hrel
        obtain ⟨q0, q1, q2, q3⟩ := cells4n HY.out.k.blk
        have hbl := hLt HY.out.k.blk
        have m1 := HY.out.k.r1.lt
        have m2 := HY.out.k.r2.lt
        have m3 := HY.out.k.r3.lt
        have yn := HY.out.k.r2.cell hnn
        obtain ⟨c, hc'⟩ : ∃ c, c = nx' nn := ⟨_, rfl⟩
        have yn1 : wr.cell? ⟨T2, nn, none⟩ = some (.int .i64 (c : Int)) := by rw [hc']; exact yn
        have HCx : Hid (c = nx' nn) := hc'
        have c1 : (0 : Int) ≤ (c : Int) := by omega
        clear yn hc'
        by_cases hlt : c < hm
        · have hlc : (c : Int) < (hm : Int) := by omega
          have hcl : c < hs.length := by rw [← HMQ.out]; exact hlt
          obtain ⟨g2, o2, cap2, hg2⟩ := HI5.out.some_ (by omega)
          injection hg2 with e4 e5 e6
          subst e4
          obtain ⟨gl2, gd2⟩ := HI5.out.cell c hcl
          have hzi := HHM.out hs[c] (List.getElem_mem hcl)
          rw [← HNL.out] at hzi
          simp [inB] at hzi
          obtain ⟨z, hz⟩ : ∃ z : Nat, hs[c] = (z : Int) := ⟨hs[c].toNat, by omega⟩
          have HGZ : Hid ((hgs (ndAt l nn))[nx' nn]? = some z) := by show (hgs (ndAt l nn))[nx' nn]? = some z; rw [← HCx.out]; exact HGG.out c hcl z hz
          rw [hz] at gd2 hzi
          have hzn : z < n := by omega
          have hzl : z < l.length := by rw [← HNL.out]; exact hzn
          have e1 : wr.cell? ⟨g2, o2 + c, none⟩ = some (.int .i64 (z : Int)) := (HY.out.k.bel.cell (p := ⟨g2, o2 + c, none⟩) gl2).trans gd2
          have z1 : (0 : Int) ≤ (z : Int) := by omega
          have z2 : (z : Int) < (n : Int) := by omega
          have ys := HY.out.k.r1.cell hzn
          have yf := HY.out.k.r1.frozen z
          clear e5 e6 gd2 hz hzi
          rcases HY.out.d.s z hzl with h0 | h0 | h0
          · have HZ0 : Hid (st z = 0) := h0
            rw [h0] at ys
            clear h0
            obtain ⟨i0, hi0, hz0, hz1, hz2⟩ := infoInt
            have HO : Hid (wr.ownsRow w.heap.size 3 1 (.slice (some ⟨gA, 0, none⟩) (k + 1) cap) (k + 1) (iC (nZ (pre ++ [nn])))) := by
              have := HY.out.o
              rw [← HML.out] at this; exact this
            have hsz := HY.out.s
            go_wp2_with (first
              | (at_builtin; refine wpList_append_own_at _ rfl _ _ 24 rfl w.heap.size 3 i0 _ 1 8 Tryz.underlying24 hi0 hz0 hz1 hz2 rfl (by decide) (.slice (some ⟨gA, 0, none⟩) (k + 1) cap) (k + 1) (iC (nZ (pre ++ [nn]))) rfl ((ownsRow_setCell_below HO.out (by show T1 < w.heap.size; exact l1) _).alloc _) ⟨wr.heap.size, 0, none⟩ 1 1 [.int .i64 (z : Int)] rfl rfl (new1i _ _ _ _ (by simp [World.setCell])) (one1 _) (by unfold maxLen; omega) (by omega) (by simp [World.setCell]; omega) ?_; intro v' w7 hown7 hgrow7 hnil7 hloc7))
            have hmu := mu_upd st z 1 (by rw [HZ0.out]; rfl) (by omega) n hzn
            obtain ⟨g7, cap7, rfl⟩ := own_slice1 hown7
            have hsz0 : w0.heap.size ≤ w.heap.size := HS0.out
            go_roundg (g1 - 1)
            case measure => have := HG1.out; have := HGm.out; omega
            case rel =>
              have h1 := HGm.out
              have h2 := HMG1.out
              have h8 := HP.out
              refine ⟨_, k + 1 + 1, cap7, (pre ++ [nn]) ++ [z], upd st z 1, nx', lv', rfl, by show k + 1 + 1 = _; simp [h8], by show g1 - 1 = _; omega, by show k + 1 + 1 + (g1 - 1) ≤ 2 * n; omega, HY.out.push HAp.out HP.out hzl HZ0.out HGZ.out hb0 l1 l2 l3 hsz0 hown7 hgrow7, fun i hi => ?_, fun i hi => ?_, ?_⟩
              · by_cases e : i = nn
                · subst e; have := HLn.out; omega
                · have := HLo.out i hi e; omega
              · have h3 := HMo.out i hi
                unfold upd
                split
                · rename_i e; rw [e, HZ0.out] at h3; rw [e]; omega
                · exact h3
              · show 1 ≤ upd st z 1 fr
                have h3 := H1.out
                unfold upd
                split
                · omega
                · exact h3
          · have HZ1 : Hid (st z = 1) := h0
            have hmw : z ∈ pre ++ [nn] := (HY.out.d.m z hzl).1 h0
            rw [h0] at ys
            clear h0
            have HO : Hid (wr.ownsRow w.heap.size 3 1 (.slice (some ⟨gA, 0, none⟩) (k + 1) cap) (k + 1) (iC (nZ (pre ++ [nn])))) := by
              have := HY.out.o
              rw [← HML.out] at this; exact this
            have HX : Hid (Calls Tryz.prog 118 #[.slice (some ⟨gA, 0, none⟩) (k + 1) cap, .int .i64 (z : Int)] wr fun e w' => ∃ i : Nat, e = .returned (.int .i64 i) ∧ i ≤ k ∧ Hid (Ring l ((pre ++ [nn]).drop i)) ∧ w' = wr) := by
              have hi := own_ints (ws := nZ (pre ++ [nn])) (by rw [nZ_len, ← HML.out]; exact HO.out)
              refine (index_c (nZ (pre ++ [nn])) _ (k + 1) cap z wr hi (by omega) (nZ_mem hmw)).mono ?_
              rintro e w' ⟨i, rfl, hx, rfl⟩
              have hx' := nZ_get hx
              have hil : i < (pre ++ [nn]).length := (List.getElem?_eq_some_iff.1 hx').1
              exact ⟨i, rfl, by rw [← HML.out] at hil; omega, HY.out.d.ring HGZ.out hx', rfl⟩
            have HCl : Hid (∀ i cp, i ≤ k → Calls Tryz.prog 117 #[.slice (some ⟨gA, i, none⟩) (k + 1 - i) cp] wr fun e w' => ∃ v', e = .returned v' ∧ IntsAt w' v' (nZ ((pre ++ [nn]).drop i)) ∧ Below wr.heap.size wr w') := by
              intro i cp hik
              have hlen : (nZ (pre ++ [nn])).length = k + 1 := by rw [nZ_len]; exact HML.out.symm
              have hg' := (World.ownsRow.lt HO.out gA rfl).2
              rw [nZ_drop]
              refine clone_c ((nZ (pre ++ [nn])).drop i) gA i (k + 1 - i) cp wr (by rw [List.length_drop, hlen]) (fun j hj => ?_) hg' (by have := HMG1.out; have := Dw.way_le HY.out.d; rw [← HML.out] at this; have h5 := HNL.out; omega) (by omega)
              rw [List.length_drop, hlen] at hj
              rw [own_cell HO.out (i + j) (by omega), List.getElem_drop]
            clear hmw
            go_wp2_with (first
              | (go_at_call 118; refine HX.out.mono ?_; rintro e w6 ⟨i, rfl, hik, HR, rfl⟩)
              | (go_at_call 117; refine (HCl.out _ _ hik).mono ?_; rintro e w7 ⟨v', rfl, hI7, hb7⟩))
            rw [Exit.noGoto_ret]
            go_ret
            exact Or.inr ⟨v', _, rfl, hI7, HR.out, HY.out.k.bel.trans (hb7.mono HY.out.k.bel.size)⟩
          · have HZ2 : Hid (st z = 2) := h0
            rw [h0] at ys
            have hzne : z ≠ nn := fun e => by rw [e, hn1] at h0; omega
            clear h0
            have ya := HY.out.k.r3.cell hzn
            have yb := HY.out.k.r3.cell hnn
            have yg := HY.out.k.r3.frozen nn
            have yh := HY.out.k.r2.frozen nn
            obtain ⟨a, ha⟩ : ∃ a, a = lv' z := ⟨_, rfl⟩
            obtain ⟨bb, hbb⟩ : ∃ bb, bb = lv' nn := ⟨_, rfl⟩
            have a0 : 0 ≤ a := by rw [ha]; exact HY.out.d.lo z hzl
            have b0 : 0 ≤ bb := by rw [hbb]; exact HY.out.d.lo nn hnl2
            have a9 : a + g1 ≤ 2 * n := by rw [ha]; exact HLo.out z hzn hzne
            have b9 : bb + g1 ≤ 2 * n + 1 := by rw [hbb]; exact HLn.out
            rw [← ha] at ya
            rw [← hbb] at yb
            have HA : Hid (a = lv' z) := ha
            have HBB : Hid (bb = lv' nn) := hbb
            have nb3 : b ≠ T3 := HAp.out.n3
            have n63 : T2 ≠ T3 := HAp.out.n6
            clear ha hbb
            have hwr : IntKind.i64.wrap (a + 1) = a + 1 := by rw [IntKind.wrap_i64]; omega
            go_wp2_with fail
            go_region
            generalize hy : (if bb < a + 1 then a + 1 else bb) = y
            have HYY : Hid (y = max (lv' nn) (lv' z + 1)) := by
              show y = _
              rw [← HA.out, ← HBB.out, ← hy]
              split <;> omega
            clear hy
            go_wp2
            go_roundg (hm - (c + 1))
            case measure => have := HG2.out; have := HCx.out; omega
            case rel =>
              have h5 := HY.out.next HK.out HAp.out HZ2.out HGZ.out l2 l3 (c := c + 1) (by rw [HCx.out]) HYY.out
              refine ⟨upd nx' nn (c + 1), upd lv' nn y, rfl, by show _ = hm - upd nx' nn (c + 1) nn; rw [upd_at], ?_, fun i hi hne => ?_, ?_⟩
              · exact h5.drew
              · rw [upd_ne _ _ hne]; exact HLo.out i hi hne
              · show upd lv' nn y nn + g1 ≤ 2 * n + 1
                rw [upd_at, HYY.out, ← HA.out, ← HBB.out]
                omega
        · have hge : ¬ (c : Int) < (hm : Int) := by omega
          have HDn : Hid (nx' nn = (hgs (ndAt l nn)).length) := by
            show nx' nn = _
            have h1 := HY.out.d.nl nn hnl2
            have h2 := HGL.out
            have h3 := HCx.out
            omega
          have yf := HY.out.k.r1.frozen nn
          have ys := HY.out.k.r1.cell hnn
          go_wp2
          have hmu := mu_upd st nn 2 (by rw [hn1]; rfl) (by omega) n hnn
          go_roundg (g1 - 1)
          case measure => have := HG1.out; have := HGm.out; omega
          case rel =>
            have h1 := HGm.out
            have h2 := HMG1.out
            refine ⟨_, k, cap, pre, upd st nn 2, nx', lv', rfl, HP.out.symm, by show g1 - 1 = _; omega, by show k + (g1 - 1) ≤ 2 * n; omega, HY.out.pop HAp.out HP.out HDn.out l1, fun i hi => ?_, fun i hi => ?_, ?_⟩
            · by_cases e : i = nn
              · subst e; have := HLn.out; omega
              · have := HLo.out i hi e; omega
            · have h3 := HMo.out i hi
              unfold upd
              split
              · rename_i e; rw [e, hn1] at h3; rw [e]; omega
              · exact h3
            · show 1 ≤ upd st nn 2 fr
              have h3 := H1.out
              unfold upd
              split
              · omega
              · exact h3
end Go.Proofs.YtokepgnnepjiaaaGreat

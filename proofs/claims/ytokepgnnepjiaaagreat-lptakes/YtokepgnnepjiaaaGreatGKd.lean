/- Texts KJ KM KN KO, joined: what each part says stands ahead of it. -/
import Derived.Test.YtokepgnnepjiaaaGreatKF
import Derived.Test.YtokepgnnepjiaaaGreatGKc
/- The program's portsMayBe: each net is a node, each input just one net's. -/
namespace Go.Proofs.YtokepgnnepjiaaaGreat
set_option maxRecDepth 100000
open Go.RowKit Lg Nl Go.Maps
set_option linter.unusedVariables false
set_option linter.unusedSimpArgs false

theorem port_net {l : List Nd} {nets : List Int} {i : Nat} (hi : i < nets.length) (h : inB l.length nets[i] = false) : portB l nets = false := by
  have : nets.all (inB l.length) = false := by rw [List.all_eq_false]; exact ⟨nets[i], List.getElem_mem hi, by simp [h]⟩
  unfold portB; rw [this]; simp
theorem port_in {l : List Nd} {nets : List Int} {i : Nat} (hi : i < l.length) (hk : l[i].k = 2) (h : cnt nets i ≠ 1) : portB l nets = false := by
  have : ((List.range l.length).all fun i => !decide ((ndAt l i).k = 2) || decide (cnt nets i = 1)) = false := by
    rw [List.all_eq_false]; exact ⟨i, List.mem_range.2 hi, by rw [ndAt_eq hi]; simp [hk, h]⟩
  unfold portB; rw [this]; simp
theorem port_yes {l : List Nd} {nets : List Int} (h2 : nets.all (inB l.length) = true) (h3 : ∀ i (hi : i < l.length), l[i].k = 2 → cnt nets i = 1) : portB l nets = true := by
  have b : ((List.range l.length).all fun i => !decide ((ndAt l i).k = 2) || decide (cnt nets i = 1)) = true := by
    rw [List.all_eq_true]; intro i hi; have hi' := List.mem_range.1 hi; rw [ndAt_eq hi']
    by_cases hk : l[i].k = 2
    · simp [hk, h3 i hi' hk]
    · simp [hk]
  unfold portB; rw [h2, b]; rfl
set_option maxRecDepth 100000 in
set_option maxHeartbeats 4000000 in
theorem kPorts_c (l : List Nd) (nets : List Int) (vN vT : Value) (pt : Int) (w : World) (hN : NdsAt w vN l) (hT : IntsAt w vT nets) (hf : Fits l nets) (hl4 : l.length ≤ 4096) :
    Calls Tryz.prog 61 #[.agg #[vN, vT, .int .i64 pt]] w fun e w' => e = .returned (.bool (portB l nets)) ∧ Below w.heap.size w w' := by
  obtain ⟨na, nc, rfl, hnc, hN'⟩ := id hN
  obtain ⟨ta, tc, rfl, htc, hT'⟩ := id hT
  obtain ⟨i, hn⟩ : ∃ i, i = l.length := ⟨_, rfl⟩
  obtain ⟨m, hm⟩ : ∃ m, m = nets.length := ⟨_, rfl⟩
  rw [← hn] at hN hnc hl4 ⊢
  rw [← hm] at hT htc ⊢
  have mb : m ≤ 17592186044416 := by rw [hm]; exact hf.t
  have HN : Hid (NdsAt w (.slice na i nc) l) := hN
  have HT : Hid (IntsAt w (.slice ta m tc) nets) := hT
  have HF : Hid (Fits l nets) := hf
  have HNL : Hid (i = l.length) := hn
  have HML : Hid (m = nets.length) := hm
  obtain ⟨R, hR⟩ : ∃ R, R = portB l nets := ⟨_, rfl⟩
  rw [← hR]
  have HR : Hid (R = portB l nets) := hR
  have hmk := mkInts i (by omega)
  clear hN hT hf hn hm hR hN' hT'
  go_enter Tryz.func61, Tryz.ntmps61
  go_wp2
  obtain ⟨W1, hW1⟩ : ∃ W1, W1 = w.alloc (.cells #[.slice na i nc, .slice ta m tc, .int .i64 pt] 26) := ⟨_, rfl⟩
  obtain ⟨T, hT⟩ : ∃ T, T = w.heap.size + 1 := ⟨_, rfl⟩
  have hTx : w.heap.size + 1 ≤ T := by omega
  have HQ0 : Hid (((w.alloc (.cells #[.slice na i nc, .slice ta m tc, .int .i64 pt] 26)).alloc (.cells (madeCells #[.int .i64 0] i) 3)).rowIs T 3 i (fun q => .int .i64 (cnt (nets.take 0) q))) := rowCast (World.rowIs.congr (World.rowIs_made (w.alloc (.cells #[.slice na i nc, .slice ta m tc, .int .i64 pt] 26)) (.int .i64 0) i 3) (fun q _ => by simp [cnt])) (by simp [hT])
  have HS0 : Hid (S1 w (.cells #[.slice na i nc, .slice ta m tc, .int .i64 pt] 26 (0, 0)) ((w.alloc (.cells #[.slice na i nc, .slice ta m tc, .int .i64 pt] 26)).alloc (.cells (madeCells #[.int .i64 0] i) 3))) := S1.alloc S1.start
  rw [← hT]
  clear hmk hT hW1 W1
  generalize (w.alloc (.cells #[.slice na i nc, .slice ta m tc, .int .i64 pt] 26)).alloc (.cells (madeCells #[.int .i64 0] i) 3) = W0 at HQ0 HS0 ⊢
  go_loopw [15] (fun s8 W => ∃ (kk : Nat), kk ≤ m ∧ s8 = .int .i64 kk ∧ Hid ((nets.take kk).all (inB i) = true) ∧ Hid (S1 w (.cells #[.slice na i nc, .slice ta m tc, .int .i64 pt] 26 (0, 0)) W) ∧ Hid (W.rowIs T 3 i (fun q => .int .i64 (cnt (nets.take kk) q)))) (fun s8 W => m - (intOf s8).toNat)
  case atStart => exact ⟨0, Nat.zero_le _, rfl, rfl, HS0.out, HQ0.out⟩
  case round =>
    obtain ⟨kk, hkk, rfl, HAK, HS, HQ⟩ := hrel
    obtain ⟨b0, b1, b2⟩ := cells3n HS.out.x
    have lx := hLt HS.out.x
    by_cases hlk : kk < m
    · have hkl : kk < nets.length := by rw [← HML.out]; exact hlk
      obtain ⟨g2, o2, cap2, hg2⟩ := HT.out.some_ (by omega)
      injection hg2 with e4 e5 e6
      subst e4
      obtain ⟨gl2, gd2⟩ := (HT.out.below HS.out.bel).cell kk hkl
      obtain ⟨z, hz⟩ : ∃ z, z = nets[kk] := ⟨_, rfl⟩
      rw [← hz] at gd2
      have HZK : Hid (z = nets[kk]) := hz
      have k1 : (0 : Int) ≤ (kk : Int) := by omega
      have k2 : (kk : Int) < (m : Int) := by omega
      clear hz e5 e6
      rcases (by omega : (z < 0 ∨ (0 ≤ z ∧ (i : Int) ≤ z)) ∨ (0 ≤ z ∧ z < (i : Int))) with hz | ⟨hz1, hz2⟩
      · have hno : inB l.length nets[kk] = false := by rw [← HZK.out, ← HNL.out]; simp [inB]; omega
        have HNO : Hid (inB l.length nets[kk] = false) := hno
        clear hno
        rcases hz with hz | ⟨hz1, hz2⟩
        all_goals
          go_wp2
          go_ret
          exact ⟨ret_bool (by rw [HR.out, port_net hkl HNO.out]), HS.out.bel⟩
      · obtain ⟨zi, rfl⟩ : ∃ zi : Nat, z = (zi : Int) := ⟨z.toNat, by omega⟩
        have hzi : zi < i := by omega
        have y0 := HQ.out.cell hzi
        have y1 := HQ.out.frozen zi
        have cb : cnt (nets.take kk) zi ≤ 17592186044416 := by have := cnt_le (nets.take kk) zi; rw [List.length_take] at this; omega
        obtain ⟨c, hc⟩ : ∃ c, c = cnt (nets.take kk) zi := ⟨_, rfl⟩
        have y2 : wr.cell? ⟨T, zi, none⟩ = some (.int .i64 (c : Int)) := by rw [y0, hc]
        rw [← hc] at cb
        have HC : Hid (c = cnt (nets.take kk) zi) := hc
        clear y0 hc
        go_wp2
        go_roundw
        case rel =>
          refine ⟨kk + 1, hlk, by go_num, all_snocL hkl HAK.out (by rw [← HZK.out]; simp [inB]; omega), S1.set HS.out hTx, ?_⟩
          refine World.rowIs.congr (World.rowIs.set HQ.out zi _) (fun q hq => ?_)
          rw [List.take_succ_eq_append_getElem hkl, ← HZK.out, cnt_snoc]
          by_cases hqz : q = zi
          · subst hqz; rw [if_pos rfl, if_pos rfl, HC.out]; go_num
          · rw [if_neg hqz, if_neg hqz]
        case measure => simp [intOf]; omega
    · obtain rfl : kk = m := by omega
      have HAN : Hid (nets.all (inB i) = true) := all_done (Nat.le_of_eq HML.out.symm) HAK.out
      have htk : nets.take kk = nets := by rw [HML.out]; exact List.take_length
      have HQn : Hid (wr.rowIs T 3 i (fun q => .int .i64 (cnt nets q))) := by rw [htk] at HQ; exact HQ.out
      clear HAK hkk hlk HQ htk
      go_wp2_with fail
      go_loopw [38] (fun s9 W => ∃ (j : Nat), j ≤ i ∧ s9 = .int .i64 j ∧ Hid (∀ q (hq : q < l.length), q < j → l[q].k = 2 → cnt nets q = 1) ∧ Hid (S1 w (.cells #[.slice na i nc, .slice ta kk tc, .int .i64 pt] 26 (0, 0)) W) ∧ Hid (W.rowIs T 3 i (fun q => .int .i64 (cnt nets q)))) (fun s9 W => i - (intOf s9).toNat)
      case atStart => exact ⟨0, Nat.zero_le _, rfl, fun q hq h => (by omega), HS.out, HQn.out⟩
      case round =>
        clear HS HQn b0 b1 b2 lx
        obtain ⟨j, hj, rfl, HK, HS, HQ⟩ := hrel
        obtain ⟨b0, b1, b2⟩ := cells3n HS.out.x
        have lx := hLt HS.out.x
        by_cases hlt : j < i
        · have hjl : j < l.length := by rw [← HNL.out]; exact hlt
          obtain ⟨g, o, cap, hg⟩ := HN.out.some_ (by omega)
          injection hg with e1 e2 e3
          subst e1
          obtain ⟨gl, ia, ic, hI, d0, d1, d2, d3, d4, d5, d6, d7⟩ := (HN.out.below HS.out.bel).at_ j hjl
          have y0 := HQ.out.cell hlt
          have hTl := HQ.out.lt
          obtain ⟨x, hx⟩ : ∃ x, x = l[j] := ⟨_, rfl⟩
          rw [← hx] at d0 d1 d2 d3 d4 d5 d6 d7
          have HX : Hid (x = l[j]) := hx
          obtain ⟨c, hc⟩ : ∃ c, c = cnt nets j := ⟨_, rfl⟩
          have y2 : wr.cell? ⟨T, j, none⟩ = some (.int .i64 (c : Int)) := by rw [y0, hc]
          have HCC : Hid (c = cnt nets j) := hc
          clear hx hI e2 e3 hc y0
          obtain ⟨k, op, wd, ins, vl, hi', lo, tm⟩ := x
          simp only at d0 d1 d2 d3 d4 d5 d6 d7
          have i1 : (0 : Int) ≤ (j : Int) := by omega
          have i2 : (j : Int) < (i : Int) := by omega
          have hP : ((k == 2) = false) ∨ ((k == 2) = true ∧ ((c : Int) == 1) = false) ∨ ((k == 2) = true ∧ ((c : Int) == 1) = true) := by cases (k == 2) <;> cases ((c : Int) == 1) <;> simp
          rcases hP with f1 | ⟨f1, f2⟩ | ⟨f1, f2⟩
          all_goals
            go_wp2_with fail
            all_goals first
              | (go_ret; exact ⟨ret_bool (by rw [HR.out, port_in hjl (by rw [← HX.out]; simpa using f1) (by rw [← HCC.out]; have := f2; simp at this; omega)]), (S1.alloc HS.out).bel⟩)
              | (go_roundw
                 case rel =>
                   refine ⟨j + 1, hlt, by go_num, fun q hq hqj => ?_, S1.alloc HS.out, World.rowIs.alloc HQ.out _⟩
                   by_cases hqe : q = j
                   · subst hqe
                     refine fun hk2 => ?_
                     first
                       | (exfalso; rw [← HX.out] at hk2; simp only at hk2; rw [hk2] at f1; simp at f1; done)
                       | (rw [← HCC.out]; have := f2; simp at this; omega)
                   · exact HK.out q hq (by omega)
                 case measure => simp [intOf]; omega)
        · obtain rfl : j = i := by omega
          go_wp2_with fail
          go_ret
          exact ⟨ret_bool (by rw [HR.out, port_yes (by rw [← HNL.out]; exact HAN.out) (fun q hq => HK.out q hq (by rw [HNL.out]; exact hq))]), HS.out.bel⟩
end Go.Proofs.YtokepgnnepjiaaaGreat

/- What the program asks of a netlist is what the document asks. -/
namespace Go.Proofs.YtokepgnnepjiaaaGreat
set_option maxRecDepth 100000
open Go.RowKit Lg Nl Go.Maps
set_option linter.unusedVariables false
set_option linter.unusedSimpArgs false

theorem wrapId {z : Int} (h1 : -9223372036854775808 ≤ z) (h2 : z ≤ 9223372036854775807) : wrap64 z = z := by
  unfold wrap64; omega
theorem sumW_ok : ∀ (ws : List Int) (a : Int), (∀ z ∈ ws, 1 ≤ z ∧ z ≤ 256) → 0 ≤ a → a + 256 * ws.length ≤ 9223372036854775807 → ws.foldl (fun a z => wrap64 (a + z)) a = ws.foldl (· + ·) a
  | [], a, _, _, _ => rfl
  | z :: r, a, h, h0, hb => by
    obtain ⟨z1, z2⟩ := h z (List.mem_cons_self ..)
    rw [List.length_cons] at hb
    rw [List.foldl_cons, List.foldl_cons, wrapId (by omega) (by omega)]
    exact sumW_ok r (a + z) (fun y hy => h y (List.mem_cons_of_mem _ hy)) (by omega) (by omega)
theorem sumW_eq {ws : List Int} (h : ∀ z ∈ ws, 1 ≤ z ∧ z ≤ 256) (hl : ws.length ≤ 17592186044416) : sumW ws = sumI ws := sumW_ok ws 0 h (by omega) (by omega)
theorem sum_ge : ∀ {ws : List Int}, (∀ z ∈ ws, 1 ≤ z ∧ z ≤ 256) → (ws.length : Int) ≤ sumI ws
  | [], _ => by simp [sumI]
  | z :: r, h => by
    have ih := sum_ge (ws := r) (fun y hy => h y (List.mem_cons_of_mem _ hy))
    have := h z (List.mem_cons_self ..)
    rw [sumI_cons, List.length_cons]; omega
theorem opB_eq (op wd hi lo m sm w0 w1 w2 : Int) (h1 : 1 ≤ wd) (h2 : wd ≤ 256) (h0 : w0 ≤ 256) (hs : m ≤ sm) (hm : 0 ≤ m) : opB op wd hi lo m sm w0 w1 w2 = decide (opW op hi lo m sm w0 w1 w2 = wd) := by
  rw [Bool.eq_iff_iff, decide_eq_true_iff]
  unfold opB opW
  by_cases h4 : op = 4
  · subst h4
    simp
    constructor
    · rintro ⟨⟨⟨⟨a, b⟩, c⟩, d⟩, e⟩
      rw [if_pos ⟨a, b, c, d⟩]
      rw [wrapId (z := hi - lo) (by omega) (by omega), wrapId (by omega) (by omega)] at e
      exact e.symm
    · intro e
      split at e
      · rename_i h
        obtain ⟨a, b, c, d⟩ := h
        refine ⟨⟨⟨⟨a, b⟩, c⟩, d⟩, ?_⟩
        rw [wrapId (z := hi - lo) (by omega) (by omega), wrapId (by omega) (by omega)]
        exact e.symm
      · omega
  · repeat' split
    all_goals simp_all <;> omega
theorem ws_mem {l : List Nd} {ins : List Int} (hw : l.all wideB = true) (hin : ins.all (inB l.length) = true) : ∀ z ∈ wsOf l ins, 1 ≤ z ∧ z ≤ 256 := by
  intro z hz
  unfold wsOf at hz
  obtain ⟨i, hi, rfl⟩ := List.mem_map.1 hz
  rw [List.all_eq_true] at hin
  exact wdAt_bd hw (hin i hi)
theorem wn_le {ws : List Int} (h : ∀ z ∈ ws, 1 ≤ z ∧ z ≤ 256) (i : Nat) : wn ws i ≤ 256 := by
  unfold wn
  rw [List.getD_eq_getElem?_getD]
  rcases hq : ws[i]? with _ | z
  · simp
  · exact (h z (List.mem_of_getElem? hq)).2
theorem fit_node {l : List Nd} {x : Nd} (hw : l.all wideB = true) (hin : x.ins.all (inB l.length) = true) (hx : wideB x = true) (hl : x.ins.length ≤ 17592186044416) : fitX x (wsOf l x.ins) = nodeB x (wsOf l x.ins) := by
  have hm := ws_mem hw hin
  have hs := sumW_eq hm (by rw [wsOf_len]; exact hl)
  have hg := sum_ge hm
  have h0 := wn_le hm 0
  simp [wideB] at hx
  unfold fitX
  rw [hs]
  generalize wsOf l x.ins = ws at *
  rw [opB_eq _ _ _ _ _ _ _ _ _ hx.1 hx.2 h0 hg (by omega)]
  unfold fitN nodeB opWs
  rw [Bool.eq_iff_iff]
  repeat' split
  all_goals simp_all <;> omega
/-- what the program asks of a netlist -/
def ckB (l : List Nd) (nets : List Int) (pt : Int) : Bool := decide (l.length ≤ 4096 ∧ pt = (nets.length : Int)) && l.all (mbB l) && portB l nets
theorem ck_may {l : List Nd} {nets : List Int} (pt : Int) (hf : Fits l nets) : ckB l nets pt = mayN l nets pt := by
  unfold ckB mayN
  by_cases hw : l.all wideB = true
  · have e : l.all (mbB l) = (l.all (shapeB l) && l.all fun x => nodeB x (wsOf l x.ins)) := by
      rw [Bool.eq_iff_iff, Bool.and_eq_true, List.all_eq_true, List.all_eq_true, List.all_eq_true]
      have key : ∀ x ∈ l, (mbB l x = true ↔ shapeB l x = true ∧ nodeB x (wsOf l x.ins) = true) := by
        intro x hx
        have hwx : wideB x = true := by rw [List.all_eq_true] at hw; exact hw x hx
        unfold mbB shapeB
        rw [hwx]
        by_cases hin : x.ins.all (inB l.length) = true
        · rw [hin, fit_node hw hin hwx (hf.i x hx)]; simp; exact And.comm
        · have : x.ins.all (inB l.length) = false := by simpa using hin
          rw [this]; simp
      exact ⟨fun h => ⟨fun x hx => ((key x hx).1 (h x hx)).1, fun x hx => ((key x hx).1 (h x hx)).2⟩, fun h x hx => (key x hx).2 ⟨h.1 x hx, h.2 x hx⟩⟩
    rw [e]
    cases (decide (l.length ≤ 4096 ∧ pt = (nets.length : Int))) <;> cases (l.all (shapeB l)) <;> cases (portB l nets) <;> simp
  · have hw' : l.all wideB = false := by simpa using hw
    rw [List.all_eq_false] at hw'
    obtain ⟨x, hx, h⟩ := hw'
    have h1 : l.all (mbB l) = false := by rw [List.all_eq_false]; exact ⟨x, hx, by unfold mbB; simp [h]⟩
    have h2 : l.all (shapeB l) = false := by rw [List.all_eq_false]; exact ⟨x, hx, by unfold shapeB; simp [h]⟩
    rw [h1, h2]; simp
end Go.Proofs.YtokepgnnepjiaaaGreat

/- The program's Check of a netlist. -/
namespace Go.Proofs.YtokepgnnepjiaaaGreat
set_option maxRecDepth 100000
open Go.RowKit Lg Nl Go.Maps
set_option linter.unusedVariables false
set_option linter.unusedSimpArgs false

def errB (b : Bool) : Int := if b then 0 else 1
theorem ck_size {l : List Nd} {nets : List Int} {pt : Int} (h : ¬ (l.length ≤ 4096 ∧ pt = (nets.length : Int))) : ckB l nets pt = false := by unfold ckB; rw [decide_eq_false h]; rfl
theorem ck_node {l : List Nd} {nets : List Int} {pt : Int} {i : Nat} (hi : i < l.length) (h : mbB l l[i] = false) : ckB l nets pt = false := by
  have : l.all (mbB l) = false := by rw [List.all_eq_false]; exact ⟨l[i], List.getElem_mem hi, by simp [h]⟩
  unfold ckB; rw [this]; simp
set_option maxRecDepth 100000 in
set_option maxHeartbeats 4000000 in
theorem kCheck_c (l : List Nd) (nets : List Int) (vN vT : Value) (pt : Int) (w : World) (hN : NdsAt w vN l) (hT : IntsAt w vT nets) (hf : Fits l nets) :
    Calls Tryz.prog 32 #[.agg #[vN, vT, .int .i64 pt]] w fun e w' => e = .returned (.int .i64 (errB (mayN l nets pt))) ∧ Below w.heap.size w w' := by
  rw [← ck_may pt hf]
  have HP : Hid (∀ W, Below w.heap.size w W → l.length ≤ 4096 → Calls Tryz.prog 61 #[.agg #[vN, vT, .int .i64 pt]] W fun e w' => e = .returned (.bool (portB l nets)) ∧ Below W.heap.size W w') := fun W hW h4 => kPorts_c l nets vN vT pt W (hN.below hW) (hT.below hW) hf h4
  have HM : Hid (∀ (W : World) (i : Nat) (hi : i < l.length) (ia : Option Addr) (ic : Nat), Below w.heap.size w W → IntsAt W (.slice ia l[i].ins.length ic) l[i].ins → Calls Tryz.prog 60 #[.agg #[.int .i64 l[i].k, .int .i64 l[i].op, .int .i64 l[i].wd, .slice ia l[i].ins.length ic, .string (S l[i].vl), .int .i64 l[i].hi, .int .i64 l[i].lo, .int .i64 l[i].tm], vN] W fun e w' => e = .returned (.bool (mbB l l[i])) ∧ Below W.heap.size W w') := fun W i hi ia ic hW hI => kMayBe_c l l[i] vN ia ic W (hN.below hW) hI hf.n (hf.i _ (List.getElem_mem hi)) (hf.v _ (List.getElem_mem hi))
  obtain ⟨na, nc, rfl, hnc, hN'⟩ := id hN
  obtain ⟨ta, tc, rfl, htc, hT'⟩ := id hT
  obtain ⟨n, hn⟩ : ∃ n, n = l.length := ⟨_, rfl⟩
  obtain ⟨m, hm⟩ : ∃ m, m = nets.length := ⟨_, rfl⟩
  have nb : n ≤ 140737488355328 := by rw [hn]; exact hf.n
  have mb : m ≤ 17592186044416 := by rw [hm]; exact hf.t
  have hN2 : NdsAt w (.slice na n nc) l := by rw [hn]; exact hN
  have HP2 : Hid (∀ W, Below w.heap.size w W → n ≤ 4096 → Calls Tryz.prog 61 #[.agg #[.slice na n nc, .slice ta m tc, .int .i64 pt]] W fun e w' => e = .returned (.bool (portB l nets)) ∧ Below W.heap.size W w') := by rw [hn, hm]; exact HP.out
  have HM2 : Hid (∀ (W : World) (i : Nat) (hi : i < l.length) (ia : Option Addr) (ic : Nat), Below w.heap.size w W → IntsAt W (.slice ia l[i].ins.length ic) l[i].ins → Calls Tryz.prog 60 #[.agg #[.int .i64 l[i].k, .int .i64 l[i].op, .int .i64 l[i].wd, .slice ia l[i].ins.length ic, .string (S l[i].vl), .int .i64 l[i].hi, .int .i64 l[i].lo, .int .i64 l[i].tm], .slice na n nc] W fun e w' => e = .returned (.bool (mbB l l[i])) ∧ Below W.heap.size W w') := by rw [hn]; exact HM.out
  rw [← hn] at hnc ⊢
  rw [← hm] at htc ⊢
  have HN : Hid (NdsAt w (.slice na n nc) l) := hN2
  have HNL : Hid (n = l.length) := hn
  have HML : Hid (m = nets.length) := hm
  obtain ⟨R, hR⟩ : ∃ R, R = ckB l nets pt := ⟨_, rfl⟩
  rw [← hR]
  have HR : Hid (R = ckB l nets pt) := hR
  clear hN hT hf hn hm hR hN' hT' hN2 HP HM
  by_cases h1 : 4096 < n
  · go_enter Tryz.func32, Tryz.ntmps32
    go_wp2
    all_goals (go_ret; exact ⟨ret_int (by rw [HR.out, ck_size (by rw [← HNL.out]; omega)]; rfl), belA (Below.refl _ _) _⟩)
  by_cases h2 : pt = (m : Int)
  · subst h2
    have hn : n ≤ 4096 := by omega
    clear h1
    go_enter Tryz.func32, Tryz.ntmps32
    go_wp2
    go_loopw [20] (fun s4 W => ∃ (i : Nat), i ≤ n ∧ s4 = .int .i64 i ∧ Hid ((l.take i).all (mbB l) = true) ∧ Hid (S1 w (.cells #[.slice na n nc, .slice ta m tc, .int .i64 m] 26 (0, 0)) W)) (fun s4 W => n - (intOf s4).toNat)
    case atStart => exact ⟨0, Nat.zero_le _, rfl, rfl, S1.start⟩
    case round =>
      obtain ⟨i, hi, rfl, HA, HS⟩ := hrel
      obtain ⟨b0, b1, b2⟩ := cells3n HS.out.x
      have lx := hLt HS.out.x
      by_cases hlt : i < n
      · have hil : i < l.length := by rw [← HNL.out]; exact hlt
        obtain ⟨g, o, cap, hg⟩ := HN.out.some_ (by omega)
        injection hg with e1 e2 e3
        subst e1
        obtain ⟨gl, ia, ic, hI, d0, d1, d2, d3, d4, d5, d6, d7⟩ := (HN.out.below HS.out.bel).at_ i hil
        have HC : Hid (∀ W, Below wr.heap.size wr W → Calls Tryz.prog 60 #[.agg #[.int .i64 l[i].k, .int .i64 l[i].op, .int .i64 l[i].wd, .slice ia l[i].ins.length ic, .string (S l[i].vl), .int .i64 l[i].hi, .int .i64 l[i].lo, .int .i64 l[i].tm], .slice (some ⟨g, o, none⟩) n nc] W fun e w' => e = .returned (.bool (mbB l l[i])) ∧ Below W.heap.size W w') := fun W hW => HM2.out W i hil ia ic (bel HS.out.bel hW) (hI.below hW)
        obtain ⟨nb', hnb⟩ : ∃ nb', nb' = mbB l l[i] := ⟨_, rfl⟩
        have HNB : Hid (nb' = mbB l l[i]) := hnb
        rw [← hnb] at HC
        generalize l[i] = x at d0 d1 d2 d3 d4 d5 d6 d7 HC
        clear hI e2 e3 hnb
        obtain ⟨k, op, wd, ins, vl, hi', lo, tm⟩ := x
        simp only at d0 d1 d2 d3 d4 d5 d6 d7 HC
        have i1 : (0 : Int) ≤ (i : Int) := by omega
        have i2 : (i : Int) < (n : Int) := by omega
        cases nb' with
        | false =>
          go_wp2_with (first | (go_at_call 60; refine (HC.out _ (belA (Below.refl _ _) _)).mono ?_; rintro e w5 ⟨rfl, hb5⟩))
          all_goals (go_ret; exact ⟨ret_int (by rw [HR.out, ck_node hil HNB.out.symm]; rfl), (S1.below (S1.alloc HS.out) hb5).bel⟩)
        | true =>
          go_wp2_with (first | (go_at_call 60; refine (HC.out _ (belA (Below.refl _ _) _)).mono ?_; rintro e w5 ⟨rfl, hb5⟩))
          go_roundw
          case rel => exact ⟨i + 1, hlt, by go_num, all_snocL hil HA.out HNB.out.symm, S1.below (S1.alloc HS.out) hb5⟩
          case measure => simp [intOf]; omega
      · obtain rfl : i = n := by omega
        have HAL : Hid (l.all (mbB l) = true) := all_done (Nat.le_of_eq HNL.out.symm) HA.out
        have hq := HP2.out wr HS.out.bel hn
        have HRP : Hid (R = portB l nets) := HR.out.trans (by unfold ckB; rw [HAL.out, ← HNL.out, ← HML.out]; simp [hn])
        generalize portB l nets = pb at hq HRP
        clear HA hi hlt HP2
        have HQ : Hid (Calls Tryz.prog 61 #[.agg #[.slice na i nc, .slice ta m tc, .int .i64 m]] wr fun e w' => e = .returned (.bool pb) ∧ Below wr.heap.size wr w') := hq
        clear hq
        cases pb with
        | false =>
          go_wp2_with (first | (go_at_call 61; refine HQ.out.mono ?_; rintro e w5 ⟨rfl, hb5⟩))
          all_goals (go_ret; exact ⟨ret_int (by rw [HRP.out]; rfl), bel HS.out.bel hb5⟩)
        | true =>
          go_wp2_with (first | (go_at_call 61; refine HQ.out.mono ?_; rintro e w5 ⟨rfl, hb5⟩))
          all_goals (go_ret; exact ⟨ret_int (by rw [HRP.out]; rfl), bel HS.out.bel hb5⟩)
  · have h3 : (pt != (m : Int)) = true := by simpa using h2
    go_enter Tryz.func32, Tryz.ntmps32
    go_wp2
    all_goals (go_ret; exact ⟨ret_int (by rw [HR.out, ck_size (by rw [← HML.out]; omega)]; rfl), belA (Below.refl _ _) _⟩)
end Go.Proofs.YtokepgnnepjiaaaGreat

/- What a node hangs on; levels, plain, and the reference's Levels. -/
namespace Go.Proofs.YtokepgnnepjiaaaGreat
set_option maxRecDepth 100000
open Go.RowKit Lg Nl Go.Maps
set_option linter.unusedVariables false
set_option linter.unusedSimpArgs false

/-- what a node hangs on -/
def hangL (x : Nd) : List Int := if x.k = 8 then [] else if x.k = 7 then x.ins.take 1 else x.ins
def hgs (x : Nd) : List Nat := (hangL x).map Int.toNat
def bump (i : Nat) (s : (Nat → Int) × Bool) (h : Nat) : (Nat → Int) × Bool := if s.1 i < s.1 h + 1 then (fun q => if q = i then s.1 h + 1 else s.1 q, true) else s
def bumps (s : (Nat → Int) × Bool) (i : Nat) (hs : List Nat) : (Nat → Int) × Bool := hs.foldl (bump i) s
/-- all nodes ahead of one are put behind those that they hang on, one by one -/
def sweepTo (l : List Nd) (f : Nat → Int) : Nat → (Nat → Int) × Bool
  | 0 => (f, false)
  | i + 1 => bumps (sweepTo l f i) i (hgs (ndAt l i))
/-- so many rounds at the most -/
def lvR (l : List Nd) : Nat → (Nat → Int) → Option (Nat → Int)
  | 0, _ => none
  | r + 1, f => if (sweepTo l f l.length).2 then lvR l r (sweepTo l f l.length).1 else some (sweepTo l f l.length).1
def levels (l : List Nd) : Option (Nat → Int) := lvR l (l.length + 1) (fun _ => 0)
/-- nodes whose Ins are there -/
structure Ok (l : List Nd) : Prop where
  n : l.length ≤ 4096
  i : ∀ x ∈ l, x.ins.all (inB l.length) = true
  q : ∀ x ∈ l, x.ins.length ≤ 256
  f : ∀ x ∈ l, x.k = 7 → 1 ≤ x.ins.length
theorem bumps_snoc (s : (Nat → Int) × Bool) (i : Nat) (hs : List Nat) (h : Nat) : bumps s i (hs ++ [h]) = bump i (bumps s i hs) h := by simp [bumps]
theorem IntsAt.take1 {w : World} {ia : Option Addr} {q ic : Nat} {ins : List Int} (h : IntsAt w (.slice ia q ic) ins) (hq : 1 ≤ q) (hl : q = ins.length) : IntsAt w (.slice ia 1 ic) (ins.take 1) := by
  obtain ⟨ao, c, hv, hc, h⟩ := h
  injection hv with e1 e2 e3
  subst e1 e3
  have hl1 : (ins.take 1).length = 1 := by rw [List.length_take]; omega
  refine ⟨_, _, by rw [hl1], by omega, ?_⟩
  rcases h with h | ⟨g, o, rfl, hg, h⟩
  · subst h; simp at hl; omega
  · refine Or.inr ⟨g, o, rfl, hg, fun i hi => ?_⟩
    have hi1 : i < ins.length := by rw [hl1] at hi; omega
    rw [h i hi1, List.getElem_take]
end Go.Proofs.YtokepgnnepjiaaaGreat

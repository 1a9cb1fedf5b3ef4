/- The reference's reader: a module. -/
import Derived.Test.YtpnhefjiobnelaaNrU
import Derived.Deep.RegionLaw
namespace Go.Proofs.Ytpnhefjiobnelaa
open Go.RowKit Lg Rp Go.Maps
set_option linter.unusedVariables false
set_option linter.unusedSimpArgs false

theorem step_appG {P : Program} {ops : Array Oper} {o : Oper} {a : Act} {w : World} {K : Act → World → Prop} {Q : Exit → Act → World → Prop} {E : Prop}
    (hg : o.guard = none) (s x : Operand) (t : TypeId) (hop : o.op = Op.call { callee := Callee.builtin Builtin.append, args := #[s, x], argTypes := #[t, t] })
    (base : Nat) (e : TypeId) (i : TypeInfo) (z : Value) (size bytes : Nat) (h1 : P.underlying t = some (.slice e)) (h2 : P.info? e = some i) (h3 : i.zero = some z) (h4 : i.size = size) (h5 : i.bytes = bytes) (h6 : z.cells.size = size) (h7 : 0 < size)
    (v : Value) (n : Nat) (xs : List Value) (hs : a.eval s = v) (hown : w.ownsRow base e size v n xs)
    (ad : Addr) (m c : Nat) (news : List Value) (hx : a.eval x = .slice (some ad) m c) (hn : news.length = m * size) (hc : ∀ j u, news[j]? = some u → w.cell? (ad.add j) = some u) (h1c : ∀ u ∈ news, u.oneCell' = true)
    (b1 : n + m ≤ maxLen) (b2 : (n + m) * bytes ≤ 140737488355328) (hbase : base ≤ w.heap.size)
    (hK : ∀ v' w', w'.ownsRow base e size v' (n + m) (xs ++ news) → w.grownBy w' v.ownBlock → (v'.ownBlock = v.ownBlock ∨ v'.ownBlock = some w.heap.size) → K (a.put o.dst v') w') :
    if Region.wanted o (yielded ops a.tmps) = true then Oper.wp P o a w K Q else E := by
  have hw : Region.wanted o (yielded ops a.tmps) = true := by simp [Region.wanted, hg]
  rw [if_pos hw]
  obtain ⟨v', w', hr, q2, q3, _, q5⟩ := run_append_own_at (P := P) w base t o.type e i z size bytes h1 h2 h3 h4 h5 h6 h7 v n xs hown ad m c news hn hc h1c b1 b2 hbase
  unfold Oper.wp execOp
  simp only [hop, resolve, invoke, builtin, Sem.run_bind, Sem.run_pure, Result.andThen_ok, List.map_toArray, List.map_cons, List.map_nil, hs, hx, hr]
  exact hK v' w' q2 q3 q5
theorem mo_size : (Try.prog.info? 59).map (·.size) = some 5 := by kernel_rfl
theorem sPs_way {l : List Tok} {f n k N k' : Nat} {a ds : List Dc} (h : sPs l (f + 1) n a k = some (N, ds, k')) : ∃ px k2, sP l k = some (px, k2) ∧ ((sw l k2 [44] = true ∧ sPs l f (n + 1) (a ++ px) (k2 + 1) = some (N, ds, k')) ∨ (sw l k2 [44] = false ∧ N = n + 1 ∧ ds = a ++ px ∧ k' = k2)) := by
  rw [sPs] at h
  cases h1 : sP l k with
  | none => rw [h1] at h; cases h
  | some r =>
    obtain ⟨px, k2⟩ := r
    rw [h1] at h
    simp only at h
    refine ⟨px, k2, rfl, ?_⟩
    cases hc : sw l k2 [44] with
    | true => rw [hc] at h; exact Or.inl ⟨rfl, h⟩
    | false =>
      rw [hc] at h
      simp only [Bool.false_eq_true, if_false] at h
      injection h with h; injection h with e1 h; injection h with e2 e3
      exact Or.inr ⟨rfl, e1.symm, e2.symm, e3.symm⟩
/-- what reading a module comes to -/
def MoR (b g cap : Nat) (l : List Tok) (w : World) (x : List Dc) (k : Nat) (e : Ending) (w' : World) : Prop :=
  (∃ m0 m1 m2 m3 m4, e = .returned (.agg #[m0, m1, m2, m3, m4]) ∧ DAt w' (Ge w.heap.size) x [m0, m1, m2, m3, m4]) ∧ Rq b g cap l k w' ∧ Kp b w w'
theorem cells5' {w : World} {R : Nat} {a b c d e : Value} {t : TypeId} (h : w.heap[R]? = some (.cells #[a, b, c, d, e] t (0, 0))) : w.cell? ⟨R, 2, none⟩ = some c ∧ (∀ j, w.frozen? ⟨R, j, none⟩ = false) ∧ R < w.heap.size := by
  refine ⟨?_, fun j => Lib.frozen_of_heap h j, heap_lt h⟩; (rw [Lib.cell_of_heap h]; rfl)
theorem infoPort' : ∃ i, Try.prog.info? 83 = some i ∧ i.zero = some (.agg (poC (.bool false) (.bool false) (.string .empty) (.int .i64 0))) ∧ i.size = 17 ∧ i.bytes = 192 := info_parts (by kernel_rfl)
theorem Below.at_ {w w' : World} {R : Nat} {o : Obj} (h : Below w.heap.size w w') (ho : w.heap[R]? = some o) : w'.heap[R]? = some o := (h.block R (heap_lt ho)).trans ho
theorem Row.oth {w w' : World} {B R : Nat} {e : TypeId} {z : Nat} {v : Value} {n : Nat} {ds : List Dc} (h : Row w B e z v n ds) (hk : Oth R w w') (hb : R < B) : Row w' B e z v n ds := by
  obtain ⟨xs, ⟨h1, h2⟩, h3⟩ := h.ex
  refine ⟨xs, ⟨h1, ?_⟩, h3.keep ⟨by rw [hk.size]; exact Nat.le_refl _, fun k hk1 hk2 => hk.block k (by omega)⟩⟩
  rcases h2 with h2 | ⟨g, cap, cur, hv, hg, hh, hr⟩
  · exact Or.inl h2
  · exact Or.inr ⟨g, cap, cur, hv, hg, (hk.block g (by omega)).trans hh, hr⟩
theorem Oth.of2 {R : Nat} {w : World} {y : Value} : Oth R w (w.setCell ⟨R, 2, none⟩ y) := Oth.set (Oth.refl R w)
theorem hset5 {w : World} {R : Nat} {a b c d e : Value} {t : TypeId} (h : w.heap[R]? = some (.cells #[a, b, c, d, e] t (0, 0))) (y : Value) : (w.setCell ⟨R, 2, none⟩ y).heap[R]? = some (.cells #[a, b, y, d, e] t (0, 0)) := by
  simp only [World.setCell]
  rw [Array.getElem?_modify, if_pos rfl, h]; rfl
set_option maxRecDepth 100000 in
set_option maxHeartbeats 8000000 in
theorem rModule {b g cap k k1 NP ni k3 fp : Nat} {l : List Tok} {w : World} {PS its : List Dc} (h : Rq b g cap l k w) (h0 : sw l k wModule = true) (hn : nmK l (k + 1) = true) (h1 : sw l (k + 1 + 1) [35] = false) (h2 : sw l (k + 1 + 1) [40] = true) (h3 : sw l (k + 1 + 1 + 1) [41] = false) (hps : sPs l fp 0 [] (k + 1 + 1 + 1) = some (NP, PS, k1)) (h4 : sw l k1 [41] = true) (h5 : sw l (k1 + 1) [59] = true)
    (HI : ∀ w', Rq b g cap l (k1 + 1 + 1) w' → Calls Try.prog 33 #[.pointer (some ⟨b, 0, none⟩), .string ⟨#[101, 110, 100, 109, 111, 100, 117, 108, 101]⟩, .int .i64 1] w' fun e w'' => SlR b g cap l w' ni its k3 e w'') :
    Calls Try.prog 17 #[.pointer (some ⟨b, 0, none⟩)] w fun e w' => MoR b g cap l w (moD (tk l (k + 1)).x NP PS ni its (tk l k).p) k3 e w' := by
  have HT : Hid _ := h
  have hbl := h.blt
  have hgl := h.lt
  unfold SlR at HI
  obtain ⟨p, hp⟩ : ∃ p, (tk l k).p = p := ⟨_, rfl⟩
  obtain ⟨sx, hsx⟩ : ∃ sx, S (tk l (k + 1)).x = sx := ⟨_, rfl⟩
  have HX : Hid _ := hsx
  have HQ0 : Hid _ := hps
  obtain ⟨i0, hi, hz0, hz1, hz2⟩ := infoPort'
  clear h hps
  unfold MoR moD
  rw [hp]
  go_enter Try.func17, Try.ntmps17
  go_wp2_with (first
    | (have hx := hs7; go_at_call 30; refine (rTk hs7 ⟨#[41]⟩ false (k + 1 + 1 + 1) h3 rfl).mono ?_; rintro e w8 ⟨rfl, hs8, hk8⟩; have y8 := hk8.le; have K8 := K7.trans hk8; have BR8 := hk8.at_ BR7 (by omega); have BM8 := hk8.at_ BM7 (by omega))
    | (have hx := hs6; go_at_call 28; refine (rMust hs6 ⟨#[40]⟩ h2).mono ?_; rintro e w7 ⟨rfl, hs7, hk7⟩; have y7 := hk7.le; have K7 := K6.trans hk7; have BR7 := hk7.at_ BR6 (by omega); have BM7 := hk7.at_ BM6 (by omega))
    | (have hx := hs5; go_at_call 30; refine (rTk hs5 ⟨#[35]⟩ false (k + 1 + 1) h1 rfl).mono ?_; rintro e w6 ⟨rfl, hs6, hk6⟩; have y6 := hk6.le; have K6 := K5.trans hk6; have BR6 := hk6.at_ BR5 (by omega); have BM6 := hk6.at_ BM5 (by omega))
    | (have hx := hs4; refine wpl_storeO rfl 9 _ _ rfl (w1.heap.size) 0 rfl (.string sx) rfl _ _ BM4 str_size (Nat.le_of_ble_eq_true rfl) (oneT _) #[.string sx, .slice none 0 0, .slice none 0 0, .slice none 0 0, .int .i64 p] (by kernel_rfl) ?_; intro w5 o5 BM5; have x5 := heap_lt BM4; have hs5 := hs4.oth o5 (by omega) (by omega); have K5 := K4.oth o5 (by omega); have y5 := Nat.le_of_eq o5.size; have u5 := Nat.le_of_eq o5.size.symm; have BR5 := (o5.block (w.heap.size) (by omega)).trans BR4)
    | (have hx := hs3; go_at_call 29; refine (rNm hs3 hn sx hsx).mono ?_; rintro e w4 ⟨rfl, hs4, hk4⟩; have y4 := hk4.le; have K4 := K3.trans hk4; have BR4 := hk4.at_ BR3 (by omega); have BM4 := hk4.at_ BM3 (by omega))
    | (have hx := hs2; go_at_call 28; refine (rMust hs2 ⟨#[109, 111, 100, 117, 108, 101]⟩ h0).mono ?_; rintro e w3 ⟨rfl, hs3, hk3⟩; have y3 := hk3.le; have K3 := K2.trans hk3; have BR3 := hk3.at_ BR2 (by omega); have BM3 := hk3.at_ BM2 (by omega))
    | (have hx := hs1; refine wpl_newG rfl 59 _ _ rfl _ rfl rfl #[.string ⟨#[]⟩, .slice none 0 0, .slice none 0 0, .slice none 0 0, .int .i64 p] rfl _ _ mo_size rfl (by rw [← Array.all_toList]; rfl) ?_; intro w2 hb2 BM2; have hs2 := hs1.below hb2; have hk2 : Kp b w1 w2 := Kp.of hb2; have y2 := hk2.le; have K2 := K1.trans hk2; have BR2 := hk2.at_ BR1 (by omega); have v2 := heap_lt BM2)
    | (go_at_call 27; refine (rPl (HT.out.below bxS) p hp).mono ?_; rintro e w1 ⟨rfl, hs1, hk1⟩; have y1 : w.heap.size + 1 ≤ w1.heap.size := (by have := hk1.le; simp at this; omega); have K1 := (Kp.of (b := b) bxS).trans hk1; have BR1 := hk1.at_ (heap_alloc_last w _) (by omega))
    | (go_at_call 18; fail))
  try simp only [Act.put]
  go_loopw [24] (fun _ wr => ∃ (f' n : Nat) (a : List Dc) (kz : Nat) (ao : Option Addr) (cp : Nat), n ≤ kz ∧ Hid (sPs l f' n a kz = some (NP, PS, k1)) ∧ Hid (Rq b g cap l kz wr) ∧ Hid (Kp b w wr) ∧ Hid (wr.heap[w1.heap.size]? = some (.cells #[.string sx, .slice none 0 0, .slice ao n cp, .slice none 0 0, .int .i64 p] 59 (0, 0))) ∧ Hid (∃ z, wr.heap[w.heap.size]? = some (.cells z 59 (0, 0)) ∧ z.size = 5) ∧ Hid (Row wr (w1.heap.size + 1) 83 17 (.slice ao n cp) n a)) (fun _ wr => l.length - atQ b wr)
  case atStart => exact ⟨fp, 0, [], _, none, 0, Nat.zero_le _, HQ0, hs8, K8, BM8, ⟨_, BR8, rfl⟩, Row.nil _ _ _ _⟩
  case round =>
    obtain ⟨f', n, a, kz, ao, cp, hnk, HQ, HST, HKP, HBM, HBR0, HRW⟩ := hrel
    obtain ⟨zz, hzz, hz5⟩ := HBR0.out
    have HBR : Hid _ := hzz
    have yr := HKP.out.size
    have hkl := HST.out.k
    have hll := HST.out.len
    have hMl := heap_lt HBM.out
    obtain ⟨m2, mf, ml⟩ := cells5' HBM.out
    clear HBR0 hzz
    cases f' with
    | zero => have := HQ.out; rw [sPs] at this; cases this
    | succ f' =>
      obtain ⟨px, k2, hpx, hways⟩ := sPs_way HQ.out
      have HP := fun w' (hh : Rq b g cap l kz w') => rPort hpx w' hh
      unfold PoR poC at HP
      have hlt := sP_lt hpx
      have hO := HRW.out.own
      have HO : Hid _ := hO
      clear hO hpx
      go_wp2_with (first
        | (go_at_call 18; refine (rGoing HST.out).mono ?_; rintro e w' ⟨rfl, hw⟩; have hw2 := hw.symm; subst hw2))
      go_region_law (first
        | (refine step_appG rfl _ _ 56 rfl (w1.heap.size + 1) 83 i0 _ 17 192 Try.underlying56 hi hz0 hz1 hz2 rfl (by decide) _ n xs (by simp [Act.eval, Act.put]) hown ⟨w5.heap.size, 0, none⟩ 1 1 [.bool o5, .bool r5, .bool false, .int .i64 0, .string ⟨#[]⟩, .string ⟨#[]⟩, .bool false, .slice none 0 0, .int .i64 0, .int .i64 0, .string ⟨#[]⟩, .string ⟨#[]⟩, .bool false, .slice none 0 0, .int .i64 0, .string n5, .int .i64 p5] (by simp [Act.eval, Act.put]) rfl (fun j u hj => by rw [show (⟨w5.heap.size, 0, none⟩ : Addr).add j = ⟨w5.heap.size, j, none⟩ by unfold Addr.add; split <;> simp_all]; exact cells_in j u hj) hD.one (by unfold maxLen; omega) (by omega) (by first | (simp; done) | (simp; omega)) ?_; intro v7 w7 hown7 hgrow7 hat7; have HS7 := slice_of hown7; obtain ⟨o7, c7, hv7⟩ := HS7; subst hv7; have BM7 := (hgrow7.block w1.heap.size (by first | (simp; done) | (simp; omega)) (fun e => by have := HO.out _ e.symm; omega)).trans (Below.at_ bxS BM5); obtain ⟨m27, mf7, ml7⟩ := cells5' BM7)
        | (go_simp; go_wp2_with (go_at_call 32; refine (HP _ (HST.out.below belD)).mono ?_; rintro e w5 ⟨⟨o5, r5, n5, p5, rfl, hD⟩, hs5, hkd5⟩; have hk5 : Kp b wr w5 := (Kp.refl b wr).drew.trans hkd5; have y5 := hk5.size; have BM5 := hk5.at_ HBM.out (by omega); obtain ⟨m25, mf5, ml5⟩ := cells5' BM5; have HR5 := HRW.out.keep hk5 (by omega); have HR6 := HR5.keep (Kp.of (b := b) (bxS (o := .cells ([.bool o5, .bool r5, .bool false, .int .i64 0, .string ⟨#[]⟩, .string ⟨#[]⟩, .bool false, .slice none 0 0, .int .i64 0, .int .i64 0, .string ⟨#[]⟩, .string ⟨#[]⟩, .bool false, .slice none 0 0, .int .i64 0, .string n5, .int .i64 p5]).toArray 83))) (by omega); have HX6 := HR6.ex; obtain ⟨xs, hown, hdo⟩ := HX6)))
      all_goals
        have hO := HO.out
        have hnw := (hD.keep (Up.alloc (o := .cells ([.bool o5, .bool r5, .bool false, .int .i64 0, .string ⟨#[]⟩, .string ⟨#[]⟩, .bool false, .slice none 0 0, .int .i64 0, .int .i64 0, .string ⟨#[]⟩, .string ⟨#[]⟩, .bool false, .slice none 0 0, .int .i64 0, .string n5, .int .i64 p5]).toArray 83))).mono (N' := fun g' => w1.heap.size + 1 ≤ g' ∧ (Value.slice ao n cp).ownBlock ≠ some g') (fun g' _ hg' => by
          unfold Ge at hg'
          have hg2 : wr.heap.size ≤ g' := hg'
          refine ⟨by omega, fun e => ?_⟩
          have := hO g' e
          omega)
        have HR7 := Row.more hdo hnw hown7 hgrow7 hat7
        have hs7 := (hs5.below (bxS (o := .cells ([.bool o5, .bool r5, .bool false, .int .i64 0, .string ⟨#[]⟩, .string ⟨#[]⟩, .bool false, .slice none 0 0, .int .i64 0, .int .i64 0, .string ⟨#[]⟩, .string ⟨#[]⟩, .bool false, .slice none 0 0, .int .i64 0, .string n5, .int .i64 p5]).toArray 83))).grow hgrow7 (fun e => by have := hO _ e; omega) (fun e => by have := hO _ e; omega)
        have K7 := ((HKP.out.trans hk5).trans (Kp.of (bxS (o := .cells ([.bool o5, .bool r5, .bool false, .int .i64 0, .string ⟨#[]⟩, .string ⟨#[]⟩, .bool false, .slice none 0 0, .int .i64 0, .int .i64 0, .string ⟨#[]⟩, .string ⟨#[]⟩, .bool false, .slice none 0 0, .int .i64 0, .string n5, .int .i64 p5]).toArray 83)))).grow hgrow7 (fun k e => by have := hO k e; omega)
        have BR5 := hk5.at_ HBR.out (by omega)
        have BR7 := (hgrow7.block w.heap.size (Nat.lt_of_lt_of_le (heap_lt BR5) bxS.size) (fun e => by have := hO _ e.symm; omega)).trans (Below.at_ bxS BR5)
        have y7 := hgrow7.size
        have y7b : w5.heap.size + 1 ≤ w7.heap.size := (by have := hgrow7.size; simp at this; omega)
        obtain ⟨w8, hw8⟩ : ∃ w8, w8 = w7.setCell ⟨w1.heap.size, 2, none⟩ (.slice o7 (n + 1) c7) := ⟨_, rfl⟩
        rw [← hw8]
        have o8 : Oth w1.heap.size w7 w8 := hw8 ▸ Oth.of2
        have hs8 := hs7.oth o8 (by omega) (by omega)
        have K8 := K7.oth o8 (by omega)
        have BM8 : w8.heap[w1.heap.size]? = some (.cells #[.string sx, .slice none 0 0, .slice o7 (n + 1) c7, .slice none 0 0, .int .i64 p] 59 (0, 0)) := hw8 ▸ hset5 BM7 _
        have BR8 := (o8.block w.heap.size (by omega)).trans BR7
        have HR8 := HR7.oth o8 (Nat.lt_succ_self _)
        have Dp8 := HR8.cell
        have y8 : w7.heap.size ≤ w8.heap.size := Nat.le_of_eq o8.size.symm
        clear hw8 hO
        rcases hways with ⟨hco, hnext⟩ | ⟨hco, e1, e2, e3⟩
        · have HNX : Hid _ := hnext
          go_wp2_with (first
            | (go_at_call 30; refine (rTk hs8 ⟨#[44]⟩ true (k2 + 1) hco rfl).mono ?_; rintro e w9 ⟨rfl, hs9, hk9⟩))
          go_roundw
          case rel => exact ⟨f', n + 1, a ++ px, k2 + 1, o7, c7, by omega, HNX.out, hs9, K8.trans hk9, hk9.at_ BM8 (by omega), ⟨zz, hk9.at_ BR8 (by omega), hz5⟩, HR8.keep hk9 (by omega)⟩
          case measure =>
            have a1 := atQ_eq hs9
            have a2 := atQ_eq HST.out
            rw [a1, a2]; omega
        · have HE1 : Hid _ := e1
          have HE2 : Hid _ := e2
          have HE3 : Hid (k1 = k2) := e3
          have h4 : sw l k2 [41] = true := e3 ▸ h4
          have h5 : sw l (k2 + 1) [59] = true := e3 ▸ h5
          have HI := fun w' (hh : Rq b g cap l (k2 + 1 + 1) w') => HI w' (e3.symm ▸ hh)
          clear e1 e2 e3
          go_wp2_with (first
            | (have hx := hs35; refine wpl_store rfl 59 _ _ rfl (w.heap.size) rfl #[.string sx, .slice none 0 0, .slice o7 (n + 1) c7, .slice mo ni mc, .int .i64 p] rfl _ _ BR35 mo_size hz5 (by rw [← Array.all_toList]; rfl) ?_)
            | (have hx := hs35; refine wpl_load rfl 59 _ rfl (w1.heap.size) rfl #[.string sx, .slice none 0 0, .slice o7 (n + 1) c7, .slice mo ni mc, .int .i64 p] _ _ BM35 Try.underlying59 rfl mo_size ?_)
            | (have hx := hs34; refine wpl_storeO rfl 57 _ _ rfl (w1.heap.size) 3 rfl (.slice mo ni mc) rfl _ _ BM34 sit_size (Nat.le_of_ble_eq_true rfl) (oneS _ _ _) #[.string sx, .slice none 0 0, .slice o7 (n + 1) c7, .slice mo ni mc, .int .i64 p] (by kernel_rfl) ?_; intro w35 o35 BM35; have x35 := heap_lt BM34; have hs35 := hs34.oth o35 (by omega) (by omega); have K35 := K34.oth o35 (by omega); have y35 := Nat.le_of_eq o35.size; have u35 := Nat.le_of_eq o35.size.symm; have BR35 := (o35.block (w.heap.size) (by omega)).trans BR34; have Dp_35 := Dp_34.oth o35 (by omega); have Dm_35 := hm.oth o35 (by omega))
            | (have hx := hs33; go_at_call 33; refine (HI _ hs33).mono ?_; rintro e w34 ⟨⟨mo, mc, rfl, hm⟩, hs34, hk34⟩; have y34 := hk34.le; have K34 := K33.trans hk34; have BR34 := hk34.at_ BR33 (by omega); have BM34 := hk34.at_ BM33 (by omega); have Dp_34 := Dp_33.kp hk34 (by omega))
            | (have hx := hs32; go_at_call 28; refine (rMust hs32 ⟨#[59]⟩ h5).mono ?_; rintro e w33 ⟨rfl, hs33, hk33⟩; have y33 := hk33.le; have K33 := K32.trans hk33; have BR33 := hk33.at_ BR32 (by omega); have BM33 := hk33.at_ BM32 (by omega); have Dp_33 := Dp_32.kp hk33 (by omega))
            | (have hx := hs31; go_at_call 28; refine (rMust hs31 ⟨#[41]⟩ h4).mono ?_; rintro e w32 ⟨rfl, hs32, hk32⟩; have y32 := hk32.le; have K32 := K31.trans hk32; have BR32 := hk32.at_ BR31 (by omega); have BM32 := hk32.at_ BM31 (by omega); have Dp_32 := Dp_31.kp hk32 (by omega))
            | (have hx := hs8; go_at_call 30; refine (rTk hs8 ⟨#[44]⟩ false k2 hco rfl).mono ?_; rintro e w31 ⟨rfl, hs31, hk31⟩; have y31 := hk31.le; have K31 := K8.trans hk31; have BR31 := hk31.at_ BR8 (by omega); have BM31 := hk31.at_ BM8 (by omega); have Dp_31 := Dp8.kp hk31 (by omega)))
          refine bodyPost_ret (results_cell (r := 2) (t := 59) rfl w.heap.size rfl _ _ _ (setRow_at BR35) Try.underlying59 rfl mo_size) rfl ?_
          have hsx2 := HX.out
          rw [← hsx2, HE1.out, HE2.out]
          have d1 := Dp_35.monoG (B' := w.heap.size + 1) (by omega)
          have d2 := Dm_35.monoG (B' := w.heap.size + 1) (by omega)
          have hD9 : DAt w35 (Ge (w.heap.size + 1)) [.t (tk l (k + 1)).x, .s 0 [], .s (n + 1) (a ++ px), .s ni its, .i p] [_, _, _, _, _] := .t (.s0 (d1.app (d2.app (.i .nil))))
          exact ⟨⟨_, _, _, _, _, rfl, (hD9.keep (Up.row (by unfold Ge; omega))).monoG (by omega)⟩, hs35.row (by omega) (by omega), K35.row (by omega)⟩
end Go.Proofs.Ytpnhefjiobnelaa

/- Texts NrM NrN NrO, joined: what each part says stands ahead of it. -/
import Derived.Test.YtpnhefjiobnelaaNrL
/- The reference's reader: several statements between begin and end. -/
namespace Go.Proofs.Ytpnhefjiobnelaa
open Go.RowKit Lg Rp
set_option linter.unusedVariables false
set_option linter.unusedSimpArgs false

theorem xD_len (op : Int) (nm vl : List UInt8) (pl : Bool) (n : Nat) (ks : List Dc) (p : Nat) : (xD op nm vl pl n ks p).length = 6 := rfl
theorem sE_len {l : List Tok} : ∀ (f : Nat) (md : Mr) (k : Nat) (x : List Dc) (k' : Nat), sE l f md k = some (x, k') → (∀ n d a, md = .bl n d a → a.length = 6) → x.length = 6 := by
  intro f
  induction f with
  | zero => intro md k x k' h; rw [sE] at h; cases h
  | succ f ih =>
    intro md k x k' h ha
    cases md with
    | ex d => exact ih _ _ _ _ (sE_ex h).2.2.1 (by intro _ _ _ e; cases e)
    | bi n d =>
      by_cases h9 : 9 < n
      · rw [sE, if_pos h9] at h; exact ih _ _ _ _ h (by intro _ _ _ e; cases e)
      · obtain ⟨a, k1, h1, h2⟩ := sE_bi h h9
        have := ih _ _ _ _ h1 (by intro _ _ _ e; cases e)
        exact ih _ _ _ _ h2 (by intro _ _ _ e; injection e with e1 e2 e3; subst e3; exact this)
    | bl n d a =>
      rcases sE_bl h with ⟨_, rfl, _⟩ | ⟨_, _, y, k1, h1, h2⟩
      · exact ha _ _ _ rfl
      · exact ih _ _ _ _ h2 (by intro _ _ _ e; injection e with e1 e2 e3; subst e3; rfl)
    | un d => exact ih _ _ _ _ (sE_un h).2.2 (by intro _ _ _ e; cases e)
    | pr d =>
      rcases sE_pr h with ⟨_, _, _, _, rfl, _⟩ | ⟨_, _, _, _, _, rfl, _⟩ <;> rfl
theorem sE_len' {l : List Tok} {f d k k' : Nat} {x : List Dc} (h : sE l f (.ex d) k = some (x, k')) : x.length = 6 := sE_len _ _ _ _ _ h (by intro _ _ _ e; cases e)
theorem stC_len (kd : Int) (tg : List UInt8) (v : List Dc) (nb : Nat) (bd : List Dc) (ne : Nat) (el : List Dc) (p : Nat) (hv : v.length = 6) : (stC kd tg v nb bd ne el p).length = 12 := by simp [stC, hv]
/-- the ways that a statement is read -/
theorem sS_one {l : List Tok} {fe f d k n k' : Nat} {ds : List Dc} (h : sS l fe (f + 1) (.one d) k = some (n, ds, k')) : d ≤ 32 ∧
    ((sw l k wBegin = true ∧ sS l fe f (.many d 0 []) (k + 1) = some (n, ds, k')) ∨
     (sw l k wBegin = false ∧ sw l k wIf = true ∧ sw l (k + 1) [40] = true ∧ ∃ v k1 nb bd k2, sE l fe (.ex 1) (k + 1 + 1) = some (v, k1) ∧ sw l k1 [41] = true ∧ sS l fe f (.one (d + 1)) (k1 + 1) = some (nb, bd, k2) ∧
       ((sw l k2 wElse = true ∧ ∃ ne el, sS l fe f (.one (d + 1)) (k2 + 1) = some (ne, el, k') ∧ n = 1 ∧ ds = stC 3 [] v nb bd ne el (tk l k).p) ∨ (sw l k2 wElse = false ∧ n = 1 ∧ ds = stC 3 [] v nb bd 0 [] (tk l k).p ∧ k' = k2))) ∨
     (sw l k wBegin = false ∧ sw l k wIf = false ∧ sw l k wCase = false ∧ nmK l k = true ∧ sw l (k + 1) [60, 61] = false ∧ sw l (k + 1) [61] = true ∧ ∃ v k1, sE l fe (.ex 1) (k + 1 + 1) = some (v, k1) ∧ sw l k1 [59] = true ∧ n = 1 ∧ ds = stC 1 (tk l k).x v 0 [] 0 [] (tk l k).p ∧ k' = k1 + 1)) := by
  rw [sS] at h
  split at h
  · cases h
  · rename_i hd
    refine ⟨by omega, ?_⟩
    cases hb : sw l k wBegin with
    | true => rw [hb] at h; left; exact ⟨rfl, h⟩
    | false =>
      rw [hb] at h
      right
      cases hi : sw l k wIf with
      | true =>
        rw [hi] at h
        left
        simp only [Bool.false_eq_true, if_false, if_true] at h
        cases ho : sw l (k + 1) [40] with
        | false => rw [ho] at h; cases h
        | true =>
          rw [ho] at h
          simp only [if_true] at h
          cases he : sE l fe (.ex 1) (k + 1 + 1) with
          | none => rw [he] at h; cases h
          | some r =>
            obtain ⟨v, k1⟩ := r
            rw [he] at h
            simp only at h
            cases hs : sw l k1 [41] with
            | false => rw [hs] at h; cases h
            | true =>
              rw [hs] at h
              simp only [if_true] at h
              cases h1 : sS l fe f (.one (d + 1)) (k1 + 1) with
              | none => rw [h1] at h; cases h
              | some r =>
                obtain ⟨nb, bd, k2⟩ := r
                rw [h1] at h
                simp only at h
                refine ⟨rfl, rfl, rfl, v, k1, nb, bd, k2, rfl, hs, h1, ?_⟩
                cases hl : sw l k2 wElse with
                | true =>
                  rw [hl] at h
                  simp only [if_true] at h
                  left
                  cases h2 : sS l fe f (.one (d + 1)) (k2 + 1) with
                  | none => rw [h2] at h; cases h
                  | some r =>
                    obtain ⟨ne, el, k3⟩ := r
                    rw [h2] at h
                    injection h with h; injection h with e1 h; injection h with e2 e3
                    subst e3
                    exact ⟨rfl, ne, el, rfl, e1.symm, e2.symm⟩
                | false =>
                  rw [hl] at h
                  simp only [Bool.false_eq_true, if_false] at h
                  right
                  injection h with h; injection h with e1 h; injection h with e2 e3
                  exact ⟨rfl, e1.symm, e2.symm, e3.symm⟩
      | false =>
        rw [hi] at h
        right
        simp only [Bool.false_eq_true, if_false] at h
        cases hc : sw l k wCase with
        | true => rw [hc] at h; cases h
        | false =>
          rw [hc] at h
          simp only [Bool.false_eq_true, if_false] at h
          split at h
          · rename_i hn
            cases he : sE l fe (.ex 1) (k + 1 + 1) with
            | none => rw [he] at h; cases h
            | some r =>
              obtain ⟨v, k1⟩ := r
              rw [he] at h
              simp only at h
              cases hs : sw l k1 [59] with
              | false => rw [hs] at h; cases h
              | true =>
                rw [hs] at h
                simp only [if_true] at h
                injection h with h; injection h with e1 h; injection h with e2 e3
                exact ⟨rfl, rfl, rfl, hn.1, hn.2.1, hn.2.2, v, k1, rfl, hs, e1.symm, e2.symm, e3.symm⟩
          · cases h
theorem sS_many {l : List Tok} {fe f d n0 k n k' : Nat} {a ds : List Dc} (h : sS l fe (f + 1) (.many d n0 a) k = some (n, ds, k')) :
    (sw l k wEnd = true ∧ n = n0 ∧ ds = a ∧ k' = k + 1) ∨ (sw l k wEnd = false ∧ ∃ m b k1, sS l fe f (.one (d + 1)) k = some (m, b, k1) ∧ sS l fe f (.many d (n0 + m) (a ++ b)) k1 = some (n, ds, k')) := by
  rw [sS] at h
  cases hb : sw l k wEnd with
  | true =>
    rw [hb] at h
    simp only [if_true] at h
    injection h with h; injection h with e1 h; injection h with e2 e3
    exact Or.inl ⟨rfl, e1.symm, e2.symm, e3.symm⟩
  | false =>
    rw [hb] at h
    simp only [Bool.false_eq_true, if_false] at h
    right
    cases h1 : sS l fe f (.one (d + 1)) k with
    | none => rw [h1] at h; cases h
    | some r => obtain ⟨m, b, k1⟩ := r; rw [h1] at h; exact ⟨rfl, m, b, k1, rfl, h⟩
theorem sS_len {l : List Tok} {fe : Nat} : ∀ f, (∀ d k n ds k', sS l fe f (.one d) k = some (n, ds, k') → ds.length = n * 12 ∧ n + k ≤ k' ∧ k < k') ∧ (∀ d n0 a k n ds k', sS l fe f (.many d n0 a) k = some (n, ds, k') → a.length = n0 * 12 → ds.length = n * 12 ∧ n + k ≤ k' + n0 ∧ k < k') := by
  intro f
  induction f with
  | zero => exact ⟨fun d k n ds k' h => (by rw [sS] at h; cases h), fun d n0 a k n ds k' h => (by rw [sS] at h; cases h)⟩
  | succ f ih =>
    refine ⟨fun d k n ds k' h => ?_, fun d n0 a k n ds k' h ha => ?_⟩
    · rcases (sS_one h).2 with ⟨_, h1⟩ | ⟨_, _, _, v, k1, nb, bd, k2, he, _, h1, h2⟩ | ⟨_, _, _, _, _, _, v, k1, he, _, rfl, rfl, rfl⟩
      · have := ih.2 d 0 [] (k + 1) n ds k' h1 rfl; omega
      · have a1 := sE_le _ _ _ _ _ he
        have a2 := ih.1 _ _ _ _ _ h1
        rcases h2 with ⟨_, ne, el, h3, rfl, rfl⟩ | ⟨_, rfl, rfl, rfl⟩
        · have a3 := ih.1 _ _ _ _ _ h3
          exact ⟨stC_len _ _ _ _ _ _ _ _ (sE_len' he), by omega, by omega⟩
        · exact ⟨stC_len _ _ _ _ _ _ _ _ (sE_len' he), by omega, by omega⟩
      · have a1 := sE_le _ _ _ _ _ he
        exact ⟨stC_len _ _ _ _ _ _ _ _ (sE_len' he), by omega, by omega⟩
    · rcases sS_many h with ⟨_, rfl, rfl, rfl⟩ | ⟨_, m, b, k1, h1, h2⟩
      · exact ⟨ha, by omega, by omega⟩
      · have a1 := ih.1 _ _ _ _ _ h1
        have a2 := ih.2 _ _ _ _ _ _ _ h2 (by rw [List.length_append, ha, a1.1]; omega)
        exact ⟨a2.1, by omega, by omega⟩
theorem Kp.grow {b : Nat} {w w1 w2 : World} {row : Option Nat} (h : Kp b w w1) (hg : w1.grownBy w2 row) (hr : ∀ k, row = some k → w.heap.size ≤ k) : Kp b w w2 :=
  ⟨hg.os.trans h.os, hg.tape.trans h.tape, hg.output.trans h.output, Nat.le_trans h.size hg.size, fun k hk hb => (hg.block k (Nat.lt_of_lt_of_le hk h.size) (fun e => by have := hr k e.symm; omega)).trans (h.block k hk hb)⟩
theorem Rq.grow {b g cap k : Nat} {l : List Tok} {w w' : World} {row : Option Nat} (h : Rq b g cap l k w) (hk : w.grownBy w' row) (h1 : row ≠ some b) (h2 : row ≠ some g) : Rq b g cap l k w' :=
  ⟨(hk.block b h.blt (Ne.symm h1)).trans h.blk, h.ne, Nat.lt_of_lt_of_le h.lt hk.size, h.cap, h.len, h.k, h.last, fun j u hu => by rw [World.cell?_of_block (w := w) (a := ⟨g, j, none⟩) (hk.block g h.lt (Ne.symm h2))]; exact h.src j u hu⟩
theorem Row.own {w : World} {B : Nat} {e : TypeId} {z : Nat} {v : Value} {n : Nat} {ds : List Dc} (h : Row w B e z v n ds) : ∀ k, v.ownBlock = some k → B ≤ k ∧ k < w.heap.size := by
  obtain ⟨xs, ⟨_, h2⟩, _⟩ := h.ex
  intro k hk
  rcases h2 with ⟨rfl, _⟩ | ⟨g, cap, cur, rfl, hg, hh, _⟩
  · simp [Value.ownBlock] at hk
  · simp [Value.ownBlock] at hk; subst hk; exact ⟨hg, heap_lt hh⟩
/-- what was read is no empty list -/
theorem SlR.some {b g cap : Nat} {l : List Tok} {w w' : World} {n : Nat} {ds : List Dc} {k : Nat} {e : Ending} (h : SlR b g cap l w n ds k e w') (hn : n ≠ 0) :
    (∃ g' cp us, e = .returned (.slice (some ⟨g', 0, none⟩) n cp) ∧ w.heap.size ≤ g' ∧ (∀ j u, us[j]? = some u → w'.cell? ⟨g', j, none⟩ = some u) ∧ DAt w' (Ge w.heap.size) ds us) ∧ Rq b g cap l k w' ∧ Kp b w w' := by
  obtain ⟨⟨ao, cp, rfl, hd⟩, h2, h3⟩ := h
  cases hd with
  | s0 _ => exact absurd rfl hn
  | s hN hg hc hu hk _ => exact ⟨⟨_, _, _, rfl, hN, hu, hk⟩, h2, h3⟩
theorem SlR.none {b g cap : Nat} {l : List Tok} {w w' : World} {ds : List Dc} {k : Nat} {e : Ending} (h : SlR b g cap l w 0 ds k e w') (hl : ds.length = 0) :
    ds = [] ∧ (∃ ao cp, e = .returned (.slice ao 0 cp)) ∧ Rq b g cap l k w' ∧ Kp b w w' := by
  obtain ⟨⟨ao, cp, rfl, hd⟩, h2, h3⟩ := h
  exact ⟨List.eq_nil_of_length_eq_zero hl, ⟨_, _, rfl⟩, h2, h3⟩
theorem infoStmt : ∃ i, Try.prog.info? 140 = some i ∧ i.zero = some (.agg #[.int .i64 0, .string .empty, .int .i64 0, .string .empty, .string .empty, .bool false, .slice none 0 0, .int .i64 0, .slice none 0 0, .slice none 0 0, .slice none 0 0, .int .i64 0]) ∧ i.size = 12 ∧ i.bytes = 184 := info_parts (by kernel_rfl)
theorem run_app0 (w : World) (ty : TypeId) (base ao : Option Addr) (n cap c : Nat) (h : n ≤ cap) : (Builtin.append_ #[104, 104] ty #[.slice base n cap, .slice ao 0 c]).run Try.prog w = .ok (.slice base n cap) w := by
  obtain ⟨i0, hi, hz0, hz1, hz2⟩ := infoStmt
  cases base <;> cases ao <;> simp [Builtin.append_, run_underlying Try.underlying104, sizeOf, typeInfo, hi, Builtin.lenOf, Builtin.firstCells, loadCells, loadCellsFrom, h, storeCells]
theorem wpl_app0 {ops : Array Oper} {rest : List Oper} {o : Oper} {a : Act} {w : World} {Q : Exit → Act → World → Prop} (hgd : o.guard = none) (s x : Operand) (ho : o.op = .call { callee := .builtin .append, args := #[s, x], argTypes := #[104, 104] })
    (base ao : Option Addr) (n cap c : Nat) (hs : a.eval s = .slice base n cap) (hx : a.eval x = .slice ao 0 c) (hn : n ≤ cap) (h : wpList Try.prog ops Q rest (a.put o.dst (.slice base n cap)) w) : wpList Try.prog ops Q (o :: rest) a w :=
  wpList_plain hgd fun K hK => by
    have hr := run_app0 w o.type base ao n cap c hn
    unfold Oper.wp execOp
    simp only [ho, resolve, invoke, builtin, Sem.run_bind, Sem.run_pure, Result.andThen_ok, List.map_toArray, List.map_cons, List.map_nil, hs, hx, hr]
    exact hK _ _ h
theorem Row.le {w : World} {B : Nat} {e : TypeId} {z : Nat} {v : Value} {n : Nat} {ds : List Dc} (h : Row w B e z v n ds) : ∃ ao cp, v = .slice ao n cp ∧ n ≤ cp := by
  obtain ⟨xs, ⟨_, h2⟩, _⟩ := h.ex
  rcases h2 with ⟨rfl, rfl⟩ | ⟨g, cap, cur, rfl, hg, hh, hc, _⟩
  · exact ⟨_, _, rfl, Nat.le_refl _⟩
  · exact ⟨_, _, rfl, hc⟩
end Go.Proofs.Ytpnhefjiobnelaa

/- The reference's reader: begin and end; any statement that may be. -/
namespace Go.Proofs.Ytpnhefjiobnelaa
open Go.RowKit Lg Rp
set_option linter.unusedVariables false
set_option linter.unusedSimpArgs false

def StR (b g cap : Nat) (l : List Tok) (fe f : Nat) : Prop := ∀ d k n ds k', sS l fe f (.one d) k = some (n, ds, k') → ∀ w, Rq b g cap l k w → Calls Try.prog 75 #[.pointer (some ⟨b, 0, none⟩), .int .i64 d] w fun e w' => SlR b g cap l w n ds k' e w'
theorem sw_word {l : List Tok} {k : Nat} {x : List UInt8} (h : sw l k x = true) (hx : isW x = true) : nmK l k = false := by
  unfold sw at h
  unfold nmK
  simp only [Bool.and_eq_true, beq_iff_eq, Bool.or_eq_true] at h
  obtain ⟨h1, h2⟩ := h
  rw [h1, hx]
  simp
set_option maxRecDepth 100000 in
set_option maxHeartbeats 8000000 in
theorem rStBegin {b g cap : Nat} {l : List Tok} {fe F : Nat} (HS0 : ∀ f, f ≤ F → StR b g cap l fe f) (d k n : Nat) (ds : List Dc) (k' : Nat) (hd : d ≤ 32) (hb : sw l k wBegin = true) (hq : sS l fe F (.many d 0 []) (k + 1) = some (n, ds, k')) (w : World) (h : Rq b g cap l k w) :
    Calls Try.prog 75 #[.pointer (some ⟨b, 0, none⟩), .int .i64 d] w fun e w' => SlR b g cap l w n ds k' e w' := by
  have HT : Hid _ := h
  have hbl := h.blt
  have hgl := h.lt
  have hdI : (d : Int) ≤ 32 := by omega
  have HSS : Hid _ := HS0
  have HQ0 : Hid _ := hq
  have hnm := sw_word hb (by decide)
  obtain ⟨p, hp⟩ : ∃ p, (tk l k).p = p := ⟨_, rfl⟩
  obtain ⟨i0, hi, hz0, hz1, hz2⟩ := infoStmt
  have hwd : IntKind.i64.wrap ((d : Int) + 1) = (d : Int) + 1 := by rw [IntKind.wrap_i64]; omega
  clear h hd HS0 hq
  unfold SlR
  go_enter Try.func75, Try.ntmps75
  go_wp2_with (first
    | (have hx := hs3; go_at_call 30; refine (rTk hs3 ⟨#[98, 101, 103, 105, 110]⟩ true (k + 1) hb rfl).mono ?_; rintro e w4 ⟨rfl, hs4, hk4⟩; have K4 := K3.trans hk4)
    | (have hx := hs2; go_at_call 27; refine (rPl hs2 p hp).mono ?_; rintro e w3 ⟨rfl, hs3, hk3⟩; have K3 := K2.trans hk3)
    | (have hx := hs1; go_at_call 47; refine (rSe hs1 ⟨#[98, 101, 103, 105, 110]⟩ true hb).mono ?_; rintro e w2 ⟨rfl, hs2, hk2⟩; have K2 := hk1.trans hk2)
    | (go_at_call 46; refine (rNd HT.out false hnm).mono ?_; rintro e w1 ⟨rfl, hs1, hk1⟩)
    | (go_at_call 18; refine (rGoing (g := g) (cap := cap) (l := l) (k := k) (by first | exact hs2 | exact HT.out)).mono ?_; rintro e w' ⟨rfl, hw⟩; have hw2 := hw.symm; subst hw2))
  go_loopw [6] (fun v wr => ∃ (f' m : Nat) (a : List Dc) (kz : Nat) (ao : Option Addr) (cp : Nat), f' ≤ F ∧ v = .slice ao m cp ∧ m ≤ cp ∧ m ≤ kz ∧ Hid (a.length = m * 12) ∧ Hid (sS l fe f' (.many d m a) kz = some (n, ds, k')) ∧ Hid (Row wr w.heap.size 140 12 v m a) ∧ Hid (Rq b g cap l kz wr) ∧ Hid (Kp b w wr)) (fun _ wr => l.length - atQ b wr)
  case atStart => exact ⟨F, 0, [], k + 1, none, 0, Nat.le_refl _, rfl, Nat.le_refl _, Nat.zero_le _, rfl, HQ0, Row.nil _ _ _ _, hs4, K4⟩
  case round =>
    obtain ⟨f', m, a, kz, ao, cp, hf', rfl, hmc, hmk, HAL, HQ, HRW, HST, HKP⟩ := hrel
    have HG := rGoing HST.out
    have hkl := HST.out.k
    have hll := HST.out.len
    cases f' with
    | zero => have := HQ.out; rw [sS] at this; cases this
    | succ f' =>
      rcases sS_many HQ.out with ⟨he, rfl, rfl, rfl⟩ | ⟨he, m2, b2, k1, h1, h2⟩
      · go_wp2_with (first
          | (go_at_call 30; refine (rTk HST.out ⟨#[101, 110, 100]⟩ true (kz + 1) he rfl).mono ?_; rintro e w5 ⟨rfl, hs5, hk5⟩)
          | (go_at_call 18; refine HG.mono ?_; rintro e w' ⟨rfl, hw⟩; have hw2 := hw.symm; subst hw2))
        go_ret
        exact ⟨⟨_, _, rfl, ((HRW.out.keep hk5 hbl).cell)⟩, hs5, HKP.out.trans hk5⟩
      · have HS1 := HSS.out f' (by omega) (d + 1) kz m2 b2 k1 h1
        replace HS1 : ∀ w', Rq b g cap l kz w' → Calls Try.prog 75 #[.pointer (some ⟨b, 0, none⟩), .int .i64 ((d : Int) + 1)] w' fun e w'' => SlR b g cap l w' m2 b2 k1 e w'' := HS1
        have hL := (sS_len f').1 _ _ _ _ _ h1
        have HN : Hid _ := h2
        by_cases h0 : m2 = 0
        · subst h0
          have HS2 := fun w' (hh : Rq b g cap l kz w') => (HS1 w' hh).mono (fun e w'' hq => hq.none (by rw [hL.1, Nat.zero_mul]))
          clear h1 h2 HS1
          go_wp2_with (first
            | (have hx := hs5; go_at_call 75; refine (HS2 _ hs5).mono ?_; rintro e w6 ⟨hb0, ⟨xo, xc, rfl⟩, hs6, hk6⟩)
            | (go_at_call 30; refine (rTk HST.out ⟨#[101, 110, 100]⟩ false kz he rfl).mono ?_; rintro e w5 ⟨rfl, hs5, hk5⟩)
            | (go_at_call 18; refine HG.mono ?_; rintro e w' ⟨rfl, hw⟩; have hw2 := hw.symm; subst hw2)
            | (refine wpl_app0 rfl _ _ rfl ao xo m cp xc rfl rfl hmc ?_))
          go_roundw
          case rel =>
            subst hb0
            have hN := HN.out
            rw [List.append_nil, Nat.add_zero] at hN
            exact ⟨f', m, a, k1, ao, cp, by omega, rfl, hmc, by omega, HAL, hN, (HRW.out.keep hk5 hbl).keep hk6 hbl, hs6, (HKP.out.trans hk5).trans hk6⟩
          case measure =>
            have a1 := atQ_eq hs6
            have a2 := atQ_eq HST.out
            rw [a1, a2]; omega
        · have HS2 := fun w' (hh : Rq b g cap l kz w') => (HS1 w' hh).mono (fun e w'' hq => hq.some h0)
          have hk1l : k1 < l.length ∨ True := Or.inr trivial
          clear h1 h2 HS1
          go_wp2_with (first
            | (have hx := hs5; go_at_call 75; refine (HS2 _ hs5).mono ?_; rintro e w6 ⟨⟨g6, c6, us, rfl, hg6, hu6, hd6⟩, hs6, hk6⟩; have HR6 := (HRW.out.keep hk5 hbl).keep hk6 hbl; have hbd := hs6.k; have hle6 := hk6.size; have hle5 := hk5.size; have hleK := HKP.out.size; have HX6 := HR6.ex; obtain ⟨xs, hown, hdo⟩ := HX6)
            | (go_at_call 30; refine (rTk HST.out ⟨#[101, 110, 100]⟩ false kz he rfl).mono ?_; rintro e w5 ⟨rfl, hs5, hk5⟩)
            | (go_at_call 18; refine HG.mono ?_; rintro e w' ⟨rfl, hw⟩; have hw2 := hw.symm; subst hw2)
            | (refine wpList_append_own_at _ rfl _ _ 104 rfl w.heap.size 140 i0 _ 12 184 Try.underlying104 hi hz0 hz1 hz2 rfl (by decide) _ m xs rfl hown ⟨g6, 0, none⟩ m2 c6 us rfl (by rw [hd6.len]; exact hL.1) (fun j u hj => by rw [show (⟨g6, 0, none⟩ : Addr).add j = ⟨g6, j, none⟩ by unfold Addr.add; split <;> simp_all]; exact hu6 j u hj) hd6.one (by unfold maxLen; omega) (by omega) (by omega) ?_; intro v7 w7 hown7 hgrow7 hnil7 hat7; have HS7 := slice_of hown7; obtain ⟨o7, c7, hv7⟩ := HS7))
          go_roundw
          case rel =>
            have hO := HRW.out.own
            have hnw := hd6.mono (N' := fun g' => w.heap.size ≤ g' ∧ (Value.slice ao m cp).ownBlock ≠ some g') (fun g' _ hg' => by
              unfold Ge at hg'
              refine ⟨by omega, fun e => ?_⟩
              have := hO g' e
              omega)
            have HR7 := Row.more hdo hnw hown7 hgrow7 hat7
            obtain ⟨o8, c8, hv8, hl8⟩ := HR7.le
            rw [hv7] at hv8 HR7
            injection hv8 with e1 e2 e3
            have hA := HAL.out
            exact ⟨f', m + m2, a ++ b2, k1, o7, c7, by omega, rfl, by rw [e3]; exact hl8, by omega, (show (a ++ b2).length = (m + m2) * 12 by rw [List.length_append, hA, hL.1]; omega), HN.out, HR7, hs6.grow hgrow7 (fun e => by have := hO _ e; omega) (fun e => by have := hO _ e; omega), ((HKP.out.trans hk5).trans hk6).grow hgrow7 (fun k e => (hO k e).1)⟩
          case measure =>
            have hO := HRW.out.own
            have a1 := atQ_eq (hs6.grow hgrow7 (fun e => by have := hO _ e; omega) (fun e => by have := hO _ e; omega))
            have a2 := atQ_eq HST.out
            rw [a1, a2]; omega
theorem rSt {b g cap : Nat} {l : List Tok} (HL : Short l) {fe : Nat} : ∀ F f, f ≤ F → StR b g cap l fe f := by
  intro F
  induction F with
  | zero =>
    intro f hf d k n ds k' h w hw
    have h0 : f = 0 := Nat.le_zero.1 hf
    subst h0
    rw [sS] at h
    cases h
  | succ F ih =>
    intro f hf d k n ds k' h w hw
    cases f with
    | zero => rw [sS] at h; cases h
    | succ f =>
      obtain ⟨hd, hh⟩ := sS_one h
      rcases hh with ⟨hb, h1⟩ | ⟨hb, hi, ho, v, k1, nb, bd, k2, he, hc, h1, h2⟩ | ⟨hb, hi, hc, hn, hl, hq, v, k1, he, hs, rfl, rfl, rfl⟩
      · exact rStBegin (F := f) (fun f' hf' => ih f' (by omega)) d k n ds k' hd hb h1 w hw
      · rcases h2 with ⟨hl, ne, el, h3, rfl, rfl⟩ | ⟨hl, rfl, rfl, rfl⟩
        · exact rStIfE hw d hd (sw_word hi (by decide)) hb hi ho (fun w' hw' => rEx HL he w' hw') hc (fun w' hw' => ih f (by omega) (d + 1) _ _ _ _ h1 w' hw') hl (fun w' hw' => ih f (by omega) (d + 1) _ _ _ _ h3 w' hw')
        · exact rStIf hw d hd (sw_word hi (by decide)) hb hi ho (fun w' hw' => rEx HL he w' hw') hc (fun w' hw' => ih f (by omega) (d + 1) _ _ _ _ h1 w' hw') hl
      · exact rStSet hw d hd hn hb hi hc hl hq (fun w' hw' => rEx HL he w' hw') hs
end Go.Proofs.Ytpnhefjiobnelaa

/- The reference's reader: items as cells; what an item begins with. -/
namespace Go.Proofs.Ytpnhefjiobnelaa
open Go.RowKit Lg Rp
set_option linter.unusedVariables false
set_option linter.unusedSimpArgs false

/-- six values -/
structure V6 where
  a0 : Value
  a1 : Value
  a2 : Value
  a3 : Value
  a4 : Value
  a5 : Value
def V6.l (v : V6) : List Value := [v.a0, v.a1, v.a2, v.a3, v.a4, v.a5]
def z6 : V6 := ⟨.int .i64 0, .string ⟨#[]⟩, .string ⟨#[]⟩, .bool false, .slice none 0 0, .int .i64 0⟩
/-- an item's cells -/
def itV (kd nm nms : Value) (v wh nx : V6) (vr bd its p : Value) : Array Value := #[kd, nm, nms, .bool false, .int .i64 0, .string ⟨#[]⟩, .string ⟨#[]⟩, .bool false, .slice none 0 0, .int .i64 0, .int .i64 0, .string ⟨#[]⟩, .string ⟨#[]⟩, .bool false, .slice none 0 0, .int .i64 0, .bool false, .int .i64 0, .string ⟨#[]⟩, .string ⟨#[]⟩, .bool false, .slice none 0 0, .int .i64 0, v.a0, v.a1, v.a2, v.a3, v.a4, v.a5, wh.a0, wh.a1, wh.a2, wh.a3, wh.a4, wh.a5, nx.a0, nx.a1, nx.a2, nx.a3, nx.a4, nx.a5, vr, .string ⟨#[]⟩, .slice none 0 0, .slice none 0 0, bd, its, p]
theorem itV_size (kd nm nms : Value) (v wh nx : V6) (vr bd its p : Value) : (itV kd nm nms v wh nx vr bd its p).size = 48 := rfl
theorem build_it0 (w : World) (p : Nat) : (Instr.build 106 #[(17, .int .i64 p)]).run Try.prog w = .ok (.agg (itV (.int .i64 0) (.string ⟨#[]⟩) (.slice none 0 0) z6 z6 z6 (.string ⟨#[]⟩) (.slice none 0 0) (.slice none 0 0) (.int .i64 p))) w := by kernel_rfl
theorem slice_it (w : World) (kd nm nms : Value) (v wh nx : V6) (vr bd its p : Value) : (Instr.buildSlice 57 1 #[(0, .agg (itV kd nm nms v wh nx vr bd its p))]).run Try.prog w = .ok (.slice (some ⟨w.heap.size, 0, none⟩) 1 1) (w.alloc (.cells (itV kd nm nms v wh nx vr bd its p) 106)) := by kernel_rfl
theorem it_size : (Try.prog.info? 106).map (·.size) = some 48 := by kernel_rfl
theorem in_size : (Try.prog.info? 3).map (·.size) = some 1 := by kernel_rfl
theorem str_size : (Try.prog.info? 9).map (·.size) = some 1 := by kernel_rfl
theorem boo_size : (Try.prog.info? 4).map (·.size) = some 1 := by kernel_rfl
theorem sstr_size : (Try.prog.info? 99).map (·.size) = some 1 := by kernel_rfl
theorem sit_size : (Try.prog.info? 57).map (·.size) = some 1 := by kernel_rfl
theorem it0_one (p : Nat) : (itV (.int .i64 0) (.string ⟨#[]⟩) (.slice none 0 0) z6 z6 z6 (.string ⟨#[]⟩) (.slice none 0 0) (.slice none 0 0) (.int .i64 p)).all (·.oneCell') = true := by rw [← Array.all_toList]; rfl
theorem z6_dat (w : World) (N : Nat → Prop) : DAt w N zX z6.l := .i (.t (x := []) (.t (x := []) (.b (.s0 (.i (z := 0) .nil)))))
/-- an item's cells hold its data -/
theorem itV_dat {w : World} {N : Nat → Prop} {kd : Int} {nm : List UInt8} {nn : Nat} {nms vl whl nxl : List Dc} {vr : List UInt8} {nb : Nat} {bdl : List Dc} {ni : Nat} {itl : List Dc} {p : Nat} {nmsv bd its : Value} {v wh nx : V6}
    (h1 : DAt w N [.s nn nms] [nmsv]) (h2 : DAt w N vl v.l) (h3 : DAt w N whl wh.l) (h4 : DAt w N nxl nx.l) (h5 : DAt w N [.s nb bdl] [bd]) (h6 : DAt w N [.s ni itl] [its]) :
    DAt w N (itD kd nm nn nms vl whl nxl vr nb bdl ni itl p) (itV (.int .i64 kd) (.string (S nm)) nmsv v wh nx (.string (S vr)) bd its (.int .i64 p)).toList := by
  unfold itD
  simp only [List.append_assoc]
  exact .i (.t (h1.app (.b ((z6_dat w N).app ((z6_dat w N).app (.b ((z6_dat w N).app (h2.app (h3.app (h4.app (.t (.t (x := []) (.s0 (.s0 (h5.app (h6.app (.i .nil)))))))))))))))))
theorem all_one {w : World} {N : Nat → Prop} {x : List Dc} {c : Array Value} (h : DAt w N x c.toList) : c.all (·.oneCell') = true := Array.all_eq_true_iff_forall_mem.2 fun u hu => h.one u (by simpa using hu)
/-- what reading an item comes to -/
def ItR (b g cap : Nat) (l : List Tok) (w : World) (x : List Dc) (k : Nat) (e : Ending) (w' : World) : Prop :=
  (∃ kd nm nms v wh nx vr bd its p, e = .returned (.agg (itV kd nm nms v wh nx vr bd its p)) ∧ DAt w' (Ge w.heap.size) x (itV kd nm nms v wh nx vr bd its p).toList) ∧ Rq b g cap l k w' ∧ Kp b w w'
theorem last2 (w : World) (o o2 : Obj) : ((w.alloc o).alloc o2).heap[w.heap.size + 1]? = some o2 := by
  show ((w.heap.push _).push _)[w.heap.size + 1]? = _
  rw [Array.getElem?_push, if_pos (by simp)]
theorem last1 (w : World) (o o2 : Obj) : ((w.alloc o).alloc o2).heap[w.heap.size]? = some o := by
  show ((w.heap.push _).push _)[w.heap.size]? = _
  rw [Array.getElem?_push, if_neg (by simp), Array.getElem?_push, if_pos rfl]
end Go.Proofs.Ytpnhefjiobnelaa

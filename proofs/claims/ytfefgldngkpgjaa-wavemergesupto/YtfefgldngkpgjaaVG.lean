/- Layer 18: what is merged (the document's). -/
import Derived.Test.YtfefgldngkpgjaaVV
import Derived.Deep.RegionHeld3
namespace Go.Proofs.Ytfefgldngkpgjaa
set_option maxRecDepth 100000
open Go.RowKit Lg Nl Go.Maps Wf
set_option linter.unusedVariables false
set_option linter.unusedSimpArgs false

def stepF (c : Ch) (p : List Ch × Bool) (o : Ch) : List Ch × Bool := if !p.2 && ahB c o then (p.1 ++ [c] ++ [o], true) else (p.1 ++ [o], p.2)
def insF (c : Ch) (l : List Ch) : List Ch × Bool := l.foldl (stepF c) ([], false)
theorem insF_take (c : Ch) (l : List Ch) (j : Nat) (h : j < l.length) : insF c (l.take (j + 1)) = stepF c (insF c (l.take j)) (cA l j) := by
  unfold insF
  rw [List.take_add_one, List.getElem?_eq_getElem h, List.foldl_append, cA_at h]
  rfl
theorem foldF_t (c : Ch) : ∀ (l p : List Ch), l.foldl (stepF c) (p, true) = (p ++ l, true)
  | [], p => by simp
  | o :: os, p => by
    show os.foldl (stepF c) (stepF c (p, true) o) = _
    rw [show stepF c (p, true) o = (p ++ [o], true) from rfl, foldF_t c os]
    simp
theorem insL_cons (c o : Ch) (os : List Ch) : insL c (o :: os) = if ahB c o then c :: o :: os else o :: insL c os := rfl
theorem foldF_f (c : Ch) : ∀ (l p : List Ch), (if (l.foldl (stepF c) (p, false)).2 then (l.foldl (stepF c) (p, false)).1 else (l.foldl (stepF c) (p, false)).1 ++ [c]) = p ++ insL c l
  | [], p => by simp [insL]
  | o :: os, p => by
    show (if (os.foldl (stepF c) (stepF c (p, false) o)).2 then (os.foldl (stepF c) (stepF c (p, false) o)).1 else (os.foldl (stepF c) (stepF c (p, false) o)).1 ++ [c]) = _
    by_cases e : ahB c o = true
    · have e1 : stepF c (p, false) o = (p ++ [c] ++ [o], true) := by unfold stepF; rw [e]; rfl
      rw [e1, foldF_t, insL_cons, if_pos e]
      simp
    · have e0 : ahB c o = false := by simpa using e
      have e1 : stepF c (p, false) o = (p ++ [o], false) := by unfold stepF; rw [e0]; rfl
      rw [e1, foldF_f c os, insL_cons, if_neg e]
      simp
theorem insF_all (c : Ch) (l : List Ch) : (if (insF c l).2 then (insF c l).1 else (insF c l).1 ++ [c]) = insL c l := by
  have h := foldF_f c l []
  rw [List.nil_append] at h
  exact h
theorem foldF_len (c : Ch) : ∀ (l p : List Ch) (b : Bool), (l.foldl (stepF c) (p, b)).1.length ≤ p.length + l.length + 1
  | [], p, b => by simp
  | o :: os, p, b => by
    show (os.foldl (stepF c) (stepF c (p, b) o)).1.length ≤ _
    by_cases e : (!b && ahB c o) = true
    · have e1 : stepF c (p, b) o = (p ++ [c] ++ [o], true) := by unfold stepF; rw [if_pos e]
      rw [e1, foldF_t]
      simp
      omega
    · have e1 : stepF c (p, b) o = (p ++ [o], b) := by unfold stepF; rw [if_neg e]
      rw [e1]
      have := foldF_len c os (p ++ [o]) b
      simp at this ⊢
      omega
theorem insF_len (c : Ch) (l : List Ch) : (insF c l).1.length ≤ l.length + 1 := by
  have := foldF_len c l [] false
  rw [List.length_nil, Nat.zero_add] at this
  exact this
theorem mrg_app (a l m : List Ch) : mrgL a (l ++ m) = mrgL (mrgL a l) m := by unfold mrgL; rw [List.foldl_append]
theorem mrg_snoc (a l : List Ch) (c : Ch) : mrgL a (l ++ [c]) = insL c (mrgL a l) := by rw [mrg_app]; rfl
theorem flat_take {ps : List (List Ch)} {i : Nat} (h : i < ps.length) : (ps.take (i + 1)).flatten = (ps.take i).flatten ++ ps[i] := by
  rw [List.take_add_one, List.getElem?_eq_getElem h, List.flatten_append]
  show _ ++ [ps[i]].flatten = _
  rw [List.flatten_singleton]
theorem flat_le {ps : List (List Ch)} {i : Nat} (h : i < ps.length) : (ps.take i).flatten.length + ps[i].length ≤ ps.flatten.length := by
  have h1 : ps.flatten = (ps.take (i + 1)).flatten ++ (ps.drop (i + 1)).flatten := by rw [← List.flatten_append, List.take_append_drop]
  have h2 : ps.flatten.length = ((ps.take (i + 1)).flatten ++ (ps.drop (i + 1)).flatten).length := by rw [← h1]
  rw [List.length_append, flat_take h, List.length_append] at h2
  omega
theorem take_snoc {p : List Ch} {k : Nat} (h : k < p.length) : p.take (k + 1) = p.take k ++ [cA p k] := by
  rw [List.take_add_one, List.getElem?_eq_getElem h, cA_at h]; rfl
theorem app_m1 {n m : Nat} (h : n = m) (hm : m ≤ 305) : n + 1 ≤ maxLen := by unfold maxLen; omega
theorem app_m2 {n m : Nat} (h : n = m) (hm : m ≤ 305) : (n + 1) * 32 ≤ 140737488355328 := by omega
theorem PsAt.at_ {w : World} {ao : Option Addr} {n cap : Nat} {ps : List (List Ch)} (h : PsAt w (.slice ao n cap) ps) (i : Nat) (hi : i < ps.length) : ∃ g o u cu, ao = some ⟨g, o, none⟩ ∧ g < w.heap.size ∧ w.cell? ⟨g, o + i, none⟩ = some (.slice u ps[i].length cu) ∧ ChAt w (.slice u ps[i].length cu) ps[i] := by
  obtain ⟨ao', cap', e, hc, h⟩ := h
  injection e with e1 e2 e3
  subst e1
  rcases h with h | ⟨g, o, rfl, hg, h⟩
  · subst h; simp at hi
  · obtain ⟨u, h1, h2⟩ := h i hi
    have h3 := h2
    obtain ⟨ua, cu, rfl, _, _⟩ := h2
    exact ⟨g, o, ua, cu, rfl, hg, h1, h3⟩
/-- a row of changes of one's own, at its place -/
theorem own_ch {W : World} {B g n c : Nat} {l : List Ch} (h : W.ownsRow B 46 3 (.slice (some ⟨g, 0, none⟩) n c) n (chs l)) (hn : n = l.length) (j : Nat) (hj : j < n) : W.cell? ⟨g, j * 3, none⟩ = some (.int .i64 (cA l j).t) ∧ W.cell? ⟨g, j * 3 + 1, none⟩ = some (.int .i64 (cA l j).n) ∧ W.cell? ⟨g, j * 3 + 2, none⟩ = some (.string (cA l j).v) := by
  have hj' : j < l.length := by omega
  rw [cA_at hj']
  exact ⟨by rw [h.cellAt (j * 3) (by omega)]; exact chs_at l j hj' 0 _ rfl, by rw [h.cellAt (j * 3 + 1) (by omega)]; exact chs_at l j hj' 1 _ rfl, by rw [h.cellAt (j * 3 + 2) (by omega)]; exact chs_at l j hj' 2 _ rfl⟩
theorem snoc_own {W : World} {B g n c : Nat} {l : List Ch} {y : Ch} (h : W.ownsRow B 46 3 (.slice (some ⟨g, 0, none⟩) (n + 1) c) (n + 1) (chs l ++ chC y)) : W.ownsRow B 46 3 (.slice (some ⟨g, 0, none⟩) (n + 1) c) (n + 1) (chs (l ++ [y])) := by
  rw [chs_app]; simpa [chs] using h
theorem snoc2 {W : World} {B g n c : Nat} {l : List Ch} {y z : Ch} (h : W.ownsRow B 46 3 (.slice (some ⟨g, 0, none⟩) (n + 1) c) (n + 1) (chs l ++ chC y ++ chC z)) : W.ownsRow B 46 3 (.slice (some ⟨g, 0, none⟩) (n + 1) c) (n + 1) (chs (l ++ [y]) ++ chC z) := by
  have e : chs (l ++ [y]) = chs l ++ chC y := by rw [chs_app]; simp [chs]
  rw [e]; exact h
theorem Gw {w W W' : World} {row : Option Nat} {B : Nat} (h : Below B w W) (hs : B ≤ W.heap.size) (hg : W.grownBy W' row) (hr : ∀ g, row = some g → B ≤ g) (hB : B = w.heap.size) : Below w.heap.size w W' := by subst hB; exact Gb h hg hr
set_option maxHeartbeats 4000000 in
set_option maxRecDepth 1000000 in
theorem merged_c (ps : List (List Ch)) (v : Value) (w : World) (hp : PsAt w v ps) (hl : ps.flatten.length ≤ 300) (hn : ps.length ≤ 140737488355328) : Calls Try.prog 20 #[v] w fun e w' => ∃ a c, e = .returned (.slice a (mergeL ps).length c) ∧ Hid (w'.ownsRow w.heap.size 46 3 (.slice a (mergeL ps).length c) (mergeL ps).length (chs (mergeL ps))) ∧ Hid (Below w.heap.size w w') := by
  have HL : Hid (ps.flatten.length ≤ 300 ∧ ps.length ≤ 140737488355328) := ⟨hl, hn⟩
  have HPs : Hid (PsAt w v ps) := hp
  obtain ⟨ao, cap, rfl, _, _⟩ := hp
  clear hl hn
  obtain ⟨jj, hjj⟩ := infoCh
  have HJ : Hid (Try.prog.info? 46 = some jj ∧ jj.zero = some (.agg #[.int .i64 0, .int .i64 0, .string ⟨#[]⟩]) ∧ jj.size = 3 ∧ jj.bytes = 32) := hjj
  clear hjj
  go_enter Try.func20, Try.ntmps20
  go_wp2_with fail
  go_loopg [3, 4] ps.length (fun g s3 s4 wr => ∃ (i : Nat) (a : Option Addr) (n c : Nat), i ≤ ps.length ∧ g = ps.length - i ∧ s3 = .slice a n c ∧ s4 = .int .i64 i ∧ Hid (n = (mrgL [] (ps.take i).flatten).length) ∧ Hid (wr.ownsRow w.heap.size 46 3 (.slice a n c) n (chs (mrgL [] (ps.take i).flatten))) ∧ Hid (Below w.heap.size w wr))
  case atStart => exact ⟨0, none, 0, 0, Nat.zero_le _, rfl, rfl, rfl, rfl, World.ownsRow_nil _ _ _ _, Below.refl _ _⟩
  case round =>
    obtain ⟨i, a, n, c, hi, rfl, rfl, rfl, HN, HO, HB⟩ := hrel
    obtain ⟨wx, hwx⟩ : ∃ wx, wx = wr := ⟨_, rfl⟩
    rw [← hwx] at HO HB ⊢
    clear hwx
    by_cases hin : i < ps.length
    · have HI : Hid (i < ps.length) := hin
      obtain ⟨gp, op, u, cu, hao, hgp, ep, HU⟩ := (HPs.out).at_ i hin
      subst hao
      have HEp : Hid (w.cell? ⟨gp, op + i, none⟩ = some (.slice u ps[i].length cu)) := ep
      have HUw : Hid (ChAt w (.slice u ps[i].length cu) ps[i]) := HU
      have HGp : Hid (gp < w.heap.size) := hgp
      have i0 : (0 : Int) ≤ (i : Int) := by omega
      have i1 : (i : Int) < (ps.length : Int) := by omega
      have HFl : Hid ((ps.take i).flatten.length + ps[i].length ≤ 300) := Nat.le_trans (flat_le hin) HL.out.1
      have HNx : Hid ((ps.take (i + 1)).flatten = (ps.take i).flatten ++ ps[i]) := flat_take hin
      clear ep HU hgp
      obtain ⟨p, hpe⟩ : ∃ p, p = ps[i] := ⟨_, rfl⟩
      rw [← hpe] at HEp HUw HFl HNx
      clear hpe
      obtain ⟨F, hF⟩ : ∃ F, F = (ps.take i).flatten := ⟨_, rfl⟩
      rw [← hF] at HN HO HFl HNx
      clear hF
      go_wp2_with fail
      go_loopg [3, 5] p.length (fun g s3 s5 wr => ∃ (k : Nat) (a : Option Addr) (n c : Nat), k ≤ p.length ∧ g = p.length - k ∧ s3 = .slice a n c ∧ s5 = .int .i64 k ∧ Hid (n = (mrgL [] (F ++ p.take k)).length) ∧ Hid (wr.ownsRow w.heap.size 46 3 (.slice a n c) n (chs (mrgL [] (F ++ p.take k)))) ∧ Hid (Below w.heap.size w wr))
      case atStart => exact ⟨0, a, n, c, Nat.zero_le _, rfl, rfl, rfl, by rw [List.take_zero, List.append_nil]; exact HN.out, by rw [List.take_zero, List.append_nil]; exact HO.out, HB.out⟩
      case round =>
        clear HN HO HB
        obtain ⟨k, a, n, c, hk, rfl, rfl, rfl, HN, HO, HB⟩ := hrel
        obtain ⟨wq, hwq⟩ : ∃ wq, wq = wr := ⟨_, rfl⟩
        rw [← hwq] at HO HB ⊢
        clear hwq
        have ep := (HB.out.cell (p := ⟨gp, op + i, none⟩) HGp.out).trans HEp.out
        by_cases hkn : k < p.length
        · obtain ⟨gl, ol, hul, hgl, c0, c1, c2⟩ := (HUw.out.below HB.out).at_ k hkn
          subst hul
          have k0 : (0 : Int) ≤ (k : Int) := by omega
          have k1 : (k : Int) < (p.length : Int) := by omega
          have HSn : Hid (mrgL [] (F ++ p.take (k + 1)) = insL (cA p k) (mrgL [] (F ++ p.take k))) := by rw [take_snoc hkn, ← List.append_assoc, mrg_snoc]; exact rfl
          have HLe : Hid ((mrgL [] (F ++ p.take k)).length ≤ 300) := by rw [mrg_len]; show _ ≤ _; have := HFl.out; simp; omega
          generalize cA p k = y at *
          obtain ⟨yt, yn, yv⟩ := y
          simp only at c0 c1 c2
          obtain ⟨M, hM⟩ : ∃ M, M = mrgL [] (F ++ p.take k) := ⟨_, rfl⟩
          rw [← hM] at HN HO HSn HLe
          clear hM
          obtain ⟨W1, hW1⟩ : ∃ W1, W1 = wq.alloc (.cells #[.int .i64 yt, .int .i64 yn, .string yv] 46) := ⟨_, rfl⟩
          have HB1 : Hid (Below wq.heap.size wq W1) := by rw [hW1]; exact belA (Below.refl _ _) _
          have HF1 : Hid (W1.heap[wq.heap.size]? = some (.cells #[.int .i64 yt, .int .i64 yn, .string yv] 46 (0, 0))) := by rw [hW1]; exact alAt rfl
          have HO1 : Hid (W1.ownsRow w.heap.size 46 3 (.slice a n c) n (chs M)) := by rw [hW1]; exact HO.out.alloc _
          go_upto_region 9 with fail
          rw [← hW1]
          clear hW1 c0 c1 c2
          obtain ⟨C, hC⟩ : ∃ C, C = wq.heap.size := ⟨_, rfl⟩
          rw [← hC] at HF1 ⊢
          clear hC
          have lC := hLt HF1.out
          have HBw1 : Hid (Below w.heap.size w W1) := bel HB.out HB1.out
          clear HB1 HO ep
          go_wp2_with fail
          go_loopg [7, 8, 9] n (fun g s7 s8 s9 wr => ∃ (j : Nat) (a7 : Option Addr) (n7 c7 : Nat), j ≤ n ∧ g = n - j ∧ s7 = .slice a7 n7 c7 ∧ s8 = .bool (insF ⟨yt, yn, yv⟩ (M.take j)).2 ∧ s9 = .int .i64 j ∧ Hid (n7 = (insF ⟨yt, yn, yv⟩ (M.take j)).1.length) ∧ Hid (wr.ownsRow W1.heap.size 46 3 (.slice a7 n7 c7) n7 (chs (insF ⟨yt, yn, yv⟩ (M.take j)).1)) ∧ Hid (Below W1.heap.size W1 wr))
          case atStart => exact ⟨0, none, 0, 0, Nat.zero_le _, rfl, rfl, rfl, rfl, rfl, World.ownsRow_nil _ _ _ _, Below.refl _ _⟩
          case round =>
            obtain ⟨j, a7, n7, c7, hj, rfl, rfl, rfl, rfl, HN7, HO7, HB7⟩ := hrel
            obtain ⟨wz, hwz⟩ : ∃ wz, wz = wr := ⟨_, rfl⟩
            rw [← hwz] at HO7 HB7 ⊢
            clear hwz
            obtain ⟨e0, e1, e2⟩ := cells3n ((HB7.out.block C lC).trans HF1.out)
            have lCz := Nat.lt_of_lt_of_le lC HB7.out.size
            by_cases hjn : j < n
            · obtain ⟨go, hgo⟩ := own_some HO1.out (by omega)
              subst hgo
              have HOz : Hid (wz.ownsRow w.heap.size 46 3 (.slice (some ⟨go, 0, none⟩) n c) n (chs M)) := own_at2 HO1.out fun b hb => HB7.out.block b (HO1.out.lt b hb).2
              obtain ⟨o0, o1, o2⟩ := own_ch HOz.out HN.out j hjn
              have lgo := (HOz.out.lt go rfl).2
              have j0 : (0 : Int) ≤ (j : Int) := by omega
              have j1 : (j : Int) < (n : Int) := by omega
              have HSt : Hid (insF ⟨yt, yn, yv⟩ (M.take (j + 1)) = stepF ⟨yt, yn, yv⟩ (insF ⟨yt, yn, yv⟩ (M.take j)) (cA M j)) := insF_take _ M j (by rw [← HN.out]; exact hjn)
              have HLi : Hid ((insF ⟨yt, yn, yv⟩ (M.take j)).1.length ≤ 302) := Nat.le_trans (insF_len _ _) (by have := HLe.out; simp; omega)
              have HC1 : Hid (∀ X, Below W1.heap.size W1 X → X.cell? ⟨go, j * 3, none⟩ = some (.int .i64 (cA M j).t) ∧ X.cell? ⟨go, j * 3 + 1, none⟩ = some (.int .i64 (cA M j).n) ∧ X.cell? ⟨go, j * 3 + 2, none⟩ = some (.string (cA M j).v) ∧ go < X.heap.size) := fun X hX => by
                have h := own_at2 (w' := X) HO1.out fun b hb => hX.block b (HO1.out.lt b hb).2
                obtain ⟨h1, h2, h3⟩ := own_ch h HN.out j hjn
                exact ⟨h1, h2, h3, (h.lt go rfl).2⟩
              generalize cA M j = z at *
              obtain ⟨zt, zn, zv⟩ := z
              simp only at o0 o1 o2
              obtain ⟨q, hq⟩ : ∃ q, q = (insF ⟨yt, yn, yv⟩ (M.take j)).1 := ⟨_, rfl⟩
              obtain ⟨d, hd⟩ : ∃ d, d = (insF ⟨yt, yn, yv⟩ (M.take j)).2 := ⟨_, rfl⟩
              have HQ : Hid (insF ⟨yt, yn, yv⟩ (M.take j) = (q, d)) := by rw [hq, hd]; exact rfl
              rw [← hq] at HN7 HO7 HLi
              rw [← hd]
              clear hq hd
              rw [HQ.out] at HSt
              obtain ⟨bb, hbb⟩ : ∃ bb, bb = (!d && ahB ⟨yt, yn, yv⟩ ⟨zt, zn, zv⟩) := ⟨_, rfl⟩
              have HSb : Hid (insF ⟨yt, yn, yv⟩ (M.take (j + 1)) = if bb then (q ++ [⟨yt, yn, yv⟩] ++ [⟨zt, zn, zv⟩], true) else (q ++ [⟨zt, zn, zv⟩], d)) := by rw [HSt.out, hbb]; exact rfl
              have HBb : Hid (bb = (!d && ahB ⟨yt, yn, yv⟩ ⟨zt, zn, zv⟩)) := hbb
              clear HSt HQ hbb
              go_upto_region 14 with fail
              go_cut [47] from 38 to 47 (fun s47 wy => s47 = .bool bb ∧ Hid (Below wz.heap.size wz wy))
              case first =>
                cases d with
                | false =>
                  go_region_held3 (fun w' => w'.cell? ⟨C, 0, none⟩ = some (.int .i64 yt) ∧ w'.cell? ⟨C, 1, none⟩ = some (.int .i64 yn) ∧ w'.cell? ⟨C, 2, none⟩ = some (.string yv) ∧ w'.cell? ⟨go, j * 3, none⟩ = some (.int .i64 zt) ∧ w'.cell? ⟨go, j * 3 + 1, none⟩ = some (.int .i64 zn) ∧ w'.cell? ⟨go, j * 3 + 2, none⟩ = some (.string zv)) (go_keep) (first
                    | (go_at_call 25; refine (ahead_c ⟨yt, yn, yv⟩ ⟨zt, zn, zv⟩ _).mono ?_; rintro e w5 ⟨rfl, hb5⟩; have e0' := (hb5.cell (p := ⟨C, 0, none⟩) lCz).trans e0; have e1' := (hb5.cell (p := ⟨C, 1, none⟩) lCz).trans e1; have e2' := (hb5.cell (p := ⟨C, 2, none⟩) lCz).trans e2; have o0' := (hb5.cell (p := ⟨go, j * 3, none⟩) lgo).trans o0; have o1' := (hb5.cell (p := ⟨go, j * 3 + 1, none⟩) lgo).trans o1; have o2' := (hb5.cell (p := ⟨go, j * 3 + 2, none⟩) lgo).trans o2))
                  all_goals (
                    go_wp2_with fail
                    go_meet
                    exact ⟨by rw [HBb.out]; exact rfl, (Below.refl _ _).drew.trans hb5⟩)
                | true =>
                  have HBf : Hid (bb = false) := by rw [HBb.out]; exact rfl
                  go_quiet (fail)
                  go_wp2_with fail
                  go_meet
                  exact ⟨by rw [HBf.out], bdn (Below.refl _ _) _⟩
              case rest =>
                obtain ⟨rfl, HBc⟩ := hcut
                have HBc1 : Hid (Below W1.heap.size W1 wc) := bel HB7.out HBc.out
                have HOc : Hid (wc.ownsRow W1.heap.size 46 3 (.slice a7 n7 c7) n7 (chs q)) := own_at2 HO7.out fun b hb => HBc.out.block b (HO7.out.lt b hb).2
                clear e0 e1 e2 o0 o1 o2 lgo lCz HBc HO7 HOz
                obtain ⟨e0, e1, e2⟩ := cells3n ((HBc1.out.block C lC).trans HF1.out)
                obtain ⟨o0, o1, o2, lgo⟩ := HC1.out wc HBc1.out
                simp only at o0 o1 o2
                have lCc := Nat.lt_of_lt_of_le lC HBc1.out.size
                cases bb with
                | true =>
                  rw [if_pos rfl] at HSb
                  go_wp2_with (first
                    | (at_builtin; refine wpList_append_own_at _ rfl _ _ 24 rfl W1.heap.size 46 jj _ 3 32 Try.underlying24 HJ.out.1 HJ.out.2.1 HJ.out.2.2.1 HJ.out.2.2.2 rfl (by decide) _ (n7 + 1) (chs q ++ chC ⟨yt, yn, yv⟩) rfl (HO8.out.alloc _) ⟨w8.heap.size, 0, none⟩ 1 1 [.int .i64 zt, .int .i64 zn, .string zv] rfl rfl (fun j u hj => new3 _ ⟨zt, zn, zv⟩ 46 _ rfl j u hj) (one3 ⟨zt, zn, zv⟩) (app_m1 (congrArg (· + 1) HN7.out) (by have := HLi.out; show _ + 1 ≤ 305; omega)) (app_m2 (congrArg (· + 1) HN7.out) (by have := HLi.out; show _ + 1 ≤ 305; omega)) (Nat.le_trans HBl8.out.size (by simp)) ?_; intro v9 w9 hown9 hgrow9 hnil9 hloc9; obtain ⟨g9, c9, rfl⟩ := own_slice1 hown9; have HO9 : Hid (w9.ownsRow W1.heap.size 46 3 (.slice (some ⟨g9, 0, none⟩) ((n7 + 1) + 1) c9) ((n7 + 1) + 1) ((chs q ++ chC ⟨yt, yn, yv⟩) ++ chC ⟨zt, zn, zv⟩)) := hown9; have HG9 := hgrow9; have HG9 : Hid _ := HG9; clear hown9 hgrow9 hnil9 hloc9)
                    | (at_builtin; refine wpList_append_own_at _ rfl _ _ 24 rfl W1.heap.size 46 jj _ 3 32 Try.underlying24 HJ.out.1 HJ.out.2.1 HJ.out.2.2.1 HJ.out.2.2.2 rfl (by decide) _ n7 (chs q) rfl (HOc.out.alloc _) ⟨wc.heap.size, 0, none⟩ 1 1 [.int .i64 yt, .int .i64 yn, .string yv] rfl rfl (fun j u hj => new3 _ ⟨yt, yn, yv⟩ 46 _ rfl j u hj) (one3 ⟨yt, yn, yv⟩) (app_m1 HN7.out (Nat.le_trans HLi.out (by decide))) (app_m2 HN7.out (Nat.le_trans HLi.out (by decide))) (Nat.le_trans HBc1.out.size (by simp)) ?_; intro v8 w8 hown8 hgrow8 hnil8 hloc8; obtain ⟨g8, c8, rfl⟩ := own_slice1 hown8; have HO8 : Hid (w8.ownsRow W1.heap.size 46 3 (.slice (some ⟨g8, 0, none⟩) (n7 + 1) c8) (n7 + 1) ((chs q) ++ chC ⟨yt, yn, yv⟩)) := hown8; have HG8 := hgrow8; have HG8 : Hid _ := HG8; clear hown8 hgrow8 hnil8 hloc8; have HBl8 : Hid (Below W1.heap.size W1 w8) := Gb (belA HBc1.out _) HG8.out (fun g e => (HOc.out.lt g e).1); obtain ⟨o0', o1', o2', lgo'⟩ := HC1.out w8 HBl8.out; simp only at o0' o1' o2'))
                  go_roundg (n - (j + 1))
                  case measure => omega
                  case rel =>
                    refine ⟨j + 1, some ⟨g9, 0, none⟩, n7 + 1 + 1, c9, hjn, rfl, rfl, by rw [HSb.out], wrap_succ hjn (by have := HLe.out; have := HN.out; omega), ?_, ?_, ?_⟩
                    · rw [HSb.out]; show n7 + 1 + 1 = (q ++ [_] ++ [_]).length; rw [List.length_append, List.length_append, ← HN7.out]; rfl
                    · rw [HSb.out]; exact snoc_own (snoc2 HO9.out)
                    · exact Gb (belA HBl8.out _) HG9.out (fun g e => (HO8.out.lt g e).1)
                | false =>
                  rw [if_neg (by decide)] at HSb
                  go_wp2_with (first
                    | (at_builtin; refine wpList_append_own_at _ rfl _ _ 24 rfl W1.heap.size 46 jj _ 3 32 Try.underlying24 HJ.out.1 HJ.out.2.1 HJ.out.2.2.1 HJ.out.2.2.2 rfl (by decide) _ n7 (chs q) rfl (HOc.out.alloc _) ⟨wc.heap.size, 0, none⟩ 1 1 [.int .i64 zt, .int .i64 zn, .string zv] rfl rfl (fun j u hj => new3 _ ⟨zt, zn, zv⟩ 46 _ rfl j u hj) (one3 ⟨zt, zn, zv⟩) (app_m1 HN7.out (Nat.le_trans HLi.out (by decide))) (app_m2 HN7.out (Nat.le_trans HLi.out (by decide))) (Nat.le_trans HBc1.out.size (by simp)) ?_; intro v9 w9 hown9 hgrow9 hnil9 hloc9; obtain ⟨g9, c9, rfl⟩ := own_slice1 hown9; have HO9 : Hid (w9.ownsRow W1.heap.size 46 3 (.slice (some ⟨g9, 0, none⟩) (n7 + 1) c9) (n7 + 1) ((chs q) ++ chC ⟨zt, zn, zv⟩)) := hown9; have HG9 := hgrow9; have HG9 : Hid _ := HG9; clear hown9 hgrow9 hnil9 hloc9))
                  go_roundg (n - (j + 1))
                  case measure => omega
                  case rel =>
                    refine ⟨j + 1, some ⟨g9, 0, none⟩, n7 + 1, c9, hjn, rfl, rfl, by rw [HSb.out], wrap_succ hjn (by have := HLe.out; have := HN.out; omega), ?_, ?_, ?_⟩
                    · rw [HSb.out]; show n7 + 1 = (q ++ [_]).length; rw [List.length_append, ← HN7.out]; rfl
                    · rw [HSb.out]; exact snoc_own HO9.out
                    · exact Gb (belA HBc1.out _) HG9.out (fun g e => (HOc.out.lt g e).1)
            · have i6 : ¬ (j : Int) < (n : Int) := by omega
              have htk : M.take j = M := List.take_of_length_le (by have := HN.out; omega)
              rw [htk] at HO7 HN7 ⊢
              clear hjn htk
              have HAll := insF_all ⟨yt, yn, yv⟩ M
              have HAll : Hid _ := HAll
              have HLi : Hid ((insF ⟨yt, yn, yv⟩ M).1.length ≤ 302) := Nat.le_trans (insF_len _ _) (by have := HLe.out; omega)
              obtain ⟨q, hq⟩ : ∃ q, q = (insF ⟨yt, yn, yv⟩ M).1 := ⟨_, rfl⟩
              obtain ⟨d, hd⟩ : ∃ d, d = (insF ⟨yt, yn, yv⟩ M).2 := ⟨_, rfl⟩
              have HAl : Hid ((if d then q else q ++ [⟨yt, yn, yv⟩]) = insL ⟨yt, yn, yv⟩ M) := by rw [hq, hd]; exact HAll.out
              rw [← hq] at HN7 HO7 HLi
              rw [← hd]
              clear hq hd HAll
              cases d with
              | true =>
                rw [if_pos rfl] at HAl
                go_wp2_with fail
                go_roundg (p.length - (k + 1))
                case measure => omega
                case rel =>
                  refine ⟨k + 1, a7, n7, c7, hkn, rfl, rfl, wrap_succ hkn (by have := HFl.out; omega), ?_, ?_, ?_⟩
                  · rw [HSn.out, ← HAl.out]; exact HN7.out
                  · rw [HSn.out, ← HAl.out]; exact own_lo HO7.out HBw1.out.size
                  · exact bel HBw1.out HB7.out
              | false =>
                rw [if_neg (by decide)] at HAl
                go_wp2_with (first
                  | (at_builtin; refine wpList_append_own_at _ rfl _ _ 24 rfl W1.heap.size 46 jj _ 3 32 Try.underlying24 HJ.out.1 HJ.out.2.1 HJ.out.2.2.1 HJ.out.2.2.2 rfl (by decide) _ n7 (chs q) rfl (HO7.out.alloc _) ⟨wz.heap.size, 0, none⟩ 1 1 [.int .i64 yt, .int .i64 yn, .string yv] rfl rfl (fun j u hj => new3 _ ⟨yt, yn, yv⟩ 46 _ rfl j u hj) (one3 ⟨yt, yn, yv⟩) (app_m1 HN7.out (Nat.le_trans HLi.out (by decide))) (app_m2 HN7.out (Nat.le_trans HLi.out (by decide))) (Nat.le_trans HB7.out.size (by simp)) ?_; intro v9 w9 hown9 hgrow9 hnil9 hloc9; obtain ⟨g9, c9, rfl⟩ := own_slice1 hown9; have HO9 : Hid (w9.ownsRow W1.heap.size 46 3 (.slice (some ⟨g9, 0, none⟩) (n7 + 1) c9) (n7 + 1) ((chs q) ++ chC ⟨yt, yn, yv⟩)) := hown9; have HG9 := hgrow9; have HG9 : Hid _ := HG9; clear hown9 hgrow9 hnil9 hloc9))
                go_roundg (p.length - (k + 1))
                case measure => omega
                case rel =>
                  refine ⟨k + 1, some ⟨g9, 0, none⟩, n7 + 1, c9, hkn, rfl, rfl, wrap_succ hkn (by have := HFl.out; omega), ?_, ?_, ?_⟩
                  · rw [HSn.out, ← HAl.out]; show n7 + 1 = (q ++ [_]).length; rw [List.length_append, ← HN7.out]; rfl
                  · rw [HSn.out, ← HAl.out]; exact own_lo (snoc_own HO9.out) HBw1.out.size
                  · exact bel HBw1.out (Gb (belA HB7.out _) HG9.out (fun g e => (HO7.out.lt g e).1))
        · have i5 : ¬ (k : Int) < (p.length : Int) := by omega
          have htk : p.take k = p := List.take_of_length_le (by omega)
          rw [htk] at HO HN
          clear hkn htk
          go_wp2_with fail
          go_roundg (ps.length - (i + 1))
          case measure => have := HI.out; omega
          case rel => exact ⟨i + 1, a, n, c, HI.out, rfl, rfl, wrap_succ HI.out HL.out.2, by rw [HNx.out]; exact HN.out, by rw [HNx.out]; exact HO.out, HB.out⟩
    · have i5 : ¬ (i : Int) < (ps.length : Int) := by omega
      have htk : ps.take i = ps := List.take_of_length_le (by omega)
      rw [htk] at HO HN
      clear hin htk
      go_wp2_with fail
      go_ret
      have hN : n = (mergeL ps).length := HN.out
      rw [← hN]
      exact ⟨a, c, rfl, HO.out, HB.out⟩
end Go.Proofs.Ytfefgldngkpgjaa

/- Layer 18: the library's SortFunc of changes, by their times, then by their nets. -/
import Derived.Test.YtfefgldngkpgjaaVLj
import Derived.Shelf.SlSortCmp.NoneTotal
import Derived.WalkSpells
import Derived.Handy
namespace Go.Proofs.Ytfefgldngkpgjaa
set_option maxRecDepth 100000
open Go.RowKit Lg Nl Go.Maps Wf Go.Shelf Go.Sort
set_option linter.unusedVariables false
set_option linter.unusedSimpArgs false

theorem isNaNv_c (x : Int) (w : World) : Calls Try.prog 50 #[.int .i64 x] w fun e w' => e = .returned (.bool false) ∧ w' = w := by
  have h : (x != x) = false := by simp
  go_enter Try.func50, Try.ntmps50
  go_wp2
  go_ret
  exact ⟨ret_bool (by simp), rfl⟩
/-- how two numbers stand -/
def cmV (x y : Int) : Int := if x < y then -1 else if y < x then 1 else 0
set_option maxHeartbeats 400000 in
theorem comparev_c (x y : Int) (w : World) : Calls Try.prog 38 #[.int .i64 x, .int .i64 y] w fun e w' => e = .returned (.int .i64 (cmV x y)) ∧ w' = w := by
  go_enter Try.func38, Try.ntmps38
  go_wp2_with (first
    | (go_at_call 50; refine (isNaNv_c _ _).mono ?_; rintro e w' ⟨rfl, rfl⟩))
  all_goals (go_ret; exact ⟨ret_int (by unfold cmV; repeat' split <;> omega), rfl⟩)
/-- the first that isn't 0 -/
def or2 (a b : Int) : Int := if a ≠ 0 then a else b
set_option maxHeartbeats 1000000 in
theorem or2_c (B : Nat) (a b : Int) (w : World) (h0 : w.cell? ⟨B, 0, none⟩ = some (.int .i64 a)) (h1 : w.cell? ⟨B, 1, none⟩ = some (.int .i64 b)) : Calls Try.prog 37 #[.slice (some ⟨B, 0, none⟩) 2 2] w fun e w' => e = .returned (.int .i64 (or2 a b)) ∧ w' = w := by
  go_enter Try.func37, Try.ntmps37
  go_wp2
  go_rounds 3
  all_goals (go_ret; exact ⟨ret_int (by unfold or2; simp_all), rfl⟩)
/-- how two changes stand -/
def cfV (x y : Ch) : Int := or2 (cmV x.t y.t) (cmV x.n y.n)
theorem cf_lt (x y : Ch) : ltOf cfV x y = ahB x y := by
  unfold ltOf cfV ahB or2 cmV
  refine decide_eq_decide.2 ?_
  repeat' split
  all_goals omega
theorem swoV : SWO (ltOf cfV) where
  irrefl x := by rw [cf_lt]; unfold ahB; simp
  trans x y z h1 h2 := by rw [cf_lt] at *; unfold ahB at *; simp at *; omega
  ntrans x y z h1 h2 := by rw [cf_lt] at *; unfold ahB at *; simp at *; omega
set_option maxHeartbeats 2000000 in
theorem merge1_c (x y : Ch) (W : World) : Calls Try.prog 36 #[.agg #[.int .i64 x.t, .int .i64 x.n, .string x.v], .agg #[.int .i64 y.t, .int .i64 y.n, .string y.v]] W fun e w' => e = .returned (.int .i64 (cfV x y)) ∧ ∃ q os', w' = grow (W.drewN q) os' := by
  obtain ⟨xt, xn, xv⟩ := x
  obtain ⟨yt, yn, yv⟩ := y
  simp only
  have HF : Hid (cfV ⟨xt, xn, xv⟩ ⟨yt, yn, yv⟩ = or2 (cmV xt yt) (cmV xn yn)) := rfl
  generalize cfV ⟨xt, xn, xv⟩ ⟨yt, yn, yv⟩ = r at HF ⊢
  obtain ⟨W0, hW0⟩ : ∃ W0, W0 = (W.alloc (.cells #[.int .i64 xt, .int .i64 xn, .string xv] 46)).alloc (.cells #[.int .i64 yt, .int .i64 yn, .string yv] 46) := ⟨_, rfl⟩
  have HX0 : Hid (W0.heap[W.heap.size]? = some (.cells #[.int .i64 xt, .int .i64 xn, .string xv] 46 (0, 0))) := by rw [hW0]; exact (alOld (by simp)).trans (alAt rfl)
  have HY0 : Hid (W0.heap[W.heap.size + 1]? = some (.cells #[.int .i64 yt, .int .i64 yn, .string yv] 46 (0, 0))) := by rw [hW0]; exact alAt (by simp)
  have HG : Hid (∃ os, W0 = grow W os) := ⟨_, by rw [hW0, alloc_eq_grow, alloc_eq_grow, grow_grow]⟩
  go_enter Try.func36, Try.ntmps36
  go_upto_region 1 with fail
  rw [← hW0]
  clear hW0
  obtain ⟨a0, a1, a2⟩ := cells3n HX0.out
  obtain ⟨b0, b1, b2⟩ := cells3n HY0.out
  have lx := hLt HX0.out
  have ly := hLt HY0.out
  generalize W.heap.size + 1 = F at HY0 b0 b1 b2 ly ⊢
  generalize W.heap.size = E at HX0 a0 a1 a2 lx ⊢
  go_region_held (fun w' => w'.cell? ⟨E, 0, none⟩ = some (.int .i64 xt) ∧ w'.cell? ⟨E, 1, none⟩ = some (.int .i64 xn) ∧ w'.cell? ⟨F, 0, none⟩ = some (.int .i64 yt) ∧ w'.cell? ⟨F, 1, none⟩ = some (.int .i64 yn)) (go_keep) (first
    | (go_at_call 38; refine (comparev_c _ _ _).mono ?_; rintro e w' ⟨rfl, rfl⟩)
    | (go_at_call 37; refine (or2_c W0.heap.size (cmV xt yt) (cmV xn yn) _ (by go_simp) (by go_simp)).mono ?_; rintro e w' ⟨rfl, rfl⟩))
  all_goals (
    go_wp2_with fail
    go_ret
    obtain ⟨os, e⟩ := HG.out
    exact ⟨by rw [HF.out]; rfl, 1, _, by rw [e, alloc_eq_grow, grow_grow]; rfl⟩)
theorem cmpV (g n : Nat) (W : World) : @CmpLays Ch inhCh Try.prog 36 #[] chC 3 cfV g 0 n W := by
  letI := inhCh
  intro m os dk hs x y
  exact merge1_c x y _
theorem flat_chs (l : List Ch) (j : Nat) (h : j < l.length * 3) : (chs l)[j]? = some (@GetElem?.getElem! (Array Value) Nat Value _ _ _ (@flatK Ch inhCh chC 3 l.toArray) j) := by
  letI := inhCh
  rw [get_flatK chC 3 l.toArray j (by simpa using h)]
  have h1 : j / 3 < l.length := by omega
  have h2 : (l.toArray[j / 3]!) = l[j / 3] := by rw [getElem!_pos l.toArray (j / 3) (by simpa using h1)]; simp
  rw [h2]
  have h3 : j % 3 < (chC l[j / 3]).length := by show j % 3 < 3; omega
  have h4 := chs_at l (j / 3) h1 (j % 3) _ (List.getElem?_eq_getElem h3)
  rw [show j / 3 * 3 + j % 3 = j from by omega] at h4
  rw [h4, getElem!_pos (chC l[j / 3]) (j % 3) h3]
theorem sort_row (B g n c : Nat) (l : List Ch) (W : World) (h : W.ownsRow B 46 3 (.slice (some ⟨g, 0, none⟩) n c) n (chs l)) (hn : n = l.length) (hb : n ≤ 4398046511000) :
    Calls Try.prog 35 #[.slice (some ⟨g, 0, none⟩) n c, .func (.func 36) #[] #[]] W fun e w' => e = .returned (.tuple #[]) ∧ ∃ l' : List Ch, l'.length = l.length ∧ Hid (l'.Perm l) ∧ Hid (l'.Pairwise fun a b => ahB b a = false) ∧ Hid (w'.ownsRow B 46 3 (.slice (some ⟨g, 0, none⟩) n c) n (chs l')) ∧ Hid (W.grownBy w' (some g)) := by
  letI := inhCh
  subst hn
  have hlt := World.ownsRow.lt h g rfl
  have hH : HoldsK chC 3 W g 0 l.toArray := fun j hj => by
    have hj' : j < l.length * 3 := by simpa using hj
    refine ⟨?_, ?_⟩
    · rw [Nat.zero_add, h.cellAt j hj']
      exact flat_chs l j hj'
    · rw [Nat.zero_add]; exact World.ownsRow.frozenAt h j
  have hcon : Calls Try.prog 35 #[.slice (some ⟨g, 0, none⟩) l.length c, .func (.func 36) #[] #[]] W fun e w' => e = .returned (.tuple #[]) ∧ ∃ d' n os, PermIn 0 l.length l.toArray d' ∧ SortedIn (ltOf cfV) 0 l.length d' ∧ w' = sortWorldK chC 3 W g 0 n d' os := AnyQ.slices_SortFunc Try.sortF 3 Try.isAgg46 Try.sizeOf46 chC (fun _ => rfl) (fun x v hv => one3 x v hv) cfV swoV 36 #[] g 0 c l.toArray W (enters_of Try.func36 (by kernel_rfl) rfl) (cmpV g _ W) hH hlt.2 (by simp; omega)
  refine hcon.mono ?_
  rintro e w' ⟨he, d', m, os, hp, hs, rfl⟩
  have hsz : d'.size = l.length := by have := hp.1; simpa using this
  obtain ⟨_, hor⟩ := h
  rcases hor with ⟨h1, _⟩ | ⟨g', cap, cur, e1, hB, hh, hc1, hc2, hc3, hc4⟩
  · cases h1
  injection e1 with e1 e2 e3
  injection e1 with e1
  injection e1 with e1
  subst e1 e3
  refine ⟨he, d'.toList, by simpa using hsz, ?_, ?_, ?_, ?_⟩
  · have := hp.2.2
    rw [← hsz] at this
    have h2 : (l.toArray.extract 0 d'.size) = l.toArray := by rw [hsz]; simp
    rw [h2] at this
    show List.Perm _ _
    simpa using this
  · refine List.pairwise_iff_getElem.2 fun i j hi hj hij => ?_
    have := hs i j (Nat.zero_le _) hij (by simp at hj; omega)
    rw [cf_lt] at this
    rw [getElem!_pos d' j (by simpa using hj), getElem!_pos d' i (by simpa using hi)] at this
    simpa using this
  · have e0 : (grow (putRowK chC 3 (Sort.ahead W m) g 0 d') os).heap[g]? = some (.cells (putCells id 0 (flatK chC 3 d') cur) 46 (0, 0)) := by
      show ((W.heap.modify g (onCells (putCells id 0 (flatK chC 3 d')))) ++ os)[g]? = _
      rw [Array.getElem?_append_left (by simpa using hlt.2), Array.getElem?_modify, if_pos rfl, hh]
      rfl
    refine ⟨by rw [chs_len]; simp [hsz], Or.inr ⟨g, c, putCells id 0 (flatK chC 3 d') cur, rfl, hB, e0, hc1, hc2, by unfold putCells; rw [Array.size_mapIdx]; exact hc3, ?_⟩⟩
    apply List.ext_getElem?
    intro j
    by_cases hj : j < l.length * 3
    · have hF := flat_chs d'.toList j (by simpa [hsz] using hj)
      rw [hF, List.getElem?_take_of_lt hj]
      unfold putCells
      rw [Array.getElem?_toList, Array.getElem?_mapIdx]
      have hjc : j < cur.size := by rw [hc3]; omega
      rw [Array.getElem?_eq_getElem hjc]
      simp only [Option.map_some]
      rw [if_pos ⟨Nat.zero_le _, by rw [size_flatK, hsz]; omega⟩]
      rfl
    · rw [List.getElem?_eq_none (by rw [List.length_take]; omega), List.getElem?_eq_none (by rw [chs_len]; simp [hsz]; omega)]
  · refine ⟨rfl, rfl, rfl, ?_, fun k hk hne => ?_⟩
    · show W.heap.size ≤ ((W.heap.modify g _) ++ os).size
      simp
    · show ((W.heap.modify g (onCells (putCells id 0 (flatK chC 3 d')))) ++ os)[k]? = _
      rw [Array.getElem?_append_left (by simpa using hk), Array.getElem?_modify, if_neg (fun e => hne (by rw [e]))]
end Go.Proofs.Ytfefgldngkpgjaa

/- Texts KLa KLb KLc, joined: what each part says stands ahead of it. -/
import Derived.Test.YtokepgnnepjiaaaGreatGKg
import Derived.WalkSmall
import Derived.Deep.LoopGhost
/- Going down a netlist, plain: what stays so while nodes are met, and what a loop is. -/
namespace Go.Proofs.YtokepgnnepjiaaaGreat
set_option maxRecDepth 100000
open Go.RowKit Lg Nl Go.Maps
set_option linter.unusedVariables false
set_option linter.unusedSimpArgs false

def upd {α : Type} (f : Nat → α) (i : Nat) (v : α) : Nat → α := fun q => if q = i then v else f q
theorem upd_at {α : Type} (f : Nat → α) (i : Nat) (v : α) : upd f i v i = v := if_pos rfl
theorem upd_ne {α : Type} (f : Nat → α) {i q : Nat} (v : α) (h : q ≠ i) : upd f i v q = f q := if_neg h
/-- how much is left to be done -/
def mu (st : Nat → Int) : Nat → Nat
  | 0 => 0
  | n + 1 => mu st n + (2 - st n).toNat
theorem mu_le (st : Nat → Int) : ∀ n, (∀ i, i < n → 0 ≤ st i) → mu st n ≤ 2 * n
  | 0, _ => Nat.le_refl _
  | n + 1, h => by have := mu_le st n (fun i hi => h i (by omega)); have := h n (by omega); unfold mu; omega
theorem mu_same {st st' : Nat → Int} : ∀ n, (∀ i, i < n → st i = st' i) → mu st n = mu st' n
  | 0, _ => rfl
  | n + 1, h => by unfold mu; rw [mu_same n (fun i hi => h i (by omega)), h n (by omega)]
theorem mu_upd (st : Nat → Int) (i : Nat) (v : Int) (hv : v = st i + 1) (h2 : v ≤ 2) : ∀ n, i < n → mu (upd st i v) n + 1 = mu st n
  | 0, h => by omega
  | n + 1, h => by
    unfold mu
    by_cases e : i = n
    · subst e
      rw [mu_same (st := upd st i v) (st' := st) i (fun q hq => upd_ne _ _ (by omega)), upd_at]
      omega
    · rw [upd_ne _ _ (by omega : n ≠ i)]
      have := mu_upd st i v hv h2 n (by omega)
      omega
/-- nodes that hang each on the next one, the last on the first, each once -/
structure Ring (l : List Nd) (p : List Nat) : Prop where
  pos : 0 < p.length
  nd : p.Nodup
  lt : ∀ i ∈ p, i < l.length
  hg : ∀ j a b, p[j]? = some a → p[(j + 1) % p.length]? = some b → b ∈ hgs (ndAt l a)
/-- on the way down: what is known of states, of what is looked at next, of levels, of the way -/
structure Dw (l : List Nd) (st : Nat → Int) (nx : Nat → Nat) (lv : Nat → Int) (way : List Nat) : Prop where
  s : ∀ i, i < l.length → st i = 0 ∨ st i = 1 ∨ st i = 2
  m : ∀ i, i < l.length → (st i = 1 ↔ i ∈ way)
  wl : ∀ i ∈ way, i < l.length
  nd : way.Nodup
  ch : ∀ j a b, way[j]? = some a → way[j + 1]? = some b → (hgs (ndAt l a))[nx a]? = some b
  nl : ∀ i, i < l.length → nx i ≤ (hgs (ndAt l i)).length
  pk : ∀ i, i < l.length → ∀ k h, k < nx i → (hgs (ndAt l i))[k]? = some h → st h = 2 ∧ lv h + 1 ≤ lv i
  ti : ∀ i, i < l.length → lv i = 0 ∨ ∃ k h, k < nx i ∧ (hgs (ndAt l i))[k]? = some h ∧ lv i = lv h + 1
  dn : ∀ i, i < l.length → st i = 2 → nx i = (hgs (ndAt l i)).length
  un : ∀ i, i < l.length → st i = 0 → nx i = 0
  lo : ∀ i, i < l.length → 0 ≤ lv i
theorem Dw.start (l : List Nd) : Dw l (fun _ => 0) (fun _ => 0) (fun _ => 0) [] := by
  refine ⟨fun _ _ => Or.inl rfl, fun i _ => ?_, fun i h => ?_, List.nodup_nil, fun j a b h => ?_, fun _ _ => Nat.zero_le _, fun i _ k h hk => ?_, fun _ _ => Or.inl rfl, fun _ _ h => ?_, fun _ _ _ => rfl, fun _ _ => Int.le_refl _⟩
  · simp
  · simp at h
  · simp at h
  · exact absurd hk (Nat.not_lt_zero _)
  · simp at h
/-- a node is met -/
theorem Dw.push {l : List Nd} {st : Nat → Int} {nx : Nat → Nat} {lv : Nat → Int} {way : List Nat} (d : Dw l st nx lv way) {h : Nat} (hl : h < l.length) (h0 : st h = 0)
    (hc : ∀ a, way.getLast? = some a → (hgs (ndAt l a))[nx a]? = some h) : Dw l (upd st h 1) nx lv (way ++ [h]) := by
  have hnw : h ∉ way := fun hm => by have := (d.m h hl).2 hm; omega
  have keep2 : ∀ q, st q = 2 → upd st h 1 q = 2 := fun q hq => by
    rw [upd_ne]; exact hq
    intro e; subst e; omega
  refine ⟨fun i hi => ?_, fun i hi => ?_, fun i hi => ?_, ?_, fun j a b ha hb => ?_, d.nl, fun i hi k q hk hq => ?_, d.ti, fun i hi h2 => ?_, fun i hi h2 => ?_, d.lo⟩
  · by_cases e : i = h
    · subst e; rw [upd_at]; exact Or.inr (Or.inl rfl)
    · rw [upd_ne _ _ e]; exact d.s i hi
  · by_cases e : i = h
    · subst e; rw [upd_at]; simp
    · rw [upd_ne _ _ e, d.m i hi, List.mem_append]; simp [e]
  · rcases List.mem_append.1 hi with hi | hi
    · exact d.wl i hi
    · simp at hi; rw [hi]; exact hl
  · rw [List.nodup_append]
    refine ⟨d.nd, by simp, fun a ha b hb => ?_⟩
    simp at hb; subst hb
    intro e; subst e; exact hnw ha
  · have hjl : j + 1 < (way ++ [h]).length := (List.getElem?_eq_some_iff.1 hb).1
    simp at hjl
    rw [List.getElem?_append_left (by omega)] at ha
    by_cases e : j + 1 < way.length
    · rw [List.getElem?_append_left e] at hb
      exact d.ch j a b ha hb
    · have hje : j + 1 = way.length := by omega
      rw [List.getElem?_append_right (by omega), hje, Nat.sub_self] at hb
      simp at hb
      subst hb
      apply hc
      rw [List.getLast?_eq_getElem?, show way.length - 1 = j by omega]
      exact ha
  · obtain ⟨x, y⟩ := d.pk i hi k q hk hq
    exact ⟨keep2 q x, y⟩
  · by_cases e : i = h
    · subst e; rw [upd_at] at h2; omega
    · rw [upd_ne _ _ e] at h2; exact d.dn i hi h2
  · by_cases e : i = h
    · subst e; rw [upd_at] at h2; omega
    · rw [upd_ne _ _ e] at h2; exact d.un i hi h2
theorem last_at {α : Type} (pre : List α) (n : α) : (pre ++ [n]).getLast? = some n := by simp
theorem Dw.top {l : List Nd} {st : Nat → Int} {nx : Nat → Nat} {lv : Nat → Int} {pre : List Nat} {n : Nat} (d : Dw l st nx lv (pre ++ [n])) : n < l.length ∧ st n = 1 ∧ n ∉ pre := by
  have hm : n ∈ pre ++ [n] := by simp
  have hl := d.wl n hm
  refine ⟨hl, (d.m n hl).2 hm, fun h => ?_⟩
  have := d.nd
  rw [List.nodup_append] at this
  exact this.2.2 n h n (by simp) rfl
/-- what a node hangs on has its level: the node is put behind it -/
theorem Dw.next {l : List Nd} (hk' : Ok l) {st : Nat → Int} {nx : Nat → Nat} {lv : Nat → Int} {pre : List Nat} {n h : Nat} (d : Dw l st nx lv (pre ++ [n])) (hh : (hgs (ndAt l n))[nx n]? = some h) (h2 : st h = 2) :
    Dw l st (upd nx n (nx n + 1)) (upd lv n (max (lv n) (lv h + 1))) (pre ++ [n]) := by
  obtain ⟨hnl, hn1, hnp⟩ := d.top
  have hne : h ≠ n := fun e => by subst e; omega
  have hlt : nx n < (hgs (ndAt l n)).length := (List.getElem?_eq_some_iff.1 hh).1
  have ne2 : ∀ q, st q = 2 → q ≠ n := fun q hq e => by subst e; omega
  refine ⟨d.s, d.m, d.wl, d.nd, fun j a b ha hb => ?_, fun i hi => ?_, fun i hi k q hk hq => ?_, fun i hi => ?_, fun i hi hi2 => ?_, fun i hi hi0 => ?_, fun i hi => ?_⟩
  · have hjl : j + 1 < (pre ++ [n]).length := (List.getElem?_eq_some_iff.1 hb).1
    simp at hjl
    have hap : a ∈ pre := by
      rw [List.getElem?_append_left (by omega)] at ha
      exact List.mem_of_getElem? ha
    rw [upd_ne _ _ (fun e => hnp (by rw [← e]; exact hap))]
    exact d.ch j a b ha hb
  · by_cases e : i = n
    · subst e; rw [upd_at]; omega
    · rw [upd_ne _ _ e]; exact d.nl i hi
  · by_cases e : i = n
    · subst e
      rw [upd_at] at hk
      by_cases ek : k = nx i
      · subst ek
        rw [hh] at hq; injection hq with hq; subst hq
        rw [upd_at, upd_ne _ _ hne]
        exact ⟨h2, by omega⟩
      · obtain ⟨x, y⟩ := d.pk i hi k q (by omega) hq
        rw [upd_at, upd_ne _ _ (ne2 q x)]
        exact ⟨x, by omega⟩
    · rw [upd_ne _ _ e] at hk
      obtain ⟨x, y⟩ := d.pk i hi k q hk hq
      rw [upd_ne _ _ e, upd_ne _ _ (ne2 q x)]
      exact ⟨x, y⟩
  · by_cases e : i = n
    · subst e
      rw [upd_at, upd_at]
      right
      by_cases hm : lv h + 1 ≤ lv i
      · rcases d.ti i hi with h0 | ⟨k, q, hk, hq, he⟩
        · refine ⟨nx i, h, by omega, hh, ?_⟩
          have hhl : 0 ≤ lv h := d.lo h (hgs_lt hk' hnl (List.mem_of_getElem? hh))
          omega
        · refine ⟨k, q, by omega, hq, ?_⟩
          rw [upd_ne _ _ (ne2 q (d.pk i hi k q hk hq).1)]
          omega
      · exact ⟨nx i, h, by omega, hh, by rw [upd_ne _ _ hne]; omega⟩
    · rw [upd_ne _ _ e, upd_ne _ _ e]
      rcases d.ti i hi with h0 | ⟨k, q, hk, hq, he⟩
      · exact Or.inl h0
      · exact Or.inr ⟨k, q, hk, hq, by rw [upd_ne _ _ (ne2 q (d.pk i hi k q hk hq).1)]; exact he⟩
  · rw [upd_ne _ _ (ne2 i hi2)]; exact d.dn i hi hi2
  · rw [upd_ne _ _ (fun e => by subst e; omega)]; exact d.un i hi hi0
  · by_cases e : i = n
    · subst e; rw [upd_at]; have := d.lo i hi; omega
    · rw [upd_ne _ _ e]; exact d.lo i hi
/-- a node has its level -/
theorem Dw.pop {l : List Nd} {st : Nat → Int} {nx : Nat → Nat} {lv : Nat → Int} {pre : List Nat} {n : Nat} (d : Dw l st nx lv (pre ++ [n])) (hn : nx n = (hgs (ndAt l n)).length) : Dw l (upd st n 2) nx lv pre := by
  obtain ⟨hnl, hn1, hnp⟩ := d.top
  have keep2 : ∀ q, st q = 2 → upd st n 2 q = 2 := fun q hq => by unfold upd; split <;> simp_all
  refine ⟨fun i hi => ?_, fun i hi => ?_, fun i hi => d.wl i (List.mem_append_left _ hi), (List.nodup_append.1 d.nd).1, fun j a b ha hb => ?_, d.nl, fun i hi k q hk hq => ?_, d.ti, fun i hi h2 => ?_, fun i hi h2 => ?_, d.lo⟩
  · by_cases e : i = n
    · subst e; rw [upd_at]; exact Or.inr (Or.inr rfl)
    · rw [upd_ne _ _ e]; exact d.s i hi
  · by_cases e : i = n
    · subst e; rw [upd_at]; simp [hnp]
    · rw [upd_ne _ _ e, d.m i hi, List.mem_append]; simp [e]
  · have hjl : j + 1 < pre.length := (List.getElem?_eq_some_iff.1 hb).1
    exact d.ch j a b (by rw [List.getElem?_append_left (by omega)]; exact ha) (by rw [List.getElem?_append_left (by omega)]; exact hb)
  · obtain ⟨x, y⟩ := d.pk i hi k q hk hq
    exact ⟨keep2 q x, y⟩
  · by_cases e : i = n
    · subst e; exact hn
    · rw [upd_ne _ _ e] at h2; exact d.dn i hi h2
  · by_cases e : i = n
    · subst e; rw [upd_at] at h2; omega
    · rw [upd_ne _ _ e] at h2; exact d.un i hi h2
/-- what the last one hangs on stands on the way: a ring -/
theorem Dw.ring {l : List Nd} {st : Nat → Int} {nx : Nat → Nat} {lv : Nat → Int} {pre : List Nat} {n h : Nat} (d : Dw l st nx lv (pre ++ [n])) (hh : (hgs (ndAt l n))[nx n]? = some h) {i : Nat} (hi : (pre ++ [n])[i]? = some h) : Ring l ((pre ++ [n]).drop i) := by
  have hil : i < (pre ++ [n]).length := (List.getElem?_eq_some_iff.1 hi).1
  have hlen : ((pre ++ [n]).drop i).length = (pre ++ [n]).length - i := List.length_drop
  refine ⟨by omega, d.nd.sublist (List.drop_sublist _ _), fun q hq => d.wl q (List.mem_of_mem_drop hq), fun j a b ha hb => ?_⟩
  rw [hlen] at hb
  rw [List.getElem?_drop] at ha hb
  have hjl : i + j < (pre ++ [n]).length := (List.getElem?_eq_some_iff.1 ha).1
  by_cases e : j + 1 < (pre ++ [n]).length - i
  · rw [Nat.mod_eq_of_lt e] at hb
    exact List.mem_of_getElem? (d.ch (i + j) a b ha hb)
  · have ej : j + 1 = (pre ++ [n]).length - i := by omega
    rw [ej, Nat.mod_self, Nat.add_zero, hi] at hb
    injection hb with hb
    subst hb
    have ea : a = n := by
      have : (pre ++ [n])[i + j]? = some n := by
        rw [List.getElem?_append_right (by simp at ej hil; omega), show i + j - pre.length = 0 by simp at ej hil; omega]; rfl
      rw [this] at ha; injection ha with ha; exact ha.symm
    subst ea
    exact List.mem_of_getElem? hh
/-- all nodes have their levels -/
theorem Dw.lev {l : List Nd} {st : Nat → Int} {nx : Nat → Nat} {lv : Nat → Int} (d : Dw l st nx lv []) (h : ∀ i, i < l.length → st i ≠ 0) : Lev l lv := by
  have h2 : ∀ i, i < l.length → st i = 2 := fun i hi => by
    rcases d.s i hi with a | a | a
    · exact absurd a (h i hi)
    · exact absurd ((d.m i hi).1 a) (by simp)
    · exact a
  refine ⟨d.lo, fun i hi q hq => ?_, fun i hi => ?_⟩
  · obtain ⟨k, hk, e⟩ := List.getElem_of_mem hq
    exact (d.pk i hi k q (by rw [d.dn i hi (h2 i hi)]; exact hk) (by rw [List.getElem?_eq_getElem hk, e])).2
  · rcases d.ti i hi with a | ⟨k, q, hk, hq, e⟩
    · exact Or.inl a
    · exact Or.inr ⟨q, List.mem_of_getElem? hq, e⟩
/-- a ring has no levels -/
theorem Ring.none {l : List Nd} (hk : Ok l) {p : List Nat} (h : Ring l p) : levels l = none := by
  have hp := h.pos
  have at_ : ∀ i, p[i % p.length]? = some (p.getD (i % p.length) 0) := fun i => by
    have := Nat.mod_lt i hp
    rw [List.getD_eq_getElem?_getD, List.getElem?_eq_getElem this]; rfl
  refine levels_ring hk (p := fun i => p.getD (i % p.length) 0) (m := p.length) hp (fun i _ => h.lt _ (List.mem_of_getElem? (at_ i))) (fun i hi => ?_) ?_
  · refine h.hg i _ _ ?_ (at_ (i + 1))
    have := at_ i
    rw [Nat.mod_eq_of_lt hi] at this ⊢
    exact this
  · show p.getD (p.length % p.length) 0 = p.getD (0 % p.length) 0
    rw [Nat.mod_self, Nat.zero_mod]
/-- a way is no longer than there are nodes -/
theorem nodup_le : ∀ (n : Nat) (L : List Nat), L.Nodup → (∀ z ∈ L, z < n) → L.length ≤ n
  | 0, L, _, h => by cases L with
    | nil => exact Nat.le_refl _
    | cons z r => exact absurd (h z (List.mem_cons_self ..)) (Nat.not_lt_zero _)
  | n + 1, L, hd, h => by
    have ih := nodup_le n (L.erase n) (hd.erase n) (fun z hz => by
      have h1 := h z (List.mem_of_mem_erase hz)
      have h2 : z ≠ n := fun e => by subst e; exact (List.Nodup.mem_erase_iff hd).1 hz |>.1 rfl
      omega)
    have := List.length_erase (a := n) (l := L)
    split at this <;> omega
theorem Dw.way_le {l : List Nd} {st : Nat → Int} {nx : Nat → Nat} {lv : Nat → Int} {way : List Nat} (d : Dw l st nx lv way) : way.length ≤ l.length := nodup_le _ _ d.nd d.wl
theorem Ring.len {l : List Nd} {p : List Nat} (h : Ring l p) : p.length ≤ l.length := nodup_le _ _ h.nd h.lt
end Go.Proofs.YtokepgnnepjiaaaGreat

/- The program's walker at its block; what a node hangs on; the library's Index and Clone. -/
namespace Go.Proofs.YtokepgnnepjiaaaGreat
set_option maxRecDepth 100000
open Go.RowKit Lg Nl Go.Maps
set_option linter.unusedVariables false
set_option linter.unusedSimpArgs false

/-- five places, each another one -/
structure Ap (B b T1 T2 T3 : Nat) : Prop where
  b0 : B ≤ b
  t1 : B ≤ T1
  t2 : B ≤ T2
  t3 : B ≤ T3
  n1 : b ≠ T1
  n2 : b ≠ T2
  n3 : b ≠ T3
  n4 : T1 ≠ T2
  n5 : T1 ≠ T3
  n6 : T2 ≠ T3
/-- the walker at its block, with its three rows -/
structure Wk (w0 : World) (b T1 T2 T3 n : Nat) (vN : Value) (st : Nat → Int) (nx : Nat → Nat) (lv : Nat → Int) (w : World) : Prop where
  bel : Below w0.heap.size w0 w
  blk : w.heap[b]? = some (.cells #[vN, .slice (some ⟨T1, 0, none⟩) n n, .slice (some ⟨T2, 0, none⟩) n n, .slice (some ⟨T3, 0, none⟩) n n] 148 (0, 0))
  r1 : w.rowIs T1 3 n (fun q => .int .i64 (st q))
  r2 : w.rowIs T2 3 n (fun q => .int .i64 ((nx q : Nat) : Int))
  r3 : w.rowIs T3 3 n (fun q => .int .i64 (lv q))
theorem Wk.below {w0 w w' : World} {b T1 T2 T3 n : Nat} {vN : Value} {st : Nat → Int} {nx : Nat → Nat} {lv : Nat → Int} (h : Wk w0 b T1 T2 T3 n vN st nx lv w) (hb : Below w.heap.size w w') : Wk w0 b T1 T2 T3 n vN st nx lv w' :=
  ⟨h.bel.trans (hb.mono h.bel.size), (hb.block _ (hLt h.blk)).trans h.blk, h.r1.of_block (hb.block _ h.r1.lt), h.r2.of_block (hb.block _ h.r2.lt), h.r3.of_block (hb.block _ h.r3.lt)⟩
/-- an owned row of another block has grown -/
theorem Wk.grown {w0 w w' : World} {b T1 T2 T3 n : Nat} {vN : Value} {st : Nat → Int} {nx : Nat → Nat} {lv : Nat → Int} {B : Nat} {row : Option Nat} (h : Wk w0 b T1 T2 T3 n vN st nx lv w) (hg : w.grownBy w' row) (hB : ∀ g, row = some g → B ≤ g) (h0 : w0.heap.size ≤ B) (hb : b < B) (h1 : T1 < B) (h2 : T2 < B) (h3 : T3 < B) : Wk w0 b T1 T2 T3 n vN st nx lv w' := by
  have hn : ∀ k, k < B → some k ≠ row := fun k hk e => by have := hB k e.symm; omega
  exact ⟨⟨hg.os.trans h.bel.os, hg.tape.trans h.bel.tape, hg.output.trans h.bel.output, Nat.le_trans h.bel.size hg.size, fun k hk => (hg.block k (Nat.lt_of_lt_of_le hk h.bel.size) (hn k (by omega))).trans (h.bel.block k hk)⟩,
    (hg.block _ (hLt h.blk) (hn _ hb)).trans h.blk, h.r1.of_block (hg.block _ h.r1.lt (hn _ h1)), h.r2.of_block (hg.block _ h.r2.lt (hn _ h2)), h.r3.of_block (hg.block _ h.r3.lt (hn _ h3))⟩
theorem Wk.drewN {w0 w : World} {b T1 T2 T3 n : Nat} {vN : Value} {st : Nat → Int} {nx : Nat → Nat} {lv : Nat → Int} (h : Wk w0 b T1 T2 T3 n vN st nx lv w) (k : Nat) : Wk w0 b T1 T2 T3 n vN st nx lv (w.drewN k) := ⟨belDN h.bel k, h.blk, h.r1, h.r2, h.r3⟩
theorem Wk.drew {w0 w : World} {b T1 T2 T3 n : Nat} {vN : Value} {st : Nat → Int} {nx : Nat → Nat} {lv : Nat → Int} (h : Wk w0 b T1 T2 T3 n vN st nx lv w) : Wk w0 b T1 T2 T3 n vN st nx lv w.drew := ⟨h.bel.drew, h.blk, h.r1, h.r2, h.r3⟩
theorem Wk.set1 {w0 w : World} {b T1 T2 T3 n : Nat} {vN : Value} {st : Nat → Int} {nx : Nat → Nat} {lv : Nat → Int} (h : Wk w0 b T1 T2 T3 n vN st nx lv w) (a : Ap w0.heap.size b T1 T2 T3) (i : Nat) (z : Int) : Wk w0 b T1 T2 T3 n vN (upd st i z) nx lv (w.setCell ⟨T1, i, none⟩ (.int .i64 z)) :=
  ⟨h.bel.setCell a.t1 _, (Below.heap_setCell _ _ _ _ (by show b ≠ T1; exact a.n1)).trans h.blk, (h.r1.set i _).congr (fun q _ => by unfold upd; split <;> rfl), h.r2.setOther a.n4.symm _, h.r3.setOther a.n5.symm _⟩
theorem Wk.set2 {w0 w : World} {b T1 T2 T3 n : Nat} {vN : Value} {st : Nat → Int} {nx : Nat → Nat} {lv : Nat → Int} (h : Wk w0 b T1 T2 T3 n vN st nx lv w) (a : Ap w0.heap.size b T1 T2 T3) (i z : Nat) : Wk w0 b T1 T2 T3 n vN st (upd nx i z) lv (w.setCell ⟨T2, i, none⟩ (.int .i64 (z : Int))) :=
  ⟨h.bel.setCell a.t2 _, (Below.heap_setCell _ _ _ _ (by show b ≠ T2; exact a.n2)).trans h.blk, h.r1.setOther a.n4 _, (h.r2.set i _).congr (fun q _ => by unfold upd; split <;> rfl), h.r3.setOther a.n6.symm _⟩
theorem Wk.set3 {w0 w : World} {b T1 T2 T3 n : Nat} {vN : Value} {st : Nat → Int} {nx : Nat → Nat} {lv : Nat → Int} (h : Wk w0 b T1 T2 T3 n vN st nx lv w) (a : Ap w0.heap.size b T1 T2 T3) (i : Nat) (z : Int) : Wk w0 b T1 T2 T3 n vN st nx (upd lv i z) (w.setCell ⟨T3, i, none⟩ (.int .i64 z)) :=
  ⟨h.bel.setCell a.t3 _, (Below.heap_setCell _ _ _ _ (by show b ≠ T3; exact a.n3)).trans h.blk, h.r1.setOther a.n5 _, h.r2.setOther a.n6 _, (h.r3.set i _).congr (fun q _ => by unfold upd; split <;> rfl)⟩
theorem cells4n {w : World} {b : Nat} {y0 y1 y2 y3 : Value} {t : TypeId} (h : w.heap[b]? = some (.cells #[y0, y1, y2, y3] t (0, 0))) :
    w.cell? ⟨b, 0, none⟩ = some y0 ∧ w.cell? ⟨b, 1, none⟩ = some y1 ∧ w.cell? ⟨b, 2, none⟩ = some y2 ∧ w.cell? ⟨b, 3, none⟩ = some y3 :=
  ⟨by rw [Lib.cell_of_heap h]; rfl, by rw [Lib.cell_of_heap h]; rfl, by rw [Lib.cell_of_heap h]; rfl, by rw [Lib.cell_of_heap h]; rfl⟩
set_option maxHeartbeats 1000000 in
theorem pHangs_c (x : Nd) (ia : Option Addr) (ic : Nat) (w : World) (hi : IntsAt w (.slice ia x.ins.length ic) x.ins) (h7 : x.k = 7 → 1 ≤ x.ins.length) (hq : x.ins.length ≤ 17592186044416) :
    Calls Tryz.prog 116 #[.agg #[.int .i64 x.k, .int .i64 x.op, .int .i64 x.wd, .slice ia x.ins.length ic, .string (S x.vl), .int .i64 x.hi, .int .i64 x.lo, .int .i64 x.tm]] w fun e w' => (∃ ao m cp, e = .returned (.slice ao m cp) ∧ Hid (m = (hangL x).length) ∧ ∀ W0, IntsAt W0 (.slice ia x.ins.length ic) x.ins → IntsAt W0 (.slice ao m cp) (hangL x)) ∧ Below w.heap.size w w' := by
  obtain ⟨k, op, wd, ins, vl, hi', lo, tm⟩ := x
  simp only at hi h7 hq ⊢
  obtain ⟨q, hql⟩ : ∃ q, q = ins.length := ⟨_, rfl⟩
  rw [← hql] at hi h7 hq ⊢
  have hic : q ≤ ic := by obtain ⟨_, c, hv, hc, _⟩ := hi; injection hv with _ _ e; subst e; omega
  have HI : Hid (IntsAt w (.slice ia q ic) ins) := hi
  have HQL : Hid (q = ins.length) := hql
  clear hi hql
  rcases (by omega : k = 8 ∨ k = 7 ∨ (k ≠ 8 ∧ k ≠ 7)) with rfl | rfl | ⟨h8, h7'⟩
  · go_enter Tryz.func116, Tryz.ntmps116
    go_wp2
    go_ret
    exact ⟨⟨none, 0, 0, rfl, by show _ = _; simp [hangL], fun W0 _ => ⟨none, 0, by simp [hangL], by simp [hangL], Or.inl (by simp [hangL])⟩⟩, belA (Below.refl _ _) _⟩
  · have h1 := h7 rfl
    have h2 : (1 : Int) ≤ (q : Int) := by omega
    have h3 : (1 : Int) ≤ (ic : Int) := by omega
    obtain ⟨g, o, c, hg⟩ := HI.out.some_ (by rw [← HQL.out]; omega)
    injection hg with e1 e2 e3
    subst e1
    clear e2 e3 h7
    go_enter Tryz.func116, Tryz.ntmps116
    go_wp2
    go_ret
    exact ⟨⟨_, 1, ic, rfl, by show _ = _; simp [hangL]; rw [← HQL.out]; omega, fun W0 h0 => by simpa [hangL] using h0.take1 h1 HQL.out⟩, belA (Below.refl _ _) _⟩
  · have g8 : (k == 8) = false := by simpa using h8
    have g7 : (k == 7) = false := by simpa using h7'
    have HH : Hid (hangL ⟨k, op, wd, ins, vl, hi', lo, tm⟩ = ins) := by show hangL ⟨k, op, wd, ins, vl, hi', lo, tm⟩ = ins; simp [hangL, h8, h7']
    clear h8 h7' h7
    go_enter Tryz.func116, Tryz.ntmps116
    go_wp2
    go_ret
    exact ⟨⟨_, q, ic, rfl, by show _ = _; rw [HH.out]; exact HQL.out, fun W0 h0 => by rw [HH.out]; exact h0⟩, belA (Below.refl _ _) _⟩
end Go.Proofs.YtokepgnnepjiaaaGreat

/- The program's newWalker; the library's Index and Clone of numbers. -/
namespace Go.Proofs.YtokepgnnepjiaaaGreat
set_option maxRecDepth 100000
open Go.RowKit Lg Nl Go.Maps
set_option linter.unusedVariables false
set_option linter.unusedSimpArgs false

theorem newW_end (w : World) (n : Nat) (vN : Value) (T1 T2 T3 : Nat) (h1 : T1 = w.heap.size ∨ T1 = w.heap.size + 1 ∨ T1 = w.heap.size + 1 + 1) (h2 : T2 = w.heap.size ∨ T2 = w.heap.size + 1 ∨ T2 = w.heap.size + 1 + 1) (h3 : T3 = w.heap.size ∨ T3 = w.heap.size + 1 ∨ T3 = w.heap.size + 1 + 1) (d1 : T1 ≠ T2) (d2 : T1 ≠ T3) (d3 : T2 ≠ T3) :
    Ap w.heap.size (w.heap.size + 1 + 1 + 1) T1 T2 T3 ∧ Wk w (w.heap.size + 1 + 1 + 1) T1 T2 T3 n vN (fun _ => 0) (fun _ => 0) (fun _ => 0) ((((w.alloc (.cells (madeCells #[.int .i64 0] n) 3)).alloc (.cells (madeCells #[.int .i64 0] n) 3)).alloc (.cells (madeCells #[.int .i64 0] n) 3)).alloc (.cells #[vN, .slice (some ⟨T1, 0, none⟩) n n, .slice (some ⟨T2, 0, none⟩) n n, .slice (some ⟨T3, 0, none⟩) n n] 148)).drew := by
  have key : ∀ T, (T = w.heap.size ∨ T = w.heap.size + 1 ∨ T = w.heap.size + 1 + 1) → ((((w.alloc (.cells (madeCells #[.int .i64 0] n) 3)).alloc (.cells (madeCells #[.int .i64 0] n) 3)).alloc (.cells (madeCells #[.int .i64 0] n) 3)).alloc (.cells #[vN, .slice (some ⟨T1, 0, none⟩) n n, .slice (some ⟨T2, 0, none⟩) n n, .slice (some ⟨T3, 0, none⟩) n n] 148)).drew.rowIs T 3 n (fun _ => .int .i64 0) := by
    intro T hT
    apply World.rowIs.drew
    apply World.rowIs.alloc
    rcases hT with rfl | rfl | rfl
    · exact ((World.rowIs_made w _ n _).alloc _).alloc _
    · exact (by simpa using (World.rowIs_made (w.alloc (.cells (madeCells #[.int .i64 0] n) 3)) (.int .i64 0) n 3).alloc (.cells (madeCells #[.int .i64 0] n) 3))
    · exact (by simpa using (World.rowIs_made ((w.alloc (.cells (madeCells #[.int .i64 0] n) 3)).alloc (.cells (madeCells #[.int .i64 0] n) 3)) (.int .i64 0) n 3))
  refine ⟨⟨by omega, by omega, by omega, by omega, by omega, by omega, by omega, d1, d2, d3⟩, ?_, ?_, key T1 h1, key T2 h2, key T3 h3⟩
  · exact (belA (belA (belA (belA (Below.refl _ _) _) _) _) _).drew
  · exact alAt (by simp)
set_option maxHeartbeats 1000000 in
theorem newW_c (n : Nat) (na : Option Addr) (nc : Nat) (w : World) (hn : n ≤ 4096) :
    Calls Tryz.prog 83 #[.slice na n nc] w fun e w' => ∃ b T1 T2 T3, e = .returned (.pointer (some ⟨b, 0, none⟩)) ∧ Ap w.heap.size b T1 T2 T3 ∧ Wk w b T1 T2 T3 n (.slice na n nc) (fun _ => 0) (fun _ => 0) (fun _ => 0) w' := by
  have hmk := mkInts n (by omega)
  go_enter Tryz.func83, Tryz.ntmps83
  go_wp2
  go_region
  all_goals go_wp2
  all_goals (go_ret; exact ⟨_, _, _, _, rfl, newW_end w n _ _ _ _ (by omega) (by omega) (by omega) (by omega) (by omega) (by omega)⟩)
set_option maxHeartbeats 1000000 in
theorem index_c (xs : List Int) (ao : Option Addr) (n cap : Nat) (z : Int) (w : World) (h : IntsAt w (.slice ao n cap) xs) (hn : n ≤ 17592186044416) (hz : z ∈ xs) :
    Calls Tryz.prog 118 #[.slice ao n cap, .int .i64 z] w fun e w' => ∃ i : Nat, e = .returned (.int .i64 i) ∧ xs[i]? = some z ∧ w' = w := by
  obtain ⟨HL, hcells⟩ : Hid (n = xs.length) ∧ (0 < n → ∃ g o, ao = some ⟨g, o, none⟩ ∧ ∀ i (hi : i < xs.length), w.cell? ⟨g, o + i, none⟩ = some (.int .i64 xs[i])) := by
    obtain ⟨ao', c, hv, _, h⟩ := h
    injection hv with e1 e2 e3
    subst e1
    refine ⟨e2, fun hp => ?_⟩
    rcases h with h | ⟨g, o, e, _, h⟩
    · subst h; simp at e2; omega
    · exact ⟨g, o, e, h⟩
  have hpos : 0 < n := by rw [HL.out]; exact List.length_pos_of_mem hz
  obtain ⟨g, o, rfl, hc⟩ := hcells hpos
  have HC : Hid (∀ i (hi : i < xs.length), w.cell? ⟨g, o + i, none⟩ = some (.int .i64 xs[i])) := hc
  have HZ : Hid (z ∈ xs) := hz
  clear h hc hz hcells
  go_enter Tryz.func118, Tryz.ntmps118
  go_wp2
  go_loop [8] (fun s8 => ∃ k : Nat, k ≤ n ∧ s8 = .int .i64 k ∧ Hid (z ∉ xs.take k)) (fun s8 => n - (intOf s8).toNat)
  case atStart => exact ⟨0, Nat.zero_le _, rfl, by show _ ∉ _; simp⟩
  case round =>
    obtain ⟨k, hk, rfl, HK⟩ := hrel
    by_cases hlt : k < n
    · have hkl : k < xs.length := by rw [← HL.out]; exact hlt
      have hx := HC.out k hkl
      have k1 : (0 : Int) ≤ (k : Int) := by omega
      have k2 : (k : Int) < (n : Int) := by omega
      obtain ⟨y, hy⟩ : ∃ y, y = xs[k] := ⟨_, rfl⟩
      rw [← hy] at hx
      have HY : Hid (y = xs[k]) := hy
      clear hy
      by_cases he : z = y
      · have he' : (z == y) = true := by simpa using he
        have HE : Hid (z = y) := he
        clear he
        go_wp2
        go_ret
        exact ⟨k, rfl, by rw [List.getElem?_eq_getElem hkl, ← HY.out, ← HE.out], rfl⟩
      · have he' : (z == y) = false := by simpa using he
        have HE : Hid (z ≠ y) := he
        clear he
        go_wp2
        go_round
        case rel =>
          refine ⟨k + 1, hlt, by go_num, ?_⟩
          show z ∉ xs.take (k + 1)
          rw [List.take_succ_eq_append_getElem hkl, List.mem_append]
          rintro (h | h)
          · exact HK.out h
          · simp at h; exact HE.out (by rw [h, HY.out])
        case measure => simp [intOf]; omega
    · exfalso
      apply HK.out
      rw [List.take_of_length_le (by rw [← HL.out]; omega)]
      exact HZ.out
theorem notNil (g o n cap : Nat) (W : World) : Sem.run Tryz.prog (binOp BinOp.eql 24 (.slice (some ⟨g, o, none⟩) n cap) (.slice none 0 0)) W = .ok (.bool false) W := by
  first
  | kernel_rfl
  | rfl
  | (simp [binOp, go_sem]; done)
theorem addO (g o j : Nat) : ((⟨g, o, none⟩ : Addr).add j) = ⟨g, o + j, none⟩ := by
  by_cases h : j = 0
  · subst h; simp [Addr.add]
  · simp [Addr.add, h]
theorem one_iC (xs : List Int) : ∀ u ∈ iC xs, u.oneCell' = true := by intro u hu; unfold iC at hu; obtain ⟨z, _, rfl⟩ := List.mem_map.1 hu; rfl
theorem iC_len (xs : List Int) : (iC xs).length = xs.length := by simp [iC]
theorem iC_get {xs : List Int} {j : Nat} {u : Value} (h : (iC xs)[j]? = some u) : ∃ hj : j < xs.length, u = .int .i64 xs[j] := by
  unfold iC at h
  rw [List.getElem?_map] at h
  rcases hq : xs[j]? with _ | z
  · rw [hq] at h; cases h
  · rw [hq] at h
    obtain ⟨hj, e⟩ := List.getElem?_eq_some_iff.1 hq
    exact ⟨hj, by rw [e]; injection h with h; exact h.symm⟩
set_option maxHeartbeats 1000000 in
theorem clone_c (xs : List Int) (g o n cap : Nat) (w : World) (hl : n = xs.length) (h : ∀ i (hi : i < xs.length), w.cell? ⟨g, o + i, none⟩ = some (.int .i64 xs[i])) (hg : g < w.heap.size) (hn : n ≤ 4096) (hp : 0 < n) :
    Calls Tryz.prog 117 #[.slice (some ⟨g, o, none⟩) n cap] w fun e w' => ∃ v', e = .returned v' ∧ IntsAt w' v' xs ∧ Below w.heap.size w w' := by
  have HL : Hid (n = xs.length) := hl
  have HC : Hid (∀ i (hi : i < xs.length), w.cell? ⟨g, o + i, none⟩ = some (.int .i64 xs[i])) := h
  clear hl h
  have hnil := notNil g o n cap
  have HNW : Hid (∀ j u, (iC xs)[j]? = some u → (w.alloc (.cells #[] 3)).cell? ((⟨g, o, none⟩ : Addr).add j) = some u) := by
    intro j u hj
    obtain ⟨hl, rfl⟩ := iC_get hj
    have e : ((⟨g, o, none⟩ : Addr).add j) = ⟨g, o + j, none⟩ := addO g o j
    rw [e, World.cell?_of_block (w := w) (a := ⟨g, o + j, none⟩) (alOld hg)]
    exact HC.out j hl
  obtain ⟨i0, hi0, hz0, hz1, hz2⟩ := infoInt
  go_enter Tryz.func117, Tryz.ntmps117
  go_wp2_with (first
    | (at_builtin; refine wpList_append_own_at _ rfl _ _ 24 rfl w.heap.size 3 i0 _ 1 8 Tryz.underlying24 hi0 hz0 hz1 hz2 rfl (by decide) (.slice (some ⟨w.heap.size, 0, none⟩) 0 0) 0 [] rfl (World.ownsRow_lit w #[] 0 (Nat.le_refl _) (by decide) rfl) ⟨g, o, none⟩ n cap (iC xs) rfl (by have := HL.out; rw [iC_len]; omega) HNW.out (one_iC xs) (by unfold maxLen; omega) (by omega) (by simp) ?_; intro v' w2 hown2 hgrow2 hnil2 hloc2))
  go_ret
  refine ⟨v', rfl, own_ints (B := w.heap.size) (by have h := hown2; rw [Nat.zero_add, HL.out, List.nil_append] at h; exact h), ?_⟩
  have b1 : Below w.heap.size w (w.alloc (.cells #[] 3)) := belA (Below.refl _ _) _
  exact ⟨hgrow2.os.trans b1.os, hgrow2.tape.trans b1.tape, hgrow2.output.trans b1.output, Nat.le_trans b1.size hgrow2.size, fun k hk => (hgrow2.block k (by simp; omega) (fun e => by simp [Value.ownBlock] at e; omega)).trans (b1.block k hk)⟩
end Go.Proofs.YtokepgnnepjiaaaGreat

/- Layer 3 of the program: a token is kept. -/
import Derived.Test.YteohmemifogdlaaZB
namespace Go.Proofs.Yteohmemifogdlaa
open Go.RowKit Lg Go.Maps
set_option linter.unusedVariables false
set_option linter.unusedSimpArgs false

theorem step_append_own_at {P : Program} {ops : Array Oper} {o : Oper} {a : Act} {w : World} {K : Act → World → Prop} {Q : Exit → Act → World → Prop} {E : Prop}
    (hg : o.guard = none) (s x : Operand) (t : TypeId) (hop : o.op = Op.call { callee := Callee.builtin Builtin.append, args := #[s, x], argTypes := #[t, t] })
    (base : Nat) (e : TypeId) (i : TypeInfo) (z : Value) (size bytes : Nat) (h1 : P.underlying t = some (.slice e)) (h2 : P.info? e = some i) (h3 : i.zero = some z) (h4 : i.size = size) (h5 : i.bytes = bytes) (h6 : z.cells.size = size) (h7 : 0 < size)
    (v : Value) (n : Nat) (xs : List Value) (hs : a.eval s = v) (hown : w.ownsRow base e size v n xs)
    (ad : Addr) (m c : Nat) (news : List Value) (hx : a.eval x = .slice (some ad) m c) (hn : news.length = m * size) (hc : ∀ j u, news[j]? = some u → w.cell? (ad.add j) = some u) (h1c : ∀ u ∈ news, u.oneCell' = true)
    (b1 : n + m ≤ maxLen) (b2 : (n + m) * bytes ≤ 140737488355328) (hbase : base ≤ w.heap.size)
    (hK : ∀ v' w', w'.ownsRow base e size v' (n + m) (xs ++ news) → w.grownBy w' v.ownBlock → (v'.ownBlock = v.ownBlock ∨ v'.ownBlock = some w.heap.size) → K (a.put o.dst v') w') :
    if Region.wanted o (yielded ops a.tmps) = true then Oper.wp P o a w K Q else E := by
  have hw : Region.wanted o (yielded ops a.tmps) = true := by simp [Region.wanted, hg]
  rw [if_pos hw]
  obtain ⟨v', w', hr, q2, q3, _, q5⟩ := run_append_own_at (P := P) w base t o.type e i z size bytes h1 h2 h3 h4 h5 h6 h7 v n xs hown ad m c news hn hc h1c b1 b2 hbase
  unfold Oper.wp execOp
  simp only [hop, resolve, invoke, builtin, Sem.run_bind, Sem.run_pure, Result.andThen_ok, List.map_toArray, List.map_cons, List.map_nil, hs, hx, hr]
  exact hK v' w' q2 q3 q5
theorem new3e (w : World) (n : Nat) (hn : w.heap.size = n) (a b c : Value) (t : TypeId) (j : Nat) (u : Value) (h : [a, b, c][j]? = some u) : (w.alloc (.cells #[a, b, c] t)).cell? ((⟨n, 0, none⟩ : Addr).add j) = some u := by subst hn; exact new3 w a b c t j u h
/-- all old blocks but one and a row's are as they were -/
structure Grw (b : Nat) (v : Value) (w w' : World) : Prop where
  os : w'.os = w.os
  tape : w'.tape = w.tape
  output : w'.output = w.output
  size : w.heap.size ≤ w'.heap.size
  block : ∀ k, k < w.heap.size → k ≠ b → some k ≠ v.ownBlock → w'.heap[k]? = w.heap[k]?

theorem rbG {b : Nat} {r : RB} {w W w2 : World} {row : Option Nat} (h : RBl b r w) (hW : W.heap[b]? = w.heap[b]?) (hlt : b < W.heap.size) (hg : W.grownBy w2 row) (hne : row ≠ some b) : RBl b r w2 := (hg.block b hlt (fun e => hne e.symm)).trans (hW.trans h)
theorem rbG2 {b : Nat} {r : RB} {w W w2 : World} {row : Option Nat} {o1 o2 : Obj} (h : RBl b r w) (hW : W.heap = (w.heap.push o1).push o2) (hg : W.grownBy w2 row) (hne : row ≠ some b) : RBl b r w2 := by
  have hb := heap_lt h
  refine rbG h ?_ ?_ hg hne
  · rw [hW, Array.getElem?_push, if_neg (by simp; omega), Array.getElem?_push, if_neg (by omega)]
  · rw [hW]; simp; omega
theorem keep_end {B b : Nat} {r : RB} {w W w2 : World} {o1 o2 : Obj} {n : Nat} {xs : List Value} {v v' : Value} (h : RBl b r w) (hv : r.vk = v) (hg : W.grownBy w2 v.ownBlock) (hW : W.heap = (w.heap.push o1).push o2) (hos : W.os = w.os) (ht : W.tape = w.tape) (hout : W.output = w.output) (hne : v.ownBlock ≠ some b)
    (ho : w2.ownsRow B 35 3 v' n xs) (hloc : v'.ownBlock = v.ownBlock ∨ v'.ownBlock = some W.heap.size) :
    ∃ v'', RBl b { r with vk := v'' } (w2.setCell ⟨b, 7, none⟩ v') ∧ (w2.setCell ⟨b, 7, none⟩ v').ownsRow B 35 3 v'' n xs ∧ (v''.ownBlock = r.vk.ownBlock ∨ ∃ g, v''.ownBlock = some g ∧ w.heap.size ≤ g) ∧ Grw b r.vk w (w2.setCell ⟨b, 7, none⟩ v') := by
  have hR := rbG2 h hW hg hne
  have hb := heap_lt h
  subst hv
  refine ⟨v', hR.set7 v', owns_set ho (own_ne ho hR (by decide)), ?_, ?_⟩
  · rcases hloc with e | e
    · exact Or.inl e
    · exact Or.inr ⟨_, e, by rw [hW]; simp; omega⟩
  · have hWs : W.heap.size = w.heap.size + 2 := by rw [hW]; simp
    refine ⟨hg.os.trans hos, hg.tape.trans ht, hg.output.trans hout, ?_, fun k hk h1 h2 => ?_⟩
    · have := hg.size; simp [World.setCell]; omega
    · rw [Below.heap_setCell _ _ _ _ h1, hg.block k (by omega) h2, hW, Array.getElem?_push, if_neg (by simp; omega), Array.getElem?_push, if_neg (by omega)]
set_option maxHeartbeats 1000000 in
theorem keep_full (b : Nat) (r : RB) (k : Int) (x : ByteArray) (p : Int) (w : World) (h : RBl b r w) (ao : Option Addr) (cap : Nat) (hv : r.vk = .slice ao 16384 cap) :
    Calls Try.prog 29 #[.pointer (some ⟨b, 0, none⟩), .agg #[.int .i64 k, .string x, .int .i64 p]] w fun e w' => e = .panicked (pnc p 2) ∧ Below w.heap.size w w' := by
  obtain ⟨c0, c1, c2, c3, c4, c5, c6, c7, cf⟩ := h.at_
  rw [hv] at c7
  have hbl := heap_lt h
  have hne : b ≠ w.heap.size := by omega
  go_enter Try.func29, Try.ntmps29
  go_wp2_with (first | (go_at_call 19; refine (giveUp_c _ _ _).mono ?_; rintro e w' ⟨rfl, hw⟩; have hw2 := hw.symm; subst hw2))
  exact ⟨rfl, rfl, belA (Below.refl _ _) _⟩

set_option maxHeartbeats 2000000 in
theorem keep_ok (B b : Nat) (r : RB) (kp : List Tok) (k : Int) (x : ByteArray) (p : Int) (w : World) (h : RBl b r w) (ho : w.ownsRow B 35 3 r.vk kp.length (tcells kp)) (hl : kp.length < 16384) (hBw : B ≤ w.heap.size) :
    Calls Try.prog 29 #[.pointer (some ⟨b, 0, none⟩), .agg #[.int .i64 k, .string x, .int .i64 p]] w fun e w' => e = .returned (.tuple #[]) ∧ ∃ v', RBl b { r with vk := v' } w' ∧
      w'.ownsRow B 35 3 v' (kp.length + 1) (tcells kp ++ [.int .i64 k, .string x, .int .i64 p]) ∧ (v'.ownBlock = r.vk.ownBlock ∨ ∃ g, v'.ownBlock = some g ∧ w.heap.size ≤ g) ∧ Grw b r.vk w w' := by
  obtain ⟨c0, c1, c2, c3, c4, c5, c6, c7, cf⟩ := h.at_
  obtain ⟨ao, cap, hv⟩ := slice_of ho
  obtain ⟨i0, hi, hz0, hz1, hz2⟩ := infoTok
  have hbl := heap_lt h
  have hne : b ≠ w.heap.size := by omega
  have hlenb : (((kp.length : Nat) : Int) == 16384) = false := by rw [beq_eq_false_iff_ne]; omega
  have hne2 : r.vk.ownBlock ≠ some b := own_ne ho h (by decide)
  have HO : Hid _ := ho
  have HH : Hid _ := h
  have HV : Hid _ := hv
  have HN2 : Hid (Value.ownBlock (.slice ao kp.length cap) ≠ some b) := by rw [← hv]; exact hne2
  rw [hv] at c7 ho
  clear h hv hne2
  have f7 := cf 7
  clear cf
  go_enter Try.func29, Try.ntmps29
  go_wp2
  go_region_law (refine step_append_own_at rfl _ _ 22 rfl B 35 i0 _ 3 32 Try.underlying22 hi hz0 hz1 hz2 rfl (by decide) _ kp.length (tcells kp) (by simp [Act.eval, Act.put]) (World.ownsRow.alloc (World.ownsRow.drew (World.ownsRow.alloc ho _)) _) ⟨w.heap.size + 1, 0, none⟩ 1 1 [.int .i64 k, .string x, .int .i64 p] (by simp [Act.eval, Act.put]) rfl (new3e _ _ (by simp) _ _ _ _) (one3 _ _ _) (by simp [maxLen]; omega) (by omega) (by simp; omega) ?_; intro v' w2 hown2 hgrow2 hloc; obtain ⟨ao2, cap2, rfl⟩ := slice_of hown2; have hR : RBl b r w2 := rbG2 HH.out rfl hgrow2 HN2.out; obtain ⟨d0, d1, d2, d3, d4, d5, d6, d7, df⟩ := hR.at_; have g7 := df 7)
  all_goals go_wp2
  all_goals go_end0
  all_goals exact ⟨rfl, keep_end HH.out HV.out hgrow2 rfl rfl rfl rfl HN2.out hown2 hloc⟩
end Go.Proofs.Yteohmemifogdlaa

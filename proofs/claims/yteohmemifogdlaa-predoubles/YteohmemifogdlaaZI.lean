/- Layer 3 of the program: what a name stands for. -/
import Derived.Test.YteohmemifogdlaaZH
import Derived.StringKeys
namespace Go.Proofs.Yteohmemifogdlaa
open Go.RowKit Lg Go.Maps
set_option linter.unusedVariables false
set_option linter.unusedSimpArgs false

theorem lawS : Keyed Try.prog 9 := string_keyed Try.underlying9
theorem zeroTS (w : World) : (zeroValue 22).run Try.prog w = .ok (.slice none 0 0) w := by kernel_rfl
theorem keyS {s : ByteArray} (h : s.size ≤ maxLen) : keyOf Try.prog 9 (.string s) = some (.string (L s)) := Go.WideMaps.keyOf_string_mk Try.underlying9 h
theorem rdV_inv {v : Value} {d : DataW Value} {ps : List MemPlace} (h : rdV v = some (d, ps)) : d = .held v := by unfold rdV at h; injection h with h; injection h with h _; exact h.symm
theorem held_inj {v u : Value} (h : (DataW.held v : DataW Value) = .held u) : v = u := by injection h
/-- names stand in the map -/
def NmOk (g : Nat) (src : List Tok) (D : DataW Value) (N : Nm) : Prop :=
  IsMap D ∧ ∀ x : List UInt8, x.length ≤ maxLen → (N x = none → Maps.has D (.string x) = false) ∧ (∀ body, N x = some body → Maps.has D (.string x) = true ∧ ∃ f, f + body.length ≤ src.length ∧ (src.drop f).take body.length = body ∧ ∀ z, D.atKey (.string x) z = .held (.slice (some ⟨g, f * 3, none⟩) body.length body.length))
theorem nm0 (g : Nat) (src : List Tok) : NmOk g src (.map []) (fun _ => none) := ⟨isMap_empty, fun x _ => ⟨fun _ => rfl, fun b h => by cases h⟩⟩
theorem strKey (x : List UInt8) : WideAt.IsKeyLit (.string x) := by simp [WideAt.IsKeyLit]
theorem nm_put {g : Nat} {src : List Tok} {D : DataW Value} {N : Nm} (h : NmOk g src D N) (x : List UInt8) (b : List Tok) (f : Nat) (hf : f + b.length ≤ src.length) (hb : (src.drop f).take b.length = b) : NmOk g src (D.put (.string x) (.held (.slice (some ⟨g, f * 3, none⟩) b.length b.length))) (N.put x b) := by
  refine ⟨h.1.put _ _, fun y hy => ?_⟩
  by_cases e : y = x
  · subst e
    have e2 : N.put y b y = some b := by unfold Nm.put; rw [if_pos rfl]
    rw [e2]
    refine ⟨(fun h => by cases h), fun body hbo => ?_⟩
    injection hbo with hbo
    subst hbo
    exact ⟨has_put_same h.1 (strKey _) _, f, hf, hb, fun z => atKey_put_same h.1 (strKey _) _ _⟩
  · have e2 : N.put x b y = N y := by unfold Nm.put; rw [if_neg e]
    have hne : (Lit.string y) ≠ Lit.string x := fun h => e (by injection h)
    rw [e2, has_put_other hne]
    refine ⟨(h.2 y hy).1, fun body hbo => ?_⟩
    obtain ⟨a1, f2, a2, a3, a4⟩ := (h.2 y hy).2 body hbo
    exact ⟨a1, f2, a2, a3, fun z => by rw [atKey_put_other hne]; exact a4 z⟩
theorem nm_del {g : Nat} {src : List Tok} {D : DataW Value} {N : Nm} (h : NmOk g src D N) (x : List UInt8) : NmOk g src (D.del (.string x)) (N.del x) := by
  refine ⟨h.1.del _, fun y hy => ?_⟩
  by_cases e : y = x
  · subst e
    have e2 : N.del y y = none := by unfold Nm.del; rw [if_pos rfl]
    rw [e2]
    exact ⟨fun _ => has_del_same, fun b h => by cases h⟩
  · have e2 : N.del x y = N y := by unfold Nm.del; rw [if_neg e]
    have hne : (Lit.string y) ≠ Lit.string x := fun h => e (by injection h)
    rw [e2, has_del_other hne]
    refine ⟨(h.2 y hy).1, fun body hbo => ?_⟩
    obtain ⟨a1, f2, a2, a3, a4⟩ := (h.2 y hy).2 body hbo
    exact ⟨a1, f2, a2, a3, fun z => by rw [atKey_del_other hne]; exact a4 z⟩

set_option maxHeartbeats 1000000 in
theorem stands_no (b : Nat) (src : List Tok) (r : RB) (D : DataW Value) (nD : Nat) (N : Nm) (w : World) (h : RBl b r w) (hm : w.ownsMap Try.prog 9 rdV r.mb nD D) (hN : NmOk r.g src D N) (x : ByteArray) (hx : x.size ≤ maxLen) (p : Int) (hs : stn N (L x) = none) :
    Calls Try.prog 42 #[.pointer (some ⟨b, 0, none⟩), .string x, .int .i64 p] w fun e w' => e = .panicked (pnc p 30) ∧ w' = w := by
  obtain ⟨c0, c1, c2, c3, c4, c5, c6, c7, cf⟩ := h.at_
  have hdd := fun w => directs_c x w
  obtain ⟨n1, n2⟩ := hN.2 (L x) (by rw [len_L]; exact hx)
  cases hq : N (L x) with
  | none =>
    have hh := n1 hq
    clear n1 n2 hN hs hq
    go_enter Try.func42, Try.ntmps42
    go_wp2_with (first
      | (at_lookup; refine wpList_lookup_own_ok _ rfl _ _ 40 rfl 9 22 lawS Try.underlying40 rdV (zeroTS _) (.held (.slice none 0 0)) [] rfl r.mb nD D rfl hm _ _ rfl (keyS hx) ?_; intro v ps hv; rw [hh])
      | (go_at_call 19; refine (giveUp_c _ _ _).mono ?_; rintro e w' ⟨rfl, hw⟩; have hw2 := hw.symm; subst hw2))
    exact ⟨rfl, rfl, rfl⟩
  | some body =>
    have hh := (n2 body hq).1
    have hd : dirB (L x) = true := by
      unfold stn at hs
      split at hs
      · assumption
      · rw [hq] at hs; cases hs
    rw [hd] at hdd
    clear n1 n2 hN hs hq
    go_enter Try.func42, Try.ntmps42
    go_wp2_with (first
      | (at_lookup; refine wpList_lookup_own_ok _ rfl _ _ 40 rfl 9 22 lawS Try.underlying40 rdV (zeroTS _) (.held (.slice none 0 0)) [] rfl r.mb nD D rfl hm _ _ rfl (keyS hx) ?_; intro v ps hv; rw [hh])
      | (go_at_call 44; refine (hdd _).mono ?_; rintro e w' ⟨rfl, hw⟩; have hw2 := hw.symm; subst hw2)
      | (go_at_call 19; refine (giveUp_c _ _ _).mono ?_; rintro e w' ⟨rfl, hw⟩; have hw2 := hw.symm; subst hw2))
    exact ⟨rfl, rfl, rfl⟩
set_option maxHeartbeats 1000000 in
theorem stands_ok (b : Nat) (src : List Tok) (r : RB) (D : DataW Value) (nD : Nat) (N : Nm) (w : World) (h : RBl b r w) (hm : w.ownsMap Try.prog 9 rdV r.mb nD D) (hN : NmOk r.g src D N) (x : ByteArray) (hx : x.size ≤ maxLen) (p : Int) (body : List Tok) (hs : stn N (L x) = some body) :
    Calls Try.prog 42 #[.pointer (some ⟨b, 0, none⟩), .string x, .int .i64 p] w fun e w' => (∃ f, e = .returned (.slice (some ⟨r.g, f * 3, none⟩) body.length body.length) ∧ f + body.length ≤ src.length ∧ (src.drop f).take body.length = body) ∧ w' = w := by
  obtain ⟨c0, c1, c2, c3, c4, c5, c6, c7, cf⟩ := h.at_
  have hdd := fun w => directs_c x w
  have hd : dirB (L x) = false ∧ N (L x) = some body := by
    unfold stn at hs
    split at hs
    · cases hs
    · rename_i h1; exact ⟨by simpa using h1, hs⟩
  obtain ⟨hh, f, f1, f2, f3⟩ := (hN.2 (L x) (by rw [len_L]; exact hx)).2 body hd.2
  rw [hd.1] at hdd
  have F1 : Hid _ := f1
  have F2 : Hid _ := f2
  have F3 : Hid _ := f3
  obtain ⟨m, hmm⟩ : ∃ m, m = body.length := ⟨_, rfl⟩
  have HM : Hid _ := hmm
  clear hN hs hd f1 f2 f3 hmm
  go_enter Try.func42, Try.ntmps42
  go_wp2_with (first
    | (at_lookup; refine wpList_lookup_own_ok _ rfl _ _ 40 rfl 9 22 lawS Try.underlying40 rdV (zeroTS _) (.held (.slice none 0 0)) [] rfl r.mb nD D rfl hm _ _ rfl (keyS hx) ?_; intro v ps hv; rw [hh])
    | (go_at_call 44; refine (hdd _).mono ?_; rintro e w' ⟨rfl, hw⟩; have hw2 := hw.symm; subst hw2))
  go_ret
  have hv2 := rdV_inv hv
  rw [F3.out] at hv2
  have hv3 := held_inj hv2
  exact ⟨⟨f, by rw [hv3]; rfl, F1.out, F2.out⟩, rfl⟩
end Go.Proofs.Yteohmemifogdlaa

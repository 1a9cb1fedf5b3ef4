/- Texts NsD NsE NsF, joined: what each part says stands ahead of it. -/
import Derived.Test.YtpnhefjiobnelaaGTa
/- Layer 7 of the program: an expression in which each name has a value. -/
namespace Rp
open Go Lg
/-- an expression's data -/
def isX (x : List Dc) : Option (Int × List UInt8 × Nat × List Dc × Int) := match x with
  | [.i op, .t nm, .t _, .b _, .s n ks, .i p] => some (op, nm, n, ks, p)
  | _ => none
theorem isX_eq {x : List Dc} {op : Int} {nm : List UInt8} {n : Nat} {ks : List Dc} {p : Int} (h : isX x = some (op, nm, n, ks, p)) : ∃ vl pl, x = [.i op, .t nm, .t vl, .b pl, .s n ks, .i p] := by
  unfold isX at h
  split at h
  · injection h with h; injection h with e1 h; injection h with e2 h; injection h with e3 h; injection h with e4 e5
    subst e1 e2 e3 e4 e5
    exact ⟨_, _, rfl⟩
  · cases h
def chk {α : Type} (z : Nat) (l : List α) (i : Nat) : List α := (l.drop (i * z)).take z
def vlK (k : Int) : Bool := k == 1 || k == 2 || k == 3 || k == 4
inductive Mv where
  | ex (x : List Dc)
  | ks (n i : Nat) (l : List Dc)
/-- how often parts are looked at, all names being values -/
def vM (fs : List (Asc × Asc)) : Nat → Mv → Nat → Option Nat
  | 0, _, _ => none
  | f + 1, .ex x, k => match isX x with
    | some (op, nm, n, l, _) => if op = 4 ∨ 32768 ≤ k ∨ n * 6 ≠ l.length ∨ 100000 < n ∨ 1000000 < nm.length ∨ ((op = 2 ∨ op = 3) ∧ vlK (kdA fs nm) = false) then none else vM fs f (.ks n 0 l) (k + 1)
    | none => none
  | f + 1, .ks n i l, k => if i = n then some k else match vM fs f (.ex (chk 6 l i)) k with
    | some k1 => vM fs f (.ks n (i + 1) l) k1
    | none => none
end Rp
namespace Go.Proofs.Ytpnhefjiobnelaa
open Go.RowKit Lg Rp Go.Maps
set_option linter.unusedVariables false
set_option linter.unusedSimpArgs false

theorem vlK_eq (k : Int) : vlK k = valK k := by unfold vlK valK netK; rfl
theorem DAt.drop {w : World} {N : Nat → Prop} {a : List Dc} {v : List Value} (h : DAt w N a v) (n : Nat) : DAt w N (a.drop n) (v.drop n) := by
  have e : a = a.take n ++ a.drop n := (List.take_append_drop n a).symm
  rcases Nat.lt_or_ge a.length n with hn | hn
  · rw [List.drop_eq_nil_of_le (by omega), List.drop_eq_nil_of_le (by rw [h.len]; omega)]; exact .nil
  · rw [e] at h
    obtain ⟨x, y, rfl, h1, h2⟩ := h.split
    have : x.length = n := by rw [h1.len, List.length_take]; omega
    rw [List.drop_left' this]
    exact h2
theorem DAt.take {w : World} {N : Nat → Prop} {a : List Dc} {v : List Value} (h : DAt w N a v) (n : Nat) : DAt w N (a.take n) (v.take n) := by
  have e : a = a.take n ++ a.drop n := (List.take_append_drop n a).symm
  rcases Nat.lt_or_ge a.length n with hn | hn
  · rw [List.take_of_length_le (by omega), List.take_of_length_le (by rw [h.len]; omega)]; exact h
  · rw [e] at h
    obtain ⟨x, y, rfl, h1, h2⟩ := h.split
    have : x.length = n := by rw [h1.len, List.length_take]; omega
    rw [List.take_left' this]
    exact h1
theorem DAt.chk {w : World} {N : Nat → Prop} {a : List Dc} {v : List Value} (h : DAt w N a v) (z i : Nat) : DAt w N (chk z a i) (chk z v i) := (h.drop (i * z)).take z
/-- cells from an address on -/
def Cs (w : World) (g o : Nat) (vs : List Value) : Prop := ∀ j u, vs[j]? = some u → w.cell? ⟨g, o + j, none⟩ = some u
theorem Cs.chk {w : World} {g o : Nat} {vs : List Value} (h : Cs w g o vs) (z i : Nat) : Cs w g (o + i * z) (chk z vs i) := by
  intro j u hu
  unfold Rp.chk at hu
  rw [List.getElem?_take] at hu
  split at hu
  · rw [List.getElem?_drop] at hu
    have := h _ _ hu
    rwa [show o + (i * z + j) = o + i * z + j by omega] at this
  · cases hu
theorem Cs.kp {w w' : World} {g o cb : Nat} {vs : List Value} (h : Cs w g o vs) (hk : Kp cb w w') (hg : g < cb) (hl : g < w.heap.size) : Cs w' g o vs := fun j u hu => by
  rw [World.cell?_of_block (w := w) (a := ⟨g, o + j, none⟩) (hk.block g hl (by omega))]; exact h j u hu
/-- an expression at its address -/
structure Xa (w : World) (cb g o : Nat) (x : List Dc) (vs : List Value) : Prop where
  cs : Cs w g o vs
  hg : g < cb
  hl : g < w.heap.size
  d : DAt w (Lt cb) x vs
theorem Xa.kp {w w' : World} {cb g o : Nat} {x : List Dc} {vs : List Value} (h : Xa w cb g o x vs) (hk : Kp cb w w') : Xa w' cb g o x vs := ⟨h.cs.kp hk h.hg h.hl, h.hg, Nat.lt_of_lt_of_le h.hl hk.size, h.d.kpL hk⟩
theorem Xa.at_ {w : World} {cb g o : Nat} {op : Int} {nm vl : List UInt8} {pl : Bool} {n : Nat} {ks : List Dc} {p : Int} {vs : List Value} (h : Xa w cb g o [.i op, .t nm, .t vl, .b pl, .s n ks, .i p] vs) :
    w.cell? ⟨g, o, none⟩ = some (.int .i64 op) ∧ w.cell? ⟨g, o + 1, none⟩ = some (.string (S nm)) ∧ w.cell? ⟨g, o + 5, none⟩ = some (.int .i64 p) ∧ ((n = 0 ∧ w.cell? ⟨g, o + 4, none⟩ = some (.slice none 0 0)) ∨ ∃ gk cp us, w.cell? ⟨g, o + 4, none⟩ = some (.slice (some ⟨gk, 0, none⟩) n cp) ∧ n ≤ cp ∧ gk < cb ∧ gk < w.heap.size ∧ Cs w gk 0 us ∧ DAt w (Lt cb) ks us) := by
  obtain ⟨hc, hg, hl, hd⟩ := h
  cases hd with | i hd => cases hd with | t hd => cases hd with | t hd => cases hd with | b hd => cases hd with
    | s0 hd => cases hd with | i hd => cases hd; exact ⟨hc 0 _ rfl, hc 1 _ rfl, hc 5 _ rfl, Or.inl ⟨rfl, hc 4 _ rfl⟩⟩
    | s hN hgk hcap hu hk hd => cases hd with | i hd => cases hd; exact ⟨hc 0 _ rfl, hc 1 _ rfl, hc 5 _ rfl, Or.inr ⟨_, _, _, hc 4 _ rfl, hcap, hN, hgk, fun j u h => by rw [Nat.zero_add]; exact hu j u h, hk⟩⟩
set_option maxRecDepth 100000 in
set_option maxHeartbeats 1000000 in
/-- the closure of value: the name has a value -/
theorem sVal1 {cb sb g o bx B : Nat} {fs : List (Asc × Asc)} {w : World} (hb : w.cell? ⟨bx, 0, none⟩ = some (.pointer (some ⟨sb, 0, none⟩))) (hC : Ch w cb B fs (some ⟨sb, 0, none⟩)) (nm : List UInt8) (hnm : w.cell? ⟨g, o + 1, none⟩ = some (.string (S nm))) (hx : nm.length ≤ 1000000) (hv : vlK (kdA fs nm) = true) :
    Calls Try.prog 78 #[.pointer (some ⟨g, o, none⟩), .pointer (some ⟨bx, 0, none⟩)] w fun e w' => e = .returned (.tuple #[]) ∧ Below w.heap.size w w' := by
  have HK := sKind (w := w.drew) (hC.keep fun _ _ _ => rfl) (S nm) (by rw [size_S]; unfold maxLen; omega)
  rw [L_S] at HK
  have HV := fun w' => sVal (kdA fs nm) w'
  rw [← vlK_eq, hv] at HV
  obtain ⟨kd, hkd⟩ : ∃ kd, kd = kdA fs nm := ⟨_, rfl⟩
  rw [← hkd] at HK HV
  obtain ⟨sn, hsn⟩ : ∃ sn, sn = S nm := ⟨_, rfl⟩
  rw [← hsn] at HK hnm
  clear hC hv hx hkd hsn
  go_enter Try.func78, Try.ntmps78
  go_wp2
  go_region_with (first
    | (go_at_call 76; refine HK.mono ?_; rintro e w1 ⟨rfl, hw⟩; have hw2 := hw.symm; subst hw2)
    | (go_at_call 79; refine (HV _).mono ?_; rintro e w1 ⟨rfl, hw⟩; have hw2 := hw.symm; subst hw2))
  all_goals go_wp2
  all_goals
    go_end0
    exact ⟨rfl, belD⟩
end Go.Proofs.Ytpnhefjiobnelaa

/- Layer 7 of the program: named, value. -/
namespace Go.Proofs.Ytpnhefjiobnelaa
open Go.RowKit Lg Rp Go.Maps
set_option linter.unusedVariables false
set_option linter.unusedSimpArgs false

theorem vM_ex {fs : List (Asc × Asc)} {f k k' : Nat} {x : List Dc} (h : vM fs (f + 1) (.ex x) k = some k') : ∃ op nm n l p, isX x = some (op, nm, n, l, p) ∧ op ≠ 4 ∧ k < 32768 ∧ n * 6 = l.length ∧ n ≤ 100000 ∧ nm.length ≤ 1000000 ∧ ((op = 2 ∨ op = 3) → vlK (kdA fs nm) = true) ∧ vM fs f (.ks n 0 l) (k + 1) = some k' := by
  rw [vM] at h
  cases hx : isX x with
  | none => rw [hx] at h; cases h
  | some r =>
    obtain ⟨op, nm, n, l, p⟩ := r
    rw [hx] at h
    simp only at h
    split at h
    · cases h
    · rename_i hc
      simp only [not_or] at hc
      obtain ⟨h1, h2, h3, h4, h5, h6⟩ := hc
      refine ⟨op, nm, n, l, p, rfl, h1, by omega, by omega, by omega, by omega, fun ho => ?_, h⟩
      cases hv : vlK (kdA fs nm) with
      | true => rfl
      | false => exact absurd ⟨ho, hv⟩ h6
theorem vM_ks {fs : List (Asc × Asc)} {f n i k k' : Nat} {l : List Dc} (h : vM fs (f + 1) (.ks n i l) k = some k') : (i = n ∧ k' = k) ∨ (i ≠ n ∧ ∃ k1, vM fs f (.ex (chk 6 l i)) k = some k1 ∧ vM fs f (.ks n (i + 1) l) k1 = some k') := by
  rw [vM] at h
  split at h
  · rename_i hi; injection h with h; exact Or.inl ⟨hi, h.symm⟩
  · rename_i hi
    cases h1 : vM fs f (.ex (chk 6 l i)) k with
    | none => rw [h1] at h; cases h
    | some k1 => rw [h1] at h; exact Or.inr ⟨hi, k1, rfl, h⟩
theorem Ch.kp {w w' : World} {cb B : Nat} {fs : List (Asc × Asc)} {p : Option Addr} (h : Ch w cb B fs p) (hk : Kp cb w w') : Ch w' cb B fs p := by
  induction h with
  | nil h => exact .nil h
  | @cons B0 B sb nb db f d fs p h0 h1 h2 h3 h4 hs hn hd ih =>
    have := h0.lo
    exact .cons ih h1 h2 h3 h4 ((hk.block sb (heap_lt hs) (by omega)).trans hs) (hn.keep (hk.block nb hn.lt (by omega))) (hd.keep (hk.block db hd.lt (by omega)))
theorem Xa.op {w : World} {cb g o : Nat} {op : Int} {nm vl : List UInt8} {pl : Bool} {n : Nat} {ks : List Dc} {p : Int} {vs : List Value} (h : Xa w cb g o [.i op, .t nm, .t vl, .b pl, .s n ks, .i p] vs) :
    ∃ ao cp, vs = [.int .i64 op, .string (S nm), .string (S vl), .bool pl, .slice ao n cp, .int .i64 p] ∧ (n = 0 ∨ ∃ gk us, ao = some ⟨gk, 0, none⟩ ∧ n ≤ cp ∧ Xa w cb gk 0 ks us) := by
  obtain ⟨hc, hg, hl, hd⟩ := h
  cases hd with | i hd => cases hd with | t hd => cases hd with | t hd => cases hd with | b hd => cases hd with
    | s0 hd => cases hd with | i hd => cases hd; exact ⟨_, _, rfl, Or.inl rfl⟩
    | s hN hgk hcap hu hk hd => cases hd with | i hd => cases hd; exact ⟨_, _, rfl, Or.inr ⟨_, _, rfl, hcap, ⟨fun j u h => (by rw [Nat.zero_add]; exact hu j u h), hN, hgk, hk⟩⟩⟩
def NvC (cb mb sb bx : Nat) (fs : List (Asc × Asc)) (f : Nat) : Prop := ∀ x k k', vM fs f (.ex x) k = some k' → ∀ w g o vs B, Cb cb mb k w → Xa w cb g o x vs → w.heap[bx]? = some (.cells #[.pointer (some ⟨sb, 0, none⟩)] 91 (0, 0)) → bx ≠ cb → Ch w cb B fs (some ⟨sb, 0, none⟩) →
  Calls Try.prog 77 #[.pointer (some ⟨cb, 0, none⟩), .pointer (some ⟨g, o, none⟩), .func (.func 78) #[] #[.pointer (some ⟨bx, 0, none⟩)]] w fun e w' => e = .returned (.tuple #[]) ∧ Cb cb mb k' w' ∧ Kp cb w w'
set_option maxRecDepth 100000 in
set_option maxHeartbeats 4000000 in
theorem sNamedV {cb mb sb bx : Nat} {fs : List (Asc × Asc)} {F : Nat} (IH0 : ∀ f, f ≤ F → NvC cb mb sb bx fs f) : NvC cb mb sb bx fs (F + 1) := by
  intro x k k' hq w g o vs B hc hX hbx hbn hC
  obtain ⟨op, nm, n, l, p, hx, ho4, hk, hnl, hn, hnm, hv, hks⟩ := vM_ex hq
  obtain ⟨vl, pl, rfl⟩ := isX_eq hx
  have IH : Hid _ := IH0
  have HL := sLookC hc hk
  have HX : Hid _ := hX
  have HC : Hid _ := hC
  have HB : Hid _ := hbx
  have HQ : Hid _ := hks
  have hlo := hX.hg
  have HE := fun w' (hw : Kp cb w w') (ho : op = 2 ∨ op = 3) => sVal1 (cb := cb) (sb := sb) (g := g) (o := o) (bx := bx) (B := B) (fs := fs) (w := w') (by rw [Lib.cell_of_heap (hw.at_ hbx hbn)]; rfl) (hC.kp hw) nm ((hX.kp hw).at_.2.1) hnm (hv ho)
  have hbO := hC.lo
  have o4 : (op == 4) = false := by simpa using ho4
  obtain ⟨ao, cp, rfl, hkid⟩ := hX.op
  have HKID : Hid _ := hkid
  have hG : ∀ w', Kp cb w w' → w'.cell? ⟨g, o, none⟩ = some (.int .i64 op) ∧ w'.cell? ⟨g, o + 4, none⟩ = some (.slice ao n cp) ∧ g < w'.heap.size := fun w' hw => ⟨(hX.kp hw).cs 0 _ rfl, (hX.kp hw).cs 4 _ rfl, (hX.kp hw).hl⟩
  have HG : Hid _ := hG
  have HBN : Hid _ := hbn
  have hw1 : ∀ i : Nat, i ≤ 100000 → IntKind.i64.wrap ((i : Int) + 1) = ((i + 1 : Nat) : Int) := fun i hi => by rw [IntKind.wrap_i64]; omega
  clear hq hc hX hbx hC hks hv hx ho4 IH0 hkid hG
  by_cases ho : op = 2 ∨ op = 3
  · have HE2 := fun w' hw => HE w' hw ho
    have o23 : (op == 2) = true ∨ ((op == 2) = false ∧ (op == 3) = true) := by
      rcases ho with rfl | rfl
      · exact Or.inl rfl
      · exact Or.inr ⟨rfl, rfl⟩
    clear HE ho
    rcases o23 with o2 | ⟨o2, o3⟩
    all_goals
      go_enter Try.func77, Try.ntmps77
      go_wp2_with (first
        | (go_at_call 78; refine (HE2 _ hk1).mono ?_; rintro e w2 ⟨rfl, hb2⟩; have hK2 : Kp cb w w2 := hk1.trans (Kp.of hb2); have hc2 := hc1.keep (hb2.block cb (heap_lt hc1)); have hg2 := HG.out _ hK2; obtain ⟨q0, q4, ql⟩ := hg2)
        | (go_at_call 34; refine HL.mono ?_; rintro e w1 ⟨rfl, hc1, hk1⟩; have hg1 := HG.out _ hk1; obtain ⟨x0, x4, xl⟩ := hg1))
      go_loopw [29] (fun v wr => ∃ (f' i kz : Nat), f' ≤ F ∧ i ≤ n ∧ v = .int .i64 i ∧ Hid (vM fs f' (.ks n i l) kz = some k') ∧ Hid (Cb cb mb kz wr) ∧ Hid (Kp cb w wr)) (fun v _ => n - (intOf v).toNat)
      case atStart => exact ⟨F, 0, k + 1, Nat.le_refl _, Nat.zero_le _, rfl, HQ, hc2, hK2⟩
      case round =>
        obtain ⟨f', i, kz, hf', hi, rfl, HQ2, HCB, HKP⟩ := hrel
        have hnI : (n : Int) ≤ 100000 := by omega
        cases f' with
        | zero => have := HQ2.out; rw [vM] at this; cases this
        | succ f' =>
          rcases vM_ks HQ2.out with ⟨rfl, rfl⟩ | ⟨hne, k1', h1, h2⟩
          · go_wp2
            go_end0
            exact ⟨rfl, HCB.out, HKP.out⟩
          · have hlt : i < n := by omega
            have hltI : (i : Int) < (n : Int) := by omega
            obtain ⟨r0, r4, rl⟩ := HG.out _ HKP.out
            rcases HKID.out with h0 | ⟨gk, us, rfl, hcp, hXk⟩
            · omega
            · have hX3 := hXk.kp HKP.out
              have HR := IH.out f' (by omega) _ _ _ h1 wr gk (i * 6) (chk 6 us i) B HCB.out ⟨by have := hX3.cs.chk 6 i; rwa [Nat.zero_add] at this, hX3.hg, hX3.hl, hX3.d.chk 6 i⟩ (HKP.out.at_ HB.out HBN.out) HBN.out (HC.out.kp HKP.out)
              have HN : Hid _ := h2
              have hww := hw1 i (by omega)
              clear h1 h2
              go_wp2_with (first
                | (go_at_call 77; refine HR.mono ?_; rintro e w5 ⟨rfl, hc5, hk5⟩))
              go_roundw
              case rel => exact ⟨f', i + 1, k1', by omega, by omega, by go_num, HN.out, hc5, HKP.out.trans hk5⟩
              case measure => simp [intOf]; omega
  · have o2 : (op == 2) = false := by simp; exact fun e => ho (Or.inl e)
    have o3 : (op == 3) = false := by simp; exact fun e => ho (Or.inr e)
    clear HE ho
    go_enter Try.func77, Try.ntmps77
    go_wp2_with (first
      | (go_at_call 34; refine HL.mono ?_; rintro e w1 ⟨rfl, hc1, hk1⟩; have hg1 := HG.out _ hk1; obtain ⟨x0, x4, xl⟩ := hg1))
    go_loopw [29] (fun v wr => ∃ (f' i kz : Nat), f' ≤ F ∧ i ≤ n ∧ v = .int .i64 i ∧ Hid (vM fs f' (.ks n i l) kz = some k') ∧ Hid (Cb cb mb kz wr) ∧ Hid (Kp cb w wr)) (fun v _ => n - (intOf v).toNat)
    case atStart => exact ⟨F, 0, k + 1, Nat.le_refl _, Nat.zero_le _, rfl, HQ, hc1, hk1⟩
    case round =>
      obtain ⟨f', i, kz, hf', hi, rfl, HQ2, HCB, HKP⟩ := hrel
      have hnI : (n : Int) ≤ 100000 := by omega
      cases f' with
      | zero => have := HQ2.out; rw [vM] at this; cases this
      | succ f' =>
        rcases vM_ks HQ2.out with ⟨rfl, rfl⟩ | ⟨hne, k1', h1, h2⟩
        · go_wp2
          go_end0
          exact ⟨rfl, HCB.out, HKP.out⟩
        · have hlt : i < n := by omega
          have hltI : (i : Int) < (n : Int) := by omega
          obtain ⟨r0, r4, rl⟩ := HG.out _ HKP.out
          rcases HKID.out with h0 | ⟨gk, us, rfl, hcp, hXk⟩
          · omega
          · have hX3 := hXk.kp HKP.out
            have HR := IH.out f' (by omega) _ _ _ h1 wr gk (i * 6) (chk 6 us i) B HCB.out ⟨by have := hX3.cs.chk 6 i; rwa [Nat.zero_add] at this, hX3.hg, hX3.hl, hX3.d.chk 6 i⟩ (HKP.out.at_ HB.out HBN.out) HBN.out (HC.out.kp HKP.out)
            have HN : Hid _ := h2
            have hww := hw1 i (by omega)
            clear h1 h2
            go_wp2_with (first
              | (go_at_call 77; refine HR.mono ?_; rintro e w5 ⟨rfl, hc5, hk5⟩))
            go_roundw
            case rel => exact ⟨f', i + 1, k1', by omega, by omega, by go_num, HN.out, hc5, HKP.out.trans hk5⟩
            case measure => simp [intOf]; omega
end Go.Proofs.Ytpnhefjiobnelaa

/- Layer 7 of the program: value; the names of an item. -/
namespace Rp
open Go Lg
def gI (x : List Dc) (j : Nat) : Option Int := match x[j]? with | some (.i z) => some z | _ => none
def gT (x : List Dc) (j : Nat) : Option (List UInt8) := match x[j]? with | some (.t z) => some z | _ => none
def gS (x : List Dc) (j : Nat) : Option (Nat × List Dc) := match x[j]? with | some (.s n l) => some (n, l) | _ => none
/-- a name that a scope gets -/
def dcl (a : Asc) (k : Nat) (x : List UInt8) (kd : Int) : Option (Asc × Nat) := if 32768 ≤ k ∨ 1000000 < x.length ∨ 900000 < a.length ∨ (lk a x).isSome = true then none else some ((x, kd) :: a, k + 1)
/-- names, one by one -/
def nmS (kd : Int) : List Dc → Asc → Nat → Option (Asc × Nat)
  | [], a, k => some (a, k)
  | .t x :: r, a, k => match dcl a k x kd with
    | some (a1, k1) => nmS kd r a1 k1
    | none => none
  | _ :: _, _, _ => none
/-- the names of an item -/
def nmI (x : List Dc) (a : Asc) (k : Nat) : Option (Asc × Nat) := match gI x 0 with
  | some kd => if kd = 1 then (match gS x 2 with | some (n, l) => if n = l.length ∧ n ≤ 100000 then nmS 2 l a k else none | none => none)
    else if kd = 4 ∨ kd = 5 then some (a, k)
    else if kd = 8 then (match gT x 1 with | some nm => dcl a k nm 5 | none => none) else none
  | none => none
end Rp
namespace Go.Proofs.Ytpnhefjiobnelaa
open Go.RowKit Lg Rp Go.Maps
set_option linter.unusedVariables false
set_option linter.unusedSimpArgs false

theorem gI_eq {x : List Dc} {j : Nat} {z : Int} (h : gI x j = some z) : x[j]? = some (.i z) := by
  unfold gI at h; split at h
  · rename_i e; injection h with h; subst h; exact e
  · cases h
theorem gT_eq {x : List Dc} {j : Nat} {z : List UInt8} (h : gT x j = some z) : x[j]? = some (.t z) := by
  unfold gT at h; split at h
  · rename_i e; injection h with h; subst h; exact e
  · cases h
theorem gS_eq {x : List Dc} {j n : Nat} {l : List Dc} (h : gS x j = some (n, l)) : x[j]? = some (.s n l) := by
  unfold gS at h; split at h
  · rename_i e; injection h with h; injection h with h1 h2; subst h1 h2; exact e
  · cases h
theorem DAt.get {w : World} {N : Nat → Prop} {x : List Dc} {vs : List Value} (h : DAt w N x vs) {j : Nat} {d : Dc} (hj : x[j]? = some d) : ∃ v, vs[j]? = some v ∧ DAt w N [d] [v] := by
  have e : x = x.take j ++ d :: x.drop (j + 1) := by
    have hl : j < x.length := by rcases Nat.lt_or_ge j x.length with h | h; exact h; rw [List.getElem?_eq_none h] at hj; cases hj
    have e1 : x.drop j = d :: x.drop (j + 1) := by
      rw [List.drop_eq_getElem_cons hl]
      rw [List.getElem?_eq_getElem hl] at hj
      injection hj with hj
      rw [hj]
    rw [← e1, List.take_append_drop]
  have hl : j < x.length := by rcases Nat.lt_or_ge j x.length with h | h; exact h; rw [List.getElem?_eq_none h] at hj; cases hj
  rw [e] at h
  obtain ⟨a, b, rfl, h1, h2⟩ := h.split
  have hal : a.length = j := by rw [h1.len, List.length_take]; omega
  have h3 : DAt w N ([d] ++ x.drop (j + 1)) b := h2
  obtain ⟨c, e2, rfl, h4, h5⟩ := h3.split
  have hcl := h4.len
  match c, hcl with
  | [v], _ => exact ⟨v, by rw [List.getElem?_append_right (by omega), hal, Nat.sub_self]; rfl, h4⟩
theorem Xa.i {w : World} {cb g o : Nat} {x : List Dc} {vs : List Value} (h : Xa w cb g o x vs) {j : Nat} {z : Int} (hj : gI x j = some z) : w.cell? ⟨g, o + j, none⟩ = some (.int .i64 z) := by
  obtain ⟨v, h1, h2⟩ := h.d.get (gI_eq hj)
  cases h2 with | i _ => exact h.cs _ _ h1
theorem Xa.t {w : World} {cb g o : Nat} {x : List Dc} {vs : List Value} (h : Xa w cb g o x vs) {j : Nat} {z : List UInt8} (hj : gT x j = some z) : w.cell? ⟨g, o + j, none⟩ = some (.string (S z)) := by
  obtain ⟨v, h1, h2⟩ := h.d.get (gT_eq hj)
  cases h2 with | t _ => exact h.cs _ _ h1
theorem Xa.s {w : World} {cb g o : Nat} {x : List Dc} {vs : List Value} (h : Xa w cb g o x vs) {j n : Nat} {l : List Dc} (hj : gS x j = some (n, l)) : ∃ ao cp, vs[j]? = some (.slice ao n cp) ∧ w.cell? ⟨g, o + j, none⟩ = some (.slice ao n cp) ∧ (n = 0 ∨ ∃ gk us, ao = some ⟨gk, 0, none⟩ ∧ n ≤ cp ∧ Xa w cb gk 0 l us) := by
  obtain ⟨v, h1, h2⟩ := h.d.get (gS_eq hj)
  cases h2 with
  | s0 _ => exact ⟨_, _, h1, h.cs _ _ h1, Or.inl rfl⟩
  | s hN hgk hcap hu hk _ => exact ⟨_, _, h1, h.cs _ _ h1, Or.inr ⟨_, _, rfl, hcap, ⟨fun j u h => (by rw [Nat.zero_add]; exact hu j u h), hN, hgk, hk⟩⟩⟩
theorem Xa.sub {w : World} {cb g o : Nat} {x : List Dc} {vs : List Value} (h : Xa w cb g o x vs) (a z : Nat) : Xa w cb g (o + a) ((x.drop a).take z) ((vs.drop a).take z) := by
  refine ⟨fun j u hu => ?_, h.hg, h.hl, (h.d.drop a).take z⟩
  rw [List.getElem?_take] at hu
  split at hu
  · rw [List.getElem?_drop] at hu
    have := h.cs _ _ hu
    rwa [show o + (a + j) = o + a + j by omega] at this
  · cases hu
theorem Xa.kz {w w' : World} {cb nb db g o : Nat} {x : List Dc} {vs : List Value} (h : Xa w cb g o x vs) (hk : Kz cb nb db w w') (h1 : cb < nb) (h2 : cb < db) : Xa w' cb g o x vs := by
  have hg := h.hg
  exact ⟨fun j u hu => by rw [World.cell?_of_block (w := w) (a := ⟨g, o + j, none⟩) (hk.block g h.hl (by omega) (by omega) (by omega))]; exact h.cs j u hu, h.hg, Nat.lt_of_lt_of_le h.hl hk.size, h.d.kz hk h1 h2⟩
theorem sNv {cb mb sb bx : Nat} {fs : List (Asc × Asc)} : ∀ F f, f ≤ F → NvC cb mb sb bx fs f := by
  intro F
  induction F with
  | zero =>
    intro f hf x k k' h
    have h0 : f = 0 := Nat.le_zero.1 hf
    subst h0
    rw [vM] at h; cases h
  | succ F ih =>
    intro f hf
    cases f with
    | zero => intro x k k' h; rw [vM] at h; cases h
    | succ f => exact sNamedV (fun f' hf' => ih f' (by omega))
set_option maxRecDepth 100000 in
set_option maxHeartbeats 1000000 in
theorem sValue {cb mb k k' sb nb db g o f0 : Nat} {f d : Asc} {fs : List (Asc × Asc)} {p : Option Addr} {w : World} {x : List Dc} {vs : List Value} (hq : vM ((f, d) :: fs) f0 (.ex x) k = some k') (hc : Cb cb mb k w) (h : Sc w cb sb nb db f d fs p) (hX : Xa w cb g o x vs) :
    Calls Try.prog 66 #[.pointer (some ⟨cb, 0, none⟩), .pointer (some ⟨sb, 0, none⟩), .pointer (some ⟨g, o, none⟩)] w fun e w' => e = .returned (.tuple #[]) ∧ Cb cb mb k' w' ∧ Kp cb w w' := by
  have hcl := heap_lt hc
  have HN := fun o' => sNv (cb := cb) (mb := mb) (sb := sb) (bx := w.heap.size) (fs := (f, d) :: fs) f0 f0 (Nat.le_refl _) x k k' hq (w.alloc o') g o vs (sb + 1) (hc.keep (bxS.block cb hcl)) (hX.kp (Kp.of bxS))
  have HC := fun o' => (h.below (bxS (o := o'))).ch
  have HL := fun o' => heap_alloc_last w o'
  have hne : w.heap.size ≠ cb := by omega
  clear hq hc h hX
  go_enter Try.func66, Try.ntmps66
  go_wp2_with (first
    | (go_at_call 77; refine (HN _ (HL _) hne (HC _)).mono ?_; rintro e w1 ⟨rfl, hc1, hk1⟩))
  go_end0
  exact ⟨rfl, hc1, (Kp.of bxS).trans hk1⟩
theorem dcl_eq {a a' : Asc} {k k' : Nat} {x : List UInt8} {kd : Int} (h : dcl a k x kd = some (a', k')) : k < 32768 ∧ x.length ≤ 1000000 ∧ a.length + 1 < 1000000 ∧ lk a x = none ∧ a' = (x, kd) :: a ∧ k' = k + 1 := by
  unfold dcl at h
  split at h
  · cases h
  · rename_i hc
    simp only [not_or] at hc
    obtain ⟨h1, h2, h3, h4⟩ := hc
    injection h with h; injection h with e1 e2
    refine ⟨by omega, by omega, by omega, ?_, e1.symm, e2.symm⟩
    cases hl : lk a x with
    | none => rfl
    | some v => rw [hl] at h4; exact absurd rfl h4
theorem sDcl {cb mb k k' sb nb db : Nat} {f f' d : Asc} {fs : List (Asc × Asc)} {p : Option Addr} {w : World} {x : List UInt8} {kd : Int} (hq : dcl f k x kd = some (f', k')) (hkd : kd ≠ 0 ∧ (-10 ≤ kd ∧ kd ≤ 10)) (hc : Cb cb mb k w) (h : Sc w cb sb nb db f d fs p) (at_ : Int) :
    Calls Try.prog 38 #[.pointer (some ⟨cb, 0, none⟩), .pointer (some ⟨sb, 0, none⟩), .string (S x), .int .i64 kd, .int .i64 at_] w fun e w' => e = .returned (.tuple #[]) ∧ Cb cb mb k' w' ∧ Sc w' cb sb nb db f' d fs p ∧ Kz cb nb db w w' := by
  obtain ⟨h1, h2, h3, h4, rfl, rfl⟩ := dcl_eq hq
  have := sDeclare hc h1 h (S x) (by rw [size_S]; unfold maxLen; omega) kd hkd (by rw [L_S]; exact h4) h3 at_
  rw [L_S] at this
  exact this
end Go.Proofs.Ytpnhefjiobnelaa

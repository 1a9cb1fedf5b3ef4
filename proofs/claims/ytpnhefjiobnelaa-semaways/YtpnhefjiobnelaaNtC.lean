/- Layer 7 of the program: statements on one way. -/
import Derived.Test.YtpnhefjiobnelaaNtB
namespace Go.Proofs.Ytpnhefjiobnelaa
open Go.RowKit Lg Rp Go.Maps
set_option linter.unusedVariables false
set_option linter.unusedSimpArgs false

theorem zM_one {tg : Asc} {F k n k' n' : Nat} {x : List Dc} {so so' : Option (List UInt8)} {fr : List (List UInt8)} (h : zM tg (F + 1) (.one x) so k n = some (fr, so', k', n')) : k < 32768 ∧
    ((∃ nm k1, gI x 0 = some 1 ∧ gT x 1 = some nm ∧ rM tg F (.ex ((x.drop 2).take 6)) (k + 1) = some k1 ∧ stM tg nm k1 so n = some (fr, so', k', n')) ∨
     (∃ k1 n1 bd n2 el f1 s1 k2 m2 s1' f2 s2 m3 s2', gI x 0 = some 3 ∧ rM tg F (.ex ((x.drop 2).take 6)) (k + 1) = some k1 ∧ gS x 8 = some (n1, bd) ∧ gS x 9 = some (n2, el) ∧ n1 ≤ 100000 ∧ n2 ≤ 100000 ∧ zM tg F (.many n1 0 bd []) so k1 n = some (f1, s1, k2, m2) ∧ wyM f1 s1 = some s1' ∧ zM tg F (.many n2 0 el []) s1' k2 m2 = some (f2, s2, k', m3) ∧ wyM f2 s2 = some s2' ∧ bhM s2' m3 f1 f2 = some (fr, so', n'))) := by
  rw [zM] at h
  split at h
  · cases h
  · rename_i hk
    refine ⟨by omega, ?_⟩
    rw [Option.bind_eq_some_iff] at h
    obtain ⟨kd, h0, h⟩ := h
    split at h
    · rename_i e1
      subst e1
      left
      rw [Option.bind_eq_some_iff] at h
      obtain ⟨nm, h1, h⟩ := h
      rw [Option.bind_eq_some_iff] at h
      obtain ⟨k1, h2, h⟩ := h
      exact ⟨nm, k1, h0, h1, h2, h⟩
    · split at h
      · rename_i e1
        subst e1
        right
        rw [Option.bind_eq_some_iff] at h
        obtain ⟨k1, h1, h⟩ := h
        rw [Option.bind_eq_some_iff] at h
        obtain ⟨⟨n1, bd⟩, h2, h⟩ := h
        rw [Option.bind_eq_some_iff] at h
        obtain ⟨⟨n2, el⟩, h3, h⟩ := h
        split at h
        · rename_i hc
          rw [Option.bind_eq_some_iff] at h
          obtain ⟨⟨f1, s1, k2, m2⟩, h4, h⟩ := h
          rw [Option.bind_eq_some_iff] at h
          obtain ⟨s1', h5, h⟩ := h
          rw [Option.bind_eq_some_iff] at h
          obtain ⟨⟨f2, s2, k3, m3⟩, h6, h⟩ := h
          rw [Option.bind_eq_some_iff] at h
          obtain ⟨s2', h7, h⟩ := h
          rw [Option.bind_eq_some_iff] at h
          obtain ⟨⟨q1, q2, q3⟩, h8, h⟩ := h
          simp only [Option.some.injEq, Prod.mk.injEq] at h
          obtain ⟨rfl, rfl, rfl, rfl⟩ := h
          exact ⟨k1, n1, bd, n2, el, f1, s1, k2, m2, s1', f2, s2, m3, s2', h0, h1, h2, h3, hc.1, hc.2, h4, h5, h6, h7, h8⟩
        · cases h
      · cases h
theorem zM_many {tg : Asc} {F n i k m : Nat} {l : List Dc} {acc : List (List UInt8)} {so : Option (List UInt8)} {r : Zr} (h : zM tg (F + 1) (.many n i l acc) so k m = some r) : (i = n ∧ r = (acc, so, k, m)) ∨ (i ≠ n ∧ ∃ f1 s1 k1 m1 acc', zM tg F (.one (chk 12 l i)) so k m = some (f1, s1, k1, m1) ∧ apM acc f1 = some acc' ∧ zM tg F (.many n (i + 1) l acc') s1 k1 m1 = some r) := by
  rw [zM] at h
  split at h
  · rename_i hi; injection h with h; exact Or.inl ⟨hi, h.symm⟩
  · rename_i hi
    rw [Option.bind_eq_some_iff] at h
    obtain ⟨⟨f1, s1, k1, m1⟩, h1, h⟩ := h
    rw [Option.bind_eq_some_iff] at h
    obtain ⟨acc', h2, h⟩ := h
    exact Or.inr ⟨hi, f1, s1, k1, m1, acc', h1, h2, h⟩
theorem apM_two {acc f1 acc' : List (List UInt8)} (h : apM acc f1 = some acc') : (f1 = [] ∧ acc' = acc) ∨ ∃ x, f1 = [x] ∧ acc = [] ∧ acc' = [x] := by
  cases f1 with
  | nil => left; unfold apM at h; injection h with h; exact ⟨rfl, h.symm⟩
  | cons x l =>
    right
    unfold apM at h
    simp only at h
    split at h
    · rename_i hc
      obtain ⟨rfl, rfl⟩ := hc
      injection h with h
      exact ⟨x, rfl, rfl, h.symm⟩
    · cases h
theorem Fr.kz {w w' : World} {cb ub B : Nat} {fr : List (List UInt8)} {v : Value} (h : Fr w B fr v) (hk : Kz cb ub ub w w') (h1 : cb < B) (h2 : ub < B) : Fr w' B fr v := by
  rcases h with ⟨rfl, rfl⟩ | ⟨x, gd, cp, rfl, rfl, g1, g2, g3, g4⟩
  · exact Or.inl ⟨rfl, rfl⟩
  · exact Or.inr ⟨x, gd, cp, rfl, rfl, g1, g2, Nat.lt_of_lt_of_le g3 hk.size, (World.cell?_of_block (w := w) (a := ⟨gd, 0, none⟩) (hk.block gd g3 (by omega) (by omega) (by omega))).trans g4⟩
theorem Fr.bel {w w' : World} {B : Nat} {fr : List (List UInt8)} {v : Value} (h : Fr w B fr v) (hk : Below w.heap.size w w') : Fr w' B fr v := by
  rcases h with ⟨rfl, rfl⟩ | ⟨x, gd, cp, rfl, rfl, g1, g2, g3, g4⟩
  · exact Or.inl ⟨rfl, rfl⟩
  · exact Or.inr ⟨x, gd, cp, rfl, rfl, g1, g2, Nat.lt_of_lt_of_le g3 hk.size, (World.cell?_of_block (w := w) (a := ⟨gd, 0, none⟩) (hk.block gd g3)).trans g4⟩
theorem Fr.mono {w : World} {B B' : Nat} {fr : List (List UInt8)} {v : Value} (h : Fr w B fr v) (hB : B' ≤ B) : Fr w B' fr v := by
  rcases h with ⟨rfl, rfl⟩ | ⟨x, gd, cp, rfl, rfl, g1, g2, g3, g4⟩
  · exact Or.inl ⟨rfl, rfl⟩
  · exact Or.inr ⟨x, gd, cp, rfl, rfl, by omega, g2, g3, g4⟩
theorem Fr.slice_ {w : World} {B : Nat} {fr : List (List UInt8)} {v : Value} (h : Fr w B fr v) : ∃ ao m cp, v = .slice ao m cp ∧ m ≤ cp := by
  rcases h with ⟨rfl, rfl⟩ | ⟨x, gd, cp, rfl, rfl, g1, g2, g3, g4⟩
  · exact ⟨_, _, _, rfl, Nat.le_refl _⟩
  · exact ⟨_, _, _, rfl, g2⟩
/-- one statement's contract -/
def ZsC (cb mb ab tb ub : Nat) (tg : Asc) (F : Nat) : Prop := ∀ x g o vs so so' fr k k' n n' w, zM tg F (.one x) so k n = some (fr, so', k', n') → Pz cb mb k ab tb ub n tg so w → Xa w cb g o x vs →
  Calls Try.prog 91 #[.pointer (some ⟨ab, 0, none⟩), .pointer (some ⟨g, o, none⟩)] w fun e w' => (∃ v, e = .returned v ∧ Fr w' w.heap.size fr v) ∧ Pz cb mb k' ab tb ub n' tg so' w' ∧ Kz cb ub ub w w'
set_option maxRecDepth 100000 in
set_option maxHeartbeats 8000000 in
theorem zStmts {cb mb ab tb ub : Nat} {tg : Asc} {F : Nat} (IH0 : ∀ F', F' < F → ZsC cb mb ab tb ub tg F') {n k k' m m' cp : Nat} {l : List Dc} {so so' : Option (List UInt8)} {fr : List (List UInt8)} {ao : Option Addr} {w : World} (hq : zM tg F (.many n 0 l []) so k m = some (fr, so', k', m')) (hn : n ≤ 100000) (h : Pz cb mb k ab tb ub m tg so w) (hkid : n = 0 ∨ ∃ gk us, ao = some ⟨gk, 0, none⟩ ∧ n ≤ cp ∧ Xa w cb gk 0 l us) :
    Calls Try.prog 88 #[.pointer (some ⟨ab, 0, none⟩), .slice ao n cp] w fun e w' => (∃ v, e = .returned v ∧ Fr w' w.heap.size fr v) ∧ Pz cb mb k' ab tb ub m' tg so' w' ∧ Kz cb ub ub w w' := by
  have hlt0 : cb < ub := by have := h.h.l1; have := h.l3; omega
  have hul := h.u.lt
  have IH : Hid (∀ F', F' < F → ZsC cb mb ab tb ub tg F') := IH0
  have HQ : Hid (zM tg F (.many n 0 l []) so k m = some (fr, so', k', m')) := hq
  have HP : Hid (Pz cb mb k ab tb ub m tg so w) := h
  have HK : Hid (n = 0 ∨ ∃ gk us, ao = some ⟨gk, 0, none⟩ ∧ n ≤ cp ∧ Xa w cb gk 0 l us) := hkid
  have hw1 : ∀ i : Nat, i ≤ 100000 → IntKind.i64.wrap ((i : Int) + 1) = ((i + 1 : Nat) : Int) := fun i hi => by rw [IntKind.wrap_i64]; omega
  have hnI : (n : Int) ≤ 100000 := by omega
  clear IH0 hq h hkid
  go_enter Try.func88, Try.ntmps88
  go_wp2
  go_loopw [9, 5] (fun v u w2 => ∃ (F' i kz mz : Nat) (sz : Option (List UInt8)) (acc : List (List UInt8)) (uo : Option Addr) (um uc : Nat), F' ≤ F ∧ i ≤ n ∧ um ≤ uc ∧ v = .int .i64 i ∧ u = .slice uo um uc ∧ Hid (zM tg F' (.many n i l acc) sz kz mz = some (fr, so', k', m')) ∧ Hid (Fr w2 w.heap.size acc (.slice uo um uc)) ∧ Hid (Pz cb mb kz ab tb ub mz tg sz w2) ∧ Hid (Kz cb ub ub w w2)) (fun v _ _ => n - (intOf v).toNat)
  case atStart => exact ⟨F, 0, k, m, so, [], none, 0, 0, Nat.le_refl _, Nat.zero_le _, Nat.le_refl _, rfl, rfl, HQ, Or.inl ⟨rfl, rfl⟩, HP, Kz.refl _ _ _ _⟩
  case round =>
    obtain ⟨F', i, kz, mz, sz, acc, uo, um, uc, hF, hi, huc, rfl, rfl, HQ2, HFR, HP2, HKZ⟩ := hrel
    cases F' with
    | zero => have := HQ2.out; rw [zM] at this; cases this
    | succ F' =>
      rcases zM_many HQ2.out with ⟨rfl, he⟩ | ⟨hne, f1, s1, k1, m1, acc', h1, hap, hrest⟩
      · simp only [Prod.mk.injEq] at he
        obtain ⟨rfl, rfl, rfl, rfl⟩ := he
        go_wp2
        go_ret
        exact ⟨⟨_, rfl, HFR.out⟩, HP2.out, HKZ.out⟩
      · have hlt : i < n := by omega
        have hltI : (i : Int) < (n : Int) := by omega
        rcases HK.out with h0 | ⟨gk, us, rfl, hcp, hXk⟩
        · omega
        · have hX3 := hXk.kz2 HKZ.out hlt0
          have hXi : Xa wr cb gk (i * 12) (chk 12 l i) (chk 12 us i) := ⟨by have := hX3.cs.chk 12 i; rwa [Nat.zero_add] at this, hX3.hg, hX3.hl, hX3.d.chk 12 i⟩
          have HS := IH.out F' (by omega) _ _ _ _ _ _ _ _ _ _ _ _ h1 HP2.out hXi
          have hww := hw1 i (by omega)
          have HNX : Hid (zM tg F' (.many n (i + 1) l acc') s1 k1 m1 = some (fr, so', k', m')) := hrest
          rcases apM_two hap with ⟨rfl, rfl⟩ | ⟨x, rfl, rfl, rfl⟩
          · have HS2 : Calls Try.prog 91 #[.pointer (some ⟨ab, 0, none⟩), .pointer (some ⟨gk, i * 12, none⟩)] wr fun e w' => e = .returned (.slice none 0 0) ∧ Pz cb mb k1 ab tb ub m1 tg s1 w' ∧ Kz cb ub ub wr w' :=
              HS.mono fun e w' ⟨⟨v, e1, e2⟩, e3, e4⟩ => by
                rcases e2 with ⟨_, rfl⟩ | ⟨y, _, _, hy, _⟩
                · exact ⟨e1, e3, e4⟩
                · cases hy
            clear HS hX3 hXi hXk h1 hrest hap
            go_wp2_with (first
              | (go_at_call 91; refine HS2.mono ?_; rintro e w5 ⟨rfl, hp5, hk5⟩)
              | (refine wpl_app0s rfl _ _ rfl uo none um uc 0 rfl rfl huc ?_))
            go_roundw
            case rel => exact ⟨F', i + 1, k1, m1, s1, acc', uo, um, uc, by omega, by omega, huc, by go_num, rfl, HNX.out, HFR.out.kz hk5 (by omega) hul, hp5, HKZ.out.trans hk5⟩
            case measure => simp [intOf]; omega
          · have HS2 : Calls Try.prog 91 #[.pointer (some ⟨ab, 0, none⟩), .pointer (some ⟨gk, i * 12, none⟩)] wr fun e w' => ∃ gd cp, e = .returned (.slice (some ⟨gd, 0, none⟩) 1 cp) ∧ w'.cell? ⟨gd, 0, none⟩ = some (.string (S x)) ∧ Pz cb mb k1 ab tb ub m1 tg s1 w' ∧ Kz cb ub ub wr w' :=
              HS.mono fun e w' ⟨⟨v, e1, e2⟩, e3, e4⟩ => by
                rcases e2 with ⟨hy, _⟩ | ⟨y, gd, cp, hy, rfl, q1, q2, q3, q4⟩
                · cases hy
                · injection hy with hy; subst hy; exact ⟨gd, cp, e1, q4, e3, e4⟩
            have huo : uo = none ∧ um = 0 ∧ uc = 0 := by
              rcases HFR.out with ⟨_, e⟩ | ⟨y, _, _, hy, _⟩
              · injection e with e1 e2 e3; exact ⟨e1, e2, e3⟩
              · cases hy
            obtain ⟨rfl, rfl, rfl⟩ := huo
            obtain ⟨sx, hsx⟩ : ∃ sx, sx = S x := ⟨_, rfl⟩
            rw [← hsx] at HS2
            have HSX : Hid (sx = S x) := hsx
            clear HS hX3 hXi hXk h1 hrest hap hsx
            go_wp2_with (first
              | (go_at_call 91; refine HS2.mono ?_; rintro e w5 ⟨gd5, cp5, rfl, q5, hp5, hk5⟩)
              | (refine wpl_app1s rfl _ _ rfl gd5 cp5 sx rfl rfl q5 ?_; intro ga ca w6 r1 r2 r3 r4 r5))
            go_roundw
            case rel =>
              have a1 := HKZ.out.size
              have a2 := hk5.size
              exact ⟨F', i + 1, k1, m1, s1, [x], some ⟨ga, 0, none⟩, 1, ca, by omega, by omega, r2, by go_num, rfl, HNX.out, Or.inr ⟨x, ga, ca, rfl, rfl, by omega, r2, r3, by rw [← HSX.out]; exact r4⟩, hp5.below r5, (HKZ.out.trans hk5).trans (Kz.of r5)⟩
            case measure => simp [intOf]; omega
end Go.Proofs.Ytpnhefjiobnelaa

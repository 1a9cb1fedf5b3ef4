/- Layer 2, the reference: all tokens of a source. -/
import Derived.Test.YtpnhefjiobnelaaGYc
import Derived.Test.YtpnhefjiobnelaaGX
namespace Go.Proofs.Ytpnhefjiobnelaa
open Go.RowKit Lg
set_option linter.unusedVariables false
set_option linter.unusedSimpArgs false

set_option maxHeartbeats 400000 in
theorem fails_c (p c : Int) (w : World) : Calls Try.prog 13 #[.int .i64 p, .int .i64 c] w fun e w' => e = .returned (.slice (some ⟨w.heap.size, 0, none⟩) 1 1) ∧ w' = w.alloc (.cells #[.int .i64 p, .int .i64 c] 28) := by
  go_enter Try.func13, Try.ntmps13
  go_wp2
  go_ret
  exact ⟨rfl, rfl⟩
theorem behind_c (s : ByteArray) (p : Nat) (w : World) (hs : s.size ≤ 65536) (hp : p < s.size) (h : Lib.hasPrefix ((L s).drop p) [47, 47] = true ∨ (Lib.hasPrefix ((L s).drop p) [47, 47] = false ∧ Lib.hasPrefix ((L s).drop p) [47, 42] = true)) :
    Calls Try.prog 15 #[.string s, .int .i64 p] w fun e w' => e = .returned (.int .i64 (behI (L s) p)) ∧ w' = w := by
  rcases h with h | ⟨h1, h2⟩
  · exact behind_1 s p w hs hp h
  · exact behind_2 s p w hs hp h1 h2
theorem stp_line (r : List UInt8) : stp true 10 r = .tk 5 [] 1 := by unfold stp; rw [if_pos ⟨rfl, rfl⟩]
theorem stp_blank (df : Bool) {c : UInt8} (r : List UInt8) (h : (c = 10 ∧ df = false) ∨ c = 9 ∨ c = 13 ∨ c = 32) : stp df c r = .skip 1 := by
  unfold stp
  rcases h with ⟨rfl, rfl⟩ | rfl | rfl | rfl
  · rw [if_neg (by simp), if_pos (by decide)]
  · rw [if_neg (by simp), if_pos (by decide)]
  · rw [if_neg (by simp), if_pos (by decide)]
  · rw [if_neg (by simp), if_pos (by decide)]
theorem pre_com {s : ByteArray} {p : Nat} (hp : p < s.size) (h : Lib.hasPrefix ((L s).drop p) [47, 47] = true ∨ (Lib.hasPrefix ((L s).drop p) [47, 47] = false ∧ Lib.hasPrefix ((L s).drop p) [47, 42] = true)) : s[p] = 47 := by
  rw [drop_cons s p hp] at h
  cases hr : (L s).drop (p + 1) with
  | nil => rw [hr] at h; simp [Lib.hasPrefix, List.isPrefixOf] at h
  | cons d r =>
    rw [hr] at h
    simp [Lib.hasPrefix, List.isPrefixOf] at h
    rcases h with h | h
    · exact h.1.symm
    · exact h.2.1.symm
theorem stp_cm (df : Bool) {s : ByteArray} {p : Nat} (hp : p < s.size) (h : Lib.hasPrefix ((L s).drop p) [47, 47] = true ∨ (Lib.hasPrefix ((L s).drop p) [47, 47] = false ∧ Lib.hasPrefix ((L s).drop p) [47, 42] = true)) :
    stp df s[p] ((L s).drop (p + 1)) = if comW ((L s).drop p) = 0 then .err 20 else .skip (comW ((L s).drop p)) := by
  have e := pre_com hp h
  rw [drop_cons s p hp, e, stp_com]
theorem stp_kinds {df : Bool} {c : UInt8} {r x : List UInt8} {k : Int} {n : Nat} (h : stp df c r = .tk k x n) (h1 : kinds c ≠ 24) : (k == 5) = false ∧ k ≠ 5 := by
  unfold stp at h
  split at h
  · rename_i hc; exact absurd (by rw [hc.1]; decide) h1
  split at h
  · cases h
  split at h
  · split at h <;> cases h
  split at h
  · unfold tickP at h
    split at h
    · cases h
    split at h
    · cases h
    · injection h with h2 _ _; subst h2; exact ⟨by decide, by decide⟩
  split at h
  · split at h
    · cases h
    · injection h with h2 _ _; subst h2; exact ⟨by decide, by decide⟩
  split at h
  · split at h
    · cases h
    · injection h with h2 _ _; subst h2; exact ⟨by decide, by decide⟩
  split at h
  · injection h with h2 _ _; subst h2; exact ⟨by decide, by decide⟩
  · cases h
theorem stp_noskip {df : Bool} {c : UInt8} {r : List UInt8} {n : Nat} (h : stp df c r = .skip n) (h1 : kinds c ≠ 24) (h2 : kinds c ≠ 8) (h3 : comW (c :: r) = 0) : False := by
  unfold stp at h
  split at h
  · cases h
  split at h
  · rename_i hk; rcases hk with hk | hk
    · exact h1 hk
    · exact h2 hk
  split at h
  · first | (cases h; done) | (split at h; · cases h; · rename_i h9; exact absurd h3 h9)
  split at h
  · unfold tickP at h
    split at h
    · cases h
    split at h <;> cases h
  split at h
  · split at h <;> cases h
  split at h
  · split at h <;> cases h
  split at h <;> cases h
theorem own_new {w2 : World} {B : Nat} {v' : Value} {ts : List Tok} {k : Int} {x : List UInt8} {p : Nat} (h : w2.ownsRow B 39 3 v' (ts.length + 1) (tcells ts ++ [.int .i64 k, .string (S x), .int .i64 p])) :
    w2.ownsRow B 39 3 v' (ts ++ [(⟨k, x, p⟩ : Tok)]).length (tcells (ts ++ [⟨k, x, p⟩])) := by
  rw [tcells_app, tcells_one, List.length_append]; exact h

theorem nw3e (w : World) (n : Nat) (hn : w.heap.size = n) (a b c : Value) (t : TypeId) (j : Nat) (u : Value) (h : [a, b, c][j]? = some u) : (w.alloc (.cells #[a, b, c] t)).cell? ((⟨n, 0, none⟩ : Addr).add j) = some u := by subst hn; exact new3 w a b c t j u h
theorem bel2 {B : Nat} {w wr w1 w2 : World} {o1 o2 : Obj} {row : Option Nat} (h : Below B w wr) (h1 : Below wr.heap.size wr w1) (hB : B ≤ wr.heap.size) (hg : ((w1.alloc o1).alloc o2).grownBy w2 row) (hr : ∀ k, row = some k → B ≤ k) : Below B w w2 := by
  have a := h.trans (h1.mono hB)
  have b := h1.size
  exact ((a.alloc (by omega) o1).alloc (by simp; omega) o2).grown hg (by simp; omega) hr
theorem err_end {s : ByteArray} {w wr w1 : World} {p : Nat} {c : Int} {o : Obj} (hx : lexL (L s) = .bad p c) (h : Below w.heap.size w wr) (h1 : Below wr.heap.size wr w1) (e : Ending) (he : e = .returned (.tuple #[.slice none 0 0, .slice (some ⟨w1.heap.size + 1, 0, none⟩) 1 1])) :
    LexOut s w e ((w1.alloc o).alloc (.cells #[.int .i64 p, .int .i64 c] 28)) := by
  have b := h1.size
  have b2 := h.size
  have hsz : (w1.alloc o).heap.size = w1.heap.size + 1 := by simp
  have a := h.trans (h1.mono h.size)
  refine out_bad hx (w1.heap.size + 1) he (by omega) ?_ ((a.alloc (by omega) o).alloc (by rw [hsz]; omega) _)
  rw [← hsz]; exact diag_heap _ _ _ _
set_option maxRecDepth 100000 in
set_option maxHeartbeats 8000000 in
theorem rLex_c (s : ByteArray) (w : World) (hs : s.size ≤ maxLen) :
    Calls Try.prog 9 #[.string s] w fun e w' => LexOut s w e w' := by
  unfold maxLen at hs
  by_cases hlong : 65536 < s.size
  · have HL : Hid (lexL (L s) = .bad 0 4) := by unfold lexL; rw [if_pos (by rw [len_L]; exact hlong)]; exact rfl
    go_enter Try.func9, Try.ntmps9
    go_wp2_with (first | (go_at_call 13; refine (fails_c _ _ _).mono ?_; rintro e w' ⟨rfl, hw⟩; have hw2 := hw.symm; subst hw2))
    go_ret2
    exact out_bad HL.out w.heap.size rfl (Nat.le_refl _) (diag_heap _ _ _ _) (belA (Below.refl _ _) _)
  · have hs2 : s.size ≤ 65536 := by omega
    have HL : Hid (lexL (L s) = match lexG 0 (L s) false 0 with | .toks t => .toks (t ++ [⟨6, [], s.size⟩]) | r => r) := by unfold lexL; rw [if_neg (by rw [len_L]; exact hlong), len_L]; exact rfl
    obtain ⟨i0, hi, hz0, hz1, hz2⟩ := infoTok
    go_enter Try.func9, Try.ntmps9
    go_wp2
    go_loopw [4, 5, 6] (fun ov dv av wr => ∃ (p : Nat) (df : Bool) (ts : List Tok), p ≤ s.size ∧ ts.length ≤ 16384 ∧ av = .int .i64 p ∧ dv = .bool df ∧ Hid (wr.ownsRow w.heap.size 39 3 ov ts.length (tcells ts)) ∧ Hid (Res.app ts (lexG p ((L s).drop p) df ts.length) = lexG 0 (L s) false 0) ∧ Hid (Below w.heap.size w wr)) (fun _ _ av _ => s.size - (intOf av).toNat)
    case atStart => exact ⟨0, false, [], Nat.zero_le _, by decide, rfl, rfl, World.ownsRow_nil _ _ _ _, by rw [List.drop_zero]; exact app_nil _, Below.refl _ _⟩
    case round =>
      obtain ⟨p, df, ts, hp, hl, rfl, rfl, HO, HF, HB⟩ := hrel
      obtain ⟨ao, cap, rfl⟩ := slice_of HO.out
      by_cases hlt : p < s.size
      · have hltI : (p : Int) < (s.size : Int) := by omega
        have hcr := drop_cons s p hlt
        have HC : Hid ((L s).drop p = s[p] :: (L s).drop (p + 1)) := hcr
        have hsp := stp_pos df s[p] ((L s).drop (p + 1))
        rw [← hcr, List.length_drop, len_L] at hsp
        have HSP : Hid _ := hsp
        clear hcr hsp
        by_cases hA : s[p] = 10 ∧ df = true
        · obtain ⟨h10, rfl⟩ := hA
          have hq : stp true s[p] ((L s).drop (p + 1)) = .tk 5 [] 1 := by rw [h10]; exact stp_line _
          have c10 : (((s[p].toNat : Nat) : Int) == 10) = true := by rw [h10]; rfl
          clear h10
          by_cases hfull : ts.length = 16384
          · have hf := HF.out
            rw [HC.out, lexG_full hq hfull] at hf
            have hlx := HL.out
            rw [← hf] at hlx
            have HX : Hid (lexL (L s) = .bad p 2) := hlx
            have hbig : (16384 : Int) < ((ts.length : Nat) : Int) + 1 := by omega
            have HFU : Hid _ := hfull
            clear hf hlx hq hfull
            go_wp2_with (first | (at_builtin; refine wpList_append_own _ rfl _ _ 35 rfl w.heap.size 39 i0 _ 3 32 Try.underlying35 hi hz0 hz1 hz2 rfl (by decide) _ ts.length (tcells ts) rfl (World.ownsRow.alloc HO.out _) ⟨wr.heap.size, 0, none⟩ 1 1 [.int .i64 5, .string ⟨#[]⟩, .int .i64 p] rfl rfl (new3 wr _ _ _ _) (one3 _ _ _) ?af3 ?af4 ?af5 ?_))
            case af3 => unfold maxLen; omega
            case af4 => omega
            case af5 => have := HB.out.size; simp; omega
            intro v' w2 hown hgrow _
            obtain ⟨g2, cap2, rfl, hg1, hg2, hg3, hg4⟩ := own_some hown (by omega)
            have hlast := hg4 (ts.length * 3 + 2) (.int .i64 p) (by rw [List.getElem?_append_right (by rw [tcells_len]; omega), tcells_len]; simp)
            have HBB : Hid (Below w.heap.size w w2) := (belA' HB.out _ HB.out.size).grown hgrow (by have := HB.out.size; simp; omega) (fun k hk => (World.ownsRow.lt HO.out k hk).1)
            clear hown hgrow hg4
            go_wp2_with (first | (go_at_call 13; refine (fails_c _ _ _).mono ?_; rintro e w9 ⟨rfl, hw⟩; have hw2 := hw.symm; subst hw2))
            go_ret2
            exact out_bad HX.out w2.heap.size rfl HBB.out.size (diag_heap _ _ _ _) (belA' HBB.out _ HBB.out.size)
          · have hf := HF.out
            rw [HC.out, lexG_tk hq hfull, ← HC.out, List.drop_drop, app_cons] at hf
            have HF2 : Hid (Res.app (ts ++ [⟨5, [], p⟩]) (lexG (p + 1) ((L s).drop (p + 1)) false (ts ++ [(⟨5, [], p⟩ : Tok)]).length) = lexG 0 (L s) false 0) := by rw [List.length_append]; exact hf
            have hsm : ((ts.length : Nat) : Int) + 1 ≤ 16384 := by omega
            have hl2 : (ts ++ [(⟨5, [], p⟩ : Tok)]).length ≤ 16384 := by rw [List.length_append]; simp; omega
            clear hf hq
            go_wp2_with (first | (at_builtin; refine wpList_append_own _ rfl _ _ 35 rfl w.heap.size 39 i0 _ 3 32 Try.underlying35 hi hz0 hz1 hz2 rfl (by decide) _ ts.length (tcells ts) rfl (World.ownsRow.alloc HO.out _) ⟨wr.heap.size, 0, none⟩ 1 1 [.int .i64 5, .string ⟨#[]⟩, .int .i64 p] rfl rfl (new3 wr _ _ _ _) (one3 _ _ _) ?ag3 ?ag4 ?ag5 ?_))
            case ag3 => unfold maxLen; omega
            case ag4 => omega
            case ag5 => have := HB.out.size; simp; omega
            intro v' w2 hown hgrow _
            have HBB : Hid (Below w.heap.size w w2) := (belA' HB.out _ HB.out.size).grown hgrow (by have := HB.out.size; simp; omega) (fun k hk => (World.ownsRow.lt HO.out k hk).1)
            have HOO : Hid _ := own_new (x := []) hown
            obtain ⟨g2, cap2, rfl, hg1, hg2, hg3, hg4⟩ := own_some hown (by omega)
            clear hown hgrow hg4
            go_wp2
            go_roundw
            case rel => exact ⟨p + 1, false, ts ++ [(⟨5, [], p⟩ : Tok)], by omega, hl2, by go_num, rfl, HOO, HF2, HBB⟩
            case measure => simp [intOf]; omega
        · have hA1 : (((s[p].toNat : Nat) : Int) == 10) = false ∨ ((((s[p].toNat : Nat) : Int) == 10) = true ∧ df = false) := by
            by_cases h10 : s[p] = 10
            · exact Or.inr ⟨by rw [h10]; rfl, by cases df with | false => rfl | true => exact absurd ⟨h10, rfl⟩ hA⟩
            · exact Or.inl ((cb s[p] 10).trans (by simpa using h10))
          by_cases hBl : (s[p] = 10 ∧ df = false) ∨ s[p] = 9 ∨ s[p] = 13 ∨ s[p] = 32
          · have hq : stp df s[p] ((L s).drop (p + 1)) = .skip 1 := stp_blank df _ hBl
            have hf := HF.out
            rw [HC.out, lexG_skip hq, ← HC.out, List.drop_drop] at hf
            have HF2 : Hid _ := hf
            clear hf hq hA hA1
            have hrel2 : ∃ (p_1 : Nat) (df_1 : Bool) (ts_1 : List Tok), p_1 ≤ s.size ∧ ts_1.length ≤ 16384 ∧ Value.int .i64 ((p : Int) + 1) = .int .i64 p_1 ∧ Value.bool df = .bool df_1 ∧ Hid (wr.ownsRow w.heap.size 39 3 (.slice ao ts.length cap) ts_1.length (tcells ts_1)) ∧ Hid (Res.app ts_1 (lexG p_1 ((L s).drop p_1) df_1 ts_1.length) = lexG 0 (L s) false 0) ∧ Hid (Below w.heap.size w wr) := ⟨p + 1, df, ts, by omega, hl, by go_num, rfl, HO, HF2, HB⟩
            have HREL : Hid _ := hrel2
            clear hrel2
            rcases hBl with ⟨h, rfl⟩ | h | h | h
            · have e10 : (((s[p].toNat : Nat) : Int) == 10) = true := by rw [h]; rfl
              have e32 : (((s[p].toNat : Nat) : Int) == 32) = false := by rw [h]; rfl
              have e9 : (((s[p].toNat : Nat) : Int) == 9) = false := by rw [h]; rfl
              have e13 : (((s[p].toNat : Nat) : Int) == 13) = false := by rw [h]; rfl
              clear h
              go_wp2
              go_roundw
              case rel => exact HREL.out
              case measure => simp [intOf]; omega
            · have e10 : (((s[p].toNat : Nat) : Int) == 10) = false := by rw [h]; rfl
              have e32 : (((s[p].toNat : Nat) : Int) == 32) = false := by rw [h]; rfl
              have e9 : (((s[p].toNat : Nat) : Int) == 9) = true := by rw [h]; rfl
              have e13 : (((s[p].toNat : Nat) : Int) == 13) = false := by rw [h]; rfl
              clear h
              go_wp2
              go_roundw
              case rel => exact HREL.out
              case measure => simp [intOf]; omega
            · have e10 : (((s[p].toNat : Nat) : Int) == 10) = false := by rw [h]; rfl
              have e32 : (((s[p].toNat : Nat) : Int) == 32) = false := by rw [h]; rfl
              have e9 : (((s[p].toNat : Nat) : Int) == 9) = false := by rw [h]; rfl
              have e13 : (((s[p].toNat : Nat) : Int) == 13) = true := by rw [h]; rfl
              clear h
              go_wp2
              go_roundw
              case rel => exact HREL.out
              case measure => simp [intOf]; omega
            · have e10 : (((s[p].toNat : Nat) : Int) == 10) = false := by rw [h]; rfl
              have e32 : (((s[p].toNat : Nat) : Int) == 32) = true := by rw [h]; rfl
              have e9 : (((s[p].toNat : Nat) : Int) == 9) = false := by rw [h]; rfl
              have e13 : (((s[p].toNat : Nat) : Int) == 13) = false := by rw [h]; rfl
              clear h
              go_wp2
              go_roundw
              case rel => exact HREL.out
              case measure => simp [intOf]; omega
          · have n10 : (((s[p].toNat : Nat) : Int) == 10) = false := by
              rcases hA1 with h | ⟨h, h2⟩
              · exact h
              · exact absurd (Or.inl ⟨by simpa using (cb s[p] 10).symm.trans h, h2⟩) hBl
            have n9 : (((s[p].toNat : Nat) : Int) == 9) = false := (cb s[p] 9).trans (by rw [beq_eq_false_iff_ne]; exact fun e => hBl (Or.inr (Or.inl e)))
            have n13 : (((s[p].toNat : Nat) : Int) == 13) = false := (cb s[p] 13).trans (by rw [beq_eq_false_iff_ne]; exact fun e => hBl (Or.inr (Or.inr (Or.inl e))))
            have n32 : (((s[p].toNat : Nat) : Int) == 32) = false := (cb s[p] 32).trans (by rw [beq_eq_false_iff_ne]; exact fun e => hBl (Or.inr (Or.inr (Or.inr e))))
            have m10 : s[p] ≠ 10 := by have := (cb s[p] 10).symm.trans n10; simpa using this
            have hk1 : kinds s[p] ≠ 24 := by
              rcases kcases s[p] with h | h | h | h | h | h | h | h | h
              · rw [h.2]; decide
              · rw [h.2.2]; decide
              · rw [h.2]; decide
              · exact absurd h.1 m10
              · rw [h.2]; decide
              · rw [h.2]; decide
              · rw [h.2]; decide
              · rw [h.2.2.2]; decide
              · rw [h.2.2.2.2.2.2.2.2.2.2]; decide
            have hk2 : kinds s[p] ≠ 8 := by
              rcases kcases s[p] with h | h | h | h | h | h | h | h | h
              · rw [h.2]; decide
              · rw [h.2.2]; decide
              · rw [h.2]; decide
              · rw [h.2]; decide
              · exact absurd (Or.inr h.1) hBl
              · rw [h.2]; decide
              · rw [h.2]; decide
              · rw [h.2.2.2]; decide
              · rw [h.2.2.2.2.2.2.2.2.2.2]; decide
            clear hA hA1 hBl m10
            by_cases hcm : Lib.hasPrefix ((L s).drop p) [47, 47] = true ∨ (Lib.hasPrefix ((L s).drop p) [47, 47] = false ∧ Lib.hasPrefix ((L s).drop p) [47, 42] = true)
            · have hst := stp_cm df hlt hcm
              have HBE := fun w => behind_c s p w hs2 hlt hcm
              have HSC : Hid _ := hcm
              clear hcm
              by_cases hc0 : comW ((L s).drop p) = 0
              · rw [if_pos hc0] at hst
                have hbi : behI (L s) p = -1 := by unfold behI; rw [if_pos hc0]
                rw [hbi] at HBE
                have hf := HF.out
                rw [HC.out, lexG_err hst] at hf
                have hlx := HL.out
                rw [← hf] at hlx
                have HX : Hid (lexL (L s) = .bad p 20) := hlx
                clear hf hlx hst hbi hc0
                rcases HSC.out with h1 | ⟨h1, h2⟩
                · have HP1 : Hid _ := h1
                  clear h1
                  go_wp2_with (first | (go_at_call_of 14 (Value.string ⟨#[47, 47]⟩); refine (begins_c s ⟨#[47, 47]⟩ p _ hs2 (Nat.le_of_lt hlt) (by decide)).mono ?_; rintro e w' ⟨rfl, hw⟩; have hw2 := hw.symm; subst hw2; rw [show Lib.hasPrefix ((L s).drop p) (L ⟨#[47, 47]⟩) = true from HP1.out]) | (go_at_call 15; refine (HBE _).mono ?_; rintro e w' ⟨rfl, hw⟩; have hw2 := hw.symm; subst hw2) | (go_at_call 13; refine (fails_c _ _ _).mono ?_; rintro e w9 ⟨rfl, hw⟩; have hw2 := hw.symm; subst hw2))
                  go_ret2
                  exact out_bad HX.out wr.heap.size rfl HB.out.size (diag_heap _ _ _ _) (belA' HB.out _ HB.out.size)
                · have HP1 : Hid _ := h1
                  have HP2 : Hid _ := h2
                  clear h1 h2
                  go_wp2_with (first | (go_at_call_of 14 (Value.string ⟨#[47, 47]⟩); refine (begins_c s ⟨#[47, 47]⟩ p _ hs2 (Nat.le_of_lt hlt) (by decide)).mono ?_; rintro e w' ⟨rfl, hw⟩; have hw2 := hw.symm; subst hw2; rw [show Lib.hasPrefix ((L s).drop p) (L ⟨#[47, 47]⟩) = false from HP1.out]) | (go_at_call 14; refine (begins_c s ⟨#[47, 42]⟩ p _ hs2 (Nat.le_of_lt hlt) (by decide)).mono ?_; rintro e w' ⟨rfl, hw⟩; have hw2 := hw.symm; subst hw2; rw [show Lib.hasPrefix ((L s).drop p) (L ⟨#[47, 42]⟩) = true from HP2.out]) | (go_at_call 15; refine (HBE _).mono ?_; rintro e w' ⟨rfl, hw⟩; have hw2 := hw.symm; subst hw2) | (go_at_call 13; refine (fails_c _ _ _).mono ?_; rintro e w9 ⟨rfl, hw⟩; have hw2 := hw.symm; subst hw2))
                  go_ret2
                  exact out_bad HX.out wr.heap.size rfl HB.out.size (diag_heap _ _ _ _) (belA' HB.out _ HB.out.size)
              · rw [if_neg hc0] at hst
                have hbi : behI (L s) p = ((p + comW ((L s).drop p) : Nat) : Int) := by unfold behI; rw [if_neg hc0]
                rw [hbi] at HBE
                have hf := HF.out
                have hss := HSP.out
                rw [hst] at hss
                obtain ⟨n, hn⟩ : ∃ n, comW ((L s).drop p) = n := ⟨_, rfl⟩
                rw [hn] at HBE hst hss
                have hss2 : 1 ≤ n ∧ n ≤ s.size - p := hss
                rw [HC.out, lexG_skip hst, ← HC.out, List.drop_drop] at hf
                have HF2 : Hid _ := hf
                have hpos : (0 : Int) ≤ (p : Int) + (n : Int) := by omega
                clear hf hst hbi hc0 hn hss
                rcases HSC.out with h1 | ⟨h1, h2⟩
                · have HP1 : Hid _ := h1
                  clear h1
                  go_wp2_with (first | (go_at_call_of 14 (Value.string ⟨#[47, 47]⟩); refine (begins_c s ⟨#[47, 47]⟩ p _ hs2 (Nat.le_of_lt hlt) (by decide)).mono ?_; rintro e w' ⟨rfl, hw⟩; have hw2 := hw.symm; subst hw2; rw [show Lib.hasPrefix ((L s).drop p) (L ⟨#[47, 47]⟩) = true from HP1.out]) | (go_at_call 15; refine (HBE _).mono ?_; rintro e w' ⟨rfl, hw⟩; have hw2 := hw.symm; subst hw2) | (go_at_call 13; refine (fails_c _ _ _).mono ?_; rintro e w9 ⟨rfl, hw⟩; have hw2 := hw.symm; subst hw2))
                  go_roundw
                  case rel => exact ⟨p + n, df, ts, by omega, hl, by go_num, rfl, HO, HF2, HB⟩
                  case measure => simp [intOf]; omega
                · have HP1 : Hid _ := h1
                  have HP2 : Hid _ := h2
                  clear h1 h2
                  go_wp2_with (first | (go_at_call_of 14 (Value.string ⟨#[47, 47]⟩); refine (begins_c s ⟨#[47, 47]⟩ p _ hs2 (Nat.le_of_lt hlt) (by decide)).mono ?_; rintro e w' ⟨rfl, hw⟩; have hw2 := hw.symm; subst hw2; rw [show Lib.hasPrefix ((L s).drop p) (L ⟨#[47, 47]⟩) = false from HP1.out]) | (go_at_call 14; refine (begins_c s ⟨#[47, 42]⟩ p _ hs2 (Nat.le_of_lt hlt) (by decide)).mono ?_; rintro e w' ⟨rfl, hw⟩; have hw2 := hw.symm; subst hw2; rw [show Lib.hasPrefix ((L s).drop p) (L ⟨#[47, 42]⟩) = true from HP2.out]) | (go_at_call 15; refine (HBE _).mono ?_; rintro e w' ⟨rfl, hw⟩; have hw2 := hw.symm; subst hw2) | (go_at_call 13; refine (fails_c _ _ _).mono ?_; rintro e w9 ⟨rfl, hw⟩; have hw2 := hw.symm; subst hw2))
                  go_roundw
                  case rel => exact ⟨p + n, df, ts, by omega, hl, by go_num, rfl, HO, HF2, HB⟩
                  case measure => simp [intOf]; omega
            · have hp1 : Lib.hasPrefix ((L s).drop p) [47, 47] = false := by
                cases e : Lib.hasPrefix ((L s).drop p) [47, 47] with
                | false => rfl
                | true => exact absurd (Or.inl e) hcm
              have hp2 : Lib.hasPrefix ((L s).drop p) [47, 42] = false := by
                cases e : Lib.hasPrefix ((L s).drop p) [47, 42] with
                | false => rfl
                | true => exact absurd (Or.inr ⟨hp1, e⟩) hcm
              have HONE := fun w => rOne_c s p w df hs2 hlt hk1 hk2 hp1 hp2
              have HP1 : Hid _ := hp1
              have HP2 : Hid _ := hp2
              have HK1 : Hid _ := hk1
              have HK2 : Hid _ := hk2
              clear hcm hp1 hp2 hk1 hk2
              cases hq : stp df s[p] ((L s).drop (p + 1)) with
              | skip n =>
                exact (stp_noskip hq HK1.out HK2.out (by rw [← HC.out]; exact com_none HP1.out HP2.out)).elim
              | err c =>

                obtain ⟨e1, e2⟩ := stp_err hq
                rw [hq] at HONE
                have HONE2 : ∀ w, Calls Try.prog 16 #[.string s, .int .i64 p] w fun e w' => e = .returned (.tuple #[.agg #[.int .i64 0, .string ⟨#[]⟩, .int .i64 0], .int .i64 0, .int .i64 c]) ∧ Below w.heap.size w w' := HONE
                have hf := HF.out
                rw [HC.out, lexG_err hq] at hf
                have hlx := HL.out
                rw [← hf] at hlx
                have HX : Hid (lexL (L s) = .bad p c) := hlx
                clear hf hlx hq HONE
                go_wp2_with (first | (go_at_call_of 14 (Value.string ⟨#[47, 47]⟩); refine (begins_c s ⟨#[47, 47]⟩ p _ hs2 (Nat.le_of_lt hlt) (by decide)).mono ?_; rintro e w' ⟨rfl, hw⟩; have hw2 := hw.symm; subst hw2; rw [show Lib.hasPrefix ((L s).drop p) (L ⟨#[47, 47]⟩) = false from HP1.out]) | (go_at_call 14; refine (begins_c s ⟨#[47, 42]⟩ p _ hs2 (Nat.le_of_lt hlt) (by decide)).mono ?_; rintro e w' ⟨rfl, hw⟩; have hw2 := hw.symm; subst hw2; rw [show Lib.hasPrefix ((L s).drop p) (L ⟨#[47, 42]⟩) = false from HP2.out]) | (go_at_call 16; refine (HONE2 _).mono ?_; rintro e w1 ⟨rfl, hb1⟩) | (go_at_call 13; refine (fails_c _ _ _).mono ?_; rintro e w9 ⟨rfl, hw⟩; have hw2 := hw.symm; subst hw2))
                go_ret2
                exact err_end HX.out HB.out hb1 _ rfl
              | tk k x n =>
                obtain ⟨k5, k5'⟩ := stp_kinds hq HK1.out
                rw [hq] at HONE
                have hss := HSP.out
                rw [hq] at hss
                have hss2 : 1 ≤ n ∧ n ≤ s.size - p := hss
                obtain ⟨sx, hsx⟩ : ∃ sx, sx = S x := ⟨_, rfl⟩
                have HONE2 : ∀ w, Calls Try.prog 16 #[.string s, .int .i64 p] w fun e w' => e = .returned (.tuple #[.agg #[.int .i64 k, .string sx, .int .i64 p], .int .i64 ((p : Int) + (n : Int)), .int .i64 0]) ∧ Below w.heap.size w w' := fun w => by
                  refine (HONE w).mono ?_
                  rintro e w' ⟨he, hb⟩
                  exact ⟨by rw [hsx]; rw [show ((p : Int) + (n : Int)) = ((p + n : Nat) : Int) by omega]; exact he, hb⟩
                have HSX : Hid (sx = S x) := hsx
                have hcase : (df = true ∧ dfN df k x = true) ∨ (df = false ∧ (k == 4) = false ∧ dfN df k x = false) ∨ (df = false ∧ (k == 4) = true ∧ (sx.toList == [100, 101, 102, 105, 110, 101]) = true ∧ dfN df k x = true) ∨ (df = false ∧ (k == 4) = true ∧ (sx.toList == [100, 101, 102, 105, 110, 101]) = false ∧ dfN df k x = false) := by
                  have hx : sx.toList = x := by rw [hsx, toL, L_S]
                  have hd : dfN df k x = (df || (k == 4 && x == defW)) := by unfold dfN; rw [if_neg k5']
                  rw [hx, hd]
                  cases df with
                  | true => exact Or.inl ⟨rfl, rfl⟩
                  | false =>
                    cases (k == 4) with
                    | false => exact Or.inr (Or.inl ⟨rfl, rfl, rfl⟩)
                    | true =>
                      cases hxx : (x == defW) with
                      | true => exact Or.inr (Or.inr (Or.inl ⟨rfl, rfl, hxx, rfl⟩))
                      | false => exact Or.inr (Or.inr (Or.inr ⟨rfl, rfl, hxx, rfl⟩))
                clear hsx HONE k5 k5' hss
                rcases hcase with ⟨rfl, hd⟩ | ⟨rfl, k4, hd⟩ | ⟨rfl, k4, hxd, hd⟩ | ⟨rfl, k4, hxd, hd⟩
                · have HD : Hid _ := hd
                  clear hd
                  have HQ : Hid _ := hq
                  clear hq
                  have hq := HQ.out
                  by_cases hfull : ts.length = 16384
                  · have hf := HF.out
                    rw [HC.out, lexG_full hq hfull] at hf
                    have hlx := HL.out
                    rw [← hf] at hlx
                    have HX : Hid (lexL (L s) = .bad p 2) := hlx
                    have hbig : (16384 : Int) < ((ts.length : Nat) : Int) + 1 := by omega
                    have HFU : Hid _ := hfull
                    clear hf hlx hq hfull
                    
                    go_wp2_with (first | (go_at_call_of 14 (Value.string ⟨#[47, 47]⟩); refine (begins_c s ⟨#[47, 47]⟩ p _ hs2 (Nat.le_of_lt hlt) (by decide)).mono ?_; rintro e w' ⟨rfl, hw⟩; have hw2 := hw.symm; subst hw2; rw [show Lib.hasPrefix ((L s).drop p) (L ⟨#[47, 47]⟩) = false from HP1.out]) | (go_at_call 14; refine (begins_c s ⟨#[47, 42]⟩ p _ hs2 (Nat.le_of_lt hlt) (by decide)).mono ?_; rintro e w' ⟨rfl, hw⟩; have hw2 := hw.symm; subst hw2; rw [show Lib.hasPrefix ((L s).drop p) (L ⟨#[47, 42]⟩) = false from HP2.out]) | (go_at_call 16; refine (HONE2 _).mono ?_; rintro e w1 ⟨rfl, hb1⟩) | (at_builtin; refine wpList_append_own _ rfl _ _ 35 rfl w.heap.size 39 i0 _ 3 32 Try.underlying35 hi hz0 hz1 hz2 rfl (by decide) _ ts.length (tcells ts) rfl (World.ownsRow.alloc (World.ownsRow.alloc (owns_keep hb1 HO.out) _) _) ⟨w1.heap.size + 1, 0, none⟩ 1 1 [.int .i64 k, .string sx, .int .i64 p] rfl rfl (nw3e _ _ (by simp) _ _ _ _) (one3 _ _ _) ?bf3 ?bf4 ?bf5 ?_))
                    case bf3 => unfold maxLen; omega
                    case bf4 => omega
                    case bf5 => have := HB.out.size; have := hb1.size; simp; omega
                    intro v' w2 hown hgrow _
                    obtain ⟨g2, cap2, rfl, hg1, hg2, hg3, hg4⟩ := own_some hown (by omega)
                    have hlast := hg4 (ts.length * 3 + 2) (.int .i64 p) (by rw [List.getElem?_append_right (by rw [tcells_len]; omega), tcells_len]; simp)
                    have HBB : Hid (Below w.heap.size w w2) := bel2 HB.out hb1 HB.out.size hgrow (fun k hk => (World.ownsRow.lt HO.out k hk).1)
                    clear hown hgrow hg4
                    go_wp2_with (first | (go_at_call 13; refine (fails_c _ _ _).mono ?_; rintro e w9 ⟨rfl, hw⟩; have hw2 := hw.symm; subst hw2))
                    go_ret2
                    exact out_bad HX.out w2.heap.size rfl HBB.out.size (diag_heap _ _ _ _) (belA' HBB.out _ HBB.out.size)
                  · have hf := HF.out
                    rw [HC.out, lexG_tk hq hfull, ← HC.out, List.drop_drop, app_cons] at hf
                    have HF2 : Hid (Res.app (ts ++ [⟨k, x, p⟩]) (lexG (p + n) ((L s).drop (p + n)) (dfN true k x) (ts ++ [(⟨k, x, p⟩ : Tok)]).length) = lexG 0 (L s) false 0) := by rw [List.length_append]; exact hf
                    have hsm : ((ts.length : Nat) : Int) + 1 ≤ 16384 := by omega
                    have hl2 : (ts ++ [(⟨k, x, p⟩ : Tok)]).length ≤ 16384 := by rw [List.length_append]; simp; omega
                    clear hf hq
                    
                    go_wp2_with (first | (go_at_call_of 14 (Value.string ⟨#[47, 47]⟩); refine (begins_c s ⟨#[47, 47]⟩ p _ hs2 (Nat.le_of_lt hlt) (by decide)).mono ?_; rintro e w' ⟨rfl, hw⟩; have hw2 := hw.symm; subst hw2; rw [show Lib.hasPrefix ((L s).drop p) (L ⟨#[47, 47]⟩) = false from HP1.out]) | (go_at_call 14; refine (begins_c s ⟨#[47, 42]⟩ p _ hs2 (Nat.le_of_lt hlt) (by decide)).mono ?_; rintro e w' ⟨rfl, hw⟩; have hw2 := hw.symm; subst hw2; rw [show Lib.hasPrefix ((L s).drop p) (L ⟨#[47, 42]⟩) = false from HP2.out]) | (go_at_call 16; refine (HONE2 _).mono ?_; rintro e w1 ⟨rfl, hb1⟩) | (at_builtin; refine wpList_append_own _ rfl _ _ 35 rfl w.heap.size 39 i0 _ 3 32 Try.underlying35 hi hz0 hz1 hz2 rfl (by decide) _ ts.length (tcells ts) rfl (World.ownsRow.alloc (World.ownsRow.alloc (owns_keep hb1 HO.out) _) _) ⟨w1.heap.size + 1, 0, none⟩ 1 1 [.int .i64 k, .string sx, .int .i64 p] rfl rfl (nw3e _ _ (by simp) _ _ _ _) (one3 _ _ _) ?bg3 ?bg4 ?bg5 ?_))
                    case bg3 => unfold maxLen; omega
                    case bg4 => omega
                    case bg5 => have := HB.out.size; have := hb1.size; simp; omega
                    intro v' w2 hown hgrow _
                    have HBB : Hid (Below w.heap.size w w2) := bel2 HB.out hb1 HB.out.size hgrow (fun k hk => (World.ownsRow.lt HO.out k hk).1)
                    have HOO : Hid _ := own_new (x := x) (by rw [← HSX.out]; exact hown)
                    obtain ⟨g2, cap2, rfl, hg1, hg2, hg3, hg4⟩ := own_some hown (by omega)
                    clear hown hgrow hg4
                    go_wp2
                    go_roundw
                    case rel => exact ⟨p + n, (dfN true k x), ts ++ [(⟨k, x, p⟩ : Tok)], by omega, hl2, by go_num, (congrArg Value.bool HD.out).symm, HOO, HF2, HBB⟩
                    case measure => simp [intOf]; omega
                · have HD : Hid _ := hd
                  clear hd
                  have HQ : Hid _ := hq
                  clear hq
                  have hq := HQ.out
                  by_cases hfull : ts.length = 16384
                  · have hf := HF.out
                    rw [HC.out, lexG_full hq hfull] at hf
                    have hlx := HL.out
                    rw [← hf] at hlx
                    have HX : Hid (lexL (L s) = .bad p 2) := hlx
                    have hbig : (16384 : Int) < ((ts.length : Nat) : Int) + 1 := by omega
                    have HFU : Hid _ := hfull
                    clear hf hlx hq hfull
                    
                    go_wp2_with (first | (go_at_call_of 14 (Value.string ⟨#[47, 47]⟩); refine (begins_c s ⟨#[47, 47]⟩ p _ hs2 (Nat.le_of_lt hlt) (by decide)).mono ?_; rintro e w' ⟨rfl, hw⟩; have hw2 := hw.symm; subst hw2; rw [show Lib.hasPrefix ((L s).drop p) (L ⟨#[47, 47]⟩) = false from HP1.out]) | (go_at_call 14; refine (begins_c s ⟨#[47, 42]⟩ p _ hs2 (Nat.le_of_lt hlt) (by decide)).mono ?_; rintro e w' ⟨rfl, hw⟩; have hw2 := hw.symm; subst hw2; rw [show Lib.hasPrefix ((L s).drop p) (L ⟨#[47, 42]⟩) = false from HP2.out]) | (go_at_call 16; refine (HONE2 _).mono ?_; rintro e w1 ⟨rfl, hb1⟩) | (at_builtin; refine wpList_append_own _ rfl _ _ 35 rfl w.heap.size 39 i0 _ 3 32 Try.underlying35 hi hz0 hz1 hz2 rfl (by decide) _ ts.length (tcells ts) rfl (World.ownsRow.alloc (World.ownsRow.alloc (owns_keep hb1 HO.out) _) _) ⟨w1.heap.size + 1, 0, none⟩ 1 1 [.int .i64 k, .string sx, .int .i64 p] rfl rfl (nw3e _ _ (by simp) _ _ _ _) (one3 _ _ _) ?cf3 ?cf4 ?cf5 ?_))
                    case cf3 => unfold maxLen; omega
                    case cf4 => omega
                    case cf5 => have := HB.out.size; have := hb1.size; simp; omega
                    intro v' w2 hown hgrow _
                    obtain ⟨g2, cap2, rfl, hg1, hg2, hg3, hg4⟩ := own_some hown (by omega)
                    have hlast := hg4 (ts.length * 3 + 2) (.int .i64 p) (by rw [List.getElem?_append_right (by rw [tcells_len]; omega), tcells_len]; simp)
                    have HBB : Hid (Below w.heap.size w w2) := bel2 HB.out hb1 HB.out.size hgrow (fun k hk => (World.ownsRow.lt HO.out k hk).1)
                    clear hown hgrow hg4
                    go_wp2_with (first | (go_at_call 13; refine (fails_c _ _ _).mono ?_; rintro e w9 ⟨rfl, hw⟩; have hw2 := hw.symm; subst hw2))
                    go_ret2
                    exact out_bad HX.out w2.heap.size rfl HBB.out.size (diag_heap _ _ _ _) (belA' HBB.out _ HBB.out.size)
                  · have hf := HF.out
                    rw [HC.out, lexG_tk hq hfull, ← HC.out, List.drop_drop, app_cons] at hf
                    have HF2 : Hid (Res.app (ts ++ [⟨k, x, p⟩]) (lexG (p + n) ((L s).drop (p + n)) (dfN false k x) (ts ++ [(⟨k, x, p⟩ : Tok)]).length) = lexG 0 (L s) false 0) := by rw [List.length_append]; exact hf
                    have hsm : ((ts.length : Nat) : Int) + 1 ≤ 16384 := by omega
                    have hl2 : (ts ++ [(⟨k, x, p⟩ : Tok)]).length ≤ 16384 := by rw [List.length_append]; simp; omega
                    clear hf hq
                    
                    go_wp2_with (first | (go_at_call_of 14 (Value.string ⟨#[47, 47]⟩); refine (begins_c s ⟨#[47, 47]⟩ p _ hs2 (Nat.le_of_lt hlt) (by decide)).mono ?_; rintro e w' ⟨rfl, hw⟩; have hw2 := hw.symm; subst hw2; rw [show Lib.hasPrefix ((L s).drop p) (L ⟨#[47, 47]⟩) = false from HP1.out]) | (go_at_call 14; refine (begins_c s ⟨#[47, 42]⟩ p _ hs2 (Nat.le_of_lt hlt) (by decide)).mono ?_; rintro e w' ⟨rfl, hw⟩; have hw2 := hw.symm; subst hw2; rw [show Lib.hasPrefix ((L s).drop p) (L ⟨#[47, 42]⟩) = false from HP2.out]) | (go_at_call 16; refine (HONE2 _).mono ?_; rintro e w1 ⟨rfl, hb1⟩) | (at_builtin; refine wpList_append_own _ rfl _ _ 35 rfl w.heap.size 39 i0 _ 3 32 Try.underlying35 hi hz0 hz1 hz2 rfl (by decide) _ ts.length (tcells ts) rfl (World.ownsRow.alloc (World.ownsRow.alloc (owns_keep hb1 HO.out) _) _) ⟨w1.heap.size + 1, 0, none⟩ 1 1 [.int .i64 k, .string sx, .int .i64 p] rfl rfl (nw3e _ _ (by simp) _ _ _ _) (one3 _ _ _) ?cg3 ?cg4 ?cg5 ?_))
                    case cg3 => unfold maxLen; omega
                    case cg4 => omega
                    case cg5 => have := HB.out.size; have := hb1.size; simp; omega
                    intro v' w2 hown hgrow _
                    have HBB : Hid (Below w.heap.size w w2) := bel2 HB.out hb1 HB.out.size hgrow (fun k hk => (World.ownsRow.lt HO.out k hk).1)
                    have HOO : Hid _ := own_new (x := x) (by rw [← HSX.out]; exact hown)
                    obtain ⟨g2, cap2, rfl, hg1, hg2, hg3, hg4⟩ := own_some hown (by omega)
                    clear hown hgrow hg4
                    go_wp2
                    go_roundw
                    case rel => exact ⟨p + n, (dfN false k x), ts ++ [(⟨k, x, p⟩ : Tok)], by omega, hl2, by go_num, (congrArg Value.bool HD.out).symm, HOO, HF2, HBB⟩
                    case measure => simp [intOf]; omega
                · have HD : Hid _ := hd
                  clear hd
                  have HQ : Hid _ := hq
                  clear hq
                  have hq := HQ.out
                  by_cases hfull : ts.length = 16384
                  · have hf := HF.out
                    rw [HC.out, lexG_full hq hfull] at hf
                    have hlx := HL.out
                    rw [← hf] at hlx
                    have HX : Hid (lexL (L s) = .bad p 2) := hlx
                    have hbig : (16384 : Int) < ((ts.length : Nat) : Int) + 1 := by omega
                    have HFU : Hid _ := hfull
                    clear hf hlx hq hfull
                    
                    go_wp2_with (first | (go_at_call_of 14 (Value.string ⟨#[47, 47]⟩); refine (begins_c s ⟨#[47, 47]⟩ p _ hs2 (Nat.le_of_lt hlt) (by decide)).mono ?_; rintro e w' ⟨rfl, hw⟩; have hw2 := hw.symm; subst hw2; rw [show Lib.hasPrefix ((L s).drop p) (L ⟨#[47, 47]⟩) = false from HP1.out]) | (go_at_call 14; refine (begins_c s ⟨#[47, 42]⟩ p _ hs2 (Nat.le_of_lt hlt) (by decide)).mono ?_; rintro e w' ⟨rfl, hw⟩; have hw2 := hw.symm; subst hw2; rw [show Lib.hasPrefix ((L s).drop p) (L ⟨#[47, 42]⟩) = false from HP2.out]) | (go_at_call 16; refine (HONE2 _).mono ?_; rintro e w1 ⟨rfl, hb1⟩) | (at_builtin; refine wpList_append_own _ rfl _ _ 35 rfl w.heap.size 39 i0 _ 3 32 Try.underlying35 hi hz0 hz1 hz2 rfl (by decide) _ ts.length (tcells ts) rfl (World.ownsRow.alloc (World.ownsRow.alloc (owns_keep hb1 HO.out) _) _) ⟨w1.heap.size + 1, 0, none⟩ 1 1 [.int .i64 k, .string sx, .int .i64 p] rfl rfl (nw3e _ _ (by simp) _ _ _ _) (one3 _ _ _) ?df3 ?df4 ?df5 ?_))
                    case df3 => unfold maxLen; omega
                    case df4 => omega
                    case df5 => have := HB.out.size; have := hb1.size; simp; omega
                    intro v' w2 hown hgrow _
                    obtain ⟨g2, cap2, rfl, hg1, hg2, hg3, hg4⟩ := own_some hown (by omega)
                    have hlast := hg4 (ts.length * 3 + 2) (.int .i64 p) (by rw [List.getElem?_append_right (by rw [tcells_len]; omega), tcells_len]; simp)
                    have HBB : Hid (Below w.heap.size w w2) := bel2 HB.out hb1 HB.out.size hgrow (fun k hk => (World.ownsRow.lt HO.out k hk).1)
                    clear hown hgrow hg4
                    go_wp2_with (first | (go_at_call 13; refine (fails_c _ _ _).mono ?_; rintro e w9 ⟨rfl, hw⟩; have hw2 := hw.symm; subst hw2))
                    go_ret2
                    exact out_bad HX.out w2.heap.size rfl HBB.out.size (diag_heap _ _ _ _) (belA' HBB.out _ HBB.out.size)
                  · have hf := HF.out
                    rw [HC.out, lexG_tk hq hfull, ← HC.out, List.drop_drop, app_cons] at hf
                    have HF2 : Hid (Res.app (ts ++ [⟨k, x, p⟩]) (lexG (p + n) ((L s).drop (p + n)) (dfN false k x) (ts ++ [(⟨k, x, p⟩ : Tok)]).length) = lexG 0 (L s) false 0) := by rw [List.length_append]; exact hf
                    have hsm : ((ts.length : Nat) : Int) + 1 ≤ 16384 := by omega
                    have hl2 : (ts ++ [(⟨k, x, p⟩ : Tok)]).length ≤ 16384 := by rw [List.length_append]; simp; omega
                    clear hf hq
                    
                    go_wp2_with (first | (go_at_call_of 14 (Value.string ⟨#[47, 47]⟩); refine (begins_c s ⟨#[47, 47]⟩ p _ hs2 (Nat.le_of_lt hlt) (by decide)).mono ?_; rintro e w' ⟨rfl, hw⟩; have hw2 := hw.symm; subst hw2; rw [show Lib.hasPrefix ((L s).drop p) (L ⟨#[47, 47]⟩) = false from HP1.out]) | (go_at_call 14; refine (begins_c s ⟨#[47, 42]⟩ p _ hs2 (Nat.le_of_lt hlt) (by decide)).mono ?_; rintro e w' ⟨rfl, hw⟩; have hw2 := hw.symm; subst hw2; rw [show Lib.hasPrefix ((L s).drop p) (L ⟨#[47, 42]⟩) = false from HP2.out]) | (go_at_call 16; refine (HONE2 _).mono ?_; rintro e w1 ⟨rfl, hb1⟩) | (at_builtin; refine wpList_append_own _ rfl _ _ 35 rfl w.heap.size 39 i0 _ 3 32 Try.underlying35 hi hz0 hz1 hz2 rfl (by decide) _ ts.length (tcells ts) rfl (World.ownsRow.alloc (World.ownsRow.alloc (owns_keep hb1 HO.out) _) _) ⟨w1.heap.size + 1, 0, none⟩ 1 1 [.int .i64 k, .string sx, .int .i64 p] rfl rfl (nw3e _ _ (by simp) _ _ _ _) (one3 _ _ _) ?dg3 ?dg4 ?dg5 ?_))
                    case dg3 => unfold maxLen; omega
                    case dg4 => omega
                    case dg5 => have := HB.out.size; have := hb1.size; simp; omega
                    intro v' w2 hown hgrow _
                    have HBB : Hid (Below w.heap.size w w2) := bel2 HB.out hb1 HB.out.size hgrow (fun k hk => (World.ownsRow.lt HO.out k hk).1)
                    have HOO : Hid _ := own_new (x := x) (by rw [← HSX.out]; exact hown)
                    obtain ⟨g2, cap2, rfl, hg1, hg2, hg3, hg4⟩ := own_some hown (by omega)
                    clear hown hgrow hg4
                    go_wp2
                    go_roundw
                    case rel => exact ⟨p + n, (dfN false k x), ts ++ [(⟨k, x, p⟩ : Tok)], by omega, hl2, by go_num, (congrArg Value.bool HD.out).symm, HOO, HF2, HBB⟩
                    case measure => simp [intOf]; omega
                · have HD : Hid _ := hd
                  clear hd
                  have HQ : Hid _ := hq
                  clear hq
                  have hq := HQ.out
                  by_cases hfull : ts.length = 16384
                  · have hf := HF.out
                    rw [HC.out, lexG_full hq hfull] at hf
                    have hlx := HL.out
                    rw [← hf] at hlx
                    have HX : Hid (lexL (L s) = .bad p 2) := hlx
                    have hbig : (16384 : Int) < ((ts.length : Nat) : Int) + 1 := by omega
                    have HFU : Hid _ := hfull
                    clear hf hlx hq hfull
                    
                    go_wp2_with (first | (go_at_call_of 14 (Value.string ⟨#[47, 47]⟩); refine (begins_c s ⟨#[47, 47]⟩ p _ hs2 (Nat.le_of_lt hlt) (by decide)).mono ?_; rintro e w' ⟨rfl, hw⟩; have hw2 := hw.symm; subst hw2; rw [show Lib.hasPrefix ((L s).drop p) (L ⟨#[47, 47]⟩) = false from HP1.out]) | (go_at_call 14; refine (begins_c s ⟨#[47, 42]⟩ p _ hs2 (Nat.le_of_lt hlt) (by decide)).mono ?_; rintro e w' ⟨rfl, hw⟩; have hw2 := hw.symm; subst hw2; rw [show Lib.hasPrefix ((L s).drop p) (L ⟨#[47, 42]⟩) = false from HP2.out]) | (go_at_call 16; refine (HONE2 _).mono ?_; rintro e w1 ⟨rfl, hb1⟩) | (at_builtin; refine wpList_append_own _ rfl _ _ 35 rfl w.heap.size 39 i0 _ 3 32 Try.underlying35 hi hz0 hz1 hz2 rfl (by decide) _ ts.length (tcells ts) rfl (World.ownsRow.alloc (World.ownsRow.alloc (owns_keep hb1 HO.out) _) _) ⟨w1.heap.size + 1, 0, none⟩ 1 1 [.int .i64 k, .string sx, .int .i64 p] rfl rfl (nw3e _ _ (by simp) _ _ _ _) (one3 _ _ _) ?ef3 ?ef4 ?ef5 ?_))
                    case ef3 => unfold maxLen; omega
                    case ef4 => omega
                    case ef5 => have := HB.out.size; have := hb1.size; simp; omega
                    intro v' w2 hown hgrow _
                    obtain ⟨g2, cap2, rfl, hg1, hg2, hg3, hg4⟩ := own_some hown (by omega)
                    have hlast := hg4 (ts.length * 3 + 2) (.int .i64 p) (by rw [List.getElem?_append_right (by rw [tcells_len]; omega), tcells_len]; simp)
                    have HBB : Hid (Below w.heap.size w w2) := bel2 HB.out hb1 HB.out.size hgrow (fun k hk => (World.ownsRow.lt HO.out k hk).1)
                    clear hown hgrow hg4
                    go_wp2_with (first | (go_at_call 13; refine (fails_c _ _ _).mono ?_; rintro e w9 ⟨rfl, hw⟩; have hw2 := hw.symm; subst hw2))
                    go_ret2
                    exact out_bad HX.out w2.heap.size rfl HBB.out.size (diag_heap _ _ _ _) (belA' HBB.out _ HBB.out.size)
                  · have hf := HF.out
                    rw [HC.out, lexG_tk hq hfull, ← HC.out, List.drop_drop, app_cons] at hf
                    have HF2 : Hid (Res.app (ts ++ [⟨k, x, p⟩]) (lexG (p + n) ((L s).drop (p + n)) (dfN false k x) (ts ++ [(⟨k, x, p⟩ : Tok)]).length) = lexG 0 (L s) false 0) := by rw [List.length_append]; exact hf
                    have hsm : ((ts.length : Nat) : Int) + 1 ≤ 16384 := by omega
                    have hl2 : (ts ++ [(⟨k, x, p⟩ : Tok)]).length ≤ 16384 := by rw [List.length_append]; simp; omega
                    clear hf hq
                    
                    go_wp2_with (first | (go_at_call_of 14 (Value.string ⟨#[47, 47]⟩); refine (begins_c s ⟨#[47, 47]⟩ p _ hs2 (Nat.le_of_lt hlt) (by decide)).mono ?_; rintro e w' ⟨rfl, hw⟩; have hw2 := hw.symm; subst hw2; rw [show Lib.hasPrefix ((L s).drop p) (L ⟨#[47, 47]⟩) = false from HP1.out]) | (go_at_call 14; refine (begins_c s ⟨#[47, 42]⟩ p _ hs2 (Nat.le_of_lt hlt) (by decide)).mono ?_; rintro e w' ⟨rfl, hw⟩; have hw2 := hw.symm; subst hw2; rw [show Lib.hasPrefix ((L s).drop p) (L ⟨#[47, 42]⟩) = false from HP2.out]) | (go_at_call 16; refine (HONE2 _).mono ?_; rintro e w1 ⟨rfl, hb1⟩) | (at_builtin; refine wpList_append_own _ rfl _ _ 35 rfl w.heap.size 39 i0 _ 3 32 Try.underlying35 hi hz0 hz1 hz2 rfl (by decide) _ ts.length (tcells ts) rfl (World.ownsRow.alloc (World.ownsRow.alloc (owns_keep hb1 HO.out) _) _) ⟨w1.heap.size + 1, 0, none⟩ 1 1 [.int .i64 k, .string sx, .int .i64 p] rfl rfl (nw3e _ _ (by simp) _ _ _ _) (one3 _ _ _) ?eg3 ?eg4 ?eg5 ?_))
                    case eg3 => unfold maxLen; omega
                    case eg4 => omega
                    case eg5 => have := HB.out.size; have := hb1.size; simp; omega
                    intro v' w2 hown hgrow _
                    have HBB : Hid (Below w.heap.size w w2) := bel2 HB.out hb1 HB.out.size hgrow (fun k hk => (World.ownsRow.lt HO.out k hk).1)
                    have HOO : Hid _ := own_new (x := x) (by rw [← HSX.out]; exact hown)
                    obtain ⟨g2, cap2, rfl, hg1, hg2, hg3, hg4⟩ := own_some hown (by omega)
                    clear hown hgrow hg4
                    go_wp2
                    go_roundw
                    case rel => exact ⟨p + n, (dfN false k x), ts ++ [(⟨k, x, p⟩ : Tok)], by omega, hl2, by go_num, (congrArg Value.bool HD.out).symm, HOO, HF2, HBB⟩
                    case measure => simp [intOf]; omega
      · have hpe : p = s.size := by omega
        subst hpe
        have hf := HF.out
        rw [drop_all s s.size (Nat.le_refl _), lexG_nil] at hf
        have hlx := HL.out
        rw [← hf] at hlx
        have HX : Hid (lexL (L s) = .toks (ts ++ [⟨6, [], s.size⟩])) := by rw [hlx]; simp [Res.app, Hid]
        clear hf hlx
        go_wp2_with (at_builtin; refine wpList_append_own _ rfl _ _ 35 rfl w.heap.size 39 i0 _ 3 32 Try.underlying35 hi hz0 hz1 hz2 rfl (by decide) _ ts.length (tcells ts) rfl (World.ownsRow.alloc HO.out _) ⟨wr.heap.size, 0, none⟩ 1 1 [.int .i64 6, .string ⟨#[]⟩, .int .i64 s.size] rfl rfl (new3 wr _ _ _ _) (one3 _ _ _) ?z3 ?z4 ?z5 ?_)
        case z3 => unfold maxLen; omega
        case z4 => omega
        case z5 => have := HB.out.size; simp; omega
        intro v' w2 hown hgrow _
        go_wp2
        go_ret2
        refine out_toks HX.out v' rfl ?_ ?_
        · rw [tcells_app, tcells_one, List.length_append]; exact hown
        · exact (belA' HB.out _ HB.out.size).grown hgrow (by have := HB.out.size; simp; omega) (fun k hk => (World.ownsRow.lt HO.out k hk).1)
end Go.Proofs.Ytpnhefjiobnelaa

/- Layer 2 of the program: all tokens of a source. -/
import Derived.Test.YtnlfepfhabaekaaXJ
namespace Go.Proofs.Ytnlfepfhabaekaa
open Go.RowKit Lg
set_option linter.unusedVariables false
set_option linter.unusedSimpArgs false

def atOf (b : Nat) (w : World) : Nat := (intOf ((w.cell? ⟨b, 1, none⟩).getD (.int .i64 0))).toNat
theorem atOf_rd {B b : Nat} {s : ByteArray} {p : Nat} {df : Bool} {ts : List Tok} {w : World} (h : Rd B b s p df ts w) : atOf b w = p := by
  obtain ⟨v, h1, hh, ho, hne⟩ := h
  unfold atOf
  rw [(rd_cells hh).2.1]; simp [intOf]
theorem stp_err {df : Bool} {c : UInt8} {r : List UInt8} {e : Int} (h : stp df c r = .err e) : (e == 0) = false ∧ (e != 0) = true := by
  have : e = 20 ∨ e = 4 ∨ e = 21 := by
    unfold stp tickP at h
    repeat' (split at h)
    all_goals first | (cases h; done) | (injection h with h; subst h; simp)
  rcases this with rfl | rfl | rfl <;> decide
theorem diag_heap (w : World) (a b : Value) (t : TypeId) : (w.alloc (.cells #[a, b] t)).heap[w.heap.size]? = some (.cells #[a, b] t (0, 0)) := by show (w.heap.push _)[w.heap.size]? = _; simp
theorem rd_heap (w : World) (a b c d : Value) (t : TypeId) : (w.alloc (.cells #[a, b, c, d] t)).heap[w.heap.size]? = some (.cells #[a, b, c, d] t (0, 0)) := by show (w.heap.push _)[w.heap.size]? = _; simp
def LexOut (s : ByteArray) (w : World) (e : Ending) (w' : World) : Prop :=
  match lexL (L s) with
  | .toks l => ∃ v, e = .returned (.tuple #[v, .slice none 0 0]) ∧ w'.ownsRow w.heap.size 37 3 v l.length (tcells l) ∧ Below w.heap.size w w'
  | .bad p c => ∃ g, e = .returned (.tuple #[.slice none 0 0, .slice (some ⟨g, 0, none⟩) 1 1]) ∧ w.heap.size ≤ g ∧ w'.heap[g]? = some (.cells #[.int .i64 p, .int .i64 c] 35 (0, 0)) ∧ Below w.heap.size w w'
theorem out_bad {s : ByteArray} {w w' : World} {e : Ending} {p : Nat} {c : Int} (h : lexL (L s) = .bad p c) (g : Nat) (he : e = .returned (.tuple #[.slice none 0 0, .slice (some ⟨g, 0, none⟩) 1 1])) (hg : w.heap.size ≤ g) (hh : w'.heap[g]? = some (.cells #[.int .i64 p, .int .i64 c] 35 (0, 0))) (hb : Below w.heap.size w w') : LexOut s w e w' := by
  unfold LexOut; rw [h]; exact ⟨g, he, hg, hh, hb⟩
theorem out_toks {s : ByteArray} {w w' : World} {e : Ending} {l : List Tok} (h : lexL (L s) = .toks l) (v : Value) (he : e = .returned (.tuple #[v, .slice none 0 0])) (ho : w'.ownsRow w.heap.size 37 3 v l.length (tcells l)) (hb : Below w.heap.size w w') : LexOut s w e w' := by
  unfold LexOut; rw [h]; exact ⟨v, he, ho, hb⟩

theorem belA' {B : Nat} {w a : World} (h : Below B w a) (o : Obj) (hB : B ≤ a.heap.size) : Below B w (a.alloc o) := h.alloc hB o
set_option maxHeartbeats 4000000 in
theorem Lex_c (s : ByteArray) (m : Int) (w : World) (hs : s.size ≤ maxLen) (hm : w.cell? ⟨0, 0, none⟩ = some (.int .i64 m)) (h0 : 0 < w.heap.size) :
    Calls Try.prog 9 #[.string s] w fun e w' => LexOut s w e w' := by
  unfold maxLen at hs
  by_cases hlong : 65536 < s.size
  · have HL : Hid (lexL (L s) = .bad 0 4) := by unfold lexL; rw [if_pos (by rw [len_L]; exact hlong)]; exact rfl
    go_enter Try.func9, Try.ntmps9
    go_wp2
    go_ret2
    exact out_bad HL.out w.heap.size rfl (Nat.le_refl _) (diag_heap _ _ _ _) (belA (Below.refl _ _) _)
  · have HL : Hid (lexL (L s) = match lexG 0 (L s) false 0 with | .toks t => .toks (t ++ [⟨6, [], s.size⟩]) | r => r) := by unfold lexL; rw [if_neg (by rw [len_L]; exact hlong), len_L]; exact rfl
    go_enter Try.func9, Try.ntmps9
    go_wp2
    go_loopw [5] (fun ev wr => ∃ (p : Nat) (df : Bool) (ts : List Tok), p ≤ s.size ∧ ts.length ≤ 16384 ∧ Hid (Rd w.heap.size w.heap.size s p df ts wr) ∧ Hid (Res.app ts (lexG p ((L s).drop p) df ts.length) = lexG 0 (L s) false 0) ∧ Hid (Below w.heap.size w wr)) (fun _ wr => s.size - atOf w.heap.size wr)
    case atStart => exact ⟨0, false, [], Nat.zero_le _, by decide, ⟨_, Nat.le_refl _, rd_heap _ _ _ _ _ _, World.ownsRow_nil _ _ _ _, by simp [Value.ownBlock]⟩, by rw [List.drop_zero]; exact app_nil _, belA (Below.refl _ _) _⟩
    case round =>
      obtain ⟨p, df, ts, hp, hl, HR, HF, HB⟩ := hrel
      have hmr : wr.cell? ⟨0, 0, none⟩ = some (.int .i64 m) := by rw [HB.out.cell h0]; exact hm
      have hat := atOf_rd HR.out
      obtain ⟨v, g1, hh, ho, hne⟩ := HR.out
      obtain ⟨c0, c1, c2, c3, cf⟩ := rd_cells hh
      have HH : Hid _ := hh
      have HO : Hid _ := ho
      have HT : Hid (atOf w.heap.size wr = p) := hat
      clear hh ho hat
      by_cases hlt : p < s.size
      · have hcr := drop_cons s p hlt
        have hst := step_c w.heap.size w.heap.size s p df ts wr HR.out hl (by omega) HB.out.size s[p] _ hcr (by omega) m hmr
        have hsp := stp_pos df s[p] ((L s).drop (p + 1))
        rw [← hcr, List.length_drop, len_L] at hsp
        have HC : Hid ((L s).drop p = s[p] :: (L s).drop (p + 1)) := hcr
        clear hcr
        cases hq : stp df s[p] ((L s).drop (p + 1)) with
        | skip n =>
          rw [hq] at hst hsp
          have hf := HF.out
          rw [HC.out, lexG_skip hq, ← HC.out, List.drop_drop] at hf
          have HF2 : Hid _ := hf
          have hsp2 : 1 ≤ n ∧ n ≤ s.size - p := hsp
          clear hf hq hsp
          go_wp2_with (first | (go_at_call 20; refine hst.mono ?_; rintro e w1 ⟨rfl, ha, hb⟩; simp only [codeO]))
          go_roundw
          case rel => exact ⟨p + n, df, ts, by omega, hl, ha, HF2, HB.out.trans hb⟩
          case measure =>
            have e1 := atOf_rd (show Rd w.heap.size w.heap.size s (p + n) df ts w1 from ha)
            rw [e1, HT.out]; omega
        | err c =>
          obtain ⟨e1, e2⟩ := stp_err hq
          rw [hq] at hst
          have hf := HF.out
          rw [HC.out, lexG_err hq] at hf
          have hlx := HL.out
          rw [← hf] at hlx
          have HX : Hid (lexL (L s) = .bad p c) := hlx
          clear hf hlx hq
          go_wp2_with (first | (go_at_call 20; refine hst.mono ?_; rintro e w1 ⟨rfl, ⟨d, v1, q1, hh1, ho1, hne1⟩, hb⟩; obtain ⟨d0, d1, d2, d3, df1⟩ := rd_cells hh1; simp only [codeO]))
          go_region
          all_goals go_wp2
          all_goals go_ret2
          all_goals exact out_bad HX.out w1.heap.size rfl (Nat.le_trans HB.out.size hb.size) (diag_heap w1.drew _ _ _) (((HB.out.trans hb).drew).alloc (Nat.le_trans HB.out.size hb.size) _)
        | tk k x n =>
          rw [hq] at hst hsp
          have hsp2 : 1 ≤ n ∧ n ≤ s.size - p := hsp
          by_cases hfull : ts.length = 16384
          · have hf := HF.out
            rw [HC.out, lexG_full hq hfull] at hf
            have hlx := HL.out
            rw [← hf] at hlx
            have HX : Hid (lexL (L s) = .bad p 2) := hlx
            have hst2 : Calls Try.prog 20 #[.pointer (some ⟨w.heap.size, 0, none⟩)] wr fun e w' => e = .returned (.int .i64 2) ∧ ((∃ d, Rd w.heap.size w.heap.size s p d ts w') ∧ Below w.heap.size wr w') := by
              refine hst.mono ?_
              rintro e w' ⟨rfl, ha, hb⟩
              have ha2 : TkAfter w.heap.size w.heap.size s p (dfN df k x) ts k x n w' := ha
              unfold TkAfter at ha2
              rw [if_pos hfull] at ha2
              exact ⟨by unfold codeO; simp only; rw [if_pos hfull], ha2, hb⟩
            clear hf hlx hq hst
            go_wp2_with (first | (go_at_call 20; refine hst2.mono ?_; rintro e w1 ⟨rfl, ⟨d, v1, q1, hh1, ho1, hne1⟩, hb⟩; obtain ⟨d0, d1, d2, d3, df1⟩ := rd_cells hh1))
            go_region
            all_goals go_wp2
            all_goals go_ret2
            all_goals exact out_bad HX.out w1.heap.size rfl (Nat.le_trans HB.out.size hb.size) (diag_heap w1.drew _ _ _) (((HB.out.trans hb).drew).alloc (Nat.le_trans HB.out.size hb.size) _)
          · have hf := HF.out
            rw [HC.out, lexG_tk hq hfull, ← HC.out, List.drop_drop, app_cons] at hf
            have HF2 : Hid (Res.app (ts ++ [⟨k, x, p⟩]) (lexG (p + n) ((L s).drop (p + n)) (dfN df k x) (ts ++ [(⟨k, x, p⟩ : Tok)]).length) = lexG 0 (L s) false 0) := by rw [List.length_append]; exact hf
            have hst2 : Calls Try.prog 20 #[.pointer (some ⟨w.heap.size, 0, none⟩)] wr fun e w' => e = .returned (.int .i64 0) ∧ (Rd w.heap.size w.heap.size s (p + n) (dfN df k x) (ts ++ [⟨k, x, p⟩]) w' ∧ Below w.heap.size wr w') := by
              refine hst.mono ?_
              rintro e w' ⟨rfl, ha, hb⟩
              have ha2 : TkAfter w.heap.size w.heap.size s p (dfN df k x) ts k x n w' := ha
              unfold TkAfter at ha2
              rw [if_neg hfull] at ha2
              exact ⟨by unfold codeO; simp only; rw [if_neg hfull], ha2, hb⟩
            have hl2 : (ts ++ [(⟨k, x, p⟩ : Tok)]).length ≤ 16384 := by rw [List.length_append]; simp; omega
            clear hf hq hst hsp
            go_wp2_with (first | (go_at_call 20; refine hst2.mono ?_; rintro e w1 ⟨rfl, ha, hb⟩))
            go_roundw
            case rel => exact ⟨p + n, dfN df k x, ts ++ [(⟨k, x, p⟩ : Tok)], by omega, hl2, ha, HF2, HB.out.trans hb⟩
            case measure =>
              have e1 := atOf_rd ha
              rw [e1, HT.out]; omega
      · have hpe : p = s.size := by omega
        subst hpe
        have hf := HF.out
        rw [drop_all s s.size (Nat.le_refl _), lexG_nil] at hf
        have hlx := HL.out
        rw [← hf] at hlx
        have HX : Hid (lexL (L s) = .toks (ts ++ [⟨6, [], s.size⟩])) := by rw [hlx]; simp [Res.app, Hid]
        clear hf hlx
        obtain ⟨i0, hi, hz0, hz1, hz2⟩ := infoTok
        obtain ⟨ao, cap, rfl⟩ := slice_of HO.out
        go_wp2_with (at_builtin; refine wpList_append_own _ rfl _ _ 22 rfl w.heap.size 37 i0 _ 3 32 Try.underlying22 hi hz0 hz1 hz2 rfl (by decide) _ ts.length (tcells ts) rfl (World.ownsRow.alloc HO.out _) ⟨wr.heap.size, 0, none⟩ 1 1 [.int .i64 6, .string ⟨#[]⟩, .int .i64 s.size] rfl rfl (new3 wr _ _ _ _) (one3 _ _ _) ?c3 ?c4 ?c5 ?_)
        case c3 => unfold maxLen; omega
        case c4 => omega
        case c5 => have := HB.out.size; simp; omega
        intro v' w2 hown hgrow _
        go_wp2
        go_ret2
        refine out_toks HX.out v' rfl ?_ ?_
        · rw [tcells_app, tcells_one, List.length_append]; exact hown
        · exact (belA' HB.out _ HB.out.size).grown hgrow (by have := HB.out.size; simp; omega) (fun k hk => (World.ownsRow.lt HO.out k hk).1)
end Go.Proofs.Ytnlfepfhabaekaa

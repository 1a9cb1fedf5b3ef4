/- Layer 19: the document's code of a net's number. -/
import Derived.Test.YtodpljgajjcdoaaGreatDoorDA
import Derived.Lib.AppendStr
import Derived.Laws.BytesArg
import Derived.Maps.AppendAt
namespace Go.Proofs.YtodpljgajjcdoaaGreatDoor
set_option maxRecDepth 100000
open Go.RowKit Lg Nl Go.Maps Wf Vd
set_option linter.unusedVariables false
set_option linter.unusedSimpArgs false

theorem hidV {p : Prop} (h : p) : Hid p := h
/-- bytes as cells -/
def bC (l : List UInt8) : List Value := l.map fun b => .int .u8 b.toNat
theorem bC_app (a b : List UInt8) : bC (a ++ b) = bC a ++ bC b := by unfold bC; rw [List.map_append]
theorem bC_len (l : List UInt8) : (bC l).length = l.length := by simp [bC]
theorem bC_str (s : ByteArray) : Lib.strCells s = bC (L s) := rfl
theorem bC_one (l : List UInt8) : ∀ u ∈ bC l, u.oneCell' = true := by intro u hu; unfold bC at hu; obtain ⟨a, _, rfl⟩ := List.mem_map.1 hu; rfl
theorem infoU8 : ∃ i, Tryz.prog.info? 5 = some i ∧ i.zero = some (.int .u8 0) ∧ i.size = 1 ∧ i.bytes = 1 := info_parts (by kernel_rfl)
theorem strNums (l : List UInt8) : strOfNums (l.map fun b => (b.toNat : Int)) = S l := by
  unfold strOfNums S
  congr 1
  simp [Function.comp_def]
/-- an owned row of bytes as a text -/
theorem conv_own {w : World} {B n : Nat} {a : Option Addr} {c : Nat} {l : List UInt8} (h : w.ownsRow B 5 1 (.slice a n c) n (bC l)) (hn : n = l.length) :
    (convert 49 9 (.slice a n c)).run Tryz.prog w = .ok (.string (S l)) w := by
  subst hn
  have hh := h
  rcases h.2 with ⟨e1, e2⟩ | ⟨g, cap, cur, e1, _⟩
  · injection e1 with e1 e3 e4
    subst e1 e4
    have hl : l = [] := List.eq_nil_of_length_eq_zero e2
    subst hl
    exact run_convert_bytes_nil w 49 5 Tryz.underlying49 Tryz.underlying5 _ _ 9 Tryz.underlying9
  · injection e1 with e1 e3 e4
    subst e1
    rw [run_convert_bytes_arg w 49 5 Tryz.underlying49 Tryz.underlying5 g 0 l.length c (l.map fun b => (b.toNat : Int)) (by simp) (fun i hi => by
      rw [Nat.zero_add, hh.cellAt i (by omega)]
      unfold bC
      rw [List.getElem?_map, List.getElem?_eq_getElem hi]
      simp [List.getD_eq_getElem?_getD, List.getElem?_map, List.getElem?_eq_getElem hi]) 9 Tryz.underlying9, strNums]
def restL (m : Int) : List UInt8 := if m < 0 then [] else codeL m.toNat
theorem code_step (k : Nat) (hk : k < 4096) : codeL k = by8 (33 + k % 94) :: restL ((k : Int) / 94 - 1) := by
  unfold restL codeL
  by_cases h : k < 94
  · rw [if_pos h, if_pos (by omega), Nat.mod_eq_of_lt h]
  · rw [if_neg h, if_neg (by omega)]
    have e : ((k : Int) / 94 - 1).toNat = k / 94 - 1 := by omega
    rw [e, if_pos (by omega)]
theorem by8_nat (k : Nat) (h : k < 94) : ((by8 (33 + k)).toNat : Int) = 33 + (k : Int) := by
  unfold by8
  rw [UInt8.toNat_ofNat', Nat.mod_eq_of_lt (by omega)]
  omega
theorem new1 (w : World) (b : UInt8) (z : Int) (hz : (b.toNat : Int) = z) (e : TypeId) (j : Nat) (u : Value) (h : (bC [b])[j]? = some u) : (w.alloc (.cells #[.int .u8 z] e)).cell? ((⟨w.heap.size, 0, none⟩ : Addr).add j) = some u := by
  rw [addOv, Nat.zero_add, Lib.cell_of_heap (alAt rfl), ← hz]
  simpa [bC] using h
set_option maxHeartbeats 1000000 in
theorem rCode_c (n : Nat) (w : World) (hn : n < 4096) : Calls Tryz.prog 41 #[.int .i64 n] w fun e w' => e = .returned (.string (S (codeL n))) ∧ Below w.heap.size w w' := by
  obtain ⟨jj, HJ⟩ : ∃ jj, Hid (Tryz.prog.info? 5 = some jj ∧ jj.zero = some (.int .u8 0) ∧ jj.size = 1 ∧ jj.bytes = 1) := infoU8
  have HN : Hid (n < 4096) := hn
  clear hn
  go_enter Tryz.func41, Tryz.ntmps41
  go_wp2_with fail
  go_loopg [0, 3] (n + 1) (fun g s0 s3 wr => ∃ (m : Int) (l : List UInt8) (a : Option Addr) (c : Nat), s0 = .int .i64 m ∧ s3 = .slice a l.length c ∧ g = (m + 1).toNat ∧ Hid (-1 ≤ m ∧ m < 4096 ∧ l.length < 5) ∧ Hid (codeL n = l ++ restL m) ∧ Hid (wr.ownsRow w.heap.size 5 1 (.slice a l.length c) l.length (bC l)) ∧ Hid (Below w.heap.size w wr))
  case atStart => exact ⟨n, [], none, 0, rfl, rfl, by omega, ⟨by omega, by have := HN.out; omega, by decide⟩, by show _ = _; unfold restL; rw [if_neg (by omega)]; simp, World.ownsRow_nil _ _ _ _, Below.refl _ _⟩
  case round =>
    obtain ⟨m, l, a, c, rfl, rfl, rfl, HM, HC, HO, HB⟩ := hrel
    obtain ⟨wx, hwx⟩ : ∃ wx, wx = wr := ⟨_, rfl⟩
    rw [← hwx] at HO HB ⊢
    clear hwx
    by_cases hm : m < 0
    · have hm' : decide ((0 : Int) ≤ m) = false := decide_eq_false (by omega)
      have HE : Hid (codeL n = l) := by show _ = _; have h := HC.out; unfold restL at h; rw [if_pos hm, List.append_nil] at h; exact h
      have hconv := conv_own HO.out rfl
      clear hm
      go_wp2_with fail
      go_ret
      exact ⟨by rw [HE.out]; rfl, HB.out⟩
    · obtain ⟨k, rfl⟩ : ∃ k : Nat, m = (k : Int) := ⟨m.toNat, by omega⟩
      have hk : k < 4096 := by have := HM.out; omega
      have HS := hidV (code_step k hk)
      have HK : Hid (k < 4096) := hk
      clear hm hk
      have k0 : decide ((0 : Int) ≤ (k : Int)) = true := decide_eq_true (by omega)
      have HZ : Hid (((by8 (33 + k % 94)).toNat : Int) = 33 + (k : Int) % 94) := by have h := by8_nat (k % 94) (Nat.mod_lt _ (by decide)); show _ = _; rw [h]; omega
      go_wp2_with (first
        | (at_builtin; refine wpList_append_own_at _ rfl _ _ 49 rfl w.heap.size 5 jj _ 1 1 Tryz.underlying49 HJ.out.1 HJ.out.2.1 HJ.out.2.2.1 HJ.out.2.2.2 rfl (by decide) (.slice a l.length c) l.length (bC l) rfl (HO.out.alloc _) ⟨wx.heap.size, 0, none⟩ 1 1 (bC [by8 (33 + k % 94)]) rfl rfl (fun j u hj => new1 _ _ _ HZ.out _ j u hj) (bC_one _) (by have := HM.out; unfold maxLen; omega) (by have := HM.out; omega) (Nat.le_trans HB.out.size (by simp)) ?_; intro v9 w9 hown9 hgrow9 hnil9 hloc9; obtain ⟨a9, c9, rfl⟩ := own_slice hown9; have HO9 : Hid (w9.ownsRow w.heap.size 5 1 (.slice a9 (l.length + 1) c9) (l.length + 1) (bC l ++ bC [by8 (33 + k % 94)])) := hown9; have HG9 : Hid ((wx.alloc (.cells #[.int .u8 (33 + (k : Int) % 94)] 5)).grownBy w9 (Value.slice a l.length c).ownBlock) := hgrow9; clear hown9 hgrow9 hnil9 hloc9))
      go_roundg ((k : Int) / 94 - 1 + 1).toNat
      case measure => have := HK.out; omega
      case rel =>
        have e1 : codeL n = (l ++ [by8 (33 + k % 94)]) ++ restL ((k : Int) / 94 - 1) := by
          have h := HC.out
          have h2 : restL (k : Int) = codeL k := by unfold restL; rw [if_neg (by omega)]; simp
          rw [h, h2, HS.out]
          simp
        have e2 : l.length + 1 ≤ 2 := by
          have h := congrArg List.length e1
          have := (codeL_len n).2
          simp only [List.length_append, List.length_cons, List.length_nil] at h
          omega
        refine ⟨(k : Int) / 94 - 1, l ++ [by8 (33 + k % 94)], a9, c9, ?_, ?_, rfl, ?_, e1, ?_, ?_⟩
        · have := HK.out
          congr 1
          unfold wrap64
          omega
        · rw [List.length_append]; rfl
        · have := HK.out
          show _ ∧ _ ∧ _
          rw [List.length_append]
          exact ⟨by omega, by omega, by show l.length + 1 < 5; omega⟩
        · show World.ownsRow _ _ _ _ _ _ _
          rw [List.length_append, bC_app]
          exact HO9.out
        · exact Gb (belA HB.out _) HG9.out (fun g e => (World.ownsRow.lt HO.out g e).1)
end Go.Proofs.YtodpljgajjcdoaaGreatDoor

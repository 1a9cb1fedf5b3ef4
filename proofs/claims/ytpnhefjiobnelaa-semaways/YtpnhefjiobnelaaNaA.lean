/- Layer 4, plain: a, b and c with two signs between; the sources by which a parser is awake. -/
import Derived.Test.YtpnhefjiobnelaaGM
namespace Lg
open Go
set_option linter.unusedVariables false
set_option linter.unusedSimpArgs false
def sgnL : List (List UInt8) := [[124, 124], [38, 38], [124], [94], [38], [61, 61], [33, 61], [60], [60, 61], [62], [62, 61], [60, 60], [62, 62], [43], [45]]
def sgnO : List Int := [27, 26, 25, 24, 23, 21, 22, 17, 18, 19, 20, 15, 16, 13, 14]
def sgnV : List Nat := [1, 2, 3, 4, 5, 6, 6, 7, 7, 7, 7, 8, 8, 9, 9]
def sg (i : Nat) : List UInt8 := sgnL.getD i []
def lvT (p q : Nat) : List UInt8 := [109, 111, 100, 117, 108, 101, 32, 109, 40, 41, 59, 32, 97, 115, 115, 105, 103, 110, 32, 121, 32, 61, 32, 97, 32] ++ sg p ++  [32, 98, 32] ++ sg q ++ [32, 99, 59, 32, 101, 110, 100, 109, 111, 100, 117, 108, 101]
def lvK (p q : Nat) : List Tok := [⟨1, [109, 111, 100, 117, 108, 101], 0⟩, ⟨1, [109], 7⟩, ⟨3, [40], 8⟩, ⟨3, [41], 9⟩, ⟨3, [59], 10⟩, ⟨1, [97, 115, 115, 105, 103, 110], 12⟩, ⟨1, [121], 19⟩, ⟨3, [61], 21⟩, ⟨1, [97], 23⟩, ⟨3, sg p, 25⟩, ⟨1, [98], 26 + (sg p).length⟩, ⟨3, sg q, 28 + (sg p).length⟩, ⟨1, [99], 29 + (sg p).length + (sg q).length⟩, ⟨3, [59], 30 + (sg p).length + (sg q).length⟩, ⟨1, [101, 110, 100, 109, 111, 100, 117, 108, 101], 32 + (sg p).length + (sg q).length⟩]
def lvA : X := ⟨2, [97], [], false, .nil, 23⟩
def lvB (p : Nat) : X := ⟨2, [98], [], false, .nil, 26 + (sg p).length⟩
def lvC (p q : Nat) : X := ⟨2, [99], [], false, .nil, 29 + (sg p).length + (sg q).length⟩
def lvX (p q : Nat) : X :=
  if sgnV.getD p 0 < sgnV.getD q 0 then ⟨sgnO.getD p 0, [], [], false, lvA.f (X.f ⟨sgnO.getD q 0, [], [], false, (lvB p).f ((lvC p q).f .nil), 28 + (sg p).length⟩ .nil), 25⟩
  else ⟨sgnO.getD q 0, [], [], false, X.f ⟨sgnO.getD p 0, [], [], false, lvA.f ((lvB p).f .nil), 25⟩ ((lvC p q).f .nil), 28 + (sg p).length⟩
theorem lv_lexF : ∀ p, p < 15 → ∀ q, q < 15 → lexF 60 0 (lvT p q) false 0 = some (lvK p q) := by decide +kernel
theorem lv_lex (p q : Nat) (hp : p < 15) (hq : q < 15) : lexL (lvT p q) = .toks (lvK p q ++ [⟨6, [], (lvT p q).length⟩]) := by
  refine lexL_of (lexF_ok 60 _ _ _ _ _ (lv_lexF p hp q hq)) ?_
  have : ∀ i, i < 15 → (sg i).length ≤ 2 := by decide +kernel
  have h1 := this p hp
  have h2 := this q hq
  unfold lvT
  simp; omega
theorem lv_exF : ∀ p, p < 15 → ∀ q, q < 15 → pE (lvK p q ++ [⟨6, [], (lvT p q).length⟩]) 20 (.ex 1) 8 = some (.ok (lvX p q) 13) := by decide +kernel
def awS1 : List UInt8 := [109, 111, 100, 117, 108, 101, 32, 109, 40, 105, 110, 112, 117, 116, 32, 97, 44, 32, 111, 117, 116, 112, 117, 116, 32, 121, 41, 59, 32, 97, 115, 115, 105, 103, 110, 32, 121, 32, 61, 32, 126, 97, 59, 32, 101, 110, 100, 109, 111, 100, 117, 108, 101]
def awS2 : List UInt8 := [109, 111, 100, 117, 108, 101, 32, 109, 40, 41, 59, 32, 97, 115, 115, 105, 103, 110, 32, 121, 32, 61, 32, 97, 32, 101, 110, 100, 109, 111, 100, 117, 108, 101]
end Lg

/- Layer 7: the sources of SemaWays, and those that awake asks for. -/
import Derived.Test.YtpnhefjiobnelaaNtM
import Derived.Test.YtpnhefjiobnelaaNsQ
namespace Rp
open Go Lg
def wyH : List UInt8 := [109, 111, 100, 117, 108, 101, 32, 109, 40, 105, 110, 112, 117, 116, 32, 97, 44, 32, 111, 117, 116, 112, 117, 116, 32, 114, 101, 103, 32, 121, 41, 59, 32, 97, 108, 119, 97, 121, 115, 32, 64, 40, 42, 41, 32]
def wyI : List UInt8 := [105, 102, 32, 40, 97, 41, 32, 98, 101, 103, 105, 110, 32]
def wyY : List UInt8 := [121, 32, 61, 32, 49, 59, 32]
def wyL : List UInt8 := [101, 108, 115, 101, 32, 121, 32, 61, 32, 48, 59, 32]
def awA : List UInt8 := [109, 111, 100, 117, 108, 101, 32, 109, 40, 105, 110, 112, 117, 116, 32, 97, 44, 32, 111, 117, 116, 112, 117, 116, 32, 121, 41, 59, 32, 97, 115, 115, 105, 103, 110, 32, 121, 32, 61, 32, 97, 59, 32, 97, 115, 115, 105, 103, 110, 32, 121, 32, 61, 32, 97, 59, 32, 101, 110, 100, 109, 111, 100, 117, 108, 101]
def awB : List UInt8 := [109, 111, 100, 117, 108, 101, 32, 109, 40, 105, 110, 112, 117, 116, 32, 97, 44, 32, 111, 117, 116, 112, 117, 116, 32, 114, 101, 103, 32, 121, 41, 59, 32, 97, 108, 119, 97, 121, 115, 32, 64, 40, 42, 41, 32, 105, 102, 32, 40, 97, 41, 32, 121, 32, 61, 32, 49, 59, 32, 101, 110, 100, 109, 111, 100, 117, 108, 101]
def awC : List UInt8 := [109, 111, 100, 117, 108, 101, 32, 109, 40, 105, 110, 112, 117, 116, 32, 97, 44, 32, 111, 117, 116, 112, 117, 116, 32, 121, 41, 59, 32, 97, 115, 115, 105, 103, 110, 32, 121, 32, 61, 32, 97, 59, 32, 101, 110, 100, 109, 111, 100, 117, 108, 101]
/-- how the ifs end: all but one with an else -/
def wyT (k : Nat) : Nat → List UInt8
  | 0 => []
  | i + 1 => scE ++ (if i = k then [] else wyL) ++ wyT k i
def wyS (n k : Nat) : List UInt8 := wyH ++ rpL n wyI ++ wyY ++ wyT k n
def wyW (n k : Nat) : Option (Int × Int) := if k < n then some (33, 75) else none
set_option maxRecDepth 1000000 in
theorem awAe : ckG (alM 300) awA 300 (some (43, 73)) = true := by decide +kernel
set_option maxRecDepth 1000000 in
theorem awBe : ckG (alM 300) awB 300 (some (33, 75)) = true := by decide +kernel
set_option maxRecDepth 1000000 in
theorem awCe : ckG (alM 300) awC 300 none = true := by decide +kernel
end Rp

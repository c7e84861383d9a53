
/- Package pack: floats behind bytes. -/
import Derived.Test.YtdfbpaajkpnaeaaPkP
namespace Go.Proofs.Ytdfbpaajkpnaeaa
set_option maxRecDepth 100000
open Go.RowKit Go.Lib

def encF (l : List Nat) : List UInt8 := l.flatMap leB
theorem encF_snoc (l : List Nat) (n : Nat) : encF (l ++ [n]) = encF l ++ leB n := by simp [encF]
theorem toU8 (n : Nat) : ((n.toUInt8).toNat : Int) = (n : Int) % 256 := by
  have e : (n.toUInt8).toNat = n % 256 := by simp [Nat.toUInt8]
  rw [e]; omega

end Go.Proofs.Ytdfbpaajkpnaeaa

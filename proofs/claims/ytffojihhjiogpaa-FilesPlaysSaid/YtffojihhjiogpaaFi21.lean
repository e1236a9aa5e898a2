/- Layer 3: what the disk of FilesKnown is, call by call: plain maths. No condition. -/
import Derived.Test.YtffojihhjiogpaaFi20
namespace Go.Proofs.Ytffojihhjiogpaa
open Go.RowKit Go Go.Maps
set_option linter.unusedVariables false
def K1 : Dk := (writeD newD 0 1 (secS 97)).1
def K2 : Dk := crashD K1 [false]
def K3 : Dk := (writeD K2 1 0 (secS 97 ++ secS 97)).1
def K4 : Dk := crashD K3 [false, true]
def K5 : Dk := (armD K4 1 31).1
def K6 : Dk := (syncD K5 1).1
def K7 : Dk := (syncD K6 1).1
def K8 : Dk := (syncD K7 1).1
def K9 : Dk := (powerD K8 0).1
def K10 : Dk := (cutD K9 1 0).1
def K11 : Dk := crashD K10 []
theorem secS_size (c : Nat) : (secS c).size = 64 := by unfold secS; rw [bstr_size]; simp
theorem ek1 : (writeD newD 0 1 (secS 97)).2 = 0 := by kernel_rfl
theorem ek2 : sizeD K1 0 = 2 := by kernel_rfl
theorem ek3 : K1.loose.length = 1 := by kernel_rfl
theorem ek4 : (readD K1 0 0 1) = (secS 0, 0) := by kernel_rfl
theorem ek5 : (readD K1 0 1 2).2 = 5 := by kernel_rfl
theorem ek6 : (writeD K1 8 0 (secS 97)) = (K1, 2) := by kernel_rfl
theorem ek7 : (cutD K1 0 3) = (K1, 5) := by kernel_rfl
theorem ek8 : sizeD K2 0 = 0 := by kernel_rfl
theorem ek9 : (writeD K2 1 0 (secS 97 ++ secS 97)).2 = 0 := by kernel_rfl
theorem ek10 : sizeD K4 1 = 2 := by kernel_rfl
theorem ek11 : readD K4 1 0 2 = (secS 0 ++ secS 97, 0) := by kernel_rfl
theorem ek12 : (armD K4 1 31).2 = 0 := by kernel_rfl
theorem ek13 : (syncD K5 1).2 = 0 := by kernel_rfl
theorem ek14 : (syncD K6 1).2 = 31 := by kernel_rfl
theorem ek15 : (syncD K7 1).2 = 0 := by kernel_rfl
theorem ek16 : K8.ops = 5 := by kernel_rfl
theorem ek17 : (readD newD 0 0 0).2 = 0 := by kernel_rfl
theorem ek18 : (powerD K8 0).2 = 0 := by kernel_rfl
theorem ek19 : (cutD K9 1 0).2 = 32 := by kernel_rfl
theorem ek20 : K10.off = true := by kernel_rfl
theorem ek21 : (readD K10 1 0 1).2 = 32 := by kernel_rfl
theorem ek22 : sizeD K11 1 = 2 := by kernel_rfl
theorem ek23 : K11.off = false := by kernel_rfl
theorem ek30 (x : ByteArray) (h : x.size = 63) : writeD K1 0 0 x = (K1, 2) := by
  unfold writeD
  rw [if_neg (by decide), if_pos (by rw [h]; decide)]
theorem ek31 : K2.ops = 1 := by kernel_rfl
theorem ek32 : K2.off = false := by kernel_rfl
theorem ek33 : readD K1 0 1 1 = (secS 97, 0) := by kernel_rfl
end Go.Proofs.Ytffojihhjiogpaa

/- The words at the head of the program, read once: to read them inside each fact anew takes the kernel gigabytes where the head is long. -/
import Derived.Test.YtkeeonjbkfgeeaaRows
import Derived.JoinedOf
import Derived.SevenTiedAt
namespace Go.Proofs.Ytkeeonjbkfgeeaa
open Go

def headCodes : List Nat := [104, 97, 114, 110, 101, 115, 115, 32, 56, 100, 49, 51, 55, 53, 54, 98, 48, 57, 102, 57, 52, 98, 55, 53, 54, 53, 57, 49, 102, 49, 102, 55, 51, 56, 97, 57, 54, 51, 100, 50, 53, 49, 48, 52, 50, 52, 53, 51, 99, 48, 97, 49, 56, 50, 54, 49, 52, 48, 99, 51, 57, 97, 50, 52, 55, 54, 49, 53, 102, 100, 97, 57, 32, 99, 117, 116, 32, 97, 116, 32, 108, 111, 111, 112, 46, 101, 120, 97, 109, 112, 108, 101, 47, 119, 97, 116, 101, 114, 111, 110, 104, 101, 105, 103, 104, 116, 115, 47, 108, 97, 119, 115, 46, 70, 110, 83, 117, 109, 115, 79, 102, 32, 108, 111, 111, 112, 46, 101, 120, 97, 109, 112, 108, 101, 47, 119, 97, 116, 101, 114, 111, 110, 104, 101, 105, 103, 104, 116, 115, 47, 108, 97, 119, 115, 46, 70, 110, 83, 117, 109, 73, 110, 32, 108, 111, 111, 112, 46, 101, 120, 97, 109, 112, 108, 101, 47, 119, 97, 116, 101, 114, 111, 110, 104, 101, 105, 103, 104, 116, 115, 47, 108, 97, 119, 115, 46, 70, 110, 71, 114, 101, 97, 116, 101, 115, 116, 80, 97, 114, 116, 32, 108, 111, 111, 112, 46, 101, 120, 97, 109, 112, 108, 101, 47, 119, 97, 116, 101, 114, 111, 110, 104, 101, 105, 103, 104, 116, 115, 47, 108, 97, 119, 115, 46, 70, 110, 80, 121, 114, 97, 109, 105, 100, 79, 102, 32, 108, 111, 111, 112, 46, 101, 120, 97, 109, 112, 108, 101, 47, 119, 97, 116, 101, 114, 111, 110, 104, 101, 105, 103, 104, 116, 115, 47, 108, 97, 119, 115, 46, 70, 110, 80, 121, 114, 97, 109, 105, 100, 115, 65, 114, 101, 83, 117, 109, 115, 32, 108, 111, 111, 112, 46, 101, 120, 97, 109, 112, 108, 101, 47, 119, 97, 116, 101, 114, 111, 110, 104, 101, 105, 103, 104, 116, 115, 47, 108, 97, 119, 115, 46, 70, 110, 69, 120, 97, 99, 116, 83, 117, 109, 115, 79, 102, 32, 108, 111, 111, 112, 46, 101, 120, 97, 109, 112, 108, 101, 47, 119, 97, 116, 101, 114, 111, 110, 104, 101, 105, 103, 104, 116, 115, 47, 108, 97, 119, 115, 46, 70, 110, 69, 120, 97, 99, 116, 83, 117, 109, 73, 110, 32, 108, 111, 111, 112, 46, 101, 120, 97, 109, 112, 108, 101, 47, 119, 97, 116, 101, 114, 111, 110, 104, 101, 105, 103, 104, 116, 115, 47, 108, 97, 119, 115, 46, 70, 110, 69, 120, 97, 99, 116, 71, 114, 101, 97, 116, 101, 115, 116, 80, 97, 114, 116, 32, 108, 111, 111, 112, 46, 101, 120, 97, 109, 112, 108, 101, 47, 119, 97, 116, 101, 114, 111, 110, 104, 101, 105, 103, 104, 116, 115, 47, 108, 97, 119, 115, 46, 70, 110, 69, 120, 97, 99, 116, 80, 121, 114, 97, 109, 105, 100, 79, 102]
set_option maxRecDepth 100000 in
theorem Try.headIs : Try.prog.initOrder = String.ofList (headCodes.map Char.ofNat) := by kernel_rfl
theorem Try.headL : Try.prog.initOrder.toList = headCodes.map Char.ofNat := by rw [Try.headIs, String.toList_ofList]
set_option maxRecDepth 100000 in
theorem make_of (P : Program) (h : P.initOrder.toList = headCodes.map Char.ofNat) : P.make = some .cut := by
  unfold Program.make
  rw [h]
  kernel_rfl
set_option maxRecDepth 100000 in
theorem lifts_of (P : Program) (h : P.initOrder.toList = headCodes.map Char.ofNat) : P.liftsFinal = false := by
  unfold Program.liftsFinal Program.headLifts
  rw [h]
  kernel_rfl
set_option maxRecDepth 100000 in
theorem enter_of (P : Program) (h : P.initOrder.toList = headCodes.map Char.ofNat) (h1 : P.laysLater = false) (h2 : P.bearsReflect = false) (h3 : P.doorFits [] = true) : P.mayEnter = true := by
  unfold Program.mayEnter
  rw [h, h1, h2]
  show (_ || _ || (_ && _ && _ && _ && P.doorFits [])) = true
  rw [h3]
  kernel_rfl
set_option maxRecDepth 100000 in
theorem main_of (P : Program) (h : P.initOrder.toList = headCodes.map Char.ofNat) : P.mainIs = some (true, "8d13756b09f94b756591f1f738a963d251042453c0a1826140c39a247615fda9".toList) := by
  unfold Program.mainIs
  rw [h]
  kernel_rfl
theorem Try.makeG : Try.prog.make = some .cut := make_of _ Try.headL
theorem Try.liftsG : Try.prog.liftsFinal = false := lifts_of _ Try.headL
theorem Try.enterG : Try.prog.mayEnter = true := enter_of _ Try.headL (by kernel_rfl) (by kernel_rfl) (by kernel_rfl)
theorem Try.mainG : Try.prog.mainIs = some (true, "8d13756b09f94b756591f1f738a963d251042453c0a1826140c39a247615fda9".toList) := main_of _ Try.headL
end Go.Proofs.Ytkeeonjbkfgeeaa

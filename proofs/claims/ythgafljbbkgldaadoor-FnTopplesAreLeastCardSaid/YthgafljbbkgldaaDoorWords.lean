/- The words at the head of the program, read once: to read them inside each fact anew takes the kernel gigabytes where the head is long. -/
import Derived.Test.YthgafljbbkgldaaDoorRows
import Derived.JoinedOf
import Derived.SevenTiedAt
namespace Go.Proofs.YthgafljbbkgldaaDoor
open Go

def headCodes : List Nat := [104, 97, 114, 110, 101, 115, 115, 32, 57, 55, 57, 56, 56, 99, 56, 51, 53, 53, 55, 101, 56, 56, 54, 55, 55, 51, 99, 99, 52, 55, 50, 100, 100, 49, 98, 57, 53, 53, 100, 101, 100, 48, 54, 48, 98, 100, 49, 102, 102, 101, 101, 50, 99, 52, 54, 51, 55, 100, 57, 48, 100, 53, 51, 56, 57, 55, 102, 57, 53, 57, 54, 52, 32, 99, 117, 116, 32, 97, 116, 32, 108, 111, 111, 112, 46, 101, 120, 97, 109, 112, 108, 101, 47, 119, 97, 116, 101, 114, 111, 110, 104, 101, 105, 103, 104, 116, 115, 47, 108, 97, 119, 115, 46, 70, 110, 67, 97, 108, 109, 70, 105, 114, 115, 116, 32, 108, 111, 111, 112, 46, 101, 120, 97, 109, 112, 108, 101, 47, 119, 97, 116, 101, 114, 111, 110, 104, 101, 105, 103, 104, 116, 115, 47, 108, 97, 119, 115, 46, 70, 110, 67, 97, 108, 109, 76, 97, 115, 116, 32, 108, 111, 111, 112, 46, 101, 120, 97, 109, 112, 108, 101, 47, 119, 97, 116, 101, 114, 111, 110, 104, 101, 105, 103, 104, 116, 115, 47, 108, 97, 119, 115, 46, 70, 110, 84, 111, 112, 112, 108, 101, 115, 79, 102, 32, 108, 111, 111, 112, 46, 101, 120, 97, 109, 112, 108, 101, 47, 119, 97, 116, 101, 114, 111, 110, 104, 101, 105, 103, 104, 116, 115, 47, 108, 97, 119, 115, 46, 70, 110, 65, 100, 100, 83, 97, 110, 100, 32, 108, 111, 111, 112, 46, 101, 120, 97, 109, 112, 108, 101, 47, 119, 97, 116, 101, 114, 111, 110, 104, 101, 105, 103, 104, 116, 115, 47, 108, 97, 119, 115, 46, 70, 110, 66, 117, 114, 110, 115, 32, 108, 111, 111, 112, 46, 101, 120, 97, 109, 112, 108, 101, 47, 119, 97, 116, 101, 114, 111, 110, 104, 101, 105, 103, 104, 116, 115, 47, 108, 97, 119, 115, 46, 70, 110, 90, 101, 114, 111, 83, 97, 110, 100, 32, 108, 111, 111, 112, 46, 101, 120, 97, 109, 112, 108, 101, 47, 119, 97, 116, 101, 114, 111, 110, 104, 101, 105, 103, 104, 116, 115, 47, 108, 97, 119, 115, 46, 70, 110, 83, 97, 110, 100, 73, 115, 65, 71, 114, 111, 117, 112, 32, 108, 111, 111, 112, 46, 101, 120, 97, 109, 112, 108, 101, 47, 119, 97, 116, 101, 114, 111, 110, 104, 101, 105, 103, 104, 116, 115, 47, 108, 97, 119, 115, 46, 70, 110, 84, 111, 112, 112, 108, 101, 115, 65, 114, 101, 76, 101, 97, 115, 116, 32, 108, 111, 111, 112, 46, 101, 120, 97, 109, 112, 108, 101, 47, 119, 97, 116, 101, 114, 111, 110, 104, 101, 105, 103, 104, 116, 115, 47, 108, 97, 119, 115, 46, 70, 110, 69, 120, 97, 99, 116, 67, 97, 108, 109, 70, 105, 114, 115, 116, 32, 108, 111, 111, 112, 46, 101, 120, 97, 109, 112, 108, 101, 47, 119, 97, 116, 101, 114, 111, 110, 104, 101, 105, 103, 104, 116, 115, 47, 108, 97, 119, 115, 46, 70, 110, 69, 120, 97, 99, 116, 67, 97, 108, 109, 76, 97, 115, 116, 32, 108, 111, 111, 112, 46, 101, 120, 97, 109, 112, 108, 101, 47, 119, 97, 116, 101, 114, 111, 110, 104, 101, 105, 103, 104, 116, 115, 47, 108, 97, 119, 115, 46, 70, 110, 69, 120, 97, 99, 116, 84, 111, 112, 112, 108, 101, 115, 79, 102, 32, 108, 111, 111, 112, 46, 101, 120, 97, 109, 112, 108, 101, 47, 119, 97, 116, 101, 114, 111, 110, 104, 101, 105, 103, 104, 116, 115, 47, 108, 97, 119, 115, 46, 70, 110, 69, 120, 97, 99, 116, 65, 100, 100, 83, 97, 110, 100, 32, 108, 111, 111, 112, 46, 101, 120, 97, 109, 112, 108, 101, 47, 119, 97, 116, 101, 114, 111, 110, 104, 101, 105, 103, 104, 116, 115, 47, 108, 97, 119, 115, 46, 70, 110, 69, 120, 97, 99, 116, 66, 117, 114, 110, 115, 32, 108, 111, 111, 112, 46, 101, 120, 97, 109, 112, 108, 101, 47, 119, 97, 116, 101, 114, 111, 110, 104, 101, 105, 103, 104, 116, 115, 47, 108, 97, 119, 115, 46, 70, 110, 69, 120, 97, 99, 116, 90, 101, 114, 111, 83, 97, 110, 100]
set_option maxRecDepth 100000 in
theorem Tryd.headIs : Tryd.prog.initOrder = String.ofList (headCodes.map Char.ofNat) := by kernel_rfl
theorem Tryd.headL : Tryd.prog.initOrder.toList = headCodes.map Char.ofNat := by rw [Tryd.headIs, String.toList_ofList]
set_option maxRecDepth 100000 in
theorem make_of (P : Program) (h : P.initOrder.toList = headCodes.map Char.ofNat) : P.make = some .cut := by
  unfold Program.make
  rw [h]
  kernel_rfl
set_option maxRecDepth 100000 in
theorem lifts_of (P : Program) (h : P.initOrder.toList = headCodes.map Char.ofNat) : P.liftsFinal = false := by
  unfold Program.liftsFinal Program.headLifts
  rw [h]
  kernel_rfl
set_option maxRecDepth 100000 in
theorem enter_of (P : Program) (h : P.initOrder.toList = headCodes.map Char.ofNat) (h1 : P.laysLater = false) (h2 : P.bearsReflect = false) (h3 : P.doorFits [] = true) : P.mayEnter = true := by
  unfold Program.mayEnter
  rw [h, h1, h2]
  show (_ || _ || (_ && _ && _ && _ && P.doorFits [])) = true
  rw [h3]
  kernel_rfl
set_option maxRecDepth 100000 in
theorem main_of (P : Program) (h : P.initOrder.toList = headCodes.map Char.ofNat) : P.mainIs = some (true, "97988c83557e886773cc472dd1b955ded060bd1ffee2c4637d90d53897f95964".toList) := by
  unfold Program.mainIs
  rw [h]
  kernel_rfl
theorem Tryd.makeG : Tryd.prog.make = some .cut := make_of _ Tryd.headL
theorem Tryd.liftsG : Tryd.prog.liftsFinal = false := lifts_of _ Tryd.headL
theorem Tryd.enterG : Tryd.prog.mayEnter = true := enter_of _ Tryd.headL (by kernel_rfl) (by kernel_rfl) (by kernel_rfl)
theorem Tryd.mainG : Tryd.prog.mainIs = some (true, "97988c83557e886773cc472dd1b955ded060bd1ffee2c4637d90d53897f95964".toList) := main_of _ Tryd.headL
end Go.Proofs.YthgafljbbkgldaaDoor

/- The words at the head of the program, read once: to read them inside each fact anew takes the kernel gigabytes where the head is long. -/
import Derived.Test.YtdfnhodhdfhhcaaDoorRows
import Derived.JoinedOf
import Derived.SevenTiedAt
namespace Go.Proofs.YtdfnhodhdfhhcaaDoor
open Go

def headCodes : List Nat := [104, 97, 114, 110, 101, 115, 115, 32, 48, 55, 52, 55, 48, 101, 101, 100, 53, 99, 54, 55, 100, 102, 100, 50, 97, 53, 100, 51, 101, 100, 101, 99, 97, 101, 52, 51, 102, 57, 55, 56, 55, 48, 51, 57, 56, 101, 102, 51, 54, 56, 57, 102, 56, 54, 50, 52, 49, 53, 55, 50, 57, 54, 56, 50, 102, 56, 97, 56, 97, 52, 53, 101, 32, 99, 117, 116, 32, 97, 116, 32, 108, 111, 111, 112, 46, 101, 120, 97, 109, 112, 108, 101, 47, 119, 97, 116, 101, 114, 111, 110, 104, 101, 105, 103, 104, 116, 115, 47, 108, 97, 119, 115, 46, 70, 110, 82, 105, 109, 65, 116, 32, 108, 111, 111, 112, 46, 101, 120, 97, 109, 112, 108, 101, 47, 119, 97, 116, 101, 114, 111, 110, 104, 101, 105, 103, 104, 116, 115, 47, 108, 97, 119, 115, 46, 70, 110, 83, 105, 100, 101, 115, 79, 102, 65, 108, 108, 32, 108, 111, 111, 112, 46, 101, 120, 97, 109, 112, 108, 101, 47, 119, 97, 116, 101, 114, 111, 110, 104, 101, 105, 103, 104, 116, 115, 47, 108, 97, 119, 115, 46, 70, 110, 76, 97, 110, 100, 115, 65, 116, 32, 108, 111, 111, 112, 46, 101, 120, 97, 109, 112, 108, 101, 47, 119, 97, 116, 101, 114, 111, 110, 104, 101, 105, 103, 104, 116, 115, 47, 108, 97, 119, 115, 46, 70, 110, 80, 111, 110, 100, 115, 65, 116, 32, 108, 111, 111, 112, 46, 101, 120, 97, 109, 112, 108, 101, 47, 119, 97, 116, 101, 114, 111, 110, 104, 101, 105, 103, 104, 116, 115, 47, 108, 97, 119, 115, 46, 70, 110, 72, 111, 108, 101, 115, 65, 116, 32, 108, 111, 111, 112, 46, 101, 120, 97, 109, 112, 108, 101, 47, 119, 97, 116, 101, 114, 111, 110, 104, 101, 105, 103, 104, 116, 115, 47, 108, 97, 119, 115, 46, 70, 110, 69, 120, 97, 99, 116, 72, 111, 108, 101, 115, 65, 116, 32, 108, 111, 111, 112, 46, 101, 120, 97, 109, 112, 108, 101, 47, 119, 97, 116, 101, 114, 111, 110, 104, 101, 105, 103, 104, 116, 115, 47, 108, 97, 119, 115, 46, 70, 110, 76, 97, 110, 100, 115, 65, 114, 101, 80, 101, 97, 107, 115]
set_option maxRecDepth 100000 in
theorem Tryd.headIs : Tryd.prog.initOrder = String.ofList (headCodes.map Char.ofNat) := by kernel_rfl
theorem Tryd.headL : Tryd.prog.initOrder.toList = headCodes.map Char.ofNat := by rw [Tryd.headIs, String.toList_ofList]
set_option maxRecDepth 100000 in
theorem make_of (P : Program) (h : P.initOrder.toList = headCodes.map Char.ofNat) : P.make = some .cut := by
  unfold Program.make
  rw [h]
  kernel_rfl
set_option maxRecDepth 100000 in
theorem lifts_of (P : Program) (h : P.initOrder.toList = headCodes.map Char.ofNat) : P.liftsFinal = false := by
  unfold Program.liftsFinal Program.headLifts
  rw [h]
  kernel_rfl
set_option maxRecDepth 100000 in
theorem enter_of (P : Program) (h : P.initOrder.toList = headCodes.map Char.ofNat) (h1 : P.laysLater = false) (h2 : P.bearsReflect = false) (h3 : P.doorFits [] = true) : P.mayEnter = true := by
  unfold Program.mayEnter
  rw [h, h1, h2]
  show (_ || _ || (_ && _ && _ && _ && P.doorFits [])) = true
  rw [h3]
  kernel_rfl
set_option maxRecDepth 100000 in
theorem main_of (P : Program) (h : P.initOrder.toList = headCodes.map Char.ofNat) : P.mainIs = some (true, "07470eed5c67dfd2a5d3edecae43f97870398ef3689f862415729682f8a8a45e".toList) := by
  unfold Program.mainIs
  rw [h]
  kernel_rfl
theorem Tryd.makeG : Tryd.prog.make = some .cut := make_of _ Tryd.headL
theorem Tryd.liftsG : Tryd.prog.liftsFinal = false := lifts_of _ Tryd.headL
theorem Tryd.enterG : Tryd.prog.mayEnter = true := enter_of _ Tryd.headL (by kernel_rfl) (by kernel_rfl) (by kernel_rfl)
theorem Tryd.mainG : Tryd.prog.mainIs = some (true, "07470eed5c67dfd2a5d3edecae43f97870398ef3689f862415729682f8a8a45e".toList) := main_of _ Tryd.headL
end Go.Proofs.YtdfnhodhdfhhcaaDoor

/- The words at the head of the program, read once: to read them inside each fact anew takes the kernel gigabytes where the head is long. -/
import Derived.Test.YtaeenedjmakelaaDoorRows
import Derived.JoinedOf
import Derived.SevenTiedAt
namespace Go.Proofs.YtaeenedjmakelaaDoor
open Go

def headCodes : List Nat := [104, 97, 114, 110, 101, 115, 115, 32, 52, 49, 52, 101, 52, 55, 50, 54, 102, 57, 49, 56, 55, 50, 48, 48, 101, 52, 55, 102, 99, 99, 50, 48, 98, 50, 50, 101, 51, 51, 53, 100, 98, 48, 57, 99, 101, 50, 51, 100, 50, 54, 101, 52, 102, 51, 48, 102, 102, 98, 56, 56, 56, 54, 53, 55, 53, 54, 53, 99, 53, 51, 49, 101, 32, 99, 117, 116, 32, 97, 116, 32, 108, 111, 111, 112, 46, 101, 120, 97, 109, 112, 108, 101, 47, 119, 97, 116, 101, 114, 111, 110, 104, 101, 105, 103, 104, 116, 115, 47, 108, 97, 119, 115, 46, 70, 110, 69, 120, 97, 99, 116, 71, 117, 97, 114, 100, 115, 79, 102, 32, 108, 111, 111, 112, 46, 101, 120, 97, 109, 112, 108, 101, 47, 119, 97, 116, 101, 114, 111, 110, 104, 101, 105, 103, 104, 116, 115, 47, 108, 97, 119, 115, 46, 70, 110, 71, 117, 97, 114, 100, 115, 79, 102, 32, 108, 111, 111, 112, 46, 101, 120, 97, 109, 112, 108, 101, 47, 119, 97, 116, 101, 114, 111, 110, 104, 101, 105, 103, 104, 116, 115, 47, 108, 97, 119, 115, 46, 70, 110, 69, 120, 97, 99, 116, 77, 101, 114, 103, 101, 115, 79, 102, 32, 108, 111, 111, 112, 46, 101, 120, 97, 109, 112, 108, 101, 47, 119, 97, 116, 101, 114, 111, 110, 104, 101, 105, 103, 104, 116, 115, 47, 108, 97, 119, 115, 46, 70, 110, 77, 101, 114, 103, 101, 115, 79, 102, 32, 108, 111, 111, 112, 46, 101, 120, 97, 109, 112, 108, 101, 47, 119, 97, 116, 101, 114, 111, 110, 104, 101, 105, 103, 104, 116, 115, 47, 108, 97, 119, 115, 46, 70, 110, 69, 120, 97, 99, 116, 83, 112, 97, 110, 79, 102, 32, 108, 111, 111, 112, 46, 101, 120, 97, 109, 112, 108, 101, 47, 119, 97, 116, 101, 114, 111, 110, 104, 101, 105, 103, 104, 116, 115, 47, 108, 97, 119, 115, 46, 70, 110, 83, 112, 97, 110, 79, 102, 32, 108, 111, 111, 112, 46, 101, 120, 97, 109, 112, 108, 101, 47, 119, 97, 116, 101, 114, 111, 110, 104, 101, 105, 103, 104, 116, 115, 47, 108, 97, 119, 115, 46, 70, 110, 76, 97, 110, 100, 115, 65, 116]
set_option maxRecDepth 100000 in
theorem Tryd.headIs : Tryd.prog.initOrder = String.ofList (headCodes.map Char.ofNat) := by kernel_rfl
theorem Tryd.headL : Tryd.prog.initOrder.toList = headCodes.map Char.ofNat := by rw [Tryd.headIs, String.toList_ofList]
set_option maxRecDepth 100000 in
theorem make_of (P : Program) (h : P.initOrder.toList = headCodes.map Char.ofNat) : P.make = some .cut := by
  unfold Program.make
  rw [h]
  kernel_rfl
set_option maxRecDepth 100000 in
theorem lifts_of (P : Program) (h : P.initOrder.toList = headCodes.map Char.ofNat) : P.liftsFinal = false := by
  unfold Program.liftsFinal Program.headLifts
  rw [h]
  kernel_rfl
set_option maxRecDepth 100000 in
theorem enter_of (P : Program) (h : P.initOrder.toList = headCodes.map Char.ofNat) (h1 : P.laysLater = false) (h2 : P.bearsReflect = false) (h3 : P.doorFits [] = true) : P.mayEnter = true := by
  unfold Program.mayEnter
  rw [h, h1, h2]
  show (_ || _ || (_ && _ && _ && _ && P.doorFits [])) = true
  rw [h3]
  kernel_rfl
set_option maxRecDepth 100000 in
theorem main_of (P : Program) (h : P.initOrder.toList = headCodes.map Char.ofNat) : P.mainIs = some (true, "414e4726f9187200e47fcc20b22e335db09ce23d26e4f30ffb888657565c531e".toList) := by
  unfold Program.mainIs
  rw [h]
  kernel_rfl
theorem Tryd.makeG : Tryd.prog.make = some .cut := make_of _ Tryd.headL
theorem Tryd.liftsG : Tryd.prog.liftsFinal = false := lifts_of _ Tryd.headL
theorem Tryd.enterG : Tryd.prog.mayEnter = true := enter_of _ Tryd.headL (by kernel_rfl) (by kernel_rfl) (by kernel_rfl)
theorem Tryd.mainG : Tryd.prog.mainIs = some (true, "414e4726f9187200e47fcc20b22e335db09ce23d26e4f30ffb888657565c531e".toList) := main_of _ Tryd.headL
end Go.Proofs.YtaeenedjmakelaaDoor

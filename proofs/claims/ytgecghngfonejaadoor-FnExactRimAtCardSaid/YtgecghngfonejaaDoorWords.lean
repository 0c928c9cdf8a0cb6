/- The words at the head of the program, read once: to read them inside each fact anew takes the kernel gigabytes where the head is long. -/
import Derived.Test.YtgecghngfonejaaDoorRows
import Derived.JoinedOf
import Derived.SevenTiedAt
namespace Go.Proofs.YtgecghngfonejaaDoor
open Go

def headCodes : List Nat := [104, 97, 114, 110, 101, 115, 115, 32, 101, 52, 50, 102, 54, 102, 99, 97, 56, 56, 52, 57, 56, 54, 54, 98, 48, 51, 100, 101, 57, 53, 53, 99, 48, 97, 97, 56, 53, 100, 98, 55, 50, 55, 50, 48, 57, 50, 52, 55, 51, 102, 99, 100, 54, 50, 55, 48, 99, 53, 100, 97, 54, 100, 53, 97, 100, 49, 56, 57, 98, 98, 99, 53, 32, 99, 117, 116, 32, 97, 116, 32, 108, 111, 111, 112, 46, 101, 120, 97, 109, 112, 108, 101, 47, 119, 97, 116, 101, 114, 111, 110, 104, 101, 105, 103, 104, 116, 115, 47, 108, 97, 119, 115, 46, 70, 110, 87, 97, 116, 101, 114, 79, 102, 32, 108, 111, 111, 112, 46, 101, 120, 97, 109, 112, 108, 101, 47, 119, 97, 116, 101, 114, 111, 110, 104, 101, 105, 103, 104, 116, 115, 47, 108, 97, 119, 115, 46, 70, 110, 76, 97, 107, 101, 115, 79, 102, 32, 108, 111, 111, 112, 46, 101, 120, 97, 109, 112, 108, 101, 47, 119, 97, 116, 101, 114, 111, 110, 104, 101, 105, 103, 104, 116, 115, 47, 108, 97, 119, 115, 46, 70, 110, 76, 97, 107, 101, 115, 72, 111, 108, 100, 65, 108, 108, 32, 108, 111, 111, 112, 46, 101, 120, 97, 109, 112, 108, 101, 47, 119, 97, 116, 101, 114, 111, 110, 104, 101, 105, 103, 104, 116, 115, 47, 108, 97, 119, 115, 46, 70, 110, 87, 97, 116, 101, 114, 70, 108, 111, 119, 115, 79, 110, 87, 97, 116, 101, 114, 32, 108, 111, 111, 112, 46, 101, 120, 97, 109, 112, 108, 101, 47, 119, 97, 116, 101, 114, 111, 110, 104, 101, 105, 103, 104, 116, 115, 47, 108, 97, 119, 115, 46, 70, 110, 72, 105, 103, 104, 101, 114, 70, 105, 108, 108, 115, 72, 105, 103, 104, 101, 114, 32, 108, 111, 111, 112, 46, 101, 120, 97, 109, 112, 108, 101, 47, 119, 97, 116, 101, 114, 111, 110, 104, 101, 105, 103, 104, 116, 115, 47, 108, 97, 119, 115, 46, 70, 110, 69, 120, 97, 99, 116, 87, 97, 116, 101, 114, 79, 102, 32, 108, 111, 111, 112, 46, 101, 120, 97, 109, 112, 108, 101, 47, 119, 97, 116, 101, 114, 111, 110, 104, 101, 105, 103, 104, 116, 115, 47, 108, 97, 119, 115, 46, 70, 110, 69, 120, 97, 99, 116, 76, 97, 107, 101, 115, 79, 102, 32, 108, 111, 111, 112, 46, 101, 120, 97, 109, 112, 108, 101, 47, 119, 97, 116, 101, 114, 111, 110, 104, 101, 105, 103, 104, 116, 115, 47, 108, 97, 119, 115, 46, 70, 110, 65, 114, 111, 117, 110, 100, 79, 102, 32, 108, 111, 111, 112, 46, 101, 120, 97, 109, 112, 108, 101, 47, 119, 97, 116, 101, 114, 111, 110, 104, 101, 105, 103, 104, 116, 115, 47, 108, 97, 119, 115, 46, 70, 110, 79, 110, 69, 100, 103, 101, 32, 108, 111, 111, 112, 46, 101, 120, 97, 109, 112, 108, 101, 47, 119, 97, 116, 101, 114, 111, 110, 104, 101, 105, 103, 104, 116, 115, 47, 108, 97, 119, 115, 46, 70, 110, 69, 120, 97, 99, 116, 65, 114, 111, 117, 110, 100, 79, 102, 32, 108, 111, 111, 112, 46, 101, 120, 97, 109, 112, 108, 101, 47, 119, 97, 116, 101, 114, 111, 110, 104, 101, 105, 103, 104, 116, 115, 47, 108, 97, 119, 115, 46, 70, 110, 69, 120, 97, 99, 116, 79, 110, 69, 100, 103, 101, 32, 108, 111, 111, 112, 46, 101, 120, 97, 109, 112, 108, 101, 47, 119, 97, 116, 101, 114, 111, 110, 104, 101, 105, 103, 104, 116, 115, 47, 108, 97, 119, 115, 46, 70, 110, 69, 120, 97, 99, 116, 82, 105, 109, 65, 116]
set_option maxRecDepth 100000 in
theorem Tryd.headIs : Tryd.prog.initOrder = String.ofList (headCodes.map Char.ofNat) := by kernel_rfl
theorem Tryd.headL : Tryd.prog.initOrder.toList = headCodes.map Char.ofNat := by rw [Tryd.headIs, String.toList_ofList]
set_option maxRecDepth 100000 in
theorem make_of (P : Program) (h : P.initOrder.toList = headCodes.map Char.ofNat) : P.make = some .cut := by
  unfold Program.make
  rw [h]
  kernel_rfl
set_option maxRecDepth 100000 in
theorem lifts_of (P : Program) (h : P.initOrder.toList = headCodes.map Char.ofNat) : P.liftsFinal = false := by
  unfold Program.liftsFinal Program.headLifts
  rw [h]
  kernel_rfl
set_option maxRecDepth 100000 in
theorem enter_of (P : Program) (h : P.initOrder.toList = headCodes.map Char.ofNat) (h1 : P.laysLater = false) (h2 : P.bearsReflect = false) (h3 : P.doorFits [] = true) : P.mayEnter = true := by
  unfold Program.mayEnter
  rw [h, h1, h2]
  show (_ || _ || (_ && _ && _ && _ && P.doorFits [])) = true
  rw [h3]
  kernel_rfl
set_option maxRecDepth 100000 in
theorem main_of (P : Program) (h : P.initOrder.toList = headCodes.map Char.ofNat) : P.mainIs = some (true, "e42f6fca8849866b03de955c0aa85db7272092473fcd6270c5da6d5ad189bbc5".toList) := by
  unfold Program.mainIs
  rw [h]
  kernel_rfl
theorem Tryd.makeG : Tryd.prog.make = some .cut := make_of _ Tryd.headL
theorem Tryd.liftsG : Tryd.prog.liftsFinal = false := lifts_of _ Tryd.headL
theorem Tryd.enterG : Tryd.prog.mayEnter = true := enter_of _ Tryd.headL (by kernel_rfl) (by kernel_rfl) (by kernel_rfl)
theorem Tryd.mainG : Tryd.prog.mainIs = some (true, "e42f6fca8849866b03de955c0aa85db7272092473fcd6270c5da6d5ad189bbc5".toList) := main_of _ Tryd.headL
end Go.Proofs.YtgecghngfonejaaDoor

/- The words at the head of the program, read once: to read them inside each fact anew takes the kernel gigabytes where the head is long. -/
import Derived.Test.YtlfoimjohdaofaaDoorRows
import Derived.JoinedOf
import Derived.SevenTiedAt
namespace Go.Proofs.YtlfoimjohdaofaaDoor
open Go

def headCodes : List Nat := [104, 97, 114, 110, 101, 115, 115, 32, 48, 102, 52, 97, 57, 52, 50, 56, 99, 48, 52, 48, 49, 101, 56, 101, 100, 54, 52, 49, 57, 101, 98, 48, 102, 52, 98, 101, 57, 48, 48, 98, 51, 99, 51, 57, 97, 56, 49, 48, 55, 98, 50, 98, 50, 97, 98, 55, 97, 49, 49, 50, 97, 52, 100, 102, 99, 99, 100, 97, 54, 51, 55, 49, 32, 99, 117, 116, 32, 97, 116, 32, 108, 111, 111, 112, 46, 101, 120, 97, 109, 112, 108, 101, 47, 119, 97, 116, 101, 114, 111, 110, 104, 101, 105, 103, 104, 116, 115, 47, 108, 97, 119, 115, 46, 70, 110, 81, 117, 97, 100, 79, 102, 32, 108, 111, 111, 112, 46, 101, 120, 97, 109, 112, 108, 101, 47, 119, 97, 116, 101, 114, 111, 110, 104, 101, 105, 103, 104, 116, 115, 47, 108, 97, 119, 115, 46, 70, 110, 82, 101, 97, 100, 81, 117, 97, 100, 32, 108, 111, 111, 112, 46, 101, 120, 97, 109, 112, 108, 101, 47, 119, 97, 116, 101, 114, 111, 110, 104, 101, 105, 103, 104, 116, 115, 47, 108, 97, 119, 115, 46, 70, 110, 69, 120, 97, 99, 116, 82, 101, 97, 100, 81, 117, 97, 100]
set_option maxRecDepth 100000 in
theorem Tryd.headIs : Tryd.prog.initOrder = String.ofList (headCodes.map Char.ofNat) := by kernel_rfl
theorem Tryd.headL : Tryd.prog.initOrder.toList = headCodes.map Char.ofNat := by rw [Tryd.headIs, String.toList_ofList]
set_option maxRecDepth 100000 in
theorem make_of (P : Program) (h : P.initOrder.toList = headCodes.map Char.ofNat) : P.make = some .cut := by
  unfold Program.make
  rw [h]
  kernel_rfl
set_option maxRecDepth 100000 in
theorem lifts_of (P : Program) (h : P.initOrder.toList = headCodes.map Char.ofNat) : P.liftsFinal = false := by
  unfold Program.liftsFinal Program.headLifts
  rw [h]
  kernel_rfl
set_option maxRecDepth 100000 in
theorem enter_of (P : Program) (h : P.initOrder.toList = headCodes.map Char.ofNat) (h1 : P.laysLater = false) (h2 : P.bearsReflect = false) (h3 : P.doorFits [] = true) : P.mayEnter = true := by
  unfold Program.mayEnter
  rw [h, h1, h2]
  show (_ || _ || (_ && _ && _ && _ && P.doorFits [])) = true
  rw [h3]
  kernel_rfl
set_option maxRecDepth 100000 in
theorem main_of (P : Program) (h : P.initOrder.toList = headCodes.map Char.ofNat) : P.mainIs = some (true, "0f4a9428c0401e8ed6419eb0f4be900b3c39a8107b2b2ab7a112a4dfccda6371".toList) := by
  unfold Program.mainIs
  rw [h]
  kernel_rfl
theorem Tryd.makeG : Tryd.prog.make = some .cut := make_of _ Tryd.headL
theorem Tryd.liftsG : Tryd.prog.liftsFinal = false := lifts_of _ Tryd.headL
theorem Tryd.enterG : Tryd.prog.mayEnter = true := enter_of _ Tryd.headL (by kernel_rfl) (by kernel_rfl) (by kernel_rfl)
theorem Tryd.mainG : Tryd.prog.mainIs = some (true, "0f4a9428c0401e8ed6419eb0f4be900b3c39a8107b2b2ab7a112a4dfccda6371".toList) := main_of _ Tryd.headL
end Go.Proofs.YtlfoimjohdaofaaDoor

/- The library's contract of slices.SortFunc laid at the seat at hand: its functions and types by their numbers here. -/
import Derived.Test.YtaeenedjmakelaaDoorBase
import Derived.Shelf.SlSortCmp.Whole1
namespace Go.Proofs.YtaeenedjmakelaaDoor
open Go.RowKit Go.Shelf

def sortRen : Go.Shelf.Ren := ⟨fun | 6 => 116 | 14 => 127 | 15 => 128 | 20 => 133 | 21 => 134 | 22 => 135 | 23 => 136 | 24 => 137 | 25 => 138 | 26 => 139 | 27 => 140 | 28 => 141 | 29 => 142 | 46 => 147 | 47 => 148 | 48 => 149 | 49 => 150 | 50 => 151 | 57 => 153 | n => n, fun | 0 => 0 | 3 => 3 | 4 => 4 | 5 => 5 | 9 => 9 | 22 => 22 | 24 => 3 | 25 => 87 | 39 => 47 | 45 => 122 | 46 => 123 | 50 => 91 | 53 => 76 | 55 => 78 | 66 => 134 | 70 => 138 | 76 => 140 | 77 => 141 | n => n, fun n => n⟩
set_option maxRecDepth 100000 in
theorem sortLays : SlLaysF.n6 Tryd.prog sortRen where
  mixed := by kernel_rfl
  f6 := ⟨_, (by decide : ("slices.SortFunc[[]int,int]" == "runtime.NumGoroutine") = false), Tryd.func116.trans (congrArg some (by kernel_rfl))⟩
  f14 := ⟨_, (by decide : ("slices.pdqsortCmpFunc[int]" == "runtime.NumGoroutine") = false), Tryd.func127.trans (congrArg some (by kernel_rfl))⟩
  f15 := Tryd.func128.trans (congrArg some (by kernel_rfl))
  f20 := ⟨_, (by decide : ("slices.insertionSortCmpFunc[int]" == "runtime.NumGoroutine") = false), Tryd.func133.trans (congrArg some (by kernel_rfl))⟩
  f21 := ⟨_, (by decide : ("slices.heapSortCmpFunc[int]" == "runtime.NumGoroutine") = false), Tryd.func134.trans (congrArg some (by kernel_rfl))⟩
  f22 := ⟨_, (by decide : ("slices.breakPatternsCmpFunc[int]" == "runtime.NumGoroutine") = false), Tryd.func135.trans (congrArg some (by kernel_rfl))⟩
  f23 := ⟨_, (by decide : ("slices.choosePivotCmpFunc[int]" == "runtime.NumGoroutine") = false), Tryd.func136.trans (congrArg some (by kernel_rfl))⟩
  f24 := ⟨_, (by decide : ("slices.reverseRangeCmpFunc[int]" == "runtime.NumGoroutine") = false), Tryd.func137.trans (congrArg some (by kernel_rfl))⟩
  f25 := ⟨_, (by decide : ("slices.partialInsertionSortCmpFunc[int]" == "runtime.NumGoroutine") = false), Tryd.func138.trans (congrArg some (by kernel_rfl))⟩
  f26 := ⟨_, (by decide : ("slices.partitionEqualCmpFunc[int]" == "runtime.NumGoroutine") = false), Tryd.func139.trans (congrArg some (by kernel_rfl))⟩
  f27 := ⟨_, (by decide : ("slices.partitionCmpFunc[int]" == "runtime.NumGoroutine") = false), Tryd.func140.trans (congrArg some (by kernel_rfl))⟩
  f28 := Tryd.func141.trans (congrArg some (by kernel_rfl))
  f29 := Tryd.func142.trans (congrArg some (by kernel_rfl))
  f46 := ⟨_, (by decide : ("slices.siftDownCmpFunc[int]" == "runtime.NumGoroutine") = false), Tryd.func147.trans (congrArg some (by kernel_rfl))⟩
  f47 := Tryd.func148.trans (congrArg some (by kernel_rfl))
  f48 := Tryd.func149.trans (congrArg some (by kernel_rfl))
  f49 := ⟨_, (by decide : ("slices.medianAdjacentCmpFunc[int]" == "runtime.NumGoroutine") = false), Tryd.func150.trans (congrArg some (by kernel_rfl))⟩
  f50 := ⟨_, (by decide : ("slices.medianCmpFunc[int]" == "runtime.NumGoroutine") = false), Tryd.func151.trans (congrArg some (by kernel_rfl))⟩
  f57 := ⟨_, (by decide : ("slices.order2CmpFunc[int]" == "runtime.NumGoroutine") = false), Tryd.func153.trans (congrArg some (by kernel_rfl))⟩
  t0 := Tryd.underlying0
  a0 := Tryd.isAgg0
  z0 := Tryd.sizeOf0
  v0 := Tryd.zeroValue0
  t3 := Tryd.underlying3
  a3 := Tryd.isAgg3
  z3 := Tryd.sizeOf3
  v3 := Tryd.zeroValue3
  t4 := Tryd.underlying4
  a4 := Tryd.isAgg4
  z4 := Tryd.sizeOf4
  v4 := Tryd.zeroValue4
  t5 := Tryd.underlying5
  a5 := Tryd.isAgg5
  z5 := Tryd.sizeOf5
  v5 := Tryd.zeroValue5
  t9 := Tryd.underlying9
  a9 := Tryd.isAgg9
  z9 := Tryd.sizeOf9
  v9 := Tryd.zeroValue9
  t22 := Tryd.underlying22
  a22 := Tryd.isAgg22
  z22 := Tryd.sizeOf22
  v22 := Tryd.zeroValue22
  a24 := Tryd.isAgg3
  z24 := Tryd.sizeOf3
  t25 := Tryd.underlying87
  a25 := Tryd.isAgg87
  z25 := Tryd.sizeOf87
  v25 := Tryd.zeroValue87
  t39 := Tryd.underlying47
  a39 := Tryd.isAgg47
  z39 := Tryd.sizeOf47
  v39 := Tryd.zeroValue47
  t45 := Tryd.underlying122
  a45 := Tryd.isAgg122
  z45 := Tryd.sizeOf122
  v45 := Tryd.zeroValue122
  t46 := Tryd.underlying123
  a46 := Tryd.isAgg123
  z46 := Tryd.sizeOf123
  v46 := Tryd.zeroValue123
  t50 := Tryd.underlying91
  a50 := Tryd.isAgg91
  z50 := Tryd.sizeOf91
  v50 := Tryd.zeroValue91
  t53 := Tryd.underlying76
  a53 := Tryd.isAgg76
  z53 := Tryd.sizeOf76
  v53 := Tryd.zeroValue76
  t55 := Tryd.underlying78
  a55 := Tryd.isAgg78
  z55 := Tryd.sizeOf78
  v55 := Tryd.zeroValue78
  t66 := Tryd.underlying134
  a66 := Tryd.isAgg134
  z66 := Tryd.sizeOf134
  v66 := Tryd.zeroValue134
  t70 := Tryd.underlying138
  a70 := Tryd.isAgg138
  z70 := Tryd.sizeOf138
  v70 := Tryd.zeroValue138
  t76 := Tryd.underlying140
  a76 := Tryd.isAgg140
  z76 := Tryd.sizeOf140
  v76 := Tryd.zeroValue140
  t77 := Tryd.underlying141
  a77 := Tryd.isAgg141
  z77 := Tryd.sizeOf141
  v77 := Tryd.zeroValue141
end Go.Proofs.YtaeenedjmakelaaDoor

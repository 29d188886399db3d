/-
  The library's functions that this program calls are those that the shelf of contracts was proved of.
-/
import Derived.Shelf.Unicode.ValidAny
import Derived.Test.YtchkadifjbmmpaaDoorProg
namespace Go.Proofs
open Go.Shelf
def Tryd.lays196_ren : Go.Shelf.Ren := ⟨fun | 196 => 80 | 259 => 84 | n => n, fun | 9 => 9 | 4 => 4 | 3 => 3 | 5 => 5 | 12 => 12 | 119 => 131 | 0 => 0 | 46 => 103 | 139 => 134 | 138 => 133 | 53 => 44 | n => n, fun | 3 => 0 | 4 => 1 | n => n⟩
theorem Tryd.lays196 : Go.Proofs.Lays.n196 Tryd.prog Tryd.lays196_ren := {
  mixed := by kernel_rfl,
  f196 := Tryd.func80.trans (congrArg some (by kernel_rfl)),
  f259 := Tryd.func84.trans (congrArg some (by kernel_rfl)),
  t0 := Tryd.underlying0,
  a0 := Tryd.isAgg0,
  z0 := Tryd.sizeOf0,
  v0 := Tryd.zeroValue0,
  t3 := Tryd.underlying3,
  a3 := Tryd.isAgg3,
  z3 := Tryd.sizeOf3,
  v3 := Tryd.zeroValue3,
  t4 := Tryd.underlying4,
  a4 := Tryd.isAgg4,
  z4 := Tryd.sizeOf4,
  v4 := Tryd.zeroValue4,
  t5 := Tryd.underlying5,
  a5 := Tryd.isAgg5,
  z5 := Tryd.sizeOf5,
  v5 := Tryd.zeroValue5,
  t9 := Tryd.underlying9,
  a9 := Tryd.isAgg9,
  z9 := Tryd.sizeOf9,
  v9 := Tryd.zeroValue9,
  t12 := Tryd.underlying12,
  a12 := Tryd.isAgg12,
  z12 := Tryd.sizeOf12,
  v12 := Tryd.zeroValue12,
  t46 := Tryd.underlying103,
  a46 := Tryd.isAgg103,
  z46 := Tryd.sizeOf103,
  v46 := Tryd.zeroValue103,
  t53 := Tryd.underlying44,
  a53 := Tryd.isAgg44,
  z53 := Tryd.sizeOf44,
  v53 := Tryd.zeroValue44,
  t119 := Tryd.underlying131,
  a119 := Tryd.isAgg131,
  z119 := Tryd.sizeOf131,
  t138 := Tryd.underlying133,
  a138 := Tryd.isAgg133,
  z138 := Tryd.sizeOf133,
  v138 := Tryd.zeroValue133,
  t139 := Tryd.underlying134,
  a139 := Tryd.isAgg134,
  z139 := Tryd.sizeOf134,
  v139 := Tryd.zeroValue134,
  g3 := by kernel_rfl,
  g4 := by kernel_rfl }
end Go.Proofs

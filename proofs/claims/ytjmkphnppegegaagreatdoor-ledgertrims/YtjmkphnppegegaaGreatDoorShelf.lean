/-
  The library's functions that this program calls are those that the shelf of contracts was proved of.
-/
import Derived.Shelf.Unicode.ValidAny
import Derived.Test.YtjmkphnppegegaaGreatDoorProg
namespace Go.Proofs
open Go.Shelf
def Tryz.lays196_ren : Go.Shelf.Ren := ⟨fun | 196 => 73 | 259 => 95 | n => n, fun | 9 => 9 | 4 => 4 | 3 => 3 | 5 => 5 | 12 => 12 | 119 => 131 | 0 => 0 | 46 => 81 | 139 => 134 | 138 => 133 | 53 => 138 | n => n, fun | 3 => 0 | 4 => 1 | n => n⟩
theorem Tryz.lays196 : Go.Proofs.Lays.n196 Tryz.prog Tryz.lays196_ren := {
  mixed := by kernel_rfl,
  f196 := Tryz.func73.trans (congrArg some (by kernel_rfl)),
  f259 := Tryz.func95.trans (congrArg some (by kernel_rfl)),
  t0 := Tryz.underlying0,
  a0 := Tryz.isAgg0,
  z0 := Tryz.sizeOf0,
  v0 := Tryz.zeroValue0,
  t3 := Tryz.underlying3,
  a3 := Tryz.isAgg3,
  z3 := Tryz.sizeOf3,
  v3 := Tryz.zeroValue3,
  t4 := Tryz.underlying4,
  a4 := Tryz.isAgg4,
  z4 := Tryz.sizeOf4,
  v4 := Tryz.zeroValue4,
  t5 := Tryz.underlying5,
  a5 := Tryz.isAgg5,
  z5 := Tryz.sizeOf5,
  v5 := Tryz.zeroValue5,
  t9 := Tryz.underlying9,
  a9 := Tryz.isAgg9,
  z9 := Tryz.sizeOf9,
  v9 := Tryz.zeroValue9,
  t12 := Tryz.underlying12,
  a12 := Tryz.isAgg12,
  z12 := Tryz.sizeOf12,
  v12 := Tryz.zeroValue12,
  t46 := Tryz.underlying81,
  a46 := Tryz.isAgg81,
  z46 := Tryz.sizeOf81,
  v46 := Tryz.zeroValue81,
  t53 := Tryz.underlying138,
  a53 := Tryz.isAgg138,
  z53 := Tryz.sizeOf138,
  v53 := Tryz.zeroValue138,
  t119 := Tryz.underlying131,
  a119 := Tryz.isAgg131,
  z119 := Tryz.sizeOf131,
  t138 := Tryz.underlying133,
  a138 := Tryz.isAgg133,
  z138 := Tryz.sizeOf133,
  v138 := Tryz.zeroValue133,
  t139 := Tryz.underlying134,
  a139 := Tryz.isAgg134,
  z139 := Tryz.sizeOf134,
  v139 := Tryz.zeroValue134,
  g3 := by kernel_rfl,
  g4 := by kernel_rfl }
end Go.Proofs

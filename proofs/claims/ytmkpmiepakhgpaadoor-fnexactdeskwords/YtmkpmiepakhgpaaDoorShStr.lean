/-
  slices.Sort at texts: the library's contract (the shelf's), laid at the seat's program.
-/
import Derived.Test.YtmkpmiepakhgpaaDoorRows
import Derived.Shelf.SortM.Plain
import Derived.Shelf.SortM.SortNone
namespace Go.Proofs.YtmkpmiepakhgpaaDoor.Shs
open Go.Shelf Go.RowKit

def sortA_ren : Ren := ⟨fun | 6 => 10 | 8 => 13 | 9 => 12 | 19 => 23 | 20 => 24 | 21 => 14 | 22 => 15 | 23 => 16 | 24 => 17 | 25 => 18 | 26 => 19 | 27 => 20 | 28 => 21 | 29 => 22 | 36 => 25 | 31 => 26 | 32 => 27 | 37 => 28 | 38 => 29 | 39 => 30 | 41 => 31 | n => n, fun | 27 => 22 | 29 => 9 | 3 => 3 | 32 => 33 | 26 => 22 | 0 => 0 | 44 => 45 | 46 => 47 | 4 => 4 | 36 => 37 | 35 => 36 | 41 => 42 | 5 => 5 | 9 => 9 | 53 => 48 | 57 => 52 | 63 => 55 | 64 => 56 | n => n, fun | n => n⟩
theorem sortA : Go.Proofs.SlLaysM.n6 Tryd.prog sortA_ren := {
  mixed := by kernel_rfl
  f6 := ⟨Tryd.f10.name, by decide, Tryd.func10.trans (congrArg some (by kernel_rfl))⟩
  f8 := Tryd.func13.trans (congrArg some (by kernel_rfl))
  f9 := ⟨Tryd.f12.name, by decide, Tryd.func12.trans (congrArg some (by kernel_rfl))⟩
  f19 := Tryd.func23.trans (congrArg some (by kernel_rfl))
  f20 := Tryd.func24.trans (congrArg some (by kernel_rfl))
  f21 := ⟨Tryd.f14.name, by decide, Tryd.func14.trans (congrArg some (by kernel_rfl))⟩
  f22 := ⟨Tryd.f15.name, by decide, Tryd.func15.trans (congrArg some (by kernel_rfl))⟩
  f23 := ⟨Tryd.f16.name, by decide, Tryd.func16.trans (congrArg some (by kernel_rfl))⟩
  f24 := ⟨Tryd.f17.name, by decide, Tryd.func17.trans (congrArg some (by kernel_rfl))⟩
  f25 := ⟨Tryd.f18.name, by decide, Tryd.func18.trans (congrArg some (by kernel_rfl))⟩
  f26 := ⟨Tryd.f19.name, by decide, Tryd.func19.trans (congrArg some (by kernel_rfl))⟩
  f27 := ⟨Tryd.f20.name, by decide, Tryd.func20.trans (congrArg some (by kernel_rfl))⟩
  f28 := ⟨Tryd.f21.name, by decide, Tryd.func21.trans (congrArg some (by kernel_rfl))⟩
  f29 := ⟨Tryd.f22.name, by decide, Tryd.func22.trans (congrArg some (by kernel_rfl))⟩
  f31 := Tryd.func26.trans (congrArg some (by kernel_rfl))
  f32 := Tryd.func27.trans (congrArg some (by kernel_rfl))
  f36 := ⟨Tryd.f25.name, by decide, Tryd.func25.trans (congrArg some (by kernel_rfl))⟩
  f37 := ⟨Tryd.f28.name, by decide, Tryd.func28.trans (congrArg some (by kernel_rfl))⟩
  f38 := ⟨Tryd.f29.name, by decide, Tryd.func29.trans (congrArg some (by kernel_rfl))⟩
  f39 := ⟨Tryd.f30.name, by decide, Tryd.func30.trans (congrArg some (by kernel_rfl))⟩
  f41 := ⟨Tryd.f31.name, by decide, Tryd.func31.trans (congrArg some (by kernel_rfl))⟩
  t0 := Tryd.underlying0
  a0 := Tryd.isAgg0
  z0 := Tryd.sizeOf0
  v0 := Tryd.zeroValue0
  t3 := Tryd.underlying3
  a3 := Tryd.isAgg3
  z3 := Tryd.sizeOf3
  v3 := Tryd.zeroValue3
  t4 := Tryd.underlying4
  a4 := Tryd.isAgg4
  z4 := Tryd.sizeOf4
  v4 := Tryd.zeroValue4
  t5 := Tryd.underlying5
  a5 := Tryd.isAgg5
  z5 := Tryd.sizeOf5
  v5 := Tryd.zeroValue5
  t9 := Tryd.underlying9
  a9 := Tryd.isAgg9
  z9 := Tryd.sizeOf9
  v9 := Tryd.zeroValue9
  t26 := Tryd.underlying22
  a26 := Tryd.isAgg22
  z26 := Tryd.sizeOf22
  v26 := Tryd.zeroValue22
  t27 := Tryd.underlying22
  a27 := Tryd.isAgg22
  z27 := Tryd.sizeOf22
  v27 := Tryd.zeroValue22
  t29 := Tryd.underlying9
  a29 := Tryd.isAgg9
  z29 := Tryd.sizeOf9
  v29 := Tryd.zeroValue9
  t32 := Tryd.underlying33
  a32 := Tryd.isAgg33
  z32 := Tryd.sizeOf33
  v32 := Tryd.zeroValue33
  t35 := Tryd.underlying36
  a35 := Tryd.isAgg36
  z35 := Tryd.sizeOf36
  v35 := Tryd.zeroValue36
  t36 := Tryd.underlying37
  a36 := Tryd.isAgg37
  z36 := Tryd.sizeOf37
  v36 := Tryd.zeroValue37
  t41 := Tryd.underlying42
  a41 := Tryd.isAgg42
  z41 := Tryd.sizeOf42
  v41 := Tryd.zeroValue42
  t44 := Tryd.underlying45
  a44 := Tryd.isAgg45
  z44 := Tryd.sizeOf45
  v44 := Tryd.zeroValue45
  t46 := Tryd.underlying47
  a46 := Tryd.isAgg47
  z46 := Tryd.sizeOf47
  v46 := Tryd.zeroValue47
  t53 := Tryd.underlying48
  a53 := Tryd.isAgg48
  z53 := Tryd.sizeOf48
  v53 := Tryd.zeroValue48
  t57 := Tryd.underlying52
  a57 := Tryd.isAgg52
  z57 := Tryd.sizeOf52
  v57 := Tryd.zeroValue52
  t63 := Tryd.underlying55
  a63 := Tryd.isAgg55
  z63 := Tryd.sizeOf55
  v63 := Tryd.zeroValue55
  t64 := Tryd.underlying56
  a64 := Tryd.isAgg56
  z64 := Tryd.sizeOf56
  v64 := Tryd.zeroValue56
}
end Go.Proofs.YtmkpmiepakhgpaaDoor.Shs

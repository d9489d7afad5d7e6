/- Package interp: an instruction is done. -/
import Derived.Test.YtdmadfahgkikkaaGreatJgk
import Derived.Test.YtdmadfahgkikkaaGreatHand
namespace Go.Proofs.YtdmadfahgkikkaaGreat
open Go.RowKit Go.Lib Go.ChangeShapes Go.WideShapes Go.Deep Go.MapKept Go.ChangeMaps
set_option linter.unusedVariables false
set_option linter.unusedSimpArgs false

def binB (op : Int) (x y : BitVec 32) : BitVec 32 :=
  if op = 6 then bAdd x y
  else if op = 7 then bSub x y
  else if op = 8 then bMul x y
  else if op = 9 then bAnd x y
  else if op = 10 then bOr x y
  else if op = 11 then bXor x y
  else if op = 12 then bShl x y
  else if op = 13 then bShr x y
  else if op = 14 then bSar x y
  else if op = 19 then bEq x y
  else if op = 20 then bLt x y
  else if op = 21 then bBelow x y
  else 0
def isBin (op : Int) : Prop := op = 6 ∨ op = 7 ∨ op = 8 ∨ op = 9 ∨ op = 10 ∨ op = 11 ∨ op = 12 ∨ op = 13 ∨ op = 14 ∨ op = 19 ∨ op = 20 ∨ op = 21
set_option maxRecDepth 100000 in
set_option maxHeartbeats 4000000 in
theorem oTwo (op : Int) (ho : isBin op) (x y : BitVec 32) (w : World) : Calls Tryz.prog 54 #[.int .i64 op, .int .i32 (si x), .int .i32 (si y)] w fun e w' => e = .returned (.tuple #[.int .i32 (si (binB op x y)), .bool true]) ∧ w = w' := by
  rcases ho with rfl | rfl | rfl | rfl | rfl | rfl | rfl | rfl | rfl | rfl | rfl | rfl
  · have HW := Lib.hid (wAdd x y w)
    rw [show binB 6 x y = bAdd x y from rfl]
    go_enter Tryz.func54, Tryz.ntmps54
    go_wp2_with fail
    refine HW.out.mono ?_
    rintro e w' ⟨rfl, rfl⟩
    go_wp2_with fail
    go_ret2
    exact ⟨rfl, rfl⟩
  · have HW := Lib.hid (wSub x y w)
    rw [show binB 7 x y = bSub x y from rfl]
    go_enter Tryz.func54, Tryz.ntmps54
    go_wp2_with fail
    refine HW.out.mono ?_
    rintro e w' ⟨rfl, rfl⟩
    go_wp2_with fail
    go_ret2
    exact ⟨rfl, rfl⟩
  · have HW := Lib.hid (wMul x y w)
    rw [show binB 8 x y = bMul x y from rfl]
    go_enter Tryz.func54, Tryz.ntmps54
    go_wp2_with fail
    refine HW.out.mono ?_
    rintro e w' ⟨rfl, rfl⟩
    go_wp2_with fail
    go_ret2
    exact ⟨rfl, rfl⟩
  · have HW := Lib.hid (wAnd x y w)
    rw [show binB 9 x y = bAnd x y from rfl]
    go_enter Tryz.func54, Tryz.ntmps54
    go_wp2_with fail
    refine HW.out.mono ?_
    rintro e w' ⟨rfl, rfl⟩
    go_wp2_with fail
    go_ret2
    exact ⟨rfl, rfl⟩
  · have HW := Lib.hid (wOr x y w)
    rw [show binB 10 x y = bOr x y from rfl]
    go_enter Tryz.func54, Tryz.ntmps54
    go_wp2_with fail
    refine HW.out.mono ?_
    rintro e w' ⟨rfl, rfl⟩
    go_wp2_with fail
    go_ret2
    exact ⟨rfl, rfl⟩
  · have HW := Lib.hid (wXor x y w)
    rw [show binB 11 x y = bXor x y from rfl]
    go_enter Tryz.func54, Tryz.ntmps54
    go_wp2_with fail
    refine HW.out.mono ?_
    rintro e w' ⟨rfl, rfl⟩
    go_wp2_with fail
    go_ret2
    exact ⟨rfl, rfl⟩
  · have HW := Lib.hid (wShl x y w)
    rw [show binB 12 x y = bShl x y from rfl]
    go_enter Tryz.func54, Tryz.ntmps54
    go_wp2_with fail
    refine HW.out.mono ?_
    rintro e w' ⟨rfl, rfl⟩
    go_wp2_with fail
    go_ret2
    exact ⟨rfl, rfl⟩
  · have HW := Lib.hid (wShr x y w)
    rw [show binB 13 x y = bShr x y from rfl]
    go_enter Tryz.func54, Tryz.ntmps54
    go_wp2_with fail
    refine HW.out.mono ?_
    rintro e w' ⟨rfl, rfl⟩
    go_wp2_with fail
    go_ret2
    exact ⟨rfl, rfl⟩
  · have HW := Lib.hid (wSar x y w)
    rw [show binB 14 x y = bSar x y from rfl]
    go_enter Tryz.func54, Tryz.ntmps54
    go_wp2_with fail
    refine HW.out.mono ?_
    rintro e w' ⟨rfl, rfl⟩
    go_wp2_with fail
    go_ret2
    exact ⟨rfl, rfl⟩
  · have HW := Lib.hid (wEq x y w)
    rw [show binB 19 x y = bEq x y from rfl]
    go_enter Tryz.func54, Tryz.ntmps54
    go_wp2_with fail
    refine HW.out.mono ?_
    rintro e w' ⟨rfl, rfl⟩
    go_wp2_with fail
    go_ret2
    exact ⟨rfl, rfl⟩
  · have HW := Lib.hid (wLt x y w)
    rw [show binB 20 x y = bLt x y from rfl]
    go_enter Tryz.func54, Tryz.ntmps54
    go_wp2_with fail
    refine HW.out.mono ?_
    rintro e w' ⟨rfl, rfl⟩
    go_wp2_with fail
    go_ret2
    exact ⟨rfl, rfl⟩
  · have HW := Lib.hid (wBelow x y w)
    rw [show binB 21 x y = bBelow x y from rfl]
    go_enter Tryz.func54, Tryz.ntmps54
    go_wp2_with fail
    refine HW.out.mono ?_
    rintro e w' ⟨rfl, rfl⟩
    go_wp2_with fail
    go_ret2
    exact ⟨rfl, rfl⟩
end Go.Proofs.YtdmadfahgkikkaaGreat

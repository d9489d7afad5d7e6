/- CodeNames: of any text the instruction is as the document says: the walk. -/
import Derived.Test.YtcmdffkhofmfhaaCk
import Derived.Outline
namespace Go.Proofs.Ytcmdffkhofmfhaa
open Go.RowKit
set_option linter.unusedVariables false

set_option maxHeartbeats 2000000 in
theorem names_walk (s : ByteArray) (n : Int) (near : Bool) (W : World) (wn : (Lit.int .i64 n).wf = true) : Calls Try.prog 7 #[.string s, .int .i64 n, .bool near] W fun e w' => e = .returned (.bool true) ∧ Below W.heap.size W w' := by
  cases near with
  | true =>
    have WN := Lib.hid wn
    clear wn
    go_enter Try.func7, Try.ntmps7
    go_wp2_with fail
    refine (pick _ n 42 WN.out (by omega) (by omega)).mono ?_
    rintro e w1 ⟨rfl, rfl⟩
    go_wp2_with fail
    refine (rName _ _).mono ?_
    rintro e w1 ⟨rfl, hu⟩
    have HU := Lib.hid hu
    clear hu
    generalize nameB (n % 42) = t
    go_wp2_with fail
    refine (known3 _).mono ?_
    rintro e w2 ⟨rfl, hu⟩
    have HU2 := Lib.hid (HU.out.trans hu (fun _ h _ => h))
    clear hu
    go_wp2_with fail
    refine (cOp _ _).mono ?_
    rintro e w3 ⟨rfl, hu⟩
    have HU3 := Lib.hid (HU2.out.trans hu (fun _ h _ => h))
    clear hu
    go_wp2_with fail
    refine (rOp _ _).mono ?_
    rintro e w4 ⟨rfl, hu⟩
    have HU4 := Lib.hid (HU3.out.trans hu (fun _ h _ => h))
    clear hu
    go_wp2_with fail
    refine (cName _ _).mono ?_
    rintro e w5 ⟨rfl, hu⟩
    have HU5 := Lib.hid (HU4.out.trans hu (fun _ h _ => h))
    clear hu
    go_wp2_with fail
    refine (rName _ _).mono ?_
    rintro e w6 ⟨rfl, hu⟩
    have HU6 := Lib.hid (HU5.out.trans hu (fun _ h _ => h))
    clear hu
    go_wp2_with fail
    refine (cOperands _ _).mono ?_
    rintro e w7 ⟨rfl, rfl⟩
    go_wp2_with fail
    refine (rOperands _ _).mono ?_
    rintro e w7 ⟨rfl, rfl⟩
    go_wp2_with fail
    go_ret
    exact ⟨rfl, HU6.out.below (Nat.le_refl _) (fun _ h => h.elim)⟩
  | false =>
    clear wn
    have HU := Lib.hid (Upd.refl (fun _ => False) W)
    obtain ⟨w1, hw⟩ : ∃ w1, W = w1 := ⟨W, rfl⟩
    go_enter Try.func7, Try.ntmps7
    clear hw w1
    go_wp2_with fail
    refine (known3 _).mono ?_
    rintro e w2 ⟨rfl, hu⟩
    have HU2 := Lib.hid (HU.out.trans hu (fun _ h _ => h))
    clear hu
    go_wp2_with fail
    refine (cOp _ _).mono ?_
    rintro e w3 ⟨rfl, hu⟩
    have HU3 := Lib.hid (HU2.out.trans hu (fun _ h _ => h))
    clear hu
    go_wp2_with fail
    refine (rOp _ _).mono ?_
    rintro e w4 ⟨rfl, hu⟩
    have HU4 := Lib.hid (HU3.out.trans hu (fun _ h _ => h))
    clear hu
    go_wp2_with fail
    refine (cName _ _).mono ?_
    rintro e w5 ⟨rfl, hu⟩
    have HU5 := Lib.hid (HU4.out.trans hu (fun _ h _ => h))
    clear hu
    go_wp2_with fail
    refine (rName _ _).mono ?_
    rintro e w6 ⟨rfl, hu⟩
    have HU6 := Lib.hid (HU5.out.trans hu (fun _ h _ => h))
    clear hu
    go_wp2_with fail
    refine (cOperands _ _).mono ?_
    rintro e w7 ⟨rfl, rfl⟩
    go_wp2_with fail
    refine (rOperands _ _).mono ?_
    rintro e w7 ⟨rfl, rfl⟩
    go_wp2_with fail
    go_ret
    exact ⟨rfl, HU6.out.below (Nat.le_refl _) (fun _ h => h.elim)⟩
end Go.Proofs.Ytcmdffkhofmfhaa

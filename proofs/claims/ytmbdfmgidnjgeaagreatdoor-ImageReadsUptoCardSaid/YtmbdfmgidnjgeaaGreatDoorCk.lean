/- Chapter 3's example, as each law asks it first. -/
import Derived.Test.YtmbdfmgidnjgeaaGreatDoorCr
import Derived.Test.YtmbdfmgidnjgeaaGreatDoorCl
import Derived.Outline
namespace Go.Proofs.YtmbdfmgidnjgeaaGreatDoor
open Go.RowKit
set_option linter.unusedVariables false

theorem str3 {w : World} {v : Value} {ys : List Int} (h : Vw w v ys) : (convert 23 9 v).run Tryz.prog w = .ok (.string (strOfNums ys)) w :=
  run_str Tryz.underlying23 Tryz.underlying5 Tryz.underlying9 h

theorem ex_str : strOfNums [1, 255, 255, 255, 255] = { data := #[1, 255, 255, 255, 255] } := by kernel_rfl
theorem ex_bytes : layB 1 (-1) 0 = [1, 255, 255, 255, 255] := by decide
theorem ex_right : rightB 1 (-1) 0 = true := by decide
theorem ex_err : errI false [1, 255, 255, 255, 255] = 0 := by decide
theorem ex_op : opI false [1, 255, 255, 255, 255] = 1 := by decide
theorem ex_rest : restI false [1, 255, 255, 255, 255] = (-1, 0, false, []) := by decide

theorem cRead_no (w : World) (b : Nat) (v : Value) (lk : Bool) (ys : List Int) (h : Rd 88 w b v lk ys) (E : Int) (hE : errI lk ys = E) (h0 : E ≠ 0) :
    Calls Tryz.prog 86 #[.pointer (some ⟨b, 0, none⟩)] w fun e w' => e = .returned (.tuple #[ins 0 0 0, .int .i64 E]) ∧ Upd (fun _ => False) w w' :=
  (cRead w b v lk ys h).mono fun e w' k => by
    rcases k with ⟨_, k1, k2⟩ | ⟨k0, _⟩
    · exact ⟨by rw [k1, hE], k2⟩
    · exact absurd (hE.symm.trans k0) h0
theorem cRead_ok (w : World) (b : Nat) (v : Value) (lk : Bool) (ys : List Int) (h : Rd 88 w b v lk ys) (hE : errI lk ys = 0) :
    Calls Tryz.prog 86 #[.pointer (some ⟨b, 0, none⟩)] w fun e w' => e = .returned (.tuple #[ins (opI lk ys) (restI lk ys).1 (restI lk ys).2.1, .int .i64 0]) ∧ ∃ v', Rd 88 w' b v' false (restI lk ys).2.2.2 ∧ Upd (fun k => k = b) w w' ∧ (∀ k, v'.ownBlock = some k → v.ownBlock = some k) :=
  (cRead w b v lk ys h).mono fun e w' k => by
    rcases k with ⟨k0, _⟩ | ⟨_, k⟩
    · exact absurd hE k0
    · exact k
end Go.Proofs.YtmbdfmgidnjgeaaGreatDoor

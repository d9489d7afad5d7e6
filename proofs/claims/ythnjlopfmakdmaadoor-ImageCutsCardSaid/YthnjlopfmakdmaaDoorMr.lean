/- The hand's names of applets. -/
import Derived.Test.YthnjlopfmakdmaaDoorMl
namespace Go.Proofs.YthnjlopfmakdmaaDoor
open Go.RowKit Go.Lib
set_option linter.unusedVariables false

def ns0 : ByteArray := { data := #[97, 108, 112, 104, 97] }
def ns1 : ByteArray := { data := #[98, 195, 169, 116, 97] }
def ns2 : ByteArray := { data := #[103, 45, 49] }
def ns3 : ByteArray := { data := #[100, 46, 195, 191] }
theorem ixn (k : Nat) (hk : (k : Int) < 4) : ∃ s : ByteArray, s.size ≤ 5 ∧ ∀ w : World, (Instr.index 143 (.agg #[.string { data := #[97, 108, 112, 104, 97] }, .string { data := #[98, 195, 169, 116, 97] }, .string { data := #[103, 45, 49] }, .string { data := #[100, 46, 195, 191] }]) (.int .i64 k)).run Tryd.prog w = .ok (.string s) w := by
  have h : k = 0 ∨ k = 1 ∨ k = 2 ∨ k = 3 := by omega
  rcases h with rfl | rfl | rfl | rfl
  · exact ⟨ns0, by decide, fun w => by kernel_rfl⟩
  · exact ⟨ns1, by decide, fun w => by kernel_rfl⟩
  · exact ⟨ns2, by decide, fun w => by kernel_rfl⟩
  · exact ⟨ns3, by decide, fun w => by kernel_rfl⟩

set_option maxRecDepth 100000 in
set_option maxHeartbeats 4000000 in
theorem hName (n : Int) (w : World) : Calls Tryd.prog 72 #[.int .i64 n] w fun e w' => ∃ s : ByteArray, e = .returned (.string s) ∧ s.size ≤ 5 ∧ w = w' := by
  go_enter Tryd.func72, Tryd.ntmps72
  go_wp2_with (first
    | (go_at_call 14; (with_reducible refine (mPick _ 4 _ (by omega) (by omega)).mono ?_); rintro e _ ⟨k, rfl, hk, rfl⟩; obtain ⟨s, hs, hix⟩ := ixn k hk))
  go_ret
  exact ⟨s, rfl, hs, rfl⟩
end Go.Proofs.YthnjlopfmakdmaaDoor

/- The reference's Encode of package thumb's instructions: what it is built of. -/
import Derived.Test.YtibmgmgkaacibaaZE
import Derived.Test.YtibmgmgkaacibaaZv
import Derived.Test.YtibmgmgkaacibaaZw
namespace Go.Proofs.Ytibmgmgkaacibaa
open Go.RowKit
set_option linter.unusedVariables false
set_option linter.unusedSimpArgs false

theorem qOne (x : Int) (w : World) : Calls Try.prog 29 #[.int .u16 x] w fun e w' => e = .returned (.slice (some ⟨w.heap.size, 0, none⟩) 1 1) ∧ w' = w.alloc (.cells #[.int .u16 x] 77) := by
  go_enter Try.func29, Try.ntmps29
  go_wp2
  go_ret
  exact ⟨rfl, rfl⟩
theorem qOneH (x : Int) (h : Nat) (he : x = (h : Int)) (hh : h < 65536) (w : World) (b : Nat) (hb : w.heap.size = b) : Calls Try.prog 29 #[.int .u16 x] w fun e w' => e = .returned (.slice (some ⟨b, 0, none⟩) 1 1) ∧ VwH w' (.slice (some ⟨b, 0, none⟩) 1 1) [h] ∧ New w w' := by
  subst he hb
  exact (qOne _ w).mono fun _ _ ⟨h1, h2⟩ => ⟨h1, by rw [h2]; exact VwH.one w _ h hh, by rw [h2]; exact New.alloc _ _⟩
theorem nmod (a b : Nat) : Nat.mod a b = a % b := rfl
theorem ndiv (a b : Nat) : Nat.div a b = a / b := rfl
theorem iediv (a b : Int) : Int.ediv a b = a / b := rfl
theorem iemod (a b : Int) : Int.emod a b = a % b := rfl
end Go.Proofs.Ytibmgmgkaacibaa

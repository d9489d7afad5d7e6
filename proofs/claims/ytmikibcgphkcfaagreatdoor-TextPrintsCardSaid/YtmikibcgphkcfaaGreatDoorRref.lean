/- What the reference's Writer does to the world: a contract for each call. What the reference's Reader does to the world: a contract for each call. -/
import Derived.Test.YtmikibcgphkcfaaGreatDoorWr
import Derived.Test.YtmikibcgphkcfaaGreatDoorRd
namespace Go.Proofs.YtmikibcgphkcfaaGreatDoor
section
open Go.RowKit
set_option linter.unusedVariables false

/-- the lowest k bytes of n, the highest first -/
def lb (n : Int) : Nat → List Int
  | 0 => []
  | k + 1 => (n / 2 ^ (8 * k) % 256) :: lb n k
theorem lb_len (n : Int) (k : Nat) : (lb n k).length = k := by
  induction k with
  | zero => rfl
  | succ k ih => simp [lb, ih]

theorem lb0 (n : Int) : lb n (0 + 1) = (n % 256) :: lb n 0 := by simp [lb]
theorem lb1 (n : Int) : lb n (1 + 1) = (n / 256 % 256) :: lb n 1 := by simp [lb]
theorem lb2 (n : Int) : lb n (2 + 1) = (n / 65536 % 256) :: lb n 2 := by simp [lb]
theorem lb3 (n : Int) : lb n (3 + 1) = (n / 16777216 % 256) :: lb n 3 := by simp [lb]

end

section
open Go.RowKit
set_option linter.unusedVariables false

theorem got_of {t : TypeId} {w w1 w2 : World} {b : Nat} {v x r : Value} {n : Int} {lk : Bool} {ys ts : List Int} (hN : New w r ts w1) (ht : Took t w1 b v n lk ys x w2) (hP : (takeP n lk ys).1 = ts) (hlt : b < w.heap.size) : Got t w b v (takeP n lk ys) r w2 := by
  obtain ⟨v', h1, h2, h3, h4, h5⟩ := ht
  subst hP
  exact ⟨v', h1, ownsRow_upd hN.1 h3 (fun k hk e => by have := hN.2.2 k hk; omega), (hN.2.1.mono (fun _ h _ => h.elim)).trans h3 (fun _ h _ => h), h4, hN.2.2⟩

end
end Go.Proofs.YtmikibcgphkcfaaGreatDoor

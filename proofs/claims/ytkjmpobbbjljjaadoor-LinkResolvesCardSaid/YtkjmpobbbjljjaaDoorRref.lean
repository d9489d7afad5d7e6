/- What the reference's Reader does to the world: a contract for each call. -/
import Derived.Test.YtkjmpobbbjljjaaDoorRd
namespace Go.Proofs.YtkjmpobbbjljjaaDoor
open Go.RowKit
set_option linter.unusedVariables false

theorem got_of {t : TypeId} {w w1 w2 : World} {b : Nat} {v x r : Value} {n : Int} {lk : Bool} {ys ts : List Int} (hN : New w r ts w1) (ht : Took t w1 b v n lk ys x w2) (hP : (takeP n lk ys).1 = ts) (hlt : b < w.heap.size) : Got t w b v (takeP n lk ys) r w2 := by
  obtain ⟨v', h1, h2, h3, h4, h5⟩ := ht
  subst hP
  exact ⟨v', h1, ownsRow_upd hN.1 h3 (fun k hk e => by have := hN.2.2 k hk; omega), (hN.2.1.mono (fun _ h _ => h.elim)).trans h3 (fun _ h _ => h), h4, hN.2.2⟩

end Go.Proofs.YtkjmpobbbjljjaaDoor

/- What the reference reads of a list, plainly: number by number, until it lacks; against what is read at once. -/
import Derived.Test.YtmbdfmgidnjgeaaGreatDoorRd
namespace Go.Proofs.YtmbdfmgidnjgeaaGreatDoor
open Go.RowKit Go.Lib
set_option linter.unusedVariables false

/-- a list of n numbers, read one by one, no further behind a lack -/
def listP : Nat → Bool → List Int → List Int × Bool × List Int
  | 0, lk, ys => ([], lk, ys)
  | n + 1, lk, ys => if lk then ([], lk, ys) else
      (beN (takeP 1 lk ys).1 :: (listP n (takeP 1 lk ys).2.1 (takeP 1 lk ys).2.2).1, (listP n (takeP 1 lk ys).2.1 (takeP 1 lk ys).2.2).2)
theorem listP_lacks (n : Nat) (ys : List Int) : listP n true ys = ([], true, ys) := by cases n <;> rfl
theorem takeP_one (y : Int) (ys : List Int) : takeP 1 false (y :: ys) = ([y], false, ys) := by
  unfold takeP
  rw [if_neg (by simp only [List.length_cons]; omega)]
  rfl
theorem takeP_none : takeP 1 false [] = ([], true, []) := by
  unfold takeP
  rw [if_pos (by simp)]
theorem beN_one (y : Int) : beN [y] = y := by simp [beN]
/-- enough is there: what is read at once -/
theorem listP_ok : ∀ (n : Nat) (ys : List Int), n ≤ ys.length → listP n false ys = (ys.take n, false, ys.drop n)
  | 0, ys, _ => by simp [listP]
  | n + 1, [], h => by simp at h
  | n + 1, y :: ys, h => by
    have ih := listP_ok n ys (by simpa using h)
    unfold listP
    rw [if_neg (by simp), takeP_one, ih, beN_one]
    rfl
/-- too little is there: a lack, and nothing is left -/
theorem listP_short : ∀ (n : Nat) (ys : List Int), ys.length < n → (listP n false ys).2 = (true, [])
  | 0, ys, h => by omega
  | n + 1, [], h => by
    unfold listP
    rw [if_neg (by simp), takeP_none]
    show (listP n true []).2 = _
    rw [listP_lacks]
  | n + 1, y :: ys, h => by
    have ih := listP_short n ys (by simpa using h)
    unfold listP
    rw [if_neg (by simp), takeP_one]
    exact ih
theorem listP_len : ∀ (n : Nat) (lk : Bool) (ys : List Int), (listP n lk ys).1.length ≤ n
  | 0, lk, ys => by simp [listP]
  | n + 1, lk, ys => by
    unfold listP
    split
    · simp
    · have := listP_len n (takeP 1 lk ys).2.1 (takeP 1 lk ys).2.2
      simp only [List.length_cons]; omega
/-- a list of the reference: its length first -/
def rListP (lk : Bool) (ys : List Int) : List Int × Bool × List Int := listP (beN (takeP 1 lk ys).1).toNat (takeP 1 lk ys).2.1 (takeP 1 lk ys).2.2
/-- against shortP: the same lack and rest; the same list where nothing lacks -/
theorem rListP_short {ys : List Int} (hy : ∀ y ∈ ys, 0 ≤ y ∧ y ≤ 255) : (rListP false ys).2 = (shortP false ys).2 ∧ ((shortP false ys).2.1 = false → (rListP false ys).1 = (shortP false ys).1) := by
  cases ys with
  | nil =>
    have h1 : rListP false [] = ([], true, []) := by unfold rListP; rw [takeP_none]; exact listP_lacks _ _
    have h2 : (shortP false []).2 = (true, []) := by unfold shortP; rw [takeP_none]; unfold takeP; split <;> simp [beN]
    rw [h1, h2]
    exact ⟨rfl, fun h => by cases h⟩
  | cons y ys =>
    have hb := hy y (by simp)
    unfold rListP shortP
    rw [takeP_one, beN_one]
    simp only
    by_cases hl : y.toNat ≤ ys.length
    · have ht : takeP y false ys = (ys.take y.toNat, false, ys.drop y.toNat) := by unfold takeP; rw [if_neg (by omega)]
      rw [listP_ok _ _ hl, ht]
      exact ⟨rfl, fun _ => rfl⟩
    · have ht : takeP y false ys = ([], true, []) := by unfold takeP; rw [if_pos (by omega)]
      rw [ht, listP_short _ _ (by omega)]
      exact ⟨rfl, fun h => by cases h⟩
end Go.Proofs.YtmbdfmgidnjgeaaGreatDoor

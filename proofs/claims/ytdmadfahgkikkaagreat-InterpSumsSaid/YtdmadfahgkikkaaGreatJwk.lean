/- How arguments of types []int32 and []int read (stage 13). -/
import Derived.Test.YtdmadfahgkikkaaGreatJvk
import Derived.ProofKit
import Derived.Deep.Slices
import Derived.ChangeSame
import Derived.Carry
namespace Go.Proofs.YtdmadfahgkikkaaGreat
open Go.RowKit Go.ChangeShapes Go.WideShapes Go.Deep
set_option linter.unusedVariables false
set_option linter.unusedSimpArgs false

theorem open_i32sJ {H : Type} {enc : TypeId × Value → H} {W : World} {n : Nat} {v : Value} {x : DataW H × List MemPlace} (h : DataW.trod enc Tryz.prog W 0 (fun _ => true) true n 32 [v] = some x) : ∃ ys, I32 W v ys := by
  rcases open_ints Tryz.underlying32 Tryz.underlying21 (by kernel_rfl) h with ⟨hcs, hx⟩ | ⟨a, len, cap, zs, hcs, _, hl, hm, hz, hx, hcell, hwz⟩
  · simp at hcs
    subst hcs
    exact ⟨[], by simp, none, 0, rfl, Nat.le_refl _, by unfold maxLen; omega, .inl rfl⟩
  · simp at hcs
    subst hcs
    simp at hz
    have hlen : (zs.take len).length = len := by simp; omega
    refine ⟨zs.take len, fun y hy => by have := bounds_i32 (hwz y (List.mem_of_mem_take hy)); omega, a, cap, by rw [hlen], by omega, hm, ?_⟩
    obtain ⟨b, off, spot⟩ := a
    by_cases h0 : spot = none
    · subst h0
      refine .inr ⟨b, off, rfl, fun j hj => ?_⟩
      rw [hlen] at hj
      have := hcell j (by omega)
      rw [addr_add] at this
      rw [this]
      simp [List.getD, hj]
    · have hc0 : cap = 0 := by
        rcases Nat.eq_zero_or_pos cap with h | h
        · exact h
        · have := hcell 0 (by omega)
          have := World.cell?_spot this
          simp [Addr.add] at this
          exact absurd this h0
      obtain rfl : len = 0 := by omega
      exact .inl (by simp)
theorem open_numsJ {H : Type} {enc : TypeId × Value → H} {W : World} {n : Nat} {v : Value} {x : DataW H × List MemPlace} (h : DataW.trod enc Tryz.prog W 0 (fun _ => true) true n 44 [v] = some x) :
    ∃ ys, Ints W v ys := by
  rcases open_ints Tryz.underlying44 Tryz.underlying3 (by kernel_rfl) h with ⟨hcs, hx⟩ | ⟨a, len, cap, zs, hcs, _, hl, hm, hz, hx, hcell, hwz⟩
  · simp at hcs
    subst hcs
    exact ⟨[], Sl.nil _ _ _, by simp⟩
  · simp at hcs
    subst hcs
    simp at hz
    have hlen : (zs.take len).length = len := by simp; omega
    refine ⟨zs.take len, ⟨a, cap, by rw [hlen], by omega, hm, ?_⟩, fun y hy => bounds_i64 (hwz y (List.mem_of_mem_take hy))⟩
    rw [hlen]
    obtain ⟨b, off, spot⟩ := a
    by_cases h0 : spot = none
    · subst h0
      refine .inr ⟨b, off, rfl, fun i hi j hj => ?_⟩
      have := hcell i (by omega)
      rw [addr_add] at this
      obtain rfl : j = 0 := by omega
      rw [Nat.mul_one, Nat.add_zero, this]
      simp [List.getD, hi]
    · refine .inl ?_
      rcases Nat.eq_zero_or_pos cap with h | h
      · omega
      · have := hcell 0 (by omega)
        have := World.cell?_spot this
        simp [Addr.add] at this
        exact absurd this h0

end Go.Proofs.YtdmadfahgkikkaaGreat

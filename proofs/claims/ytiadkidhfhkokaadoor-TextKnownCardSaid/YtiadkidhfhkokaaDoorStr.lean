/- Strings made of bytes: when two are the same. No program is named here. -/
import Derived.Test.YtiadkidhfhkokaaDoorBase
import Derived.Lib.Bytes
namespace Go.Proofs.YtiadkidhfhkokaaDoor
open Go.RowKit
set_option linter.unusedVariables false

theorem strOf_inj (xs ys : List Int) (hx : ∀ v ∈ xs, 0 ≤ v ∧ v ≤ 255) (hy : ∀ v ∈ ys, 0 ≤ v ∧ v ≤ 255) (h : strOfNums xs = strOfNums ys) : xs = ys := by
  have h2 : (strOfNums xs).data.toList = (strOfNums ys).data.toList := by rw [h]
  rw [strOfNums_data, strOfNums_data] at h2
  have inv : ∀ zs : List Int, (∀ v ∈ zs, 0 ≤ v ∧ v ≤ 255) → (zs.map fun n => UInt8.ofNat n.toNat).map (fun b => (b.toNat : Int)) = zs := by
    intro zs hz
    rw [List.map_map]
    conv => rhs; rw [← List.map_id zs]
    refine List.map_congr_left fun v hv => ?_
    have := hz v hv
    simp only [Function.comp, id]
    rw [UInt8.toNat_ofNat']
    omega
  rw [← inv xs hx, ← inv ys hy, h2]
theorem str_same (xs ys : List Int) (hx : ∀ v ∈ xs, 0 ≤ v ∧ v ≤ 255) (hy : ∀ v ∈ ys, 0 ≤ v ∧ v ≤ 255) : ((strOfNums xs).toList == (strOfNums ys).toList) = decide (xs = ys) := by
  rw [Bool.eq_iff_iff, beq_iff_eq, decide_eq_true_eq]
  constructor
  · intro h
    refine strOf_inj xs ys hx hy ?_
    have h2 : (strOfNums xs).data.toList = (strOfNums ys).data.toList := by
      rw [Lib.strOfNums_toList, Lib.strOfNums_toList] at h
      exact h
    have h3 : (strOfNums xs).data = (strOfNums ys).data := Array.toList_inj.1 h2
    exact ByteArray.ext h3
  · rintro rfl; rfl
/-- the string's bytes -/
def nums (s : ByteArray) : List Int := s.data.toList.map fun b => (b.toNat : Int)
theorem nums_len (s : ByteArray) : (nums s).length = s.size := by simp [nums]
theorem nums_byte (s : ByteArray) : ∀ y ∈ nums s, 0 ≤ y ∧ y ≤ 255 := by
  intro y hy
  obtain ⟨b, _, rfl⟩ := List.mem_map.1 hy
  have := b.toNat_lt
  omega
theorem str_nums (s : ByteArray) : strOfNums (nums s) = s := by
  apply ByteArray.ext
  apply Array.toList_inj.1
  rw [strOfNums_data]
  unfold nums
  rw [List.map_map]
  conv => rhs; rw [← List.map_id s.data.toList]
  apply List.map_congr_left
  intro b _
  simp
theorem nums_inj {s t : ByteArray} (h : nums s = nums t) : s = t := by rw [← str_nums s, ← str_nums t, h]
theorem same_str (s t : ByteArray) : (s.toList == t.toList) = decide (s = t) := by
  have h := str_same (nums s) (nums t) (nums_byte s) (nums_byte t)
  rw [str_nums, str_nums] at h
  rw [h, Bool.eq_iff_iff, decide_eq_true_eq, decide_eq_true_eq]
  exact ⟨nums_inj, fun e => by rw [e]⟩
end Go.Proofs.YtiadkidhfhkokaaDoor

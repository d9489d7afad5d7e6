/- Package room: what is answered where there is no such field, no such applet. -/
import Derived.Test.YtdmadfahgkikkaaGreatQwk
import Derived.Test.YtdmadfahgkikkaaGreatQkk
namespace Go.Proofs.YtdmadfahgkikkaaGreat
open Go.RowKit Go.Lib Go.ChangeShapes Go.WideShapes Go.Deep
set_option linter.unusedVariables false
set_option linter.unusedSimpArgs false

section
variable {c : Nat → Nat} {w : World} {rb hb : Nat} {iv fv pv sv : Value} {ivs fvs : List Value} {M : RmM}
theorem rFieldA (h : Rm c w rb M) (a k : Int) (h0 : 0 ≤ a) (ha : (M.fields.length : Int) ≤ a) :
    Calls Tryz.prog 26 #[.pointer (some ⟨rb, 0, none⟩), .int .i64 a, .int .i64 k] w fun e w' => e = .returned (.pointer none) ∧ w = w' := by
  obtain ⟨hb, iv, fv, pv, sv, ivs, fvs, h⟩ := h
  obtain ⟨-, b1, -, -, -, -⟩ := h.bx
  obtain ⟨ga, gc, rfl⟩ := ownsRow_slice h.flds
  clear h
  have t1 : decide (a < 0) = false := by simp only [decide_eq_false_iff_not]; omega
  have t2 : decide ((M.fields.length : Int) ≤ a) = true := by simp only [decide_eq_true_eq]; omega
  generalize M.fields.length = n at *
  go_enter Tryz.func26, Tryz.ntmps26
  go_wp2_with fail
  go_ret
  exact ⟨rfl, rfl⟩
theorem rFieldK (h : Rm c w rb M) {i : Nat} (hi : i < M.fields.length) (k : Int) (hk : k < 0 ∨ ((M.fields.getD i []).length : Int) ≤ k) :
    Calls Tryz.prog 26 #[.pointer (some ⟨rb, 0, none⟩), .int .i64 (i : Int), .int .i64 k] w fun e w' => e = .returned (.pointer none) ∧ w = w' := by
  obtain ⟨hb, iv, fv, pv, sv, ivs, fvs, h⟩ := h
  obtain ⟨-, b1, -, -, -, -⟩ := h.bx
  have hlen : fvs.length = M.fields.length := by simpa using h.flds.1
  obtain ⟨ra, rc, he⟩ := ownsRow_slice (h.fld i hi)
  rcases h.flds.2 with ⟨_, h0⟩ | ⟨gf, cf, cur, rfl, -, -, hcf, hmf, -⟩
  · omega
  · have c1 := rowCell h.flds (j := i) (u := fvs.getD i default) (by simp [List.getD, show i < fvs.length by omega])
    rw [he] at c1
    clear h he
    unfold maxLen at hmf
    have t1 : decide ((i : Int) < 0) = false := by simp only [decide_eq_false_iff_not]; omega
    have t2 : decide ((M.fields.length : Int) ≤ (i : Int)) = false := by simp only [decide_eq_false_iff_not]; omega
    have i0 : (0 : Int) ≤ (i : Int) := Int.natCast_nonneg _
    have i1 : (i : Int) < (M.fields.length : Int) := by omega
    generalize (M.fields.getD i []).length = m at *
    generalize M.fields.length = n at *
    by_cases h0 : k < 0
    · have t3 : decide (k < 0) = true := by simp only [decide_eq_true_eq]; omega
      go_enter Tryz.func26, Tryz.ntmps26
      go_wp2_with fail
      go_ret
      exact ⟨rfl, rfl⟩
    · have t3 : decide (k < 0) = false := by simp only [decide_eq_false_iff_not]; omega
      have t4 : decide ((m : Int) ≤ k) = true := by simp only [decide_eq_true_eq]; omega
      go_enter Tryz.func26, Tryz.ntmps26
      go_wp2_with fail
      go_ret
      exact ⟨rfl, rfl⟩
theorem rField_of (a k : Int) (hc : Calls Tryz.prog 26 #[.pointer (some ⟨rb, 0, none⟩), .int .i64 a, .int .i64 k] w fun e w' => e = .returned (.pointer none) ∧ w = w') :
    Calls Tryz.prog 10 #[.pointer (some ⟨rb, 0, none⟩), .int .i64 a, .int .i64 k] w fun e w' => e = .returned (.tuple #[.int .i32 0, .bool false]) ∧ w = w' := by
  have HC := Lib.hid hc
  clear hc
  go_enter Tryz.func10, Tryz.ntmps10
  go_wp2_with fail
  refine HC.out.mono ?_
  rintro e w' ⟨rfl, rfl⟩
  go_wp2_with fail
  refine bodyPost_ret (v := .tuple #[.int .i32 0, .bool false]) (by simp only [results, Tryz.f10]; simp [go_sem]) rfl ?_
  exact ⟨rfl, rfl⟩
theorem rSetField_of (a k n : Int) (hc : Calls Tryz.prog 26 #[.pointer (some ⟨rb, 0, none⟩), .int .i64 a, .int .i64 k] w fun e w' => e = .returned (.pointer none) ∧ w = w') :
    Calls Tryz.prog 46 #[.pointer (some ⟨rb, 0, none⟩), .int .i64 a, .int .i64 k, .int .i32 n] w fun e w' => e = .returned (.bool false) ∧ w = w' := by
  have HC := Lib.hid hc
  clear hc
  go_enter Tryz.func46, Tryz.ntmps46
  go_wp2_with fail
  refine HC.out.mono ?_
  rintro e w' ⟨rfl, rfl⟩
  go_wp2_with fail
  go_ret
  exact ⟨rfl, rfl⟩
def noImg : Value := .agg #[.string { data := #[] }, .slice none 0 0, .slice none 0 0, .slice none 0 0, .slice none 0 0]
theorem rImage_no (h : Rm c w rb M) (k : Int) (h0 : 0 ≤ k) (hk : (M.fields.length : Int) ≤ k) :
    Calls Tryz.prog 42 #[.pointer (some ⟨rb, 0, none⟩), .int .i64 k] w fun e w' => e = .returned (.tuple #[noImg, .bool false]) ∧ Upd (fun _ => False) w w' := by
  obtain ⟨hb, iv, fv, pv, sv, ivs, fvs, h⟩ := h
  obtain ⟨b0, -, -, -, -, -⟩ := h.bx
  have hrb : rb < w.heap.size := (Array.getElem?_eq_some_iff.1 h.box).1
  obtain ⟨ga, gc, rfl⟩ := ownsRow_slice h.imgs
  clear h
  have t1 : decide (k < 0) = false := by simp only [decide_eq_false_iff_not]; omega
  have t2 : decide ((M.fields.length : Int) ≤ k) = true := by simp only [decide_eq_true_eq]; omega
  generalize M.fields.length = n at *
  go_enter Tryz.func42, Tryz.ntmps42
  go_wp2_with fail
  have htop : (w.alloc (.cells #[.string { data := #[] }, .slice none 0 0, .slice none 0 0, .slice none 0 0, .slice none 0 0] 59)).heap[w.heap.size]? = some (.cells #[.string { data := #[] }, .slice none 0 0, .slice none 0 0, .slice none 0 0, .slice none 0 0] 59 (0, 0)) := hpTop w _ _ rfl
  obtain ⟨d0, d1, d2, d3, d4, -⟩ := five htop
  refine bodyPost_ret (v := .tuple #[noImg, .bool false]) (by simp [noImg, results, Tryz.f42, go_sem, d0, d1, d2, d3, d4]) rfl ?_
  exact ⟨rfl, Upd.alloc _ _ _⟩
end
end Go.Proofs.YtdmadfahgkikkaaGreat

/- Package room: an applet's fields. -/
import Derived.Test.YtdmadfahgkikkaaGreatQek
namespace Go.Proofs.YtdmadfahgkikkaaGreat
open Go.RowKit Go.Lib Go.ChangeShapes Go.WideShapes Go.Deep
set_option linter.unusedVariables false
set_option linter.unusedSimpArgs false

def FT (i : Nat) (j : Nat) : Prop := j = 100 + i
theorem ft_ne {i j : Nat} (h : j ≠ 100 + i) : ¬ FT i j := h
def RmM.setF (M : RmM) (i k : Nat) (n : Int) : RmM := ⟨M.hp, M.fields.set i ((M.fields.getD i []).set k n), M.pub, M.sec, M.im⟩
section
variable {c : Nat → Nat} {w : World} {rb hb : Nat} {iv fv pv sv : Value} {ivs fvs : List Value} {M : RmM}
theorem RmAt.row (h : RmAt c w rb hb iv fv pv sv ivs fvs M) {i k : Nat} (hi : i < M.fields.length) (hk : k < (M.fields.getD i []).length) : ∃ gf cf g cg, fv = .slice (some ⟨gf, 0, none⟩) M.fields.length cf ∧ M.fields.length ≤ cf ∧ cf ≤ maxLen ∧ fvs.getD i default = .slice (some ⟨g, 0, none⟩) (M.fields.getD i []).length cg ∧ (M.fields.getD i []).length ≤ cg ∧ cg ≤ maxLen ∧
    w.cell? ⟨gf, i, none⟩ = some (.slice (some ⟨g, 0, none⟩) (M.fields.getD i []).length cg) ∧ w.cell? ⟨g, k, none⟩ = some (.int .i32 ((M.fields.getD i []).getD k 0)) ∧ w.frozen? ⟨g, k, none⟩ = false ∧ c g = 100 + i := by
  have hf := h.flds
  have hr := h.fld i hi
  rcases h.flds.2 with ⟨_, h0⟩ | ⟨gf, cf, cur, rfl, -, -, hcf, hmf, -⟩
  · omega
  · rcases hr.2 with ⟨_, h0⟩ | ⟨g, cg, cur2, he, -, -, hcg, hmg, -⟩
    · omega
    · have hlen : fvs.length = M.fields.length := by simpa using h.flds.1
      have c1 := rowCell hf (j := i) (u := fvs.getD i default) (by simp [List.getD, show i < fvs.length by omega])
      rw [he] at c1
      rw [he] at hr
      have c2 := rowCell hr (j := k) (u := .int .i32 ((M.fields.getD i []).getD k 0)) (by simp only [i32v, List.getElem?_map, List.getD_eq_getElem?_getD] at hk ⊢; rw [List.getElem?_eq_getElem hk]; rfl)
      exact ⟨gf, cf, g, cg, rfl, hcf, hmf, he, hcg, hmg, c1, c2, hpFrozen hr k, h.cx i g hi (by rw [he]; rfl)⟩
/-- a field is set -/
theorem RmAt.setF (h : RmAt c w rb hb iv fv pv sv ivs fvs M) {i k : Nat} (hi : i < M.fields.length) {g cg : Nat} (he : fvs.getD i default = .slice (some ⟨g, 0, none⟩) (M.fields.getD i []).length cg) (n : Int) :
    Ext (FT i) c w c (w.setCell ⟨g, k, none⟩ (.int .i32 n)) ∧ RmAt c (w.setCell ⟨g, k, none⟩ (.int .i32 n)) rb hb iv fv pv sv ivs fvs (M.setF i k n) := by
  have hcg := h.cx i g hi (by rw [he]; rfl)
  have hu : Upd (fun q => q = g) w (w.setCell ⟨g, k, none⟩ (.int .i32 n)) := hpS (Upd.refl _ _) rfl
  have E : Ext (FT i) c w c (w.setCell ⟨g, k, none⟩ (.int .i32 n)) := ⟨fun _ _ => rfl, hu.mono (fun q hq _ => by rw [hq, hcg]; rfl)⟩
  have hlen : (M.setF i k n).fields.length = M.fields.length := by simp [RmM.setF]
  have hget : ∀ j, j < M.fields.length → (M.setF i k n).fields.getD j [] = if j = i then (M.fields.getD i []).set k n else M.fields.getD j [] := fun j hj => by
    simp only [RmM.setF, List.getD_eq_getElem?_getD, List.getElem?_set]
    by_cases e : i = j
    · subst e
      simp [hj]
    · rw [if_neg e, if_neg (Ne.symm e)]
  refine ⟨E, ?_⟩
  refine ⟨E.blk h.box (by rw [h.cb]; exact ft_ne (by omega)), E.hep h.hp (ft_ne (by omega)), h.ok, by rw [hlen]; exact E.row h.imgs (fun q hq => by rw [h.ci q hq]; exact ft_ne (by omega)), by rw [hlen]; exact E.row h.flds (fun q hq => by rw [h.cf q hq]; exact ft_ne (by omega)),
    fun j hj => ?_, E.row h.pub (fun q hq => by rw [h.cp q hq]; exact ft_ne (by omega)), E.row h.sec (fun q hq => by rw [h.cs q hq]; exact ft_ne (by omega)), h.pb, h.sb, h.i1, h.f1, h.cb, h.ci, h.cf, h.cp, h.cs, fun j q hj hq => h.cx j q (by rw [← hlen]; exact hj) hq, by rw [hlen]; exact h.fl, h.es⟩
  rw [hlen] at hj
  rw [hget j hj]
  by_cases e : j = i
  · subst e
    rw [if_pos rfl, List.length_set]
    have hr := h.fld j hj
    rw [he] at hr ⊢
    have := hpSet hr k (.int .i32 n)
    simpa [i32v, List.map_set] using this
  · rw [if_neg e]
    exact E.row (h.fld j hj) (fun q hq => by rw [h.cx j q hj hq]; exact ft_ne (by omega))
theorem rFieldAt (h : RmAt c w rb hb iv fv pv sv ivs fvs M) {i k : Nat} (hi : i < M.fields.length) (hk : k < (M.fields.getD i []).length) : ∃ g cg, fvs.getD i default = .slice (some ⟨g, 0, none⟩) (M.fields.getD i []).length cg ∧ w.cell? ⟨g, k, none⟩ = some (.int .i32 ((M.fields.getD i []).getD k 0)) ∧ w.frozen? ⟨g, k, none⟩ = false ∧
    Calls Tryz.prog 26 #[.pointer (some ⟨rb, 0, none⟩), .int .i64 (i : Int), .int .i64 (k : Int)] w fun e w' => e = .returned (.pointer (some ⟨g, k, none⟩)) ∧ w = w' := by
  obtain ⟨-, b1, -, -, -, -⟩ := h.bx
  obtain ⟨gf, cf, g, cg, rfl, hcf, hmf, he, hcg, hmg, k1, k2, k3, -⟩ := h.row hi hk
  refine ⟨g, cg, he, k2, k3, ?_⟩
  clear k2 k3 he h
  unfold maxLen at hmf hmg
  have t1 : decide ((i : Int) < 0) = false := by simp only [decide_eq_false_iff_not]; omega
  have t2 : decide ((M.fields.length : Int) ≤ (i : Int)) = false := by simp only [decide_eq_false_iff_not]; omega
  have t3 : decide ((k : Int) < 0) = false := by simp only [decide_eq_false_iff_not]; omega
  have t4 : decide (((M.fields.getD i []).length : Int) ≤ (k : Int)) = false := by simp only [decide_eq_false_iff_not]; omega
  have i0 : (0 : Int) ≤ (i : Int) := Int.natCast_nonneg _
  have i1 : (i : Int) < (M.fields.length : Int) := by omega
  have i2 : (0 : Int) ≤ (k : Int) := Int.natCast_nonneg _
  have i3 : (k : Int) < ((M.fields.getD i []).length : Int) := by omega
  generalize (M.fields.getD i []).length = m at *
  generalize M.fields.length = n at *
  go_enter Tryz.func26, Tryz.ntmps26
  go_wp2_with fail
  go_ret
  exact ⟨rfl, rfl⟩
theorem rSetField (h : Rm c w rb M) {i k : Nat} (hi : i < M.fields.length) (hk : k < (M.fields.getD i []).length) (n : Int) :
    Calls Tryz.prog 46 #[.pointer (some ⟨rb, 0, none⟩), .int .i64 (i : Int), .int .i64 (k : Int), .int .i32 n] w fun e w' => e = .returned (.bool true) ∧ Ext (FT i) c w c w' ∧ Rm c w' rb (M.setF i k n) := by
  obtain ⟨hb, iv, fv, pv, sv, ivs, fvs, h⟩ := h
  obtain ⟨g, cg, he, k2, k3, hc⟩ := rFieldAt h hi hk
  have HC := Lib.hid hc
  have HS := Lib.hid (h.setF (k := k) hi he n)
  clear h he hc
  go_enter Tryz.func46, Tryz.ntmps46
  go_wp2_with fail
  refine HC.out.mono ?_
  rintro e w' ⟨rfl, rfl⟩
  go_wp2_with fail
  go_ret
  exact ⟨rfl, HS.out.1, _, _, _, _, _, _, _, HS.out.2⟩
theorem rField (h : Rm c w rb M) {i k : Nat} (hi : i < M.fields.length) (hk : k < (M.fields.getD i []).length) :
    Calls Tryz.prog 10 #[.pointer (some ⟨rb, 0, none⟩), .int .i64 (i : Int), .int .i64 (k : Int)] w fun e w' => e = .returned (.tuple #[.int .i32 ((M.fields.getD i []).getD k 0), .bool true]) ∧ w = w' := by
  obtain ⟨hb, iv, fv, pv, sv, ivs, fvs, h⟩ := h
  obtain ⟨g, cg, he, k2, k3, hc⟩ := rFieldAt h hi hk
  have HC := Lib.hid hc
  clear h he hc k3
  generalize (M.fields.getD i []).getD k 0 = x at *
  go_enter Tryz.func10, Tryz.ntmps10
  go_wp2_with fail
  refine HC.out.mono ?_
  rintro e w' ⟨rfl, rfl⟩
  go_wp2_with fail
  refine bodyPost_ret (v := .tuple #[.int .i32 x, .bool true]) (by simp only [results, Tryz.f10]; simp [go_sem]) rfl ?_
  exact ⟨rfl, rfl⟩
end
end Go.Proofs.YtdmadfahgkikkaaGreat

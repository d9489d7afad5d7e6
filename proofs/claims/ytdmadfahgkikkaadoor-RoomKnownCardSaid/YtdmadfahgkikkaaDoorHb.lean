/- Package heap: what it asks, and what it tells of an array. -/
import Derived.Test.YtdmadfahgkikkaaDoorHa
import Derived.Deep.Light
namespace Go.Proofs.YtdmadfahgkikkaaDoor
open Go.RowKit Go.ChangeShapes Go.WideShapes Go.Deep
set_option linter.unusedVariables false
set_option linter.unusedSimpArgs false

theorem hpRet {a b : Bool} (h : a = b) : Ending.returned (.bool a) = Ending.returned (.bool b) := by rw [h]
theorem hLabel (x : Int) (w : World) : Calls Tryd.prog 90 #[.int .i64 x] w fun e w' => e = .returned (.bool (labB x)) ∧ w = w' := by
  have HN := Lib.hid (show labB x = (x == 3 || x == 4) from rfl)
  go_enter Tryd.func90, Tryd.ntmps90
  go_wp2
  all_goals
    go_ret
    refine ⟨hpRet ?_, rfl⟩
    rw [HN.out]
    all_goals
      rw [Bool.eq_iff_iff]
      simp
      try omega
theorem hLife (x : Int) (w : World) : Calls Tryd.prog 91 #[.int .i64 x] w fun e w' => e = .returned (.bool (lifeB x)) ∧ w = w' := by
  have HN := Lib.hid (show lifeB x = (x == 0 || x == 1 || x == 2) from rfl)
  go_enter Tryd.func91, Tryd.ntmps91
  go_wp2
  all_goals
    go_ret
    refine ⟨hpRet ?_, rfl⟩
    rw [HN.out]
    all_goals
      rw [Bool.eq_iff_iff]
      simp
      try omega
def bufB (x : Int) : Bool := x == 1 || x == 2
theorem hBuffer (x : Int) (w : World) : Calls Tryd.prog 74 #[.int .i64 x] w fun e w' => e = .returned (.bool (bufB x)) ∧ w = w' := by
  have HN := Lib.hid (show bufB x = (x == 1 || x == 2) from rfl)
  go_enter Tryd.func74, Tryd.ntmps74
  go_wp2
  all_goals
    go_ret
    refine ⟨hpRet ?_, rfl⟩
    rw [HN.out]
    all_goals
      rw [Bool.eq_iff_iff]
      simp
      try omega
section
variable {F : Nat → Prop} {w : World} {b : Nat} {sz : Int} {av : Value} {R : List (ArrM × Value)}
theorem hCount (h : Hp 122 F w b sz av R) : Calls Tryd.prog 64 #[.pointer (some ⟨b, 0, none⟩)] w fun e w' => e = .returned (.int .i64 (R.length : Int)) ∧ w = w' := by
  obtain ⟨h0, h1, h2⟩ := h.bx
  obtain ⟨a, c, rfl⟩ := h.len
  go_enter Tryd.func64, Tryd.ntmps64
  go_wp2
  go_ret
  exact ⟨rfl, rfl⟩
def hasB (n : Nat) (ref : Int) : Bool := decide (1 ≤ ref ∧ ref ≤ n)
theorem hHas (h : Hp 122 F w b sz av R) (ref : Int) : Calls Tryd.prog 51 #[.pointer (some ⟨b, 0, none⟩), .int .i64 ref] w fun e w' => e = .returned (.bool (hasB R.length ref)) ∧ w = w' := by
  obtain ⟨h0, h1, h2⟩ := h.bx
  obtain ⟨a, c, rfl⟩ := h.len
  have HN := Lib.hid (show hasB R.length ref = decide (1 ≤ ref ∧ ref ≤ R.length) from rfl)
  go_enter Tryd.func51, Tryd.ntmps51
  go_wp2
  all_goals
    go_ret
    refine ⟨hpRet ?_, rfl⟩
    rw [HN.out]
    all_goals
      rw [Bool.eq_iff_iff]
      simp
      try omega
theorem hData_no (h : Hp 122 F w b sz av R) (ref : Int) (hr : hasB R.length ref = false) : Calls Tryd.prog 95 #[.pointer (some ⟨b, 0, none⟩), .int .i64 ref] w fun e w' => e = .returned (.slice none 0 0) ∧ w = w' := by
  have HR := Lib.hid hr
  clear hr
  go_enter Tryd.func95, Tryd.ntmps95
  go_wp2_with (refine (hHas h ref).mono ?_; rw [HR.out]; rintro e w' ⟨rfl, rfl⟩)
  go_ret
  exact ⟨rfl, rfl⟩
theorem hasB_of {n i : Nat} (hi : i < n) : hasB n ((i : Int) + 1) = true := by simp [hasB]; omega
theorem hData (h : Hp 122 F w b sz av R) {i : Nat} (hi : i < R.length) (hl : R.length ≤ 1000) : Calls Tryd.prog 95 #[.pointer (some ⟨b, 0, none⟩), .int .i64 ((i : Int) + 1)] w fun e w' => e = .returned R[i].2 ∧ w = w' := by
  have HR := Lib.hid (hasB_of hi)
  obtain ⟨h0, h1, h2⟩ := h.bx
  obtain ⟨g, c, rfl, -, -, -, -, k4, k5⟩ := h.at hi
  obtain ⟨da, dc, hd, -, -⟩ := h.dslice hi
  rw [hd] at k4 ⊢
  clear hd
  go_enter Tryd.func95, Tryd.ntmps95
  go_wp2_with (refine (hHas h _).mono ?_; rw [HR.out]; rintro e w' ⟨rfl, rfl⟩)
  go_ret
  exact ⟨rfl, rfl⟩
theorem hGet_none (h : Hp 122 F w b sz av R) (ref at_ : Int) (hr : hasB R.length ref = false) : Calls Tryd.prog 79 #[.pointer (some ⟨b, 0, none⟩), .int .i64 ref, .int .i64 at_] w fun e w' => e = .returned (.tuple #[.int .u8 0, .bool false]) ∧ w = w' := by
  have HR := Lib.hid hr
  clear hr
  go_enter Tryd.func79, Tryd.ntmps79
  go_wp2_with (refine (hData_no h ref HR.out).mono ?_; rintro e w' ⟨rfl, rfl⟩)
  all_goals first
    | (refine bodyPost_ret (v := .tuple #[.int .u8 0, .bool false]) (by simp only [results, Tryd.f79]; simp [go_sem]) rfl ?_; exact ⟨rfl, rfl⟩)
    | (exfalso; omega)
theorem hGet_out (h : Hp 122 F w b sz av R) {i : Nat} (hi : i < R.length) (hl : R.length ≤ 1000) (at_ : Int) (ha : at_ < 0 ∨ (R[i].1.data.length : Int) ≤ at_) : Calls Tryd.prog 79 #[.pointer (some ⟨b, 0, none⟩), .int .i64 ((i : Int) + 1), .int .i64 at_] w fun e w' => e = .returned (.tuple #[.int .u8 0, .bool false]) ∧ w = w' := by
  obtain ⟨da, dc, hd, -, -⟩ := h.dslice hi
  have HD := Lib.hid (show Calls Tryd.prog 95 #[.pointer (some ⟨b, 0, none⟩), .int .i64 ((i : Int) + 1)] w fun e w' => e = .returned (.slice da R[i].1.data.length dc) ∧ w = w' by rw [← hd]; exact hData h hi hl)
  clear hd
  generalize R[i].1.data.length = n at *
  go_enter Tryd.func79, Tryd.ntmps79
  go_wp2_with (refine (HD.out).mono ?_; rintro e w' ⟨rfl, rfl⟩)
  all_goals first
    | (refine bodyPost_ret (v := .tuple #[.int .u8 0, .bool false]) (by simp only [results, Tryd.f79]; simp [go_sem]) rfl ?_; exact ⟨rfl, rfl⟩)
    | (exfalso; omega)
theorem Hp.byte (h : Hp 122 F w b sz av R) {i : Nat} (hi : i < R.length) {j : Nat} (hj : j < R[i].1.data.length) : ∃ g c, R[i].2 = .slice (some ⟨g, 0, none⟩) R[i].1.data.length c ∧ w.cell? ⟨g, j, none⟩ = some (.int .u8 (R[i].1.data.getD j 0)) ∧ w.frozen? ⟨g, j, none⟩ = false := by
  have hm := h.dat _ (List.getElem_mem hi)
  have hrow := hm.row
  rcases hm.row.2 with ⟨_, h0⟩ | ⟨g, cap, cur, hd, hb, hg, hc, hmx, hcs, ht⟩
  · omega
  · rw [hd] at hrow
    have hc := hrow.cells (g := g) rfl j (.int .u8 (R[i].1.data.getD j 0)) (by simp [bv, List.getElem?_eq_getElem hj, List.getD])
    rw [addr_add, Nat.zero_add] at hc
    exact ⟨g, cap, hd, hc, hpFrozen hrow j⟩
theorem hGet (h : Hp 122 F w b sz av R) {i : Nat} (hi : i < R.length) (hl : R.length ≤ 1000) {j : Nat} (hj : j < R[i].1.data.length) : Calls Tryd.prog 79 #[.pointer (some ⟨b, 0, none⟩), .int .i64 ((i : Int) + 1), .int .i64 j] w fun e w' => e = .returned (.tuple #[.int .u8 (R[i].1.data.getD j 0), .bool true]) ∧ w = w' := by
  obtain ⟨g, dc, hd, hc, hf⟩ := h.byte hi hj
  have hlen := (h.dat _ (List.getElem_mem hi)).len
  have HD := Lib.hid (show Calls Tryd.prog 95 #[.pointer (some ⟨b, 0, none⟩), .int .i64 ((i : Int) + 1)] w fun e w' => e = .returned (.slice (some ⟨g, 0, none⟩) R[i].1.data.length dc) ∧ w = w' by rw [← hd]; exact hData h hi hl)
  clear hd
  generalize R[i].1.data.getD j 0 = y at *
  generalize R[i].1.data.length = n at *
  go_enter Tryd.func79, Tryd.ntmps79
  go_wp2_with (refine (HD.out).mono ?_; rintro e w' ⟨rfl, rfl⟩)
  all_goals first
    | (refine bodyPost_ret (v := .tuple #[.int .u8 y, .bool true]) (by simp only [results, Tryd.f79]; simp [go_sem]) rfl ?_; exact ⟨rfl, rfl⟩)
    | (exfalso; omega)
theorem hPut_none (h : Hp 122 F w b sz av R) (ref at_ y : Int) (hr : hasB R.length ref = false) : Calls Tryd.prog 80 #[.pointer (some ⟨b, 0, none⟩), .int .i64 ref, .int .i64 at_, .int .u8 y] w fun e w' => e = .returned (.bool false) ∧ w = w' := by
  have HR := Lib.hid hr
  clear hr
  go_enter Tryd.func80, Tryd.ntmps80
  go_wp2_with (refine (hData_no h ref HR.out).mono ?_; rintro e w' ⟨rfl, rfl⟩)
  all_goals first
    | (go_ret; exact ⟨rfl, rfl⟩)
    | (exfalso; omega)
theorem hPut_out (h : Hp 122 F w b sz av R) {i : Nat} (hi : i < R.length) (hl : R.length ≤ 1000) (at_ y : Int) (ha : at_ < 0 ∨ (R[i].1.data.length : Int) ≤ at_) : Calls Tryd.prog 80 #[.pointer (some ⟨b, 0, none⟩), .int .i64 ((i : Int) + 1), .int .i64 at_, .int .u8 y] w fun e w' => e = .returned (.bool false) ∧ w = w' := by
  obtain ⟨da, dc, hd, -, -⟩ := h.dslice hi
  have HD := Lib.hid (show Calls Tryd.prog 95 #[.pointer (some ⟨b, 0, none⟩), .int .i64 ((i : Int) + 1)] w fun e w' => e = .returned (.slice da R[i].1.data.length dc) ∧ w = w' by rw [← hd]; exact hData h hi hl)
  clear hd
  generalize R[i].1.data.length = n at *
  go_enter Tryd.func80, Tryd.ntmps80
  go_wp2_with (refine (HD.out).mono ?_; rintro e w' ⟨rfl, rfl⟩)
  all_goals first
    | (go_ret; exact ⟨rfl, rfl⟩)
    | (exfalso; omega)
theorem hPut (h : Hp 122 F w b sz av R) {i : Nat} (hi : i < R.length) (hl : R.length ≤ 1000) {j : Nat} (hj : j < R[i].1.data.length) (y : Int) (hy : 0 ≤ y ∧ y ≤ 255) : Calls Tryd.prog 80 #[.pointer (some ⟨b, 0, none⟩), .int .i64 ((i : Int) + 1), .int .i64 j, .int .u8 y] w fun e w' => e = .returned (.bool true) ∧ Hp 122 F w' b sz av (R.set i (R[i].1.put (R[i].1.data.set j y), R[i].2)) ∧ Upd F w w' := by
  obtain ⟨g, dc, hd, hc, hf⟩ := h.byte hi hj
  have hlen := (h.dat _ (List.getElem_mem hi)).len
  have HP := Lib.hid (h.poke (by decide) hi hd j hj y hy)
  have HU := Lib.hid (Upd.setCell (S := F) w (p := ⟨g, j, none⟩) (.inl ((h.dat _ (List.getElem_mem hi)).inn g (by rw [hd]; rfl))) (.int .u8 y))
  have HD := Lib.hid (show Calls Tryd.prog 95 #[.pointer (some ⟨b, 0, none⟩), .int .i64 ((i : Int) + 1)] w fun e w' => e = .returned (.slice (some ⟨g, 0, none⟩) R[i].1.data.length dc) ∧ w = w' by rw [← hd]; exact hData h hi hl)
  clear hd
  generalize R[i].1.data.getD j 0 = y0 at *
  generalize hn : R[i].1.data.length = n at *
  clear hn
  go_enter Tryd.func80, Tryd.ntmps80
  go_wp2_with (refine (HD.out).mono ?_; rintro e w' ⟨rfl, rfl⟩)
  all_goals first
    | (go_ret; exact ⟨rfl, HP.out, HU.out⟩)
    | (exfalso; omega)
end
end Go.Proofs.YtdmadfahgkikkaaDoor

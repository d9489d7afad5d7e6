/- Package thumb: Right, Encode, and Bl's part of Decode. -/
import Derived.Test.YtkdmppgjmmmclaaZf
import Derived.Test.YtkdmppgjmmmclaaZg
namespace Go.Proofs.Ytkdmppgjmmmclaa
open Go.RowKit
set_option linter.unusedVariables false

/-- a slice value that reads as these halfwords -/
def VwH (w : World) (v : Value) (ys : List Nat) : Prop :=
  (∀ y ∈ ys, y < 65536) ∧ (((∃ a, v = .slice a 0 0) ∧ ys = []) ∨
  ∃ g off c, v = .slice (some ⟨g, off, none⟩) ys.length c ∧ ys.length ≤ c ∧ c ≤ maxLen ∧ ∀ j, j < ys.length → w.cell? ⟨g, off + j, none⟩ = some (.int .u16 ((ys.getD j 0 : Nat) : Int)))
theorem VwH.nil (w : World) (a : Option Addr) : VwH w (.slice a 0 0) [] := ⟨by simp, .inl ⟨⟨a, rfl⟩, rfl⟩⟩
theorem VwH.slice {w : World} {v : Value} {ys : List Nat} (h : VwH w v ys) : ∃ a c, v = .slice a ys.length c ∧ ys.length ≤ c ∧ c ≤ maxLen := by
  rcases h.2 with ⟨⟨a, rfl⟩, rfl⟩ | ⟨g, off, c, rfl, h1, h2, _⟩
  · exact ⟨a, 0, rfl, Nat.le_refl _, by unfold maxLen; omega⟩
  · exact ⟨_, c, rfl, h1, h2⟩
theorem VwH.new {w w' : World} {v : Value} {ys : List Nat} (h : VwH w v ys) (hu : New w w') : VwH w' v ys := by
  refine ⟨h.1, ?_⟩
  rcases h.2 with h | ⟨g, off, c, rfl, h1, h2, h3⟩
  · exact .inl h
  · refine .inr ⟨g, off, c, rfl, h1, h2, fun j hj => ?_⟩
    have hc := h3 j hj
    rw [hu.cell (p := ⟨g, off + j, none⟩) (World.block_lt_of_cell? w _ hc) (fun h => h)]
    exact hc

/-- an instruction's box, whatever came behind it -/
theorem I6.kept {w w1 : World} {i : I6} {t : TypeId} (h : New (w.alloc (.cells #[.int .i64 i.op, .int .i64 i.d, .int .i64 i.n, .int .i64 i.m, .int .i64 i.imm, .int .i64 i.cond] t)) w1) : w.heap.size < w1.heap.size ∧
    w1.cell? ⟨w.heap.size, 0, none⟩ = some (.int .i64 i.op) ∧ w1.cell? ⟨w.heap.size, 1, none⟩ = some (.int .i64 i.d) ∧ w1.cell? ⟨w.heap.size, 2, none⟩ = some (.int .i64 i.n) ∧ w1.cell? ⟨w.heap.size, 3, none⟩ = some (.int .i64 i.m) ∧ w1.cell? ⟨w.heap.size, 4, none⟩ = some (.int .i64 i.imm) ∧ w1.cell? ⟨w.heap.size, 5, none⟩ = some (.int .i64 i.cond) := by
  have hs := h.size
  simp at hs
  have hb : w1.heap[w.heap.size]? = some (.cells #[.int .i64 i.op, .int .i64 i.d, .int .i64 i.n, .int .i64 i.m, .int .i64 i.imm, .int .i64 i.cond] t (0, 0)) := by
    rw [h.block _ (by simp) (fun h => h)]; exact heap_alloc_last w _
  refine ⟨by omega, ?_, ?_, ?_, ?_, ?_, ?_⟩ <;> (rw [cell_of_row w1 _ _ _ t (0, 0) hb]; rfl)
theorem Rw.kept {w w1 : World} {r : Rw} {t : TypeId} (h : New (w.alloc (.cells #[.int .i64 r.first, .int .u16 (r.fixed : Int), .int .u16 (msk r.p : Int), .int .u16 (msk r.d : Int), .int .u16 (msk r.n : Int), .int .u16 (msk r.m : Int), .int .u16 (msk r.imm : Int), .int .u16 (msk r.cond : Int), .int .i32 r.least, .int .i32 r.most, .int .u8 (r.halved : Int)] t)) w1) : w.heap.size < w1.heap.size ∧
    w1.cell? ⟨w.heap.size, 0, none⟩ = some (.int .i64 r.first) ∧ w1.cell? ⟨w.heap.size, 1, none⟩ = some (.int .u16 (r.fixed : Int)) ∧ w1.cell? ⟨w.heap.size, 2, none⟩ = some (.int .u16 (msk r.p : Int)) ∧ w1.cell? ⟨w.heap.size, 3, none⟩ = some (.int .u16 (msk r.d : Int)) ∧ w1.cell? ⟨w.heap.size, 4, none⟩ = some (.int .u16 (msk r.n : Int)) ∧ w1.cell? ⟨w.heap.size, 5, none⟩ = some (.int .u16 (msk r.m : Int)) ∧ w1.cell? ⟨w.heap.size, 6, none⟩ = some (.int .u16 (msk r.imm : Int)) ∧ w1.cell? ⟨w.heap.size, 7, none⟩ = some (.int .u16 (msk r.cond : Int)) ∧ w1.cell? ⟨w.heap.size, 8, none⟩ = some (.int .i32 r.least) ∧ w1.cell? ⟨w.heap.size, 9, none⟩ = some (.int .i32 r.most) ∧ w1.cell? ⟨w.heap.size, 10, none⟩ = some (.int .u8 (r.halved : Int)) := by
  have hs := h.size
  simp at hs
  have hb : w1.heap[w.heap.size]? = some (.cells #[.int .i64 r.first, .int .u16 (r.fixed : Int), .int .u16 (msk r.p : Int), .int .u16 (msk r.d : Int), .int .u16 (msk r.n : Int), .int .u16 (msk r.m : Int), .int .u16 (msk r.imm : Int), .int .u16 (msk r.cond : Int), .int .i32 r.least, .int .i32 r.most, .int .u8 (r.halved : Int)] t (0, 0)) := by
    rw [h.block _ (by simp) (fun h => h)]; exact heap_alloc_last w _
  refine ⟨by omega, ?_, ?_, ?_, ?_, ?_, ?_, ?_, ?_, ?_, ?_, ?_⟩ <;> (rw [cell_of_row w1 _ _ _ t (0, 0) hb]; rfl)
theorem New.keep {w w' : World} (k : New w w') {p : Addr} {v : Value} (h : w.cell? p = some v) : w'.cell? p = some v := by
  rw [k.cell (World.block_lt_of_cell? w _ h) (fun h => h)]; exact h
theorem rows_top : rowL.all (fun r => decide (r.first + 2 ^ r.p.length ≤ 46)) = true := by decide +kernel
theorem rowOf_range {op : Int} {r : Rw} (h : rowOfP op = some r) : r ∈ rowL ∧ 1 ≤ op ∧ op ≤ 45 ∧ fitP (op - r.first) r.p = true := by
  have hm := List.mem_of_find?_eq_some h
  have hf : fitP (op - r.first) r.p = true := by have := List.find?_some (p := fun r : Rw => fitP (op - r.first) r.p) h; simpa using this
  have h1 := (rows_ok hm).first
  have h2 : r.first + 2 ^ r.p.length ≤ 46 := of_decide_eq_true (List.all_eq_true.1 rows_top r hm)
  refine ⟨hm, ?_, ?_, hf⟩
  all_goals
    simp only [fitP, beq_iff_eq] at hf
    have h0 : (0 : Int) < 2 ^ r.p.length := Int.pow_pos (by decide)
    have h3 := Int.emod_add_mul_ediv (op - r.first) (2 ^ r.p.length)
    rw [hf] at h3
    have h4 := Int.emod_nonneg (op - r.first) (by omega : (2 : Int) ^ r.p.length ≠ 0)
    have h5 := Int.emod_lt_of_pos (op - r.first) h0
    simp at h3
    omega
theorem New.set' {w a : World} {b : Nat} (h : New w a) (hb : w.heap.size ≤ b) (j : Nat) (v : Value) : New w (a.setCell ⟨b, j, none⟩ v) := h.set _ v hb

set_option maxHeartbeats 1000000 in
theorem tRight (i : I6) (hi : i.Ok) (w : World) : Calls Try.prog 16 #[i.val] w fun e w' => e = .returned (.bool (rightP i)) ∧ New w w' := by
  have HI := Lib.hid hi
  have HO := Lib.hid hi.op
  clear hi
  go_enter Try.func16, Try.ntmps16
  go_wp2_with fail
  refine (tRowOf i.op HO.out _).mono ?_
  rintro e w1 ⟨(⟨r, hr, rfl⟩ | ⟨hr, rfl⟩), hw⟩
  · have HM := Lib.hid (rows_ok (List.mem_of_find?_eq_some hr))
    have HR := Lib.hid hr
    obtain ⟨hlt, c0, c1, c2, c3, c4, c5⟩ := I6.kept hw
    have HW := Lib.hid (New.trans (New.alloc _ _) hw)
    clear hr hw
    go_wp2_with (with_reducible refine (tMay r HM.out i HI.out _).mono ?_; rintro e w2 ⟨rfl, hw2⟩)
    go_ret
    refine ⟨by simp [rightP, HR.out], New.trans (New.trans HW.out ?_) hw2⟩
    (repeat (first | exact Upd.refl _ _ | refine New.trans ?_ (Upd.drewN _ _ _) | refine New.trans ?_ (New.alloc _ _)))
  · have HR := Lib.hid hr
    have HW := Lib.hid (New.trans (New.alloc _ _) hw)
    clear hr hw
    go_wp2
    go_ret
    refine ⟨by simp [rightP, HR.out], New.trans HW.out ?_⟩
    (repeat (first | exact Upd.refl _ _ | refine New.trans ?_ (Upd.drewN _ _ _) | refine New.trans ?_ (New.alloc _ _)))

theorem u16_or_range (x y : Int) : 0 ≤ bits .or .u16 x y ∧ bits .or .u16 x y < 65536 := by
  unfold bits
  simp only [IntKind.bits]
  rw [IntKind.wrap_u16]
  omega
theorem lay_range (r : Rw) (i : I6) : 0 ≤ layP r i ∧ layP r i < 65536 := u16_or_range _ _
theorem VwH.one (w : World) (t : TypeId) (x : Nat) (hx : x < 65536) : VwH (w.alloc (.cells #[.int .u16 (x : Int)] t)) (.slice (some ⟨w.heap.size, 0, none⟩) 1 1) [x] := by
  refine ⟨by simpa using hx, .inr ⟨w.heap.size, 0, 1, rfl, by simp, by unfold maxLen; simp, fun j hj => ?_⟩⟩
  have : j = 0 := by simpa using hj
  subst this
  rw [cell_of_row _ _ _ _ t (0, 0) (heap_alloc_last w _)]
  rfl
theorem VwH.two (w : World) (t : TypeId) (x y : Nat) (hx : x < 65536) (hy : y < 65536) : VwH (w.alloc (.cells #[.int .u16 (x : Int), .int .u16 (y : Int)] t)) (.slice (some ⟨w.heap.size, 0, none⟩) 2 2) [x, y] := by
  refine ⟨by simp [hx, hy], .inr ⟨w.heap.size, 0, 2, rfl, by simp, by unfold maxLen; simp, fun j hj => ?_⟩⟩
  have : j = 0 ∨ j = 1 := by simp at hj; omega
  rcases this with rfl | rfl
  · rw [cell_of_row _ _ _ _ t (0, 0) (heap_alloc_last w _)]
    rfl
  · rw [cell_of_row _ _ _ _ t (0, 0) (heap_alloc_last w _)]
    rfl
theorem far1_lt (imm : Int) : far1 imm < 65536 := by have := bitN_lt imm 24; unfold far1; omega
theorem far2_lt (imm : Int) : far2 imm < 65536 := by
  have := turn_lt (bitN imm 23) (bitN imm 24)
  have := turn_lt (bitN imm 22) (bitN imm 24)
  unfold far2; omega

/-- an instruction's halfwords -/
def encP (i : I6) : List Nat := if i.op = 43 then [far1 i.imm, far2 i.imm] else match rowOfP i.op with
  | some r => [(layP r i).toNat]
  | none => []
set_option maxHeartbeats 1000000 in
theorem tEncode (i : I6) (hi : i.Ok) (w : World) : Calls Try.prog 10 #[i.val] w fun e w' =>
    ((rightP i = false ∧ e = .returned (.tuple #[.slice none 0 0, .int .i64 1])) ∨ (rightP i = true ∧ ∃ v, e = .returned (.tuple #[v, .int .i64 0]) ∧ VwH w' v (encP i))) ∧ New w w' := by
  have HI := Lib.hid hi
  have HO := Lib.hid hi.op
  clear hi
  go_enter Try.func10, Try.ntmps10
  go_wp2_with fail
  refine (tRowOf i.op HO.out _).mono ?_
  rintro e w1 ⟨(⟨r, hr, rfl⟩ | ⟨hr, rfl⟩), hw⟩
  · have HM := Lib.hid (rows_ok (List.mem_of_find?_eq_some hr))
    have HR := Lib.hid hr
    obtain ⟨_, hop1, hop2, _⟩ := rowOf_range hr
    obtain ⟨hlt, c0, c1, c2, c3, c4, c5⟩ := I6.kept hw
    have HW := Lib.hid (New.trans (New.alloc _ _) hw)
    clear hr hw
    cases hm : mayP r i
    · go_wp2_with (with_reducible refine (tMay r HM.out i HI.out _).mono ?_; rintro e w2 ⟨rfl, hw2⟩)
      go_ret2
      refine ⟨.inl ⟨by simp [rightP, HR.out, hm], rfl⟩, New.trans (New.trans HW.out ?_) hw2⟩
      (repeat (first | exact Upd.refl _ _ | refine New.trans ?_ (Upd.drewN _ _ _) | refine New.trans ?_ (New.alloc _ _)))
    · have HRi : Hid (rightP i = true) := Lib.hid (by simp [rightP, HR.out, hm])
      go_wp2_with fail
      refine (tMay r HM.out i HI.out _).mono ?_
      rintro e w2 ⟨rfl, hw2⟩
      rw [hm]
      obtain ⟨hlt2, d0, d1, d2, d3, d4, d5, d6, d7, d8, d9, d10⟩ := Rw.kept hw2
      have h12 := New.trans (New.alloc _ _) hw2
      replace c0 := h12.keep c0
      replace c1 := h12.keep c1
      replace c2 := h12.keep c2
      replace c3 := h12.keep c3
      replace c4 := h12.keep c4
      replace c5 := h12.keep c5
      have HW2 := Lib.hid (New.trans HW.out h12)
      clear hw2 h12 hm
      cases h43 : (i.op == 43)
      · have HE : Hid (encP i = [(layP r i).toNat]) := Lib.hid (by
          have : i.op ≠ 43 := by simpa using h43
          simp [encP, this, HR.out])
        go_wp2_with (with_reducible refine (tLay r HM.out i HI.out ⟨by omega, hop2⟩ _).mono ?_; rintro e w3 ⟨rfl, hw3⟩)
        go_ret2
        refine ⟨.inr ⟨HRi.out, _, rfl, ?_⟩, New.trans (New.trans HW2.out hw3) (New.alloc _ _)⟩
        rw [HE.out]
        have hr := lay_range r i
        have := VwH.one w3 27 (layP r i).toNat (by omega)
        rw [Int.toNat_of_nonneg hr.1] at this
        exact this
      · have HE : Hid (encP i = [far1 i.imm, far2 i.imm]) := Lib.hid (by
          have : i.op = 43 := by simpa using h43
          simp [encP, this])
        go_wp2_with (with_reducible refine (tLayFar i.imm _).mono ?_; rintro e _ ⟨rfl, rfl⟩)
        go_ret2
        refine ⟨.inr ⟨HRi.out, _, rfl, ?_⟩, New.trans HW2.out (New.alloc _ _)⟩
        rw [HE.out]
        exact VwH.two _ _ _ _ (far1_lt _) (far2_lt _)
  · have HR := Lib.hid hr
    have HW := Lib.hid (New.trans (New.alloc _ _) hw)
    clear hr hw
    go_wp2
    go_ret2
    refine ⟨.inl ⟨by simp [rightP, HR.out], rfl⟩, New.trans HW.out ?_⟩
    (repeat (first | exact Upd.refl _ _ | refine New.trans ?_ (Upd.drewN _ _ _) | refine New.trans ?_ (New.alloc _ _)))
end Go.Proofs.Ytkdmppgjmmmclaa

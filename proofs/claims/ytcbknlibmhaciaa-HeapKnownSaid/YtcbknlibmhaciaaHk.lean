/- Package heap: HeapKnown. -/
import Derived.Test.YtcbknlibmhaciaaHj
import Derived.OwnWalk
namespace Go.Proofs.Ytcbknlibmhaciaa
open Go.RowKit Go.ChangeShapes Go.WideShapes Go.Deep
set_option linter.unusedVariables false
set_option linter.unusedSimpArgs false

def K0 : HpM := two 200
def K1 : HpM := K0.add (newA 1 4 2 true 3)
def K2 : HpM := K1.add (newA 1 4 1 false 2)
def K3 : HpM := K2.put 2 2 9
def K4 : HpM := K3.put 3 0 8
def K5 : HpM := K4.lay 0 [104, 105]
def K6 : HpM := K5.clr 2 1
def K7 : HpM := K6.clr 1 0
def bufA : ArrM := ⟨-1, 4, 0, false, []⟩
set_option maxRecDepth 100000 in
set_option maxHeartbeats 4000000 in
theorem heapKnown_walk (w : World) : Calls Try.prog 3 #[] w fun e w' => e = .returned (.bool true) ∧ Upd (fun _ => False) w w' := by
  obtain ⟨i0, hi, hz0, hz1, hz2⟩ := info_parts b8Info
  go_enter Try.func3, Try.ntmps3
  go_wp2_with fail
  refine (hNew_no 63 w (.inl (by omega))).mono ?_
  rintro e w' ⟨rfl, rfl⟩
  go_wp2_with fail
  refine (hNew_no 4097 w (.inr (by omega))).mono ?_
  rintro e w' ⟨rfl, rfl⟩
  go_wp2_with fail
  refine (oNew (K := Free) (Upd.refl _ w) (fun _ h => h.elim) 200 (by omega) (by omega)).mono ?_
  rintro e w1 ⟨b, rfl, ho, -⟩
  have H1 : Hid (Own Free w w1 b K0) := Lib.hid ho
  clear ho
  go_wp2_with fail
  refine (known8 w1 w1 (Upd.refl _ _)).mono ?_
  rintro e w2 ⟨rfl, hu⟩
  have H2 := Lib.hid (H1.out.quiet hu).own
  clear hu
  go_wp2_with fail
  refine (show Calls Try.prog 9 #[.pointer (some ⟨b, 0, none⟩), .int .i64 2] w2 fun e w' => ∃ d, e = .returned (.tuple #[.agg #[.int .i64 (-1), .int .i64 4, .int .i64 0, .bool false, d], .bool true]) ∧ New w2 d [] w' ∧ OwnTo Free w w2 w' b K0 from oArray (i := 1) H2.out (by decide) (by decide)).mono ?_
  rintro e w3 ⟨d, rfl, hn, ho⟩
  obtain ⟨da, dc, hd⟩ := ownsRow_slice hn.1
  replace hd : d = .slice da 0 dc := hd
  subst hd
  have H3 := Lib.hid ho.own
  clear ho hn
  obtain ⟨w4, hw4⟩ : ∃ w4, w4 = w3.alloc (.cells #[.int .i64 (-1), .int .i64 4, .int .i64 0, .bool false, .slice da 0 dc] 29) := ⟨_, rfl⟩
  have hu4 : Upd (fun _ => False) w3 w4 := by rw [hw4]; exact Upd.alloc _ _ _
  have hs4 : w3.heap.size < w4.heap.size := by rw [hw4]; simp
  have hx4 : w4.heap[w3.heap.size]? = some (.cells #[.int .i64 (-1), .int .i64 4, .int .i64 0, .bool false, .slice da 0 dc] 29 (0, 0)) := by rw [hw4]; exact hpTop _ _ _ rfl
  obtain ⟨X, hX⟩ : ∃ X, X = w3.heap.size := ⟨_, rfl⟩
  have H4 : Hid (Own (fun k => k = X) w w4 b K0) := Lib.hid (H3.out.keep hu4 (fun k hk => .inr (by omega)))
  have HX4 : Hid (w4.heap[X]? = some (.cells #[.int .i64 (-1), .int .i64 4, .int .i64 0, .bool false, .slice da 0 dc] 29 (0, 0))) := Lib.hid (by rw [hX]; exact hx4)
  have HW4 := Lib.hid hw4
  have HXE := Lib.hid hX
  clear hx4 hu4 hs4 hw4 hX
  go_wp2_with fail
  rw [← HW4.out, ← HXE.out]
  refine (show Calls Try.prog 10 #[.pointer (some ⟨b, 0, none⟩), .int .i64 1, .int .i64 4, .int .i64 2, .bool true, .int .i64 3] w4 fun e w' => e = .returned (.tuple #[.int .i64 3, .bool true]) ∧ OwnTo (fun k => k = X) w w4 w' b K1 from oAlloc H4.out (by decide) (by decide) 1 4 2 3 true (by decide)).mono ?_
  rintro e w5 ⟨rfl, ho⟩
  have H5 := Lib.hid ho.own
  have HX5 := Lib.hid (hpBlk ho.step HX4.out (fun h => h.2 rfl))
  clear ho
  go_wp2_with fail
  refine (show Calls Try.prog 10 #[.pointer (some ⟨b, 0, none⟩), .int .i64 1, .int .i64 4, .int .i64 1, .bool false, .int .i64 2] w5 fun e w' => e = .returned (.tuple #[.int .i64 4, .bool true]) ∧ OwnTo (fun k => k = X) w w5 w' b K2 from oAlloc H5.out (by decide) (by decide) 1 4 1 2 false (by decide)).mono ?_
  rintro e w6 ⟨rfl, ho⟩
  have H6 := Lib.hid ho.own
  have HX6 := Lib.hid (hpBlk ho.step HX5.out (fun h => h.2 rfl))
  clear ho
  go_wp2_with fail
  refine (show Calls Try.prog 11 #[.pointer (some ⟨b, 0, none⟩), .int .i64 3, .int .i64 2, .int .u8 9] w6 fun e w' => e = .returned (.bool true) ∧ OwnTo (fun k => k = X) w w6 w' b K3 from oPut (i := 2) (j := 2) H6.out (by decide) (by decide) (by decide) 9 (by decide)).mono ?_
  rintro e w7 ⟨rfl, ho⟩
  have H7 := Lib.hid ho.own
  have HX7 := Lib.hid (hpBlk ho.step HX6.out (fun h => h.2 rfl))
  clear ho
  go_wp2_with fail
  refine (show Calls Try.prog 11 #[.pointer (some ⟨b, 0, none⟩), .int .i64 3, .int .i64 3, .int .u8 9] w7 fun e w' => e = .returned (.bool false) ∧ w7 = w' from pPut_out (i := 2) H7.out.hp (by decide) (by decide) 3 9 (.inr (by decide))).mono ?_
  rintro e w' ⟨rfl, rfl⟩
  go_wp2_with fail
  refine (show Calls Try.prog 11 #[.pointer (some ⟨b, 0, none⟩), .int .i64 4, .int .i64 0, .int .u8 8] w7 fun e w' => e = .returned (.bool true) ∧ OwnTo (fun k => k = X) w w7 w' b K4 from oPut (i := 3) (j := 0) H7.out (by decide) (by decide) (by decide) 8 (by decide)).mono ?_
  rintro e w8 ⟨rfl, ho⟩
  have H8 := Lib.hid ho.own
  have HX8 := Lib.hid (hpBlk ho.step HX7.out (fun h => h.2 rfl))
  clear ho
  have kc := Lib.run_convert_bytes_const (P := Try.prog) w8 27 5 #[.int .u8 104, .int .u8 105] 2 2 Try.underlying27 Try.underlying5
  go_wp2_with fail
  refine (show Calls Try.prog 12 #[.pointer (some ⟨b, 0, none⟩), .int .i64 3, .int .i64 2] w8 fun e w' => e = .returned (.tuple #[.int .u8 9, .bool true]) ∧ w8 = w' from pGet (i := 2) (j := 2) H8.out.hp (by decide) (by decide) (by decide)).mono ?_
  rintro e w' ⟨rfl, rfl⟩
  go_wp2_with fail
  clear kc
  obtain ⟨w9, hw9⟩ : ∃ w9, w9 = w8.alloc (.cells #[.int .u8 104, .int .u8 105] 5 (2, 3)) := ⟨_, rfl⟩
  have hu9 : Upd (fun _ => False) w8 w9 := by rw [hw9]; exact Upd.alloc _ _ _
  have HV9 : Hid (Vw w9 (.slice (some ⟨w8.heap.size, 0, none⟩) 2 2) [104, 105]) := Lib.hid (by rw [hw9]; exact vw_lit w8 _ _ [104, 105] _ 2 2 rfl rfl (by decide) (by decide) (by decide))
  have H9 := Lib.hid (H8.out.quiet hu9).own
  have HX9 := Lib.hid (hpBlk hu9 HX8.out (fun h => h))
  have HWW9 := Lib.hid hw9
  clear hw9 hu9
  rw [← HWW9.out]
  refine (show Calls Try.prog 13 #[.pointer (some ⟨b, 0, none⟩), .int .i64 1, .slice (some ⟨w8.heap.size, 0, none⟩) 2 2] w9 fun e w' => e = .returned (.bool true) ∧ OwnTo (fun k => k = X) w w9 w' b K5 from oSet (i := 0) H9.out (by decide) (by decide) _ _ HV9.out (by decide)).mono ?_
  rintro e w10 ⟨rfl, ho⟩
  have H10 := Lib.hid ho.own
  have HX10 := Lib.hid (hpBlk ho.step HX9.out (fun h => h.2 rfl))
  clear ho
  go_wp2_with fail
  refine (show Calls Try.prog 13 #[.pointer (some ⟨b, 0, none⟩), .int .i64 3, .slice none 0 0] w10 fun e w' => e = .returned (.bool false) ∧ w10 = w' from pSet_no H10.out.hp 3 _ [] (Vw.nil _) (.inl rfl)).mono ?_
  rintro e w' ⟨rfl, rfl⟩
  go_wp2_with ((refine wpList_make_full w10 rfl _ _ 27 rfl 0 5 i0 (.int .u8 0) 1 Try.underlying27 hi hz0 hz1 .i64 .i64 (65 : Int) (65 : Int) 65 rfl rfl rfl rfl (by rw [hz2]; omega) (by unfold maxLen; omega) (Nat.zero_le _) ?_))
  intro w11 ho hg
  have hu11 : Upd (fun _ => False) w10 w11 := Upd.grown hg (fun k hk => by cases hk)
  have HV11 : Hid (Vw w11 (.slice (some ⟨w10.heap.size, 0, none⟩) 65 65) (zeros 65)) := Lib.hid (vw_of_row (by
    have h := ho
    rw [made_zeros] at h
    exact h) (zeros_byte _))
  have H11 := Lib.hid (H10.out.quiet hu11).own
  have HX11 := Lib.hid (hpBlk hu11 HX10.out (fun h => h))
  clear ho hg hu11
  go_wp2_with fail
  refine (show Calls Try.prog 13 #[.pointer (some ⟨b, 0, none⟩), .int .i64 2, .slice (some ⟨w10.heap.size, 0, none⟩) 65 65] w11 fun e w' => e = .returned (.bool false) ∧ w11 = w' from pSet_no H11.out.hp 2 _ (zeros 65) HV11.out (.inr (by decide))).mono ?_
  rintro e w' ⟨rfl, rfl⟩
  go_wp2_with fail
  refine (show Calls Try.prog 14 #[.pointer (some ⟨b, 0, none⟩), .int .i64 2, .int .i64 1] w11 fun e w' => e = .returned (.int .i64 1) ∧ OwnTo (fun k => k = X) w w11 w' b K6 from oClear H11.out (by decide) 2 1).mono ?_
  rintro e w12 ⟨rfl, ho⟩
  have H12 := Lib.hid ho.own
  have HX12 := Lib.hid (hpBlk ho.step HX11.out (fun h => h.2 rfl))
  clear ho
  go_wp2_with fail
  refine (show Calls Try.prog 12 #[.pointer (some ⟨b, 0, none⟩), .int .i64 3, .int .i64 2] w12 fun e w' => e = .returned (.tuple #[.int .u8 0, .bool true]) ∧ w12 = w' from pGet (i := 2) (j := 2) H12.out.hp (by decide) (by decide) (by decide)).mono ?_
  rintro e w' ⟨rfl, rfl⟩
  go_wp2_with fail
  refine (show Calls Try.prog 12 #[.pointer (some ⟨b, 0, none⟩), .int .i64 4, .int .i64 0] w12 fun e w' => e = .returned (.tuple #[.int .u8 8, .bool true]) ∧ w12 = w' from pGet (i := 3) (j := 0) H12.out.hp (by decide) (by decide) (by decide)).mono ?_
  rintro e w' ⟨rfl, rfl⟩
  go_wp2_with fail
  refine (show Calls Try.prog 14 #[.pointer (some ⟨b, 0, none⟩), .int .i64 1, .int .i64 0] w12 fun e w' => e = .returned (.int .i64 2) ∧ OwnTo (fun k => k = X) w w12 w' b K7 from oClear H12.out (by decide) 1 0).mono ?_
  rintro e w13 ⟨rfl, ho⟩
  have H13 := Lib.hid ho.own
  have HX13 := Lib.hid (hpBlk ho.step HX12.out (fun h => h.2 rfl))
  clear ho
  obtain ⟨e0, e1, -, -, -, -⟩ := five HX13.out
  go_wp2_with fail
  refine (show Calls Try.prog 14 #[.pointer (some ⟨b, 0, none⟩), .int .i64 0, .int .i64 1] w13 fun e w' => e = .returned (.int .i64 0) ∧ OwnTo (fun k => k = X) w w13 w' b (K7.clr 0 1) from oClear H13.out (by decide) 0 1).mono ?_
  rintro e w14 ⟨rfl, ho⟩
  have H14 := Lib.hid ho.own
  have HX14 := Lib.hid (hpBlk ho.step HX13.out (fun h => h.2 rfl))
  clear ho
  go_wp2_with fail
  refine (show Calls Try.prog 15 #[.pointer (some ⟨b, 0, none⟩)] w14 fun e w' => e = .returned (.int .i64 21) ∧ OwnTo (fun k => k = X) w w14 w' b (K7.clr 0 1) from oUsed H14.out (by decide)).mono ?_
  rintro e w15 ⟨rfl, ho⟩
  have H15 := Lib.hid ho.own
  clear ho
  go_wp2_with fail
  go_ret
  exact ⟨rfl, H15.out.up⟩
theorem heapKnown_below (w : World) : Calls Try.prog 3 #[] w fun e w' => e = .returned (.bool true) ∧ Below w.heap.size w w' := (heapKnown_walk w).mono fun _ _ h => ⟨h.1, h.2.below (Nat.le_refl _) (fun _ h => h.elim)⟩
end Go.Proofs.Ytcbknlibmhaciaa

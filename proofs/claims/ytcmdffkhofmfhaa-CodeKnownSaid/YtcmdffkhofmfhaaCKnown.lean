/- CodeKnown: chapter 3's example, and all names: the walk. -/
import Derived.Test.YtcmdffkhofmfhaaCk
import Derived.Outline
namespace Go.Proofs.Ytcmdffkhofmfhaa
open Go.RowKit
set_option linter.unusedVariables false

/-- each word is found again -/
theorem opB_all : (List.range 39).all (fun k => decide (((wordsP.find? fun p => p.2.data.toList == (wordB k).data.toList).map (·.1)).getD 0 = (k : Int) + 1)) = true := by decide +kernel
theorem opB_word {k : Nat} (hk : k < 39) : opB (wordB k) = (k : Int) + 1 := by
  have h := List.all_eq_true.1 opB_all k (List.mem_range.2 hk)
  simp only [decide_eq_true_eq] at h
  unfold opB
  simp only [ByteArray.toList_eq]
  exact h
theorem e1 : errI false [] = 7 := by decide
theorem e2 : errI false [99] = 8 := by decide
theorem e3 : errI false [2, 99] = 9 := by decide
theorem e4 : errI false [27, 3] = 7 := by decide
theorem r0 : rightB 0 0 0 = false := by decide

set_option maxRecDepth 100000 in
set_option maxHeartbeats 4000000 in
theorem codeKnown_walk (w : World) : Calls Try.prog 3 #[] w fun e w' => e = .returned (.bool true) ∧ Below w.heap.size w w' := by
  have HU0 := Lib.hid (Upd.refl (fun _ => False) w)
  go_enter Try.func3, Try.ntmps3
  go_wp2_with fail
  go_loopw [1] (fun i wr => ∃ k : Nat, k ≤ 46 ∧ i = .int .i64 ((k : Int) - 1) ∧ Hid (Upd (fun _ => False) w wr)) (fun i _ => 46 - (intOf i + 1).toNat)
  case atStart => exact ⟨0, by omega, rfl, HU0⟩
  case round =>
    obtain ⟨k, hk, rfl, HU⟩ := hrel
    by_cases hlt : k < 46
    · by_cases hin : 2 ≤ k ∧ k < 41
      · obtain ⟨j, rfl⟩ : ∃ j, k = j + 2 := ⟨k - 2, by omega⟩
        have hj : j < 39 := by omega
        have HN := Lib.hid (show nameB (((j + 2 : Nat) : Int) - 1) = wordB j by rw [show ((j + 2 : Nat) : Int) - 1 = (j : Int) + 1 by omega]; exact (nth_at hj).2)
        have HO := Lib.hid (show opB (wordB j) = ((j + 2 : Nat) : Int) - 1 by rw [opB_word hj]; omega)
        have hne := word_ne hj
        have hi1 : ((j + 2 : Nat) : Int) - 1 < 45 := by omega
        have hi2 : -1 ≤ ((j + 2 : Nat) : Int) - 1 := by omega
        generalize hi : ((j + 2 : Nat) : Int) - 1 = i at *
        have HI := Lib.hid hi
        clear hi
        go_wp2_with fail
        refine (cName _ _).mono ?_
        rw [HN.out]
        rintro e w2 ⟨rfl, hu⟩
        have HU2 := Lib.hid (HU.out.trans hu (fun _ h _ => h))
        clear hu
        go_wp2_with fail
        refine (rName _ _).mono ?_
        rw [HN.out]
        rintro e w3 ⟨rfl, hu⟩
        have HU3 := Lib.hid (HU2.out.trans hu (fun _ h _ => h))
        clear hu
        go_wp2_with fail
        refine (cOperands _ _).mono ?_
        rintro e w4 ⟨rfl, rfl⟩
        go_wp2_with fail
        refine (rOperands _ _).mono ?_
        rintro e w4 ⟨rfl, rfl⟩
        go_wp2_with fail
        refine (cOp _ _).mono ?_
        rw [HO.out]
        rintro e w4 ⟨rfl, hu⟩
        have HU4 := Lib.hid (HU3.out.trans hu (fun _ h _ => h))
        clear hu
        go_wp2_with fail
        go_roundw
        case rel => exact ⟨j + 3, by omega, by rw [← HI.out]; go_num, HU4⟩
        case measure => simp [intOf]; have := HI.out; omega
      · have HN := Lib.hid (show nameB ((k : Int) - 1) = { data := #[] } from nameB_out (by omega))
        have hi1 : (k : Int) - 1 < 45 := by omega
        have hi2 : -1 ≤ (k : Int) - 1 := by omega
        generalize hi : (k : Int) - 1 = i at *
        have HI := Lib.hid hi
        clear hi hin
        go_wp2_with fail
        refine (cName _ _).mono ?_
        rw [HN.out]
        rintro e w2 ⟨rfl, hu⟩
        have HU2 := Lib.hid (HU.out.trans hu (fun _ h _ => h))
        clear hu
        go_wp2_with fail
        refine (rName _ _).mono ?_
        rw [HN.out]
        rintro e w3 ⟨rfl, hu⟩
        have HU3 := Lib.hid (HU2.out.trans hu (fun _ h _ => h))
        clear hu
        go_wp2_with fail
        refine (cOperands _ _).mono ?_
        rintro e w4 ⟨rfl, rfl⟩
        go_wp2_with fail
        refine (rOperands _ _).mono ?_
        rintro e w4 ⟨rfl, rfl⟩
        go_wp2_with fail
        go_roundw
        case rel => exact ⟨k + 1, by omega, by rw [show ((k + 1 : Nat) : Int) - 1 = i + 1 by have := HI.out; omega], HU3⟩
        case measure => simp [intOf]; have := HI.out; omega
    · obtain rfl : k = 46 := by omega
      clear hk hlt
      go_wp2_with fail
      refine (newWriter _).mono ?_
      rintro e w2 ⟨rfl, h1, h2⟩
      have HW2 := Lib.hid h1
      have HU2 := Lib.hid (HU.out.trans h2 (fun _ h _ => h))
      clear h1 h2
      generalize wr.heap.size = bw at *
      go_wp2_with fail
      refine (known3 _).mono ?_
      rintro e w3 ⟨rfl, h2⟩
      have HW3 := Lib.hid (HW2.out.upd h2 (fun _ _ h => h))
      have HU3 := Lib.hid (HU2.out.trans h2 (fun _ h _ => h))
      clear h2
      go_wp2_with fail
      refine (newReader _ _ [] (Vw.nil _) (by decide)).mono ?_
      rintro e w4 ⟨b4, v4, rfl, h1, h2, h3⟩
      have HR4 := Lib.hid h1
      have hu4 := h2
      have HW4 := Lib.hid (HW3.out.upd hu4 (fun _ _ h => h))
      have HU4 := Lib.hid (HU3.out.trans hu4 (fun _ h _ => h))
      clear h1 h2 h3 hu4
      go_wp2_with fail
      refine (cRead_no _ _ _ false [] HR4.out _ e1 (by decide)).mono ?_
      rintro e w5' ⟨rfl, h2⟩
      have hu := h2.trans (Upd.alloc (fun _ => False) w5' (.cells #[.int .i64 0, .int .i64 0, .int .i64 0] 29)) (fun _ h _ => h)
      have HW5' := Lib.hid (HW4.out.upd hu (fun _ _ h => h))
      have HU5' := Lib.hid (HU4.out.trans hu (fun _ h _ => h))
      clear h2 hu
      go_wp2_with fail
      have V := vw_lit (w5'.alloc (.cells #[.int .i64 0, .int .i64 0, .int .i64 0] 29)) 5 (0, 0) [99] _ 1 1 rfl rfl (by omega) (by unfold maxLen; omega) (by decide)
      rw [show (w5'.alloc (.cells #[.int .i64 0, .int .i64 0, .int .i64 0] 29)).heap.size = w5'.heap.size + 1 by simp] at V
      refine (newReader _ _ [99] V (by decide)).mono ?_
      rintro e w6 ⟨b6, v6, rfl, h1, h2, h3⟩
      have HR6 := Lib.hid h1
      have hu6 := (Upd.alloc (fun _ => False) (w5'.alloc (.cells #[.int .i64 0, .int .i64 0, .int .i64 0] 29)) (.cells #[.int .u8 99] 5)).trans h2 (fun _ h _ => h)
      have HW6 := Lib.hid (HW5'.out.upd hu6 (fun _ _ h => h))
      have HU6 := Lib.hid (HU5'.out.trans hu6 (fun _ h _ => h))
      clear h1 h2 h3 hu6
      go_wp2_with fail
      refine (cRead_no _ _ _ false [99] HR6.out _ e2 (by decide)).mono ?_
      rintro e w7' ⟨rfl, h2⟩
      have hu := h2.trans (Upd.alloc (fun _ => False) w7' (.cells #[.int .i64 0, .int .i64 0, .int .i64 0] 29)) (fun _ h _ => h)
      have HW7' := Lib.hid (HW6.out.upd hu (fun _ _ h => h))
      have HU7' := Lib.hid (HU6.out.trans hu (fun _ h _ => h))
      clear h2 hu
      go_wp2_with fail
      have V := vw_lit (w7'.alloc (.cells #[.int .i64 0, .int .i64 0, .int .i64 0] 29)) 5 (0, 0) [2, 99] _ 2 2 rfl rfl (by omega) (by unfold maxLen; omega) (by decide)
      rw [show (w7'.alloc (.cells #[.int .i64 0, .int .i64 0, .int .i64 0] 29)).heap.size = w7'.heap.size + 1 by simp] at V
      refine (newReader _ _ [2, 99] V (by decide)).mono ?_
      rintro e w8 ⟨b8, v8, rfl, h1, h2, h3⟩
      have HR8 := Lib.hid h1
      have hu8 := (Upd.alloc (fun _ => False) (w7'.alloc (.cells #[.int .i64 0, .int .i64 0, .int .i64 0] 29)) (.cells #[.int .u8 2, .int .u8 99] 5)).trans h2 (fun _ h _ => h)
      have HW8 := Lib.hid (HW7'.out.upd hu8 (fun _ _ h => h))
      have HU8 := Lib.hid (HU7'.out.trans hu8 (fun _ h _ => h))
      clear h1 h2 h3 hu8
      go_wp2_with fail
      refine (cRead_no _ _ _ false [2, 99] HR8.out _ e3 (by decide)).mono ?_
      rintro e w9' ⟨rfl, h2⟩
      have hu := h2.trans (Upd.alloc (fun _ => False) w9' (.cells #[.int .i64 0, .int .i64 0, .int .i64 0] 29)) (fun _ h _ => h)
      have HW9' := Lib.hid (HW8.out.upd hu (fun _ _ h => h))
      have HU9' := Lib.hid (HU8.out.trans hu (fun _ h _ => h))
      clear h2 hu
      go_wp2_with fail
      have V := vw_lit (w9'.alloc (.cells #[.int .i64 0, .int .i64 0, .int .i64 0] 29)) 5 (0, 0) [27, 3] _ 2 2 rfl rfl (by omega) (by unfold maxLen; omega) (by decide)
      rw [show (w9'.alloc (.cells #[.int .i64 0, .int .i64 0, .int .i64 0] 29)).heap.size = w9'.heap.size + 1 by simp] at V
      refine (newReader _ _ [27, 3] V (by decide)).mono ?_
      rintro e w10 ⟨b10, v10, rfl, h1, h2, h3⟩
      have HR10 := Lib.hid h1
      have hu10 := (Upd.alloc (fun _ => False) (w9'.alloc (.cells #[.int .i64 0, .int .i64 0, .int .i64 0] 29)) (.cells #[.int .u8 27, .int .u8 3] 5)).trans h2 (fun _ h _ => h)
      have HW10 := Lib.hid (HW9'.out.upd hu10 (fun _ _ h => h))
      have HU10 := Lib.hid (HU9'.out.trans hu10 (fun _ h _ => h))
      clear h1 h2 h3 hu10
      go_wp2_with fail
      refine (cRead_no _ _ _ false [27, 3] HR10.out _ e4 (by decide)).mono ?_
      rintro e w11' ⟨rfl, h2⟩
      have hu := h2.trans (Upd.alloc (fun _ => False) w11' (.cells #[.int .i64 0, .int .i64 0, .int .i64 0] 29)) (fun _ h _ => h)
      have HW11' := Lib.hid (HW10.out.upd hu (fun _ _ h => h))
      have HU11' := Lib.hid (HU10.out.trans hu (fun _ h _ => h))
      clear h2 hu
      go_wp2_with fail
      refine (cLay_no 0 0 0 _ _ (.inr r0)).mono ?_
      rintro e w12 ⟨rfl, h2⟩
      have HW12 := Lib.hid (HW11'.out.upd h2 (fun _ _ h => h))
      have HU12 := Lib.hid (HU11'.out.trans h2 (fun _ h _ => h))
      clear h2
      go_wp2_with fail
      refine (bytesOf _ _ _ _ HW12.out (by simp)).mono ?_
      rintro e w13 ⟨v13, rfl, hN⟩
      obtain ⟨a13, c13, rfl⟩ := ownsRow_slice hN.1
      have HU13 := Lib.hid (HU12.out.trans hN.2.1 (fun _ h _ => h))
      clear hN
      go_wp2_with fail
      refine (cLay_no 39 0 0 _ none (.inl rfl)).mono ?_
      rintro e w14 ⟨rfl, h2⟩
      have HU14 := Lib.hid (HU13.out.trans h2 (fun _ h _ => h))
      clear h2
      go_wp2_with fail
      go_ret
      exact ⟨rfl, HU14.out.below (Nat.le_refl _) (fun _ h => h.elim)⟩
end Go.Proofs.Ytcmdffkhofmfhaa

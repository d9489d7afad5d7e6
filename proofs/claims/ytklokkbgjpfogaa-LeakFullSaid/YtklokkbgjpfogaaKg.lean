/- Package leak: LeakFull. -/
import Derived.Test.YtklokkbgjpfogaaKd
import Derived.IntWalk
namespace Go.Proofs.Ytklokkbgjpfogaa
open Go.RowKit Go.Lib Go.ChangeShapes Go.WideShapes Go.Deep
set_option linter.unusedVariables false
set_option linter.unusedSimpArgs false

def upto10 (k : Nat) : List EvM := (List.range (min k 200000)).map (fun i : Nat => ev1 (i : Int))
theorem upto10_len (k : Nat) : (upto10 k).length = min k 200000 := by simp [upto10]
theorem upto10_add {k : Nat} (h : k < 200000) : upto10 (k + 1) = upto10 k ++ [ev1 (k : Int)] := by
  unfold upto10
  rw [Nat.min_eq_left (by omega), Nat.min_eq_left (by omega), List.range_succ, List.map_append]
  rfl
theorem upto10_full {k : Nat} (h : 200000 ≤ k) : upto10 (k + 1) = upto10 k := by
  unfold upto10
  rw [Nat.min_eq_right (by omega), Nat.min_eq_right (by omega)]
theorem upto10_at {k j : Nat} (h : j < min k 200000) : (upto10 k).getD j default = ev1 (j : Int) := by
  unfold upto10
  simp only [List.getD, List.getElem?_map]
  rw [List.getElem?_range h]
  rfl
set_option maxHeartbeats 4000000 in
theorem leakFull_walk (w : World) (n : Int) : Calls Try.prog 5 #[.int .i64 n] w fun e w' => e = .returned (.bool true) ∧ Upd (fun _ => False) w w' := by
  obtain ⟨N, hN⟩ : ∃ N : Nat, 199997 + n % 6 = (N : Int) := ⟨(199997 + n % 6).toNat, by omega⟩
  have hN1 : 199997 ≤ N ∧ N ≤ 200002 := by omega
  have hw : IntKind.i64.wrap (199997 + n % 6) = (N : Int) := by rw [hN]; exact IntWalk.i64_in _ (by omega)
  have HN1 := Lib.hid hN1
  clear hN hN1
  go_enter Try.func5, Try.ntmps5
  go_wp2_with fail
  refine (tNew w).mono ?_
  rintro e w1 ⟨b, rfl, ht, hu⟩
  have HT1 := Lib.hid ht
  have HU1 := Lib.hid hu
  clear ht hu
  go_wp2_with fail
  refine (known10 w1).mono ?_
  rintro e w2 ⟨rfl, hu⟩
  have HT2 : Hid (Trc (ESince w w2) w2 b (upto10 0)) := Lib.hid ((HT1.out.upd hu (fun _ _ h => h)).wide (G := ESince w w2) (fun k hk => ⟨hk.1, Nat.lt_of_lt_of_le hk.2 hu.size⟩) (fun k hk => hk.2))
  have HU2 := Lib.hid (HU1.out.trans hu (fun _ h _ => h))
  clear hu
  go_wp2_with fail
  refine (hPick n 6 w2 (by omega) (by omega)).mono ?_
  rintro e w' ⟨rfl, rfl⟩
  go_wp2_with fail
  go_loopw [4] (fun i wr => ∃ k : Nat, k ≤ N ∧ i = .int .i64 k ∧ Hid (Trc (ESince w wr) wr b (upto10 k)) ∧ Hid (Upd (fun _ => False) w wr)) (fun i _ => N - (intOf i).toNat)
  case atStart => exact ⟨0, Nat.zero_le _, rfl, HT2, HU2⟩
  case round =>
    obtain ⟨k, hk, rfl, HT, HU⟩ := hrel
    have hki : (0 : Int) ≤ (k : Int) := Int.natCast_nonneg _
    have hk9 : (k : Int) ≤ 9223372036854775806 := by have := HN1.out; omega
    by_cases hlt : k < N
    · by_cases hf : k < 200000
      · have HF := Lib.hid hf
        have hd : decide ((k : Int) < 200000) = true := by simp; omega
        have HLN : Hid ((upto10 k).length < 200000) := Lib.hid (by rw [upto10_len]; omega)
        clear hf
        go_wp2_with fail
        refine (tAdd HT.out HLN.out 1 k 0 0).mono ?_
        rintro e w3 ⟨rfl, ht, hu⟩
        have h2 := step_since HU.out (fun k hk => hk.1) ht hu
        rw [show (⟨1, (k : Int), 0, 0⟩ : EvM) = ev1 k from rfl, ← upto10_add HF.out] at h2
        have HT3 := Lib.hid h2.1
        have HU3 := Lib.hid h2.2
        clear h2 ht hu
        go_wp2_with fail
        go_roundw
        case rel => exact ⟨k + 1, by omega, by go_num, HT3, HU3⟩
        case measure => simp [intOf]; omega
      · have HF := Lib.hid hf
        have hd : decide ((k : Int) < 200000) = false := by simp; omega
        have HLN : Hid (200000 ≤ (upto10 k).length) := Lib.hid (by rw [upto10_len]; omega)
        clear hf
        go_wp2_with fail
        refine (tAdd_full HT.out HLN.out 1 k 0 0).mono ?_
        rintro e w3 ⟨rfl, rfl⟩
        have HT3 : Hid (Trc (ESince w wr) wr b (upto10 (k + 1))) := Lib.hid (by rw [upto10_full (by have := HF.out; omega)]; exact HT.out)
        go_wp2_with fail
        go_roundw
        case rel => exact ⟨k + 1, by omega, by go_num, HT3, HU⟩
        case measure => simp [intOf]; omega
    · obtain rfl : k = N := by omega
      obtain ⟨m, hm⟩ : ∃ m : Nat, m + 1 = min k 200000 := ⟨min k 200000 - 1, by have := HN1.out; omega⟩
      have hlen : (upto10 k).length = m + 1 := by rw [upto10_len, hm]
      have hat : (upto10 k).getD m default = ev1 (m : Int) := upto10_at (by omega)
      have HAT := Lib.hid (tAt HT.out m (by rw [hlen]; omega) (by rw [hlen]; omega))
      rw [hat] at HAT
      have HLE : Hid (∀ w', Upd (fun _ => False) wr w' → Calls Try.prog 9 #[.pointer (some ⟨b, 0, none⟩)] w' fun e w'' => e = .returned (.int .i64 ((m : Int) + 1)) ∧ w' = w'') := Lib.hid (fun w' hu => by
        have := tLen (HT.out.upd hu (fun _ _ h => h))
        rw [hlen] at this
        exact this)
      clear hlen hat
      unfold evV ev1 at HAT
      by_cases hf : k ≤ 200000
      · have hm2 : (k : Int) = (m : Int) + 1 := by omega
        have hd2 : ¬ ((200000 : Int) < (k : Int)) := by omega
        have hw1 : IntKind.i64.wrap ((k : Int) - 1) = (m : Int) := by rw [show (k : Int) - 1 = (m : Int) by omega]; exact IntWalk.i64_in _ (by omega)
        have HM2 := Lib.hid hm2
        have he1 : ((m : Int) + 1 == (k : Int)) = true := by simp; omega
        clear hf hm hm2
        go_wp2_with fail
        refine HAT.out.mono ?_
        rintro e w3 ⟨rfl, hu⟩
        obtain ⟨w4, hw4⟩ : ∃ w4, w4 = w3.alloc (.cells #[.int .i64 1, .int .i64 (m : Int), .int .i64 0, .int .i64 0] 26) := ⟨_, rfl⟩
        have hu4 : Upd (fun _ => False) wr w4 := hu.trans (by rw [hw4]; exact Upd.alloc (fun _ => False) _ _) (fun _ h _ => h)
        have hx4 : w4.heap[w3.heap.size]? = some (.cells #[.int .i64 1, .int .i64 (m : Int), .int .i64 0, .int .i64 0] 26 (0, 0)) := by rw [hw4]; exact eTop _ _ _ rfl
        have HL4 := Lib.hid (HLE.out w4 hu4)
        have HU4 := Lib.hid (HU.out.trans hu4 (fun _ h _ => h))
        have HW4 := Lib.hid hw4
        obtain ⟨-, c1, -, -, -⟩ := four hx4
        clear hu hu4 hw4 hx4
        go_wp2_with fail
        rw [← HW4.out]
        refine HL4.out.mono ?_
        rintro e w5 ⟨rfl, rfl⟩
        go_wp2_with fail
        go_ret
        exact ⟨rfl, HU4.out⟩
      · have hm2 : (m : Int) = 199999 := by omega
        have hd2 : ((200000 : Int) < (k : Int)) := by omega
        rw [hm2] at HAT HLE
        clear hf hm hm2
        go_wp2_with fail
        refine HAT.out.mono ?_
        rintro e w3 ⟨rfl, hu⟩
        obtain ⟨w4, hw4⟩ : ∃ w4, w4 = w3.alloc (.cells #[.int .i64 1, .int .i64 199999, .int .i64 0, .int .i64 0] 26) := ⟨_, rfl⟩
        have hu4 : Upd (fun _ => False) wr w4 := hu.trans (by rw [hw4]; exact Upd.alloc (fun _ => False) _ _) (fun _ h _ => h)
        have hx4 : w4.heap[w3.heap.size]? = some (.cells #[.int .i64 1, .int .i64 199999, .int .i64 0, .int .i64 0] 26 (0, 0)) := by rw [hw4]; exact eTop _ _ _ rfl
        have HL4 := Lib.hid (HLE.out w4 hu4)
        have HU4 := Lib.hid (HU.out.trans hu4 (fun _ h _ => h))
        have HW4 := Lib.hid hw4
        obtain ⟨-, c1, -, -, -⟩ := four hx4
        clear hu hu4 hw4 hx4
        go_wp2_with fail
        rw [← HW4.out]
        refine HL4.out.mono ?_
        rintro e w5 ⟨rfl, rfl⟩
        go_wp2_with fail
        go_ret
        exact ⟨rfl, HU4.out⟩
theorem leakFull_below (w : World) (n : Int) : Calls Try.prog 5 #[.int .i64 n] w fun e w' => e = .returned (.bool true) ∧ Below w.heap.size w w' := (leakFull_walk w n).mono fun _ _ h => ⟨h.1, h.2.below (Nat.le_refl _) (fun _ h => h.elim)⟩
end Go.Proofs.Ytklokkbgjpfogaa

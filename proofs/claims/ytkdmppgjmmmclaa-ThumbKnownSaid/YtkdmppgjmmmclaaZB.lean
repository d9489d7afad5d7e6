/- The walk of ThumbKnown. -/
import Derived.Test.YtkdmppgjmmmclaaZz
namespace Go.Proofs.Ytkdmppgjmmmclaa
open Go.RowKit
set_option linter.unusedVariables false
set_option linter.unusedSimpArgs false

theorem dec_k1 : decA [] = (⟨0, 0, 0, 0, 0, 0⟩, 0, 7) := rfl
theorem dec_k2 : decA [61440] = (⟨0, 0, 0, 0, 0, 0⟩, 0, 7) := by decide +kernel
theorem dec_k3 : decA [56832] = (⟨0, 0, 0, 0, 0, 0⟩, 0, 8) := by decide +kernel
theorem dec_k4 : decA [63487, 65534] = (⟨43, 0, 0, 0, -4, 0⟩, 2, 0) := by decide +kernel
theorem right_k5 : rightP ⟨8, 8, 0, 0, 0, 0⟩ = false := by decide +kernel
theorem word_4 : wordP ⟨2, 1, 0, 2, 32, 0⟩ = 2065 := by decide +kernel
theorem word_5 : wordP ⟨39, 0, 0, 0, 496, 0⟩ = 46576 := by decide +kernel
theorem word_6 : wordP ⟨28, 8, 0, 14, 0, 0⟩ = 18160 := by decide +kernel
theorem word_7 : wordP ⟨25, 1, 0, 2, 0, 0⟩ = 17233 := by decide +kernel
theorem dec_w1 (u : World) : Calls Try.prog 9 #[.slice none 0 0] u fun e w' => e = .returned (.tuple #[.agg #[.int .i64 0, .int .i64 0, .int .i64 0, .int .i64 0, .int .i64 0, .int .i64 0], .int .i64 0, .int .i64 7]) ∧ New u w' := by
  have h := tDecode (.slice none 0 0) [] u (VwH.nil _ none)
  rw [dec_k1] at h
  exact h
theorem dec_w2 (u : World) (n : Nat) (hn : u.heap.size = n) : Calls Try.prog 9 #[.slice (some ⟨n, 0, none⟩) 1 1] (u.alloc (.cells #[.int .u16 61440] 27)) fun e w' => e = .returned (.tuple #[.agg #[.int .i64 0, .int .i64 0, .int .i64 0, .int .i64 0, .int .i64 0, .int .i64 0], .int .i64 0, .int .i64 7]) ∧ New (u.alloc (.cells #[.int .u16 61440] 27)) w' := by
  subst hn
  have h := tDecode _ [61440] _ (VwH.one u 27 61440 (by decide))
  rw [show ((61440 : Nat) : Int) = 61440 from rfl, dec_k2] at h
  exact h
theorem dec_w3 (u : World) (n : Nat) (hn : u.heap.size = n) : Calls Try.prog 9 #[.slice (some ⟨n, 0, none⟩) 1 1] (u.alloc (.cells #[.int .u16 56832] 27)) fun e w' => e = .returned (.tuple #[.agg #[.int .i64 0, .int .i64 0, .int .i64 0, .int .i64 0, .int .i64 0, .int .i64 0], .int .i64 0, .int .i64 8]) ∧ New (u.alloc (.cells #[.int .u16 56832] 27)) w' := by
  subst hn
  have h := tDecode _ [56832] _ (VwH.one u 27 56832 (by decide))
  rw [show ((56832 : Nat) : Int) = 56832 from rfl, dec_k3] at h
  exact h
theorem dec_w4 (u : World) (n : Nat) (hn : u.heap.size = n) : Calls Try.prog 9 #[.slice (some ⟨n, 0, none⟩) 2 2] (u.alloc (.cells #[.int .u16 63487, .int .u16 65534] 27)) fun e w' => e = .returned (.tuple #[.agg #[.int .i64 43, .int .i64 0, .int .i64 0, .int .i64 0, .int .i64 (-4), .int .i64 0], .int .i64 2, .int .i64 0]) ∧ New (u.alloc (.cells #[.int .u16 63487, .int .u16 65534] 27)) w' := by
  subst hn
  have h := tDecode _ [63487, 65534] _ (VwH.two u 27 63487 65534 (by decide) (by decide))
  rw [show ((63487 : Nat) : Int) = 63487 from rfl, show ((65534 : Nat) : Int) = 65534 from rfl, dec_k4] at h
  exact h
set_option maxHeartbeats 4000000 in
theorem thumbKnown_walk (w : World) : Calls Try.prog 3 #[] w fun e w' => e = .returned (.bool true) ∧ New w w' := by
  have hq : ∀ u, (binOp .eql 23 (.agg #[.int .i64 43, .int .i64 0, .int .i64 0, .int .i64 0, .int .i64 (-4), .int .i64 0]) (.agg #[.int .i64 43, .int .i64 0, .int .i64 0, .int .i64 0, .int .i64 (-4), .int .i64 0])).run Try.prog u = .ok (.bool true) u := fun u => by rw [insEql]; rfl
  have HS := Lib.hid (fun u => tSize ⟨43, 0, 0, 0, -4, 0⟩ u)
  have HT := Lib.hid (fun u => tSize ⟨45, 0, 0, 0, 0, 0⟩ u)
  go_enter Try.func3, Try.ntmps3
  go_wp2_with fail
  refine (dec_w1 _).mono ?_
  rintro e w1 ⟨rfl, h1⟩
  go_wp2_with fail
  refine (dec_w2 _ _ (by simp)).mono ?_
  rintro e w2 ⟨rfl, h2⟩
  go_wp2_with fail
  refine (dec_w3 _ _ (by simp)).mono ?_
  rintro e w3 ⟨rfl, h3⟩
  go_wp2_with fail
  refine (dec_w4 _ _ (by simp)).mono ?_
  rintro e w4 ⟨rfl, h4⟩
  have HW := Lib.hid (New.trans (New.trans (New.trans h1 (New.trans (New.alloc _ _) (New.alloc _ _))) (New.trans h2 (New.trans (New.alloc _ _) (New.alloc _ _)))) (New.trans h3 (New.trans (New.trans (New.alloc _ _) (New.alloc _ _)) h4)))
  clear h1 h2 h3 h4
  go_wp2_with fail
  refine (tEncode ⟨8, 8, 0, 0, 0, 0⟩ (okZ _ _ _ _ _ _ (by decide)) _).mono ?_
  rintro e w5 ⟨(⟨_, rfl⟩ | ⟨hr, _⟩), h5⟩
  · have c0 := I6.kept (i := ⟨43, 0, 0, 0, -4, 0⟩) h5
    obtain ⟨k0, k1, k2, k3, k4, k5, k6⟩ := c0
    simp only at k1 k2 k3 k4 k5 k6
    have HW5 := Lib.hid (New.trans HW.out (New.trans (New.alloc _ _) h5))
    clear h5 HW
    go_wp2_with fail
    refine (known14 _).mono ?_
    rintro e w6 ⟨rfl, h6⟩
    replace k1 := h6.keep k1
    replace k2 := h6.keep k2
    replace k3 := h6.keep k3
    replace k4 := h6.keep k4
    replace k5 := h6.keep k5
    replace k6 := h6.keep k6
    have HW6 := Lib.hid (New.trans HW5.out h6)
    clear h6 HW5
    go_wp2_with (first
      | (with_reducible refine (HS.out _).mono ?_; rintro e w7 ⟨rfl, h7⟩; simp only [beq_self_eq_true, if_true])
      | (with_reducible refine (HT.out _).mono ?_; rintro e w8 ⟨rfl, h8⟩; rw [show ((45 : Int) == 43) = false from rfl]; simp only [Bool.false_eq_true, if_false])
      | (with_reducible refine (lWordL 2 1 0 2 32 0 _ (okZ _ _ _ _ _ _ (by decide)) word_4 _).mono ?_; rintro e w9 ⟨rfl, h9⟩)
      | (with_reducible refine (lWordL 39 0 0 0 496 0 _ (okZ _ _ _ _ _ _ (by decide)) word_5 _).mono ?_; rintro e w10 ⟨rfl, h10⟩)
      | (with_reducible refine (lWordL 28 8 0 14 0 0 _ (okZ _ _ _ _ _ _ (by decide)) word_6 _).mono ?_; rintro e w11 ⟨rfl, h11⟩)
      | (with_reducible refine (lWordL 25 1 0 2 0 0 _ (okZ _ _ _ _ _ _ (by decide)) word_7 _).mono ?_; rintro e w12 ⟨rfl, h12⟩))
    go_ret
    exact ⟨rfl, New.trans (New.trans (New.trans (New.trans (New.trans (New.trans HW6.out h7) h8) h9) h10) h11) h12⟩
  · rw [right_k5] at hr; cases hr
theorem thumbKnown_below (w : World) : Calls Try.prog 3 #[] w fun e w' => e = .returned (.bool true) ∧ Below w.heap.size w w' := (thumbKnown_walk w).mono fun _ _ h => ⟨h.1, h.2.below (Nat.le_refl _) (fun _ h => h.elim)⟩
end Go.Proofs.Ytkdmppgjmmmclaa

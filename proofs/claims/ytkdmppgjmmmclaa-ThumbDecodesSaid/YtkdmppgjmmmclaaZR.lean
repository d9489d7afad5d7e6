/- The reference's Decode of package thumb's halfwords: what it is built of. -/
import Derived.Test.YtkdmppgjmmmclaaZQ
namespace Go.Proofs.Ytkdmppgjmmmclaa
open Go.RowKit
set_option linter.unusedVariables false
set_option linter.unusedSimpArgs false

theorem qRightL (j : I6) (a b c d e' f : Int) (hj : j = ⟨a, b, c, d, e', f⟩) (w : World) : Calls Try.prog 15 #[.agg #[.int .i64 a, .int .i64 b, .int .i64 c, .int .i64 d, .int .i64 e', .int .i64 f]] w fun e w' => e = .returned (.bool (refR j)) ∧ New w w' ∧ j = ⟨a, b, c, d, e', f⟩ := by
  subst hj
  simp only [and_true]
  have H := qRight ⟨a, b, c, d, e', f⟩ w
  refine H.mono ?_
  exact fun _ _ h => h
theorem two_kept {w w1 : World} {J : I6} (h : New ((w.alloc (.cells I6.zero.cells 23)).alloc (.cells J.cells 23)) w1) :
    New w w1 ∧ w.heap.size + 1 < w1.heap.size ∧ w1.heap[w.heap.size]? = some (.cells I6.zero.cells 23 (0, 0)) ∧ w1.heap[w.heap.size + 1]? = some (.cells J.cells 23 (0, 0)) := by
  have hs := h.size
  simp at hs
  refine ⟨New.trans (New.trans (New.alloc _ _) (New.alloc _ _)) h, by omega, ?_, ?_⟩
  · rw [h.block _ (by simp; omega) (fun h => h), (New.alloc (w.alloc (.cells I6.zero.cells 23)) _).block _ (by simp) (fun h => h)]
    exact heap_alloc_last w _
  · rw [h.block _ (by simp) (fun h => h)]
    have := heap_alloc_last (w.alloc (.cells I6.zero.cells 23)) (.cells J.cells 23)
    rw [show (w.alloc (.cells I6.zero.cells 23)).heap.size = w.heap.size + 1 by simp] at this
    exact this
theorem nblt_f {x a : Nat} (h : ¬ x < a) : Nat.blt x a = false := by
  cases e : Nat.blt x a
  · rfl
  · exact absurd (by simpa using e) h
theorem nblt_t {x a : Nat} (h : x < a) : Nat.blt x a = true := by simpa using h
theorem nbeq_f {x a : Nat} (h : ¬ x = a) : Nat.beq x a = false := by
  cases e : Nat.beq x a
  · rfl
  · exact absurd (Nat.eq_of_beq_eq_true e) h
theorem nbeq_t {x a : Nat} (h : x = a) : Nat.beq x a = true := by subst h; exact Nat.beq_refl x
theorem nadd (a b : Nat) : Nat.add a b = a + b := rfl
theorem nmul (a b : Nat) : Nat.mul a b = a * b := rfl
theorem iofn (a : Nat) : Int.ofNat a = (a : Int) := rfl
theorem imul (a b : Int) : Int.mul a b = a * b := rfl
/-- what the reference's Decode answers of one halfword -/
def refV (x : Nat) : Value := match refR (refI x) with
  | true => .tuple #[(refI x).val, .int .i64 1]
  | false => .tuple #[I6.zero.val, .int .i64 (-1)]
theorem ands (k : Nat) (hk : k ≤ 62) (m : Int) (hm : m = 2 ^ k - 1) (p : Int) (hp : p = 2 ^ k) : ∀ n : Int, bits .and .i64 n m = n % p := fun n => by
  rw [hm, hp]; exact i64_and_low n k hk
theorem signN_eq (n b : Nat) (h : n < 2 ^ b) : signN n b = if 2 ^ (b - 1) ≤ n then (n : Int) - 2 ^ b else n := by
  unfold signN
  have e : (Int.ofNat (Nat.pow 2 b)) = (2 : Int) ^ b := by
    show ((2 ^ b : Nat) : Int) = _
    exact Int.natCast_pow 2 b
  by_cases h1 : 2 ^ (b - 1) ≤ n
  · rw [if_pos (show Nat.pow 2 (Nat.sub b 1) ≤ n from h1), if_pos h1]
    show (n : Int) - Int.ofNat (Nat.pow 2 b) = _
    rw [e]
  · rw [if_neg (show ¬ Nat.pow 2 (Nat.sub b 1) ≤ n from h1), if_neg h1]; rfl
theorem qSign (n b : Nat) (hb : b = 8 ∨ b = 11 ∨ b = 25) (hn : n < 2 ^ b) (w : World) : Calls Try.prog 35 #[.int .i64 (n : Int), .int .i64 (b : Int)] w fun e w' => e = .returned (.int .i64 (signN n b)) ∧ w = w' := by
  have HS := Lib.hid (signN_eq n b hn)
  rcases hb with rfl | rfl | rfl
  · by_cases h : 128 ≤ n
    · have h1 : decide ((128 : Int) ≤ (n : Int)) = true := by simp; omega
      go_enter Try.func35, Try.ntmps35
      go_wp2
      go_ret
      exact ⟨by rw [HS.out, if_pos (by omega)]; rfl, rfl⟩
    · have h1 : decide ((128 : Int) ≤ (n : Int)) = false := by simp; omega
      go_enter Try.func35, Try.ntmps35
      go_wp2
      go_ret
      exact ⟨by rw [HS.out, if_neg (by omega)]; rfl, rfl⟩
  · by_cases h : 1024 ≤ n
    · have h1 : decide ((1024 : Int) ≤ (n : Int)) = true := by simp; omega
      go_enter Try.func35, Try.ntmps35
      go_wp2
      go_ret
      exact ⟨by rw [HS.out, if_pos (by omega)]; rfl, rfl⟩
    · have h1 : decide ((1024 : Int) ≤ (n : Int)) = false := by simp; omega
      go_enter Try.func35, Try.ntmps35
      go_wp2
      go_ret
      exact ⟨by rw [HS.out, if_neg (by omega)]; rfl, rfl⟩
  · by_cases h : 16777216 ≤ n
    · have h1 : decide ((16777216 : Int) ≤ (n : Int)) = true := by simp; omega
      go_enter Try.func35, Try.ntmps35
      go_wp2
      go_ret
      exact ⟨by rw [HS.out, if_pos (by omega)]; rfl, rfl⟩
    · have h1 : decide ((16777216 : Int) ≤ (n : Int)) = false := by simp; omega
      go_enter Try.func35, Try.ntmps35
      go_wp2
      go_ret
      exact ⟨by rw [HS.out, if_neg (by omega)]; rfl, rfl⟩
theorem qSignI (m : Int) (n b : Nat) (B : Int) (hm : m = (n : Int)) (hB : B = (b : Int)) (hb : b = 8 ∨ b = 11 ∨ b = 25) (hn : n < 2 ^ b) (w : World) : Calls Try.prog 35 #[.int .i64 m, .int .i64 B] w fun e w' => e = .returned (.int .i64 (signN n b)) ∧ w = w' := by
  subst hm hB
  exact qSign n b hb hn w
theorem sign_range (n b : Nat) (h : n < 2 ^ b) : -(2 ^ b) ≤ signN n b ∧ signN n b ≤ 2 ^ b := by
  rw [signN_eq n b h]
  have : ((2 ^ b : Nat) : Int) = (2 : Int) ^ b := Int.natCast_pow 2 b
  split <;> omega
end Go.Proofs.Ytkdmppgjmmmclaa

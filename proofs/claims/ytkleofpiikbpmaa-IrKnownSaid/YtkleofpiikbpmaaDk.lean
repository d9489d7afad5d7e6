/- Package ir: its calls as they are told; stage 17's known. -/
import Derived.Test.YtkleofpiikbpmaaDj
namespace Go.Proofs.Ytkleofpiikbpmaa
open Go.RowKit Go.ChangeShapes Go.WideShapes Go.Deep
set_option linter.unusedVariables false
set_option linter.unusedSimpArgs false
theorem Ints.atD {w : World} {a : Option Addr} {l c k : Nat} {L : List Int} (h : Ints w (.slice a l c) L) (hk : k < L.length) : ∃ g off, a = some ⟨g, off, none⟩ ∧ w.cell? ⟨g, off + k, none⟩ = some (.int .i64 (L.getD k 0)) := by
  obtain ⟨g, off, e, hc⟩ := h.1.at hk
  have := hc 0 (by omega)
  rw [Nat.mul_one, Nat.add_zero] at this
  exact ⟨g, off, e, this⟩
theorem lbDrewND (S : Nat → Prop) (w : World) (n : Nat) : Upd S w (w.drewN n) := ⟨rfl, rfl, rfl, Nat.le_refl _, fun _ _ _ => rfl⟩
theorem lbBelowD {w w' : World} (h : Upd (fun _ => False) w w') : Below w.heap.size w w' := h.below (Nat.le_refl _) (fun _ h => h.elim)
theorem lbRetD {x y : Bool} (h : x = y) : Ending.returned (.bool x) = Ending.returned (.bool y) := by rw [h]
def allBD (f : Int → Int → Bool) (A B : List Int) : Bool := decide (A.length = B.length ∧ ∀ j, j < A.length → f (A.getD j 0) (B.getD j 0) = true)
theorem allB_lenD {f : Int → Int → Bool} {A B : List Int} (h : A.length ≠ B.length) : allBD f A B = false := decide_eq_false (fun k => h k.1)
theorem allB_noD {f : Int → Int → Bool} {A B : List Int} {k : Nat} (hk : k < A.length) (h : f (A.getD k 0) (B.getD k 0) = false) : allBD f A B = false := decide_eq_false (fun c => by have := c.2 k hk; rw [h] at this; cases this)
theorem allB_yesD {f : Int → Int → Bool} {A B : List Int} {k : Nat} (hl : A.length = B.length) (hk : A.length ≤ k) (h : ∀ j, j < k → f (A.getD j 0) (B.getD j 0) = true) : allBD f A B = true := decide_eq_true ⟨hl, fun j hj => h j (by omega)⟩
theorem allB_iffD {f : Int → Int → Bool} {A B : List Int} : allBD f A B = true ↔ A.length = B.length ∧ ∀ j, j < A.length → f (A.getD j 0) (B.getD j 0) = true := decide_eq_true_iff
theorem upto_succD {f : Nat → Bool} {k : Nat} (h : ∀ j, j < k → f j = true) (hk : f k = true) : ∀ j, j < k + 1 → f j = true := by
  intro j hj
  rcases Nat.lt_or_ge j k with h1 | h1
  · exact h j h1
  · have : j = k := by omega
    rw [this]; exact hk
theorem bneTD {n m : Int} (h : (n == m) = true) : (n != m) = false := by simp only [bne, h]; rfl
theorem bneFD {n m : Int} (h : (n == m) = false) : (n != m) = true := by simp only [bne, h]; rfl
def eqBD (a b : Int) : Bool := a == b
theorem allB_eqD {A B : List Int} : allBD eqBD A B = true ↔ A = B := by
  rw [allB_iffD]
  constructor
  · rintro ⟨hl, h⟩
    refine List.ext_getElem hl fun i h1 h2 => ?_
    have := h i h1
    simpa [eqBD, List.getD, h1, h2] using this
  · rintro rfl
    exact ⟨rfl, fun j _ => by simp [eqBD]⟩

set_option maxRecDepth 20000 in
set_option maxHeartbeats 4000000 in
theorem lbIntsD (w : World) (v u : Value) (L M : List Int) (h : Ints w v L) (k : Ints w u M) :
    Calls Try.prog 22 #[v, u] w fun e w' => e = .returned (.bool (allBD eqBD L M)) ∧ Upd (fun _ => False) w w' := by
  have HL := Lib.hid h
  have HM := Lib.hid k
  obtain ⟨a, c, rfl, h1, h2⟩ := h.1.slice
  obtain ⟨a', c', rfl, h1', h2'⟩ := k.1.slice
  clear h k
  unfold maxLen at h2 h2'
  by_cases hl : L.length = M.length
  · have hb : ((L.length : Int) == (M.length : Int)) = true := by simp [hl]
    have hb' : ((L.length : Int) != (M.length : Int)) = false := by simp [bne, hb]
    have H0 := Lib.hid (Upd.refl (fun _ => False) w)
    have HT0 : Hid (∀ j, j < 0 → eqBD (L.getD j 0) (M.getD j 0) = true) := Lib.hid (fun j hj => absurd hj (Nat.not_lt_zero j))
    have HEQ := Lib.hid hl
    have hle : L.length ≤ M.length := by omega
    have hge : M.length ≤ L.length := by omega
    clear hl
    go_enter Try.func22, Try.ntmps22
    go_wp2_with fail
    go_loopw [5] (fun i wr => ∃ k : Nat, k ≤ L.length ∧ i = .int .i64 k ∧ Hid (Upd (fun _ => False) w wr) ∧ Hid (∀ j, j < k → eqBD (L.getD j 0) (M.getD j 0) = true)) (fun i _ => L.length - (intOf i).toNat)
    case atStart => exact ⟨0, Nat.zero_le _, rfl, H0, HT0⟩
    case round =>
      obtain ⟨k, hk, rfl, HU, HT⟩ := hrel
      by_cases hlt : k < L.length
      · have hltm : k < M.length := by omega
        obtain ⟨g1, o1, rfl, hc1⟩ := (HL.out.later (lbBelowD HU.out)).atD hlt
        obtain ⟨g2, o2, rfl, hc2⟩ := (HM.out.later (lbBelowD HU.out)).atD hltm
        obtain ⟨n, hn⟩ : ∃ n, n = L.getD k 0 := ⟨_, rfl⟩
        obtain ⟨m, hm⟩ : ∃ m, m = M.getD k 0 := ⟨_, rfl⟩
        rw [← hn] at hc1
        rw [← hm] at hc2
        have HN := Lib.hid hn
        have HMM := Lib.hid hm
        have hi1 : (0 : Int) ≤ (k : Int) := Int.natCast_nonneg _
        have hi2 : (k : Int) < (L.length : Int) := by omega
        have hi3 : (k : Int) < (M.length : Int) := by omega
        clear hn hm
        cases hq : (n == m) with
        | true =>
          have HT2 := Lib.hid (upto_succD (f := fun j => eqBD (L.getD j 0) (M.getD j 0)) HT.out (by show eqBD (L.getD k 0) (M.getD k 0) = true; rw [← HN.out, ← HMM.out]; exact hq))
          first | have hq' := bneTD hq | have hq' := bneFD hq
          go_wp2_with fail
          go_quiet (fail)
          go_wp2_with fail
          go_roundw
          case rel => exact ⟨k + 1, by omega, by go_num, Lib.hid (HU.out.trans (lbDrewND (fun _ => False) _ _) (fun _ h _ => h)), HT2⟩
          case measure => simp [intOf]; omega
        | false =>
          have HF := Lib.hid (allB_noD (f := eqBD) (A := L) (B := M) hlt (by rw [← HN.out, ← HMM.out]; exact hq))
          first | have hq' := bneTD hq | have hq' := bneFD hq
          go_wp2_with fail
          go_quiet (fail)
          go_wp2_with fail
          go_ret
          exact ⟨lbRetD HF.out.symm, HU.out.trans (lbDrewND (fun _ => False) _ _) (fun _ h _ => h)⟩
      · have HE := Lib.hid (allB_yesD (f := eqBD) HEQ.out (by omega) HT.out)
        go_wp2_with fail
        go_ret
        exact ⟨lbRetD HE.out.symm, HU.out⟩
  · have hb : ((L.length : Int) == (M.length : Int)) = false := beq_eq_false_iff_ne.2 (by omega)
    have hb' : ((L.length : Int) != (M.length : Int)) = true := by simp [bne, hb]
    have HF := Lib.hid (allB_lenD (f := eqBD) hl)
    clear hl
    go_enter Try.func22, Try.ntmps22
    go_wp2_with fail
    go_ret
    exact ⟨lbRetD HF.out.symm, Upd.refl _ _⟩

section
variable {w : World} {v : Value} {n : Nd}
theorem ir_Pure (h : NdV w v n) : Calls Try.prog 5 #[v] w fun e w' => e = .returned (.bool (pureP n)) ∧ w = w' := by
  have H := Lib.hid h
  clear h
  go_enter Try.func5, Try.ntmps5
  go_wp2_with fail
  refine (irPure H.out).mono ?_
  rintro e w' ⟨rfl, rfl⟩
  go_wp2_with fail
  go_ret
  exact ⟨rfl, rfl⟩
theorem ir_Def (h : NdV w v n) : Calls Try.prog 9 #[v] w fun e w' => e = .returned (.int .i64 (defP n)) ∧ Upd (fun _ => False) w w' := by
  have H := Lib.hid h
  clear h
  go_enter Try.func9, Try.ntmps9
  go_wp2_with fail
  refine (irWritten H.out).mono ?_
  rintro e w' ⟨rfl, hu⟩
  have HU := Lib.hid hu
  clear hu
  go_wp2_with fail
  go_ret
  exact ⟨rfl, HU.out⟩
theorem ir_Uses (h : NdV w v n) (hl : (argsP n).length ≤ 100000000) : Calls Try.prog 10 #[v] w fun e w' => ∃ v', e = .returned v' ∧ Ints w' v' (usesP n) ∧ Upd (fun _ => False) w w' := by
  have H := Lib.hid h
  clear h
  go_enter Try.func10, Try.ntmps10
  go_wp2_with fail
  refine (irRead H.out hl).mono ?_
  rintro e w' ⟨v', rfl, hi, hu⟩
  have HU := Lib.hid (And.intro hi hu)
  clear hu hi
  go_wp2_with fail
  go_ret
  exact ⟨_, rfl, HU.out⟩
theorem ir_Next (h : NdV w v n) (at_ : Int) (h0 : 0 ≤ at_) (h1 : at_ ≤ 1000000000) : Calls Try.prog 11 #[v, .int .i64 at_] w fun e w' => ∃ v', e = .returned v' ∧ Ints w' v' (nextP at_ n) ∧ Upd (fun _ => False) w w' := by
  have H := Lib.hid h
  have hd : decide (at_ < 0) = false := decide_eq_false (by omega)
  have HI := Lib.hid (And.intro h0 h1)
  clear h h0 h1
  go_enter Try.func11, Try.ntmps11
  go_wp2_with fail
  refine (irBehind H.out at_ HI.out.1 HI.out.2).mono ?_
  rintro e w' ⟨v', rfl, hi, hu⟩
  have HU := Lib.hid (And.intro hi hu)
  clear hu hi
  go_wp2_with fail
  go_ret
  exact ⟨_, rfl, HU.out⟩
end
theorem known17 (w : World) : Calls Try.prog 8 #[] w fun e w' => e = .returned (.bool true) ∧ Upd (fun _ => False) w w' := by
  go_enter Try.func8, Try.ntmps8
  go_wp2_with fail
  refine (ir_Next (n := .branch 0 5) ⟨rfl, by unfold wi64; omega, by unfold wi64; omega⟩ 2 (by omega) (by omega)).mono ?_
  rintro e w1 ⟨v1, rfl, hi, hu⟩
  obtain ⟨a1, c1, rfl, -, -⟩ := hi.1.slice
  have HI1 := Lib.hid (show Ints w1 _ [3, 5] from hi)
  have HU1 := Lib.hid hu
  clear hi hu
  go_wp2_with fail
  refine (lbIntsD _ _ _ [3, 5] [3, 5] (HI1.out.stay (Upd.alloc _ _ _)) (ints_lit w1 3 [3, 5] #[.int .i64 3, .int .i64 5] w1.heap.size 2 rfl rfl rfl (by intro x hx; simp at hx; rcases hx with rfl | rfl <;> (unfold wi64; omega)) (by simp))).mono ?_
  rintro e w2 ⟨rfl, hu⟩
  rw [show allBD eqBD [3, 5] [3, 5] = true from by decide]
  have HU2 := Lib.hid (HU1.out.two ((Upd.alloc (fun _ => False) w1 (.cells #[.int .i64 3, .int .i64 5] 3)).two hu))
  clear hu
  go_wp2_with fail
  refine (ir_Pure (n := .tick) rfl).mono ?_
  rintro e w3 ⟨rfl, rfl⟩
  rw [show pureP .tick = true from rfl]
  go_wp2_with fail
  refine (ir_Def (n := .const 4 0) ⟨rfl, by unfold wi64; omega⟩).mono ?_
  rintro e w3 ⟨rfl, hu⟩
  have HU3 := Lib.hid (HU2.out.two hu)
  rw [show defP (.const 4 0) = 4 from rfl]
  clear hu
  go_wp2_with fail
  go_ret
  exact ⟨rfl, HU3.out⟩
end Go.Proofs.Ytkleofpiikbpmaa

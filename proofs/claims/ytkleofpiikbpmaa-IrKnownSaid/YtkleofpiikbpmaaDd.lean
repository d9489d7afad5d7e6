/- Package ir: which numbers may be; what a Bin, an Un makes. -/
import Derived.Test.YtkleofpiikbpmaaDc
namespace Go.Proofs.Ytkleofpiikbpmaa
open Go.RowKit Go.ChangeShapes Go.WideShapes Go.Deep
set_option linter.unusedVariables false
set_option linter.unusedSimpArgs false
def inD (e n : Int) : Bool := decide (0 ≤ n) && decide (n < e)
def belowP (e : Int) (L : List Int) : Bool := L.all (inD e)
theorem getD_lt {L : List Int} {k : Nat} (h : k < L.length) : L.getD k 0 = L[k] := by rw [List.getD_eq_getElem?_getD, List.getElem?_eq_getElem h]; rfl
theorem belowP_no {e : Int} {L : List Int} {k : Nat} (h : k < L.length) (hn : inD e (L.getD k 0) = false) : belowP e L = false := by
  unfold belowP
  rw [List.all_eq_false]
  exact ⟨L.getD k 0, by rw [getD_lt h]; exact List.getElem_mem h, by rw [hn]; decide⟩
theorem belowP_yes {e : Int} {L : List Int} (h : ∀ j, j < L.length → inD e (L.getD j 0) = true) : belowP e L = true := by
  unfold belowP
  rw [List.all_eq_true]
  intro x hx
  obtain ⟨j, hj, rfl⟩ := List.mem_iff_getElem.1 hx
  have := h j hj
  rwa [getD_lt hj] at this
set_option maxRecDepth 20000 in
set_option maxHeartbeats 2000000 in
theorem irBelow (w : World) (e : Int) (v : Value) (L : List Int) (h : Ints w v L) : Calls Try.prog 18 #[.int .i64 e, v] w fun e_ w' => e_ = .returned (.bool (belowP e L)) ∧ w = w' := by
  have HL := Lib.hid h
  obtain ⟨a, c, rfl, h1, h2⟩ := h.1.slice
  unfold maxLen at h2
  clear h
  go_enter Try.func18, Try.ntmps18
  go_wp2_with fail
  go_loop [9] (fun t => ∃ k : Nat, k ≤ L.length ∧ t = .int .i64 k ∧ Hid (∀ j, j < k → inD e (L.getD j 0) = true)) (fun t => L.length - (intOf t).toNat)
  case atStart => exact ⟨0, by omega, rfl, Lib.hid (fun j hj => absurd hj (Nat.not_lt_zero j))⟩
  case round =>
    obtain ⟨k, hk, rfl, HT⟩ := hrel
    by_cases hlt : k < L.length
    · have hd : decide ((k : Int) < (L.length : Int)) = true := by simp; omega
      obtain ⟨g, off, ha, hcell⟩ := HL.out.1.at hlt
      subst ha
      have hcl := hcell 0 (by omega)
      rw [Nat.mul_one, Nat.add_zero] at hcl
      obtain ⟨n, hn⟩ : ∃ n, L.getD k 0 = n := ⟨_, rfl⟩
      simp only [hn] at hcl
      have HN := Lib.hid hn
      clear hcell hn
      have hi2 : k < 9223372036854775807 := by omega
      have hw1 : IntKind.i64.wrap ((k : Int) + 1) = ((k + 1 : Nat) : Int) := i64_inD _ (by omega)
      by_cases hq0 : n < 0
      · have hb0 : decide (n < 0) = true := by simpa using hq0
        have HF := Lib.hid (belowP_no (e := e) hlt (by rw [HN.out]; unfold inD; rw [show decide (0 ≤ n) = false from decide_eq_false (by omega)]; rfl))
        clear hq0
        go_wp2_with fail
        go_ret
        exact ⟨congrArg (fun b => Ending.returned (Value.bool b)) HF.out.symm, rfl⟩
      · have hb0 : decide (n < 0) = false := by simpa using hq0
        by_cases hq1 : e ≤ n
        · have hb1 : decide (e ≤ n) = true := by simpa using hq1
          have HF := Lib.hid (belowP_no (e := e) hlt (by rw [HN.out]; unfold inD; rw [show decide (n < e) = false from decide_eq_false (by omega), Bool.and_false]))
          clear hq0 hq1
          go_wp2_with fail
          go_ret
          exact ⟨congrArg (fun b => Ending.returned (Value.bool b)) HF.out.symm, rfl⟩
        · have hb1 : decide (e ≤ n) = false := by simpa using hq1
          have HT2 : Hid (∀ j, j < k + 1 → inD e (L.getD j 0) = true) := Lib.hid (fun j hj => by
            rcases Nat.lt_succ_iff_lt_or_eq.1 hj with h | h
            · exact HT.out j h
            · rw [h, HN.out]; unfold inD; rw [decide_eq_true (by omega), decide_eq_true (by omega)]; rfl)
          clear hq0 hq1
          go_wp2_with fail
          go_round
          case rel => exact ⟨k + 1, by omega, by go_num, HT2⟩
          case measure => simp [intOf]; omega
    · have hke : k = L.length := by omega
      subst hke
      have HE := Lib.hid (belowP_yes HT.out)
      go_wp2_with fail
      go_ret
      exact ⟨congrArg (fun b => Ending.returned (Value.bool b)) HE.out.symm, rfl⟩
def lackP (e r : Int) : Bool := (r == -1) || belowP e [r]
def callP (e d : Int) (L : List Int) : Bool := decide (L.length ≤ 4) && (lackP e d && belowP e L)
def binOkP (op : Int) : Bool := (op == 19) || ((op == 20) || ((op == 21) || (decide (6 ≤ op) && decide (op ≤ 14))))
def unOkP (op : Int) : Bool := (op == 15) || ((op == 16) || (op == 26))
def servedP (op : Int) : Int := bif (op == 27) || (op == 28) then 1 else bif (op == 17) || ((op == 18) || (op == 29)) then 2 else bif (op == 30) || (op == 36) then 3 else bif (op == 31) || (op == 32) then 5 else -1
set_option maxHeartbeats 1000000 in
theorem irMayLack (w : World) (e r : Int) (hr : wi64 r) : Calls Try.prog 37 #[.int .i64 e, .int .i64 r] w fun e_ w' => e_ = .returned (.bool (lackP e r)) ∧ Upd (fun _ => False) w w' := by
  unfold lackP
  cases hb : (r == -1)
  · have HR := Lib.hid hr
    clear hr
    go_enter Try.func37, Try.ntmps37
    go_wp2_with fail
    refine (irBelow _ e _ [r] (ints_lit w _ [r] _ _ _ rfl rfl rfl (by intro x hx; simp at hx; subst hx; exact HR.out) (by simp))).mono ?_
    rintro e_ w' ⟨rfl, rfl⟩
    go_wp2_with fail
    go_ret
    exact ⟨rfl, Upd.alloc _ _ _⟩
  · go_enter Try.func37, Try.ntmps37
    go_wp2_with fail
    go_ret
    exact ⟨rfl, Upd.refl _ _⟩
set_option maxHeartbeats 1000000 in
theorem irIsCall (w : World) (e d : Int) (hd : wi64 d) (v : Value) (L : List Int) (h : Ints w v L) : Calls Try.prog 38 #[.int .i64 e, .int .i64 d, v] w fun e_ w' => e_ = .returned (.bool (callP e d L)) ∧ Upd (fun _ => False) w w' := by
  have HL := Lib.hid h
  obtain ⟨a, c, rfl, h1, h2⟩ := h.1.slice
  clear h
  unfold callP
  have HD := Lib.hid hd
  clear hd
  by_cases hl : L.length ≤ 4
  · have hl2 : decide ((L.length : Int) ≤ 4) = true := by simp; omega
    rw [decide_eq_true hl]
    clear hl
    go_enter Try.func38, Try.ntmps38
    go_wp2_with fail
    refine (irMayLack _ e d HD.out).mono ?_
    rintro e_ w1 ⟨rfl, hu⟩
    have HU := Lib.hid hu
    clear hu
    cases hq : lackP e d
    · go_wp2_with fail
      go_ret
      exact ⟨by rw [hq]; rfl, HU.out⟩
    · go_wp2_with fail
      refine (irBelow _ e _ L (HL.out.stay HU.out)).mono ?_
      rintro e_ w2 ⟨rfl, rfl⟩
      go_wp2_with fail
      go_ret
      exact ⟨by rw [hq]; rfl, HU.out⟩
  · have hl2 : decide ((L.length : Int) ≤ 4) = false := by simp; omega
    rw [decide_eq_false hl]
    clear hl
    go_enter Try.func38, Try.ntmps38
    go_wp2_with fail
    go_ret
    exact ⟨rfl, Upd.refl _ _⟩
set_option maxHeartbeats 1000000 in
theorem irIsUn (w : World) (op : Int) : Calls Try.prog 35 #[.int .i64 op] w fun e w' => e = .returned (.bool (unOkP op)) ∧ w = w' := by
  unfold unOkP
  cases h0 : (op == 15)
  case true =>
    go_enter Try.func35, Try.ntmps35
    go_wp2_with fail
    go_ret
    exact ⟨rfl, rfl⟩
  cases h1 : (op == 16)
  case true =>
    go_enter Try.func35, Try.ntmps35
    go_wp2_with fail
    go_ret
    exact ⟨rfl, rfl⟩
  cases h2 : (op == 26)
  case true =>
    go_enter Try.func35, Try.ntmps35
    go_wp2_with fail
    go_ret
    exact ⟨rfl, rfl⟩
  go_enter Try.func35, Try.ntmps35
  go_wp2_with fail
  go_ret
  exact ⟨rfl, rfl⟩
set_option maxHeartbeats 1000000 in
theorem irServed (w : World) (op : Int) : Calls Try.prog 36 #[.int .i64 op] w fun e w' => e = .returned (.int .i64 (servedP op)) ∧ w = w' := by
  unfold servedP
  cases h0 : (op == 27)
  case true =>
    go_enter Try.func36, Try.ntmps36
    go_wp2_with fail
    go_ret
    exact ⟨rfl, rfl⟩
  cases h1 : (op == 28)
  case true =>
    go_enter Try.func36, Try.ntmps36
    go_wp2_with fail
    go_ret
    exact ⟨rfl, rfl⟩
  cases h2 : (op == 17)
  case true =>
    go_enter Try.func36, Try.ntmps36
    go_wp2_with fail
    go_ret
    exact ⟨rfl, rfl⟩
  cases h3 : (op == 18)
  case true =>
    go_enter Try.func36, Try.ntmps36
    go_wp2_with fail
    go_ret
    exact ⟨rfl, rfl⟩
  cases h4 : (op == 29)
  case true =>
    go_enter Try.func36, Try.ntmps36
    go_wp2_with fail
    go_ret
    exact ⟨rfl, rfl⟩
  cases h5 : (op == 30)
  case true =>
    go_enter Try.func36, Try.ntmps36
    go_wp2_with fail
    go_ret
    exact ⟨rfl, rfl⟩
  cases h6 : (op == 36)
  case true =>
    go_enter Try.func36, Try.ntmps36
    go_wp2_with fail
    go_ret
    exact ⟨rfl, rfl⟩
  cases h7 : (op == 31)
  case true =>
    go_enter Try.func36, Try.ntmps36
    go_wp2_with fail
    go_ret
    exact ⟨rfl, rfl⟩
  cases h8 : (op == 32)
  case true =>
    go_enter Try.func36, Try.ntmps36
    go_wp2_with fail
    go_ret
    exact ⟨rfl, rfl⟩
  go_enter Try.func36, Try.ntmps36
  go_wp2_with fail
  go_ret
  exact ⟨rfl, rfl⟩
set_option maxHeartbeats 1000000 in
theorem irIsBin (w : World) (op : Int) : Calls Try.prog 34 #[.int .i64 op] w fun e w' => e = .returned (.bool (binOkP op)) ∧ w = w' := by
  unfold binOkP
  cases h0 : (op == 19)
  case true =>
    go_enter Try.func34, Try.ntmps34
    go_wp2_with fail
    go_ret
    exact ⟨rfl, rfl⟩
  cases h1 : (op == 20)
  case true =>
    go_enter Try.func34, Try.ntmps34
    go_wp2_with fail
    go_ret
    exact ⟨rfl, rfl⟩
  cases h2 : (op == 21)
  case true =>
    go_enter Try.func34, Try.ntmps34
    go_wp2_with fail
    go_ret
    exact ⟨rfl, rfl⟩
  by_cases h6 : 6 ≤ op
  · rw [decide_eq_true h6]
    have hb : decide (6 ≤ op) = true := decide_eq_true h6
    clear h6
    go_enter Try.func34, Try.ntmps34
    go_wp2_with fail
    go_ret
    exact ⟨rfl, rfl⟩
  · rw [decide_eq_false h6]
    have hb : decide (6 ≤ op) = false := decide_eq_false h6
    clear h6
    go_enter Try.func34, Try.ntmps34
    go_wp2_with fail
    go_ret
    exact ⟨rfl, rfl⟩
/-- what a Bin makes -/
def twoB (op : Int) (x y : BitVec 32) : BitVec 32 :=
  bif op == 6 then bAdd x y else
  bif op == 7 then bSub x y else
  bif op == 8 then bMul x y else
  bif op == 9 then bAnd x y else
  bif op == 10 then bOr x y else
  bif op == 11 then bXor x y else
  bif op == 12 then bShl x y else
  bif op == 13 then bShr x y else
  bif op == 14 then bSar x y else
  bif op == 19 then bEq x y else
  bif op == 20 then bLt x y else
  bBelow x y
def oneB (op : Int) (x : BitVec 32) : BitVec 32 := bif op == 15 then bNeg x else bif op == 16 then bNot x else bEq x 0
set_option maxRecDepth 20000 in
set_option maxHeartbeats 2000000 in
theorem irTwo (w : World) (op : Int) (x y : BitVec 32) : Calls Try.prog 29 #[.int .i64 op, .int .i32 (si x), .int .i32 (si y)] w fun e w' => e = .returned (.int .i32 (si (twoB op x y))) ∧ w = w' := by
  unfold twoB
  cases h0 : (op == 6)
  case true =>
    simp only [cond_true, cond_false]
    go_enter Try.func29, Try.ntmps29
    go_wp2_with fail
    refine (wAdd x y w).mono ?_
    rintro e w1 ⟨rfl, rfl⟩
    go_wp2_with fail
    go_ret
    exact ⟨rfl, rfl⟩
  cases h1 : (op == 7)
  case true =>
    simp only [cond_true, cond_false]
    go_enter Try.func29, Try.ntmps29
    go_wp2_with fail
    refine (wSub x y w).mono ?_
    rintro e w1 ⟨rfl, rfl⟩
    go_wp2_with fail
    go_ret
    exact ⟨rfl, rfl⟩
  cases h2 : (op == 8)
  case true =>
    simp only [cond_true, cond_false]
    go_enter Try.func29, Try.ntmps29
    go_wp2_with fail
    refine (wMul x y w).mono ?_
    rintro e w1 ⟨rfl, rfl⟩
    go_wp2_with fail
    go_ret
    exact ⟨rfl, rfl⟩
  cases h3 : (op == 9)
  case true =>
    simp only [cond_true, cond_false]
    go_enter Try.func29, Try.ntmps29
    go_wp2_with fail
    refine (wAnd x y w).mono ?_
    rintro e w1 ⟨rfl, rfl⟩
    go_wp2_with fail
    go_ret
    exact ⟨rfl, rfl⟩
  cases h4 : (op == 10)
  case true =>
    simp only [cond_true, cond_false]
    go_enter Try.func29, Try.ntmps29
    go_wp2_with fail
    refine (wOr x y w).mono ?_
    rintro e w1 ⟨rfl, rfl⟩
    go_wp2_with fail
    go_ret
    exact ⟨rfl, rfl⟩
  cases h5 : (op == 11)
  case true =>
    simp only [cond_true, cond_false]
    go_enter Try.func29, Try.ntmps29
    go_wp2_with fail
    refine (wXor x y w).mono ?_
    rintro e w1 ⟨rfl, rfl⟩
    go_wp2_with fail
    go_ret
    exact ⟨rfl, rfl⟩
  cases h6 : (op == 12)
  case true =>
    simp only [cond_true, cond_false]
    go_enter Try.func29, Try.ntmps29
    go_wp2_with fail
    refine (wShl x y w).mono ?_
    rintro e w1 ⟨rfl, rfl⟩
    go_wp2_with fail
    go_ret
    exact ⟨rfl, rfl⟩
  cases h7 : (op == 13)
  case true =>
    simp only [cond_true, cond_false]
    go_enter Try.func29, Try.ntmps29
    go_wp2_with fail
    refine (wShr x y w).mono ?_
    rintro e w1 ⟨rfl, rfl⟩
    go_wp2_with fail
    go_ret
    exact ⟨rfl, rfl⟩
  cases h8 : (op == 14)
  case true =>
    simp only [cond_true, cond_false]
    go_enter Try.func29, Try.ntmps29
    go_wp2_with fail
    refine (wSar x y w).mono ?_
    rintro e w1 ⟨rfl, rfl⟩
    go_wp2_with fail
    go_ret
    exact ⟨rfl, rfl⟩
  cases h9 : (op == 19)
  case true =>
    simp only [cond_true, cond_false]
    go_enter Try.func29, Try.ntmps29
    go_wp2_with fail
    refine (wEq x y w).mono ?_
    rintro e w1 ⟨rfl, rfl⟩
    go_wp2_with fail
    go_ret
    exact ⟨rfl, rfl⟩
  cases h10 : (op == 20)
  case true =>
    simp only [cond_true, cond_false]
    go_enter Try.func29, Try.ntmps29
    go_wp2_with fail
    refine (wLt x y w).mono ?_
    rintro e w1 ⟨rfl, rfl⟩
    go_wp2_with fail
    go_ret
    exact ⟨rfl, rfl⟩
  simp only [cond_false]
  go_enter Try.func29, Try.ntmps29
  go_wp2_with fail
  refine (wBelow x y w).mono ?_
  rintro e w1 ⟨rfl, rfl⟩
  go_wp2_with fail
  go_ret
  exact ⟨rfl, rfl⟩
set_option maxRecDepth 20000 in
set_option maxHeartbeats 2000000 in
theorem irOne (w : World) (op : Int) (x : BitVec 32) : Calls Try.prog 30 #[.int .i64 op, .int .i32 (si x)] w fun e w' => e = .returned (.int .i32 (si (oneB op x))) ∧ w = w' := by
  unfold oneB
  cases h0 : (op == 15)
  case true =>
    simp only [cond_true, cond_false]
    go_enter Try.func30, Try.ntmps30
    go_wp2_with fail
    refine (wNeg x w).mono ?_
    rintro e w1 ⟨rfl, rfl⟩
    go_wp2_with fail
    go_ret
    exact ⟨rfl, rfl⟩
  cases h1 : (op == 16)
  case true =>
    simp only [cond_true, cond_false]
    go_enter Try.func30, Try.ntmps30
    go_wp2_with fail
    refine (wNot x w).mono ?_
    rintro e w1 ⟨rfl, rfl⟩
    go_wp2_with fail
    go_ret
    exact ⟨rfl, rfl⟩
  simp only [cond_false]
  go_enter Try.func30, Try.ntmps30
  go_wp2_with fail
  refine (wEq x 0 w).mono ?_
  rintro e w1 ⟨rfl, rfl⟩
  go_wp2_with fail
  go_ret
  exact ⟨rfl, rfl⟩
end Go.Proofs.Ytkleofpiikbpmaa

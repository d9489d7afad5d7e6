/- What the reference's Writer does to the world: a contract for each call. -/
import Derived.Test.YtmbdfmgidnjgeaaGreatDoorWr
namespace Go.Proofs.YtmbdfmgidnjgeaaGreatDoor
open Go.RowKit
set_option linter.unusedVariables false

/-- the lowest k bytes of n, the highest first -/
def lb (n : Int) : Nat → List Int
  | 0 => []
  | k + 1 => (n / 2 ^ (8 * k) % 256) :: lb n k
theorem lb_len (n : Int) (k : Nat) : (lb n k).length = k := by
  induction k with
  | zero => rfl
  | succ k ih => simp [lb, ih]

theorem lb0 (n : Int) : lb n (0 + 1) = (n % 256) :: lb n 0 := by simp [lb]
theorem lb1 (n : Int) : lb n (1 + 1) = (n / 256 % 256) :: lb n 1 := by simp [lb]
theorem lb2 (n : Int) : lb n (2 + 1) = (n / 65536 % 256) :: lb n 2 := by simp [lb]
theorem lb3 (n : Int) : lb n (3 + 1) = (n / 16777216 % 256) :: lb n 3 := by simp [lb]

set_option maxHeartbeats 1000000 in
theorem refU (w : World) (b : Nat) (v : Value) (xs : List Int) (n : Int) (size : Nat) (h : Wr 43 w b v xs) (hn : xs.length ≤ 1099511627776) (hs : size ≤ 4) (wn : (Lit.int .i64 n).wf = true) :
    Calls Tryz.prog 38 #[.pointer (some ⟨b, 0, none⟩), .int .i64 n, .int .i64 size] w fun e w' => e = .returned (.tuple #[]) ∧ Laid 43 w b v (xs ++ lb n size) w' := by
  obtain ⟨i0, hi, hz0, hz1, hz2⟩ := info_parts info5
  have HL0 := Lib.hid (show Laid 43 w b v (xs ++ []) w from ⟨v, by simpa using h, Upd.refl _ _, fun k hk => .inl hk⟩)
  go_enter Tryz.func38, Tryz.ntmps38
  go_wp2_with fail
  go_loopw [6] (fun i wr => ∃ (k : Nat) (pre : List Int), k ≤ size ∧ i = .int .i64 ((k : Int) - 1) ∧ Hid (pre ++ lb n k = lb n size) ∧ Hid (Laid 43 w b v (xs ++ pre) wr)) (fun i _ => (intOf i + 1).toNat)
  case atStart => exact ⟨size, [], Nat.le_refl _, rfl, rfl, HL0⟩
  case round =>
    obtain ⟨k, pre, hk, rfl, HP, HL⟩ := hrel
    cases k with
    | zero =>
      go_wp2
      go_end0
      exact ⟨rfl, by have e := HP.out; simp only [lb, List.append_nil] at e; rw [← e]; exact HL.out⟩
    | succ k =>
      obtain ⟨v1, h1, h2, h3⟩ := HL.out
      have hc := h1.cell
      have hlt := h1.lt
      have H1 := Lib.hid h1
      have HL1 := Lib.hid (show ∀ zs w2, Laid 43 wr b v1 zs w2 → Laid 43 w b v zs w2 from fun zs w2 hL => HL.out.trans fun v' hv' => by
        have : v' = v1 := by have e1 := hv'.blk; rw [h1.blk] at e1; simpa using e1.symm
        subst this
        exact hL)
      have hpl : pre.length ≤ 4 := by have := congrArg List.length HP.out; rw [List.length_append, lb_len, lb_len] at this; omega
      clear h1 h2 h3
      rw [show ((k + 1 : Nat) : Int) - 1 = (k : Int) by omega]
      have hk4 : k < 4 := by omega
      match k, hk4 with
      | 0, _ =>
        go_wp2_with (at_builtin; go_loud (refine wpList_append_mine _ rfl _ _ 23 rfl 0 5 i0 (.int .u8 0) 1 1 Tryz.underlying23 hi hz0 hz1 hz2 rfl (by decide) v1 (xs ++ pre).length (bv (xs ++ pre)) rfl (H1.out.own.alloc _) 1 [.int .u8 (n % 256)] (Src.lit wr 5 #[.int .u8 (n % 256)] (by simp [Value.oneCell']) 1 _ rfl) (by unfold maxLen; simp; omega) (by simp; omega) (Nat.zero_le _) ?_))
        intro v' w1 ho hg hf
        have hu := Upd.row (Upd.alloc _ wr _) hg
        have hc1 := (hu.cell (p := ⟨b, 0, none⟩) hlt (H1.out.ne (by decide))).trans hc
        have hf1 := (hu.frozen (p := ⟨b, 0, none⟩) hlt (H1.out.ne (by decide))).trans H1.out.free
        have ho' : w1.ownsRow 0 5 1 v' ((xs ++ pre).length + 1) (bv (xs ++ (pre ++ [n % 256]))) := by rw [← List.append_assoc, bv_append, List.length_append]; exact ho
        have HL2 := Lib.hid (HL1.out _ _ (laid (by decide) H1.out (Upd.alloc _ _ _) hg ho' (by simp; omega) hf (by rw [← List.append_assoc]; exact byte_app H1.out.byte (by simp; omega))))
        have HP2 := Lib.hid (show (pre ++ [n % 256]) ++ lb n 0 = lb n size by rw [← HP.out, lb0]; simp)
        obtain ⟨ao, co, rfl⟩ := ownsRow_slice ho
        clear ho ho' hg hf hu
        go_wp2
        go_roundw
        case rel => exact ⟨0, pre ++ [n % 256], by omega, by simp, HP2, HL2⟩
        case measure => simp [intOf]
      | 1, _ =>
        go_wp2_with (at_builtin; go_loud (refine wpList_append_mine _ rfl _ _ 23 rfl 0 5 i0 (.int .u8 0) 1 1 Tryz.underlying23 hi hz0 hz1 hz2 rfl (by decide) v1 (xs ++ pre).length (bv (xs ++ pre)) rfl (H1.out.own.alloc _) 1 [.int .u8 (n / 256 % 256)] (Src.lit wr 5 #[.int .u8 (n / 256 % 256)] (by simp [Value.oneCell']) 1 _ rfl) (by unfold maxLen; simp; omega) (by simp; omega) (Nat.zero_le _) ?_))
        intro v' w1 ho hg hf
        have hu := Upd.row (Upd.alloc _ wr _) hg
        have hc1 := (hu.cell (p := ⟨b, 0, none⟩) hlt (H1.out.ne (by decide))).trans hc
        have hf1 := (hu.frozen (p := ⟨b, 0, none⟩) hlt (H1.out.ne (by decide))).trans H1.out.free
        have ho' : w1.ownsRow 0 5 1 v' ((xs ++ pre).length + 1) (bv (xs ++ (pre ++ [n / 256 % 256]))) := by rw [← List.append_assoc, bv_append, List.length_append]; exact ho
        have HL2 := Lib.hid (HL1.out _ _ (laid (by decide) H1.out (Upd.alloc _ _ _) hg ho' (by simp; omega) hf (by rw [← List.append_assoc]; exact byte_app H1.out.byte (by simp; omega))))
        have HP2 := Lib.hid (show (pre ++ [n / 256 % 256]) ++ lb n 1 = lb n size by rw [← HP.out, lb1]; simp)
        obtain ⟨ao, co, rfl⟩ := ownsRow_slice ho
        clear ho ho' hg hf hu
        go_wp2
        go_roundw
        case rel => exact ⟨1, pre ++ [n / 256 % 256], by omega, by simp, HP2, HL2⟩
        case measure => simp [intOf]
      | 2, _ =>
        go_wp2_with (at_builtin; go_loud (refine wpList_append_mine _ rfl _ _ 23 rfl 0 5 i0 (.int .u8 0) 1 1 Tryz.underlying23 hi hz0 hz1 hz2 rfl (by decide) v1 (xs ++ pre).length (bv (xs ++ pre)) rfl (H1.out.own.alloc _) 1 [.int .u8 (n / 65536 % 256)] (Src.lit wr 5 #[.int .u8 (n / 65536 % 256)] (by simp [Value.oneCell']) 1 _ rfl) (by unfold maxLen; simp; omega) (by simp; omega) (Nat.zero_le _) ?_))
        intro v' w1 ho hg hf
        have hu := Upd.row (Upd.alloc _ wr _) hg
        have hc1 := (hu.cell (p := ⟨b, 0, none⟩) hlt (H1.out.ne (by decide))).trans hc
        have hf1 := (hu.frozen (p := ⟨b, 0, none⟩) hlt (H1.out.ne (by decide))).trans H1.out.free
        have ho' : w1.ownsRow 0 5 1 v' ((xs ++ pre).length + 1) (bv (xs ++ (pre ++ [n / 65536 % 256]))) := by rw [← List.append_assoc, bv_append, List.length_append]; exact ho
        have HL2 := Lib.hid (HL1.out _ _ (laid (by decide) H1.out (Upd.alloc _ _ _) hg ho' (by simp; omega) hf (by rw [← List.append_assoc]; exact byte_app H1.out.byte (by simp; omega))))
        have HP2 := Lib.hid (show (pre ++ [n / 65536 % 256]) ++ lb n 2 = lb n size by rw [← HP.out, lb2]; simp)
        obtain ⟨ao, co, rfl⟩ := ownsRow_slice ho
        clear ho ho' hg hf hu
        go_wp2
        go_roundw
        case rel => exact ⟨2, pre ++ [n / 65536 % 256], by omega, by simp, HP2, HL2⟩
        case measure => simp [intOf]
      | 3, _ =>
        go_wp2_with (at_builtin; go_loud (refine wpList_append_mine _ rfl _ _ 23 rfl 0 5 i0 (.int .u8 0) 1 1 Tryz.underlying23 hi hz0 hz1 hz2 rfl (by decide) v1 (xs ++ pre).length (bv (xs ++ pre)) rfl (H1.out.own.alloc _) 1 [.int .u8 (n / 16777216 % 256)] (Src.lit wr 5 #[.int .u8 (n / 16777216 % 256)] (by simp [Value.oneCell']) 1 _ rfl) (by unfold maxLen; simp; omega) (by simp; omega) (Nat.zero_le _) ?_))
        intro v' w1 ho hg hf
        have hu := Upd.row (Upd.alloc _ wr _) hg
        have hc1 := (hu.cell (p := ⟨b, 0, none⟩) hlt (H1.out.ne (by decide))).trans hc
        have hf1 := (hu.frozen (p := ⟨b, 0, none⟩) hlt (H1.out.ne (by decide))).trans H1.out.free
        have ho' : w1.ownsRow 0 5 1 v' ((xs ++ pre).length + 1) (bv (xs ++ (pre ++ [n / 16777216 % 256]))) := by rw [← List.append_assoc, bv_append, List.length_append]; exact ho
        have HL2 := Lib.hid (HL1.out _ _ (laid (by decide) H1.out (Upd.alloc _ _ _) hg ho' (by simp; omega) hf (by rw [← List.append_assoc]; exact byte_app H1.out.byte (by simp; omega))))
        have HP2 := Lib.hid (show (pre ++ [n / 16777216 % 256]) ++ lb n 3 = lb n size by rw [← HP.out, lb3]; simp)
        obtain ⟨ao, co, rfl⟩ := ownsRow_slice ho
        clear ho ho' hg hf hu
        go_wp2
        go_roundw
        case rel => exact ⟨3, pre ++ [n / 16777216 % 256], by omega, by simp, HP2, HL2⟩
        case measure => simp [intOf]

theorem refU8 (w : World) (b : Nat) (v : Value) (xs : List Int) (n : Int) (h : Wr 43 w b v xs) (hn : xs.length ≤ 1099511627776) (wn : (Lit.int .i64 n).wf = true) :
    Calls Tryz.prog 14 #[.pointer (some ⟨b, 0, none⟩), .int .i64 n] w fun e w' => e = .returned (.tuple #[]) ∧ Laid 43 w b v (xs ++ [n % 256]) w' := by
  have HE := Lib.hid (show lb n 1 = [n % 256] by simp [lb])
  go_enter Tryz.func14, Tryz.ntmps14
  go_wp2_with fail
  refine (refU w b v xs n 1 h hn (by omega) wn).mono ?_
  rw [HE.out]
  rintro e w1 ⟨rfl, hL⟩
  have HL := Lib.hid hL
  clear hL
  go_wp2_with fail
  go_end0
  exact ⟨rfl, HL.out⟩

theorem refU16 (w : World) (b : Nat) (v : Value) (xs : List Int) (n : Int) (h : Wr 43 w b v xs) (hn : xs.length ≤ 1099511627776) (wn : (Lit.int .i64 n).wf = true) :
    Calls Tryz.prog 40 #[.pointer (some ⟨b, 0, none⟩), .int .i64 n] w fun e w' => e = .returned (.tuple #[]) ∧ Laid 43 w b v (xs ++ [n / 256 % 256, n % 256]) w' := by
  have HE := Lib.hid (show lb n 2 = [n / 256 % 256, n % 256] by simp [lb])
  go_enter Tryz.func40, Tryz.ntmps40
  go_wp2_with fail
  refine (refU w b v xs n 2 h hn (by omega) wn).mono ?_
  rw [HE.out]
  rintro e w1 ⟨rfl, hL⟩
  have HL := Lib.hid hL
  clear hL
  go_wp2_with fail
  go_end0
  exact ⟨rfl, HL.out⟩

theorem refS32 (w : World) (b : Nat) (v : Value) (xs : List Int) (n : Int) (h : Wr 43 w b v xs) (hn : xs.length ≤ 1099511627776) (wn : (Lit.int .i64 n).wf = true) :
    Calls Tryz.prog 39 #[.pointer (some ⟨b, 0, none⟩), .int .i64 n] w fun e w' => e = .returned (.tuple #[]) ∧ Laid 43 w b v (xs ++ [n / 16777216 % 256, n / 65536 % 256, n / 256 % 256, n % 256]) w' := by
  have HE := Lib.hid (show lb n 4 = [n / 16777216 % 256, n / 65536 % 256, n / 256 % 256, n % 256] by simp [lb])
  go_enter Tryz.func39, Tryz.ntmps39
  go_wp2_with fail
  refine (refU w b v xs n 4 h hn (by omega) wn).mono ?_
  rw [HE.out]
  rintro e w1 ⟨rfl, hL⟩
  have HL := Lib.hid hL
  clear hL
  go_wp2_with fail
  go_end0
  exact ⟨rfl, HL.out⟩

theorem refShort_no (w : World) (b : Nat) (x : Value) (ys : List Int) (hy : Vw w x ys) (hn : 255 < ys.length) :
    Calls Tryz.prog 15 #[.pointer (some ⟨b, 0, none⟩), x] w fun e w' => e = .returned (.bool false) ∧ w = w' := by
  obtain ⟨a, c, rfl, h1, h2⟩ := hy.slice
  unfold maxLen at h2
  have hlt : (255 : Int) < (ys.length : Int) := by omega
  go_enter Tryz.func15, Tryz.ntmps15
  go_wp2
  go_ret
  exact ⟨rfl, rfl⟩
set_option maxHeartbeats 400000 in
theorem refShort (w : World) (b : Nat) (v x : Value) (xs ys : List Int) (h : Wr 43 w b v xs) (hy : Vw w x ys) (hx : ∀ w', Upd (fp b v) w w' → Vw w' x ys) (hn : ys.length ≤ 255) (hl : xs.length ≤ 1099511627776) :
    Calls Tryz.prog 15 #[.pointer (some ⟨b, 0, none⟩), x] w fun e w' => e = .returned (.bool true) ∧ Laid 43 w b v (xs ++ ((ys.length : Int) :: ys)) w' := by
  obtain ⟨a, c, rfl, h1, h2⟩ := hy.slice
  unfold maxLen at h2
  have hlt : ¬ (255 : Int) < (ys.length : Int) := by omega
  go_enter Tryz.func15, Tryz.ntmps15
  go_wp2_with fail
  refine (refU8 _ b v xs _ h hl (WalkArith.wf_i64 (by omega))).mono ?_
  rintro e w1 ⟨rfl, hL⟩
  have hmod : ((ys.length : Int) % 256) = ys.length := by omega
  rw [hmod] at hL
  have HL := Lib.hid hL
  clear hL hmod
  go_wp2_with fail
  obtain ⟨v1, hw1, hu1, hf1⟩ := HL.out
  have hy1 := hx _ hu1
  refine (rraw _ b v1 _ _ ys hw1 hy1 (by simp; omega)).mono ?_
  rintro e w2 ⟨rfl, hL2⟩
  have HL2 := Lib.hid hL2
  clear hL2
  go_wp2_with fail
  go_ret
  refine ⟨rfl, HL.out.trans fun v' hv' => ?_⟩
  have : v' = v1 := by have e1 := hv'.blk; rw [hw1.blk] at e1; simpa using e1.symm
  subst this
  simpa using HL2.out

end Go.Proofs.YtmbdfmgidnjgeaaGreatDoor

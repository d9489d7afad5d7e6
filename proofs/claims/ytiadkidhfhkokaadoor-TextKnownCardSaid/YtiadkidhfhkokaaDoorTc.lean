/- Package text: isEmpty, need, KindName, Kind, number. -/
import Derived.Test.YtiadkidhfhkokaaDoorTb
import Derived.Test.YtiadkidhfhkokaaDoorHand
namespace Go.Proofs.YtiadkidhfhkokaaDoor
open Go.RowKit Go.Lib
set_option linter.unusedVariables false
set_option linter.unusedSimpArgs false

def emptyP (l : By) : Bool := decide ((nextP l).1 = [])
theorem bs_empty (x : By) : (bs x).toList.isEmpty = decide (x = []) := by
  rw [bs_list, Bool.eq_iff_iff]
  simp
theorem tIsEmpty (l : By) (bad : Bool) (b : Nat) (w : World) (hw : Wb w b l bad) (hl : l.length ≤ maxLen) :
    Calls Tryd.prog 42 #[.pointer (some ⟨b, 0, none⟩)] w fun e w' => e = .returned (.bool (emptyP l)) ∧ Upd (fun _ => False) w w' := by
  obtain ⟨c0, c1, f0, f1⟩ := hw.cell
  obtain ⟨w1, hw1⟩ : ∃ w1, w1 = w.alloc (.cells #[.string (bs l), .bool bad] 85) := ⟨_, rfl⟩
  have hu1 : Upd (fun _ => False) w w1 := by rw [hw1]; exact Upd.alloc _ _ _
  have hx1 : Wb w1 w.heap.size l bad := by
    rw [hw1]
    show (w.heap.push _)[w.heap.size]? = _
    simp
  have HN := Lib.hid (tNext l bad w.heap.size w1 hx1 hl)
  have HE := Lib.hid (bs_empty (nextP l).1)
  have HP := Lib.hid (show emptyP l = decide ((nextP l).1 = []) from rfl)
  have HU := Lib.hid hu1
  have HW := Lib.hid hw1
  clear hw hu1 hx1 hw1 f0 f1
  go_enter Tryd.func42, Tryd.ntmps42
  go_wp2_with fail
  rw [← HW.out]
  refine HN.out.mono ?_
  rintro e w2 ⟨rfl, -, hu⟩
  have HU2 : Hid (Upd (fun _ => False) w w2) := Lib.hid (HU.out.trans hu (fun i hi hl => by omega))
  clear hu c0 c1
  go_wp2_with fail
  go_ret
  refine ⟨ret_bool ?_, HU2.out⟩
  rw [HP.out, ← HE.out]
theorem tNeed (l : By) (bad q : Bool) (b : Nat) (w : World) (hw : Wb w b l bad) :
    Calls Tryd.prog 79 #[.pointer (some ⟨b, 0, none⟩), .bool q] w fun e w' => e = .returned (.tuple #[]) ∧ Wb w' b l (bad || !q) ∧ Upd (fun k => k = b) w w' := by
  obtain ⟨c0, c1, f0, f1⟩ := hw.cell
  have HW := Lib.hid hw
  clear hw c0 f0
  cases bad <;> cases q
  all_goals
    go_enter Tryd.func79, Tryd.ntmps79
    go_wp2_with fail
    first | (refine bodyPost_end (results_none rfl _ _ _) rfl ?_) | (simp only [Exit.inBlock, Exit.then]; refine bodyPost_end (results_none rfl _ _ _) rfl ?_)
    exact ⟨rfl, HW.out.set1, upd_one b 1 _ (Upd.refl _ _)⟩
/-- a kind's word -/
def kindS (k : Nat) : By := match k with
  | 0 => [110, 111, 110, 101]
  | 1 => [112, 117, 98]
  | 2 => [115, 101, 99]
  | 3 => [112, 117, 98, 97]
  | 4 => [115, 101, 99, 97]
  | _ => []
def kindN (k : Int) : By := match decide (0 ≤ k) with
  | true => kindS k.toNat
  | false => []
/-- the kind of a word; -1 of others -/
def kindP (l : By) : Int := match (List.range 5).find? (fun k => decide (kindS k = l)) with
  | some k => (k : Int)
  | none => -1
theorem tKindName (k : Nat) (hk : k ≤ 4) (w : World) : Calls Tryd.prog 11 #[.int .i64 k] w fun e w' => e = .returned (.string (bs (kindS k))) ∧ w = w' := by
  rcases (by omega : k = 0 ∨ k = 1 ∨ k = 2 ∨ k = 3 ∨ k = 4) with rfl | rfl | rfl | rfl | rfl
  all_goals
    go_enter Tryd.func11, Tryd.ntmps11
    go_wp2_with fail
    go_ret
    exact ⟨rfl, rfl⟩
theorem tKindName_no (k : Int) (hk : k < 0 ∨ 4 < k) (w : World) : Calls Tryd.prog 11 #[.int .i64 k] w fun e w' => e = .returned (.string (bs [])) ∧ w = w' := by
  have e0 : (k == 0) = false := by simp; omega
  have e1 : (k == 1) = false := by simp; omega
  have e2 : (k == 2) = false := by simp; omega
  have e3 : (k == 3) = false := by simp; omega
  have e4 : (k == 4) = false := by simp; omega
  go_enter Tryd.func11, Tryd.ntmps11
  go_wp2_with fail
  go_ret
  exact ⟨rfl, rfl⟩
theorem range_find {p : Nat → Bool} {k : Nat} (hk : k < 5) (h : (List.range k).find? p = none) (hp : p k = true) : (List.range 5).find? p = some k := by
  have : List.range 5 = List.range k ++ (k :: (List.range (5 - k - 1)).map (fun i => k + 1 + i)) := by
    rcases (by omega : k = 0 ∨ k = 1 ∨ k = 2 ∨ k = 3 ∨ k = 4) with rfl | rfl | rfl | rfl | rfl <;> rfl
  rw [this, List.find?_append, h]
  simp [hp]
theorem range_miss {p : Nat → Bool} {k : Nat} (h : (List.range k).find? p = none) (hp : p k = false) : (List.range (k + 1)).find? p = none := by
  rw [List.range_succ, List.find?_append, h]
  simp [hp]
set_option maxHeartbeats 1000000 in
theorem tKind (l : By) (w : World) : Calls Tryd.prog 12 #[.string (bs l)] w fun e w' => e = .returned (.int .i64 (kindP l)) ∧ w = w' := by
  go_enter Tryd.func12, Tryd.ntmps12
  go_wp2_with fail
  go_loop [4, 3] (fun i _ => ∃ k : Nat, k ≤ 5 ∧ i = .int .i64 k ∧ Hid ((List.range k).find? (fun k => decide (kindS k = l)) = none)) (fun i _ => 5 - (intOf i).toNat)
  case atStart => exact ⟨0, by omega, rfl, rfl⟩
  case round =>
    obtain ⟨k, hk, rfl, HF⟩ := hrel
    have hki : (0 : Int) ≤ (k : Int) := Int.natCast_nonneg _
    by_cases hlt : k < 5
    · have HQ := Lib.hid (bs_same (kindS k) l)
      by_cases hq : kindS k = l
      · have hs : ((bs (kindS k)).toList == (bs l).toList) = true := by rw [HQ.out]; simpa using hq
        have HR : Hid (kindP l = k) := Lib.hid (by unfold kindP; rw [range_find hlt HF.out (by simpa using hq)])
        clear hq
        go_wp2_with ((with_reducible refine (tKindName k (by omega) _).mono ?_); rintro e w' ⟨rfl, rfl⟩)
        go_ret
        exact ⟨ret_i64 HR.out.symm, rfl⟩
      · have hs : ((bs (kindS k)).toList == (bs l).toList) = false := by rw [HQ.out]; simpa using hq
        have HF2 := Lib.hid (range_miss HF.out (by simpa using hq))
        clear hq
        go_wp2_with ((with_reducible refine (tKindName k (by omega) _).mono ?_); rintro e w' ⟨rfl, rfl⟩)
        go_round
        case rel => exact ⟨k + 1, by omega, by go_num, HF2⟩
        case measure => simp [intOf]; omega
    · obtain rfl : k = 5 := by omega
      have HR : Hid (kindP l = -1) := Lib.hid (by unfold kindP; rw [HF.out])
      go_wp2_with fail
      go_ret
      exact ⟨ret_i64 HR.out.symm, rfl⟩
/-- a sign ahead -/
def cutP (l : By) : By × Bool := match l with
  | [] => ([], false)
  | b :: t => match b == 45 with
    | true => (t, true)
    | false => (b :: t, false)
theorem cut_yes (l : By) (h : (cutP l).2 = true) : 1 ≤ l.length ∧ l.take 1 = [45] ∧ (cutP l).1 = l.drop 1 := by
  cases l with
  | nil => cases h
  | cons b t =>
    cases hb : b == 45 with
    | true => exact ⟨by simp, by simpa using hb, by simp [cutP, hb]⟩
    | false => simp [cutP, hb] at h
theorem cut_no (l : By) (h : (cutP l).2 = false) : (cutP l).1 = l ∧ l.take 1 ≠ [45] := by
  cases l with
  | nil => exact ⟨rfl, by simp⟩
  | cons b t =>
    cases hb : b == 45 with
    | true => simp [cutP, hb] at h
    | false => exact ⟨by simp [cutP, hb], by simpa using hb⟩
theorem tPre (l : By) (w : World) : Calls Tryd.prog 126 #[.string (bs l), .string { data := #[45] }] w fun e w' => e = .returned (.bool (cutP l).2) ∧ w = w' := by
  have HSZ := Lib.hid (bs_size l)
  have h1 : (({ data := #[45] } : ByteArray)).size = 1 := rfl
  have HX : Hid (((bs l).extract 0 1).toList = l.take 1) := Lib.hid (by rw [bs_ext, bs_list]; simp)
  cases hc : (cutP l).2 with
  | true =>
    obtain ⟨k1, k2, -⟩ := cut_yes l hc
    have hg : (1 : Int) ≤ ((bs l).size : Int) := by rw [bs_size]; omega
    have he : (((bs l).extract 0 1).toList == [45]) = true := by rw [HX.out, k2]; rfl
    clear hc k1 k2
    go_enter Tryd.func126, Tryd.ntmps126
    go_wp2_with fail
    go_ret
    exact ⟨rfl, rfl⟩
  | false =>
    obtain ⟨-, k2⟩ := cut_no l hc
    have he : (((bs l).extract 0 1).toList == [45]) = false := by rw [HX.out]; simpa using k2
    clear hc k2
    by_cases hl : 1 ≤ l.length
    · have hg : (1 : Int) ≤ ((bs l).size : Int) := by rw [bs_size]; omega
      go_enter Tryd.func126, Tryd.ntmps126
      go_wp2_with fail
      go_ret
      exact ⟨rfl, rfl⟩
    · have hg : ¬ (1 : Int) ≤ ((bs l).size : Int) := by rw [bs_size]; omega
      go_enter Tryd.func126, Tryd.ntmps126
      go_wp2_with fail
      go_ret
      exact ⟨rfl, rfl⟩
theorem tCut (l : By) (w : World) : Calls Tryd.prog 116 #[.string (bs l), .string { data := #[45] }] w fun e w' => e = .returned (.tuple #[.string (bs (cutP l).1), .bool (cutP l).2]) ∧ w = w' := by
  have H : Hid (∀ w : World, Calls Tryd.prog 123 #[.string (bs l), .string { data := #[45] }] w fun e w' => e = .returned (.tuple #[.string (bs (cutP l).1), .bool (cutP l).2]) ∧ w = w') := Lib.hid (fun w => by
    cases hc : (cutP l).2 with
    | true =>
      obtain ⟨k1, k2, k3⟩ := cut_yes l hc
      have HC := Lib.hid hc
      have HE : Hid ((bs l).extract 1 (bs l).size = bs (cutP l).1) := Lib.hid (by rw [k3, bs_ext, bs_size, List.take_of_length_le (by simp)])
      have hg : (1 : Int) ≤ ((bs l).size : Int) := by rw [bs_size]; omega
      clear hc k2 k3
      go_enter Tryd.func123, Tryd.ntmps123
      go_wp2_with (refine (tPre l _).mono ?_; rw [HC.out]; rintro e w' ⟨rfl, rfl⟩)
      refine bodyPost_ret (v := .tuple #[.string (bs (cutP l).1), .bool true]) (by simp only [results, Tryd.f123]; simp [go_sem, HE.out]) rfl ?_
      exact ⟨rfl, rfl⟩
    | false =>
      obtain ⟨k1, k2⟩ := cut_no l hc
      have HC := Lib.hid hc
      have HE := Lib.hid k1
      clear hc k1 k2
      go_enter Tryd.func123, Tryd.ntmps123
      go_wp2_with (refine (tPre l _).mono ?_; rw [HC.out]; rintro e w' ⟨rfl, rfl⟩)
      refine bodyPost_ret (v := .tuple #[.string (bs (cutP l).1), .bool false]) (by simp only [results, Tryd.f123]; simp [go_sem, HE.out]) rfl ?_
      exact ⟨rfl, rfl⟩)
  go_enter Tryd.func116, Tryd.ntmps116
  go_wp2_with (refine (H.out _).mono ?_; rintro e w' ⟨rfl, rfl⟩)
  refine bodyPost_ret (v := .tuple #[.string (bs (cutP l).1), .bool (cutP l).2]) (by simp only [results, Tryd.f116]; simp [go_sem]) rfl ?_
  exact ⟨rfl, rfl⟩
end Go.Proofs.YtiadkidhfhkokaaDoor

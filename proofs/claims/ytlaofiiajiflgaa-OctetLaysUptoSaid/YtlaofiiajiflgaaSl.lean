/- Slices of bytes: bytes.Clone, the Writer's Bytes, the hand's Pick and Few, and the chapter's example. -/
import Derived.Test.YtlaofiiajiflgaaWr
import Derived.OpenShut
import Derived.Lib.SlBytesConst
namespace Go.Proofs.Ytlaofiiajiflgaa
open Go.RowKit
set_option linter.unusedVariables false

/-- a new slice of these bytes, in memory of its own -/
def New (w : World) (x : Value) (ys : List Int) (w' : World) : Prop :=
  w'.ownsRow 0 5 1 x ys.length (bv ys) ∧ Upd (fun _ => False) w w' ∧ ∀ k, x.ownBlock = some k → w.heap.size ≤ k
theorem New.vw {w w' : World} {x : Value} {ys : List Int} (h : New w x ys w') (hb : ∀ y ∈ ys, 0 ≤ y ∧ y ≤ 255) : Vw w' x ys := vw_of_row h.1 hb

/-- append([]byte{}, x...) -/
theorem new_of {w w1 : World} {v' : Value} {ys : List Int} (ho : w1.ownsRow 0 5 1 v' ys.length (bv ys)) (hg : (w.alloc (.cells #[] 5)).grownBy w1 (Value.slice (some ⟨w.heap.size, 0, none⟩) 0 0).ownBlock)
    (hf : Fresh (w.alloc (.cells #[] 5)) (.slice (some ⟨w.heap.size, 0, none⟩) 0 0) v') : New w v' ys w1 := by
  refine ⟨ho, ?_, fun k hk => ?_⟩
  · exact (Upd.alloc _ w _).trans (T := fun k => k = w.heap.size) (Upd.grown hg (fun k hk => .inl (by simpa [Value.ownBlock] using hk.symm))) (fun i hi hlt => by omega)
  · rcases hf k hk with h | h
    · simp [Value.ownBlock] at h
      omega
    · simp at h
      omega

set_option maxHeartbeats 400000 in
theorem clone (w : World) (x : Value) (ys : List Int) (hy : Vw w x ys) (hn : ys.length ≤ 140737488355327) :
    Calls Try.prog 35 #[x] w fun e w' => ∃ v', e = .returned v' ∧ New w v' ys w' := by
  obtain ⟨i0, hi, hz0, hz1, hz2⟩ := info_parts info5
  obtain ⟨a, c, rfl, h1, h2⟩ := hy.slice
  cases a with
  | none =>
    obtain ⟨hl, rfl, rfl⟩ := vw_none hy
    have hq := fun u : World => Lib.run_eql_slice_nil (P := Try.prog) u 24 5 none 0 0 0 0 Try.underlying24
    go_enter Try.func35, Try.ntmps35
    go_wp2
    go_ret
    exact ⟨_, rfl, World.ownsRow_nil _ _ _ _, Upd.refl _ _, by simp [Value.ownBlock]⟩
  | some a =>
    have hsrc := hy.src.upd (Upd.alloc (fun _ => False) w (.cells #[] 5)) (fun _ _ h => h)
    have HO := Lib.hid (World.ownsRow_lit (base := 0) (e := 5) (size := 1) w #[] 0 (Nat.zero_le _) (by unfold maxLen; omega) rfl)
    have hq := fun u : World => Lib.run_eql_slice_nil (P := Try.prog) u 24 5 (some a) ys.length c 0 0 Try.underlying24
    go_enter Try.func35, Try.ntmps35
    go_wp2_with (at_builtin; go_loud (refine wpList_append_mine _ rfl _ _ 24 rfl 0 5 i0 (.int .u8 0) 1 1 Try.underlying24 hi hz0 hz1 hz2 rfl (by decide) (.slice (some ⟨w.heap.size, 0, none⟩) 0 0) 0 [] rfl HO.out ys.length (bv ys) hsrc (by unfold maxLen; omega) (by omega) (Nat.zero_le _) ?_))
    intro v' w1 ho hg hf
    have HN := Lib.hid (new_of ho hg hf)
    clear ho hg hf hsrc
    go_wp2
    go_ret
    exact ⟨_, rfl, HN.out⟩

set_option maxHeartbeats 400000 in
theorem bytesOf (w : World) (b : Nat) (v : Value) (xs : List Int) (h : Wr 52 w b v xs) (hn : xs.length ≤ 140737488355327) :
    Calls Try.prog 16 #[.pointer (some ⟨b, 0, none⟩)] w fun e w' => ∃ v', e = .returned v' ∧ New w v' xs w' := by
  have hc := h.cell
  have HV := Lib.hid h.vw
  go_enter Try.func16, Try.ntmps16
  go_wp2_with fail
  refine (clone _ v xs HV.out hn).mono ?_
  rintro e w1 ⟨v', rfl, hN⟩
  have HN := Lib.hid hN
  clear hN
  go_wp2_with fail
  go_ret
  exact ⟨_, rfl, HN.out⟩

theorem tmod_pick {n m : Int} (h0 : 0 < m) : (0 ≤ n.tmod m ∧ n.tmod m = n % m) ∨ (n.tmod m < 0 ∧ n.tmod m + m = n % m ∧ -m < n.tmod m) := by
  rcases Int.lt_or_le n 0 with hn | hn
  · have e2 : n.tmod m = -((-n) % m) := by
      have := Int.neg_tmod (a := -n) (b := m)
      rw [Int.neg_neg] at this
      rw [this, Int.tmod_eq_emod_of_nonneg (by omega)]
    have e3 := Int.emod_nonneg (-n) (show m ≠ 0 by omega)
    have e4 := Int.emod_lt_of_pos (-n) h0
    have e5 := Int.emod_add_mul_ediv (-n) m
    generalize hr : (-n) % m = r at *
    generalize (-n) / m = q at *
    rw [e2]
    by_cases hz : r = 0
    · left
      subst hz
      have : n = m * (-q) := by rw [Int.mul_neg]; omega
      rw [this, Int.mul_emod_right]
      exact ⟨by omega, rfl⟩
    · right
      have : n = (m - r) + m * (-q - 1) := by rw [Int.mul_sub, Int.mul_neg]; omega
      rw [this, Int.add_mul_emod_self_left, Int.emod_eq_of_lt (by omega) (by omega)]
      exact ⟨by omega, by omega, by omega⟩
  · left
    rw [Int.tmod_eq_emod_of_nonneg hn]
    exact ⟨Int.emod_nonneg n (by omega), rfl⟩

theorem ret_int {k : IntKind} {a b : Int} (h : a = b) : Ending.returned (.int k a) = .returned (.int k b) := by rw [h]
/-- Pick: as a number from 0 to m - 1 -/
theorem pick (w : World) (n m : Int) (wn : (Lit.int .i64 n).wf = true) (h0 : 0 < m) (h1 : m ≤ 1000000) :
    Calls Try.prog 17 #[.int .i64 n, .int .i64 m] w fun e w' => e = .returned (.int .i64 (n % m)) ∧ w = w' := by
  have hb := bounds_i64 wn
  have h2 : ((m : Int) == 0) = false := by simp; omega
  have HM := Lib.hid (tmod_pick (n := n) h0)
  have hlo : -m < n.tmod m ∧ n.tmod m < m := by
    have := Int.emod_lt_of_pos n h0
    rcases HM.out with ⟨a, b⟩ | ⟨a, b, c⟩ <;> omega
  obtain ⟨hlo1, hlo2⟩ := hlo
  by_cases hn : n.tmod m < 0
  · have hr : n.tmod m + m = n % m := by rcases HM.out with ⟨a, b⟩ | ⟨a, b, c⟩ <;> omega
    have HR := Lib.hid hr
    clear hr
    go_enter Try.func17, Try.ntmps17
    go_wp2
    go_ret
    exact ⟨ret_int HR.out, rfl⟩
  · have hr : n.tmod m = n % m := by rcases HM.out with ⟨a, b⟩ | ⟨a, b, c⟩ <;> omega
    have HR := Lib.hid hr
    clear hr
    go_enter Try.func17, Try.ntmps17
    go_wp2
    go_ret
    exact ⟨ret_int HR.out, rfl⟩

set_option maxHeartbeats 400000 in
theorem few (w : World) (x : Value) (ys : List Int) (n : Int) (hy : Vw w x ys) (hn : ys.length ≤ 140737488355327 ∨ n ≤ 140737488355327) (h0 : 0 ≤ n) (hm : n ≤ 9223372036854775807) :
    Calls Try.prog 27 #[x, .int .i64 n] w fun e w' => ∃ v', e = .returned v' ∧ New w v' (ys.take n.toNat) w' := by
  obtain ⟨i0, hi, hz0, hz1, hz2⟩ := info_parts info5
  obtain ⟨a, c, rfl, h1, h2⟩ := hy.slice
  have HO := Lib.hid (World.ownsRow_lit (base := 0) (e := 5) (size := 1) w #[] 0 (Nat.zero_le _) (by unfold maxLen; omega) rfl)
  unfold maxLen at h2
  obtain ⟨k, rfl⟩ := Int.eq_ofNat_of_zero_le h0
  have hal := Upd.alloc (fun _ => False) w (.cells #[] 5)
  by_cases hk : k < ys.length
  · have hsrc := ((hy.take rfl k (by omega)).src).upd hal (fun _ _ h => h)
    have hl : (ys.take k).length = k := by simp; omega
    rw [hl] at hsrc
    have HS := Lib.hid hsrc
    have HL := Lib.hid hl
    clear hsrc hl hal
    have hb9 : min k ys.length ≤ 140737488355327 := by omega
    clear hn
    go_enter Try.func27, Try.ntmps27
    go_wp2_with (at_builtin; go_loud (refine wpList_append_mine _ rfl _ _ 24 rfl 0 5 i0 (.int .u8 0) 1 1 Try.underlying24 hi hz0 hz1 hz2 rfl (by decide) (.slice (some ⟨w.heap.size, 0, none⟩) 0 0) 0 [] rfl HO.out k (bv (ys.take k)) HS.out (by unfold maxLen; omega) (by omega) (Nat.zero_le _) ?_))
    intro v' w1 ho hg hf
    have HN : Hid (New w v' (ys.take k) w1) := Lib.hid (new_of (by rw [HL.out]; exact ho) hg hf)
    clear ho hg hf
    go_wp2
    go_ret
    exact ⟨_, rfl, by simpa using HN.out⟩
  · have hsrc := hy.src.upd hal (fun _ _ h => h)
    have HS := Lib.hid hsrc
    clear hsrc hal
    have hb9 : min k ys.length ≤ 140737488355327 := by omega
    clear hn
    go_enter Try.func27, Try.ntmps27
    go_wp2_with (at_builtin; go_loud (refine wpList_append_mine _ rfl _ _ 24 rfl 0 5 i0 (.int .u8 0) 1 1 Try.underlying24 hi hz0 hz1 hz2 rfl (by decide) (.slice (some ⟨w.heap.size, 0, none⟩) 0 0) 0 [] rfl HO.out ys.length (bv ys) HS.out (by unfold maxLen; omega) (by omega) (Nat.zero_le _) ?_))
    intro v' w1 ho hg hf
    have HN : Hid (New w v' ys w1) := Lib.hid (new_of ho hg hf)
    clear ho hg hf
    go_wp2
    go_ret
    exact ⟨_, rfl, by have e : ys.take (Int.toNat (k : Int)) = ys := List.take_of_length_le (by simp; omega); rw [e]; exact HN.out⟩



theorem vw_lit (u : World) (e : TypeId) (fr : Nat × Nat) (ys : List Int) (C : Array Value) (n c : Nat) (hC : C = (bv ys).toArray) (hn : n = ys.length) (hc : n ≤ c) (hm : c ≤ maxLen) (hr : ∀ y ∈ ys, 0 ≤ y ∧ y ≤ 255) :
    Vw (u.alloc (.cells C e fr)) (.slice (some ⟨u.heap.size, 0, none⟩) n c) ys := by
  subst hn hC
  refine ⟨hr, .inr ⟨_, _, _, rfl, hc, hm, fun j hj => ?_⟩⟩
  show (match (u.heap.push _)[u.heap.size]? with | some (.cells c _ _) => _ | _ => _) = _
  simp [bv, hj]

/-- n zeros, as cells -/
def zerosA (n : Nat) : Array Value := (bv (List.replicate n 0)).toArray
theorem run_zeros (u : World) (n : Nat) (N : Int) (hN : N = n) (hn : n ≤ 1048576) : (Instr.makeSlice 24 (.int .i64 N) (.int .i64 N)).run Try.prog u = .ok (.slice (some ⟨u.heap.size, 0, none⟩) n n) (u.alloc (.cells (zerosA n) 5)) := by
  subst hN
  obtain ⟨i0, hi, hz0, hz1, hz2⟩ := info_parts info5
  have h := run_make (P := Try.prog) u 24 5 i0 (.int .u8 0) Try.underlying24 hi hz0 .i64 .i64 (n : Int) (n : Int) (by omega) (Int.le_refl _) (by rw [hz2]; omega) (by omega)
  have e : ((n : Int)).toNat = n := by omega
  rw [e] at h
  have e2 : madeCells (Value.int IntKind.u8 0).cells (n * i0.size) = zerosA n := by
    apply Array.ext'
    rw [hz1, Nat.mul_one]
    show (madeCells #[Value.int IntKind.u8 0] n).toList = _
    rw [toList_madeCells_one]
    simp [zerosA, bv]
  rw [e2] at h
  exact h
theorem vw_zeros (u : World) (n : Nat) (hn : n ≤ 1048576) : Vw (u.alloc (.cells (zerosA n) 5)) (.slice (some ⟨u.heap.size, 0, none⟩) n n) (List.replicate n 0) :=
  vw_lit u _ (0, 0) _ _ n n rfl (by simp) (by omega) (by unfold maxLen; omega) (by intro y hy; have := List.eq_of_mem_replicate hy; omega)

set_option maxHeartbeats 1000000 in
theorem known (w : World) : Calls Try.prog 9 #[] w fun e w' => e = .returned (.bool true) ∧ Upd (fun _ => False) w w' := by
  have kc := fun (w : World) (C : Array Value) (n c : Nat) => Lib.run_convert_bytes_const (P := Try.prog) w 24 5 C n c Try.underlying24 Try.underlying5
  go_enter Try.func9, Try.ntmps9
  go_wp2_with fail
  refine (newWriter _).mono ?_
  rintro e w1 ⟨rfl, hw1, hu1⟩
  have HW1 := Lib.hid hw1
  have HU1 := Lib.hid hu1
  clear hw1 hu1
  go_wp2_with fail
  refine (wU16 _ _ _ [] 258 HW1.out (by simp)).mono ?_
  rintro e w2 ⟨rfl, v2, hw2, hu2, hf2⟩
  have HW2 := Lib.hid hw2
  have HU2 := Lib.hid (HU1.out.trans hu2 (fun i hi hlt => by
    rcases hi with rfl | h
    · omega
    · simp [Value.ownBlock] at h))
  have hsz : w.heap.size < w2.heap.size := HW2.out.lt
  have HF2 := Lib.hid hf2
  clear hw2 hu2 hf2
  go_wp2_with fail
  have hal := Upd.alloc (fun _ => False) w2 (.cells #[Value.int IntKind.u8 97, Value.int IntKind.u8 98] 5 (2, 3))
  have hw3 := HW2.out.upd hal (fun _ _ h => h)
  refine (short _ _ _ _ _ [97, 98] hw3 (vw_lit w2 5 (2, 3) [97, 98] _ 2 2 rfl rfl (by omega) (by unfold maxLen; omega) (by decide)) (fun w' hu => (vw_lit w2 5 (2, 3) [97, 98] _ 2 2 rfl rfl (by omega) (by unfold maxLen; omega) (by decide)).upd hu ?_) (by decide) (by decide)).mono ?_
  · intro k hk hfp
    simp [Value.ownBlock] at hk
    subst hk
    rcases hfp with h | h
    · omega
    · have := (HW2.out.own.lt _ h).2
      omega
  rintro e w3 ⟨rfl, v3, hw3', hu3, hf3⟩
  have HW3 := Lib.hid hw3'
  have HU3 := Lib.hid ((HU2.out.trans hal (fun _ h _ => h)).trans hu3 (fun i hi hlt => by
    have hle := HU2.out.size
    rcases hi with rfl | h
    · omega
    · rcases HF2.out i h with h | h
      · simp [Value.ownBlock] at h
      · have := HU1.out.size
        omega))
  clear hw3 hw3' hu3 hf3 hal
  go_wp2_with fail
  refine (bytesOf _ _ _ _ HW3.out (by simp)).mono ?_
  rintro e w4 ⟨v4, rfl, hN⟩
  obtain ⟨a4, c4, rfl⟩ := ownsRow_slice hN.1
  have hstr := run_str (src := 24) (e := 5) (dst := 9) Try.underlying24 Try.underlying5 Try.underlying9 (hN.vw HW3.out.byte)
  rw [show strOfNums ([] ++ [(258 : Int) / 256 % 256, 258 % 256] ++ [((([97, 98] : List Int).length : Nat) : Int), 97, 98]) = ⟨#[1, 2, 2, 97, 98]⟩ from by decide] at hstr
  have hstr5 : (convert 24 9 (.slice a4 5 c4)).run Try.prog w4 = .ok (.string ⟨#[1, 2, 2, 97, 98]⟩) w4 := hstr
  clear hstr
  have HU4 := Lib.hid (HU3.out.trans hN.2.1 (fun _ h _ => h))
  clear hN
  go_wp2
  go_ret
  exact ⟨rfl, HU4.out⟩

end Go.Proofs.Ytlaofiiajiflgaa

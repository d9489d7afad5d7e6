/- The reference's Decode, and the walk of ThumbDecodes. -/
import Derived.Test.YtkdmppgjmmmclaaZV
import Derived.Test.YtkdmppgjmmmclaaZW
import Derived.Test.YtkdmppgjmmmclaaZC
namespace Go.Proofs.Ytkdmppgjmmmclaa
open Go.RowKit
set_option linter.unusedVariables false
set_option linter.unusedSimpArgs false

/-- what the reference counts -/
def rnA (d : I6 × Int × Int) : Int := if d.2.2 = 0 then d.2.1 else if d.2.2 = 7 then 0 else -1
theorem qDecode (v : Value) (hs : List Nat) (w : World) (hv : VwH w v hs) : Calls Try.prog 19 #[v] w fun e w' => e = .returned (.tuple #[(decA hs).1.val, .int .i64 (rnA (decA hs))]) ∧ New w w' := by
  obtain ⟨hy, hv⟩ := hv
  cases hs with
  | nil =>
    obtain ⟨a, c, rfl⟩ : ∃ a c, v = .slice a 0 c := by
      rcases hv with ⟨⟨a, rfl⟩, _⟩ | ⟨g, off, c, rfl, _⟩
      · exact ⟨a, 0, rfl⟩
      · exact ⟨_, c, rfl⟩
    exact qNil a c w
  | cons h t =>
    obtain ⟨g, off, c, rfl, hn, hm, hc⟩ : ∃ g off c, v = .slice (some ⟨g, off, none⟩) (t.length + 1) c ∧ t.length + 1 ≤ c ∧ c ≤ maxLen ∧ ∀ j, j < t.length + 1 → w.cell? ⟨g, off + j, none⟩ = some (.int .u16 (((h :: t).getD j 0 : Nat) : Int)) := by
      rcases hv with ⟨_, h0⟩ | h0
      · cases h0
      · exact h0
    have hh : h < 65536 := hy h (by simp)
    have c0 : w.cell? ⟨g, off, none⟩ = some (.int .u16 (h : Int)) := hc 0 (by omega)
    by_cases hf : h / 2048 = 30
    · have hF : isFarB h = true := (isFar_iff h).2 hf
      cases t with
      | nil =>
        have hd : decA [h] = (I6.zero, 0, 7) := by simp [decA, hF, decFarA]
        rw [hd]
        exact qShort h hh hf g off c hn hm w c0
      | cons y u =>
        have c1 : w.cell? ⟨g, off + 1, none⟩ = some (.int .u16 (y : Int)) := hc 1 (by simp)
        have := qFar h y hh (hy y (by simp)) hf g off ((y :: u).length + 1) c (by simp) hn hm w c0 c1
        cases he : endsB y
        · have hd : decA (h :: y :: u) = (I6.zero, 0, 8) := by simp [decA, hF, decFarA, he]
          rw [hd]
          rw [he] at this
          exact this
        · have hd : decA (h :: y :: u) = (⟨43, 0, 0, 0, farP h y, 0⟩, 2, 0) := by simp [decA, hF, decFarA, he]
          rw [hd]
          rw [he] at this
          exact this
    · have hF : isFarB h = false := by
        cases hq : isFarB h
        · rfl
        · exact absurd ((isFar_iff h).1 hq) hf
      have := qDecode1 h hh hf none g off (t.length + 1) c t rfl hn hm w c0
      have hr := dec_ref hh hf
      unfold refDec at hr
      cases hR : refR (refI h)
      · rw [hR] at hr
        have hd : decA (h :: t) = (I6.zero, 0, 8) := by
          have h2 : decP h = none := by rw [hr]; rfl
          simp [decA, hF, h2]
        rw [hd]
        unfold refV at this
        rw [hR] at this
        exact this
      · rw [hR] at hr
        have hd : decA (h :: t) = (refI h, 1, 0) := by
          have h2 : decP h = some (refI h) := by rw [hr]; rfl
          simp [decA, hF, h2]
        rw [hd]
        unfold refV at this
        rw [hR] at this
        exact this
theorem dec_cases (hs : List Nat) : ∃ (j : I6) (n f : Int), decA hs = (j, n, f) ∧ ((f = 0 ∧ n = 1) ∨ (f = 0 ∧ n = 2) ∨ (f = 7 ∧ n = 0) ∨ (f = 8 ∧ n = 0)) := by
  cases hs with
  | nil => exact ⟨_, _, _, rfl, by simp⟩
  | cons h t =>
    cases hF : isFarB h
    · cases hd : decP h with
      | none => exact ⟨I6.zero, 0, 8, by simp [decA, hF, hd], by simp⟩
      | some i => exact ⟨i, 1, 0, by simp [decA, hF, hd], by simp⟩
    · cases t with
      | nil => exact ⟨I6.zero, 0, 7, by simp [decA, hF, decFarA], by simp⟩
      | cons y u =>
        cases he : endsB y
        · exact ⟨I6.zero, 0, 8, by simp [decA, hF, decFarA, he], by simp⟩
        · exact ⟨⟨43, 0, 0, 0, farP h y, 0⟩, 2, 0, by simp [decA, hF, decFarA, he], by simp⟩
theorem qDecodeL (v : Value) (hs : List Nat) (w : World) (hv : VwH w v hs) (j : I6) (n f rn : Int) (hd : decA hs = (j, n, f)) (hr : rnA (j, n, f) = rn) : Calls Try.prog 19 #[v] w fun e w' => e = .returned (.tuple #[j.val, .int .i64 rn]) ∧ New w w' := by
  have := qDecode v hs w hv
  rw [hd, hr] at this
  exact this
set_option maxRecDepth 20000 in
set_option maxHeartbeats 8000000 in
theorem thumbDecodes_walk (w : World) (v : Value) (ys : List Nat) (a b : Nat) (far : Bool) (hv : VwH w v ys) (hl : ys.length ≤ 70368744175616) (ha : a < 65536) (hb : b < 65536) :
    Calls Try.prog 5 #[v, .int .u16 (a : Int), .int .u16 (b : Int), .bool far] w fun e w' => e = .returned (.bool true) ∧ New w w' := by
  have HV0 := Lib.hid hv
  obtain ⟨i0, hi, hz0, hz1, hz2⟩ := info_parts info_u16
  obtain ⟨va, vc, rfl, -⟩ := hv.slice
  obtain ⟨m, hm⟩ : ∃ m, ys.length = m := ⟨_, rfl⟩
  rw [hm] at HV0 hl ⊢
  have HMM := Lib.hid hm
  have HO := Lib.hid (World.ownsRow_lit (base := 0) (e := 27) (size := 1) w #[.int .u16 (a : Int)] 1 (Nat.zero_le _) (by unfold maxLen; omega) rfl)
  have HN0 := Lib.hid (New.alloc w (.cells #[.int .u16 (a : Int)] 27))
  have HS := Lib.hid (VwH.src (HV0.out.new HN0.out))
  rw [HMM.out] at HS
  clear hv hm
  go_enter Try.func5, Try.ntmps5
  go_wp2_with (at_builtin; go_loud (refine wpList_append_mine _ rfl _ _ 28 rfl 0 27 i0 (.int .u16 0) 1 2 Try.underlying28 hi hz0 hz1 hz2 rfl (by decide) (.slice (some ⟨w.heap.size, 0, none⟩) 1 1) 1 [.int .u16 (a : Int)] rfl HO.out m (hvl ys) HS.out (by unfold maxLen; omega) (by omega) (Nat.zero_le _) ?_))
  intro v3 w3 ho hg hf
  have HN3 := Lib.hid (New.row2 HN0.out hg (fun k hk => by simp [Value.ownBlock] at hk; omega))
  obtain ⟨a3, c3, rfl⟩ := ownsRow_slice ho
  have HV3 : Hid (VwH w3 (.slice a3 (1 + m) c3) (a :: ys)) := Lib.hid (vwh_of_row (base := 0) (e := 27) (by
    rw [List.length_cons, HMM.out, Nat.add_comm m 1]
    exact ho) (fun y hy => by
      rcases List.mem_cons.1 hy with h | h
      · omega
      · exact HV0.out.1 y h))
  clear ho hg hf HO HN0 HS
  cases far
  · by_cases hm40 : 40 < m
    · have g1 : decide ((m : Int) > 40) = true := by simp; omega
      have g2 : decide ((40 : Int) < (m : Int)) = true := by simp; omega
      obtain ⟨hs, hhs⟩ : ∃ hs : List Nat, hs = [] := ⟨_, rfl⟩
      have HV : Hid (VwH w3 (.slice none 0 0) hs) := Lib.hid (by rw [hhs]; exact VwH.nil _ _)
      have HW := HN3
      clear hhs
      go_wp2_with fail
      refine (tDecode _ hs _ HV.out).mono ?_
      rintro e w5 ⟨rfl, h5⟩
      obtain ⟨j, n', f, hd, hcase⟩ := dec_cases hs
      rw [hd]
      have HD := Lib.hid hd
      have HV5 := Lib.hid (HV.out.new (New.trans h5 (New.alloc w5 (.cells j.cells 23))))
      have HW5 := Lib.hid (New.trans HW.out (New.trans h5 (New.alloc w5 (.cells j.cells 23))))
      have hq : ∀ u, (binOp .eql 23 (.agg #[.int .i64 j.op, .int .i64 j.d, .int .i64 j.n, .int .i64 j.m, .int .i64 j.imm, .int .i64 j.cond]) (.agg #[.int .i64 j.op, .int .i64 j.d, .int .i64 j.n, .int .i64 j.m, .int .i64 j.imm, .int .i64 j.cond])).run Try.prog u = .ok (.bool true) u := fun u => by rw [insEql]; simp
      clear hd h5 HV HW
      rcases hcase with ⟨rfl, rfl⟩ | ⟨rfl, rfl⟩ | ⟨rfl, rfl⟩ | ⟨rfl, rfl⟩
      · go_wp2_with fail
        refine (qDecodeL _ hs _ HV5.out j _ _ (1) HD.out rfl).mono ?_
        rintro e w6 ⟨rfl, h6⟩
        obtain ⟨hlt, c0, c1, c2, c3, c4, c5⟩ := I6.kept h6
        have HW6 := Lib.hid (New.trans HW5.out (New.trans h6 (New.alloc w6 (.cells j.cells 23))))
        clear h6 HV5 HW5
        go_wp2_with fail
        refine (known14 _).mono ?_
        rintro e w8 ⟨rfl, h8⟩
        obtain ⟨hlt8, y0, y1, y2, y3, y4, y5⟩ := I6.kept h8
        have h9 := New.trans (New.alloc w6 (.cells j.cells 23)) h8
        replace c0 := h9.keep c0
        replace c1 := h9.keep c1
        replace c2 := h9.keep c2
        replace c3 := h9.keep c3
        replace c4 := h9.keep c4
        replace c5 := h9.keep c5
        have HW8 := Lib.hid (New.trans HW6.out h8)
        clear h8 h9 HW6
        go_wp2_with fail
        go_ret
        exact ⟨rfl, HW8.out⟩
      · go_wp2_with fail
        refine (qDecodeL _ hs _ HV5.out j _ _ (2) HD.out rfl).mono ?_
        rintro e w6 ⟨rfl, h6⟩
        obtain ⟨hlt, c0, c1, c2, c3, c4, c5⟩ := I6.kept h6
        have HW6 := Lib.hid (New.trans HW5.out (New.trans h6 (New.alloc w6 (.cells j.cells 23))))
        clear h6 HV5 HW5
        go_wp2_with fail
        refine (known14 _).mono ?_
        rintro e w8 ⟨rfl, h8⟩
        obtain ⟨hlt8, y0, y1, y2, y3, y4, y5⟩ := I6.kept h8
        have h9 := New.trans (New.alloc w6 (.cells j.cells 23)) h8
        replace c0 := h9.keep c0
        replace c1 := h9.keep c1
        replace c2 := h9.keep c2
        replace c3 := h9.keep c3
        replace c4 := h9.keep c4
        replace c5 := h9.keep c5
        have HW8 := Lib.hid (New.trans HW6.out h8)
        clear h8 h9 HW6
        go_wp2_with fail
        go_ret
        exact ⟨rfl, HW8.out⟩
      · go_wp2_with fail
        refine (qDecodeL _ hs _ HV5.out j _ _ (0) HD.out rfl).mono ?_
        rintro e w6 ⟨rfl, h6⟩
        obtain ⟨hlt, c0, c1, c2, c3, c4, c5⟩ := I6.kept h6
        have HW6 := Lib.hid (New.trans HW5.out (New.trans h6 (New.alloc w6 (.cells j.cells 23))))
        clear h6 HV5 HW5
        go_wp2_with fail
        refine (known14 _).mono ?_
        rintro e w8 ⟨rfl, h8⟩
        obtain ⟨hlt8, y0, y1, y2, y3, y4, y5⟩ := I6.kept h8
        have h9 := New.trans (New.alloc w6 (.cells j.cells 23)) h8
        replace c0 := h9.keep c0
        replace c1 := h9.keep c1
        replace c2 := h9.keep c2
        replace c3 := h9.keep c3
        replace c4 := h9.keep c4
        replace c5 := h9.keep c5
        have HW8 := Lib.hid (New.trans HW6.out h8)
        clear h8 h9 HW6
        go_wp2_with fail
        go_ret
        exact ⟨rfl, HW8.out⟩
      · go_wp2_with fail
        refine (qDecodeL _ hs _ HV5.out j _ _ (-1) HD.out rfl).mono ?_
        rintro e w6 ⟨rfl, h6⟩
        obtain ⟨hlt, c0, c1, c2, c3, c4, c5⟩ := I6.kept h6
        have HW6 := Lib.hid (New.trans HW5.out (New.trans h6 (New.alloc w6 (.cells j.cells 23))))
        clear h6 HV5 HW5
        go_wp2_with fail
        refine (known14 _).mono ?_
        rintro e w8 ⟨rfl, h8⟩
        obtain ⟨hlt8, y0, y1, y2, y3, y4, y5⟩ := I6.kept h8
        have h9 := New.trans (New.alloc w6 (.cells j.cells 23)) h8
        replace c0 := h9.keep c0
        replace c1 := h9.keep c1
        replace c2 := h9.keep c2
        replace c3 := h9.keep c3
        replace c4 := h9.keep c4
        replace c5 := h9.keep c5
        have HW8 := Lib.hid (New.trans HW6.out h8)
        clear h8 h9 HW6
        go_wp2_with fail
        go_ret
        exact ⟨rfl, HW8.out⟩

    · have g1 : decide ((m : Int) > 40) = false := by simp; omega
      have g2 : decide ((40 : Int) < (m : Int)) = false := by simp; omega
      obtain ⟨hs, hhs⟩ : ∃ hs : List Nat, hs = (a :: ys) := ⟨_, rfl⟩
      have HV := HV3
      have HW := HN3
      rw [← hhs] at HV
      clear hhs
      go_wp2_with fail
      refine (tDecode _ hs _ HV.out).mono ?_
      rintro e w5 ⟨rfl, h5⟩
      obtain ⟨j, n', f, hd, hcase⟩ := dec_cases hs
      rw [hd]
      have HD := Lib.hid hd
      have HV5 := Lib.hid (HV.out.new (New.trans h5 (New.alloc w5 (.cells j.cells 23))))
      have HW5 := Lib.hid (New.trans HW.out (New.trans h5 (New.alloc w5 (.cells j.cells 23))))
      have hq : ∀ u, (binOp .eql 23 (.agg #[.int .i64 j.op, .int .i64 j.d, .int .i64 j.n, .int .i64 j.m, .int .i64 j.imm, .int .i64 j.cond]) (.agg #[.int .i64 j.op, .int .i64 j.d, .int .i64 j.n, .int .i64 j.m, .int .i64 j.imm, .int .i64 j.cond])).run Try.prog u = .ok (.bool true) u := fun u => by rw [insEql]; simp
      clear hd h5 HV HW
      rcases hcase with ⟨rfl, rfl⟩ | ⟨rfl, rfl⟩ | ⟨rfl, rfl⟩ | ⟨rfl, rfl⟩
      · go_wp2_with fail
        refine (qDecodeL _ hs _ HV5.out j _ _ (1) HD.out rfl).mono ?_
        rintro e w6 ⟨rfl, h6⟩
        obtain ⟨hlt, c0, c1, c2, c3, c4, c5⟩ := I6.kept h6
        have HW6 := Lib.hid (New.trans HW5.out (New.trans h6 (New.alloc w6 (.cells j.cells 23))))
        clear h6 HV5 HW5
        go_wp2_with fail
        refine (known14 _).mono ?_
        rintro e w8 ⟨rfl, h8⟩
        obtain ⟨hlt8, y0, y1, y2, y3, y4, y5⟩ := I6.kept h8
        have h9 := New.trans (New.alloc w6 (.cells j.cells 23)) h8
        replace c0 := h9.keep c0
        replace c1 := h9.keep c1
        replace c2 := h9.keep c2
        replace c3 := h9.keep c3
        replace c4 := h9.keep c4
        replace c5 := h9.keep c5
        have HW8 := Lib.hid (New.trans HW6.out h8)
        clear h8 h9 HW6
        go_wp2_with fail
        go_ret
        exact ⟨rfl, HW8.out⟩
      · go_wp2_with fail
        refine (qDecodeL _ hs _ HV5.out j _ _ (2) HD.out rfl).mono ?_
        rintro e w6 ⟨rfl, h6⟩
        obtain ⟨hlt, c0, c1, c2, c3, c4, c5⟩ := I6.kept h6
        have HW6 := Lib.hid (New.trans HW5.out (New.trans h6 (New.alloc w6 (.cells j.cells 23))))
        clear h6 HV5 HW5
        go_wp2_with fail
        refine (known14 _).mono ?_
        rintro e w8 ⟨rfl, h8⟩
        obtain ⟨hlt8, y0, y1, y2, y3, y4, y5⟩ := I6.kept h8
        have h9 := New.trans (New.alloc w6 (.cells j.cells 23)) h8
        replace c0 := h9.keep c0
        replace c1 := h9.keep c1
        replace c2 := h9.keep c2
        replace c3 := h9.keep c3
        replace c4 := h9.keep c4
        replace c5 := h9.keep c5
        have HW8 := Lib.hid (New.trans HW6.out h8)
        clear h8 h9 HW6
        go_wp2_with fail
        go_ret
        exact ⟨rfl, HW8.out⟩
      · go_wp2_with fail
        refine (qDecodeL _ hs _ HV5.out j _ _ (0) HD.out rfl).mono ?_
        rintro e w6 ⟨rfl, h6⟩
        obtain ⟨hlt, c0, c1, c2, c3, c4, c5⟩ := I6.kept h6
        have HW6 := Lib.hid (New.trans HW5.out (New.trans h6 (New.alloc w6 (.cells j.cells 23))))
        clear h6 HV5 HW5
        go_wp2_with fail
        refine (known14 _).mono ?_
        rintro e w8 ⟨rfl, h8⟩
        obtain ⟨hlt8, y0, y1, y2, y3, y4, y5⟩ := I6.kept h8
        have h9 := New.trans (New.alloc w6 (.cells j.cells 23)) h8
        replace c0 := h9.keep c0
        replace c1 := h9.keep c1
        replace c2 := h9.keep c2
        replace c3 := h9.keep c3
        replace c4 := h9.keep c4
        replace c5 := h9.keep c5
        have HW8 := Lib.hid (New.trans HW6.out h8)
        clear h8 h9 HW6
        go_wp2_with fail
        go_ret
        exact ⟨rfl, HW8.out⟩
      · go_wp2_with fail
        refine (qDecodeL _ hs _ HV5.out j _ _ (-1) HD.out rfl).mono ?_
        rintro e w6 ⟨rfl, h6⟩
        obtain ⟨hlt, c0, c1, c2, c3, c4, c5⟩ := I6.kept h6
        have HW6 := Lib.hid (New.trans HW5.out (New.trans h6 (New.alloc w6 (.cells j.cells 23))))
        clear h6 HV5 HW5
        go_wp2_with fail
        refine (known14 _).mono ?_
        rintro e w8 ⟨rfl, h8⟩
        obtain ⟨hlt8, y0, y1, y2, y3, y4, y5⟩ := I6.kept h8
        have h9 := New.trans (New.alloc w6 (.cells j.cells 23)) h8
        replace c0 := h9.keep c0
        replace c1 := h9.keep c1
        replace c2 := h9.keep c2
        replace c3 := h9.keep c3
        replace c4 := h9.keep c4
        replace c5 := h9.keep c5
        have HW8 := Lib.hid (New.trans HW6.out h8)
        clear h8 h9 HW6
        go_wp2_with fail
        go_ret
        exact ⟨rfl, HW8.out⟩

  · obtain ⟨k1, hk1⟩ := Int.eq_ofNat_of_zero_le (u16_or_range 61440 ((a : Int) % 2048)).1
    obtain ⟨k2, hk2⟩ := Int.eq_ofNat_of_zero_le (u16_or_range 53248 (b : Int)).1
    have hr1 := (u16_or_range 61440 ((a : Int) % 2048)).2
    have hr2 := (u16_or_range 53248 (b : Int)).2
    rw [hk1] at hr1
    rw [hk2] at hr2
    have hs1 : k1 < 65536 := by omega
    have hs2 : k2 < 65536 := by omega
    clear hr1 hr2
    have HO := Lib.hid (World.ownsRow_lit (base := 0) (e := 27) (size := 1) w3 #[.int .u16 (k1 : Int), .int .u16 (k2 : Int)] 2 (Nat.zero_le _) (by unfold maxLen; omega) rfl)
    have HN0 := Lib.hid (New.alloc w3 (.cells #[.int .u16 (k1 : Int), .int .u16 (k2 : Int)] 27))
    have HS := Lib.hid (VwH.src (HV0.out.new (New.trans HN3.out HN0.out)))
    rw [HMM.out] at HS
    go_wp2_with (at_builtin; go_loud (refine wpList_append_mine _ rfl _ _ 28 rfl 0 27 i0 (.int .u16 0) 1 2 Try.underlying28 hi hz0 hz1 hz2 rfl (by decide) (.slice (some ⟨w3.heap.size, 0, none⟩) 2 2) 2 [.int .u16 (k1 : Int), .int .u16 (k2 : Int)] rfl HO.out m (hvl ys) HS.out (by unfold maxLen; omega) (by omega) (Nat.zero_le _) ?_))
    intro v4 w4 ho hg hf
    have HN4 := Lib.hid (New.row2 (New.trans HN3.out HN0.out) hg (fun k hk => by have := HN3.out.size; simp [Value.ownBlock] at hk; omega))
    obtain ⟨a4, c4', rfl⟩ := ownsRow_slice ho
    have HV4 : Hid (VwH w4 (.slice a4 (2 + m) c4') (k1 :: k2 :: ys)) := Lib.hid (vwh_of_row (base := 0) (e := 27) (by
      rw [List.length_cons, List.length_cons, HMM.out, show m + 1 + 1 = 2 + m by omega]
      exact ho) (fun y hy => by
        rcases List.mem_cons.1 hy with h | h
        · omega
        · rcases List.mem_cons.1 h with h | h
          · omega
          · exact HV0.out.1 y h))
    clear ho hg hf HO HN0 HS HV3 HN3 hk1 hk2
    by_cases hm40 : 40 < m
    · have g1 : decide ((m : Int) > 40) = true := by simp; omega
      have g2 : decide ((40 : Int) < (m : Int)) = true := by simp; omega
      obtain ⟨hs, hhs⟩ : ∃ hs : List Nat, hs = [] := ⟨_, rfl⟩
      have HV : Hid (VwH w4 (.slice none 0 0) hs) := Lib.hid (by rw [hhs]; exact VwH.nil _ _)
      have HW := HN4
      clear hhs
      go_wp2_with fail
      refine (tDecode _ hs _ HV.out).mono ?_
      rintro e w5 ⟨rfl, h5⟩
      obtain ⟨j, n', f, hd, hcase⟩ := dec_cases hs
      rw [hd]
      have HD := Lib.hid hd
      have HV5 := Lib.hid (HV.out.new (New.trans h5 (New.alloc w5 (.cells j.cells 23))))
      have HW5 := Lib.hid (New.trans HW.out (New.trans h5 (New.alloc w5 (.cells j.cells 23))))
      have hq : ∀ u, (binOp .eql 23 (.agg #[.int .i64 j.op, .int .i64 j.d, .int .i64 j.n, .int .i64 j.m, .int .i64 j.imm, .int .i64 j.cond]) (.agg #[.int .i64 j.op, .int .i64 j.d, .int .i64 j.n, .int .i64 j.m, .int .i64 j.imm, .int .i64 j.cond])).run Try.prog u = .ok (.bool true) u := fun u => by rw [insEql]; simp
      clear hd h5 HV HW
      rcases hcase with ⟨rfl, rfl⟩ | ⟨rfl, rfl⟩ | ⟨rfl, rfl⟩ | ⟨rfl, rfl⟩
      · go_wp2_with fail
        refine (qDecodeL _ hs _ HV5.out j _ _ (1) HD.out rfl).mono ?_
        rintro e w6 ⟨rfl, h6⟩
        obtain ⟨hlt, c0, c1, c2, c3, c4, c5⟩ := I6.kept h6
        have HW6 := Lib.hid (New.trans HW5.out (New.trans h6 (New.alloc w6 (.cells j.cells 23))))
        clear h6 HV5 HW5
        go_wp2_with fail
        refine (known14 _).mono ?_
        rintro e w8 ⟨rfl, h8⟩
        obtain ⟨hlt8, y0, y1, y2, y3, y4, y5⟩ := I6.kept h8
        have h9 := New.trans (New.alloc w6 (.cells j.cells 23)) h8
        replace c0 := h9.keep c0
        replace c1 := h9.keep c1
        replace c2 := h9.keep c2
        replace c3 := h9.keep c3
        replace c4 := h9.keep c4
        replace c5 := h9.keep c5
        have HW8 := Lib.hid (New.trans HW6.out h8)
        clear h8 h9 HW6
        go_wp2_with fail
        go_ret
        exact ⟨rfl, HW8.out⟩
      · go_wp2_with fail
        refine (qDecodeL _ hs _ HV5.out j _ _ (2) HD.out rfl).mono ?_
        rintro e w6 ⟨rfl, h6⟩
        obtain ⟨hlt, c0, c1, c2, c3, c4, c5⟩ := I6.kept h6
        have HW6 := Lib.hid (New.trans HW5.out (New.trans h6 (New.alloc w6 (.cells j.cells 23))))
        clear h6 HV5 HW5
        go_wp2_with fail
        refine (known14 _).mono ?_
        rintro e w8 ⟨rfl, h8⟩
        obtain ⟨hlt8, y0, y1, y2, y3, y4, y5⟩ := I6.kept h8
        have h9 := New.trans (New.alloc w6 (.cells j.cells 23)) h8
        replace c0 := h9.keep c0
        replace c1 := h9.keep c1
        replace c2 := h9.keep c2
        replace c3 := h9.keep c3
        replace c4 := h9.keep c4
        replace c5 := h9.keep c5
        have HW8 := Lib.hid (New.trans HW6.out h8)
        clear h8 h9 HW6
        go_wp2_with fail
        go_ret
        exact ⟨rfl, HW8.out⟩
      · go_wp2_with fail
        refine (qDecodeL _ hs _ HV5.out j _ _ (0) HD.out rfl).mono ?_
        rintro e w6 ⟨rfl, h6⟩
        obtain ⟨hlt, c0, c1, c2, c3, c4, c5⟩ := I6.kept h6
        have HW6 := Lib.hid (New.trans HW5.out (New.trans h6 (New.alloc w6 (.cells j.cells 23))))
        clear h6 HV5 HW5
        go_wp2_with fail
        refine (known14 _).mono ?_
        rintro e w8 ⟨rfl, h8⟩
        obtain ⟨hlt8, y0, y1, y2, y3, y4, y5⟩ := I6.kept h8
        have h9 := New.trans (New.alloc w6 (.cells j.cells 23)) h8
        replace c0 := h9.keep c0
        replace c1 := h9.keep c1
        replace c2 := h9.keep c2
        replace c3 := h9.keep c3
        replace c4 := h9.keep c4
        replace c5 := h9.keep c5
        have HW8 := Lib.hid (New.trans HW6.out h8)
        clear h8 h9 HW6
        go_wp2_with fail
        go_ret
        exact ⟨rfl, HW8.out⟩
      · go_wp2_with fail
        refine (qDecodeL _ hs _ HV5.out j _ _ (-1) HD.out rfl).mono ?_
        rintro e w6 ⟨rfl, h6⟩
        obtain ⟨hlt, c0, c1, c2, c3, c4, c5⟩ := I6.kept h6
        have HW6 := Lib.hid (New.trans HW5.out (New.trans h6 (New.alloc w6 (.cells j.cells 23))))
        clear h6 HV5 HW5
        go_wp2_with fail
        refine (known14 _).mono ?_
        rintro e w8 ⟨rfl, h8⟩
        obtain ⟨hlt8, y0, y1, y2, y3, y4, y5⟩ := I6.kept h8
        have h9 := New.trans (New.alloc w6 (.cells j.cells 23)) h8
        replace c0 := h9.keep c0
        replace c1 := h9.keep c1
        replace c2 := h9.keep c2
        replace c3 := h9.keep c3
        replace c4 := h9.keep c4
        replace c5 := h9.keep c5
        have HW8 := Lib.hid (New.trans HW6.out h8)
        clear h8 h9 HW6
        go_wp2_with fail
        go_ret
        exact ⟨rfl, HW8.out⟩

    · have g1 : decide ((m : Int) > 40) = false := by simp; omega
      have g2 : decide ((40 : Int) < (m : Int)) = false := by simp; omega
      obtain ⟨hs, hhs⟩ : ∃ hs : List Nat, hs = (k1 :: k2 :: ys) := ⟨_, rfl⟩
      have HV := HV4
      have HW := HN4
      rw [← hhs] at HV
      clear hhs
      go_wp2_with fail
      refine (tDecode _ hs _ HV.out).mono ?_
      rintro e w5 ⟨rfl, h5⟩
      obtain ⟨j, n', f, hd, hcase⟩ := dec_cases hs
      rw [hd]
      have HD := Lib.hid hd
      have HV5 := Lib.hid (HV.out.new (New.trans h5 (New.alloc w5 (.cells j.cells 23))))
      have HW5 := Lib.hid (New.trans HW.out (New.trans h5 (New.alloc w5 (.cells j.cells 23))))
      have hq : ∀ u, (binOp .eql 23 (.agg #[.int .i64 j.op, .int .i64 j.d, .int .i64 j.n, .int .i64 j.m, .int .i64 j.imm, .int .i64 j.cond]) (.agg #[.int .i64 j.op, .int .i64 j.d, .int .i64 j.n, .int .i64 j.m, .int .i64 j.imm, .int .i64 j.cond])).run Try.prog u = .ok (.bool true) u := fun u => by rw [insEql]; simp
      clear hd h5 HV HW
      rcases hcase with ⟨rfl, rfl⟩ | ⟨rfl, rfl⟩ | ⟨rfl, rfl⟩ | ⟨rfl, rfl⟩
      · go_wp2_with fail
        refine (qDecodeL _ hs _ HV5.out j _ _ (1) HD.out rfl).mono ?_
        rintro e w6 ⟨rfl, h6⟩
        obtain ⟨hlt, c0, c1, c2, c3, c4, c5⟩ := I6.kept h6
        have HW6 := Lib.hid (New.trans HW5.out (New.trans h6 (New.alloc w6 (.cells j.cells 23))))
        clear h6 HV5 HW5
        go_wp2_with fail
        refine (known14 _).mono ?_
        rintro e w8 ⟨rfl, h8⟩
        obtain ⟨hlt8, y0, y1, y2, y3, y4, y5⟩ := I6.kept h8
        have h9 := New.trans (New.alloc w6 (.cells j.cells 23)) h8
        replace c0 := h9.keep c0
        replace c1 := h9.keep c1
        replace c2 := h9.keep c2
        replace c3 := h9.keep c3
        replace c4 := h9.keep c4
        replace c5 := h9.keep c5
        have HW8 := Lib.hid (New.trans HW6.out h8)
        clear h8 h9 HW6
        go_wp2_with fail
        go_ret
        exact ⟨rfl, HW8.out⟩
      · go_wp2_with fail
        refine (qDecodeL _ hs _ HV5.out j _ _ (2) HD.out rfl).mono ?_
        rintro e w6 ⟨rfl, h6⟩
        obtain ⟨hlt, c0, c1, c2, c3, c4, c5⟩ := I6.kept h6
        have HW6 := Lib.hid (New.trans HW5.out (New.trans h6 (New.alloc w6 (.cells j.cells 23))))
        clear h6 HV5 HW5
        go_wp2_with fail
        refine (known14 _).mono ?_
        rintro e w8 ⟨rfl, h8⟩
        obtain ⟨hlt8, y0, y1, y2, y3, y4, y5⟩ := I6.kept h8
        have h9 := New.trans (New.alloc w6 (.cells j.cells 23)) h8
        replace c0 := h9.keep c0
        replace c1 := h9.keep c1
        replace c2 := h9.keep c2
        replace c3 := h9.keep c3
        replace c4 := h9.keep c4
        replace c5 := h9.keep c5
        have HW8 := Lib.hid (New.trans HW6.out h8)
        clear h8 h9 HW6
        go_wp2_with fail
        go_ret
        exact ⟨rfl, HW8.out⟩
      · go_wp2_with fail
        refine (qDecodeL _ hs _ HV5.out j _ _ (0) HD.out rfl).mono ?_
        rintro e w6 ⟨rfl, h6⟩
        obtain ⟨hlt, c0, c1, c2, c3, c4, c5⟩ := I6.kept h6
        have HW6 := Lib.hid (New.trans HW5.out (New.trans h6 (New.alloc w6 (.cells j.cells 23))))
        clear h6 HV5 HW5
        go_wp2_with fail
        refine (known14 _).mono ?_
        rintro e w8 ⟨rfl, h8⟩
        obtain ⟨hlt8, y0, y1, y2, y3, y4, y5⟩ := I6.kept h8
        have h9 := New.trans (New.alloc w6 (.cells j.cells 23)) h8
        replace c0 := h9.keep c0
        replace c1 := h9.keep c1
        replace c2 := h9.keep c2
        replace c3 := h9.keep c3
        replace c4 := h9.keep c4
        replace c5 := h9.keep c5
        have HW8 := Lib.hid (New.trans HW6.out h8)
        clear h8 h9 HW6
        go_wp2_with fail
        go_ret
        exact ⟨rfl, HW8.out⟩
      · go_wp2_with fail
        refine (qDecodeL _ hs _ HV5.out j _ _ (-1) HD.out rfl).mono ?_
        rintro e w6 ⟨rfl, h6⟩
        obtain ⟨hlt, c0, c1, c2, c3, c4, c5⟩ := I6.kept h6
        have HW6 := Lib.hid (New.trans HW5.out (New.trans h6 (New.alloc w6 (.cells j.cells 23))))
        clear h6 HV5 HW5
        go_wp2_with fail
        refine (known14 _).mono ?_
        rintro e w8 ⟨rfl, h8⟩
        obtain ⟨hlt8, y0, y1, y2, y3, y4, y5⟩ := I6.kept h8
        have h9 := New.trans (New.alloc w6 (.cells j.cells 23)) h8
        replace c0 := h9.keep c0
        replace c1 := h9.keep c1
        replace c2 := h9.keep c2
        replace c3 := h9.keep c3
        replace c4 := h9.keep c4
        replace c5 := h9.keep c5
        have HW8 := Lib.hid (New.trans HW6.out h8)
        clear h8 h9 HW6
        go_wp2_with fail
        go_ret
        exact ⟨rfl, HW8.out⟩

theorem thumbDecodes_below (w : World) (v : Value) (ys : List Nat) (a b : Nat) (far : Bool) (hv : VwH w v ys) (hl : ys.length ≤ 70368744175616) (ha : a < 65536) (hb : b < 65536) :
    Calls Try.prog 5 #[v, .int .u16 (a : Int), .int .u16 (b : Int), .bool far] w fun e w' => e = .returned (.bool true) ∧ Below w.heap.size w w' := (thumbDecodes_walk w v ys a b far hv hl ha hb).mono fun _ _ h => ⟨h.1, h.2.below (Nat.le_refl _) (fun _ h => h.elim)⟩
end Go.Proofs.Ytkdmppgjmmmclaa

/- The walk of ImageNames. -/
import Derived.Test.YtpangghcfmgidaaDoorHand
import Derived.Test.YtpangghcfmgidaaDoorIk
import Derived.Test.YtpangghcfmgidaaDoorRz
import Derived.Laws.Cover4
namespace Go.Proofs.YtpangghcfmgidaaDoor
open Go.RowKit Go.Lib
set_option linter.unusedVariables false
set_option linter.unusedSimpArgs false

theorem ix12 (m : Int) (h0 : 0 ≤ m) (h1 : m < 12) : ∃ u : Int, ∀ w : World, (Instr.index 37 (.agg #[.int .i32 97, .int .i32 122, .int .i32 48, .int .i32 57, .int .i32 45, .int .i32 46, .int .i32 224, .int .i32 255, .int .i32 65, .int .i32 223, .int .i32 256, .int .i32 95]) (.int .i64 m)).run Tryd.prog w = .ok (.int .i32 u) w := by
  have hk : m = 0 ∨ m = 1 ∨ m = 2 ∨ m = 3 ∨ m = 4 ∨ m = 5 ∨ m = 6 ∨ m = 7 ∨ m = 8 ∨ m = 9 ∨ m = 10 ∨ m = 11 := by omega
  rcases hk with rfl | rfl | rfl | rfl | rfl | rfl | rfl | rfl | rfl | rfl | rfl | rfl
  · exact ⟨97, fun w => by kernel_rfl⟩
  · exact ⟨122, fun w => by kernel_rfl⟩
  · exact ⟨48, fun w => by kernel_rfl⟩
  · exact ⟨57, fun w => by kernel_rfl⟩
  · exact ⟨45, fun w => by kernel_rfl⟩
  · exact ⟨46, fun w => by kernel_rfl⟩
  · exact ⟨224, fun w => by kernel_rfl⟩
  · exact ⟨255, fun w => by kernel_rfl⟩
  · exact ⟨65, fun w => by kernel_rfl⟩
  · exact ⟨223, fun w => by kernel_rfl⟩
  · exact ⟨256, fun w => by kernel_rfl⟩
  · exact ⟨95, fun w => by kernel_rfl⟩
theorem inBeq (b : Bool) : (b == b) = true := by simp
theorem inStr (u : Int) (w : World) : (convert 38 9 (.slice (some ⟨w.heap.size, 0, none⟩) 1 1)).run Tryd.prog (w.alloc (.cells #[.int .i32 u] 21)) = .ok (.string (runesBytes [u])) (w.alloc (.cells #[.int .i32 u] 21)) :=
  run_convert_runes _ 38 9 21 ⟨w.heap.size, 0, none⟩ 1 1 [u] (by simp) Tryd.underlying38 Tryd.underlying21 Tryd.underlying9 (fun j hj => by
    obtain rfl : j = 0 := by simpa using hj
    exact (World.cell?_alloc_new _ _ _ _).trans rfl)

set_option maxRecDepth 100000 in
set_option maxHeartbeats 8000000 in
theorem imageNames_walk (W : World) (s0 : ByteArray) (lv : Value) (L : List Int) (near : Bool) (hs : s0.size ≤ maxLen) (hl : Ints W lv L) (hT : Tabs W) :
    Calls Tryd.prog 4 #[.string s0, lv, .bool near] W fun e w' => e = .returned (.bool true) ∧ Upd (fun _ => False) W w' := by
  have HT := Lib.hid hT
  have HS := Lib.hid hs
  have HL := Lib.hid hl
  obtain ⟨la, lc, rfl, l1, l2⟩ := hl.slice
  have l3 : L.length ≤ maxLen := Nat.le_trans l1 l2
  have HU0 : Hid (Upd (fun _ => False) W W) := Lib.hid (Upd.refl _ _)
  clear hT hl hs l1 l2
  unfold maxLen at l3
  go_enter Tryd.func4, Tryd.ntmps4
  cases near with
  | false =>
    go_wp2_with fail
    refine (known4 _).mono ?_
    rintro e w1 ⟨rfl, hu⟩
    have HU := Lib.hid hu
    clear hu HU0
    go_wp2_with fail
    refine (cIsName s0 w1 HS.out).mono ?_
    rintro e w2 ⟨rfl, hu⟩
    replace HU := Lib.hid (HU.out.trans hu (fun _ h _ => h))
    clear hu
    go_wp2_with fail
    refine (rIsName s0 w2 HS.out (Utf8Tabs_below HT.out (upd_below HU.out))).mono ?_
    rintro e w3 ⟨rfl, hu⟩
    replace HU := Lib.hid (HU.out.trans hu (fun _ h _ => h))
    clear hu
    have hb := inBeq (nmB s0)
    go_wp2_with fail
    go_ret
    exact ⟨rfl, HU.out⟩
  | true =>
    have HZ : Hid ((ByteArray.mk #[]).size ≤ 4 * 0) := Lib.hid (by decide)
    go_wp2_with fail
    go_loopw [0, 7] (fun sv i wr => ∃ (k : Nat) (s : ByteArray), k ≤ L.length ∧ k ≤ 18 ∧ i = .int .i64 k ∧ sv = .string s ∧ Hid (s.size ≤ 4 * k) ∧ Hid (Upd (fun _ => False) W wr)) (fun _ i _ => 18 - (RowKit.intOf i).toNat)
    case atStart => exact ⟨0, _, Nat.zero_le _, Nat.zero_le _, rfl, rfl, HZ, HU0⟩
    case round =>
      obtain ⟨k, s, hk, hk18, rfl, rfl, HSZ, HU⟩ := hrel
      clear HU0 HZ
      by_cases hlt : k < L.length
      · by_cases h18 : k < 18
        · obtain ⟨g1, o1, rfl, hc1, hw1⟩ := (HL.out.later (upd_below HU.out)).at hlt
          obtain ⟨n, hn⟩ : ∃ n, n = L.getD k 0 := ⟨_, rfl⟩
          rw [← hn] at hc1 hw1
          clear hn
          have hn1 := hw1.1
          have hn2 := hw1.2
          obtain ⟨u, hix⟩ := ix12 (n % 12) (Int.emod_nonneg _ (by omega)) (Int.emod_lt_of_pos _ (by omega))
          have hcv := inStr u wr
          have hi1 : (k : Int) < 18 := by omega
          have hi2 : (k : Int) < (L.length : Int) := by omega
          have hi0 : (0 : Int) ≤ (k : Int) := Int.natCast_nonneg _
          have HZ2 : Hid ((s ++ runesBytes [u]).size ≤ 4 * (k + 1)) := Lib.hid (by
            have h1 := runesBytes_size_le [u]
            have h2 := HSZ.out
            simp only [List.length_singleton] at h1
            rw [ByteArray.size_append]; omega)
          have hz3 : ¬ 9223372036854775807 < s.size + (runesBytes [u]).size := by have h2 := HZ2.out; rw [ByteArray.size_append] at h2; omega
          have HU2 := Lib.hid (HU.out.trans (Upd.alloc (fun _ => False) wr (.cells #[.int .i32 u] 21)) (fun _ h _ => h))
          clear hw1
          go_wp2_with fail
          refine (hPick n 12 _ (by omega) (by omega)).mono ?_
          rintro e _ ⟨rfl, rfl⟩
          go_wp2_with fail
          go_roundw
          case rel => exact ⟨k + 1, _, by omega, by omega, by go_num, rfl, HZ2, HU2⟩
          case measure => simp [RowKit.intOf]; omega
        · have hi1 : ¬ (k : Int) < 18 := by omega
          have hi2 : (k : Int) < (L.length : Int) := by omega
          have HS2 : Hid (s.size ≤ maxLen) := Lib.hid (by have := HSZ.out; unfold maxLen; omega)
          go_wp2_with fail
          refine (known4 _).mono ?_
          rintro e w1 ⟨rfl, hu⟩
          replace HU := Lib.hid (HU.out.trans hu (fun _ h _ => h))
          clear hu
          go_wp2_with fail
          refine (cIsName s w1 HS2.out).mono ?_
          rintro e w2 ⟨rfl, hu⟩
          replace HU := Lib.hid (HU.out.trans hu (fun _ h _ => h))
          clear hu
          go_wp2_with fail
          refine (rIsName s w2 HS2.out (Utf8Tabs_below HT.out (upd_below HU.out))).mono ?_
          rintro e w3 ⟨rfl, hu⟩
          replace HU := Lib.hid (HU.out.trans hu (fun _ h _ => h))
          clear hu
          have hb := inBeq (nmB s)
          go_wp2_with fail
          go_ret
          exact ⟨rfl, HU.out⟩
      · have hi2 : ¬ (k : Int) < (L.length : Int) := by omega
        have HS2 : Hid (s.size ≤ maxLen) := Lib.hid (by have := HSZ.out; unfold maxLen; omega)
        go_wp2_with fail
        refine (known4 _).mono ?_
        rintro e w1 ⟨rfl, hu⟩
        replace HU := Lib.hid (HU.out.trans hu (fun _ h _ => h))
        clear hu
        go_wp2_with fail
        refine (cIsName s w1 HS2.out).mono ?_
        rintro e w2 ⟨rfl, hu⟩
        replace HU := Lib.hid (HU.out.trans hu (fun _ h _ => h))
        clear hu
        go_wp2_with fail
        refine (rIsName s w2 HS2.out (Utf8Tabs_below HT.out (upd_below HU.out))).mono ?_
        rintro e w3 ⟨rfl, hu⟩
        replace HU := Lib.hid (HU.out.trans hu (fun _ h _ => h))
        clear hu
        have hb := inBeq (nmB s)
        go_wp2_with fail
        go_ret
        exact ⟨rfl, HU.out⟩
end Go.Proofs.YtpangghcfmgidaaDoor

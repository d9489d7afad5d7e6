/- WordBytes: two texts are told to be the same just if they are: the walk. -/
import Derived.Test.YtdodgcmbanfglaaSame
import Derived.Test.YtdodgcmbanfglaaTwo
import Derived.Lib.Bytes
namespace Go.Proofs.Ytdodgcmbanfglaa
open Go.RowKit
set_option linter.unusedVariables false

set_option maxHeartbeats 4000000 in
theorem bytes_walk (w : World) (x y : Value) (xs ys : List Int) (n q : Int) (hx : Vw w x xs) (hy : Vw w y ys) (hn : xs.length ≤ 2147483647) (hm : ys.length ≤ 2147483647) :
    Calls Try.prog 7 #[x, y, .int .i64 n, .int .u8 q] w fun e w' => e = .returned (.bool true) ∧ Below w.heap.size w w' := by
  obtain ⟨ax, cx, rfl, hcx, hmx⟩ := hx.slice
  obtain ⟨ay, cy, rfl, hcy, hmy⟩ := hy.slice
  have HX := Lib.hid hx
  have HY := Lib.hid hy
  clear hx hy
  go_enter Try.func7, Try.ntmps7
  go_wp2_with fail
  refine (few _ _ xs (xs.length : Int) HX.out (.inl (by omega)) (by omega) (by omega)).mono ?_
  rintro e w1 ⟨v1, rfl, hN⟩
  rw [show xs.take ((xs.length : Int)).toNat = xs by simp] at hN
  have hv1 := ownsRow_slice hN.1
  obtain ⟨a1, c1, rfl⟩ := hv1
  have HN := Lib.hid hN
  clear hN
  by_cases h0 : 0 < xs.length
  · obtain ⟨k, hk⟩ := Int.eq_ofNat_of_zero_le (Int.emod_nonneg n (show (xs.length : Int) ≠ 0 by omega))
    have hkl : k < xs.length := by have := Int.emod_lt_of_pos n (show (0 : Int) < xs.length by omega); omega
    have hp := hPick n (xs.length : Int) w1 (by omega) (by omega)
    rw [hk] at hp
    have HK := Lib.hid hk
    clear hk
    have hown := HN.out.1
    rcases hown.2 with ⟨he, h0'⟩ | ⟨gg, cap, cur, he, hbg, hgg, hcc, hcm, _⟩
    · omega
    simp at he
    obtain ⟨rfl, rfl⟩ := he
    have hcell : w1.cell? ⟨gg, k, none⟩ = some (.int .u8 (nth xs k)) := by
      rw [hown.cellAt k (by omega)]
      simp [bv, nth, List.getD, hkl]
    have hfro : w1.frozen? ⟨gg, k, none⟩ = false := hown.frozenAt k
    have hbu := Upd.setCell (S := fun i => i = gg) w1 (p := ⟨gg, k, none⟩) (.inl rfl)
    have HS := Lib.hid (show ∀ z : Int, 0 ≤ z ∧ z ≤ 255 → Vw (w1.setCell ⟨gg, k, none⟩ (.int .u8 z)) (.slice (some ⟨gg, 0, none⟩) xs.length c1) (xs.set k z) ∧ Upd (fun _ => False) w (w1.setCell ⟨gg, k, none⟩ (.int .u8 z)) from fun z hz => by
      have hs := (World.ownsRow.stored hown k (.int .u8 z)).1
      refine ⟨?_, ?_⟩
      · have := vw_of_row (ys := xs.set k z) (w := w1.setCell ⟨gg, k, none⟩ (.int .u8 z)) (v := .slice (some ⟨gg, 0, none⟩) xs.length c1) (base := 0) (e := 5) (by
          rw [show bv (xs.set k z) = (bv xs).set k (.int .u8 z) by simp [bv, List.map_set], List.length_set]; exact hs) (fun u hu => by
            rcases List.mem_or_eq_of_mem_set hu with h | h
            · exact HX.out.1 u h
            · omega)
        exact this
      · have hnew := HN.out.2.2 gg rfl
        exact HN.out.2.1.trans (hbu _) (fun i hi hlt => by omega))
    have hz : 0 ≤ bits .xor .u8 (nth xs k) q ∧ bits .xor .u8 (nth xs k) q ≤ 255 := ⟨(bits_within .xor .u8 _ _).1, (bits_within .xor .u8 _ _).2⟩
    obtain ⟨HVz, HUz⟩ := HS.out _ hz
    have HXz := HX.out.upd HUz (fun _ _ h => h)
    have HYz := HY.out.upd HUz (fun _ _ h => h)
    generalize hzs : xs.set k (bits .xor .u8 (nth xs k) q) = zs at *
    have hzl : zs.length = xs.length := by rw [← hzs]; simp
    have HZ := Lib.hid hzs
    clear hzs
    have hzn : zs.length ≤ 2147483647 := by omega
    have c1' := fun h => same_yes _ _ _ xs ys HXz HYz hn hm h
    have c0' := fun h => same_no _ _ _ xs ys HXz HYz hn hm h
    have d1' := fun h => same_yes _ _ _ xs zs HXz HVz hn hzn h
    have d0' := fun h => same_no _ _ _ xs zs HXz HVz hn hzn h
    have e1' := Lib.hid (same_yes _ _ _ xs xs HXz HXz hn hn rfl)
    have t1 := str_same xs ys HXz.1 HYz.1
    have t2 := str_same xs zs HXz.1 HVz.1
    have hsx := str_cv HXz
    have hsy := str_cv HYz
    have hsz := str_cv HVz
    have HB := Lib.hid (HUz.below (Nat.le_refl _) (fun _ h => h.elim))
    have HP := Lib.hid hp
    clear hown hgg hcc hcm hbg hbu HUz HX HY HS hz HVz HXz HYz hzl hzn hp
    have CC : Hid (((strOfNums xs).toList == (strOfNums ys).toList) = true ∧ Calls Try.prog 18 #[.slice ax xs.length cx, .slice ay ys.length cy] (w1.setCell ⟨gg, k, none⟩ (.int .u8 (bits .xor .u8 (nth xs k) q))) (fun e w' => e = .returned (.int .i32 1) ∧ (w1.setCell ⟨gg, k, none⟩ (.int .u8 (bits .xor .u8 (nth xs k) q))) = w') ∨ ((strOfNums xs).toList == (strOfNums ys).toList) = false ∧ Calls Try.prog 18 #[.slice ax xs.length cx, .slice ay ys.length cy] (w1.setCell ⟨gg, k, none⟩ (.int .u8 (bits .xor .u8 (nth xs k) q))) (fun e w' => e = .returned (.int .i32 0) ∧ (w1.setCell ⟨gg, k, none⟩ (.int .u8 (bits .xor .u8 (nth xs k) q))) = w')) := Lib.hid (by
      by_cases h : xs = ys
      · exact .inl ⟨by rw [t1, decide_eq_true h], c1' h⟩
      · exact .inr ⟨by rw [t1, decide_eq_false h], c0' h⟩)
    have DD : Hid ((!(strOfNums xs).toList == (strOfNums zs).toList) = false ∧ Calls Try.prog 18 #[.slice ax xs.length cx, .slice (some ⟨gg, 0, none⟩) xs.length c1] (w1.setCell ⟨gg, k, none⟩ (.int .u8 (bits .xor .u8 (nth xs k) q))) (fun e w' => e = .returned (.int .i32 1) ∧ (w1.setCell ⟨gg, k, none⟩ (.int .u8 (bits .xor .u8 (nth xs k) q))) = w') ∨ (!(strOfNums xs).toList == (strOfNums zs).toList) = true ∧ Calls Try.prog 18 #[.slice ax xs.length cx, .slice (some ⟨gg, 0, none⟩) xs.length c1] (w1.setCell ⟨gg, k, none⟩ (.int .u8 (bits .xor .u8 (nth xs k) q))) (fun e w' => e = .returned (.int .i32 0) ∧ (w1.setCell ⟨gg, k, none⟩ (.int .u8 (bits .xor .u8 (nth xs k) q))) = w')) := Lib.hid (by
      by_cases h : xs = zs
      · exact .inl ⟨by rw [t2, decide_eq_true h]; rfl, d1' h⟩
      · exact .inr ⟨by rw [t2, decide_eq_false h]; rfl, d0' h⟩)
    clear t1 t2 c1' c0' d1' d0'
    rcases CC.out with ⟨t1, C1⟩ | ⟨t1, C1⟩ <;> rcases DD.out with ⟨t2, C2⟩ | ⟨t2, C2⟩
    all_goals
      have HC1 := Lib.hid C1
      have HC2 := Lib.hid C2
      clear C1 C2 CC DD
      go_wp2_with fail
      refine HP.out.mono ?_
      rintro e w2 ⟨rfl, rfl⟩
      go_wp2_with fail
      refine (known _).mono ?_
      rintro e w2 ⟨rfl, rfl⟩
      go_wp2_with fail
      refine HC1.out.mono ?_
      rintro e w2 ⟨rfl, rfl⟩
      go_wp2_with fail
      refine HC2.out.mono ?_
      rintro e w2 ⟨rfl, rfl⟩
      go_wp2_with fail
      refine e1'.out.mono ?_
      rintro e w2 ⟨rfl, rfl⟩
      go_wp2_with fail
      go_ret
      exact ⟨rfl, HB.out⟩
  · have he : xs = [] := List.eq_nil_of_length_eq_zero (by omega)
    subst he
    have HXz := HX.out.upd HN.out.2.1 (fun _ _ h => h)
    have HYz := HY.out.upd HN.out.2.1 (fun _ _ h => h)
    have HVz := HN.out.vw (by simp)
    have c1' := fun h => same_yes _ _ _ [] ys HXz HYz hn hm h
    have c0' := fun h => same_no _ _ _ [] ys HXz HYz hn hm h
    have d1' := Lib.hid (same_yes _ _ _ [] [] HXz HVz hn hn rfl)
    have e1' := Lib.hid (same_yes _ _ _ [] [] HXz HXz hn hn rfl)
    have t1 := str_same [] ys (by simp) HYz.1
    have hsx := str_cv HXz
    have hsy := str_cv HYz
    have hsz := str_cv HVz
    have HB := Lib.hid (HN.out.2.1.below (Nat.le_refl _) (fun _ h => h.elim))
    simp only [List.length_nil] at hsx hsz
    clear HX HY HVz HXz HYz HN
    have CC : Hid (((strOfNums []).toList == (strOfNums ys).toList) = true ∧ Calls Try.prog 18 #[.slice ax ([] : List Int).length cx, .slice ay ys.length cy] w1 (fun e w' => e = .returned (.int .i32 1) ∧ w1 = w') ∨ ((strOfNums []).toList == (strOfNums ys).toList) = false ∧ Calls Try.prog 18 #[.slice ax ([] : List Int).length cx, .slice ay ys.length cy] w1 (fun e w' => e = .returned (.int .i32 0) ∧ w1 = w')) := Lib.hid (by
      by_cases h : [] = ys
      · exact .inl ⟨by rw [t1, decide_eq_true h], c1' h⟩
      · exact .inr ⟨by rw [t1, decide_eq_false h], c0' h⟩)
    clear t1 c1' c0'
    rcases CC.out with ⟨t1, C1⟩ | ⟨t1, C1⟩
    all_goals
      have HC1 := Lib.hid C1
      clear C1 CC
      go_wp2_with fail
      refine (known _).mono ?_
      rintro e w2 ⟨rfl, rfl⟩
      go_wp2_with fail
      refine HC1.out.mono ?_
      rintro e w2 ⟨rfl, rfl⟩
      go_wp2_with fail
      refine d1'.out.mono ?_
      rintro e w2 ⟨rfl, rfl⟩
      go_wp2_with fail
      refine e1'.out.mono ?_
      rintro e w2 ⟨rfl, rfl⟩
      go_wp2_with fail
      go_ret
      exact ⟨rfl, HB.out⟩
end Go.Proofs.Ytdodgcmbanfglaa

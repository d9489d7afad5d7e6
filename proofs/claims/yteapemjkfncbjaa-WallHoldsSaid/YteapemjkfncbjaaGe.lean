/- WallHolds. -/
import Derived.Test.YteapemjkfncbjaaGc
import Derived.Below
namespace Go.Proofs.Yteapemjkfncbjaa
open Go.RowKit Go.Lib Go.ChangeShapes Go.WideShapes Go.Deep
set_option linter.unusedVariables false
set_option linter.unusedSimpArgs false

theorem may_three {own ap : Int} {lab life : Int} {sh : Bool} {ys : List Int} (h : mayB ⟨own, lab, life, sh, ys⟩ ap = true) :
    (own != -1) = false ∨ ((own != -1) = true ∧ (own != ap) = false) ∨ ((own != -1) = true ∧ (own != ap) = true ∧ sh = true) := by
  simp only [mayB] at h
  cases h1 : (own == -1)
  · cases h2 : (own == ap)
    · rw [h1, h2] at h
      refine .inr (.inr ⟨?_, ?_, by simpa using h⟩)
      · simp [bne, h1]
      · simp [bne, h2]
    · exact .inr (.inl ⟨by simp [bne, h1], by simp [bne, h2]⟩)
  · exact .inl (by simp [bne, h1])
theorem may_none {own ap : Int} {lab life : Int} {sh : Bool} {ys : List Int} (h : mayB ⟨own, lab, life, sh, ys⟩ ap = false) :
    (own != -1) = true ∧ (own != ap) = true ∧ sh = false := by
  simp only [mayB, Bool.or_eq_false_iff] at h
  exact ⟨by simp [bne, h.1.1], by simp [bne, h.1.2], h.2⟩
set_option maxRecDepth 100000 in
set_option maxHeartbeats 8000000 in
theorem wallHolds_walk (W : World) (v : Value) (L : List St9) (ref0 at0 n0 ap0 : Int) (hL : Sts9At W v L) : Calls Try.prog 6 #[v, .int .i64 ref0, .int .i64 at0, .int .i64 n0, .int .i64 ap0] W fun e w' => e = .returned (.bool true) ∧ Upd (fun _ => False) W w' := by
  have HL := Lib.hid hL
  clear hL
  go_enter Try.func6, Try.ntmps6
  go_wp2_with fail
  refine (both9 W v L HL.out).mono ?_
  rintro e w1 ⟨b, c, K, m, rfl, hb, hp⟩
  have H1 := Lib.hid hb
  have HP := Lib.hid hp
  have hml := hp.2.1
  clear hb hp
  go_wp2_with fail
  refine (known9 w1 w1 (Upd.refl _ _)).mono ?_
  rintro e w2 ⟨rfl, hu⟩
  have H2 := Lib.hid (H1.out.quiet hu)
  clear hu
  go_wp2_with fail
  refine (pCount H2.out.own.hp).mono ?_
  rintro e w' ⟨rfl, rfl⟩
  have hwc : IntKind.i64.wrap ((m.arrs.length : Int) + 2) = (m.arrs.length : Int) + 2 := IntWalk.i64_in _ (by omega)
  go_wp2_with fail
  refine (hPick ref0 ((m.arrs.length : Int) + 2) w2 (by omega) (by omega)).mono ?_
  rintro e w' ⟨rfl, rfl⟩
  generalize ref0 % ((m.arrs.length : Int) + 2) = rf
  obtain ⟨a1, ha1, ha2⟩ : ∃ a1, at0 % 12 - 1 = a1 ∧ (-1 ≤ a1 ∧ a1 ≤ 10) := ⟨_, rfl, by omega⟩
  obtain ⟨n1, hn1, hn2⟩ : ∃ n1, n0 % 12 - 1 = n1 ∧ (-1 ≤ n1 ∧ n1 ≤ 10) := ⟨_, rfl, by omega⟩
  have hw1 : IntKind.i64.wrap (at0 % 12 - 1) = a1 := by rw [ha1]; exact IntWalk.i64_in _ (by omega)
  have hw2 : IntKind.i64.wrap (n0 % 12 - 1) = n1 := by rw [hn1]; exact IntWalk.i64_in _ (by omega)
  have hw3 : IntKind.i64.wrap (a1 + n1) = a1 + n1 := IntWalk.i64_in _ (by omega)
  clear ha1 hn1 HL
  go_wp2_with fail
  refine (hPick at0 12 w2 (by omega) (by omega)).mono ?_
  rintro e w' ⟨rfl, rfl⟩
  go_wp2_with fail
  refine (hPick n0 12 w2 (by omega) (by omega)).mono ?_
  rintro e w' ⟨rfl, rfl⟩
  go_wp2_with fail
  refine (hPick ap0 4 w2 (by omega) (by omega)).mono ?_
  rintro e w' ⟨rfl, rfl⟩
  generalize ap0 % 4 = ap
  have HU2 := Lib.hid H2.out.own.up
  have HO2 := Lib.hid H2.out.own
  clear H1 HP H2
  have HR : Hid (∀ u, Upd (fun _ => False) w2 u → Calls Try.prog 28 #[.pointer (some ⟨b, 0, none⟩), .int .i64 rf, .int .i64 a1, .int .i64 n1, .int .i64 ap] u fun e w' => e = .returned (.int .i64 (rngP m.arrs rf a1 n1 ap)) ∧ Upd (fun _ => False) u w') := Lib.hid (fun u hu => wRange (HO2.out.quiet hu).own.hp (by omega) rf a1 n1 ap (by omega))
  rcases chk_three m.arrs rf ap with ⟨hno, e1, -⟩ | ⟨i, hi, rfl, hm⟩
  · have HA := Lib.hid (pArray_no HO2.out.hp rf hno)
    rw [show rngP m.arrs rf a1 n1 ap = 28417 by unfold rngP; rw [e1, if_neg (by decide)]] at HR
    clear hno e1
    go_wp2_with fail
    refine HA.out.mono ?_
    rintro e w3 ⟨rfl, hu⟩
    obtain ⟨w4, hw4⟩ : ∃ w4, w4 = w3.alloc (.cells #[.int .i64 0, .int .i64 0, .int .i64 0, .bool false, .slice none 0 0] 38) := ⟨_, rfl⟩
    have HU4 : Hid (Upd (fun _ => False) w2 w4) := Lib.hid (by rw [hw4]; exact hu.trans (Upd.alloc _ _ _) (fun _ h _ => h))
    have HW4 := Lib.hid hw4
    clear hu hw4
    simp only [zarr]
    go_wp2_with fail
    rw [← HW4.out]
    go_wp2_with fail
    refine (HR.out _ HU4.out).mono ?_
    rintro e w5 ⟨rfl, hu⟩
    have HU5 := Lib.hid (HU2.out.trans (HU4.out.trans hu (fun _ h _ => h)) (fun _ h _ => h))
    clear hu
    go_wp2_with fail
    go_ret
    exact ⟨rfl, HU5.out⟩
  · have HA := Lib.hid (pArray HO2.out.hp hi (by omega))
    have HG : Hid (∀ j : Nat, j < (m.arrs.getD i default).data.length → ∀ u, Upd (fun _ => False) w2 u → Calls Try.prog 15 #[.pointer (some ⟨b, 0, none⟩), .int .i64 ((i : Int) + 1), .int .i64 j] u fun e w' => e = .returned (.tuple #[.int .u8 ((m.arrs.getD i default).data.getD j 0), .bool true]) ∧ u = w') := Lib.hid (fun j hj u hu => pGet (HO2.out.quiet hu).own.hp hi (by omega) hj)
    have hdl : (m.arrs.getD i default).data.length ≤ 64 := hep_dl HO2.out.hp hi
    have hcs : ((mayB (m.arrs.getD i default) ap = false) ∧ rngP m.arrs ((i : Int) + 1) a1 n1 ap = 28420) ∨ ((mayB (m.arrs.getD i default) ap = true) ∧ rngP m.arrs ((i : Int) + 1) a1 n1 ap = if inB a1 n1 ((m.arrs.getD i default).data.length : Int) then 36864 else 28418) := by
      rcases hm with ⟨h1, h2, -⟩ | ⟨h1, h2, h3⟩
      · exact .inl ⟨h1, by unfold rngP; rw [h2, if_neg (by decide)]⟩
      · exact .inr ⟨h1, by unfold rngP; rw [h2, h3, if_pos rfl]⟩
    clear hm
    generalize rngP m.arrs ((i : Int) + 1) a1 n1 ap = rg at *
    generalize m.arrs.getD i default = a at *
    obtain ⟨own, lab, life, sh, ys⟩ := a
    simp only at hdl
    go_wp2_with fail
    refine HA.out.mono ?_
    rintro e w3 ⟨d, rfl, hn⟩
    obtain ⟨da, dc, rfl⟩ := ownsRow_slice hn.1
    obtain ⟨w4, hw4⟩ : ∃ w4, w4 = w3.alloc (.cells #[.int .i64 own, .int .i64 lab, .int .i64 life, .bool sh, .slice da ys.length dc] 38) := ⟨_, rfl⟩
    have HU4 : Hid (Upd (fun _ => False) w2 w4) := Lib.hid (by rw [hw4]; exact hn.2.1.trans (Upd.alloc _ _ _) (fun _ h _ => h))
    have HX4 : Hid (w4.heap[w3.heap.size]? = some (.cells #[.int .i64 own, .int .i64 lab, .int .i64 life, .bool sh, .slice da ys.length dc] 38 (0, 0))) := Lib.hid (by rw [hw4]; exact hpTop _ _ _ rfl)
    have HW4 := Lib.hid hw4
    clear hn hw4
    simp only [aval]
    go_wp2_with fail
    rw [← HW4.out]
    go_wp2_with fail
    refine (HR.out _ HU4.out).mono ?_
    rintro e w5 ⟨rfl, hu⟩
    have HU5 := Lib.hid (HU4.out.trans hu (fun _ h _ => h))
    obtain ⟨c0, c1, c2, c3, c4, -⟩ := five (hpBlk hu HX4.out (fun h => h))
    clear hu
    rcases hcs with ⟨hmy, rfl⟩ | ⟨hmy, hrg⟩
    · obtain ⟨h1, h2, rfl⟩ := may_none hmy
      clear hmy
      go_wp2_with fail
      go_ret
      exact ⟨rfl, HU2.out.trans HU5.out (fun _ h _ => h)⟩
    · rcases in_four a1 n1 (ys.length : Int) with ⟨i1, hb⟩ | ⟨i1, i2, hb⟩ | ⟨i1, i2, i3, hb⟩ | ⟨i1, i2, i3, i4, hb⟩ | ⟨i1, i2, i3, i4, hb⟩
      · rw [hb] at hrg
        obtain rfl : rg = 28418 := hrg
        clear hb hmy
        go_wp2_with fail
        go_ret
        exact ⟨rfl, HU2.out.trans HU5.out (fun _ h _ => h)⟩
      · rw [hb] at hrg
        obtain rfl : rg = 28418 := hrg
        clear hb hmy
        go_wp2_with fail
        go_ret
        exact ⟨rfl, HU2.out.trans HU5.out (fun _ h _ => h)⟩
      · rw [hb] at hrg
        obtain rfl : rg = 28418 := hrg
        clear hb hmy
        have hgt : (ys.length : Int) < a1 + n1 := by omega
        go_wp2_with fail
        go_ret
        exact ⟨rfl, HU2.out.trans HU5.out (fun _ h _ => h)⟩
      · rw [hb] at hrg
        obtain rfl : rg = 28418 := hrg
        clear hb hmy
        have hgt : (ys.length : Int) < a1 + n1 := by omega
        go_wp2_with fail
        go_ret
        exact ⟨rfl, HU2.out.trans HU5.out (fun _ h _ => h)⟩
      · rw [hb] at hrg
        obtain rfl : rg = 36864 := hrg
        clear hb
        have hle : a1 + n1 ≤ (ys.length : Int) := by omega
        have hm3 := may_three hmy
        clear hmy
        rcases hm3 with h1 | ⟨h1, h2⟩ | ⟨h1, h2, rfl⟩
        all_goals
          go_wp2_with fail
          go_loop [15, 16, 17] (fun i2 _ _ => ∃ k : Nat, i2 = .int .i64 k ∧ a1 ≤ k ∧ (k : Int) ≤ a1 + n1) (fun i2 _ _ => (a1 + n1 - intOf i2).toNat)
          case atStart => exact ⟨a1.toNat, by go_num, by omega, by omega⟩
          case round =>
            obtain ⟨k, rfl, hk1, hk2⟩ := hrel
            by_cases hlt : (k : Int) < a1 + n1
            · have HGK := Lib.hid (HG.out k (by omega) _ HU5.out)
              go_wp2_with fail
              refine HGK.out.mono ?_
              rintro e w' ⟨rfl, rfl⟩
              go_wp2_with fail
              go_round
              case rel => exact ⟨k + 1, by go_num, by omega, by omega⟩
              case measure => simp [intOf]; omega
            · go_wp2_with fail
              go_ret
              exact ⟨rfl, HU2.out.trans HU5.out (fun _ h _ => h)⟩
theorem wallHolds_below (W : World) (v : Value) (L : List St9) (ref0 at0 n0 ap0 : Int) (hL : Sts9At W v L) : Calls Try.prog 6 #[v, .int .i64 ref0, .int .i64 at0, .int .i64 n0, .int .i64 ap0] W fun e w' => e = .returned (.bool true) ∧ Below W.heap.size W w' :=
  (wallHolds_walk W v L ref0 at0 n0 ap0 hL).mono fun e w' ⟨h1, h2⟩ => ⟨h1, h2.below (Nat.le_refl _) (fun _ h => h.elim)⟩
end Go.Proofs.Yteapemjkfncbjaa

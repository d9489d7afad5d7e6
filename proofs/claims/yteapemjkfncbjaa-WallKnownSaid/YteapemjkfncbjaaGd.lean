/- WallKnown, WallParts. -/
import Derived.Test.YteapemjkfncbjaaGc
import Derived.Below
namespace Go.Proofs.Yteapemjkfncbjaa
open Go.RowKit Go.Lib Go.ChangeShapes Go.WideShapes Go.Deep
set_option linter.unusedVariables false
set_option linter.unusedSimpArgs false

def k9M : HpM := (two 64).add (newA 1 3 0 false 4)
def k9N : HpM := k9M.add (newA 1 3 0 true 4)
set_option maxRecDepth 100000 in
set_option maxHeartbeats 4000000 in
theorem wallKnown_walk (w : World) : Calls Try.prog 4 #[] w fun e w' => e = .returned (.bool true) ∧ Upd (fun _ => False) w w' := by
  go_enter Try.func4, Try.ntmps4
  go_wp2_with fail
  refine (oNew (K := Free) (Upd.refl (fun _ => False) w) (fun _ h => h.elim) 64 (by omega) (by omega)).mono ?_
  rintro e w1 ⟨b, rfl, ho, -⟩
  have H1 := Lib.hid ho
  clear ho
  go_wp2_with fail
  refine (known9 w1 w1 (Upd.refl _ _)).mono ?_
  rintro e w2 ⟨rfl, hu⟩
  have H2 := Lib.hid (H1.out.quiet hu).own
  clear hu
  go_wp2_with fail
  refine (show Calls Try.prog 23 #[.pointer (some ⟨b, 0, none⟩), .int .i64 1, .int .i64 3, .int .i64 0, .bool false, .int .i64 4] w2 fun e w' => e = .returned (.tuple #[.int .i64 3, .bool true]) ∧ OwnTo Free w w2 w' b k9M from oAlloc H2.out (by decide) (by decide) 1 3 0 4 false (by decide)).mono ?_
  rintro e w3 ⟨rfl, ho⟩
  have H3 := Lib.hid ho.own
  clear ho
  go_wp2_with fail
  refine (show Calls Try.prog 23 #[.pointer (some ⟨b, 0, none⟩), .int .i64 1, .int .i64 3, .int .i64 0, .bool true, .int .i64 4] w3 fun e w' => e = .returned (.tuple #[.int .i64 4, .bool true]) ∧ OwnTo Free w w3 w' b k9N from oAlloc H3.out (by decide) (by decide) 1 3 0 4 true (by decide)).mono ?_
  rintro e w4 ⟨rfl, ho⟩
  have H4 := Lib.hid ho.own
  clear ho
  go_wp2_with fail
  refine (show Calls Try.prog 27 #[.pointer (some ⟨b, 0, none⟩), .int .i64 (3), .int .i64 (0)] w4 fun e w' => e = .returned (.int .i64 28420) ∧ Upd (fun _ => False) w4 w' from wCheck H4.out.hp (by decide) (3) (0)).mono ?_
  rintro e w5 ⟨rfl, hu⟩
  have H5 := Lib.hid (H4.out.quiet hu).own
  clear hu
  go_wp2_with fail
  refine (show Calls Try.prog 27 #[.pointer (some ⟨b, 0, none⟩), .int .i64 (3), .int .i64 (1)] w5 fun e w' => e = .returned (.int .i64 36864) ∧ Upd (fun _ => False) w5 w' from wCheck H5.out.hp (by decide) (3) (1)).mono ?_
  rintro e w6 ⟨rfl, hu⟩
  have H6 := Lib.hid (H5.out.quiet hu).own
  clear hu
  go_wp2_with fail
  refine (show Calls Try.prog 27 #[.pointer (some ⟨b, 0, none⟩), .int .i64 (4), .int .i64 (0)] w6 fun e w' => e = .returned (.int .i64 36864) ∧ Upd (fun _ => False) w6 w' from wCheck H6.out.hp (by decide) (4) (0)).mono ?_
  rintro e w7 ⟨rfl, hu⟩
  have H7 := Lib.hid (H6.out.quiet hu).own
  clear hu
  go_wp2_with fail
  refine (show Calls Try.prog 27 #[.pointer (some ⟨b, 0, none⟩), .int .i64 (5), .int .i64 (0)] w7 fun e w' => e = .returned (.int .i64 28417) ∧ Upd (fun _ => False) w7 w' from wCheck H7.out.hp (by decide) (5) (0)).mono ?_
  rintro e w8 ⟨rfl, hu⟩
  have H8 := Lib.hid (H7.out.quiet hu).own
  clear hu
  go_wp2_with fail
  refine (show Calls Try.prog 28 #[.pointer (some ⟨b, 0, none⟩), .int .i64 (3), .int .i64 (0), .int .i64 (4), .int .i64 (1)] w8 fun e w' => e = .returned (.int .i64 36864) ∧ Upd (fun _ => False) w8 w' from wRange H8.out.hp (by decide) (3) (0) (4) (1) (by decide)).mono ?_
  rintro e w9 ⟨rfl, hu⟩
  have H9 := Lib.hid (H8.out.quiet hu).own
  clear hu
  go_wp2_with fail
  refine (show Calls Try.prog 28 #[.pointer (some ⟨b, 0, none⟩), .int .i64 (3), .int .i64 (1), .int .i64 (4), .int .i64 (1)] w9 fun e w' => e = .returned (.int .i64 28418) ∧ Upd (fun _ => False) w9 w' from wRange H9.out.hp (by decide) (3) (1) (4) (1) (by decide)).mono ?_
  rintro e w10 ⟨rfl, hu⟩
  have H10 := Lib.hid (H9.out.quiet hu).own
  clear hu
  go_wp2_with fail
  refine (show Calls Try.prog 28 #[.pointer (some ⟨b, 0, none⟩), .int .i64 (3), .int .i64 (4), .int .i64 (0), .int .i64 (1)] w10 fun e w' => e = .returned (.int .i64 36864) ∧ Upd (fun _ => False) w10 w' from wRange H10.out.hp (by decide) (3) (4) (0) (1) (by decide)).mono ?_
  rintro e w11 ⟨rfl, hu⟩
  have H11 := Lib.hid (H10.out.quiet hu).own
  clear hu
  go_wp2_with fail
  refine (show Calls Try.prog 28 #[.pointer (some ⟨b, 0, none⟩), .int .i64 (3), .int .i64 (-1), .int .i64 (1), .int .i64 (1)] w11 fun e w' => e = .returned (.int .i64 28418) ∧ Upd (fun _ => False) w11 w' from wRange H11.out.hp (by decide) (3) (-1) (1) (1) (by decide)).mono ?_
  rintro e w12 ⟨rfl, hu⟩
  have H12 := Lib.hid (H11.out.quiet hu).own
  clear hu
  go_wp2_with fail
  refine (show Calls Try.prog 28 #[.pointer (some ⟨b, 0, none⟩), .int .i64 (3), .int .i64 (0), .int .i64 (-1), .int .i64 (1)] w12 fun e w' => e = .returned (.int .i64 28418) ∧ Upd (fun _ => False) w12 w' from wRange H12.out.hp (by decide) (3) (0) (-1) (1) (by decide)).mono ?_
  rintro e w13 ⟨rfl, hu⟩
  have H13 := Lib.hid (H12.out.quiet hu).own
  clear hu
  go_wp2_with fail
  refine (show Calls Try.prog 28 #[.pointer (some ⟨b, 0, none⟩), .int .i64 (3), .int .i64 (9), .int .i64 (9), .int .i64 (0)] w13 fun e w' => e = .returned (.int .i64 28420) ∧ Upd (fun _ => False) w13 w' from wRange H13.out.hp (by decide) (3) (9) (9) (0) (by decide)).mono ?_
  rintro e w14 ⟨rfl, hu⟩
  have H14 := Lib.hid (H13.out.quiet hu).own
  clear hu
  go_wp2_with fail
  refine (show Calls Try.prog 29 #[.agg #[.int .i64 2, .int .i64 0, .int .i64 0, .bool false, .slice none 0 0], .int .i64 2] w14 fun e w' => e = .returned (.bool true) ∧ Upd (fun _ => False) w14 w' from wMay 2 0 0 false none 0 0 [] 2 w14).mono ?_
  rintro e w15 ⟨rfl, hu⟩
  have H15 := Lib.hid (H14.out.quiet hu).own
  clear hu
  go_wp2_with fail
  refine (show Calls Try.prog 29 #[.agg #[.int .i64 2, .int .i64 0, .int .i64 0, .bool false, .slice none 0 0], .int .i64 1] w15 fun e w' => e = .returned (.bool false) ∧ Upd (fun _ => False) w15 w' from wMay 2 0 0 false none 0 0 [] 1 w15).mono ?_
  rintro e w16 ⟨rfl, hu⟩
  have H16 := Lib.hid (H15.out.quiet hu).own
  clear hu
  go_wp2_with fail
  go_ret
  exact ⟨rfl, H16.out.up⟩
theorem wallKnown_below (w : World) : Calls Try.prog 4 #[] w fun e w' => e = .returned (.bool true) ∧ Below w.heap.size w w' :=
  (wallKnown_walk w).mono fun e w' ⟨h1, h2⟩ => ⟨h1, h2.below (Nat.le_refl _) (fun _ h => h.elim)⟩

theorem rng_parts (L : List ArrM) (ref at_ n ap f l : Int) (h0 : 0 ≤ at_) (h1 : 0 ≤ f ∧ f ≤ n) (h2 : 0 ≤ l ∧ l ≤ n - f) :
    (rngP L ref at_ n ap = 36864 ∧ rngP L ref (at_ + f) (n - f - l) ap = 36864 ∧ rngP L ref at_ 0 ap = 36864 ∧ chkP L ref ap = 36864) ∨
    (rngP L ref at_ n ap = 28418 ∧ rngP L ref at_ (n + 1 + l) ap = 28418 ∧ chkP L ref ap = 36864) ∨
    (∃ s, (s == 36864) = false ∧ (s == 28418) = false ∧ rngP L ref at_ n ap = s ∧ rngP L ref (at_ + f) (n - f - l) ap = s ∧ chkP L ref ap = s) := by
  by_cases hc : chkP L ref ap = 36864
  · unfold rngP
    simp only [hc, if_true]
    cases hi : inB at_ n (lenP L ref ap) with
    | true =>
      refine .inl ⟨rfl, ?_, ?_, trivial⟩
      · rw [if_pos]
        simp [inB] at hi ⊢
        omega
      · rw [if_pos]
        simp [inB] at hi ⊢
        omega
    | false =>
      refine .inr (.inl ⟨rfl, ?_, trivial⟩)
      rw [if_neg]
      simp [inB] at hi ⊢
      omega
  · refine .inr (.inr ⟨chkP L ref ap, by simpa using hc, ?_, ?_, ?_, rfl⟩)
    · rcases chk_three L ref ap with ⟨-, e, -⟩ | ⟨i, -, -, ⟨-, e, -⟩ | ⟨-, e, -⟩⟩ <;> rw [e] <;> rfl
    · unfold rngP; rw [if_neg hc]
    · unfold rngP; rw [if_neg hc]
set_option maxRecDepth 100000 in
set_option maxHeartbeats 4000000 in
theorem wallParts_walk (W : World) (v : Value) (L : List St9) (ref0 at0 n0 ap0 from0 less0 : Int) (hL : Sts9At W v L) : Calls Try.prog 7 #[v, .int .i64 ref0, .int .i64 at0, .int .i64 n0, .int .i64 ap0, .int .i64 from0, .int .i64 less0] W fun e w' => e = .returned (.bool true) ∧ Upd (fun _ => False) W w' := by
  have HL := Lib.hid hL
  clear hL
  go_enter Try.func7, Try.ntmps7
  go_wp2_with fail
  refine (both9 W v L HL.out).mono ?_
  rintro e w1 ⟨b, c, K, m, rfl, hb, hp⟩
  have H1 := Lib.hid hb
  have HP := Lib.hid hp
  have hml := hp.2.1
  clear hb hp
  go_wp2_with fail
  refine (known9 w1 w1 (Upd.refl _ _)).mono ?_
  rintro e w2 ⟨rfl, hu⟩
  have H2 := Lib.hid (H1.out.quiet hu)
  clear hu
  go_wp2_with fail
  refine (pCount H2.out.own.hp).mono ?_
  rintro e w' ⟨rfl, rfl⟩
  have hwc : IntKind.i64.wrap ((m.arrs.length : Int) + 2) = (m.arrs.length : Int) + 2 := IntWalk.i64_in _ (by omega)
  go_wp2_with fail
  refine (hPick ref0 ((m.arrs.length : Int) + 2) w2 (by omega) (by omega)).mono ?_
  rintro e w' ⟨rfl, rfl⟩
  generalize ref0 % ((m.arrs.length : Int) + 2) = rf
  obtain ⟨a1, ha1, ha2⟩ : ∃ a1, at0 % 10 = a1 ∧ (0 ≤ a1 ∧ a1 ≤ 9) := ⟨_, rfl, by omega⟩
  obtain ⟨n1, hn1, hn2⟩ : ∃ n1, n0 % 10 = n1 ∧ (0 ≤ n1 ∧ n1 ≤ 9) := ⟨_, rfl, by omega⟩
  obtain ⟨f1, hf1, hf2⟩ : ∃ f1, from0 % (n1 + 1) = f1 ∧ (0 ≤ f1 ∧ f1 ≤ n1) := ⟨_, rfl, Int.emod_nonneg _ (by omega), by have := Int.emod_lt_of_pos from0 (show 0 < n1 + 1 by omega); omega⟩
  obtain ⟨l1, hl1, hl2⟩ : ∃ l1, less0 % (n1 - f1 + 1) = l1 ∧ (0 ≤ l1 ∧ l1 ≤ n1 - f1) := ⟨_, rfl, Int.emod_nonneg _ (by omega), by have := Int.emod_lt_of_pos less0 (show 0 < n1 - f1 + 1 by omega); omega⟩
  have hw1 : IntKind.i64.wrap (n1 + 1) = n1 + 1 := IntWalk.i64_in _ (by omega)
  have hw2 : IntKind.i64.wrap (n1 - f1) = n1 - f1 := IntWalk.i64_in _ (by omega)
  have hw3 : IntKind.i64.wrap (n1 - f1 + 1) = n1 - f1 + 1 := IntWalk.i64_in _ (by omega)
  have hw4 : IntKind.i64.wrap (a1 + f1) = a1 + f1 := IntWalk.i64_in _ (by omega)
  have hw5 : IntKind.i64.wrap (n1 - f1 - l1) = n1 - f1 - l1 := IntWalk.i64_in _ (by omega)
  have hw6 : IntKind.i64.wrap (n1 + 1 + l1) = n1 + 1 + l1 := IntWalk.i64_in _ (by omega)
  have HA1 := Lib.hid ha1
  have HN1 := Lib.hid hn1
  have HF1 := Lib.hid hf1
  have HL1 := Lib.hid hl1
  clear ha1 hn1 hf1 hl1 HL
  go_wp2_with fail
  refine (hPick at0 10 w2 (by omega) (by omega)).mono ?_
  rintro e w' ⟨rfl, rfl⟩
  rw [HA1.out]
  go_wp2_with fail
  refine (hPick n0 10 w2 (by omega) (by omega)).mono ?_
  rintro e w' ⟨rfl, rfl⟩
  rw [HN1.out]
  go_wp2_with fail
  refine (hPick ap0 4 w2 (by omega) (by omega)).mono ?_
  rintro e w' ⟨rfl, rfl⟩
  generalize ap0 % 4 = ap
  go_wp2_with fail
  refine (hPick from0 (n1 + 1) w2 (by omega) (by omega)).mono ?_
  rintro e w' ⟨rfl, rfl⟩
  rw [HF1.out]
  go_wp2_with fail
  refine (hPick less0 (n1 - f1 + 1) w2 (by omega) (by omega)).mono ?_
  rintro e w' ⟨rfl, rfl⟩
  rw [HL1.out]
  have HR1 := Lib.hid (wRange H2.out.own.hp (by omega) rf a1 n1 ap (by omega))
  have HR2 : Hid (∀ u, Upd (fun _ => False) w2 u → Calls Try.prog 28 #[.pointer (some ⟨b, 0, none⟩), .int .i64 rf, .int .i64 (a1 + f1), .int .i64 (n1 - f1 - l1), .int .i64 ap] u fun e w' => e = .returned (.int .i64 (rngP m.arrs rf (a1 + f1) (n1 - f1 - l1) ap)) ∧ Upd (fun _ => False) u w') := Lib.hid (fun u hu => wRange (H2.out.own.quiet hu).own.hp (by omega) rf (a1 + f1) (n1 - f1 - l1) ap (by omega))
  have HR3 : Hid (∀ u, Upd (fun _ => False) w2 u → Calls Try.prog 28 #[.pointer (some ⟨b, 0, none⟩), .int .i64 rf, .int .i64 a1, .int .i64 0, .int .i64 ap] u fun e w' => e = .returned (.int .i64 (rngP m.arrs rf a1 0 ap)) ∧ Upd (fun _ => False) u w') := Lib.hid (fun u hu => wRange (H2.out.own.quiet hu).own.hp (by omega) rf a1 0 ap (by omega))
  have HR4 : Hid (∀ u, Upd (fun _ => False) w2 u → Calls Try.prog 28 #[.pointer (some ⟨b, 0, none⟩), .int .i64 rf, .int .i64 a1, .int .i64 (n1 + 1 + l1), .int .i64 ap] u fun e w' => e = .returned (.int .i64 (rngP m.arrs rf a1 (n1 + 1 + l1) ap)) ∧ Upd (fun _ => False) u w') := Lib.hid (fun u hu => wRange (H2.out.own.quiet hu).own.hp (by omega) rf a1 (n1 + 1 + l1) ap (by omega))
  have HCK : Hid (∀ u, Upd (fun _ => False) w2 u → Calls Try.prog 27 #[.pointer (some ⟨b, 0, none⟩), .int .i64 rf, .int .i64 ap] u fun e w' => e = .returned (.int .i64 (chkP m.arrs rf ap)) ∧ Upd (fun _ => False) u w') := Lib.hid (fun u hu => wCheck (H2.out.own.quiet hu).own.hp (by omega) rf ap)
  have HU2 := Lib.hid H2.out.own.up
  have hcs := rng_parts m.arrs rf a1 n1 ap f1 l1 ha2.1 hf2 hl2
  generalize rngP m.arrs rf a1 n1 ap = s1 at *
  generalize rngP m.arrs rf (a1 + f1) (n1 - f1 - l1) ap = s2 at *
  generalize rngP m.arrs rf a1 0 ap = s3 at *
  generalize rngP m.arrs rf a1 (n1 + 1 + l1) ap = s4 at *
  generalize chkP m.arrs rf ap = s5 at *
  clear HA1 HN1 HF1 HL1 H1 HP
  go_wp2_with fail
  refine HR1.out.mono ?_
  rintro e w3 ⟨rfl, hu⟩
  have HU3 := Lib.hid hu
  clear hu
  go_wp2_with fail
  refine (HR2.out _ HU3.out).mono ?_
  rintro e w4 ⟨rfl, hu⟩
  have HU4 := Lib.hid (HU3.out.trans hu (fun _ h _ => h))
  clear hu
  rcases hcs with ⟨rfl, rfl, rfl, rfl⟩ | ⟨rfl, rfl, rfl⟩ | ⟨s, g1, g2, rfl, rfl, rfl⟩
  · go_wp2_with fail
    refine (HR3.out _ HU4.out).mono ?_
    rintro e w5 ⟨rfl, hu⟩
    have HU5 := Lib.hid (HU4.out.trans hu (fun _ h _ => h))
    clear hu
    go_wp2_with fail
    refine (HCK.out _ HU5.out).mono ?_
    rintro e w6 ⟨rfl, hu⟩
    have HU6 := Lib.hid (HU2.out.trans (HU5.out.trans hu (fun _ h _ => h)) (fun _ h _ => h))
    clear hu
    go_wp2_with fail
    go_ret
    exact ⟨rfl, HU6.out⟩
  · go_wp2_with fail
    refine (HR4.out _ HU4.out).mono ?_
    rintro e w5 ⟨rfl, hu⟩
    have HU5 := Lib.hid (HU4.out.trans hu (fun _ h _ => h))
    clear hu
    go_wp2_with fail
    refine (HCK.out _ HU5.out).mono ?_
    rintro e w6 ⟨rfl, hu⟩
    have HU6 := Lib.hid (HU2.out.trans (HU5.out.trans hu (fun _ h _ => h)) (fun _ h _ => h))
    clear hu
    go_wp2_with fail
    go_ret
    exact ⟨rfl, HU6.out⟩
  · have hss : True := trivial
    go_wp2_with fail
    refine (HCK.out _ HU4.out).mono ?_
    rintro e w6 ⟨rfl, hu⟩
    have HU6 := Lib.hid (HU2.out.trans (HU4.out.trans hu (fun _ h _ => h)) (fun _ h _ => h))
    clear hu
    go_wp2_with fail
    go_ret
    exact ⟨rfl, HU6.out⟩
theorem wallParts_below (W : World) (v : Value) (L : List St9) (ref0 at0 n0 ap0 from0 less0 : Int) (hL : Sts9At W v L) : Calls Try.prog 7 #[v, .int .i64 ref0, .int .i64 at0, .int .i64 n0, .int .i64 ap0, .int .i64 from0, .int .i64 less0] W fun e w' => e = .returned (.bool true) ∧ Below W.heap.size W w' :=
  (wallParts_walk W v L ref0 at0 n0 ap0 from0 less0 hL).mono fun e w' ⟨h1, h2⟩ => ⟨h1, h2.below (Nat.le_refl _) (fun _ h => h.elim)⟩
end Go.Proofs.Yteapemjkfncbjaa

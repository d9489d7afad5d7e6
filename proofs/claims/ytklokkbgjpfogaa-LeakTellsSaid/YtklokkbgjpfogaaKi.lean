/- Package leak: LeakTells. Made by mkki.py. -/
import Derived.Test.YtklokkbgjpfogaaKh
import Derived.Deep.QuietTactic
namespace Go.Proofs.Ytklokkbgjpfogaa
open Go.RowKit Go.Lib Go.ChangeShapes Go.WideShapes Go.Deep
set_option linter.unusedVariables false
set_option linter.unusedSimpArgs false

set_option maxHeartbeats 4000000 in
theorem tells_short_same_none (W : World) (v u : Value) (L M : List EvM) (turn by' : Int) (hL : Evs W v L) (hW : ∀ s ∈ L, evWi s) (hM : Evs W u M) (hby : -9223372036854775808 ≤ by' ∧ by' ≤ 9223372036854775807) (hlen : L.length ≤ 60) (hm : M.length = 0) :
    Calls Try.prog 4 #[v, u, .int .i64 turn, .int .i64 by', .bool true] W fun e w' => e = .returned (.bool true) ∧ Upd (fun _ => False) W w' := by
  obtain ⟨la, lc, rfl, hlc, hlx⟩ := hL.slice
  obtain ⟨ma, mc, rfl, hmc, hmx⟩ := hM.slice
  unfold maxLen at hlx hmx
  have HA := Lib.hid hL
  have HWI : Hid (∀ s ∈ L, evWi s) := Lib.hid hW
  obtain ⟨X, hX⟩ : ∃ X, X = L := ⟨_, rfl⟩
  have hln : (L.length : Int) ≤ 60 := by omega
  have hl0 : (0 : Int) ≤ (L.length : Int) := Int.natCast_nonneg _
  rw [← hX] at HA HWI
  subst hX
  have HN60 : Hid (X.length = X.length) := Lib.hid rfl
  have HP : Hid (Parts X (turnL X (-1) by') (-1)) := Lib.hid (by rw [turnL_no X (-1) by' (.inl (by omega))]; exact .same _)
  have HM := Lib.hid hM
  have hw61 : IntKind.i64.wrap ((X.length : Int) + 1) = ((X.length : Int) + 1) := IntWalk.i64_in _ (by omega)
  have hgd := ev_guard
  clear hL hW hM hlc hmc
  go_enter Try.func4, Try.ntmps4
  go_wp2_with fail
  refine (tNew W).mono ?_
  rintro e w1 ⟨a, rfl, hta, hu1⟩
  have HTA := Lib.hid hta
  have HU1 := Lib.hid hu1
  clear hta hu1
  go_wp2_with fail
  refine (tNew w1).mono ?_
  rintro e w2 ⟨b, rfl, htb, hu2⟩
  have H2 : Hid (Two10 W w2 a b (ESince W w1) (ESince w1 w2) [] []) := Lib.hid ⟨HTA.out.upd hu2 (fun _ _ h => h), htb, fun k hk hk' => by have := hk.2; have := hk'.1; omega, fun k hk => hk.1, fun k hk => Nat.le_trans HU1.out.size hk.1, HU1.out.trans hu2 (fun _ h _ => h)⟩
  clear htb hu2
  go_wp2_with fail
  refine (known10 w2).mono ?_
  rintro e w3 ⟨rfl, hu⟩
  have H3 := Lib.hid (H2.out.quiet hu)
  clear hu
  go_wp2_with fail
  refine (hPick turn ((X.length : Int) + 1) w3 (by omega) (by omega)).mono ?_
  rintro e w' ⟨rfl, rfl⟩
  go_wp2_with fail
  refine (fillC (.slice la X.length lc) (-1) 0 H3.out.ta (fun w' hu => Two10.arg H3.out.up H3.out.nf HA.out hu) (by have := HN60.out; simp; omega)).mono ?_
  rintro e w4 ⟨rfl, ht, hu⟩
  rw [List.nil_append, turnL_no X (-1) 0 (.inl (by omega))] at ht
  have H4 := Lib.hid (H3.out.first ht hu)
  clear ht hu
  go_wp2_with fail
  refine (fillC (.slice la X.length lc) (-1) by' H4.out.tb (fun w' hu => Two10.arg H4.out.up H4.out.ng HA.out hu) (by have := HN60.out; simp; omega)).mono ?_
  rintro e w5 ⟨rfl, ht, hu⟩
  rw [List.nil_append] at ht
  have H5 := Lib.hid (H4.out.second ht hu)
  clear ht hu
  go_wp2_with fail
  refine (tSame H5.out.ta.lst H5.out.tb.lst HP.out).mono ?_
  rintro e w6 ⟨rfl, hu⟩
  have H6 := Lib.hid (H5.out.quiet hu)
  clear hu
  go_wp2_with fail
  refine (tAll H6.out.ta (by have := HN60.out; omega)).mono ?_
  rintro e w7 ⟨r, rfl, hr, hu, -⟩
  have H7 := Lib.hid (H6.out.quiet hu)
  obtain ⟨ra, rc, rfl, -, hrc⟩ := hr.slice
  have HR7 := Lib.hid hr
  clear hu hr hrc
  have HLEN := Lib.hid (tLen H7.out.ta)
  generalize hxl : X.length = xl at *
  have HXL := Lib.hid hxl
  clear hxl
  go_wp2_with fail
  refine HLEN.out.mono ?_
  rintro e w' ⟨rfl, rfl⟩
  have HR0 : Hid (Evs w7 (.slice ra xl rc) X) := HR7
  go_wp2_with fail
  go_loopw [16] (fun i wr => ∃ k : Nat, k ≤ xl ∧ i = .int .i64 k ∧ Hid (Two10 W wr a b (EMore (ESince W w1) w3 w4) (EMore (ESince w1 w2) w4 w5) X (turnL X (-1) by')) ∧ Hid (Upd (fun _ => False) w7 wr)) (fun i _ => xl - (intOf i).toNat)
  case atStart => exact ⟨0, Nat.zero_le _, rfl, H7, Lib.hid (Upd.refl _ _)⟩
  case round =>
    obtain ⟨k, hk9, rfl, HH, HUU⟩ := hrel
    have hki : (0 : Int) ≤ (k : Int) := Int.natCast_nonneg _
    by_cases hlt : k < xl
    · have HLT : Hid (k < X.length) := Lib.hid (by rw [HXL.out]; exact hlt)
      obtain ⟨lg, lo, rfl, hlg1, c0, c1, c2, c3⟩ := (Two10.arg (S := fun _ => False) HH.out.up (fun _ h => h.elim) HA.out (Upd.refl _ _)).at HLT.out
      obtain ⟨rg, ro, rfl, hrg1, d0, d1, d2, d3⟩ := (HR7.out.upd HUU.out (fun _ _ h => h)).at HLT.out
      have HAT := Lib.hid (tAt HH.out.ta k HLT.out (by rw [HXL.out]; omega))
      generalize X.getD k default = s at *
      have HC : Hid (∀ w', Upd (fun _ => False) wr w' → (w'.cell? ⟨lg, lo + k * 4, none⟩ = some (.int .i64 s.what) ∧ w'.cell? ⟨lg, lo + k * 4 + 1, none⟩ = some (.int .i64 s.a) ∧ w'.cell? ⟨lg, lo + k * 4 + 2, none⟩ = some (.int .i64 s.b) ∧ w'.cell? ⟨lg, lo + k * 4 + 3, none⟩ = some (.int .i64 s.c)) ∧
          (w'.cell? ⟨rg, ro + k * 4, none⟩ = some (.int .i64 s.what) ∧ w'.cell? ⟨rg, ro + k * 4 + 1, none⟩ = some (.int .i64 s.a) ∧ w'.cell? ⟨rg, ro + k * 4 + 2, none⟩ = some (.int .i64 s.b) ∧ w'.cell? ⟨rg, ro + k * 4 + 3, none⟩ = some (.int .i64 s.c))) :=
        Lib.hid (fun w' hu => ⟨(show EvAt wr lg (lo + k * 4) s from ⟨c0, c1, c2, c3⟩).upd hu (fun h => h), (show EvAt wr rg (ro + k * 4) s from ⟨d0, d1, d2, d3⟩).upd hu (fun h => h)⟩)
      clear c0 c1 c2 c3 d0 d1 d2 d3
      unfold evV at HAT
      have hne := fun w : World => evNeq w s s
      have hqq := evEq_self s
      rw [hqq] at hne
      clear hqq
      go_wp2_with fail
      refine HAT.out.mono ?_
      rintro e w8 ⟨rfl, hu8⟩
      obtain ⟨w9, hw9⟩ : ∃ w9, w9 = w8.alloc (.cells #[.int .i64 s.what, .int .i64 s.a, .int .i64 s.b, .int .i64 s.c] 26) := ⟨_, rfl⟩
      have hu9 : Upd (fun _ => False) wr w9 := hu8.trans (by rw [hw9]; exact Upd.alloc (fun _ => False) _ _) (fun _ h _ => h)
      have hx9 : w9.heap[w8.heap.size]? = some (.cells #[.int .i64 s.what, .int .i64 s.a, .int .i64 s.b, .int .i64 s.c] 26 (0, 0)) := by rw [hw9]; exact eTop _ _ _ rfl
      obtain ⟨⟨c0, c1, c2, c3⟩, d0, d1, d2, d3⟩ := HC.out w9 hu9
      obtain ⟨e0, e1, e2, e3, -⟩ := four hx9
      have HW9 := Lib.hid hw9
      have HU9 := Lib.hid hu9
      clear hu8 hw9 hu9 hx9
      go_wp2_with fail
      rw [← HW9.out]
      go_quiet (fail)
      clear c0 c1 c2 c3 d0 d1 d2 d3 e0 e1 e2 e3 hne
      have hu10 : Upd (fun _ => False) wr (w9.drewN nq) := HU9.out.trans (T := fun _ => False) (⟨rfl, rfl, rfl, Nat.le_refl _, fun _ _ _ => rfl⟩ : Upd (fun _ => False) w9 (w9.drewN nq)) (fun _ h _ => h)
      have HH2 := Lib.hid (HH.out.quiet hu10)
      have HUU2 := Lib.hid (HUU.out.trans hu10 (fun _ h _ => h))
      clear hu10
      go_wp2_with fail
      go_roundw
      case rel => exact ⟨k + 1, by omega, by go_num, HH2, HUU2⟩
      case measure => simp [intOf]; omega
    · obtain rfl : k = xl := by omega
      have hmi : (M.length : Int) = 0 := by omega
      go_wp2_with fail
      refine (tSame HH.out.ta.lst HH.out.tb.lst HP.out).mono ?_
      rintro e w11 ⟨rfl, hu⟩
      have H11 := Lib.hid (HH.out.quiet hu)
      clear hu
      go_wp2_with fail
      refine (tSame H11.out.tb.lst H11.out.ta.lst HP.out.swap).mono ?_
      rintro e w12 ⟨rfl, hu⟩
      have H12 := Lib.hid (H11.out.quiet hu)
      clear hu
      go_wp2_with fail
      go_ret
      exact ⟨rfl, H12.out.up⟩
set_option maxHeartbeats 4000000 in
theorem tells_short_same_more (W : World) (v u : Value) (L M : List EvM) (turn by' : Int) (hL : Evs W v L) (hW : ∀ s ∈ L, evWi s) (hM : Evs W u M) (hby : -9223372036854775808 ≤ by' ∧ by' ≤ 9223372036854775807) (hlen : L.length ≤ 60) (hm : 0 < M.length) :
    Calls Try.prog 4 #[v, u, .int .i64 turn, .int .i64 by', .bool true] W fun e w' => e = .returned (.bool true) ∧ Upd (fun _ => False) W w' := by
  obtain ⟨la, lc, rfl, hlc, hlx⟩ := hL.slice
  obtain ⟨ma, mc, rfl, hmc, hmx⟩ := hM.slice
  unfold maxLen at hlx hmx
  have HA := Lib.hid hL
  have HWI : Hid (∀ s ∈ L, evWi s) := Lib.hid hW
  obtain ⟨X, hX⟩ : ∃ X, X = L := ⟨_, rfl⟩
  have hln : (L.length : Int) ≤ 60 := by omega
  have hl0 : (0 : Int) ≤ (L.length : Int) := Int.natCast_nonneg _
  rw [← hX] at HA HWI
  subst hX
  have HN60 : Hid (X.length = X.length) := Lib.hid rfl
  have HP : Hid (Parts X (turnL X (-1) by') (-1)) := Lib.hid (by rw [turnL_no X (-1) by' (.inl (by omega))]; exact .same _)
  have HM := Lib.hid hM
  have hw61 : IntKind.i64.wrap ((X.length : Int) + 1) = ((X.length : Int) + 1) := IntWalk.i64_in _ (by omega)
  have hgd := ev_guard
  have hmc1 : 1 ≤ mc := by omega
  clear hL hW hM hlc hmc
  go_enter Try.func4, Try.ntmps4
  go_wp2_with fail
  refine (tNew W).mono ?_
  rintro e w1 ⟨a, rfl, hta, hu1⟩
  have HTA := Lib.hid hta
  have HU1 := Lib.hid hu1
  clear hta hu1
  go_wp2_with fail
  refine (tNew w1).mono ?_
  rintro e w2 ⟨b, rfl, htb, hu2⟩
  have H2 : Hid (Two10 W w2 a b (ESince W w1) (ESince w1 w2) [] []) := Lib.hid ⟨HTA.out.upd hu2 (fun _ _ h => h), htb, fun k hk hk' => by have := hk.2; have := hk'.1; omega, fun k hk => hk.1, fun k hk => Nat.le_trans HU1.out.size hk.1, HU1.out.trans hu2 (fun _ h _ => h)⟩
  clear htb hu2
  go_wp2_with fail
  refine (known10 w2).mono ?_
  rintro e w3 ⟨rfl, hu⟩
  have H3 := Lib.hid (H2.out.quiet hu)
  clear hu
  go_wp2_with fail
  refine (hPick turn ((X.length : Int) + 1) w3 (by omega) (by omega)).mono ?_
  rintro e w' ⟨rfl, rfl⟩
  go_wp2_with fail
  refine (fillC (.slice la X.length lc) (-1) 0 H3.out.ta (fun w' hu => Two10.arg H3.out.up H3.out.nf HA.out hu) (by have := HN60.out; simp; omega)).mono ?_
  rintro e w4 ⟨rfl, ht, hu⟩
  rw [List.nil_append, turnL_no X (-1) 0 (.inl (by omega))] at ht
  have H4 := Lib.hid (H3.out.first ht hu)
  clear ht hu
  go_wp2_with fail
  refine (fillC (.slice la X.length lc) (-1) by' H4.out.tb (fun w' hu => Two10.arg H4.out.up H4.out.ng HA.out hu) (by have := HN60.out; simp; omega)).mono ?_
  rintro e w5 ⟨rfl, ht, hu⟩
  rw [List.nil_append] at ht
  have H5 := Lib.hid (H4.out.second ht hu)
  clear ht hu
  go_wp2_with fail
  refine (tSame H5.out.ta.lst H5.out.tb.lst HP.out).mono ?_
  rintro e w6 ⟨rfl, hu⟩
  have H6 := Lib.hid (H5.out.quiet hu)
  clear hu
  go_wp2_with fail
  refine (tAll H6.out.ta (by have := HN60.out; omega)).mono ?_
  rintro e w7 ⟨r, rfl, hr, hu, -⟩
  have H7 := Lib.hid (H6.out.quiet hu)
  obtain ⟨ra, rc, rfl, -, hrc⟩ := hr.slice
  have HR7 := Lib.hid hr
  clear hu hr hrc
  have HLEN := Lib.hid (tLen H7.out.ta)
  generalize hxl : X.length = xl at *
  have HXL := Lib.hid hxl
  clear hxl
  go_wp2_with fail
  refine HLEN.out.mono ?_
  rintro e w' ⟨rfl, rfl⟩
  have HR0 : Hid (Evs w7 (.slice ra xl rc) X) := HR7
  go_wp2_with fail
  go_loopw [16] (fun i wr => ∃ k : Nat, k ≤ xl ∧ i = .int .i64 k ∧ Hid (Two10 W wr a b (EMore (ESince W w1) w3 w4) (EMore (ESince w1 w2) w4 w5) X (turnL X (-1) by')) ∧ Hid (Upd (fun _ => False) w7 wr)) (fun i _ => xl - (intOf i).toNat)
  case atStart => exact ⟨0, Nat.zero_le _, rfl, H7, Lib.hid (Upd.refl _ _)⟩
  case round =>
    obtain ⟨k, hk9, rfl, HH, HUU⟩ := hrel
    have hki : (0 : Int) ≤ (k : Int) := Int.natCast_nonneg _
    by_cases hlt : k < xl
    · have HLT : Hid (k < X.length) := Lib.hid (by rw [HXL.out]; exact hlt)
      obtain ⟨lg, lo, rfl, hlg1, c0, c1, c2, c3⟩ := (Two10.arg (S := fun _ => False) HH.out.up (fun _ h => h.elim) HA.out (Upd.refl _ _)).at HLT.out
      obtain ⟨rg, ro, rfl, hrg1, d0, d1, d2, d3⟩ := (HR7.out.upd HUU.out (fun _ _ h => h)).at HLT.out
      have HAT := Lib.hid (tAt HH.out.ta k HLT.out (by rw [HXL.out]; omega))
      generalize X.getD k default = s at *
      have HC : Hid (∀ w', Upd (fun _ => False) wr w' → (w'.cell? ⟨lg, lo + k * 4, none⟩ = some (.int .i64 s.what) ∧ w'.cell? ⟨lg, lo + k * 4 + 1, none⟩ = some (.int .i64 s.a) ∧ w'.cell? ⟨lg, lo + k * 4 + 2, none⟩ = some (.int .i64 s.b) ∧ w'.cell? ⟨lg, lo + k * 4 + 3, none⟩ = some (.int .i64 s.c)) ∧
          (w'.cell? ⟨rg, ro + k * 4, none⟩ = some (.int .i64 s.what) ∧ w'.cell? ⟨rg, ro + k * 4 + 1, none⟩ = some (.int .i64 s.a) ∧ w'.cell? ⟨rg, ro + k * 4 + 2, none⟩ = some (.int .i64 s.b) ∧ w'.cell? ⟨rg, ro + k * 4 + 3, none⟩ = some (.int .i64 s.c))) :=
        Lib.hid (fun w' hu => ⟨(show EvAt wr lg (lo + k * 4) s from ⟨c0, c1, c2, c3⟩).upd hu (fun h => h), (show EvAt wr rg (ro + k * 4) s from ⟨d0, d1, d2, d3⟩).upd hu (fun h => h)⟩)
      clear c0 c1 c2 c3 d0 d1 d2 d3
      unfold evV at HAT
      have hne := fun w : World => evNeq w s s
      have hqq := evEq_self s
      rw [hqq] at hne
      clear hqq
      go_wp2_with fail
      refine HAT.out.mono ?_
      rintro e w8 ⟨rfl, hu8⟩
      obtain ⟨w9, hw9⟩ : ∃ w9, w9 = w8.alloc (.cells #[.int .i64 s.what, .int .i64 s.a, .int .i64 s.b, .int .i64 s.c] 26) := ⟨_, rfl⟩
      have hu9 : Upd (fun _ => False) wr w9 := hu8.trans (by rw [hw9]; exact Upd.alloc (fun _ => False) _ _) (fun _ h _ => h)
      have hx9 : w9.heap[w8.heap.size]? = some (.cells #[.int .i64 s.what, .int .i64 s.a, .int .i64 s.b, .int .i64 s.c] 26 (0, 0)) := by rw [hw9]; exact eTop _ _ _ rfl
      obtain ⟨⟨c0, c1, c2, c3⟩, d0, d1, d2, d3⟩ := HC.out w9 hu9
      obtain ⟨e0, e1, e2, e3, -⟩ := four hx9
      have HW9 := Lib.hid hw9
      have HU9 := Lib.hid hu9
      clear hu8 hw9 hu9 hx9
      go_wp2_with fail
      rw [← HW9.out]
      go_quiet (fail)
      clear c0 c1 c2 c3 d0 d1 d2 d3 e0 e1 e2 e3 hne
      have hu10 : Upd (fun _ => False) wr (w9.drewN nq) := HU9.out.trans (T := fun _ => False) (⟨rfl, rfl, rfl, Nat.le_refl _, fun _ _ _ => rfl⟩ : Upd (fun _ => False) w9 (w9.drewN nq)) (fun _ h _ => h)
      have HH2 := Lib.hid (HH.out.quiet hu10)
      have HUU2 := Lib.hid (HUU.out.trans hu10 (fun _ h _ => h))
      clear hu10
      go_wp2_with fail
      go_roundw
      case rel => exact ⟨k + 1, by omega, by go_num, HH2, HUU2⟩
      case measure => simp [intOf]; omega
    · obtain rfl : k = xl := by omega
      obtain ⟨m0, hm0⟩ : ∃ m0, M.take 1 = [m0] := by
        cases M with
        | nil => simp at hm
        | cons x M' => exact ⟨x, rfl⟩
      have HM1 : Hid (Evs W (.slice ma 1 mc) [m0]) := Lib.hid (by rw [← hm0]; exact HM.out.take (by omega))
      have HP2 : Hid (Parts (X ++ [m0]) (turnL X (-1) by') (k : Int)) := Lib.hid (HP.out.snoc m0 (by have := HXL.out; omega) _ (by have := HXL.out; omega))
      have hmi : (0 : Int) < (M.length : Int) := by omega
      clear hm0
      go_wp2_with fail
      refine (fillC (.slice ma 1 mc) (-1) 0 HH.out.ta (fun w' hu => Two10.arg HH.out.up HH.out.nf HM1.out hu) (by have := HXL.out; simp; omega)).mono ?_
      rintro e w10 ⟨rfl, ht, hu⟩
      rw [turnL_no [m0] (-1) 0 (.inl (by omega))] at ht
      have H10 := Lib.hid (HH.out.first ht hu)
      clear ht hu
      go_wp2_with fail
      refine (tSame H10.out.ta.lst H10.out.tb.lst HP2.out).mono ?_
      rintro e w11 ⟨rfl, hu⟩
      have H11 := Lib.hid (H10.out.quiet hu)
      clear hu
      go_wp2_with fail
      refine (tSame H11.out.tb.lst H11.out.ta.lst HP2.out.swap).mono ?_
      rintro e w12 ⟨rfl, hu⟩
      have H12 := Lib.hid (H11.out.quiet hu)
      clear hu
      go_wp2_with fail
      go_ret
      exact ⟨rfl, H12.out.up⟩
set_option maxHeartbeats 4000000 in
theorem tells_short_in_none (W : World) (v u : Value) (L M : List EvM) (turn by' : Int) (hL : Evs W v L) (hW : ∀ s ∈ L, evWi s) (hM : Evs W u M) (hby : -9223372036854775808 ≤ by' ∧ by' ≤ 9223372036854775807) (hlen : L.length ≤ 60) (hm : M.length = 0) (hk : turn % ((L.length : Int) + 1) < (L.length : Int)) (hb : by' ≠ 0) :
    Calls Try.prog 4 #[v, u, .int .i64 turn, .int .i64 by', .bool false] W fun e w' => e = .returned (.bool true) ∧ Upd (fun _ => False) W w' := by
  obtain ⟨la, lc, rfl, hlc, hlx⟩ := hL.slice
  obtain ⟨ma, mc, rfl, hmc, hmx⟩ := hM.slice
  unfold maxLen at hlx hmx
  have HA := Lib.hid hL
  have HWI : Hid (∀ s ∈ L, evWi s) := Lib.hid hW
  obtain ⟨X, hX⟩ : ∃ X, X = L := ⟨_, rfl⟩
  have hln : (L.length : Int) ≤ 60 := by omega
  have hl0 : (0 : Int) ≤ (L.length : Int) := Int.natCast_nonneg _
  rw [← hX] at HA HWI
  subst hX
  have HN60 : Hid (X.length = X.length) := Lib.hid rfl
  obtain ⟨kk, hkk⟩ : ∃ kk, kk = turn % ((X.length : Int) + 1) := ⟨_, rfl⟩
  have hk0 : 0 ≤ kk := by rw [hkk]; exact Int.emod_nonneg _ (by omega)
  have hk1 : kk < (X.length : Int) := by rw [hkk]; exact hk
  have HP : Hid (Parts X (turnL X kk by') kk) := Lib.hid (turnL_parts X kk by' HWI.out hk0 (by have := HN60.out; omega) hb hby)
  have hbb : (by' != 0) = true := by simpa using hb
  have hkw : -9223372036854775808 ≤ kk ∧ kk ≤ 9223372036854775807 := by omega
  have HKK := Lib.hid hkk
  clear hkk hk
  clear hb
  have HM := Lib.hid hM
  have hw61 : IntKind.i64.wrap ((X.length : Int) + 1) = ((X.length : Int) + 1) := IntWalk.i64_in _ (by omega)
  have hgd := ev_guard
  clear hL hW hM hlc hmc
  go_enter Try.func4, Try.ntmps4
  go_wp2_with fail
  refine (tNew W).mono ?_
  rintro e w1 ⟨a, rfl, hta, hu1⟩
  have HTA := Lib.hid hta
  have HU1 := Lib.hid hu1
  clear hta hu1
  go_wp2_with fail
  refine (tNew w1).mono ?_
  rintro e w2 ⟨b, rfl, htb, hu2⟩
  have H2 : Hid (Two10 W w2 a b (ESince W w1) (ESince w1 w2) [] []) := Lib.hid ⟨HTA.out.upd hu2 (fun _ _ h => h), htb, fun k hk hk' => by have := hk.2; have := hk'.1; omega, fun k hk => hk.1, fun k hk => Nat.le_trans HU1.out.size hk.1, HU1.out.trans hu2 (fun _ h _ => h)⟩
  clear htb hu2
  go_wp2_with fail
  refine (known10 w2).mono ?_
  rintro e w3 ⟨rfl, hu⟩
  have H3 := Lib.hid (H2.out.quiet hu)
  clear hu
  go_wp2_with fail
  refine (hPick turn ((X.length : Int) + 1) w3 (by omega) (by omega)).mono ?_
  rintro e w' ⟨rfl, rfl⟩
  rw [← HKK.out]
  go_wp2_with fail
  refine (fillC (.slice la X.length lc) (-1) 0 H3.out.ta (fun w' hu => Two10.arg H3.out.up H3.out.nf HA.out hu) (by have := HN60.out; simp; omega)).mono ?_
  rintro e w4 ⟨rfl, ht, hu⟩
  rw [List.nil_append, turnL_no X (-1) 0 (.inl (by omega))] at ht
  have H4 := Lib.hid (H3.out.first ht hu)
  clear ht hu
  go_wp2_with fail
  refine (fillC (.slice la X.length lc) kk by' H4.out.tb (fun w' hu => Two10.arg H4.out.up H4.out.ng HA.out hu) (by have := HN60.out; simp; omega)).mono ?_
  rintro e w5 ⟨rfl, ht, hu⟩
  rw [List.nil_append] at ht
  have H5 := Lib.hid (H4.out.second ht hu)
  clear ht hu
  go_wp2_with fail
  refine (tSame H5.out.ta.lst H5.out.tb.lst HP.out).mono ?_
  rintro e w6 ⟨rfl, hu⟩
  have H6 := Lib.hid (H5.out.quiet hu)
  clear hu
  go_wp2_with fail
  refine (tAll H6.out.ta (by have := HN60.out; omega)).mono ?_
  rintro e w7 ⟨r, rfl, hr, hu, -⟩
  have H7 := Lib.hid (H6.out.quiet hu)
  obtain ⟨ra, rc, rfl, -, hrc⟩ := hr.slice
  have HR7 := Lib.hid hr
  clear hu hr hrc
  have HLEN := Lib.hid (tLen H7.out.ta)
  generalize hxl : X.length = xl at *
  have HXL := Lib.hid hxl
  clear hxl
  go_wp2_with fail
  refine HLEN.out.mono ?_
  rintro e w' ⟨rfl, rfl⟩
  have HR0 : Hid (Evs w7 (.slice ra xl rc) X) := HR7
  go_wp2_with fail
  go_loopw [16] (fun i wr => ∃ k : Nat, k ≤ xl ∧ i = .int .i64 k ∧ Hid (Two10 W wr a b (EMore (ESince W w1) w3 w4) (EMore (ESince w1 w2) w4 w5) X (turnL X kk by')) ∧ Hid (Upd (fun _ => False) w7 wr)) (fun i _ => xl - (intOf i).toNat)
  case atStart => exact ⟨0, Nat.zero_le _, rfl, H7, Lib.hid (Upd.refl _ _)⟩
  case round =>
    obtain ⟨k, hk9, rfl, HH, HUU⟩ := hrel
    have hki : (0 : Int) ≤ (k : Int) := Int.natCast_nonneg _
    by_cases hlt : k < xl
    · have HLT : Hid (k < X.length) := Lib.hid (by rw [HXL.out]; exact hlt)
      obtain ⟨lg, lo, rfl, hlg1, c0, c1, c2, c3⟩ := (Two10.arg (S := fun _ => False) HH.out.up (fun _ h => h.elim) HA.out (Upd.refl _ _)).at HLT.out
      obtain ⟨rg, ro, rfl, hrg1, d0, d1, d2, d3⟩ := (HR7.out.upd HUU.out (fun _ _ h => h)).at HLT.out
      have HAT := Lib.hid (tAt HH.out.ta k HLT.out (by rw [HXL.out]; omega))
      generalize X.getD k default = s at *
      have HC : Hid (∀ w', Upd (fun _ => False) wr w' → (w'.cell? ⟨lg, lo + k * 4, none⟩ = some (.int .i64 s.what) ∧ w'.cell? ⟨lg, lo + k * 4 + 1, none⟩ = some (.int .i64 s.a) ∧ w'.cell? ⟨lg, lo + k * 4 + 2, none⟩ = some (.int .i64 s.b) ∧ w'.cell? ⟨lg, lo + k * 4 + 3, none⟩ = some (.int .i64 s.c)) ∧
          (w'.cell? ⟨rg, ro + k * 4, none⟩ = some (.int .i64 s.what) ∧ w'.cell? ⟨rg, ro + k * 4 + 1, none⟩ = some (.int .i64 s.a) ∧ w'.cell? ⟨rg, ro + k * 4 + 2, none⟩ = some (.int .i64 s.b) ∧ w'.cell? ⟨rg, ro + k * 4 + 3, none⟩ = some (.int .i64 s.c))) :=
        Lib.hid (fun w' hu => ⟨(show EvAt wr lg (lo + k * 4) s from ⟨c0, c1, c2, c3⟩).upd hu (fun h => h), (show EvAt wr rg (ro + k * 4) s from ⟨d0, d1, d2, d3⟩).upd hu (fun h => h)⟩)
      clear c0 c1 c2 c3 d0 d1 d2 d3
      unfold evV at HAT
      have hne := fun w : World => evNeq w s s
      have hqq := evEq_self s
      rw [hqq] at hne
      clear hqq
      go_wp2_with fail
      refine HAT.out.mono ?_
      rintro e w8 ⟨rfl, hu8⟩
      obtain ⟨w9, hw9⟩ : ∃ w9, w9 = w8.alloc (.cells #[.int .i64 s.what, .int .i64 s.a, .int .i64 s.b, .int .i64 s.c] 26) := ⟨_, rfl⟩
      have hu9 : Upd (fun _ => False) wr w9 := hu8.trans (by rw [hw9]; exact Upd.alloc (fun _ => False) _ _) (fun _ h _ => h)
      have hx9 : w9.heap[w8.heap.size]? = some (.cells #[.int .i64 s.what, .int .i64 s.a, .int .i64 s.b, .int .i64 s.c] 26 (0, 0)) := by rw [hw9]; exact eTop _ _ _ rfl
      obtain ⟨⟨c0, c1, c2, c3⟩, d0, d1, d2, d3⟩ := HC.out w9 hu9
      obtain ⟨e0, e1, e2, e3, -⟩ := four hx9
      have HW9 := Lib.hid hw9
      have HU9 := Lib.hid hu9
      clear hu8 hw9 hu9 hx9
      go_wp2_with fail
      rw [← HW9.out]
      go_quiet (fail)
      clear c0 c1 c2 c3 d0 d1 d2 d3 e0 e1 e2 e3 hne
      have hu10 : Upd (fun _ => False) wr (w9.drewN nq) := HU9.out.trans (T := fun _ => False) (⟨rfl, rfl, rfl, Nat.le_refl _, fun _ _ _ => rfl⟩ : Upd (fun _ => False) w9 (w9.drewN nq)) (fun _ h _ => h)
      have HH2 := Lib.hid (HH.out.quiet hu10)
      have HUU2 := Lib.hid (HUU.out.trans hu10 (fun _ h _ => h))
      clear hu10
      go_wp2_with fail
      go_roundw
      case rel => exact ⟨k + 1, by omega, by go_num, HH2, HUU2⟩
      case measure => simp [intOf]; omega
    · obtain rfl : k = xl := by omega
      have hmi : (M.length : Int) = 0 := by omega
      go_wp2_with fail
      refine (tSame HH.out.ta.lst HH.out.tb.lst HP.out).mono ?_
      rintro e w11 ⟨rfl, hu⟩
      have H11 := Lib.hid (HH.out.quiet hu)
      clear hu
      go_wp2_with fail
      refine (tSame H11.out.tb.lst H11.out.ta.lst HP.out.swap).mono ?_
      rintro e w12 ⟨rfl, hu⟩
      have H12 := Lib.hid (H11.out.quiet hu)
      clear hu
      go_wp2_with fail
      go_ret
      exact ⟨rfl, H12.out.up⟩
set_option maxHeartbeats 4000000 in
theorem tells_short_in_more (W : World) (v u : Value) (L M : List EvM) (turn by' : Int) (hL : Evs W v L) (hW : ∀ s ∈ L, evWi s) (hM : Evs W u M) (hby : -9223372036854775808 ≤ by' ∧ by' ≤ 9223372036854775807) (hlen : L.length ≤ 60) (hm : 0 < M.length) (hk : turn % ((L.length : Int) + 1) < (L.length : Int)) (hb : by' ≠ 0) :
    Calls Try.prog 4 #[v, u, .int .i64 turn, .int .i64 by', .bool false] W fun e w' => e = .returned (.bool true) ∧ Upd (fun _ => False) W w' := by
  obtain ⟨la, lc, rfl, hlc, hlx⟩ := hL.slice
  obtain ⟨ma, mc, rfl, hmc, hmx⟩ := hM.slice
  unfold maxLen at hlx hmx
  have HA := Lib.hid hL
  have HWI : Hid (∀ s ∈ L, evWi s) := Lib.hid hW
  obtain ⟨X, hX⟩ : ∃ X, X = L := ⟨_, rfl⟩
  have hln : (L.length : Int) ≤ 60 := by omega
  have hl0 : (0 : Int) ≤ (L.length : Int) := Int.natCast_nonneg _
  rw [← hX] at HA HWI
  subst hX
  have HN60 : Hid (X.length = X.length) := Lib.hid rfl
  obtain ⟨kk, hkk⟩ : ∃ kk, kk = turn % ((X.length : Int) + 1) := ⟨_, rfl⟩
  have hk0 : 0 ≤ kk := by rw [hkk]; exact Int.emod_nonneg _ (by omega)
  have hk1 : kk < (X.length : Int) := by rw [hkk]; exact hk
  have HP : Hid (Parts X (turnL X kk by') kk) := Lib.hid (turnL_parts X kk by' HWI.out hk0 (by have := HN60.out; omega) hb hby)
  have hbb : (by' != 0) = true := by simpa using hb
  have hkw : -9223372036854775808 ≤ kk ∧ kk ≤ 9223372036854775807 := by omega
  have HKK := Lib.hid hkk
  clear hkk hk
  clear hb
  have HM := Lib.hid hM
  have hw61 : IntKind.i64.wrap ((X.length : Int) + 1) = ((X.length : Int) + 1) := IntWalk.i64_in _ (by omega)
  have hgd := ev_guard
  have hmc1 : 1 ≤ mc := by omega
  clear hL hW hM hlc hmc
  go_enter Try.func4, Try.ntmps4
  go_wp2_with fail
  refine (tNew W).mono ?_
  rintro e w1 ⟨a, rfl, hta, hu1⟩
  have HTA := Lib.hid hta
  have HU1 := Lib.hid hu1
  clear hta hu1
  go_wp2_with fail
  refine (tNew w1).mono ?_
  rintro e w2 ⟨b, rfl, htb, hu2⟩
  have H2 : Hid (Two10 W w2 a b (ESince W w1) (ESince w1 w2) [] []) := Lib.hid ⟨HTA.out.upd hu2 (fun _ _ h => h), htb, fun k hk hk' => by have := hk.2; have := hk'.1; omega, fun k hk => hk.1, fun k hk => Nat.le_trans HU1.out.size hk.1, HU1.out.trans hu2 (fun _ h _ => h)⟩
  clear htb hu2
  go_wp2_with fail
  refine (known10 w2).mono ?_
  rintro e w3 ⟨rfl, hu⟩
  have H3 := Lib.hid (H2.out.quiet hu)
  clear hu
  go_wp2_with fail
  refine (hPick turn ((X.length : Int) + 1) w3 (by omega) (by omega)).mono ?_
  rintro e w' ⟨rfl, rfl⟩
  rw [← HKK.out]
  go_wp2_with fail
  refine (fillC (.slice la X.length lc) (-1) 0 H3.out.ta (fun w' hu => Two10.arg H3.out.up H3.out.nf HA.out hu) (by have := HN60.out; simp; omega)).mono ?_
  rintro e w4 ⟨rfl, ht, hu⟩
  rw [List.nil_append, turnL_no X (-1) 0 (.inl (by omega))] at ht
  have H4 := Lib.hid (H3.out.first ht hu)
  clear ht hu
  go_wp2_with fail
  refine (fillC (.slice la X.length lc) kk by' H4.out.tb (fun w' hu => Two10.arg H4.out.up H4.out.ng HA.out hu) (by have := HN60.out; simp; omega)).mono ?_
  rintro e w5 ⟨rfl, ht, hu⟩
  rw [List.nil_append] at ht
  have H5 := Lib.hid (H4.out.second ht hu)
  clear ht hu
  go_wp2_with fail
  refine (tSame H5.out.ta.lst H5.out.tb.lst HP.out).mono ?_
  rintro e w6 ⟨rfl, hu⟩
  have H6 := Lib.hid (H5.out.quiet hu)
  clear hu
  go_wp2_with fail
  refine (tAll H6.out.ta (by have := HN60.out; omega)).mono ?_
  rintro e w7 ⟨r, rfl, hr, hu, -⟩
  have H7 := Lib.hid (H6.out.quiet hu)
  obtain ⟨ra, rc, rfl, -, hrc⟩ := hr.slice
  have HR7 := Lib.hid hr
  clear hu hr hrc
  have HLEN := Lib.hid (tLen H7.out.ta)
  generalize hxl : X.length = xl at *
  have HXL := Lib.hid hxl
  clear hxl
  go_wp2_with fail
  refine HLEN.out.mono ?_
  rintro e w' ⟨rfl, rfl⟩
  have HR0 : Hid (Evs w7 (.slice ra xl rc) X) := HR7
  go_wp2_with fail
  go_loopw [16] (fun i wr => ∃ k : Nat, k ≤ xl ∧ i = .int .i64 k ∧ Hid (Two10 W wr a b (EMore (ESince W w1) w3 w4) (EMore (ESince w1 w2) w4 w5) X (turnL X kk by')) ∧ Hid (Upd (fun _ => False) w7 wr)) (fun i _ => xl - (intOf i).toNat)
  case atStart => exact ⟨0, Nat.zero_le _, rfl, H7, Lib.hid (Upd.refl _ _)⟩
  case round =>
    obtain ⟨k, hk9, rfl, HH, HUU⟩ := hrel
    have hki : (0 : Int) ≤ (k : Int) := Int.natCast_nonneg _
    by_cases hlt : k < xl
    · have HLT : Hid (k < X.length) := Lib.hid (by rw [HXL.out]; exact hlt)
      obtain ⟨lg, lo, rfl, hlg1, c0, c1, c2, c3⟩ := (Two10.arg (S := fun _ => False) HH.out.up (fun _ h => h.elim) HA.out (Upd.refl _ _)).at HLT.out
      obtain ⟨rg, ro, rfl, hrg1, d0, d1, d2, d3⟩ := (HR7.out.upd HUU.out (fun _ _ h => h)).at HLT.out
      have HAT := Lib.hid (tAt HH.out.ta k HLT.out (by rw [HXL.out]; omega))
      generalize X.getD k default = s at *
      have HC : Hid (∀ w', Upd (fun _ => False) wr w' → (w'.cell? ⟨lg, lo + k * 4, none⟩ = some (.int .i64 s.what) ∧ w'.cell? ⟨lg, lo + k * 4 + 1, none⟩ = some (.int .i64 s.a) ∧ w'.cell? ⟨lg, lo + k * 4 + 2, none⟩ = some (.int .i64 s.b) ∧ w'.cell? ⟨lg, lo + k * 4 + 3, none⟩ = some (.int .i64 s.c)) ∧
          (w'.cell? ⟨rg, ro + k * 4, none⟩ = some (.int .i64 s.what) ∧ w'.cell? ⟨rg, ro + k * 4 + 1, none⟩ = some (.int .i64 s.a) ∧ w'.cell? ⟨rg, ro + k * 4 + 2, none⟩ = some (.int .i64 s.b) ∧ w'.cell? ⟨rg, ro + k * 4 + 3, none⟩ = some (.int .i64 s.c))) :=
        Lib.hid (fun w' hu => ⟨(show EvAt wr lg (lo + k * 4) s from ⟨c0, c1, c2, c3⟩).upd hu (fun h => h), (show EvAt wr rg (ro + k * 4) s from ⟨d0, d1, d2, d3⟩).upd hu (fun h => h)⟩)
      clear c0 c1 c2 c3 d0 d1 d2 d3
      unfold evV at HAT
      have hne := fun w : World => evNeq w s s
      have hqq := evEq_self s
      rw [hqq] at hne
      clear hqq
      go_wp2_with fail
      refine HAT.out.mono ?_
      rintro e w8 ⟨rfl, hu8⟩
      obtain ⟨w9, hw9⟩ : ∃ w9, w9 = w8.alloc (.cells #[.int .i64 s.what, .int .i64 s.a, .int .i64 s.b, .int .i64 s.c] 26) := ⟨_, rfl⟩
      have hu9 : Upd (fun _ => False) wr w9 := hu8.trans (by rw [hw9]; exact Upd.alloc (fun _ => False) _ _) (fun _ h _ => h)
      have hx9 : w9.heap[w8.heap.size]? = some (.cells #[.int .i64 s.what, .int .i64 s.a, .int .i64 s.b, .int .i64 s.c] 26 (0, 0)) := by rw [hw9]; exact eTop _ _ _ rfl
      obtain ⟨⟨c0, c1, c2, c3⟩, d0, d1, d2, d3⟩ := HC.out w9 hu9
      obtain ⟨e0, e1, e2, e3, -⟩ := four hx9
      have HW9 := Lib.hid hw9
      have HU9 := Lib.hid hu9
      clear hu8 hw9 hu9 hx9
      go_wp2_with fail
      rw [← HW9.out]
      go_quiet (fail)
      clear c0 c1 c2 c3 d0 d1 d2 d3 e0 e1 e2 e3 hne
      have hu10 : Upd (fun _ => False) wr (w9.drewN nq) := HU9.out.trans (T := fun _ => False) (⟨rfl, rfl, rfl, Nat.le_refl _, fun _ _ _ => rfl⟩ : Upd (fun _ => False) w9 (w9.drewN nq)) (fun _ h _ => h)
      have HH2 := Lib.hid (HH.out.quiet hu10)
      have HUU2 := Lib.hid (HUU.out.trans hu10 (fun _ h _ => h))
      clear hu10
      go_wp2_with fail
      go_roundw
      case rel => exact ⟨k + 1, by omega, by go_num, HH2, HUU2⟩
      case measure => simp [intOf]; omega
    · obtain rfl : k = xl := by omega
      obtain ⟨m0, hm0⟩ : ∃ m0, M.take 1 = [m0] := by
        cases M with
        | nil => simp at hm
        | cons x M' => exact ⟨x, rfl⟩
      have HM1 : Hid (Evs W (.slice ma 1 mc) [m0]) := Lib.hid (by rw [← hm0]; exact HM.out.take (by omega))
      have HP2 : Hid (Parts (X ++ [m0]) (turnL X kk by') kk) := Lib.hid (HP.out.snoc m0 (by have := HXL.out; omega) _ (by have := HXL.out; omega))
      have hmi : (0 : Int) < (M.length : Int) := by omega
      clear hm0
      go_wp2_with fail
      refine (fillC (.slice ma 1 mc) (-1) 0 HH.out.ta (fun w' hu => Two10.arg HH.out.up HH.out.nf HM1.out hu) (by have := HXL.out; simp; omega)).mono ?_
      rintro e w10 ⟨rfl, ht, hu⟩
      rw [turnL_no [m0] (-1) 0 (.inl (by omega))] at ht
      have H10 := Lib.hid (HH.out.first ht hu)
      clear ht hu
      go_wp2_with fail
      refine (tSame H10.out.ta.lst H10.out.tb.lst HP2.out).mono ?_
      rintro e w11 ⟨rfl, hu⟩
      have H11 := Lib.hid (H10.out.quiet hu)
      clear hu
      go_wp2_with fail
      refine (tSame H11.out.tb.lst H11.out.ta.lst HP2.out.swap).mono ?_
      rintro e w12 ⟨rfl, hu⟩
      have H12 := Lib.hid (H11.out.quiet hu)
      clear hu
      go_wp2_with fail
      go_ret
      exact ⟨rfl, H12.out.up⟩
set_option maxHeartbeats 4000000 in
theorem tells_short_zero_none (W : World) (v u : Value) (L M : List EvM) (turn by' : Int) (hL : Evs W v L) (hW : ∀ s ∈ L, evWi s) (hM : Evs W u M) (hby : -9223372036854775808 ≤ by' ∧ by' ≤ 9223372036854775807) (hlen : L.length ≤ 60) (hm : M.length = 0) (hk : turn % ((L.length : Int) + 1) < (L.length : Int)) (hb : by' = 0) :
    Calls Try.prog 4 #[v, u, .int .i64 turn, .int .i64 by', .bool false] W fun e w' => e = .returned (.bool true) ∧ Upd (fun _ => False) W w' := by
  obtain ⟨la, lc, rfl, hlc, hlx⟩ := hL.slice
  obtain ⟨ma, mc, rfl, hmc, hmx⟩ := hM.slice
  unfold maxLen at hlx hmx
  have HA := Lib.hid hL
  have HWI : Hid (∀ s ∈ L, evWi s) := Lib.hid hW
  obtain ⟨X, hX⟩ : ∃ X, X = L := ⟨_, rfl⟩
  have hln : (L.length : Int) ≤ 60 := by omega
  have hl0 : (0 : Int) ≤ (L.length : Int) := Int.natCast_nonneg _
  rw [← hX] at HA HWI
  subst hX
  have HN60 : Hid (X.length = X.length) := Lib.hid rfl
  obtain ⟨kk, hkk⟩ : ∃ kk, kk = turn % ((X.length : Int) + 1) := ⟨_, rfl⟩
  have hk0 : 0 ≤ kk := by rw [hkk]; exact Int.emod_nonneg _ (by omega)
  have hk1 : kk < (X.length : Int) := by rw [hkk]; exact hk
  subst hb
  have HP : Hid (Parts X (turnL X kk 0) (-1)) := Lib.hid (by rw [turnL_zero X kk HWI.out]; exact .same _)
  have hkw : -9223372036854775808 ≤ kk ∧ kk ≤ 9223372036854775807 := by omega
  have HKK := Lib.hid hkk
  clear hkk hk
  have HM := Lib.hid hM
  have hw61 : IntKind.i64.wrap ((X.length : Int) + 1) = ((X.length : Int) + 1) := IntWalk.i64_in _ (by omega)
  have hgd := ev_guard
  clear hL hW hM hlc hmc
  go_enter Try.func4, Try.ntmps4
  go_wp2_with fail
  refine (tNew W).mono ?_
  rintro e w1 ⟨a, rfl, hta, hu1⟩
  have HTA := Lib.hid hta
  have HU1 := Lib.hid hu1
  clear hta hu1
  go_wp2_with fail
  refine (tNew w1).mono ?_
  rintro e w2 ⟨b, rfl, htb, hu2⟩
  have H2 : Hid (Two10 W w2 a b (ESince W w1) (ESince w1 w2) [] []) := Lib.hid ⟨HTA.out.upd hu2 (fun _ _ h => h), htb, fun k hk hk' => by have := hk.2; have := hk'.1; omega, fun k hk => hk.1, fun k hk => Nat.le_trans HU1.out.size hk.1, HU1.out.trans hu2 (fun _ h _ => h)⟩
  clear htb hu2
  go_wp2_with fail
  refine (known10 w2).mono ?_
  rintro e w3 ⟨rfl, hu⟩
  have H3 := Lib.hid (H2.out.quiet hu)
  clear hu
  go_wp2_with fail
  refine (hPick turn ((X.length : Int) + 1) w3 (by omega) (by omega)).mono ?_
  rintro e w' ⟨rfl, rfl⟩
  rw [← HKK.out]
  go_wp2_with fail
  refine (fillC (.slice la X.length lc) (-1) 0 H3.out.ta (fun w' hu => Two10.arg H3.out.up H3.out.nf HA.out hu) (by have := HN60.out; simp; omega)).mono ?_
  rintro e w4 ⟨rfl, ht, hu⟩
  rw [List.nil_append, turnL_no X (-1) 0 (.inl (by omega))] at ht
  have H4 := Lib.hid (H3.out.first ht hu)
  clear ht hu
  go_wp2_with fail
  refine (fillC (.slice la X.length lc) kk 0 H4.out.tb (fun w' hu => Two10.arg H4.out.up H4.out.ng HA.out hu) (by have := HN60.out; simp; omega)).mono ?_
  rintro e w5 ⟨rfl, ht, hu⟩
  rw [List.nil_append] at ht
  have H5 := Lib.hid (H4.out.second ht hu)
  clear ht hu
  go_wp2_with fail
  refine (tSame H5.out.ta.lst H5.out.tb.lst HP.out).mono ?_
  rintro e w6 ⟨rfl, hu⟩
  have H6 := Lib.hid (H5.out.quiet hu)
  clear hu
  go_wp2_with fail
  refine (tAll H6.out.ta (by have := HN60.out; omega)).mono ?_
  rintro e w7 ⟨r, rfl, hr, hu, -⟩
  have H7 := Lib.hid (H6.out.quiet hu)
  obtain ⟨ra, rc, rfl, -, hrc⟩ := hr.slice
  have HR7 := Lib.hid hr
  clear hu hr hrc
  have HLEN := Lib.hid (tLen H7.out.ta)
  generalize hxl : X.length = xl at *
  have HXL := Lib.hid hxl
  clear hxl
  go_wp2_with fail
  refine HLEN.out.mono ?_
  rintro e w' ⟨rfl, rfl⟩
  have HR0 : Hid (Evs w7 (.slice ra xl rc) X) := HR7
  go_wp2_with fail
  go_loopw [16] (fun i wr => ∃ k : Nat, k ≤ xl ∧ i = .int .i64 k ∧ Hid (Two10 W wr a b (EMore (ESince W w1) w3 w4) (EMore (ESince w1 w2) w4 w5) X (turnL X kk 0)) ∧ Hid (Upd (fun _ => False) w7 wr)) (fun i _ => xl - (intOf i).toNat)
  case atStart => exact ⟨0, Nat.zero_le _, rfl, H7, Lib.hid (Upd.refl _ _)⟩
  case round =>
    obtain ⟨k, hk9, rfl, HH, HUU⟩ := hrel
    have hki : (0 : Int) ≤ (k : Int) := Int.natCast_nonneg _
    by_cases hlt : k < xl
    · have HLT : Hid (k < X.length) := Lib.hid (by rw [HXL.out]; exact hlt)
      obtain ⟨lg, lo, rfl, hlg1, c0, c1, c2, c3⟩ := (Two10.arg (S := fun _ => False) HH.out.up (fun _ h => h.elim) HA.out (Upd.refl _ _)).at HLT.out
      obtain ⟨rg, ro, rfl, hrg1, d0, d1, d2, d3⟩ := (HR7.out.upd HUU.out (fun _ _ h => h)).at HLT.out
      have HAT := Lib.hid (tAt HH.out.ta k HLT.out (by rw [HXL.out]; omega))
      generalize X.getD k default = s at *
      have HC : Hid (∀ w', Upd (fun _ => False) wr w' → (w'.cell? ⟨lg, lo + k * 4, none⟩ = some (.int .i64 s.what) ∧ w'.cell? ⟨lg, lo + k * 4 + 1, none⟩ = some (.int .i64 s.a) ∧ w'.cell? ⟨lg, lo + k * 4 + 2, none⟩ = some (.int .i64 s.b) ∧ w'.cell? ⟨lg, lo + k * 4 + 3, none⟩ = some (.int .i64 s.c)) ∧
          (w'.cell? ⟨rg, ro + k * 4, none⟩ = some (.int .i64 s.what) ∧ w'.cell? ⟨rg, ro + k * 4 + 1, none⟩ = some (.int .i64 s.a) ∧ w'.cell? ⟨rg, ro + k * 4 + 2, none⟩ = some (.int .i64 s.b) ∧ w'.cell? ⟨rg, ro + k * 4 + 3, none⟩ = some (.int .i64 s.c))) :=
        Lib.hid (fun w' hu => ⟨(show EvAt wr lg (lo + k * 4) s from ⟨c0, c1, c2, c3⟩).upd hu (fun h => h), (show EvAt wr rg (ro + k * 4) s from ⟨d0, d1, d2, d3⟩).upd hu (fun h => h)⟩)
      clear c0 c1 c2 c3 d0 d1 d2 d3
      unfold evV at HAT
      have hne := fun w : World => evNeq w s s
      have hqq := evEq_self s
      rw [hqq] at hne
      clear hqq
      go_wp2_with fail
      refine HAT.out.mono ?_
      rintro e w8 ⟨rfl, hu8⟩
      obtain ⟨w9, hw9⟩ : ∃ w9, w9 = w8.alloc (.cells #[.int .i64 s.what, .int .i64 s.a, .int .i64 s.b, .int .i64 s.c] 26) := ⟨_, rfl⟩
      have hu9 : Upd (fun _ => False) wr w9 := hu8.trans (by rw [hw9]; exact Upd.alloc (fun _ => False) _ _) (fun _ h _ => h)
      have hx9 : w9.heap[w8.heap.size]? = some (.cells #[.int .i64 s.what, .int .i64 s.a, .int .i64 s.b, .int .i64 s.c] 26 (0, 0)) := by rw [hw9]; exact eTop _ _ _ rfl
      obtain ⟨⟨c0, c1, c2, c3⟩, d0, d1, d2, d3⟩ := HC.out w9 hu9
      obtain ⟨e0, e1, e2, e3, -⟩ := four hx9
      have HW9 := Lib.hid hw9
      have HU9 := Lib.hid hu9
      clear hu8 hw9 hu9 hx9
      go_wp2_with fail
      rw [← HW9.out]
      go_quiet (fail)
      clear c0 c1 c2 c3 d0 d1 d2 d3 e0 e1 e2 e3 hne
      have hu10 : Upd (fun _ => False) wr (w9.drewN nq) := HU9.out.trans (T := fun _ => False) (⟨rfl, rfl, rfl, Nat.le_refl _, fun _ _ _ => rfl⟩ : Upd (fun _ => False) w9 (w9.drewN nq)) (fun _ h _ => h)
      have HH2 := Lib.hid (HH.out.quiet hu10)
      have HUU2 := Lib.hid (HUU.out.trans hu10 (fun _ h _ => h))
      clear hu10
      go_wp2_with fail
      go_roundw
      case rel => exact ⟨k + 1, by omega, by go_num, HH2, HUU2⟩
      case measure => simp [intOf]; omega
    · obtain rfl : k = xl := by omega
      have hmi : (M.length : Int) = 0 := by omega
      go_wp2_with fail
      refine (tSame HH.out.ta.lst HH.out.tb.lst HP.out).mono ?_
      rintro e w11 ⟨rfl, hu⟩
      have H11 := Lib.hid (HH.out.quiet hu)
      clear hu
      go_wp2_with fail
      refine (tSame H11.out.tb.lst H11.out.ta.lst HP.out.swap).mono ?_
      rintro e w12 ⟨rfl, hu⟩
      have H12 := Lib.hid (H11.out.quiet hu)
      clear hu
      go_wp2_with fail
      go_ret
      exact ⟨rfl, H12.out.up⟩
set_option maxHeartbeats 4000000 in
theorem tells_short_zero_more (W : World) (v u : Value) (L M : List EvM) (turn by' : Int) (hL : Evs W v L) (hW : ∀ s ∈ L, evWi s) (hM : Evs W u M) (hby : -9223372036854775808 ≤ by' ∧ by' ≤ 9223372036854775807) (hlen : L.length ≤ 60) (hm : 0 < M.length) (hk : turn % ((L.length : Int) + 1) < (L.length : Int)) (hb : by' = 0) :
    Calls Try.prog 4 #[v, u, .int .i64 turn, .int .i64 by', .bool false] W fun e w' => e = .returned (.bool true) ∧ Upd (fun _ => False) W w' := by
  obtain ⟨la, lc, rfl, hlc, hlx⟩ := hL.slice
  obtain ⟨ma, mc, rfl, hmc, hmx⟩ := hM.slice
  unfold maxLen at hlx hmx
  have HA := Lib.hid hL
  have HWI : Hid (∀ s ∈ L, evWi s) := Lib.hid hW
  obtain ⟨X, hX⟩ : ∃ X, X = L := ⟨_, rfl⟩
  have hln : (L.length : Int) ≤ 60 := by omega
  have hl0 : (0 : Int) ≤ (L.length : Int) := Int.natCast_nonneg _
  rw [← hX] at HA HWI
  subst hX
  have HN60 : Hid (X.length = X.length) := Lib.hid rfl
  obtain ⟨kk, hkk⟩ : ∃ kk, kk = turn % ((X.length : Int) + 1) := ⟨_, rfl⟩
  have hk0 : 0 ≤ kk := by rw [hkk]; exact Int.emod_nonneg _ (by omega)
  have hk1 : kk < (X.length : Int) := by rw [hkk]; exact hk
  subst hb
  have HP : Hid (Parts X (turnL X kk 0) (-1)) := Lib.hid (by rw [turnL_zero X kk HWI.out]; exact .same _)
  have hkw : -9223372036854775808 ≤ kk ∧ kk ≤ 9223372036854775807 := by omega
  have HKK := Lib.hid hkk
  clear hkk hk
  have HM := Lib.hid hM
  have hw61 : IntKind.i64.wrap ((X.length : Int) + 1) = ((X.length : Int) + 1) := IntWalk.i64_in _ (by omega)
  have hgd := ev_guard
  have hmc1 : 1 ≤ mc := by omega
  clear hL hW hM hlc hmc
  go_enter Try.func4, Try.ntmps4
  go_wp2_with fail
  refine (tNew W).mono ?_
  rintro e w1 ⟨a, rfl, hta, hu1⟩
  have HTA := Lib.hid hta
  have HU1 := Lib.hid hu1
  clear hta hu1
  go_wp2_with fail
  refine (tNew w1).mono ?_
  rintro e w2 ⟨b, rfl, htb, hu2⟩
  have H2 : Hid (Two10 W w2 a b (ESince W w1) (ESince w1 w2) [] []) := Lib.hid ⟨HTA.out.upd hu2 (fun _ _ h => h), htb, fun k hk hk' => by have := hk.2; have := hk'.1; omega, fun k hk => hk.1, fun k hk => Nat.le_trans HU1.out.size hk.1, HU1.out.trans hu2 (fun _ h _ => h)⟩
  clear htb hu2
  go_wp2_with fail
  refine (known10 w2).mono ?_
  rintro e w3 ⟨rfl, hu⟩
  have H3 := Lib.hid (H2.out.quiet hu)
  clear hu
  go_wp2_with fail
  refine (hPick turn ((X.length : Int) + 1) w3 (by omega) (by omega)).mono ?_
  rintro e w' ⟨rfl, rfl⟩
  rw [← HKK.out]
  go_wp2_with fail
  refine (fillC (.slice la X.length lc) (-1) 0 H3.out.ta (fun w' hu => Two10.arg H3.out.up H3.out.nf HA.out hu) (by have := HN60.out; simp; omega)).mono ?_
  rintro e w4 ⟨rfl, ht, hu⟩
  rw [List.nil_append, turnL_no X (-1) 0 (.inl (by omega))] at ht
  have H4 := Lib.hid (H3.out.first ht hu)
  clear ht hu
  go_wp2_with fail
  refine (fillC (.slice la X.length lc) kk 0 H4.out.tb (fun w' hu => Two10.arg H4.out.up H4.out.ng HA.out hu) (by have := HN60.out; simp; omega)).mono ?_
  rintro e w5 ⟨rfl, ht, hu⟩
  rw [List.nil_append] at ht
  have H5 := Lib.hid (H4.out.second ht hu)
  clear ht hu
  go_wp2_with fail
  refine (tSame H5.out.ta.lst H5.out.tb.lst HP.out).mono ?_
  rintro e w6 ⟨rfl, hu⟩
  have H6 := Lib.hid (H5.out.quiet hu)
  clear hu
  go_wp2_with fail
  refine (tAll H6.out.ta (by have := HN60.out; omega)).mono ?_
  rintro e w7 ⟨r, rfl, hr, hu, -⟩
  have H7 := Lib.hid (H6.out.quiet hu)
  obtain ⟨ra, rc, rfl, -, hrc⟩ := hr.slice
  have HR7 := Lib.hid hr
  clear hu hr hrc
  have HLEN := Lib.hid (tLen H7.out.ta)
  generalize hxl : X.length = xl at *
  have HXL := Lib.hid hxl
  clear hxl
  go_wp2_with fail
  refine HLEN.out.mono ?_
  rintro e w' ⟨rfl, rfl⟩
  have HR0 : Hid (Evs w7 (.slice ra xl rc) X) := HR7
  go_wp2_with fail
  go_loopw [16] (fun i wr => ∃ k : Nat, k ≤ xl ∧ i = .int .i64 k ∧ Hid (Two10 W wr a b (EMore (ESince W w1) w3 w4) (EMore (ESince w1 w2) w4 w5) X (turnL X kk 0)) ∧ Hid (Upd (fun _ => False) w7 wr)) (fun i _ => xl - (intOf i).toNat)
  case atStart => exact ⟨0, Nat.zero_le _, rfl, H7, Lib.hid (Upd.refl _ _)⟩
  case round =>
    obtain ⟨k, hk9, rfl, HH, HUU⟩ := hrel
    have hki : (0 : Int) ≤ (k : Int) := Int.natCast_nonneg _
    by_cases hlt : k < xl
    · have HLT : Hid (k < X.length) := Lib.hid (by rw [HXL.out]; exact hlt)
      obtain ⟨lg, lo, rfl, hlg1, c0, c1, c2, c3⟩ := (Two10.arg (S := fun _ => False) HH.out.up (fun _ h => h.elim) HA.out (Upd.refl _ _)).at HLT.out
      obtain ⟨rg, ro, rfl, hrg1, d0, d1, d2, d3⟩ := (HR7.out.upd HUU.out (fun _ _ h => h)).at HLT.out
      have HAT := Lib.hid (tAt HH.out.ta k HLT.out (by rw [HXL.out]; omega))
      generalize X.getD k default = s at *
      have HC : Hid (∀ w', Upd (fun _ => False) wr w' → (w'.cell? ⟨lg, lo + k * 4, none⟩ = some (.int .i64 s.what) ∧ w'.cell? ⟨lg, lo + k * 4 + 1, none⟩ = some (.int .i64 s.a) ∧ w'.cell? ⟨lg, lo + k * 4 + 2, none⟩ = some (.int .i64 s.b) ∧ w'.cell? ⟨lg, lo + k * 4 + 3, none⟩ = some (.int .i64 s.c)) ∧
          (w'.cell? ⟨rg, ro + k * 4, none⟩ = some (.int .i64 s.what) ∧ w'.cell? ⟨rg, ro + k * 4 + 1, none⟩ = some (.int .i64 s.a) ∧ w'.cell? ⟨rg, ro + k * 4 + 2, none⟩ = some (.int .i64 s.b) ∧ w'.cell? ⟨rg, ro + k * 4 + 3, none⟩ = some (.int .i64 s.c))) :=
        Lib.hid (fun w' hu => ⟨(show EvAt wr lg (lo + k * 4) s from ⟨c0, c1, c2, c3⟩).upd hu (fun h => h), (show EvAt wr rg (ro + k * 4) s from ⟨d0, d1, d2, d3⟩).upd hu (fun h => h)⟩)
      clear c0 c1 c2 c3 d0 d1 d2 d3
      unfold evV at HAT
      have hne := fun w : World => evNeq w s s
      have hqq := evEq_self s
      rw [hqq] at hne
      clear hqq
      go_wp2_with fail
      refine HAT.out.mono ?_
      rintro e w8 ⟨rfl, hu8⟩
      obtain ⟨w9, hw9⟩ : ∃ w9, w9 = w8.alloc (.cells #[.int .i64 s.what, .int .i64 s.a, .int .i64 s.b, .int .i64 s.c] 26) := ⟨_, rfl⟩
      have hu9 : Upd (fun _ => False) wr w9 := hu8.trans (by rw [hw9]; exact Upd.alloc (fun _ => False) _ _) (fun _ h _ => h)
      have hx9 : w9.heap[w8.heap.size]? = some (.cells #[.int .i64 s.what, .int .i64 s.a, .int .i64 s.b, .int .i64 s.c] 26 (0, 0)) := by rw [hw9]; exact eTop _ _ _ rfl
      obtain ⟨⟨c0, c1, c2, c3⟩, d0, d1, d2, d3⟩ := HC.out w9 hu9
      obtain ⟨e0, e1, e2, e3, -⟩ := four hx9
      have HW9 := Lib.hid hw9
      have HU9 := Lib.hid hu9
      clear hu8 hw9 hu9 hx9
      go_wp2_with fail
      rw [← HW9.out]
      go_quiet (fail)
      clear c0 c1 c2 c3 d0 d1 d2 d3 e0 e1 e2 e3 hne
      have hu10 : Upd (fun _ => False) wr (w9.drewN nq) := HU9.out.trans (T := fun _ => False) (⟨rfl, rfl, rfl, Nat.le_refl _, fun _ _ _ => rfl⟩ : Upd (fun _ => False) w9 (w9.drewN nq)) (fun _ h _ => h)
      have HH2 := Lib.hid (HH.out.quiet hu10)
      have HUU2 := Lib.hid (HUU.out.trans hu10 (fun _ h _ => h))
      clear hu10
      go_wp2_with fail
      go_roundw
      case rel => exact ⟨k + 1, by omega, by go_num, HH2, HUU2⟩
      case measure => simp [intOf]; omega
    · obtain rfl : k = xl := by omega
      obtain ⟨m0, hm0⟩ : ∃ m0, M.take 1 = [m0] := by
        cases M with
        | nil => simp at hm
        | cons x M' => exact ⟨x, rfl⟩
      have HM1 : Hid (Evs W (.slice ma 1 mc) [m0]) := Lib.hid (by rw [← hm0]; exact HM.out.take (by omega))
      have HP2 : Hid (Parts (X ++ [m0]) (turnL X kk 0) (k : Int)) := Lib.hid (HP.out.snoc m0 (by have := HXL.out; omega) _ (by have := HXL.out; omega))
      have hmi : (0 : Int) < (M.length : Int) := by omega
      clear hm0
      go_wp2_with fail
      refine (fillC (.slice ma 1 mc) (-1) 0 HH.out.ta (fun w' hu => Two10.arg HH.out.up HH.out.nf HM1.out hu) (by have := HXL.out; simp; omega)).mono ?_
      rintro e w10 ⟨rfl, ht, hu⟩
      rw [turnL_no [m0] (-1) 0 (.inl (by omega))] at ht
      have H10 := Lib.hid (HH.out.first ht hu)
      clear ht hu
      go_wp2_with fail
      refine (tSame H10.out.ta.lst H10.out.tb.lst HP2.out).mono ?_
      rintro e w11 ⟨rfl, hu⟩
      have H11 := Lib.hid (H10.out.quiet hu)
      clear hu
      go_wp2_with fail
      refine (tSame H11.out.tb.lst H11.out.ta.lst HP2.out.swap).mono ?_
      rintro e w12 ⟨rfl, hu⟩
      have H12 := Lib.hid (H11.out.quiet hu)
      clear hu
      go_wp2_with fail
      go_ret
      exact ⟨rfl, H12.out.up⟩
set_option maxHeartbeats 4000000 in
theorem tells_short_out_none (W : World) (v u : Value) (L M : List EvM) (turn by' : Int) (hL : Evs W v L) (hW : ∀ s ∈ L, evWi s) (hM : Evs W u M) (hby : -9223372036854775808 ≤ by' ∧ by' ≤ 9223372036854775807) (hlen : L.length ≤ 60) (hm : M.length = 0) (hk : turn % ((L.length : Int) + 1) = (L.length : Int)) :
    Calls Try.prog 4 #[v, u, .int .i64 turn, .int .i64 by', .bool false] W fun e w' => e = .returned (.bool true) ∧ Upd (fun _ => False) W w' := by
  obtain ⟨la, lc, rfl, hlc, hlx⟩ := hL.slice
  obtain ⟨ma, mc, rfl, hmc, hmx⟩ := hM.slice
  unfold maxLen at hlx hmx
  have HA := Lib.hid hL
  have HWI : Hid (∀ s ∈ L, evWi s) := Lib.hid hW
  obtain ⟨X, hX⟩ : ∃ X, X = L := ⟨_, rfl⟩
  have hln : (L.length : Int) ≤ 60 := by omega
  have hl0 : (0 : Int) ≤ (L.length : Int) := Int.natCast_nonneg _
  rw [← hX] at HA HWI
  subst hX
  have HN60 : Hid (X.length = X.length) := Lib.hid rfl
  obtain ⟨kk, hkk⟩ : ∃ kk, kk = turn % ((X.length : Int) + 1) := ⟨_, rfl⟩
  have hk0 : 0 ≤ kk := by rw [hkk]; exact Int.emod_nonneg _ (by omega)
  have hk1 : kk = (X.length : Int) := by rw [hkk]; exact hk
  have HP : Hid (Parts X (turnL X kk by') (-1)) := Lib.hid (by rw [turnL_no X kk by' (.inr (by have := HN60.out; omega))]; exact .same _)
  have hk2 : ¬ kk < (X.length : Int) := by omega
  have hkw : -9223372036854775808 ≤ kk ∧ kk ≤ 9223372036854775807 := by omega
  have HKK := Lib.hid hkk
  clear hkk hk
  clear hk1
  have HM := Lib.hid hM
  have hw61 : IntKind.i64.wrap ((X.length : Int) + 1) = ((X.length : Int) + 1) := IntWalk.i64_in _ (by omega)
  have hgd := ev_guard
  clear hL hW hM hlc hmc
  go_enter Try.func4, Try.ntmps4
  go_wp2_with fail
  refine (tNew W).mono ?_
  rintro e w1 ⟨a, rfl, hta, hu1⟩
  have HTA := Lib.hid hta
  have HU1 := Lib.hid hu1
  clear hta hu1
  go_wp2_with fail
  refine (tNew w1).mono ?_
  rintro e w2 ⟨b, rfl, htb, hu2⟩
  have H2 : Hid (Two10 W w2 a b (ESince W w1) (ESince w1 w2) [] []) := Lib.hid ⟨HTA.out.upd hu2 (fun _ _ h => h), htb, fun k hk hk' => by have := hk.2; have := hk'.1; omega, fun k hk => hk.1, fun k hk => Nat.le_trans HU1.out.size hk.1, HU1.out.trans hu2 (fun _ h _ => h)⟩
  clear htb hu2
  go_wp2_with fail
  refine (known10 w2).mono ?_
  rintro e w3 ⟨rfl, hu⟩
  have H3 := Lib.hid (H2.out.quiet hu)
  clear hu
  go_wp2_with fail
  refine (hPick turn ((X.length : Int) + 1) w3 (by omega) (by omega)).mono ?_
  rintro e w' ⟨rfl, rfl⟩
  rw [← HKK.out]
  go_wp2_with fail
  refine (fillC (.slice la X.length lc) (-1) 0 H3.out.ta (fun w' hu => Two10.arg H3.out.up H3.out.nf HA.out hu) (by have := HN60.out; simp; omega)).mono ?_
  rintro e w4 ⟨rfl, ht, hu⟩
  rw [List.nil_append, turnL_no X (-1) 0 (.inl (by omega))] at ht
  have H4 := Lib.hid (H3.out.first ht hu)
  clear ht hu
  go_wp2_with fail
  refine (fillC (.slice la X.length lc) kk by' H4.out.tb (fun w' hu => Two10.arg H4.out.up H4.out.ng HA.out hu) (by have := HN60.out; simp; omega)).mono ?_
  rintro e w5 ⟨rfl, ht, hu⟩
  rw [List.nil_append] at ht
  have H5 := Lib.hid (H4.out.second ht hu)
  clear ht hu
  go_wp2_with fail
  refine (tSame H5.out.ta.lst H5.out.tb.lst HP.out).mono ?_
  rintro e w6 ⟨rfl, hu⟩
  have H6 := Lib.hid (H5.out.quiet hu)
  clear hu
  go_wp2_with fail
  refine (tAll H6.out.ta (by have := HN60.out; omega)).mono ?_
  rintro e w7 ⟨r, rfl, hr, hu, -⟩
  have H7 := Lib.hid (H6.out.quiet hu)
  obtain ⟨ra, rc, rfl, -, hrc⟩ := hr.slice
  have HR7 := Lib.hid hr
  clear hu hr hrc
  have HLEN := Lib.hid (tLen H7.out.ta)
  generalize hxl : X.length = xl at *
  have HXL := Lib.hid hxl
  clear hxl
  go_wp2_with fail
  refine HLEN.out.mono ?_
  rintro e w' ⟨rfl, rfl⟩
  have HR0 : Hid (Evs w7 (.slice ra xl rc) X) := HR7
  go_wp2_with fail
  go_loopw [16] (fun i wr => ∃ k : Nat, k ≤ xl ∧ i = .int .i64 k ∧ Hid (Two10 W wr a b (EMore (ESince W w1) w3 w4) (EMore (ESince w1 w2) w4 w5) X (turnL X kk by')) ∧ Hid (Upd (fun _ => False) w7 wr)) (fun i _ => xl - (intOf i).toNat)
  case atStart => exact ⟨0, Nat.zero_le _, rfl, H7, Lib.hid (Upd.refl _ _)⟩
  case round =>
    obtain ⟨k, hk9, rfl, HH, HUU⟩ := hrel
    have hki : (0 : Int) ≤ (k : Int) := Int.natCast_nonneg _
    by_cases hlt : k < xl
    · have HLT : Hid (k < X.length) := Lib.hid (by rw [HXL.out]; exact hlt)
      obtain ⟨lg, lo, rfl, hlg1, c0, c1, c2, c3⟩ := (Two10.arg (S := fun _ => False) HH.out.up (fun _ h => h.elim) HA.out (Upd.refl _ _)).at HLT.out
      obtain ⟨rg, ro, rfl, hrg1, d0, d1, d2, d3⟩ := (HR7.out.upd HUU.out (fun _ _ h => h)).at HLT.out
      have HAT := Lib.hid (tAt HH.out.ta k HLT.out (by rw [HXL.out]; omega))
      generalize X.getD k default = s at *
      have HC : Hid (∀ w', Upd (fun _ => False) wr w' → (w'.cell? ⟨lg, lo + k * 4, none⟩ = some (.int .i64 s.what) ∧ w'.cell? ⟨lg, lo + k * 4 + 1, none⟩ = some (.int .i64 s.a) ∧ w'.cell? ⟨lg, lo + k * 4 + 2, none⟩ = some (.int .i64 s.b) ∧ w'.cell? ⟨lg, lo + k * 4 + 3, none⟩ = some (.int .i64 s.c)) ∧
          (w'.cell? ⟨rg, ro + k * 4, none⟩ = some (.int .i64 s.what) ∧ w'.cell? ⟨rg, ro + k * 4 + 1, none⟩ = some (.int .i64 s.a) ∧ w'.cell? ⟨rg, ro + k * 4 + 2, none⟩ = some (.int .i64 s.b) ∧ w'.cell? ⟨rg, ro + k * 4 + 3, none⟩ = some (.int .i64 s.c))) :=
        Lib.hid (fun w' hu => ⟨(show EvAt wr lg (lo + k * 4) s from ⟨c0, c1, c2, c3⟩).upd hu (fun h => h), (show EvAt wr rg (ro + k * 4) s from ⟨d0, d1, d2, d3⟩).upd hu (fun h => h)⟩)
      clear c0 c1 c2 c3 d0 d1 d2 d3
      unfold evV at HAT
      have hne := fun w : World => evNeq w s s
      have hqq := evEq_self s
      rw [hqq] at hne
      clear hqq
      go_wp2_with fail
      refine HAT.out.mono ?_
      rintro e w8 ⟨rfl, hu8⟩
      obtain ⟨w9, hw9⟩ : ∃ w9, w9 = w8.alloc (.cells #[.int .i64 s.what, .int .i64 s.a, .int .i64 s.b, .int .i64 s.c] 26) := ⟨_, rfl⟩
      have hu9 : Upd (fun _ => False) wr w9 := hu8.trans (by rw [hw9]; exact Upd.alloc (fun _ => False) _ _) (fun _ h _ => h)
      have hx9 : w9.heap[w8.heap.size]? = some (.cells #[.int .i64 s.what, .int .i64 s.a, .int .i64 s.b, .int .i64 s.c] 26 (0, 0)) := by rw [hw9]; exact eTop _ _ _ rfl
      obtain ⟨⟨c0, c1, c2, c3⟩, d0, d1, d2, d3⟩ := HC.out w9 hu9
      obtain ⟨e0, e1, e2, e3, -⟩ := four hx9
      have HW9 := Lib.hid hw9
      have HU9 := Lib.hid hu9
      clear hu8 hw9 hu9 hx9
      go_wp2_with fail
      rw [← HW9.out]
      go_quiet (fail)
      clear c0 c1 c2 c3 d0 d1 d2 d3 e0 e1 e2 e3 hne
      have hu10 : Upd (fun _ => False) wr (w9.drewN nq) := HU9.out.trans (T := fun _ => False) (⟨rfl, rfl, rfl, Nat.le_refl _, fun _ _ _ => rfl⟩ : Upd (fun _ => False) w9 (w9.drewN nq)) (fun _ h _ => h)
      have HH2 := Lib.hid (HH.out.quiet hu10)
      have HUU2 := Lib.hid (HUU.out.trans hu10 (fun _ h _ => h))
      clear hu10
      go_wp2_with fail
      go_roundw
      case rel => exact ⟨k + 1, by omega, by go_num, HH2, HUU2⟩
      case measure => simp [intOf]; omega
    · obtain rfl : k = xl := by omega
      have hmi : (M.length : Int) = 0 := by omega
      go_wp2_with fail
      refine (tSame HH.out.ta.lst HH.out.tb.lst HP.out).mono ?_
      rintro e w11 ⟨rfl, hu⟩
      have H11 := Lib.hid (HH.out.quiet hu)
      clear hu
      go_wp2_with fail
      refine (tSame H11.out.tb.lst H11.out.ta.lst HP.out.swap).mono ?_
      rintro e w12 ⟨rfl, hu⟩
      have H12 := Lib.hid (H11.out.quiet hu)
      clear hu
      go_wp2_with fail
      go_ret
      exact ⟨rfl, H12.out.up⟩
set_option maxHeartbeats 4000000 in
theorem tells_short_out_more (W : World) (v u : Value) (L M : List EvM) (turn by' : Int) (hL : Evs W v L) (hW : ∀ s ∈ L, evWi s) (hM : Evs W u M) (hby : -9223372036854775808 ≤ by' ∧ by' ≤ 9223372036854775807) (hlen : L.length ≤ 60) (hm : 0 < M.length) (hk : turn % ((L.length : Int) + 1) = (L.length : Int)) :
    Calls Try.prog 4 #[v, u, .int .i64 turn, .int .i64 by', .bool false] W fun e w' => e = .returned (.bool true) ∧ Upd (fun _ => False) W w' := by
  obtain ⟨la, lc, rfl, hlc, hlx⟩ := hL.slice
  obtain ⟨ma, mc, rfl, hmc, hmx⟩ := hM.slice
  unfold maxLen at hlx hmx
  have HA := Lib.hid hL
  have HWI : Hid (∀ s ∈ L, evWi s) := Lib.hid hW
  obtain ⟨X, hX⟩ : ∃ X, X = L := ⟨_, rfl⟩
  have hln : (L.length : Int) ≤ 60 := by omega
  have hl0 : (0 : Int) ≤ (L.length : Int) := Int.natCast_nonneg _
  rw [← hX] at HA HWI
  subst hX
  have HN60 : Hid (X.length = X.length) := Lib.hid rfl
  obtain ⟨kk, hkk⟩ : ∃ kk, kk = turn % ((X.length : Int) + 1) := ⟨_, rfl⟩
  have hk0 : 0 ≤ kk := by rw [hkk]; exact Int.emod_nonneg _ (by omega)
  have hk1 : kk = (X.length : Int) := by rw [hkk]; exact hk
  have HP : Hid (Parts X (turnL X kk by') (-1)) := Lib.hid (by rw [turnL_no X kk by' (.inr (by have := HN60.out; omega))]; exact .same _)
  have hk2 : ¬ kk < (X.length : Int) := by omega
  have hkw : -9223372036854775808 ≤ kk ∧ kk ≤ 9223372036854775807 := by omega
  have HKK := Lib.hid hkk
  clear hkk hk
  clear hk1
  have HM := Lib.hid hM
  have hw61 : IntKind.i64.wrap ((X.length : Int) + 1) = ((X.length : Int) + 1) := IntWalk.i64_in _ (by omega)
  have hgd := ev_guard
  have hmc1 : 1 ≤ mc := by omega
  clear hL hW hM hlc hmc
  go_enter Try.func4, Try.ntmps4
  go_wp2_with fail
  refine (tNew W).mono ?_
  rintro e w1 ⟨a, rfl, hta, hu1⟩
  have HTA := Lib.hid hta
  have HU1 := Lib.hid hu1
  clear hta hu1
  go_wp2_with fail
  refine (tNew w1).mono ?_
  rintro e w2 ⟨b, rfl, htb, hu2⟩
  have H2 : Hid (Two10 W w2 a b (ESince W w1) (ESince w1 w2) [] []) := Lib.hid ⟨HTA.out.upd hu2 (fun _ _ h => h), htb, fun k hk hk' => by have := hk.2; have := hk'.1; omega, fun k hk => hk.1, fun k hk => Nat.le_trans HU1.out.size hk.1, HU1.out.trans hu2 (fun _ h _ => h)⟩
  clear htb hu2
  go_wp2_with fail
  refine (known10 w2).mono ?_
  rintro e w3 ⟨rfl, hu⟩
  have H3 := Lib.hid (H2.out.quiet hu)
  clear hu
  go_wp2_with fail
  refine (hPick turn ((X.length : Int) + 1) w3 (by omega) (by omega)).mono ?_
  rintro e w' ⟨rfl, rfl⟩
  rw [← HKK.out]
  go_wp2_with fail
  refine (fillC (.slice la X.length lc) (-1) 0 H3.out.ta (fun w' hu => Two10.arg H3.out.up H3.out.nf HA.out hu) (by have := HN60.out; simp; omega)).mono ?_
  rintro e w4 ⟨rfl, ht, hu⟩
  rw [List.nil_append, turnL_no X (-1) 0 (.inl (by omega))] at ht
  have H4 := Lib.hid (H3.out.first ht hu)
  clear ht hu
  go_wp2_with fail
  refine (fillC (.slice la X.length lc) kk by' H4.out.tb (fun w' hu => Two10.arg H4.out.up H4.out.ng HA.out hu) (by have := HN60.out; simp; omega)).mono ?_
  rintro e w5 ⟨rfl, ht, hu⟩
  rw [List.nil_append] at ht
  have H5 := Lib.hid (H4.out.second ht hu)
  clear ht hu
  go_wp2_with fail
  refine (tSame H5.out.ta.lst H5.out.tb.lst HP.out).mono ?_
  rintro e w6 ⟨rfl, hu⟩
  have H6 := Lib.hid (H5.out.quiet hu)
  clear hu
  go_wp2_with fail
  refine (tAll H6.out.ta (by have := HN60.out; omega)).mono ?_
  rintro e w7 ⟨r, rfl, hr, hu, -⟩
  have H7 := Lib.hid (H6.out.quiet hu)
  obtain ⟨ra, rc, rfl, -, hrc⟩ := hr.slice
  have HR7 := Lib.hid hr
  clear hu hr hrc
  have HLEN := Lib.hid (tLen H7.out.ta)
  generalize hxl : X.length = xl at *
  have HXL := Lib.hid hxl
  clear hxl
  go_wp2_with fail
  refine HLEN.out.mono ?_
  rintro e w' ⟨rfl, rfl⟩
  have HR0 : Hid (Evs w7 (.slice ra xl rc) X) := HR7
  go_wp2_with fail
  go_loopw [16] (fun i wr => ∃ k : Nat, k ≤ xl ∧ i = .int .i64 k ∧ Hid (Two10 W wr a b (EMore (ESince W w1) w3 w4) (EMore (ESince w1 w2) w4 w5) X (turnL X kk by')) ∧ Hid (Upd (fun _ => False) w7 wr)) (fun i _ => xl - (intOf i).toNat)
  case atStart => exact ⟨0, Nat.zero_le _, rfl, H7, Lib.hid (Upd.refl _ _)⟩
  case round =>
    obtain ⟨k, hk9, rfl, HH, HUU⟩ := hrel
    have hki : (0 : Int) ≤ (k : Int) := Int.natCast_nonneg _
    by_cases hlt : k < xl
    · have HLT : Hid (k < X.length) := Lib.hid (by rw [HXL.out]; exact hlt)
      obtain ⟨lg, lo, rfl, hlg1, c0, c1, c2, c3⟩ := (Two10.arg (S := fun _ => False) HH.out.up (fun _ h => h.elim) HA.out (Upd.refl _ _)).at HLT.out
      obtain ⟨rg, ro, rfl, hrg1, d0, d1, d2, d3⟩ := (HR7.out.upd HUU.out (fun _ _ h => h)).at HLT.out
      have HAT := Lib.hid (tAt HH.out.ta k HLT.out (by rw [HXL.out]; omega))
      generalize X.getD k default = s at *
      have HC : Hid (∀ w', Upd (fun _ => False) wr w' → (w'.cell? ⟨lg, lo + k * 4, none⟩ = some (.int .i64 s.what) ∧ w'.cell? ⟨lg, lo + k * 4 + 1, none⟩ = some (.int .i64 s.a) ∧ w'.cell? ⟨lg, lo + k * 4 + 2, none⟩ = some (.int .i64 s.b) ∧ w'.cell? ⟨lg, lo + k * 4 + 3, none⟩ = some (.int .i64 s.c)) ∧
          (w'.cell? ⟨rg, ro + k * 4, none⟩ = some (.int .i64 s.what) ∧ w'.cell? ⟨rg, ro + k * 4 + 1, none⟩ = some (.int .i64 s.a) ∧ w'.cell? ⟨rg, ro + k * 4 + 2, none⟩ = some (.int .i64 s.b) ∧ w'.cell? ⟨rg, ro + k * 4 + 3, none⟩ = some (.int .i64 s.c))) :=
        Lib.hid (fun w' hu => ⟨(show EvAt wr lg (lo + k * 4) s from ⟨c0, c1, c2, c3⟩).upd hu (fun h => h), (show EvAt wr rg (ro + k * 4) s from ⟨d0, d1, d2, d3⟩).upd hu (fun h => h)⟩)
      clear c0 c1 c2 c3 d0 d1 d2 d3
      unfold evV at HAT
      have hne := fun w : World => evNeq w s s
      have hqq := evEq_self s
      rw [hqq] at hne
      clear hqq
      go_wp2_with fail
      refine HAT.out.mono ?_
      rintro e w8 ⟨rfl, hu8⟩
      obtain ⟨w9, hw9⟩ : ∃ w9, w9 = w8.alloc (.cells #[.int .i64 s.what, .int .i64 s.a, .int .i64 s.b, .int .i64 s.c] 26) := ⟨_, rfl⟩
      have hu9 : Upd (fun _ => False) wr w9 := hu8.trans (by rw [hw9]; exact Upd.alloc (fun _ => False) _ _) (fun _ h _ => h)
      have hx9 : w9.heap[w8.heap.size]? = some (.cells #[.int .i64 s.what, .int .i64 s.a, .int .i64 s.b, .int .i64 s.c] 26 (0, 0)) := by rw [hw9]; exact eTop _ _ _ rfl
      obtain ⟨⟨c0, c1, c2, c3⟩, d0, d1, d2, d3⟩ := HC.out w9 hu9
      obtain ⟨e0, e1, e2, e3, -⟩ := four hx9
      have HW9 := Lib.hid hw9
      have HU9 := Lib.hid hu9
      clear hu8 hw9 hu9 hx9
      go_wp2_with fail
      rw [← HW9.out]
      go_quiet (fail)
      clear c0 c1 c2 c3 d0 d1 d2 d3 e0 e1 e2 e3 hne
      have hu10 : Upd (fun _ => False) wr (w9.drewN nq) := HU9.out.trans (T := fun _ => False) (⟨rfl, rfl, rfl, Nat.le_refl _, fun _ _ _ => rfl⟩ : Upd (fun _ => False) w9 (w9.drewN nq)) (fun _ h _ => h)
      have HH2 := Lib.hid (HH.out.quiet hu10)
      have HUU2 := Lib.hid (HUU.out.trans hu10 (fun _ h _ => h))
      clear hu10
      go_wp2_with fail
      go_roundw
      case rel => exact ⟨k + 1, by omega, by go_num, HH2, HUU2⟩
      case measure => simp [intOf]; omega
    · obtain rfl : k = xl := by omega
      obtain ⟨m0, hm0⟩ : ∃ m0, M.take 1 = [m0] := by
        cases M with
        | nil => simp at hm
        | cons x M' => exact ⟨x, rfl⟩
      have HM1 : Hid (Evs W (.slice ma 1 mc) [m0]) := Lib.hid (by rw [← hm0]; exact HM.out.take (by omega))
      have HP2 : Hid (Parts (X ++ [m0]) (turnL X kk by') (k : Int)) := Lib.hid (HP.out.snoc m0 (by have := HXL.out; omega) _ (by have := HXL.out; omega))
      have hmi : (0 : Int) < (M.length : Int) := by omega
      clear hm0
      go_wp2_with fail
      refine (fillC (.slice ma 1 mc) (-1) 0 HH.out.ta (fun w' hu => Two10.arg HH.out.up HH.out.nf HM1.out hu) (by have := HXL.out; simp; omega)).mono ?_
      rintro e w10 ⟨rfl, ht, hu⟩
      rw [turnL_no [m0] (-1) 0 (.inl (by omega))] at ht
      have H10 := Lib.hid (HH.out.first ht hu)
      clear ht hu
      go_wp2_with fail
      refine (tSame H10.out.ta.lst H10.out.tb.lst HP2.out).mono ?_
      rintro e w11 ⟨rfl, hu⟩
      have H11 := Lib.hid (H10.out.quiet hu)
      clear hu
      go_wp2_with fail
      refine (tSame H11.out.tb.lst H11.out.ta.lst HP2.out.swap).mono ?_
      rintro e w12 ⟨rfl, hu⟩
      have H12 := Lib.hid (H11.out.quiet hu)
      clear hu
      go_wp2_with fail
      go_ret
      exact ⟨rfl, H12.out.up⟩
set_option maxHeartbeats 4000000 in
theorem tells_long_same_none (W : World) (v u : Value) (L M : List EvM) (turn by' : Int) (hL : Evs W v L) (hW : ∀ s ∈ L, evWi s) (hM : Evs W u M) (hby : -9223372036854775808 ≤ by' ∧ by' ≤ 9223372036854775807) (hlen : 60 < L.length) (hm : M.length = 0) :
    Calls Try.prog 4 #[v, u, .int .i64 turn, .int .i64 by', .bool true] W fun e w' => e = .returned (.bool true) ∧ Upd (fun _ => False) W w' := by
  obtain ⟨la, lc, rfl, hlc, hlx⟩ := hL.slice
  obtain ⟨ma, mc, rfl, hmc, hmx⟩ := hM.slice
  unfold maxLen at hlx hmx
  have HA := Lib.hid (hL.take (k := 60) (by omega))
  have HWI : Hid (∀ s ∈ L.take 60, evWi s) := Lib.hid (fun s hs => hW s (List.mem_of_mem_take hs))
  have hn60 : (L.take 60).length = 60 := by simp; omega
  have hlg : (60 : Int) < (L.length : Int) := by omega
  obtain ⟨X, hX⟩ : ∃ X, X = L.take 60 := ⟨_, rfl⟩
  rw [← hX] at HA HWI hn60
  have HN60 := Lib.hid hn60
  have hnn : X.length = 60 := hn60
  have hq60 : (60 : Int) + 1 = 61 := rfl
  have HP : Hid (Parts X (turnL X (-1) by') (-1)) := Lib.hid (by rw [turnL_no X (-1) by' (.inl (by omega))]; exact .same _)
  have HM := Lib.hid hM
  have hw61 : IntKind.i64.wrap (60 + 1) = 61 := rfl
  have hgd := ev_guard
  have hlc60 : 60 ≤ lc := by omega
  clear hL hW hM hlc hmc
  clear hX hn60 hnn hq60 hlen
  go_enter Try.func4, Try.ntmps4
  go_wp2_with fail
  refine (tNew W).mono ?_
  rintro e w1 ⟨a, rfl, hta, hu1⟩
  have HTA := Lib.hid hta
  have HU1 := Lib.hid hu1
  clear hta hu1
  go_wp2_with fail
  refine (tNew w1).mono ?_
  rintro e w2 ⟨b, rfl, htb, hu2⟩
  have H2 : Hid (Two10 W w2 a b (ESince W w1) (ESince w1 w2) [] []) := Lib.hid ⟨HTA.out.upd hu2 (fun _ _ h => h), htb, fun k hk hk' => by have := hk.2; have := hk'.1; omega, fun k hk => hk.1, fun k hk => Nat.le_trans HU1.out.size hk.1, HU1.out.trans hu2 (fun _ h _ => h)⟩
  clear htb hu2
  go_wp2_with fail
  refine (known10 w2).mono ?_
  rintro e w3 ⟨rfl, hu⟩
  have H3 := Lib.hid (H2.out.quiet hu)
  clear hu
  go_wp2_with fail
  refine (hPick turn 61 w3 (by omega) (by omega)).mono ?_
  rintro e w' ⟨rfl, rfl⟩
  go_wp2_with fail
  refine (fillC (.slice la 60 lc) (-1) 0 H3.out.ta (fun w' hu => Two10.arg H3.out.up H3.out.nf HA.out hu) (by have := HN60.out; simp; omega)).mono ?_
  rintro e w4 ⟨rfl, ht, hu⟩
  rw [List.nil_append, turnL_no X (-1) 0 (.inl (by omega))] at ht
  have H4 := Lib.hid (H3.out.first ht hu)
  clear ht hu
  go_wp2_with fail
  refine (fillC (.slice la 60 lc) (-1) by' H4.out.tb (fun w' hu => Two10.arg H4.out.up H4.out.ng HA.out hu) (by have := HN60.out; simp; omega)).mono ?_
  rintro e w5 ⟨rfl, ht, hu⟩
  rw [List.nil_append] at ht
  have H5 := Lib.hid (H4.out.second ht hu)
  clear ht hu
  go_wp2_with fail
  refine (tSame H5.out.ta.lst H5.out.tb.lst HP.out).mono ?_
  rintro e w6 ⟨rfl, hu⟩
  have H6 := Lib.hid (H5.out.quiet hu)
  clear hu
  go_wp2_with fail
  refine (tAll H6.out.ta (by have := HN60.out; omega)).mono ?_
  rintro e w7 ⟨r, rfl, hr, hu, -⟩
  have H7 := Lib.hid (H6.out.quiet hu)
  obtain ⟨ra, rc, rfl, -, hrc⟩ := hr.slice
  have HR7 := Lib.hid hr
  clear hu hr hrc
  have HLEN := Lib.hid (tLen H7.out.ta)
  rw [HN60.out] at HLEN HR7
  have HXL := Lib.hid HN60.out
  rw [HN60.out]
  go_wp2_with fail
  refine HLEN.out.mono ?_
  rintro e w' ⟨rfl, rfl⟩
  have HR0 : Hid (Evs w7 (.slice ra 60 rc) X) := HR7
  go_wp2_with fail
  go_loopw [16] (fun i wr => ∃ k : Nat, k ≤ 60 ∧ i = .int .i64 k ∧ Hid (Two10 W wr a b (EMore (ESince W w1) w3 w4) (EMore (ESince w1 w2) w4 w5) X (turnL X (-1) by')) ∧ Hid (Upd (fun _ => False) w7 wr)) (fun i _ => 60 - (intOf i).toNat)
  case atStart => exact ⟨0, Nat.zero_le _, rfl, H7, Lib.hid (Upd.refl _ _)⟩
  case round =>
    obtain ⟨k, hk9, rfl, HH, HUU⟩ := hrel
    have hki : (0 : Int) ≤ (k : Int) := Int.natCast_nonneg _
    by_cases hlt : k < 60
    · have HLT : Hid (k < X.length) := Lib.hid (by rw [HXL.out]; exact hlt)
      obtain ⟨lg, lo, rfl, hlg1, c0, c1, c2, c3⟩ := (Two10.arg (S := fun _ => False) HH.out.up (fun _ h => h.elim) HA.out (Upd.refl _ _)).at HLT.out
      obtain ⟨rg, ro, rfl, hrg1, d0, d1, d2, d3⟩ := (HR7.out.upd HUU.out (fun _ _ h => h)).at HLT.out
      have HAT := Lib.hid (tAt HH.out.ta k HLT.out (by rw [HXL.out]; omega))
      generalize X.getD k default = s at *
      have HC : Hid (∀ w', Upd (fun _ => False) wr w' → (w'.cell? ⟨lg, lo + k * 4, none⟩ = some (.int .i64 s.what) ∧ w'.cell? ⟨lg, lo + k * 4 + 1, none⟩ = some (.int .i64 s.a) ∧ w'.cell? ⟨lg, lo + k * 4 + 2, none⟩ = some (.int .i64 s.b) ∧ w'.cell? ⟨lg, lo + k * 4 + 3, none⟩ = some (.int .i64 s.c)) ∧
          (w'.cell? ⟨rg, ro + k * 4, none⟩ = some (.int .i64 s.what) ∧ w'.cell? ⟨rg, ro + k * 4 + 1, none⟩ = some (.int .i64 s.a) ∧ w'.cell? ⟨rg, ro + k * 4 + 2, none⟩ = some (.int .i64 s.b) ∧ w'.cell? ⟨rg, ro + k * 4 + 3, none⟩ = some (.int .i64 s.c))) :=
        Lib.hid (fun w' hu => ⟨(show EvAt wr lg (lo + k * 4) s from ⟨c0, c1, c2, c3⟩).upd hu (fun h => h), (show EvAt wr rg (ro + k * 4) s from ⟨d0, d1, d2, d3⟩).upd hu (fun h => h)⟩)
      clear c0 c1 c2 c3 d0 d1 d2 d3
      unfold evV at HAT
      have hne := fun w : World => evNeq w s s
      have hqq := evEq_self s
      rw [hqq] at hne
      clear hqq
      go_wp2_with fail
      refine HAT.out.mono ?_
      rintro e w8 ⟨rfl, hu8⟩
      obtain ⟨w9, hw9⟩ : ∃ w9, w9 = w8.alloc (.cells #[.int .i64 s.what, .int .i64 s.a, .int .i64 s.b, .int .i64 s.c] 26) := ⟨_, rfl⟩
      have hu9 : Upd (fun _ => False) wr w9 := hu8.trans (by rw [hw9]; exact Upd.alloc (fun _ => False) _ _) (fun _ h _ => h)
      have hx9 : w9.heap[w8.heap.size]? = some (.cells #[.int .i64 s.what, .int .i64 s.a, .int .i64 s.b, .int .i64 s.c] 26 (0, 0)) := by rw [hw9]; exact eTop _ _ _ rfl
      obtain ⟨⟨c0, c1, c2, c3⟩, d0, d1, d2, d3⟩ := HC.out w9 hu9
      obtain ⟨e0, e1, e2, e3, -⟩ := four hx9
      have HW9 := Lib.hid hw9
      have HU9 := Lib.hid hu9
      clear hu8 hw9 hu9 hx9
      go_wp2_with fail
      rw [← HW9.out]
      go_quiet (fail)
      clear c0 c1 c2 c3 d0 d1 d2 d3 e0 e1 e2 e3 hne
      have hu10 : Upd (fun _ => False) wr (w9.drewN nq) := HU9.out.trans (T := fun _ => False) (⟨rfl, rfl, rfl, Nat.le_refl _, fun _ _ _ => rfl⟩ : Upd (fun _ => False) w9 (w9.drewN nq)) (fun _ h _ => h)
      have HH2 := Lib.hid (HH.out.quiet hu10)
      have HUU2 := Lib.hid (HUU.out.trans hu10 (fun _ h _ => h))
      clear hu10
      go_wp2_with fail
      go_roundw
      case rel => exact ⟨k + 1, by omega, by go_num, HH2, HUU2⟩
      case measure => simp [intOf]; omega
    · obtain rfl : k = 60 := by omega
      have hmi : (M.length : Int) = 0 := by omega
      go_wp2_with fail
      refine (tSame HH.out.ta.lst HH.out.tb.lst HP.out).mono ?_
      rintro e w11 ⟨rfl, hu⟩
      have H11 := Lib.hid (HH.out.quiet hu)
      clear hu
      go_wp2_with fail
      refine (tSame H11.out.tb.lst H11.out.ta.lst HP.out.swap).mono ?_
      rintro e w12 ⟨rfl, hu⟩
      have H12 := Lib.hid (H11.out.quiet hu)
      clear hu
      go_wp2_with fail
      go_ret
      exact ⟨rfl, H12.out.up⟩
set_option maxHeartbeats 4000000 in
theorem tells_long_same_more (W : World) (v u : Value) (L M : List EvM) (turn by' : Int) (hL : Evs W v L) (hW : ∀ s ∈ L, evWi s) (hM : Evs W u M) (hby : -9223372036854775808 ≤ by' ∧ by' ≤ 9223372036854775807) (hlen : 60 < L.length) (hm : 0 < M.length) :
    Calls Try.prog 4 #[v, u, .int .i64 turn, .int .i64 by', .bool true] W fun e w' => e = .returned (.bool true) ∧ Upd (fun _ => False) W w' := by
  obtain ⟨la, lc, rfl, hlc, hlx⟩ := hL.slice
  obtain ⟨ma, mc, rfl, hmc, hmx⟩ := hM.slice
  unfold maxLen at hlx hmx
  have HA := Lib.hid (hL.take (k := 60) (by omega))
  have HWI : Hid (∀ s ∈ L.take 60, evWi s) := Lib.hid (fun s hs => hW s (List.mem_of_mem_take hs))
  have hn60 : (L.take 60).length = 60 := by simp; omega
  have hlg : (60 : Int) < (L.length : Int) := by omega
  obtain ⟨X, hX⟩ : ∃ X, X = L.take 60 := ⟨_, rfl⟩
  rw [← hX] at HA HWI hn60
  have HN60 := Lib.hid hn60
  have hnn : X.length = 60 := hn60
  have hq60 : (60 : Int) + 1 = 61 := rfl
  have HP : Hid (Parts X (turnL X (-1) by') (-1)) := Lib.hid (by rw [turnL_no X (-1) by' (.inl (by omega))]; exact .same _)
  have HM := Lib.hid hM
  have hw61 : IntKind.i64.wrap (60 + 1) = 61 := rfl
  have hgd := ev_guard
  have hmc1 : 1 ≤ mc := by omega
  have hlc60 : 60 ≤ lc := by omega
  clear hL hW hM hlc hmc
  clear hX hn60 hnn hq60 hlen
  go_enter Try.func4, Try.ntmps4
  go_wp2_with fail
  refine (tNew W).mono ?_
  rintro e w1 ⟨a, rfl, hta, hu1⟩
  have HTA := Lib.hid hta
  have HU1 := Lib.hid hu1
  clear hta hu1
  go_wp2_with fail
  refine (tNew w1).mono ?_
  rintro e w2 ⟨b, rfl, htb, hu2⟩
  have H2 : Hid (Two10 W w2 a b (ESince W w1) (ESince w1 w2) [] []) := Lib.hid ⟨HTA.out.upd hu2 (fun _ _ h => h), htb, fun k hk hk' => by have := hk.2; have := hk'.1; omega, fun k hk => hk.1, fun k hk => Nat.le_trans HU1.out.size hk.1, HU1.out.trans hu2 (fun _ h _ => h)⟩
  clear htb hu2
  go_wp2_with fail
  refine (known10 w2).mono ?_
  rintro e w3 ⟨rfl, hu⟩
  have H3 := Lib.hid (H2.out.quiet hu)
  clear hu
  go_wp2_with fail
  refine (hPick turn 61 w3 (by omega) (by omega)).mono ?_
  rintro e w' ⟨rfl, rfl⟩
  go_wp2_with fail
  refine (fillC (.slice la 60 lc) (-1) 0 H3.out.ta (fun w' hu => Two10.arg H3.out.up H3.out.nf HA.out hu) (by have := HN60.out; simp; omega)).mono ?_
  rintro e w4 ⟨rfl, ht, hu⟩
  rw [List.nil_append, turnL_no X (-1) 0 (.inl (by omega))] at ht
  have H4 := Lib.hid (H3.out.first ht hu)
  clear ht hu
  go_wp2_with fail
  refine (fillC (.slice la 60 lc) (-1) by' H4.out.tb (fun w' hu => Two10.arg H4.out.up H4.out.ng HA.out hu) (by have := HN60.out; simp; omega)).mono ?_
  rintro e w5 ⟨rfl, ht, hu⟩
  rw [List.nil_append] at ht
  have H5 := Lib.hid (H4.out.second ht hu)
  clear ht hu
  go_wp2_with fail
  refine (tSame H5.out.ta.lst H5.out.tb.lst HP.out).mono ?_
  rintro e w6 ⟨rfl, hu⟩
  have H6 := Lib.hid (H5.out.quiet hu)
  clear hu
  go_wp2_with fail
  refine (tAll H6.out.ta (by have := HN60.out; omega)).mono ?_
  rintro e w7 ⟨r, rfl, hr, hu, -⟩
  have H7 := Lib.hid (H6.out.quiet hu)
  obtain ⟨ra, rc, rfl, -, hrc⟩ := hr.slice
  have HR7 := Lib.hid hr
  clear hu hr hrc
  have HLEN := Lib.hid (tLen H7.out.ta)
  rw [HN60.out] at HLEN HR7
  have HXL := Lib.hid HN60.out
  rw [HN60.out]
  go_wp2_with fail
  refine HLEN.out.mono ?_
  rintro e w' ⟨rfl, rfl⟩
  have HR0 : Hid (Evs w7 (.slice ra 60 rc) X) := HR7
  go_wp2_with fail
  go_loopw [16] (fun i wr => ∃ k : Nat, k ≤ 60 ∧ i = .int .i64 k ∧ Hid (Two10 W wr a b (EMore (ESince W w1) w3 w4) (EMore (ESince w1 w2) w4 w5) X (turnL X (-1) by')) ∧ Hid (Upd (fun _ => False) w7 wr)) (fun i _ => 60 - (intOf i).toNat)
  case atStart => exact ⟨0, Nat.zero_le _, rfl, H7, Lib.hid (Upd.refl _ _)⟩
  case round =>
    obtain ⟨k, hk9, rfl, HH, HUU⟩ := hrel
    have hki : (0 : Int) ≤ (k : Int) := Int.natCast_nonneg _
    by_cases hlt : k < 60
    · have HLT : Hid (k < X.length) := Lib.hid (by rw [HXL.out]; exact hlt)
      obtain ⟨lg, lo, rfl, hlg1, c0, c1, c2, c3⟩ := (Two10.arg (S := fun _ => False) HH.out.up (fun _ h => h.elim) HA.out (Upd.refl _ _)).at HLT.out
      obtain ⟨rg, ro, rfl, hrg1, d0, d1, d2, d3⟩ := (HR7.out.upd HUU.out (fun _ _ h => h)).at HLT.out
      have HAT := Lib.hid (tAt HH.out.ta k HLT.out (by rw [HXL.out]; omega))
      generalize X.getD k default = s at *
      have HC : Hid (∀ w', Upd (fun _ => False) wr w' → (w'.cell? ⟨lg, lo + k * 4, none⟩ = some (.int .i64 s.what) ∧ w'.cell? ⟨lg, lo + k * 4 + 1, none⟩ = some (.int .i64 s.a) ∧ w'.cell? ⟨lg, lo + k * 4 + 2, none⟩ = some (.int .i64 s.b) ∧ w'.cell? ⟨lg, lo + k * 4 + 3, none⟩ = some (.int .i64 s.c)) ∧
          (w'.cell? ⟨rg, ro + k * 4, none⟩ = some (.int .i64 s.what) ∧ w'.cell? ⟨rg, ro + k * 4 + 1, none⟩ = some (.int .i64 s.a) ∧ w'.cell? ⟨rg, ro + k * 4 + 2, none⟩ = some (.int .i64 s.b) ∧ w'.cell? ⟨rg, ro + k * 4 + 3, none⟩ = some (.int .i64 s.c))) :=
        Lib.hid (fun w' hu => ⟨(show EvAt wr lg (lo + k * 4) s from ⟨c0, c1, c2, c3⟩).upd hu (fun h => h), (show EvAt wr rg (ro + k * 4) s from ⟨d0, d1, d2, d3⟩).upd hu (fun h => h)⟩)
      clear c0 c1 c2 c3 d0 d1 d2 d3
      unfold evV at HAT
      have hne := fun w : World => evNeq w s s
      have hqq := evEq_self s
      rw [hqq] at hne
      clear hqq
      go_wp2_with fail
      refine HAT.out.mono ?_
      rintro e w8 ⟨rfl, hu8⟩
      obtain ⟨w9, hw9⟩ : ∃ w9, w9 = w8.alloc (.cells #[.int .i64 s.what, .int .i64 s.a, .int .i64 s.b, .int .i64 s.c] 26) := ⟨_, rfl⟩
      have hu9 : Upd (fun _ => False) wr w9 := hu8.trans (by rw [hw9]; exact Upd.alloc (fun _ => False) _ _) (fun _ h _ => h)
      have hx9 : w9.heap[w8.heap.size]? = some (.cells #[.int .i64 s.what, .int .i64 s.a, .int .i64 s.b, .int .i64 s.c] 26 (0, 0)) := by rw [hw9]; exact eTop _ _ _ rfl
      obtain ⟨⟨c0, c1, c2, c3⟩, d0, d1, d2, d3⟩ := HC.out w9 hu9
      obtain ⟨e0, e1, e2, e3, -⟩ := four hx9
      have HW9 := Lib.hid hw9
      have HU9 := Lib.hid hu9
      clear hu8 hw9 hu9 hx9
      go_wp2_with fail
      rw [← HW9.out]
      go_quiet (fail)
      clear c0 c1 c2 c3 d0 d1 d2 d3 e0 e1 e2 e3 hne
      have hu10 : Upd (fun _ => False) wr (w9.drewN nq) := HU9.out.trans (T := fun _ => False) (⟨rfl, rfl, rfl, Nat.le_refl _, fun _ _ _ => rfl⟩ : Upd (fun _ => False) w9 (w9.drewN nq)) (fun _ h _ => h)
      have HH2 := Lib.hid (HH.out.quiet hu10)
      have HUU2 := Lib.hid (HUU.out.trans hu10 (fun _ h _ => h))
      clear hu10
      go_wp2_with fail
      go_roundw
      case rel => exact ⟨k + 1, by omega, by go_num, HH2, HUU2⟩
      case measure => simp [intOf]; omega
    · obtain rfl : k = 60 := by omega
      obtain ⟨m0, hm0⟩ : ∃ m0, M.take 1 = [m0] := by
        cases M with
        | nil => simp at hm
        | cons x M' => exact ⟨x, rfl⟩
      have HM1 : Hid (Evs W (.slice ma 1 mc) [m0]) := Lib.hid (by rw [← hm0]; exact HM.out.take (by omega))
      have HP2 : Hid (Parts (X ++ [m0]) (turnL X (-1) by') 60) := Lib.hid (HP.out.snoc m0 (by have := HXL.out; omega) _ (by have := HXL.out; omega))
      have hmi : (0 : Int) < (M.length : Int) := by omega
      clear hm0
      go_wp2_with fail
      refine (fillC (.slice ma 1 mc) (-1) 0 HH.out.ta (fun w' hu => Two10.arg HH.out.up HH.out.nf HM1.out hu) (by have := HXL.out; simp; omega)).mono ?_
      rintro e w10 ⟨rfl, ht, hu⟩
      rw [turnL_no [m0] (-1) 0 (.inl (by omega))] at ht
      have H10 := Lib.hid (HH.out.first ht hu)
      clear ht hu
      go_wp2_with fail
      refine (tSame H10.out.ta.lst H10.out.tb.lst HP2.out).mono ?_
      rintro e w11 ⟨rfl, hu⟩
      have H11 := Lib.hid (H10.out.quiet hu)
      clear hu
      go_wp2_with fail
      refine (tSame H11.out.tb.lst H11.out.ta.lst HP2.out.swap).mono ?_
      rintro e w12 ⟨rfl, hu⟩
      have H12 := Lib.hid (H11.out.quiet hu)
      clear hu
      go_wp2_with fail
      go_ret
      exact ⟨rfl, H12.out.up⟩
set_option maxHeartbeats 4000000 in
theorem tells_long_in_none (W : World) (v u : Value) (L M : List EvM) (turn by' : Int) (hL : Evs W v L) (hW : ∀ s ∈ L, evWi s) (hM : Evs W u M) (hby : -9223372036854775808 ≤ by' ∧ by' ≤ 9223372036854775807) (hlen : 60 < L.length) (hm : M.length = 0) (hk : turn % 61 < 60) (hb : by' ≠ 0) :
    Calls Try.prog 4 #[v, u, .int .i64 turn, .int .i64 by', .bool false] W fun e w' => e = .returned (.bool true) ∧ Upd (fun _ => False) W w' := by
  obtain ⟨la, lc, rfl, hlc, hlx⟩ := hL.slice
  obtain ⟨ma, mc, rfl, hmc, hmx⟩ := hM.slice
  unfold maxLen at hlx hmx
  have HA := Lib.hid (hL.take (k := 60) (by omega))
  have HWI : Hid (∀ s ∈ L.take 60, evWi s) := Lib.hid (fun s hs => hW s (List.mem_of_mem_take hs))
  have hn60 : (L.take 60).length = 60 := by simp; omega
  have hlg : (60 : Int) < (L.length : Int) := by omega
  obtain ⟨X, hX⟩ : ∃ X, X = L.take 60 := ⟨_, rfl⟩
  rw [← hX] at HA HWI hn60
  have HN60 := Lib.hid hn60
  have hnn : X.length = 60 := hn60
  have hq60 : (60 : Int) + 1 = 61 := rfl
  obtain ⟨kk, hkk⟩ : ∃ kk, kk = turn % 61 := ⟨_, rfl⟩
  have hk0 : 0 ≤ kk := by rw [hkk]; exact Int.emod_nonneg _ (by omega)
  have hk1 : kk < 60 := by rw [hkk]; exact hk
  have HP : Hid (Parts X (turnL X kk by') kk) := Lib.hid (turnL_parts X kk by' HWI.out hk0 (by have := HN60.out; omega) hb hby)
  have hbb : (by' != 0) = true := by simpa using hb
  have hkw : -9223372036854775808 ≤ kk ∧ kk ≤ 9223372036854775807 := by omega
  have HKK := Lib.hid hkk
  clear hkk hk
  clear hb
  have HM := Lib.hid hM
  have hw61 : IntKind.i64.wrap (60 + 1) = 61 := rfl
  have hgd := ev_guard
  have hlc60 : 60 ≤ lc := by omega
  clear hL hW hM hlc hmc
  clear hX hn60 hnn hq60 hlen
  go_enter Try.func4, Try.ntmps4
  go_wp2_with fail
  refine (tNew W).mono ?_
  rintro e w1 ⟨a, rfl, hta, hu1⟩
  have HTA := Lib.hid hta
  have HU1 := Lib.hid hu1
  clear hta hu1
  go_wp2_with fail
  refine (tNew w1).mono ?_
  rintro e w2 ⟨b, rfl, htb, hu2⟩
  have H2 : Hid (Two10 W w2 a b (ESince W w1) (ESince w1 w2) [] []) := Lib.hid ⟨HTA.out.upd hu2 (fun _ _ h => h), htb, fun k hk hk' => by have := hk.2; have := hk'.1; omega, fun k hk => hk.1, fun k hk => Nat.le_trans HU1.out.size hk.1, HU1.out.trans hu2 (fun _ h _ => h)⟩
  clear htb hu2
  go_wp2_with fail
  refine (known10 w2).mono ?_
  rintro e w3 ⟨rfl, hu⟩
  have H3 := Lib.hid (H2.out.quiet hu)
  clear hu
  go_wp2_with fail
  refine (hPick turn 61 w3 (by omega) (by omega)).mono ?_
  rintro e w' ⟨rfl, rfl⟩
  rw [← HKK.out]
  go_wp2_with fail
  refine (fillC (.slice la 60 lc) (-1) 0 H3.out.ta (fun w' hu => Two10.arg H3.out.up H3.out.nf HA.out hu) (by have := HN60.out; simp; omega)).mono ?_
  rintro e w4 ⟨rfl, ht, hu⟩
  rw [List.nil_append, turnL_no X (-1) 0 (.inl (by omega))] at ht
  have H4 := Lib.hid (H3.out.first ht hu)
  clear ht hu
  go_wp2_with fail
  refine (fillC (.slice la 60 lc) kk by' H4.out.tb (fun w' hu => Two10.arg H4.out.up H4.out.ng HA.out hu) (by have := HN60.out; simp; omega)).mono ?_
  rintro e w5 ⟨rfl, ht, hu⟩
  rw [List.nil_append] at ht
  have H5 := Lib.hid (H4.out.second ht hu)
  clear ht hu
  go_wp2_with fail
  refine (tSame H5.out.ta.lst H5.out.tb.lst HP.out).mono ?_
  rintro e w6 ⟨rfl, hu⟩
  have H6 := Lib.hid (H5.out.quiet hu)
  clear hu
  go_wp2_with fail
  refine (tAll H6.out.ta (by have := HN60.out; omega)).mono ?_
  rintro e w7 ⟨r, rfl, hr, hu, -⟩
  have H7 := Lib.hid (H6.out.quiet hu)
  obtain ⟨ra, rc, rfl, -, hrc⟩ := hr.slice
  have HR7 := Lib.hid hr
  clear hu hr hrc
  have HLEN := Lib.hid (tLen H7.out.ta)
  rw [HN60.out] at HLEN HR7
  have HXL := Lib.hid HN60.out
  rw [HN60.out]
  go_wp2_with fail
  refine HLEN.out.mono ?_
  rintro e w' ⟨rfl, rfl⟩
  have HR0 : Hid (Evs w7 (.slice ra 60 rc) X) := HR7
  go_wp2_with fail
  go_loopw [16] (fun i wr => ∃ k : Nat, k ≤ 60 ∧ i = .int .i64 k ∧ Hid (Two10 W wr a b (EMore (ESince W w1) w3 w4) (EMore (ESince w1 w2) w4 w5) X (turnL X kk by')) ∧ Hid (Upd (fun _ => False) w7 wr)) (fun i _ => 60 - (intOf i).toNat)
  case atStart => exact ⟨0, Nat.zero_le _, rfl, H7, Lib.hid (Upd.refl _ _)⟩
  case round =>
    obtain ⟨k, hk9, rfl, HH, HUU⟩ := hrel
    have hki : (0 : Int) ≤ (k : Int) := Int.natCast_nonneg _
    by_cases hlt : k < 60
    · have HLT : Hid (k < X.length) := Lib.hid (by rw [HXL.out]; exact hlt)
      obtain ⟨lg, lo, rfl, hlg1, c0, c1, c2, c3⟩ := (Two10.arg (S := fun _ => False) HH.out.up (fun _ h => h.elim) HA.out (Upd.refl _ _)).at HLT.out
      obtain ⟨rg, ro, rfl, hrg1, d0, d1, d2, d3⟩ := (HR7.out.upd HUU.out (fun _ _ h => h)).at HLT.out
      have HAT := Lib.hid (tAt HH.out.ta k HLT.out (by rw [HXL.out]; omega))
      generalize X.getD k default = s at *
      have HC : Hid (∀ w', Upd (fun _ => False) wr w' → (w'.cell? ⟨lg, lo + k * 4, none⟩ = some (.int .i64 s.what) ∧ w'.cell? ⟨lg, lo + k * 4 + 1, none⟩ = some (.int .i64 s.a) ∧ w'.cell? ⟨lg, lo + k * 4 + 2, none⟩ = some (.int .i64 s.b) ∧ w'.cell? ⟨lg, lo + k * 4 + 3, none⟩ = some (.int .i64 s.c)) ∧
          (w'.cell? ⟨rg, ro + k * 4, none⟩ = some (.int .i64 s.what) ∧ w'.cell? ⟨rg, ro + k * 4 + 1, none⟩ = some (.int .i64 s.a) ∧ w'.cell? ⟨rg, ro + k * 4 + 2, none⟩ = some (.int .i64 s.b) ∧ w'.cell? ⟨rg, ro + k * 4 + 3, none⟩ = some (.int .i64 s.c))) :=
        Lib.hid (fun w' hu => ⟨(show EvAt wr lg (lo + k * 4) s from ⟨c0, c1, c2, c3⟩).upd hu (fun h => h), (show EvAt wr rg (ro + k * 4) s from ⟨d0, d1, d2, d3⟩).upd hu (fun h => h)⟩)
      clear c0 c1 c2 c3 d0 d1 d2 d3
      unfold evV at HAT
      have hne := fun w : World => evNeq w s s
      have hqq := evEq_self s
      rw [hqq] at hne
      clear hqq
      go_wp2_with fail
      refine HAT.out.mono ?_
      rintro e w8 ⟨rfl, hu8⟩
      obtain ⟨w9, hw9⟩ : ∃ w9, w9 = w8.alloc (.cells #[.int .i64 s.what, .int .i64 s.a, .int .i64 s.b, .int .i64 s.c] 26) := ⟨_, rfl⟩
      have hu9 : Upd (fun _ => False) wr w9 := hu8.trans (by rw [hw9]; exact Upd.alloc (fun _ => False) _ _) (fun _ h _ => h)
      have hx9 : w9.heap[w8.heap.size]? = some (.cells #[.int .i64 s.what, .int .i64 s.a, .int .i64 s.b, .int .i64 s.c] 26 (0, 0)) := by rw [hw9]; exact eTop _ _ _ rfl
      obtain ⟨⟨c0, c1, c2, c3⟩, d0, d1, d2, d3⟩ := HC.out w9 hu9
      obtain ⟨e0, e1, e2, e3, -⟩ := four hx9
      have HW9 := Lib.hid hw9
      have HU9 := Lib.hid hu9
      clear hu8 hw9 hu9 hx9
      go_wp2_with fail
      rw [← HW9.out]
      go_quiet (fail)
      clear c0 c1 c2 c3 d0 d1 d2 d3 e0 e1 e2 e3 hne
      have hu10 : Upd (fun _ => False) wr (w9.drewN nq) := HU9.out.trans (T := fun _ => False) (⟨rfl, rfl, rfl, Nat.le_refl _, fun _ _ _ => rfl⟩ : Upd (fun _ => False) w9 (w9.drewN nq)) (fun _ h _ => h)
      have HH2 := Lib.hid (HH.out.quiet hu10)
      have HUU2 := Lib.hid (HUU.out.trans hu10 (fun _ h _ => h))
      clear hu10
      go_wp2_with fail
      go_roundw
      case rel => exact ⟨k + 1, by omega, by go_num, HH2, HUU2⟩
      case measure => simp [intOf]; omega
    · obtain rfl : k = 60 := by omega
      have hmi : (M.length : Int) = 0 := by omega
      go_wp2_with fail
      refine (tSame HH.out.ta.lst HH.out.tb.lst HP.out).mono ?_
      rintro e w11 ⟨rfl, hu⟩
      have H11 := Lib.hid (HH.out.quiet hu)
      clear hu
      go_wp2_with fail
      refine (tSame H11.out.tb.lst H11.out.ta.lst HP.out.swap).mono ?_
      rintro e w12 ⟨rfl, hu⟩
      have H12 := Lib.hid (H11.out.quiet hu)
      clear hu
      go_wp2_with fail
      go_ret
      exact ⟨rfl, H12.out.up⟩
set_option maxHeartbeats 4000000 in
theorem tells_long_in_more (W : World) (v u : Value) (L M : List EvM) (turn by' : Int) (hL : Evs W v L) (hW : ∀ s ∈ L, evWi s) (hM : Evs W u M) (hby : -9223372036854775808 ≤ by' ∧ by' ≤ 9223372036854775807) (hlen : 60 < L.length) (hm : 0 < M.length) (hk : turn % 61 < 60) (hb : by' ≠ 0) :
    Calls Try.prog 4 #[v, u, .int .i64 turn, .int .i64 by', .bool false] W fun e w' => e = .returned (.bool true) ∧ Upd (fun _ => False) W w' := by
  obtain ⟨la, lc, rfl, hlc, hlx⟩ := hL.slice
  obtain ⟨ma, mc, rfl, hmc, hmx⟩ := hM.slice
  unfold maxLen at hlx hmx
  have HA := Lib.hid (hL.take (k := 60) (by omega))
  have HWI : Hid (∀ s ∈ L.take 60, evWi s) := Lib.hid (fun s hs => hW s (List.mem_of_mem_take hs))
  have hn60 : (L.take 60).length = 60 := by simp; omega
  have hlg : (60 : Int) < (L.length : Int) := by omega
  obtain ⟨X, hX⟩ : ∃ X, X = L.take 60 := ⟨_, rfl⟩
  rw [← hX] at HA HWI hn60
  have HN60 := Lib.hid hn60
  have hnn : X.length = 60 := hn60
  have hq60 : (60 : Int) + 1 = 61 := rfl
  obtain ⟨kk, hkk⟩ : ∃ kk, kk = turn % 61 := ⟨_, rfl⟩
  have hk0 : 0 ≤ kk := by rw [hkk]; exact Int.emod_nonneg _ (by omega)
  have hk1 : kk < 60 := by rw [hkk]; exact hk
  have HP : Hid (Parts X (turnL X kk by') kk) := Lib.hid (turnL_parts X kk by' HWI.out hk0 (by have := HN60.out; omega) hb hby)
  have hbb : (by' != 0) = true := by simpa using hb
  have hkw : -9223372036854775808 ≤ kk ∧ kk ≤ 9223372036854775807 := by omega
  have HKK := Lib.hid hkk
  clear hkk hk
  clear hb
  have HM := Lib.hid hM
  have hw61 : IntKind.i64.wrap (60 + 1) = 61 := rfl
  have hgd := ev_guard
  have hmc1 : 1 ≤ mc := by omega
  have hlc60 : 60 ≤ lc := by omega
  clear hL hW hM hlc hmc
  clear hX hn60 hnn hq60 hlen
  go_enter Try.func4, Try.ntmps4
  go_wp2_with fail
  refine (tNew W).mono ?_
  rintro e w1 ⟨a, rfl, hta, hu1⟩
  have HTA := Lib.hid hta
  have HU1 := Lib.hid hu1
  clear hta hu1
  go_wp2_with fail
  refine (tNew w1).mono ?_
  rintro e w2 ⟨b, rfl, htb, hu2⟩
  have H2 : Hid (Two10 W w2 a b (ESince W w1) (ESince w1 w2) [] []) := Lib.hid ⟨HTA.out.upd hu2 (fun _ _ h => h), htb, fun k hk hk' => by have := hk.2; have := hk'.1; omega, fun k hk => hk.1, fun k hk => Nat.le_trans HU1.out.size hk.1, HU1.out.trans hu2 (fun _ h _ => h)⟩
  clear htb hu2
  go_wp2_with fail
  refine (known10 w2).mono ?_
  rintro e w3 ⟨rfl, hu⟩
  have H3 := Lib.hid (H2.out.quiet hu)
  clear hu
  go_wp2_with fail
  refine (hPick turn 61 w3 (by omega) (by omega)).mono ?_
  rintro e w' ⟨rfl, rfl⟩
  rw [← HKK.out]
  go_wp2_with fail
  refine (fillC (.slice la 60 lc) (-1) 0 H3.out.ta (fun w' hu => Two10.arg H3.out.up H3.out.nf HA.out hu) (by have := HN60.out; simp; omega)).mono ?_
  rintro e w4 ⟨rfl, ht, hu⟩
  rw [List.nil_append, turnL_no X (-1) 0 (.inl (by omega))] at ht
  have H4 := Lib.hid (H3.out.first ht hu)
  clear ht hu
  go_wp2_with fail
  refine (fillC (.slice la 60 lc) kk by' H4.out.tb (fun w' hu => Two10.arg H4.out.up H4.out.ng HA.out hu) (by have := HN60.out; simp; omega)).mono ?_
  rintro e w5 ⟨rfl, ht, hu⟩
  rw [List.nil_append] at ht
  have H5 := Lib.hid (H4.out.second ht hu)
  clear ht hu
  go_wp2_with fail
  refine (tSame H5.out.ta.lst H5.out.tb.lst HP.out).mono ?_
  rintro e w6 ⟨rfl, hu⟩
  have H6 := Lib.hid (H5.out.quiet hu)
  clear hu
  go_wp2_with fail
  refine (tAll H6.out.ta (by have := HN60.out; omega)).mono ?_
  rintro e w7 ⟨r, rfl, hr, hu, -⟩
  have H7 := Lib.hid (H6.out.quiet hu)
  obtain ⟨ra, rc, rfl, -, hrc⟩ := hr.slice
  have HR7 := Lib.hid hr
  clear hu hr hrc
  have HLEN := Lib.hid (tLen H7.out.ta)
  rw [HN60.out] at HLEN HR7
  have HXL := Lib.hid HN60.out
  rw [HN60.out]
  go_wp2_with fail
  refine HLEN.out.mono ?_
  rintro e w' ⟨rfl, rfl⟩
  have HR0 : Hid (Evs w7 (.slice ra 60 rc) X) := HR7
  go_wp2_with fail
  go_loopw [16] (fun i wr => ∃ k : Nat, k ≤ 60 ∧ i = .int .i64 k ∧ Hid (Two10 W wr a b (EMore (ESince W w1) w3 w4) (EMore (ESince w1 w2) w4 w5) X (turnL X kk by')) ∧ Hid (Upd (fun _ => False) w7 wr)) (fun i _ => 60 - (intOf i).toNat)
  case atStart => exact ⟨0, Nat.zero_le _, rfl, H7, Lib.hid (Upd.refl _ _)⟩
  case round =>
    obtain ⟨k, hk9, rfl, HH, HUU⟩ := hrel
    have hki : (0 : Int) ≤ (k : Int) := Int.natCast_nonneg _
    by_cases hlt : k < 60
    · have HLT : Hid (k < X.length) := Lib.hid (by rw [HXL.out]; exact hlt)
      obtain ⟨lg, lo, rfl, hlg1, c0, c1, c2, c3⟩ := (Two10.arg (S := fun _ => False) HH.out.up (fun _ h => h.elim) HA.out (Upd.refl _ _)).at HLT.out
      obtain ⟨rg, ro, rfl, hrg1, d0, d1, d2, d3⟩ := (HR7.out.upd HUU.out (fun _ _ h => h)).at HLT.out
      have HAT := Lib.hid (tAt HH.out.ta k HLT.out (by rw [HXL.out]; omega))
      generalize X.getD k default = s at *
      have HC : Hid (∀ w', Upd (fun _ => False) wr w' → (w'.cell? ⟨lg, lo + k * 4, none⟩ = some (.int .i64 s.what) ∧ w'.cell? ⟨lg, lo + k * 4 + 1, none⟩ = some (.int .i64 s.a) ∧ w'.cell? ⟨lg, lo + k * 4 + 2, none⟩ = some (.int .i64 s.b) ∧ w'.cell? ⟨lg, lo + k * 4 + 3, none⟩ = some (.int .i64 s.c)) ∧
          (w'.cell? ⟨rg, ro + k * 4, none⟩ = some (.int .i64 s.what) ∧ w'.cell? ⟨rg, ro + k * 4 + 1, none⟩ = some (.int .i64 s.a) ∧ w'.cell? ⟨rg, ro + k * 4 + 2, none⟩ = some (.int .i64 s.b) ∧ w'.cell? ⟨rg, ro + k * 4 + 3, none⟩ = some (.int .i64 s.c))) :=
        Lib.hid (fun w' hu => ⟨(show EvAt wr lg (lo + k * 4) s from ⟨c0, c1, c2, c3⟩).upd hu (fun h => h), (show EvAt wr rg (ro + k * 4) s from ⟨d0, d1, d2, d3⟩).upd hu (fun h => h)⟩)
      clear c0 c1 c2 c3 d0 d1 d2 d3
      unfold evV at HAT
      have hne := fun w : World => evNeq w s s
      have hqq := evEq_self s
      rw [hqq] at hne
      clear hqq
      go_wp2_with fail
      refine HAT.out.mono ?_
      rintro e w8 ⟨rfl, hu8⟩
      obtain ⟨w9, hw9⟩ : ∃ w9, w9 = w8.alloc (.cells #[.int .i64 s.what, .int .i64 s.a, .int .i64 s.b, .int .i64 s.c] 26) := ⟨_, rfl⟩
      have hu9 : Upd (fun _ => False) wr w9 := hu8.trans (by rw [hw9]; exact Upd.alloc (fun _ => False) _ _) (fun _ h _ => h)
      have hx9 : w9.heap[w8.heap.size]? = some (.cells #[.int .i64 s.what, .int .i64 s.a, .int .i64 s.b, .int .i64 s.c] 26 (0, 0)) := by rw [hw9]; exact eTop _ _ _ rfl
      obtain ⟨⟨c0, c1, c2, c3⟩, d0, d1, d2, d3⟩ := HC.out w9 hu9
      obtain ⟨e0, e1, e2, e3, -⟩ := four hx9
      have HW9 := Lib.hid hw9
      have HU9 := Lib.hid hu9
      clear hu8 hw9 hu9 hx9
      go_wp2_with fail
      rw [← HW9.out]
      go_quiet (fail)
      clear c0 c1 c2 c3 d0 d1 d2 d3 e0 e1 e2 e3 hne
      have hu10 : Upd (fun _ => False) wr (w9.drewN nq) := HU9.out.trans (T := fun _ => False) (⟨rfl, rfl, rfl, Nat.le_refl _, fun _ _ _ => rfl⟩ : Upd (fun _ => False) w9 (w9.drewN nq)) (fun _ h _ => h)
      have HH2 := Lib.hid (HH.out.quiet hu10)
      have HUU2 := Lib.hid (HUU.out.trans hu10 (fun _ h _ => h))
      clear hu10
      go_wp2_with fail
      go_roundw
      case rel => exact ⟨k + 1, by omega, by go_num, HH2, HUU2⟩
      case measure => simp [intOf]; omega
    · obtain rfl : k = 60 := by omega
      obtain ⟨m0, hm0⟩ : ∃ m0, M.take 1 = [m0] := by
        cases M with
        | nil => simp at hm
        | cons x M' => exact ⟨x, rfl⟩
      have HM1 : Hid (Evs W (.slice ma 1 mc) [m0]) := Lib.hid (by rw [← hm0]; exact HM.out.take (by omega))
      have HP2 : Hid (Parts (X ++ [m0]) (turnL X kk by') kk) := Lib.hid (HP.out.snoc m0 (by have := HXL.out; omega) _ (by have := HXL.out; omega))
      have hmi : (0 : Int) < (M.length : Int) := by omega
      clear hm0
      go_wp2_with fail
      refine (fillC (.slice ma 1 mc) (-1) 0 HH.out.ta (fun w' hu => Two10.arg HH.out.up HH.out.nf HM1.out hu) (by have := HXL.out; simp; omega)).mono ?_
      rintro e w10 ⟨rfl, ht, hu⟩
      rw [turnL_no [m0] (-1) 0 (.inl (by omega))] at ht
      have H10 := Lib.hid (HH.out.first ht hu)
      clear ht hu
      go_wp2_with fail
      refine (tSame H10.out.ta.lst H10.out.tb.lst HP2.out).mono ?_
      rintro e w11 ⟨rfl, hu⟩
      have H11 := Lib.hid (H10.out.quiet hu)
      clear hu
      go_wp2_with fail
      refine (tSame H11.out.tb.lst H11.out.ta.lst HP2.out.swap).mono ?_
      rintro e w12 ⟨rfl, hu⟩
      have H12 := Lib.hid (H11.out.quiet hu)
      clear hu
      go_wp2_with fail
      go_ret
      exact ⟨rfl, H12.out.up⟩
set_option maxHeartbeats 4000000 in
theorem tells_long_zero_none (W : World) (v u : Value) (L M : List EvM) (turn by' : Int) (hL : Evs W v L) (hW : ∀ s ∈ L, evWi s) (hM : Evs W u M) (hby : -9223372036854775808 ≤ by' ∧ by' ≤ 9223372036854775807) (hlen : 60 < L.length) (hm : M.length = 0) (hk : turn % 61 < 60) (hb : by' = 0) :
    Calls Try.prog 4 #[v, u, .int .i64 turn, .int .i64 by', .bool false] W fun e w' => e = .returned (.bool true) ∧ Upd (fun _ => False) W w' := by
  obtain ⟨la, lc, rfl, hlc, hlx⟩ := hL.slice
  obtain ⟨ma, mc, rfl, hmc, hmx⟩ := hM.slice
  unfold maxLen at hlx hmx
  have HA := Lib.hid (hL.take (k := 60) (by omega))
  have HWI : Hid (∀ s ∈ L.take 60, evWi s) := Lib.hid (fun s hs => hW s (List.mem_of_mem_take hs))
  have hn60 : (L.take 60).length = 60 := by simp; omega
  have hlg : (60 : Int) < (L.length : Int) := by omega
  obtain ⟨X, hX⟩ : ∃ X, X = L.take 60 := ⟨_, rfl⟩
  rw [← hX] at HA HWI hn60
  have HN60 := Lib.hid hn60
  have hnn : X.length = 60 := hn60
  have hq60 : (60 : Int) + 1 = 61 := rfl
  obtain ⟨kk, hkk⟩ : ∃ kk, kk = turn % 61 := ⟨_, rfl⟩
  have hk0 : 0 ≤ kk := by rw [hkk]; exact Int.emod_nonneg _ (by omega)
  have hk1 : kk < 60 := by rw [hkk]; exact hk
  subst hb
  have HP : Hid (Parts X (turnL X kk 0) (-1)) := Lib.hid (by rw [turnL_zero X kk HWI.out]; exact .same _)
  have hkw : -9223372036854775808 ≤ kk ∧ kk ≤ 9223372036854775807 := by omega
  have HKK := Lib.hid hkk
  clear hkk hk
  have HM := Lib.hid hM
  have hw61 : IntKind.i64.wrap (60 + 1) = 61 := rfl
  have hgd := ev_guard
  have hlc60 : 60 ≤ lc := by omega
  clear hL hW hM hlc hmc
  clear hX hn60 hnn hq60 hlen
  go_enter Try.func4, Try.ntmps4
  go_wp2_with fail
  refine (tNew W).mono ?_
  rintro e w1 ⟨a, rfl, hta, hu1⟩
  have HTA := Lib.hid hta
  have HU1 := Lib.hid hu1
  clear hta hu1
  go_wp2_with fail
  refine (tNew w1).mono ?_
  rintro e w2 ⟨b, rfl, htb, hu2⟩
  have H2 : Hid (Two10 W w2 a b (ESince W w1) (ESince w1 w2) [] []) := Lib.hid ⟨HTA.out.upd hu2 (fun _ _ h => h), htb, fun k hk hk' => by have := hk.2; have := hk'.1; omega, fun k hk => hk.1, fun k hk => Nat.le_trans HU1.out.size hk.1, HU1.out.trans hu2 (fun _ h _ => h)⟩
  clear htb hu2
  go_wp2_with fail
  refine (known10 w2).mono ?_
  rintro e w3 ⟨rfl, hu⟩
  have H3 := Lib.hid (H2.out.quiet hu)
  clear hu
  go_wp2_with fail
  refine (hPick turn 61 w3 (by omega) (by omega)).mono ?_
  rintro e w' ⟨rfl, rfl⟩
  rw [← HKK.out]
  go_wp2_with fail
  refine (fillC (.slice la 60 lc) (-1) 0 H3.out.ta (fun w' hu => Two10.arg H3.out.up H3.out.nf HA.out hu) (by have := HN60.out; simp; omega)).mono ?_
  rintro e w4 ⟨rfl, ht, hu⟩
  rw [List.nil_append, turnL_no X (-1) 0 (.inl (by omega))] at ht
  have H4 := Lib.hid (H3.out.first ht hu)
  clear ht hu
  go_wp2_with fail
  refine (fillC (.slice la 60 lc) kk 0 H4.out.tb (fun w' hu => Two10.arg H4.out.up H4.out.ng HA.out hu) (by have := HN60.out; simp; omega)).mono ?_
  rintro e w5 ⟨rfl, ht, hu⟩
  rw [List.nil_append] at ht
  have H5 := Lib.hid (H4.out.second ht hu)
  clear ht hu
  go_wp2_with fail
  refine (tSame H5.out.ta.lst H5.out.tb.lst HP.out).mono ?_
  rintro e w6 ⟨rfl, hu⟩
  have H6 := Lib.hid (H5.out.quiet hu)
  clear hu
  go_wp2_with fail
  refine (tAll H6.out.ta (by have := HN60.out; omega)).mono ?_
  rintro e w7 ⟨r, rfl, hr, hu, -⟩
  have H7 := Lib.hid (H6.out.quiet hu)
  obtain ⟨ra, rc, rfl, -, hrc⟩ := hr.slice
  have HR7 := Lib.hid hr
  clear hu hr hrc
  have HLEN := Lib.hid (tLen H7.out.ta)
  rw [HN60.out] at HLEN HR7
  have HXL := Lib.hid HN60.out
  rw [HN60.out]
  go_wp2_with fail
  refine HLEN.out.mono ?_
  rintro e w' ⟨rfl, rfl⟩
  have HR0 : Hid (Evs w7 (.slice ra 60 rc) X) := HR7
  go_wp2_with fail
  go_loopw [16] (fun i wr => ∃ k : Nat, k ≤ 60 ∧ i = .int .i64 k ∧ Hid (Two10 W wr a b (EMore (ESince W w1) w3 w4) (EMore (ESince w1 w2) w4 w5) X (turnL X kk 0)) ∧ Hid (Upd (fun _ => False) w7 wr)) (fun i _ => 60 - (intOf i).toNat)
  case atStart => exact ⟨0, Nat.zero_le _, rfl, H7, Lib.hid (Upd.refl _ _)⟩
  case round =>
    obtain ⟨k, hk9, rfl, HH, HUU⟩ := hrel
    have hki : (0 : Int) ≤ (k : Int) := Int.natCast_nonneg _
    by_cases hlt : k < 60
    · have HLT : Hid (k < X.length) := Lib.hid (by rw [HXL.out]; exact hlt)
      obtain ⟨lg, lo, rfl, hlg1, c0, c1, c2, c3⟩ := (Two10.arg (S := fun _ => False) HH.out.up (fun _ h => h.elim) HA.out (Upd.refl _ _)).at HLT.out
      obtain ⟨rg, ro, rfl, hrg1, d0, d1, d2, d3⟩ := (HR7.out.upd HUU.out (fun _ _ h => h)).at HLT.out
      have HAT := Lib.hid (tAt HH.out.ta k HLT.out (by rw [HXL.out]; omega))
      generalize X.getD k default = s at *
      have HC : Hid (∀ w', Upd (fun _ => False) wr w' → (w'.cell? ⟨lg, lo + k * 4, none⟩ = some (.int .i64 s.what) ∧ w'.cell? ⟨lg, lo + k * 4 + 1, none⟩ = some (.int .i64 s.a) ∧ w'.cell? ⟨lg, lo + k * 4 + 2, none⟩ = some (.int .i64 s.b) ∧ w'.cell? ⟨lg, lo + k * 4 + 3, none⟩ = some (.int .i64 s.c)) ∧
          (w'.cell? ⟨rg, ro + k * 4, none⟩ = some (.int .i64 s.what) ∧ w'.cell? ⟨rg, ro + k * 4 + 1, none⟩ = some (.int .i64 s.a) ∧ w'.cell? ⟨rg, ro + k * 4 + 2, none⟩ = some (.int .i64 s.b) ∧ w'.cell? ⟨rg, ro + k * 4 + 3, none⟩ = some (.int .i64 s.c))) :=
        Lib.hid (fun w' hu => ⟨(show EvAt wr lg (lo + k * 4) s from ⟨c0, c1, c2, c3⟩).upd hu (fun h => h), (show EvAt wr rg (ro + k * 4) s from ⟨d0, d1, d2, d3⟩).upd hu (fun h => h)⟩)
      clear c0 c1 c2 c3 d0 d1 d2 d3
      unfold evV at HAT
      have hne := fun w : World => evNeq w s s
      have hqq := evEq_self s
      rw [hqq] at hne
      clear hqq
      go_wp2_with fail
      refine HAT.out.mono ?_
      rintro e w8 ⟨rfl, hu8⟩
      obtain ⟨w9, hw9⟩ : ∃ w9, w9 = w8.alloc (.cells #[.int .i64 s.what, .int .i64 s.a, .int .i64 s.b, .int .i64 s.c] 26) := ⟨_, rfl⟩
      have hu9 : Upd (fun _ => False) wr w9 := hu8.trans (by rw [hw9]; exact Upd.alloc (fun _ => False) _ _) (fun _ h _ => h)
      have hx9 : w9.heap[w8.heap.size]? = some (.cells #[.int .i64 s.what, .int .i64 s.a, .int .i64 s.b, .int .i64 s.c] 26 (0, 0)) := by rw [hw9]; exact eTop _ _ _ rfl
      obtain ⟨⟨c0, c1, c2, c3⟩, d0, d1, d2, d3⟩ := HC.out w9 hu9
      obtain ⟨e0, e1, e2, e3, -⟩ := four hx9
      have HW9 := Lib.hid hw9
      have HU9 := Lib.hid hu9
      clear hu8 hw9 hu9 hx9
      go_wp2_with fail
      rw [← HW9.out]
      go_quiet (fail)
      clear c0 c1 c2 c3 d0 d1 d2 d3 e0 e1 e2 e3 hne
      have hu10 : Upd (fun _ => False) wr (w9.drewN nq) := HU9.out.trans (T := fun _ => False) (⟨rfl, rfl, rfl, Nat.le_refl _, fun _ _ _ => rfl⟩ : Upd (fun _ => False) w9 (w9.drewN nq)) (fun _ h _ => h)
      have HH2 := Lib.hid (HH.out.quiet hu10)
      have HUU2 := Lib.hid (HUU.out.trans hu10 (fun _ h _ => h))
      clear hu10
      go_wp2_with fail
      go_roundw
      case rel => exact ⟨k + 1, by omega, by go_num, HH2, HUU2⟩
      case measure => simp [intOf]; omega
    · obtain rfl : k = 60 := by omega
      have hmi : (M.length : Int) = 0 := by omega
      go_wp2_with fail
      refine (tSame HH.out.ta.lst HH.out.tb.lst HP.out).mono ?_
      rintro e w11 ⟨rfl, hu⟩
      have H11 := Lib.hid (HH.out.quiet hu)
      clear hu
      go_wp2_with fail
      refine (tSame H11.out.tb.lst H11.out.ta.lst HP.out.swap).mono ?_
      rintro e w12 ⟨rfl, hu⟩
      have H12 := Lib.hid (H11.out.quiet hu)
      clear hu
      go_wp2_with fail
      go_ret
      exact ⟨rfl, H12.out.up⟩
set_option maxHeartbeats 4000000 in
theorem tells_long_zero_more (W : World) (v u : Value) (L M : List EvM) (turn by' : Int) (hL : Evs W v L) (hW : ∀ s ∈ L, evWi s) (hM : Evs W u M) (hby : -9223372036854775808 ≤ by' ∧ by' ≤ 9223372036854775807) (hlen : 60 < L.length) (hm : 0 < M.length) (hk : turn % 61 < 60) (hb : by' = 0) :
    Calls Try.prog 4 #[v, u, .int .i64 turn, .int .i64 by', .bool false] W fun e w' => e = .returned (.bool true) ∧ Upd (fun _ => False) W w' := by
  obtain ⟨la, lc, rfl, hlc, hlx⟩ := hL.slice
  obtain ⟨ma, mc, rfl, hmc, hmx⟩ := hM.slice
  unfold maxLen at hlx hmx
  have HA := Lib.hid (hL.take (k := 60) (by omega))
  have HWI : Hid (∀ s ∈ L.take 60, evWi s) := Lib.hid (fun s hs => hW s (List.mem_of_mem_take hs))
  have hn60 : (L.take 60).length = 60 := by simp; omega
  have hlg : (60 : Int) < (L.length : Int) := by omega
  obtain ⟨X, hX⟩ : ∃ X, X = L.take 60 := ⟨_, rfl⟩
  rw [← hX] at HA HWI hn60
  have HN60 := Lib.hid hn60
  have hnn : X.length = 60 := hn60
  have hq60 : (60 : Int) + 1 = 61 := rfl
  obtain ⟨kk, hkk⟩ : ∃ kk, kk = turn % 61 := ⟨_, rfl⟩
  have hk0 : 0 ≤ kk := by rw [hkk]; exact Int.emod_nonneg _ (by omega)
  have hk1 : kk < 60 := by rw [hkk]; exact hk
  subst hb
  have HP : Hid (Parts X (turnL X kk 0) (-1)) := Lib.hid (by rw [turnL_zero X kk HWI.out]; exact .same _)
  have hkw : -9223372036854775808 ≤ kk ∧ kk ≤ 9223372036854775807 := by omega
  have HKK := Lib.hid hkk
  clear hkk hk
  have HM := Lib.hid hM
  have hw61 : IntKind.i64.wrap (60 + 1) = 61 := rfl
  have hgd := ev_guard
  have hmc1 : 1 ≤ mc := by omega
  have hlc60 : 60 ≤ lc := by omega
  clear hL hW hM hlc hmc
  clear hX hn60 hnn hq60 hlen
  go_enter Try.func4, Try.ntmps4
  go_wp2_with fail
  refine (tNew W).mono ?_
  rintro e w1 ⟨a, rfl, hta, hu1⟩
  have HTA := Lib.hid hta
  have HU1 := Lib.hid hu1
  clear hta hu1
  go_wp2_with fail
  refine (tNew w1).mono ?_
  rintro e w2 ⟨b, rfl, htb, hu2⟩
  have H2 : Hid (Two10 W w2 a b (ESince W w1) (ESince w1 w2) [] []) := Lib.hid ⟨HTA.out.upd hu2 (fun _ _ h => h), htb, fun k hk hk' => by have := hk.2; have := hk'.1; omega, fun k hk => hk.1, fun k hk => Nat.le_trans HU1.out.size hk.1, HU1.out.trans hu2 (fun _ h _ => h)⟩
  clear htb hu2
  go_wp2_with fail
  refine (known10 w2).mono ?_
  rintro e w3 ⟨rfl, hu⟩
  have H3 := Lib.hid (H2.out.quiet hu)
  clear hu
  go_wp2_with fail
  refine (hPick turn 61 w3 (by omega) (by omega)).mono ?_
  rintro e w' ⟨rfl, rfl⟩
  rw [← HKK.out]
  go_wp2_with fail
  refine (fillC (.slice la 60 lc) (-1) 0 H3.out.ta (fun w' hu => Two10.arg H3.out.up H3.out.nf HA.out hu) (by have := HN60.out; simp; omega)).mono ?_
  rintro e w4 ⟨rfl, ht, hu⟩
  rw [List.nil_append, turnL_no X (-1) 0 (.inl (by omega))] at ht
  have H4 := Lib.hid (H3.out.first ht hu)
  clear ht hu
  go_wp2_with fail
  refine (fillC (.slice la 60 lc) kk 0 H4.out.tb (fun w' hu => Two10.arg H4.out.up H4.out.ng HA.out hu) (by have := HN60.out; simp; omega)).mono ?_
  rintro e w5 ⟨rfl, ht, hu⟩
  rw [List.nil_append] at ht
  have H5 := Lib.hid (H4.out.second ht hu)
  clear ht hu
  go_wp2_with fail
  refine (tSame H5.out.ta.lst H5.out.tb.lst HP.out).mono ?_
  rintro e w6 ⟨rfl, hu⟩
  have H6 := Lib.hid (H5.out.quiet hu)
  clear hu
  go_wp2_with fail
  refine (tAll H6.out.ta (by have := HN60.out; omega)).mono ?_
  rintro e w7 ⟨r, rfl, hr, hu, -⟩
  have H7 := Lib.hid (H6.out.quiet hu)
  obtain ⟨ra, rc, rfl, -, hrc⟩ := hr.slice
  have HR7 := Lib.hid hr
  clear hu hr hrc
  have HLEN := Lib.hid (tLen H7.out.ta)
  rw [HN60.out] at HLEN HR7
  have HXL := Lib.hid HN60.out
  rw [HN60.out]
  go_wp2_with fail
  refine HLEN.out.mono ?_
  rintro e w' ⟨rfl, rfl⟩
  have HR0 : Hid (Evs w7 (.slice ra 60 rc) X) := HR7
  go_wp2_with fail
  go_loopw [16] (fun i wr => ∃ k : Nat, k ≤ 60 ∧ i = .int .i64 k ∧ Hid (Two10 W wr a b (EMore (ESince W w1) w3 w4) (EMore (ESince w1 w2) w4 w5) X (turnL X kk 0)) ∧ Hid (Upd (fun _ => False) w7 wr)) (fun i _ => 60 - (intOf i).toNat)
  case atStart => exact ⟨0, Nat.zero_le _, rfl, H7, Lib.hid (Upd.refl _ _)⟩
  case round =>
    obtain ⟨k, hk9, rfl, HH, HUU⟩ := hrel
    have hki : (0 : Int) ≤ (k : Int) := Int.natCast_nonneg _
    by_cases hlt : k < 60
    · have HLT : Hid (k < X.length) := Lib.hid (by rw [HXL.out]; exact hlt)
      obtain ⟨lg, lo, rfl, hlg1, c0, c1, c2, c3⟩ := (Two10.arg (S := fun _ => False) HH.out.up (fun _ h => h.elim) HA.out (Upd.refl _ _)).at HLT.out
      obtain ⟨rg, ro, rfl, hrg1, d0, d1, d2, d3⟩ := (HR7.out.upd HUU.out (fun _ _ h => h)).at HLT.out
      have HAT := Lib.hid (tAt HH.out.ta k HLT.out (by rw [HXL.out]; omega))
      generalize X.getD k default = s at *
      have HC : Hid (∀ w', Upd (fun _ => False) wr w' → (w'.cell? ⟨lg, lo + k * 4, none⟩ = some (.int .i64 s.what) ∧ w'.cell? ⟨lg, lo + k * 4 + 1, none⟩ = some (.int .i64 s.a) ∧ w'.cell? ⟨lg, lo + k * 4 + 2, none⟩ = some (.int .i64 s.b) ∧ w'.cell? ⟨lg, lo + k * 4 + 3, none⟩ = some (.int .i64 s.c)) ∧
          (w'.cell? ⟨rg, ro + k * 4, none⟩ = some (.int .i64 s.what) ∧ w'.cell? ⟨rg, ro + k * 4 + 1, none⟩ = some (.int .i64 s.a) ∧ w'.cell? ⟨rg, ro + k * 4 + 2, none⟩ = some (.int .i64 s.b) ∧ w'.cell? ⟨rg, ro + k * 4 + 3, none⟩ = some (.int .i64 s.c))) :=
        Lib.hid (fun w' hu => ⟨(show EvAt wr lg (lo + k * 4) s from ⟨c0, c1, c2, c3⟩).upd hu (fun h => h), (show EvAt wr rg (ro + k * 4) s from ⟨d0, d1, d2, d3⟩).upd hu (fun h => h)⟩)
      clear c0 c1 c2 c3 d0 d1 d2 d3
      unfold evV at HAT
      have hne := fun w : World => evNeq w s s
      have hqq := evEq_self s
      rw [hqq] at hne
      clear hqq
      go_wp2_with fail
      refine HAT.out.mono ?_
      rintro e w8 ⟨rfl, hu8⟩
      obtain ⟨w9, hw9⟩ : ∃ w9, w9 = w8.alloc (.cells #[.int .i64 s.what, .int .i64 s.a, .int .i64 s.b, .int .i64 s.c] 26) := ⟨_, rfl⟩
      have hu9 : Upd (fun _ => False) wr w9 := hu8.trans (by rw [hw9]; exact Upd.alloc (fun _ => False) _ _) (fun _ h _ => h)
      have hx9 : w9.heap[w8.heap.size]? = some (.cells #[.int .i64 s.what, .int .i64 s.a, .int .i64 s.b, .int .i64 s.c] 26 (0, 0)) := by rw [hw9]; exact eTop _ _ _ rfl
      obtain ⟨⟨c0, c1, c2, c3⟩, d0, d1, d2, d3⟩ := HC.out w9 hu9
      obtain ⟨e0, e1, e2, e3, -⟩ := four hx9
      have HW9 := Lib.hid hw9
      have HU9 := Lib.hid hu9
      clear hu8 hw9 hu9 hx9
      go_wp2_with fail
      rw [← HW9.out]
      go_quiet (fail)
      clear c0 c1 c2 c3 d0 d1 d2 d3 e0 e1 e2 e3 hne
      have hu10 : Upd (fun _ => False) wr (w9.drewN nq) := HU9.out.trans (T := fun _ => False) (⟨rfl, rfl, rfl, Nat.le_refl _, fun _ _ _ => rfl⟩ : Upd (fun _ => False) w9 (w9.drewN nq)) (fun _ h _ => h)
      have HH2 := Lib.hid (HH.out.quiet hu10)
      have HUU2 := Lib.hid (HUU.out.trans hu10 (fun _ h _ => h))
      clear hu10
      go_wp2_with fail
      go_roundw
      case rel => exact ⟨k + 1, by omega, by go_num, HH2, HUU2⟩
      case measure => simp [intOf]; omega
    · obtain rfl : k = 60 := by omega
      obtain ⟨m0, hm0⟩ : ∃ m0, M.take 1 = [m0] := by
        cases M with
        | nil => simp at hm
        | cons x M' => exact ⟨x, rfl⟩
      have HM1 : Hid (Evs W (.slice ma 1 mc) [m0]) := Lib.hid (by rw [← hm0]; exact HM.out.take (by omega))
      have HP2 : Hid (Parts (X ++ [m0]) (turnL X kk 0) 60) := Lib.hid (HP.out.snoc m0 (by have := HXL.out; omega) _ (by have := HXL.out; omega))
      have hmi : (0 : Int) < (M.length : Int) := by omega
      clear hm0
      go_wp2_with fail
      refine (fillC (.slice ma 1 mc) (-1) 0 HH.out.ta (fun w' hu => Two10.arg HH.out.up HH.out.nf HM1.out hu) (by have := HXL.out; simp; omega)).mono ?_
      rintro e w10 ⟨rfl, ht, hu⟩
      rw [turnL_no [m0] (-1) 0 (.inl (by omega))] at ht
      have H10 := Lib.hid (HH.out.first ht hu)
      clear ht hu
      go_wp2_with fail
      refine (tSame H10.out.ta.lst H10.out.tb.lst HP2.out).mono ?_
      rintro e w11 ⟨rfl, hu⟩
      have H11 := Lib.hid (H10.out.quiet hu)
      clear hu
      go_wp2_with fail
      refine (tSame H11.out.tb.lst H11.out.ta.lst HP2.out.swap).mono ?_
      rintro e w12 ⟨rfl, hu⟩
      have H12 := Lib.hid (H11.out.quiet hu)
      clear hu
      go_wp2_with fail
      go_ret
      exact ⟨rfl, H12.out.up⟩
set_option maxHeartbeats 4000000 in
theorem tells_long_out_none (W : World) (v u : Value) (L M : List EvM) (turn by' : Int) (hL : Evs W v L) (hW : ∀ s ∈ L, evWi s) (hM : Evs W u M) (hby : -9223372036854775808 ≤ by' ∧ by' ≤ 9223372036854775807) (hlen : 60 < L.length) (hm : M.length = 0) (hk : turn % 61 = 60) :
    Calls Try.prog 4 #[v, u, .int .i64 turn, .int .i64 by', .bool false] W fun e w' => e = .returned (.bool true) ∧ Upd (fun _ => False) W w' := by
  obtain ⟨la, lc, rfl, hlc, hlx⟩ := hL.slice
  obtain ⟨ma, mc, rfl, hmc, hmx⟩ := hM.slice
  unfold maxLen at hlx hmx
  have HA := Lib.hid (hL.take (k := 60) (by omega))
  have HWI : Hid (∀ s ∈ L.take 60, evWi s) := Lib.hid (fun s hs => hW s (List.mem_of_mem_take hs))
  have hn60 : (L.take 60).length = 60 := by simp; omega
  have hlg : (60 : Int) < (L.length : Int) := by omega
  obtain ⟨X, hX⟩ : ∃ X, X = L.take 60 := ⟨_, rfl⟩
  rw [← hX] at HA HWI hn60
  have HN60 := Lib.hid hn60
  have hnn : X.length = 60 := hn60
  have hq60 : (60 : Int) + 1 = 61 := rfl
  obtain ⟨kk, hkk⟩ : ∃ kk, kk = turn % 61 := ⟨_, rfl⟩
  have hk0 : 0 ≤ kk := by rw [hkk]; exact Int.emod_nonneg _ (by omega)
  have hk1 : kk = 60 := by rw [hkk]; exact hk
  have HP : Hid (Parts X (turnL X kk by') (-1)) := Lib.hid (by rw [turnL_no X kk by' (.inr (by have := HN60.out; omega))]; exact .same _)
  have hk2 : ¬ kk < 60 := by omega
  have hkw : -9223372036854775808 ≤ kk ∧ kk ≤ 9223372036854775807 := by omega
  have HKK := Lib.hid hkk
  clear hkk hk
  clear hk1
  have HM := Lib.hid hM
  have hw61 : IntKind.i64.wrap (60 + 1) = 61 := rfl
  have hgd := ev_guard
  have hlc60 : 60 ≤ lc := by omega
  clear hL hW hM hlc hmc
  clear hX hn60 hnn hq60 hlen
  go_enter Try.func4, Try.ntmps4
  go_wp2_with fail
  refine (tNew W).mono ?_
  rintro e w1 ⟨a, rfl, hta, hu1⟩
  have HTA := Lib.hid hta
  have HU1 := Lib.hid hu1
  clear hta hu1
  go_wp2_with fail
  refine (tNew w1).mono ?_
  rintro e w2 ⟨b, rfl, htb, hu2⟩
  have H2 : Hid (Two10 W w2 a b (ESince W w1) (ESince w1 w2) [] []) := Lib.hid ⟨HTA.out.upd hu2 (fun _ _ h => h), htb, fun k hk hk' => by have := hk.2; have := hk'.1; omega, fun k hk => hk.1, fun k hk => Nat.le_trans HU1.out.size hk.1, HU1.out.trans hu2 (fun _ h _ => h)⟩
  clear htb hu2
  go_wp2_with fail
  refine (known10 w2).mono ?_
  rintro e w3 ⟨rfl, hu⟩
  have H3 := Lib.hid (H2.out.quiet hu)
  clear hu
  go_wp2_with fail
  refine (hPick turn 61 w3 (by omega) (by omega)).mono ?_
  rintro e w' ⟨rfl, rfl⟩
  rw [← HKK.out]
  go_wp2_with fail
  refine (fillC (.slice la 60 lc) (-1) 0 H3.out.ta (fun w' hu => Two10.arg H3.out.up H3.out.nf HA.out hu) (by have := HN60.out; simp; omega)).mono ?_
  rintro e w4 ⟨rfl, ht, hu⟩
  rw [List.nil_append, turnL_no X (-1) 0 (.inl (by omega))] at ht
  have H4 := Lib.hid (H3.out.first ht hu)
  clear ht hu
  go_wp2_with fail
  refine (fillC (.slice la 60 lc) kk by' H4.out.tb (fun w' hu => Two10.arg H4.out.up H4.out.ng HA.out hu) (by have := HN60.out; simp; omega)).mono ?_
  rintro e w5 ⟨rfl, ht, hu⟩
  rw [List.nil_append] at ht
  have H5 := Lib.hid (H4.out.second ht hu)
  clear ht hu
  go_wp2_with fail
  refine (tSame H5.out.ta.lst H5.out.tb.lst HP.out).mono ?_
  rintro e w6 ⟨rfl, hu⟩
  have H6 := Lib.hid (H5.out.quiet hu)
  clear hu
  go_wp2_with fail
  refine (tAll H6.out.ta (by have := HN60.out; omega)).mono ?_
  rintro e w7 ⟨r, rfl, hr, hu, -⟩
  have H7 := Lib.hid (H6.out.quiet hu)
  obtain ⟨ra, rc, rfl, -, hrc⟩ := hr.slice
  have HR7 := Lib.hid hr
  clear hu hr hrc
  have HLEN := Lib.hid (tLen H7.out.ta)
  rw [HN60.out] at HLEN HR7
  have HXL := Lib.hid HN60.out
  rw [HN60.out]
  go_wp2_with fail
  refine HLEN.out.mono ?_
  rintro e w' ⟨rfl, rfl⟩
  have HR0 : Hid (Evs w7 (.slice ra 60 rc) X) := HR7
  go_wp2_with fail
  go_loopw [16] (fun i wr => ∃ k : Nat, k ≤ 60 ∧ i = .int .i64 k ∧ Hid (Two10 W wr a b (EMore (ESince W w1) w3 w4) (EMore (ESince w1 w2) w4 w5) X (turnL X kk by')) ∧ Hid (Upd (fun _ => False) w7 wr)) (fun i _ => 60 - (intOf i).toNat)
  case atStart => exact ⟨0, Nat.zero_le _, rfl, H7, Lib.hid (Upd.refl _ _)⟩
  case round =>
    obtain ⟨k, hk9, rfl, HH, HUU⟩ := hrel
    have hki : (0 : Int) ≤ (k : Int) := Int.natCast_nonneg _
    by_cases hlt : k < 60
    · have HLT : Hid (k < X.length) := Lib.hid (by rw [HXL.out]; exact hlt)
      obtain ⟨lg, lo, rfl, hlg1, c0, c1, c2, c3⟩ := (Two10.arg (S := fun _ => False) HH.out.up (fun _ h => h.elim) HA.out (Upd.refl _ _)).at HLT.out
      obtain ⟨rg, ro, rfl, hrg1, d0, d1, d2, d3⟩ := (HR7.out.upd HUU.out (fun _ _ h => h)).at HLT.out
      have HAT := Lib.hid (tAt HH.out.ta k HLT.out (by rw [HXL.out]; omega))
      generalize X.getD k default = s at *
      have HC : Hid (∀ w', Upd (fun _ => False) wr w' → (w'.cell? ⟨lg, lo + k * 4, none⟩ = some (.int .i64 s.what) ∧ w'.cell? ⟨lg, lo + k * 4 + 1, none⟩ = some (.int .i64 s.a) ∧ w'.cell? ⟨lg, lo + k * 4 + 2, none⟩ = some (.int .i64 s.b) ∧ w'.cell? ⟨lg, lo + k * 4 + 3, none⟩ = some (.int .i64 s.c)) ∧
          (w'.cell? ⟨rg, ro + k * 4, none⟩ = some (.int .i64 s.what) ∧ w'.cell? ⟨rg, ro + k * 4 + 1, none⟩ = some (.int .i64 s.a) ∧ w'.cell? ⟨rg, ro + k * 4 + 2, none⟩ = some (.int .i64 s.b) ∧ w'.cell? ⟨rg, ro + k * 4 + 3, none⟩ = some (.int .i64 s.c))) :=
        Lib.hid (fun w' hu => ⟨(show EvAt wr lg (lo + k * 4) s from ⟨c0, c1, c2, c3⟩).upd hu (fun h => h), (show EvAt wr rg (ro + k * 4) s from ⟨d0, d1, d2, d3⟩).upd hu (fun h => h)⟩)
      clear c0 c1 c2 c3 d0 d1 d2 d3
      unfold evV at HAT
      have hne := fun w : World => evNeq w s s
      have hqq := evEq_self s
      rw [hqq] at hne
      clear hqq
      go_wp2_with fail
      refine HAT.out.mono ?_
      rintro e w8 ⟨rfl, hu8⟩
      obtain ⟨w9, hw9⟩ : ∃ w9, w9 = w8.alloc (.cells #[.int .i64 s.what, .int .i64 s.a, .int .i64 s.b, .int .i64 s.c] 26) := ⟨_, rfl⟩
      have hu9 : Upd (fun _ => False) wr w9 := hu8.trans (by rw [hw9]; exact Upd.alloc (fun _ => False) _ _) (fun _ h _ => h)
      have hx9 : w9.heap[w8.heap.size]? = some (.cells #[.int .i64 s.what, .int .i64 s.a, .int .i64 s.b, .int .i64 s.c] 26 (0, 0)) := by rw [hw9]; exact eTop _ _ _ rfl
      obtain ⟨⟨c0, c1, c2, c3⟩, d0, d1, d2, d3⟩ := HC.out w9 hu9
      obtain ⟨e0, e1, e2, e3, -⟩ := four hx9
      have HW9 := Lib.hid hw9
      have HU9 := Lib.hid hu9
      clear hu8 hw9 hu9 hx9
      go_wp2_with fail
      rw [← HW9.out]
      go_quiet (fail)
      clear c0 c1 c2 c3 d0 d1 d2 d3 e0 e1 e2 e3 hne
      have hu10 : Upd (fun _ => False) wr (w9.drewN nq) := HU9.out.trans (T := fun _ => False) (⟨rfl, rfl, rfl, Nat.le_refl _, fun _ _ _ => rfl⟩ : Upd (fun _ => False) w9 (w9.drewN nq)) (fun _ h _ => h)
      have HH2 := Lib.hid (HH.out.quiet hu10)
      have HUU2 := Lib.hid (HUU.out.trans hu10 (fun _ h _ => h))
      clear hu10
      go_wp2_with fail
      go_roundw
      case rel => exact ⟨k + 1, by omega, by go_num, HH2, HUU2⟩
      case measure => simp [intOf]; omega
    · obtain rfl : k = 60 := by omega
      have hmi : (M.length : Int) = 0 := by omega
      go_wp2_with fail
      refine (tSame HH.out.ta.lst HH.out.tb.lst HP.out).mono ?_
      rintro e w11 ⟨rfl, hu⟩
      have H11 := Lib.hid (HH.out.quiet hu)
      clear hu
      go_wp2_with fail
      refine (tSame H11.out.tb.lst H11.out.ta.lst HP.out.swap).mono ?_
      rintro e w12 ⟨rfl, hu⟩
      have H12 := Lib.hid (H11.out.quiet hu)
      clear hu
      go_wp2_with fail
      go_ret
      exact ⟨rfl, H12.out.up⟩
set_option maxHeartbeats 4000000 in
theorem tells_long_out_more (W : World) (v u : Value) (L M : List EvM) (turn by' : Int) (hL : Evs W v L) (hW : ∀ s ∈ L, evWi s) (hM : Evs W u M) (hby : -9223372036854775808 ≤ by' ∧ by' ≤ 9223372036854775807) (hlen : 60 < L.length) (hm : 0 < M.length) (hk : turn % 61 = 60) :
    Calls Try.prog 4 #[v, u, .int .i64 turn, .int .i64 by', .bool false] W fun e w' => e = .returned (.bool true) ∧ Upd (fun _ => False) W w' := by
  obtain ⟨la, lc, rfl, hlc, hlx⟩ := hL.slice
  obtain ⟨ma, mc, rfl, hmc, hmx⟩ := hM.slice
  unfold maxLen at hlx hmx
  have HA := Lib.hid (hL.take (k := 60) (by omega))
  have HWI : Hid (∀ s ∈ L.take 60, evWi s) := Lib.hid (fun s hs => hW s (List.mem_of_mem_take hs))
  have hn60 : (L.take 60).length = 60 := by simp; omega
  have hlg : (60 : Int) < (L.length : Int) := by omega
  obtain ⟨X, hX⟩ : ∃ X, X = L.take 60 := ⟨_, rfl⟩
  rw [← hX] at HA HWI hn60
  have HN60 := Lib.hid hn60
  have hnn : X.length = 60 := hn60
  have hq60 : (60 : Int) + 1 = 61 := rfl
  obtain ⟨kk, hkk⟩ : ∃ kk, kk = turn % 61 := ⟨_, rfl⟩
  have hk0 : 0 ≤ kk := by rw [hkk]; exact Int.emod_nonneg _ (by omega)
  have hk1 : kk = 60 := by rw [hkk]; exact hk
  have HP : Hid (Parts X (turnL X kk by') (-1)) := Lib.hid (by rw [turnL_no X kk by' (.inr (by have := HN60.out; omega))]; exact .same _)
  have hk2 : ¬ kk < 60 := by omega
  have hkw : -9223372036854775808 ≤ kk ∧ kk ≤ 9223372036854775807 := by omega
  have HKK := Lib.hid hkk
  clear hkk hk
  clear hk1
  have HM := Lib.hid hM
  have hw61 : IntKind.i64.wrap (60 + 1) = 61 := rfl
  have hgd := ev_guard
  have hmc1 : 1 ≤ mc := by omega
  have hlc60 : 60 ≤ lc := by omega
  clear hL hW hM hlc hmc
  clear hX hn60 hnn hq60 hlen
  go_enter Try.func4, Try.ntmps4
  go_wp2_with fail
  refine (tNew W).mono ?_
  rintro e w1 ⟨a, rfl, hta, hu1⟩
  have HTA := Lib.hid hta
  have HU1 := Lib.hid hu1
  clear hta hu1
  go_wp2_with fail
  refine (tNew w1).mono ?_
  rintro e w2 ⟨b, rfl, htb, hu2⟩
  have H2 : Hid (Two10 W w2 a b (ESince W w1) (ESince w1 w2) [] []) := Lib.hid ⟨HTA.out.upd hu2 (fun _ _ h => h), htb, fun k hk hk' => by have := hk.2; have := hk'.1; omega, fun k hk => hk.1, fun k hk => Nat.le_trans HU1.out.size hk.1, HU1.out.trans hu2 (fun _ h _ => h)⟩
  clear htb hu2
  go_wp2_with fail
  refine (known10 w2).mono ?_
  rintro e w3 ⟨rfl, hu⟩
  have H3 := Lib.hid (H2.out.quiet hu)
  clear hu
  go_wp2_with fail
  refine (hPick turn 61 w3 (by omega) (by omega)).mono ?_
  rintro e w' ⟨rfl, rfl⟩
  rw [← HKK.out]
  go_wp2_with fail
  refine (fillC (.slice la 60 lc) (-1) 0 H3.out.ta (fun w' hu => Two10.arg H3.out.up H3.out.nf HA.out hu) (by have := HN60.out; simp; omega)).mono ?_
  rintro e w4 ⟨rfl, ht, hu⟩
  rw [List.nil_append, turnL_no X (-1) 0 (.inl (by omega))] at ht
  have H4 := Lib.hid (H3.out.first ht hu)
  clear ht hu
  go_wp2_with fail
  refine (fillC (.slice la 60 lc) kk by' H4.out.tb (fun w' hu => Two10.arg H4.out.up H4.out.ng HA.out hu) (by have := HN60.out; simp; omega)).mono ?_
  rintro e w5 ⟨rfl, ht, hu⟩
  rw [List.nil_append] at ht
  have H5 := Lib.hid (H4.out.second ht hu)
  clear ht hu
  go_wp2_with fail
  refine (tSame H5.out.ta.lst H5.out.tb.lst HP.out).mono ?_
  rintro e w6 ⟨rfl, hu⟩
  have H6 := Lib.hid (H5.out.quiet hu)
  clear hu
  go_wp2_with fail
  refine (tAll H6.out.ta (by have := HN60.out; omega)).mono ?_
  rintro e w7 ⟨r, rfl, hr, hu, -⟩
  have H7 := Lib.hid (H6.out.quiet hu)
  obtain ⟨ra, rc, rfl, -, hrc⟩ := hr.slice
  have HR7 := Lib.hid hr
  clear hu hr hrc
  have HLEN := Lib.hid (tLen H7.out.ta)
  rw [HN60.out] at HLEN HR7
  have HXL := Lib.hid HN60.out
  rw [HN60.out]
  go_wp2_with fail
  refine HLEN.out.mono ?_
  rintro e w' ⟨rfl, rfl⟩
  have HR0 : Hid (Evs w7 (.slice ra 60 rc) X) := HR7
  go_wp2_with fail
  go_loopw [16] (fun i wr => ∃ k : Nat, k ≤ 60 ∧ i = .int .i64 k ∧ Hid (Two10 W wr a b (EMore (ESince W w1) w3 w4) (EMore (ESince w1 w2) w4 w5) X (turnL X kk by')) ∧ Hid (Upd (fun _ => False) w7 wr)) (fun i _ => 60 - (intOf i).toNat)
  case atStart => exact ⟨0, Nat.zero_le _, rfl, H7, Lib.hid (Upd.refl _ _)⟩
  case round =>
    obtain ⟨k, hk9, rfl, HH, HUU⟩ := hrel
    have hki : (0 : Int) ≤ (k : Int) := Int.natCast_nonneg _
    by_cases hlt : k < 60
    · have HLT : Hid (k < X.length) := Lib.hid (by rw [HXL.out]; exact hlt)
      obtain ⟨lg, lo, rfl, hlg1, c0, c1, c2, c3⟩ := (Two10.arg (S := fun _ => False) HH.out.up (fun _ h => h.elim) HA.out (Upd.refl _ _)).at HLT.out
      obtain ⟨rg, ro, rfl, hrg1, d0, d1, d2, d3⟩ := (HR7.out.upd HUU.out (fun _ _ h => h)).at HLT.out
      have HAT := Lib.hid (tAt HH.out.ta k HLT.out (by rw [HXL.out]; omega))
      generalize X.getD k default = s at *
      have HC : Hid (∀ w', Upd (fun _ => False) wr w' → (w'.cell? ⟨lg, lo + k * 4, none⟩ = some (.int .i64 s.what) ∧ w'.cell? ⟨lg, lo + k * 4 + 1, none⟩ = some (.int .i64 s.a) ∧ w'.cell? ⟨lg, lo + k * 4 + 2, none⟩ = some (.int .i64 s.b) ∧ w'.cell? ⟨lg, lo + k * 4 + 3, none⟩ = some (.int .i64 s.c)) ∧
          (w'.cell? ⟨rg, ro + k * 4, none⟩ = some (.int .i64 s.what) ∧ w'.cell? ⟨rg, ro + k * 4 + 1, none⟩ = some (.int .i64 s.a) ∧ w'.cell? ⟨rg, ro + k * 4 + 2, none⟩ = some (.int .i64 s.b) ∧ w'.cell? ⟨rg, ro + k * 4 + 3, none⟩ = some (.int .i64 s.c))) :=
        Lib.hid (fun w' hu => ⟨(show EvAt wr lg (lo + k * 4) s from ⟨c0, c1, c2, c3⟩).upd hu (fun h => h), (show EvAt wr rg (ro + k * 4) s from ⟨d0, d1, d2, d3⟩).upd hu (fun h => h)⟩)
      clear c0 c1 c2 c3 d0 d1 d2 d3
      unfold evV at HAT
      have hne := fun w : World => evNeq w s s
      have hqq := evEq_self s
      rw [hqq] at hne
      clear hqq
      go_wp2_with fail
      refine HAT.out.mono ?_
      rintro e w8 ⟨rfl, hu8⟩
      obtain ⟨w9, hw9⟩ : ∃ w9, w9 = w8.alloc (.cells #[.int .i64 s.what, .int .i64 s.a, .int .i64 s.b, .int .i64 s.c] 26) := ⟨_, rfl⟩
      have hu9 : Upd (fun _ => False) wr w9 := hu8.trans (by rw [hw9]; exact Upd.alloc (fun _ => False) _ _) (fun _ h _ => h)
      have hx9 : w9.heap[w8.heap.size]? = some (.cells #[.int .i64 s.what, .int .i64 s.a, .int .i64 s.b, .int .i64 s.c] 26 (0, 0)) := by rw [hw9]; exact eTop _ _ _ rfl
      obtain ⟨⟨c0, c1, c2, c3⟩, d0, d1, d2, d3⟩ := HC.out w9 hu9
      obtain ⟨e0, e1, e2, e3, -⟩ := four hx9
      have HW9 := Lib.hid hw9
      have HU9 := Lib.hid hu9
      clear hu8 hw9 hu9 hx9
      go_wp2_with fail
      rw [← HW9.out]
      go_quiet (fail)
      clear c0 c1 c2 c3 d0 d1 d2 d3 e0 e1 e2 e3 hne
      have hu10 : Upd (fun _ => False) wr (w9.drewN nq) := HU9.out.trans (T := fun _ => False) (⟨rfl, rfl, rfl, Nat.le_refl _, fun _ _ _ => rfl⟩ : Upd (fun _ => False) w9 (w9.drewN nq)) (fun _ h _ => h)
      have HH2 := Lib.hid (HH.out.quiet hu10)
      have HUU2 := Lib.hid (HUU.out.trans hu10 (fun _ h _ => h))
      clear hu10
      go_wp2_with fail
      go_roundw
      case rel => exact ⟨k + 1, by omega, by go_num, HH2, HUU2⟩
      case measure => simp [intOf]; omega
    · obtain rfl : k = 60 := by omega
      obtain ⟨m0, hm0⟩ : ∃ m0, M.take 1 = [m0] := by
        cases M with
        | nil => simp at hm
        | cons x M' => exact ⟨x, rfl⟩
      have HM1 : Hid (Evs W (.slice ma 1 mc) [m0]) := Lib.hid (by rw [← hm0]; exact HM.out.take (by omega))
      have HP2 : Hid (Parts (X ++ [m0]) (turnL X kk by') 60) := Lib.hid (HP.out.snoc m0 (by have := HXL.out; omega) _ (by have := HXL.out; omega))
      have hmi : (0 : Int) < (M.length : Int) := by omega
      clear hm0
      go_wp2_with fail
      refine (fillC (.slice ma 1 mc) (-1) 0 HH.out.ta (fun w' hu => Two10.arg HH.out.up HH.out.nf HM1.out hu) (by have := HXL.out; simp; omega)).mono ?_
      rintro e w10 ⟨rfl, ht, hu⟩
      rw [turnL_no [m0] (-1) 0 (.inl (by omega))] at ht
      have H10 := Lib.hid (HH.out.first ht hu)
      clear ht hu
      go_wp2_with fail
      refine (tSame H10.out.ta.lst H10.out.tb.lst HP2.out).mono ?_
      rintro e w11 ⟨rfl, hu⟩
      have H11 := Lib.hid (H10.out.quiet hu)
      clear hu
      go_wp2_with fail
      refine (tSame H11.out.tb.lst H11.out.ta.lst HP2.out.swap).mono ?_
      rintro e w12 ⟨rfl, hu⟩
      have H12 := Lib.hid (H11.out.quiet hu)
      clear hu
      go_wp2_with fail
      go_ret
      exact ⟨rfl, H12.out.up⟩
theorem leakTells_walk (W : World) (v u : Value) (L M : List EvM) (turn by' : Int) (same : Bool) (hL : Evs W v L) (hW : ∀ s ∈ L, evWi s) (hM : Evs W u M) (hby : -9223372036854775808 ≤ by' ∧ by' ≤ 9223372036854775807) :
    Calls Try.prog 4 #[v, u, .int .i64 turn, .int .i64 by', .bool same] W fun e w' => e = .returned (.bool true) ∧ Upd (fun _ => False) W w' := by
  rcases Nat.lt_or_ge 60 L.length with hl | hl
  · have h1 := Int.emod_lt_of_pos turn (show (0 : Int) < 61 by omega)
    rcases Nat.eq_zero_or_pos M.length with hm | hm
    · cases same with
      | true => exact tells_long_same_none W v u L M turn by' hL hW hM hby hl hm
      | false =>
        by_cases hk : turn % 61 < 60
        · by_cases hb : by' = 0
          · exact tells_long_zero_none W v u L M turn by' hL hW hM hby hl hm hk hb
          · exact tells_long_in_none W v u L M turn by' hL hW hM hby hl hm hk hb
        · exact tells_long_out_none W v u L M turn by' hL hW hM hby hl hm (by omega)
    · cases same with
      | true => exact tells_long_same_more W v u L M turn by' hL hW hM hby hl hm
      | false =>
        by_cases hk : turn % 61 < 60
        · by_cases hb : by' = 0
          · exact tells_long_zero_more W v u L M turn by' hL hW hM hby hl hm hk hb
          · exact tells_long_in_more W v u L M turn by' hL hW hM hby hl hm hk hb
        · exact tells_long_out_more W v u L M turn by' hL hW hM hby hl hm (by omega)
  · have h1 := Int.emod_lt_of_pos turn (show (0 : Int) < (L.length : Int) + 1 by omega)
    rcases Nat.eq_zero_or_pos M.length with hm | hm
    · cases same with
      | true => exact tells_short_same_none W v u L M turn by' hL hW hM hby hl hm
      | false =>
        by_cases hk : turn % ((L.length : Int) + 1) < (L.length : Int)
        · by_cases hb : by' = 0
          · exact tells_short_zero_none W v u L M turn by' hL hW hM hby hl hm hk hb
          · exact tells_short_in_none W v u L M turn by' hL hW hM hby hl hm hk hb
        · exact tells_short_out_none W v u L M turn by' hL hW hM hby hl hm (by omega)
    · cases same with
      | true => exact tells_short_same_more W v u L M turn by' hL hW hM hby hl hm
      | false =>
        by_cases hk : turn % ((L.length : Int) + 1) < (L.length : Int)
        · by_cases hb : by' = 0
          · exact tells_short_zero_more W v u L M turn by' hL hW hM hby hl hm hk hb
          · exact tells_short_in_more W v u L M turn by' hL hW hM hby hl hm hk hb
        · exact tells_short_out_more W v u L M turn by' hL hW hM hby hl hm (by omega)
theorem leakTells_below (W : World) (v u : Value) (L M : List EvM) (turn by' : Int) (same : Bool) (hL : Evs W v L) (hW : ∀ s ∈ L, evWi s) (hM : Evs W u M) (hby : -9223372036854775808 ≤ by' ∧ by' ≤ 9223372036854775807) :
    Calls Try.prog 4 #[v, u, .int .i64 turn, .int .i64 by', .bool same] W fun e w' => e = .returned (.bool true) ∧ Below W.heap.size W w' :=
  (leakTells_walk W v u L M turn by' same hL hW hM hby).mono fun _ _ h => ⟨h.1, h.2.below (Nat.le_refl _) (fun _ h => h.elim)⟩

end Go.Proofs.Ytklokkbgjpfogaa

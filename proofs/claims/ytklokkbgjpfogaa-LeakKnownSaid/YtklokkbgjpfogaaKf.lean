/- Package leak: LeakKnown. -/
import Derived.Test.YtklokkbgjpfogaaKd
namespace Go.Proofs.Ytklokkbgjpfogaa
open Go.RowKit Go.Lib Go.ChangeShapes Go.WideShapes Go.Deep
set_option linter.unusedVariables false
set_option linter.unusedSimpArgs false

set_option maxHeartbeats 2000000 in
theorem leakKnown_walk (w : World) : Calls Try.prog 3 #[] w fun e w' => e = .returned (.bool true) ∧ Upd (fun _ => False) w w' := by
  have hgd := ev_guard
  go_enter Try.func3, Try.ntmps3
  go_wp2_with fail
  refine (of_lit w [1, 2, 3] 3 _ rfl rfl (by decide)).mono ?_
  rintro e w1 ⟨a, rfl, hta, hua⟩
  have HA1 : Hid (Trc (ESince w w1) w1 a e3) := Lib.hid hta
  have HU1 := Lib.hid hua
  clear hta hua
  go_wp2_with fail
  refine (known10 w1).mono ?_
  rintro e w2 ⟨rfl, hu⟩
  have HA2 := Lib.hid (HA1.out.upd hu (fun _ _ h => h))
  have HU2 := Lib.hid (HU1.out.trans hu (fun _ h _ => h))
  clear hu
  go_wp2_with fail
  refine (show Calls Try.prog 8 #[.pointer (some ⟨a, 0, none⟩), .int .i64 1] w2 fun e w' => e = .returned (.tuple #[.agg #[.int .i64 1, .int .i64 2, .int .i64 0, .int .i64 0], .bool true]) ∧ Upd (fun _ => False) w2 w' from tAt HA2.out 1 (by decide) (by decide)).mono ?_
  rintro e w3 ⟨rfl, hu⟩
  have HA3 := Lib.hid (HA2.out.upd hu (fun _ _ h => h))
  have HU3 := Lib.hid (HU2.out.trans hu (fun _ h _ => h))
  clear hu
  obtain ⟨w4, hw4⟩ : ∃ w4, w4 = w3.alloc (.cells #[.int .i64 1, .int .i64 2, .int .i64 0, .int .i64 0] 26) := ⟨_, rfl⟩
  have hu4 : Upd (fun _ => False) w3 w4 := by rw [hw4]; exact Upd.alloc _ _ _
  have HX4 : Hid (w4.heap[w3.heap.size]? = some (.cells #[.int .i64 1, .int .i64 2, .int .i64 0, .int .i64 0] 26 (0, 0))) := Lib.hid (by rw [hw4]; exact eTop _ _ _ rfl)
  have HNF : Hid (¬ ESince w w1 w3.heap.size) := Lib.hid (fun h => by have := HA3.out.lt _ h; omega)
  have HA4 := Lib.hid (HA3.out.upd hu4 (fun _ _ h => h))
  have HU4 := Lib.hid (HU3.out.trans hu4 (fun _ h _ => h))
  have HW4 := Lib.hid hw4
  clear hu4 hw4
  go_wp2_with fail
  rw [← HW4.out]
  refine (show Calls Try.prog 8 #[.pointer (some ⟨a, 0, none⟩), .int .i64 3] w4 fun e w' => e = .returned (.tuple #[.agg #[.int .i64 0, .int .i64 0, .int .i64 0, .int .i64 0], .bool false]) ∧ Upd (fun _ => False) w4 w' from tAt_no HA4.out 3 (.inr (by decide))).mono ?_
  rintro e w5 ⟨rfl, hu⟩
  obtain ⟨w6, hw6⟩ : ∃ w6, w6 = w5.alloc (.cells #[.int .i64 0, .int .i64 0, .int .i64 0, .int .i64 0] 26) := ⟨_, rfl⟩
  have hu6 : Upd (fun _ => False) w4 w6 := hu.trans (by rw [hw6]; exact Upd.alloc (fun _ => False) _ _) (fun _ h _ => h)
  have HX6 := Lib.hid (hpBlk hu6 HX4.out (fun h => h))
  have HA6 := Lib.hid (HA4.out.upd hu6 (fun _ _ h => h))
  have HU6 := Lib.hid (HU4.out.trans hu6 (fun _ h _ => h))
  have HW6 := Lib.hid hw6
  clear hu6 hw6 hu
  go_wp2_with fail
  rw [← HW6.out]
  refine (show Calls Try.prog 9 #[.pointer (some ⟨a, 0, none⟩)] w6 fun e w' => e = .returned (.int .i64 3) ∧ w6 = w' from tLen HA6.out).mono ?_
  rintro e w' ⟨rfl, rfl⟩
  go_wp2_with fail
  refine (of_lit w6 [1, 2] 2 _ rfl rfl (by decide)).mono ?_
  rintro e w7 ⟨b, rfl, htb, hu⟩
  have HB7 : Hid (Trc (ESince w6 w7) w7 b e2) := Lib.hid htb
  have HX7 := Lib.hid (hpBlk hu HX6.out (fun h => h))
  have HA7 := Lib.hid (HA6.out.upd hu (fun _ _ h => h))
  have HU7 := Lib.hid (HU6.out.trans hu (fun _ h _ => h))
  clear htb hu
  go_wp2_with fail
  refine (tSame HA7.out.lst HB7.out.lst parts32).mono ?_
  rintro e w8 ⟨rfl, hu⟩
  have HX8 := Lib.hid (hpBlk hu HX7.out (fun h => h))
  have HA8 := Lib.hid (HA7.out.upd hu (fun _ _ h => h))
  have HU8 := Lib.hid (HU7.out.trans hu (fun _ h _ => h))
  clear hu
  go_wp2_with fail
  refine (tSame (Lst.none w8) (Lst.none w8) (Parts.same _)).mono ?_
  rintro e w9 ⟨rfl, hu⟩
  have HX9 := Lib.hid (hpBlk hu HX8.out (fun h => h))
  have HA9 := Lib.hid (HA8.out.upd hu (fun _ _ h => h))
  have HU9 := Lib.hid (HU8.out.trans hu (fun _ h _ => h))
  clear hu
  go_wp2_with fail
  refine (tSame HA9.out.lst (Lst.none w9) parts30).mono ?_
  rintro e w10 ⟨rfl, hu⟩
  have HX10 := Lib.hid (hpBlk hu HX9.out (fun h => h))
  have HA10 := Lib.hid (HA9.out.upd hu (fun _ _ h => h))
  have HU10 := Lib.hid (HU9.out.trans hu (fun _ h _ => h))
  clear hu
  go_wp2_with fail
  refine (tClear HA10.out).mono ?_
  rintro e w11 ⟨rfl, hta, hu⟩
  have HA11 := Lib.hid hta
  have hx := hpBlk hu HX10.out HNF.out
  have HU11 : Hid (Upd (fun _ => False) w w11) := Lib.hid (HU10.out.trans hu (fun i hi hl => by have := hi.1; omega))
  obtain ⟨c0, c1, c2, c3, -⟩ := four hx
  have hee := fun w : World => evEql w ⟨1, 2, 0, 0⟩ ⟨1, 2, 0, 0⟩
  have hq : evEq ⟨1, 2, 0, 0⟩ ⟨1, 2, 0, 0⟩ = true := rfl
  rw [hq] at hee
  clear hta hu hx hq
  go_wp2_with fail
  refine (show Calls Try.prog 9 #[.pointer (some ⟨a, 0, none⟩)] w11 fun e w' => e = .returned (.int .i64 0) ∧ w11 = w' from tLen HA11.out).mono ?_
  rintro e w' ⟨rfl, rfl⟩
  go_wp2_with fail
  refine (tAll HA11.out (by simp)).mono ?_
  rintro e w12 ⟨r, rfl, hr, hu, -⟩
  have HA12 := Lib.hid (HA11.out.upd hu (fun _ _ h => h))
  have HU12 := Lib.hid (HU11.out.trans hu (fun _ h _ => h))
  obtain ⟨ra, rc, hre, -, -⟩ := hr.slice
  replace hre : r = .slice ra 0 rc := hre
  subst hre
  clear hu hr
  go_wp2_with fail
  refine (tSame HA12.out.lst (Lst.none w12) (Parts.same _)).mono ?_
  rintro e w13 ⟨rfl, hu⟩
  have HU13 := Lib.hid (HU12.out.trans hu (fun _ h _ => h))
  clear hu
  go_wp2_with fail
  go_ret
  exact ⟨rfl, HU13.out⟩
theorem leakKnown_below (w : World) : Calls Try.prog 3 #[] w fun e w' => e = .returned (.bool true) ∧ Below w.heap.size w w' := (leakKnown_walk w).mono fun _ _ h => ⟨h.1, h.2.below (Nat.le_refl _) (fun _ h => h.elim)⟩
end Go.Proofs.Ytklokkbgjpfogaa

/- Several texts in one. -/
import Derived.Test.YtibmgmgkaacibaaEl
import Derived.Test.YtibmgmgkaacibaaKEh
import Derived.Test.YtibmgmgkaacibaaEj
/- Package chip: what an instruction does, plainly. -/
namespace Go.Proofs.Ytibmgmgkaacibaa
open Go.RowKit Go.ChangeShapes Go.WideShapes Go.Deep Go.IntWalk
set_option linter.unusedVariables false
set_option linter.unusedSimpArgs false
abbrev sumX (x : Ch) (l r k : Nat) : Ch := { x with cf := sumC l r k, vf := sumV l r k }
theorem nat_xor_ones (r n : Nat) (h : r < 2 ^ n) : r ^^^ (2 ^ n - 1) = 2 ^ n - 1 - r := by
  apply Nat.eq_of_testBit_eq
  intro j
  rw [Nat.testBit_xor, Nat.testBit_two_pow_sub_one, show 2 ^ n - 1 - r = 2 ^ n - (r + 1) by omega, Nat.testBit_two_pow_sub_succ h]
  by_cases hj : j < n
  · simp [hj]
  · have : r.testBit j = false := Nat.testBit_lt_two_pow (Nat.lt_of_lt_of_le h (Nat.pow_le_pow_right (by decide) (by omega)))
    simp [hj, this]
theorem notX (r q : Nat) (hr : r < 4294967296) (hq : 4294967295 - r = q) : bits .xor .u32 IntKind.u32.max (r : Int) = ((q : Nat) : Int) := by
  have := u32_xor_nat 4294967295 r (by omega) hr
  rw [show IntKind.u32.max = ((4294967295 : Nat) : Int) from rfl, this, ← hq]
  congr 1
  have h2 : r < 2 ^ 32 := hr
  rw [show (4294967295 : Nat) = 2 ^ 32 - 1 from rfl, Nat.xor_comm]
  exact nat_xor_ones r 32 h2
theorem mulX (l r : Nat) : ((l : Int) * (r : Int)) % 4294967296 = ((l * r % 4294967296 : Nat) : Int) := by simp
end Go.Proofs.Ytibmgmgkaacibaa
/- Package chip: what comes out of an instruction (sums, logic). -/
namespace Go.Proofs.Ytibmgmgkaacibaa
open Go.RowKit Go.ChangeShapes Go.WideShapes Go.Deep Go.IntWalk
set_option linter.unusedVariables false
set_option linter.unusedSimpArgs false
section
variable {w w' : World} {b bm g : Nat} {x : Ch} {i : I6} {t_ c : Int} {M : Nat → Nat}
set_option maxRecDepth 20000 in
set_option maxHeartbeats 1000000 in
theorem ans4 (h : Stp w b bm g i x t_ c M) (hop : i.op = 4) (l r pc : Nat) (hl : l < 4294967296) (hr : r < 4294967296) (hpc : pc < 4294967296) : Calls Try.prog 49 #[.pointer (some ⟨b, 0, none⟩), .int .u32 (l : Int), .int .u32 (r : Int), .int .u32 (pc : Int)] w fun e w' => e = .returned (.int .u32 ((sumN l r 0 : Nat) : Int)) ∧ Stp w' b bm g i (sumX x l r 0) t_ c M ∧ Upd (BG b g) w w' := by
  have c24 := h.sp.c24
  rw [hop] at c24
  have H := Lib.hid h
  clear h hop
  go_enter Try.func49, Try.ntmps49
  go_wp2_with fail
  refine (sSum H.out.sp l r 0 hl hr (by decide)).mono ?_
  rintro e w1 ⟨rfl, hs, hu⟩
  have HS := Lib.hid (H.out.box hs hu)
  have HU := Lib.hid (bg_b (g := g) hu)
  clear hs hu
  go_wp2_with fail
  go_ret
  exact ⟨rfl, HS.out, HU.out⟩
set_option maxRecDepth 20000 in
set_option maxHeartbeats 1000000 in
theorem ans6 (h : Stp w b bm g i x t_ c M) (hop : i.op = 6) (l r pc : Nat) (hl : l < 4294967296) (hr : r < 4294967296) (hpc : pc < 4294967296) : Calls Try.prog 49 #[.pointer (some ⟨b, 0, none⟩), .int .u32 (l : Int), .int .u32 (r : Int), .int .u32 (pc : Int)] w fun e w' => e = .returned (.int .u32 ((sumN l r 0 : Nat) : Int)) ∧ Stp w' b bm g i (sumX x l r 0) t_ c M ∧ Upd (BG b g) w w' := by
  have c24 := h.sp.c24
  rw [hop] at c24
  have H := Lib.hid h
  clear h hop
  go_enter Try.func49, Try.ntmps49
  go_wp2_with fail
  refine (sSum H.out.sp l r 0 hl hr (by decide)).mono ?_
  rintro e w1 ⟨rfl, hs, hu⟩
  have HS := Lib.hid (H.out.box hs hu)
  have HU := Lib.hid (bg_b (g := g) hu)
  clear hs hu
  go_wp2_with fail
  go_ret
  exact ⟨rfl, HS.out, HU.out⟩
set_option maxRecDepth 20000 in
set_option maxHeartbeats 1000000 in
theorem ans10 (h : Stp w b bm g i x t_ c M) (hop : i.op = 10) (l r pc : Nat) (hl : l < 4294967296) (hr : r < 4294967296) (hpc : pc < 4294967296) : Calls Try.prog 49 #[.pointer (some ⟨b, 0, none⟩), .int .u32 (l : Int), .int .u32 (r : Int), .int .u32 (pc : Int)] w fun e w' => e = .returned (.int .u32 ((sumN l r 0 : Nat) : Int)) ∧ Stp w' b bm g i (sumX x l r 0) t_ c M ∧ Upd (BG b g) w w' := by
  have c24 := h.sp.c24
  rw [hop] at c24
  have H := Lib.hid h
  clear h hop
  go_enter Try.func49, Try.ntmps49
  go_wp2_with fail
  refine (sSum H.out.sp l r 0 hl hr (by decide)).mono ?_
  rintro e w1 ⟨rfl, hs, hu⟩
  have HS := Lib.hid (H.out.box hs hu)
  have HU := Lib.hid (bg_b (g := g) hu)
  clear hs hu
  go_wp2_with fail
  go_ret
  exact ⟨rfl, HS.out, HU.out⟩
set_option maxRecDepth 20000 in
set_option maxHeartbeats 1000000 in
theorem ans23 (h : Stp w b bm g i x t_ c M) (hop : i.op = 23) (l r pc : Nat) (hl : l < 4294967296) (hr : r < 4294967296) (hpc : pc < 4294967296) : Calls Try.prog 49 #[.pointer (some ⟨b, 0, none⟩), .int .u32 (l : Int), .int .u32 (r : Int), .int .u32 (pc : Int)] w fun e w' => e = .returned (.int .u32 ((sumN l r 0 : Nat) : Int)) ∧ Stp w' b bm g i (sumX x l r 0) t_ c M ∧ Upd (BG b g) w w' := by
  have c24 := h.sp.c24
  rw [hop] at c24
  have H := Lib.hid h
  clear h hop
  go_enter Try.func49, Try.ntmps49
  go_wp2_with fail
  refine (sSum H.out.sp l r 0 hl hr (by decide)).mono ?_
  rintro e w1 ⟨rfl, hs, hu⟩
  have HS := Lib.hid (H.out.box hs hu)
  have HU := Lib.hid (bg_b (g := g) hu)
  clear hs hu
  go_wp2_with fail
  go_ret
  exact ⟨rfl, HS.out, HU.out⟩
set_option maxRecDepth 20000 in
set_option maxHeartbeats 1000000 in
theorem ans5 (h : Stp w b bm g i x t_ c M) (hop : i.op = 5) (l r pc : Nat) (hl : l < 4294967296) (hr : r < 4294967296) (hpc : pc < 4294967296) : Calls Try.prog 49 #[.pointer (some ⟨b, 0, none⟩), .int .u32 (l : Int), .int .u32 (r : Int), .int .u32 (pc : Int)] w fun e w' => e = .returned (.int .u32 ((sumN l (4294967295 - r) 1 : Nat) : Int)) ∧ Stp w' b bm g i (sumX x l (4294967295 - r) 1) t_ c M ∧ Upd (BG b g) w w' := by
  have c24 := h.sp.c24
  rw [hop] at c24
  have H := Lib.hid h
  obtain ⟨q, hq⟩ : ∃ q, 4294967295 - r = q := ⟨_, rfl⟩
  have HX := Lib.hid (notX r q hr hq)
  have hql : q < 4294967296 := by omega
  rw [hq]
  clear hq
  clear h hop
  go_enter Try.func49, Try.ntmps49
  go_wp2_with fail
  rw [HX.out]
  refine (sSum H.out.sp l q 1 hl (by omega) (by decide)).mono ?_
  rintro e w1 ⟨rfl, hs, hu⟩
  have HS := Lib.hid (H.out.box hs hu)
  have HU := Lib.hid (bg_b (g := g) hu)
  clear hs hu
  go_wp2_with fail
  go_ret
  exact ⟨rfl, HS.out, HU.out⟩
set_option maxRecDepth 20000 in
set_option maxHeartbeats 1000000 in
theorem ans7 (h : Stp w b bm g i x t_ c M) (hop : i.op = 7) (l r pc : Nat) (hl : l < 4294967296) (hr : r < 4294967296) (hpc : pc < 4294967296) : Calls Try.prog 49 #[.pointer (some ⟨b, 0, none⟩), .int .u32 (l : Int), .int .u32 (r : Int), .int .u32 (pc : Int)] w fun e w' => e = .returned (.int .u32 ((sumN l (4294967295 - r) 1 : Nat) : Int)) ∧ Stp w' b bm g i (sumX x l (4294967295 - r) 1) t_ c M ∧ Upd (BG b g) w w' := by
  have c24 := h.sp.c24
  rw [hop] at c24
  have H := Lib.hid h
  obtain ⟨q, hq⟩ : ∃ q, 4294967295 - r = q := ⟨_, rfl⟩
  have HX := Lib.hid (notX r q hr hq)
  have hql : q < 4294967296 := by omega
  rw [hq]
  clear hq
  clear h hop
  go_enter Try.func49, Try.ntmps49
  go_wp2_with fail
  rw [HX.out]
  refine (sSum H.out.sp l q 1 hl (by omega) (by decide)).mono ?_
  rintro e w1 ⟨rfl, hs, hu⟩
  have HS := Lib.hid (H.out.box hs hu)
  have HU := Lib.hid (bg_b (g := g) hu)
  clear hs hu
  go_wp2_with fail
  go_ret
  exact ⟨rfl, HS.out, HU.out⟩
set_option maxRecDepth 20000 in
set_option maxHeartbeats 1000000 in
theorem ans11 (h : Stp w b bm g i x t_ c M) (hop : i.op = 11) (l r pc : Nat) (hl : l < 4294967296) (hr : r < 4294967296) (hpc : pc < 4294967296) : Calls Try.prog 49 #[.pointer (some ⟨b, 0, none⟩), .int .u32 (l : Int), .int .u32 (r : Int), .int .u32 (pc : Int)] w fun e w' => e = .returned (.int .u32 ((sumN l (4294967295 - r) 1 : Nat) : Int)) ∧ Stp w' b bm g i (sumX x l (4294967295 - r) 1) t_ c M ∧ Upd (BG b g) w w' := by
  have c24 := h.sp.c24
  rw [hop] at c24
  have H := Lib.hid h
  obtain ⟨q, hq⟩ : ∃ q, 4294967295 - r = q := ⟨_, rfl⟩
  have HX := Lib.hid (notX r q hr hq)
  have hql : q < 4294967296 := by omega
  rw [hq]
  clear hq
  clear h hop
  go_enter Try.func49, Try.ntmps49
  go_wp2_with fail
  rw [HX.out]
  refine (sSum H.out.sp l q 1 hl (by omega) (by decide)).mono ?_
  rintro e w1 ⟨rfl, hs, hu⟩
  have HS := Lib.hid (H.out.box hs hu)
  have HU := Lib.hid (bg_b (g := g) hu)
  clear hs hu
  go_wp2_with fail
  go_ret
  exact ⟨rfl, HS.out, HU.out⟩
set_option maxRecDepth 20000 in
set_option maxHeartbeats 1000000 in
theorem ans9 (h : Stp w b bm g i x t_ c M) (hop : i.op = 9) (l r pc : Nat) (hl : l < 4294967296) (hr : r < 4294967296) (hpc : pc < 4294967296) : Calls Try.prog 49 #[.pointer (some ⟨b, 0, none⟩), .int .u32 (l : Int), .int .u32 (r : Int), .int .u32 (pc : Int)] w fun e w' => e = .returned (.int .u32 ((sumN l (4294967295 - r) 1 : Nat) : Int)) ∧ Stp w' b bm g i (sumX x l (4294967295 - r) 1) t_ c M ∧ Upd (BG b g) w w' := by
  have c24 := h.sp.c24
  rw [hop] at c24
  have H := Lib.hid h
  obtain ⟨q, hq⟩ : ∃ q, 4294967295 - r = q := ⟨_, rfl⟩
  have HX := Lib.hid (notX r q hr hq)
  have hql : q < 4294967296 := by omega
  rw [hq]
  clear hq
  clear h hop
  go_enter Try.func49, Try.ntmps49
  go_wp2_with fail
  rw [HX.out]
  refine (sSum H.out.sp l q 1 hl (by omega) (by decide)).mono ?_
  rintro e w1 ⟨rfl, hs, hu⟩
  have HS := Lib.hid (H.out.box hs hu)
  have HU := Lib.hid (bg_b (g := g) hu)
  clear hs hu
  go_wp2_with fail
  go_ret
  exact ⟨rfl, HS.out, HU.out⟩
set_option maxRecDepth 20000 in
set_option maxHeartbeats 1000000 in
theorem ans22 (h : Stp w b bm g i x t_ c M) (hop : i.op = 22) (l r pc : Nat) (hl : l < 4294967296) (hr : r < 4294967296) (hpc : pc < 4294967296) : Calls Try.prog 49 #[.pointer (some ⟨b, 0, none⟩), .int .u32 (l : Int), .int .u32 (r : Int), .int .u32 (pc : Int)] w fun e w' => e = .returned (.int .u32 ((sumN l (4294967295 - r) 1 : Nat) : Int)) ∧ Stp w' b bm g i (sumX x l (4294967295 - r) 1) t_ c M ∧ Upd (BG b g) w w' := by
  have c24 := h.sp.c24
  rw [hop] at c24
  have H := Lib.hid h
  obtain ⟨q, hq⟩ : ∃ q, 4294967295 - r = q := ⟨_, rfl⟩
  have HX := Lib.hid (notX r q hr hq)
  have hql : q < 4294967296 := by omega
  rw [hq]
  clear hq
  clear h hop
  go_enter Try.func49, Try.ntmps49
  go_wp2_with fail
  rw [HX.out]
  refine (sSum H.out.sp l q 1 hl (by omega) (by decide)).mono ?_
  rintro e w1 ⟨rfl, hs, hu⟩
  have HS := Lib.hid (H.out.box hs hu)
  have HU := Lib.hid (bg_b (g := g) hu)
  clear hs hu
  go_wp2_with fail
  go_ret
  exact ⟨rfl, HS.out, HU.out⟩
set_option maxRecDepth 20000 in
set_option maxHeartbeats 1000000 in
theorem ans21 (h : Stp w b bm g i x t_ c M) (hop : i.op = 21) (l r pc : Nat) (hl : l < 4294967296) (hr : r < 4294967296) (hpc : pc < 4294967296) : Calls Try.prog 49 #[.pointer (some ⟨b, 0, none⟩), .int .u32 (l : Int), .int .u32 (r : Int), .int .u32 (pc : Int)] w fun e w' => e = .returned (.int .u32 ((sumN l (4294967295 - r) 1 : Nat) : Int)) ∧ Stp w' b bm g i (sumX x l (4294967295 - r) 1) t_ c M ∧ Upd (BG b g) w w' := by
  have c24 := h.sp.c24
  rw [hop] at c24
  have H := Lib.hid h
  obtain ⟨q, hq⟩ : ∃ q, 4294967295 - r = q := ⟨_, rfl⟩
  have HX := Lib.hid (notX r q hr hq)
  have hql : q < 4294967296 := by omega
  rw [hq]
  clear hq
  clear h hop
  go_enter Try.func49, Try.ntmps49
  go_wp2_with fail
  rw [HX.out]
  refine (sSum H.out.sp l q 1 hl (by omega) (by decide)).mono ?_
  rintro e w1 ⟨rfl, hs, hu⟩
  have HS := Lib.hid (H.out.box hs hu)
  have HU := Lib.hid (bg_b (g := g) hu)
  clear hs hu
  go_wp2_with fail
  go_ret
  exact ⟨rfl, HS.out, HU.out⟩
set_option maxRecDepth 20000 in
set_option maxHeartbeats 1000000 in
theorem ans17 (h : Stp w b bm g i x t_ c M) (hop : i.op = 17) (l r pc : Nat) (hl : l < 4294967296) (hr : r < 4294967296) (hpc : pc < 4294967296) : Calls Try.prog 49 #[.pointer (some ⟨b, 0, none⟩), .int .u32 (l : Int), .int .u32 (r : Int), .int .u32 (pc : Int)] w fun e w' => e = .returned (.int .u32 ((sumN l r x.cf.toNat : Nat) : Int)) ∧ Stp w' b bm g i (sumX x l r x.cf.toNat) t_ c M ∧ Upd (BG b g) w w' := by
  have c24 := h.sp.c24
  rw [hop] at c24
  have H := Lib.hid h
  have hcf : x.cf.toNat < 2 := by cases x.cf <;> decide
  clear h hop
  go_enter Try.func49, Try.ntmps49
  go_wp2_with fail
  refine (sCarry H.out.sp).mono ?_
  rintro e w1 ⟨rfl, rfl⟩
  go_wp2_with fail
  refine (sSum H.out.sp l r x.cf.toNat hl hr hcf).mono ?_
  rintro e w1 ⟨rfl, hs, hu⟩
  have HS := Lib.hid (H.out.box hs hu)
  have HU := Lib.hid (bg_b (g := g) hu)
  clear hs hu
  go_wp2_with fail
  go_ret
  exact ⟨rfl, HS.out, HU.out⟩
set_option maxRecDepth 20000 in
set_option maxHeartbeats 1000000 in
theorem ans18 (h : Stp w b bm g i x t_ c M) (hop : i.op = 18) (l r pc : Nat) (hl : l < 4294967296) (hr : r < 4294967296) (hpc : pc < 4294967296) : Calls Try.prog 49 #[.pointer (some ⟨b, 0, none⟩), .int .u32 (l : Int), .int .u32 (r : Int), .int .u32 (pc : Int)] w fun e w' => e = .returned (.int .u32 ((sumN l (4294967295 - r) x.cf.toNat : Nat) : Int)) ∧ Stp w' b bm g i (sumX x l (4294967295 - r) x.cf.toNat) t_ c M ∧ Upd (BG b g) w w' := by
  have c24 := h.sp.c24
  rw [hop] at c24
  have H := Lib.hid h
  have hcf : x.cf.toNat < 2 := by cases x.cf <;> decide
  obtain ⟨q, hq⟩ : ∃ q, 4294967295 - r = q := ⟨_, rfl⟩
  have HX := Lib.hid (notX r q hr hq)
  have hql : q < 4294967296 := by omega
  rw [hq]
  clear h hop hq
  go_enter Try.func49, Try.ntmps49
  go_wp2_with fail
  refine (sCarry H.out.sp).mono ?_
  rintro e w1 ⟨rfl, rfl⟩
  go_wp2_with fail
  rw [HX.out]
  refine (sSum H.out.sp l q x.cf.toNat hl hql hcf).mono ?_
  rintro e w1 ⟨rfl, hs, hu⟩
  have HS := Lib.hid (H.out.box hs hu)
  have HU := Lib.hid (bg_b (g := g) hu)
  clear hs hu
  go_wp2_with fail
  go_ret
  exact ⟨rfl, HS.out, HU.out⟩
set_option maxRecDepth 20000 in
set_option maxHeartbeats 1000000 in
theorem ans12 (h : Stp w b bm g i x t_ c M) (hop : i.op = 12) (l r pc : Nat) (hl : l < 4294967296) (hr : r < 4294967296) (hpc : pc < 4294967296) : Calls Try.prog 49 #[.pointer (some ⟨b, 0, none⟩), .int .u32 (l : Int), .int .u32 (r : Int), .int .u32 (pc : Int)] w fun e w' => e = .returned (.int .u32 ((l &&& r : Nat) : Int)) ∧ Stp w' b bm g i x t_ c M ∧ Upd (BG b g) w w' := by
  have c24 := h.sp.c24
  rw [hop] at c24
  have H := Lib.hid h
  have HX := Lib.hid (u32_and_nat l r hl hr)
  clear h hop
  go_enter Try.func49, Try.ntmps49
  go_wp2_with fail
  go_ret
  rw [HX.out]
  exact ⟨rfl, H.out, Upd.refl _ _⟩
set_option maxRecDepth 20000 in
set_option maxHeartbeats 1000000 in
theorem ans20 (h : Stp w b bm g i x t_ c M) (hop : i.op = 20) (l r pc : Nat) (hl : l < 4294967296) (hr : r < 4294967296) (hpc : pc < 4294967296) : Calls Try.prog 49 #[.pointer (some ⟨b, 0, none⟩), .int .u32 (l : Int), .int .u32 (r : Int), .int .u32 (pc : Int)] w fun e w' => e = .returned (.int .u32 ((l &&& r : Nat) : Int)) ∧ Stp w' b bm g i x t_ c M ∧ Upd (BG b g) w w' := by
  have c24 := h.sp.c24
  rw [hop] at c24
  have H := Lib.hid h
  have HX := Lib.hid (u32_and_nat l r hl hr)
  clear h hop
  go_enter Try.func49, Try.ntmps49
  go_wp2_with fail
  go_ret
  rw [HX.out]
  exact ⟨rfl, H.out, Upd.refl _ _⟩
set_option maxRecDepth 20000 in
set_option maxHeartbeats 1000000 in
theorem ans13 (h : Stp w b bm g i x t_ c M) (hop : i.op = 13) (l r pc : Nat) (hl : l < 4294967296) (hr : r < 4294967296) (hpc : pc < 4294967296) : Calls Try.prog 49 #[.pointer (some ⟨b, 0, none⟩), .int .u32 (l : Int), .int .u32 (r : Int), .int .u32 (pc : Int)] w fun e w' => e = .returned (.int .u32 ((l ^^^ r : Nat) : Int)) ∧ Stp w' b bm g i x t_ c M ∧ Upd (BG b g) w w' := by
  have c24 := h.sp.c24
  rw [hop] at c24
  have H := Lib.hid h
  have HX := Lib.hid (u32_xor_nat l r hl hr)
  clear h hop
  go_enter Try.func49, Try.ntmps49
  go_wp2_with fail
  go_ret
  rw [HX.out]
  exact ⟨rfl, H.out, Upd.refl _ _⟩
set_option maxRecDepth 20000 in
set_option maxHeartbeats 1000000 in
theorem ans24 (h : Stp w b bm g i x t_ c M) (hop : i.op = 24) (l r pc : Nat) (hl : l < 4294967296) (hr : r < 4294967296) (hpc : pc < 4294967296) : Calls Try.prog 49 #[.pointer (some ⟨b, 0, none⟩), .int .u32 (l : Int), .int .u32 (r : Int), .int .u32 (pc : Int)] w fun e w' => e = .returned (.int .u32 ((l ||| r : Nat) : Int)) ∧ Stp w' b bm g i x t_ c M ∧ Upd (BG b g) w w' := by
  have c24 := h.sp.c24
  rw [hop] at c24
  have H := Lib.hid h
  have HX := Lib.hid (u32_or_nat l r hl hr)
  clear h hop
  go_enter Try.func49, Try.ntmps49
  go_wp2_with fail
  go_ret
  rw [HX.out]
  exact ⟨rfl, H.out, Upd.refl _ _⟩
set_option maxRecDepth 20000 in
set_option maxHeartbeats 1000000 in
theorem ans26 (h : Stp w b bm g i x t_ c M) (hop : i.op = 26) (l r pc : Nat) (hl : l < 4294967296) (hr : r < 4294967296) (hpc : pc < 4294967296) : Calls Try.prog 49 #[.pointer (some ⟨b, 0, none⟩), .int .u32 (l : Int), .int .u32 (r : Int), .int .u32 (pc : Int)] w fun e w' => e = .returned (.int .u32 ((l &&& (4294967295 - r) : Nat) : Int)) ∧ Stp w' b bm g i x t_ c M ∧ Upd (BG b g) w w' := by
  have c24 := h.sp.c24
  rw [hop] at c24
  have H := Lib.hid h
  have HX := Lib.hid (u32_andNot_nat l r hl hr)
  clear h hop
  go_enter Try.func49, Try.ntmps49
  go_wp2_with fail
  go_ret
  rw [HX.out]
  exact ⟨rfl, H.out, Upd.refl _ _⟩
set_option maxRecDepth 20000 in
set_option maxHeartbeats 1000000 in
theorem ans27 (h : Stp w b bm g i x t_ c M) (hop : i.op = 27) (l r pc : Nat) (hl : l < 4294967296) (hr : r < 4294967296) (hpc : pc < 4294967296) : Calls Try.prog 49 #[.pointer (some ⟨b, 0, none⟩), .int .u32 (l : Int), .int .u32 (r : Int), .int .u32 (pc : Int)] w fun e w' => e = .returned (.int .u32 ((4294967295 - r : Nat) : Int)) ∧ Stp w' b bm g i x t_ c M ∧ Upd (BG b g) w w' := by
  have c24 := h.sp.c24
  rw [hop] at c24
  have H := Lib.hid h
  have HX := Lib.hid (notX r _ hr rfl)
  clear h hop
  go_enter Try.func49, Try.ntmps49
  go_wp2_with fail
  go_ret
  rw [HX.out]
  exact ⟨rfl, H.out, Upd.refl _ _⟩
set_option maxRecDepth 20000 in
set_option maxHeartbeats 1000000 in
theorem ans25 (h : Stp w b bm g i x t_ c M) (hop : i.op = 25) (l r pc : Nat) (hl : l < 4294967296) (hr : r < 4294967296) (hpc : pc < 4294967296) : Calls Try.prog 49 #[.pointer (some ⟨b, 0, none⟩), .int .u32 (l : Int), .int .u32 (r : Int), .int .u32 (pc : Int)] w fun e w' => e = .returned (.int .u32 ((l * r % 4294967296 : Nat) : Int)) ∧ Stp w' b bm g i x t_ c M ∧ Upd (BG b g) w w' := by
  have c24 := h.sp.c24
  rw [hop] at c24
  have H := Lib.hid h
  have HX := Lib.hid (mulX l r)
  clear h hop
  go_enter Try.func49, Try.ntmps49
  go_wp2_with fail
  go_ret
  rw [HX.out]
  exact ⟨rfl, H.out, Upd.refl _ _⟩
set_option maxRecDepth 20000 in
set_option maxHeartbeats 1000000 in
theorem ans8 (h : Stp w b bm g i x t_ c M) (hop : i.op = 8) (l r pc : Nat) (hl : l < 4294967296) (hr : r < 4294967296) (hpc : pc < 4294967296) : Calls Try.prog 49 #[.pointer (some ⟨b, 0, none⟩), .int .u32 (l : Int), .int .u32 (r : Int), .int .u32 (pc : Int)] w fun e w' => e = .returned (.int .u32 ((r : Nat) : Int)) ∧ Stp w' b bm g i x t_ c M ∧ Upd (BG b g) w w' := by
  have c24 := h.sp.c24
  rw [hop] at c24
  have H := Lib.hid h
  clear h hop
  go_enter Try.func49, Try.ntmps49
  go_wp2_with fail
  go_ret
  exact ⟨rfl, H.out, Upd.refl _ _⟩
set_option maxRecDepth 20000 in
set_option maxHeartbeats 1000000 in
theorem ans28 (h : Stp w b bm g i x t_ c M) (hop : i.op = 28) (l r pc : Nat) (hl : l < 4294967296) (hr : r < 4294967296) (hpc : pc < 4294967296) : Calls Try.prog 49 #[.pointer (some ⟨b, 0, none⟩), .int .u32 (l : Int), .int .u32 (r : Int), .int .u32 (pc : Int)] w fun e w' => e = .returned (.int .u32 ((r : Nat) : Int)) ∧ Stp w' b bm g i x t_ c M ∧ Upd (BG b g) w w' := by
  have c24 := h.sp.c24
  rw [hop] at c24
  have H := Lib.hid h
  clear h hop
  go_enter Try.func49, Try.ntmps49
  go_wp2_with fail
  go_ret
  exact ⟨rfl, H.out, Upd.refl _ _⟩
set_option maxRecDepth 20000 in
set_option maxHeartbeats 1000000 in
theorem ans45 (h : Stp w b bm g i x t_ c M) (hop : i.op = 45) (l r pc : Nat) (hl : l < 4294967296) (hr : r < 4294967296) (hpc : pc < 4294967296) : Calls Try.prog 49 #[.pointer (some ⟨b, 0, none⟩), .int .u32 (l : Int), .int .u32 (r : Int), .int .u32 (pc : Int)] w fun e w' => e = .returned (.int .u32 ((0 : Nat) : Int)) ∧ Stp w' b bm g i x t_ c M ∧ Upd (BG b g) w w' := by
  have c24 := h.sp.c24
  rw [hop] at c24
  have H := Lib.hid h
  clear h hop
  go_enter Try.func49, Try.ntmps49
  go_wp2_with fail
  go_ret
  exact ⟨rfl, H.out, Upd.refl _ _⟩
end
end Go.Proofs.Ytibmgmgkaacibaa
/- Package chip: what comes out of an instruction (shifts, loads, stores). -/
namespace Go.Proofs.Ytibmgmgkaacibaa
open Go.RowKit Go.ChangeShapes Go.WideShapes Go.Deep Go.IntWalk
set_option linter.unusedVariables false
set_option linter.unusedSimpArgs false
section
variable {w w' : World} {b bm g : Nat} {x : Ch} {i : I6} {t_ c : Int} {M : Nat → Nat}
set_option maxRecDepth 20000 in
set_option maxHeartbeats 1000000 in
theorem ans1 (h : Stp w b bm g i x t_ c M) (hop : i.op = 1) (l r pc : Nat) (hl : l < 4294967296) (hr : r < 4294967296) (hpc : pc < 4294967296) : Calls Try.prog 49 #[.pointer (some ⟨b, 0, none⟩), .int .u32 (l : Int), .int .u32 (r : Int), .int .u32 (pc : Int)] w fun e w' => e = .returned (.int .u32 ((lslN l (r % 256) : Nat) : Int)) ∧ Stp w' b bm g i (outP x r (lslL l (r % 256))) t_ c M ∧ Upd (BG b g) w w' := by
  have c24 := h.sp.c24
  rw [hop] at c24
  have H := Lib.hid h
  clear h hop
  go_enter Try.func49, Try.ntmps49
  go_wp2_with fail
  refine (sLsl H.out.sp l r hl hr).mono ?_
  rintro e w1 ⟨rfl, hs, hu⟩
  have HS := Lib.hid (H.out.box hs hu)
  have HU := Lib.hid (bg_b (g := g) hu)
  clear hs hu
  go_wp2_with fail
  go_ret
  exact ⟨rfl, HS.out, HU.out⟩
set_option maxRecDepth 20000 in
set_option maxHeartbeats 1000000 in
theorem ans14 (h : Stp w b bm g i x t_ c M) (hop : i.op = 14) (l r pc : Nat) (hl : l < 4294967296) (hr : r < 4294967296) (hpc : pc < 4294967296) : Calls Try.prog 49 #[.pointer (some ⟨b, 0, none⟩), .int .u32 (l : Int), .int .u32 (r : Int), .int .u32 (pc : Int)] w fun e w' => e = .returned (.int .u32 ((lslN l (r % 256) : Nat) : Int)) ∧ Stp w' b bm g i (outP x r (lslL l (r % 256))) t_ c M ∧ Upd (BG b g) w w' := by
  have c24 := h.sp.c24
  rw [hop] at c24
  have H := Lib.hid h
  clear h hop
  go_enter Try.func49, Try.ntmps49
  go_wp2_with fail
  refine (sLsl H.out.sp l r hl hr).mono ?_
  rintro e w1 ⟨rfl, hs, hu⟩
  have HS := Lib.hid (H.out.box hs hu)
  have HU := Lib.hid (bg_b (g := g) hu)
  clear hs hu
  go_wp2_with fail
  go_ret
  exact ⟨rfl, HS.out, HU.out⟩
set_option maxRecDepth 20000 in
set_option maxHeartbeats 1000000 in
theorem ans2 (h : Stp w b bm g i x t_ c M) (hop : i.op = 2) (l r pc : Nat) (hl : l < 4294967296) (hr : r < 4294967296) (hpc : pc < 4294967296) : Calls Try.prog 49 #[.pointer (some ⟨b, 0, none⟩), .int .u32 (l : Int), .int .u32 (r : Int), .int .u32 (pc : Int)] w fun e w' => e = .returned (.int .u32 ((lsrN l (r % 256) : Nat) : Int)) ∧ Stp w' b bm g i (outP x r (lsrL l (r % 256))) t_ c M ∧ Upd (BG b g) w w' := by
  have c24 := h.sp.c24
  rw [hop] at c24
  have H := Lib.hid h
  clear h hop
  go_enter Try.func49, Try.ntmps49
  go_wp2_with fail
  refine (sLsr H.out.sp l r hl hr).mono ?_
  rintro e w1 ⟨rfl, hs, hu⟩
  have HS := Lib.hid (H.out.box hs hu)
  have HU := Lib.hid (bg_b (g := g) hu)
  clear hs hu
  go_wp2_with fail
  go_ret
  exact ⟨rfl, HS.out, HU.out⟩
set_option maxRecDepth 20000 in
set_option maxHeartbeats 1000000 in
theorem ans15 (h : Stp w b bm g i x t_ c M) (hop : i.op = 15) (l r pc : Nat) (hl : l < 4294967296) (hr : r < 4294967296) (hpc : pc < 4294967296) : Calls Try.prog 49 #[.pointer (some ⟨b, 0, none⟩), .int .u32 (l : Int), .int .u32 (r : Int), .int .u32 (pc : Int)] w fun e w' => e = .returned (.int .u32 ((lsrN l (r % 256) : Nat) : Int)) ∧ Stp w' b bm g i (outP x r (lsrL l (r % 256))) t_ c M ∧ Upd (BG b g) w w' := by
  have c24 := h.sp.c24
  rw [hop] at c24
  have H := Lib.hid h
  clear h hop
  go_enter Try.func49, Try.ntmps49
  go_wp2_with fail
  refine (sLsr H.out.sp l r hl hr).mono ?_
  rintro e w1 ⟨rfl, hs, hu⟩
  have HS := Lib.hid (H.out.box hs hu)
  have HU := Lib.hid (bg_b (g := g) hu)
  clear hs hu
  go_wp2_with fail
  go_ret
  exact ⟨rfl, HS.out, HU.out⟩
set_option maxRecDepth 20000 in
set_option maxHeartbeats 1000000 in
theorem ans3 (h : Stp w b bm g i x t_ c M) (hop : i.op = 3) (l r pc : Nat) (hl : l < 4294967296) (hr : r < 4294967296) (hpc : pc < 4294967296) : Calls Try.prog 49 #[.pointer (some ⟨b, 0, none⟩), .int .u32 (l : Int), .int .u32 (r : Int), .int .u32 (pc : Int)] w fun e w' => e = .returned (.int .u32 ((asrN l (r % 256) : Nat) : Int)) ∧ Stp w' b bm g i (outP x r (asrL l (r % 256))) t_ c M ∧ Upd (BG b g) w w' := by
  have c24 := h.sp.c24
  rw [hop] at c24
  have H := Lib.hid h
  clear h hop
  go_enter Try.func49, Try.ntmps49
  go_wp2_with fail
  refine (sAsr H.out.sp l r hl hr).mono ?_
  rintro e w1 ⟨rfl, hs, hu⟩
  have HS := Lib.hid (H.out.box hs hu)
  have HU := Lib.hid (bg_b (g := g) hu)
  clear hs hu
  go_wp2_with fail
  go_ret
  exact ⟨rfl, HS.out, HU.out⟩
set_option maxRecDepth 20000 in
set_option maxHeartbeats 1000000 in
theorem ans16 (h : Stp w b bm g i x t_ c M) (hop : i.op = 16) (l r pc : Nat) (hl : l < 4294967296) (hr : r < 4294967296) (hpc : pc < 4294967296) : Calls Try.prog 49 #[.pointer (some ⟨b, 0, none⟩), .int .u32 (l : Int), .int .u32 (r : Int), .int .u32 (pc : Int)] w fun e w' => e = .returned (.int .u32 ((asrN l (r % 256) : Nat) : Int)) ∧ Stp w' b bm g i (outP x r (asrL l (r % 256))) t_ c M ∧ Upd (BG b g) w w' := by
  have c24 := h.sp.c24
  rw [hop] at c24
  have H := Lib.hid h
  clear h hop
  go_enter Try.func49, Try.ntmps49
  go_wp2_with fail
  refine (sAsr H.out.sp l r hl hr).mono ?_
  rintro e w1 ⟨rfl, hs, hu⟩
  have HS := Lib.hid (H.out.box hs hu)
  have HU := Lib.hid (bg_b (g := g) hu)
  clear hs hu
  go_wp2_with fail
  go_ret
  exact ⟨rfl, HS.out, HU.out⟩
set_option maxRecDepth 20000 in
set_option maxHeartbeats 1000000 in
theorem ans19 (h : Stp w b bm g i x t_ c M) (hop : i.op = 19) (l r pc : Nat) (hl : l < 4294967296) (hr : r < 4294967296) (hpc : pc < 4294967296) : Calls Try.prog 49 #[.pointer (some ⟨b, 0, none⟩), .int .u32 (l : Int), .int .u32 (r : Int), .int .u32 (pc : Int)] w fun e w' => e = .returned (.int .u32 ((rorN l (r % 256) : Nat) : Int)) ∧ Stp w' b bm g i (outP x r (rorL l (r % 256))) t_ c M ∧ Upd (BG b g) w w' := by
  have c24 := h.sp.c24
  rw [hop] at c24
  have H := Lib.hid h
  clear h hop
  go_enter Try.func49, Try.ntmps49
  go_wp2_with fail
  refine (sRor H.out.sp l r hl hr).mono ?_
  rintro e w1 ⟨rfl, hs, hu⟩
  have HS := Lib.hid (H.out.box hs hu)
  have HU := Lib.hid (bg_b (g := g) hu)
  clear hs hu
  go_wp2_with fail
  go_ret
  exact ⟨rfl, HS.out, HU.out⟩
set_option maxRecDepth 20000 in
set_option maxHeartbeats 1000000 in
theorem ans29 (h : Stp w b bm g i x t_ c M) (hop : i.op = 29) (l r pc : Nat) (hl : l < 4294967296) (hr : r < 4294967296) (hpc : pc < 4294967296) : Calls Try.prog 49 #[.pointer (some ⟨b, 0, none⟩), .int .u32 (l : Int), .int .u32 (r : Int), .int .u32 (pc : Int)] w fun e w' => e = .returned (.int .u32 (((wdP M (((l + r) % 4294967296 : Nat) : Int)).toNat : Nat) : Int)) ∧ Stp w' b bm g i (x.need (okWd (((l + r) % 4294967296 : Nat) : Int))) (((l + r) % 4294967296 : Nat) : Int) 2 M ∧ Upd (BG b g) w w' := by
  have c24 := h.sp.c24
  rw [hop] at c24
  have H := Lib.hid h
  obtain ⟨a, ha⟩ : ∃ a, (l + r) % 4294967296 = a := ⟨_, rfl⟩
  have hal : a < 4294967296 := by omega
  have HA := Lib.hid (show ((l : Int) + (r : Int)) % 4294967296 = (a : Int) by omega)
  rw [ha]
  clear ha
  have hv : (((wdP M (a : Int)).toNat : Nat) : Int) = wdP M (a : Int) := by unfold wdP; split <;> simp
  rw [hv]
  clear hv
  clear h hop
  go_enter Try.func49, Try.ntmps49
  go_wp2_with fail
  rw [HA.out]
  refine (sLoad H.out a hal).mono ?_
  rintro e w1 ⟨rfl, hs, hu⟩
  have HS := Lib.hid hs
  have HU := Lib.hid hu
  clear hs hu
  go_wp2_with fail
  go_ret
  exact ⟨rfl, HS.out, HU.out⟩
set_option maxRecDepth 20000 in
set_option maxHeartbeats 1000000 in
theorem ans31 (h : Stp w b bm g i x t_ c M) (hop : i.op = 31) (l r pc : Nat) (hl : l < 4294967296) (hr : r < 4294967296) (hpc : pc < 4294967296) : Calls Try.prog 49 #[.pointer (some ⟨b, 0, none⟩), .int .u32 (l : Int), .int .u32 (r : Int), .int .u32 (pc : Int)] w fun e w' => e = .returned (.int .u32 (((wdP M (((l + r) % 4294967296 : Nat) : Int)).toNat : Nat) : Int)) ∧ Stp w' b bm g i (x.need (okWd (((l + r) % 4294967296 : Nat) : Int))) (((l + r) % 4294967296 : Nat) : Int) 2 M ∧ Upd (BG b g) w w' := by
  have c24 := h.sp.c24
  rw [hop] at c24
  have H := Lib.hid h
  obtain ⟨a, ha⟩ : ∃ a, (l + r) % 4294967296 = a := ⟨_, rfl⟩
  have hal : a < 4294967296 := by omega
  have HA := Lib.hid (show ((l : Int) + (r : Int)) % 4294967296 = (a : Int) by omega)
  rw [ha]
  clear ha
  have hv : (((wdP M (a : Int)).toNat : Nat) : Int) = wdP M (a : Int) := by unfold wdP; split <;> simp
  rw [hv]
  clear hv
  clear h hop
  go_enter Try.func49, Try.ntmps49
  go_wp2_with fail
  rw [HA.out]
  refine (sLoad H.out a hal).mono ?_
  rintro e w1 ⟨rfl, hs, hu⟩
  have HS := Lib.hid hs
  have HU := Lib.hid hu
  clear hs hu
  go_wp2_with fail
  go_ret
  exact ⟨rfl, HS.out, HU.out⟩
set_option maxRecDepth 20000 in
set_option maxHeartbeats 1000000 in
theorem ans35 (h : Stp w b bm g i x t_ c M) (hop : i.op = 35) (l r pc : Nat) (hl : l < 4294967296) (hr : r < 4294967296) (hpc : pc < 4294967296) : Calls Try.prog 49 #[.pointer (some ⟨b, 0, none⟩), .int .u32 (l : Int), .int .u32 (r : Int), .int .u32 (pc : Int)] w fun e w' => e = .returned (.int .u32 (((wdP M (((l + r) % 4294967296 : Nat) : Int)).toNat : Nat) : Int)) ∧ Stp w' b bm g i (x.need (okWd (((l + r) % 4294967296 : Nat) : Int))) (((l + r) % 4294967296 : Nat) : Int) 2 M ∧ Upd (BG b g) w w' := by
  have c24 := h.sp.c24
  rw [hop] at c24
  have H := Lib.hid h
  obtain ⟨a, ha⟩ : ∃ a, (l + r) % 4294967296 = a := ⟨_, rfl⟩
  have hal : a < 4294967296 := by omega
  have HA := Lib.hid (show ((l : Int) + (r : Int)) % 4294967296 = (a : Int) by omega)
  rw [ha]
  clear ha
  have hv : (((wdP M (a : Int)).toNat : Nat) : Int) = wdP M (a : Int) := by unfold wdP; split <;> simp
  rw [hv]
  clear hv
  clear h hop
  go_enter Try.func49, Try.ntmps49
  go_wp2_with fail
  rw [HA.out]
  refine (sLoad H.out a hal).mono ?_
  rintro e w1 ⟨rfl, hs, hu⟩
  have HS := Lib.hid hs
  have HU := Lib.hid hu
  clear hs hu
  go_wp2_with fail
  go_ret
  exact ⟨rfl, HS.out, HU.out⟩
set_option maxRecDepth 20000 in
set_option maxHeartbeats 1000000 in
theorem ans33 (h : Stp w b bm g i x t_ c M) (hop : i.op = 33) (l r pc : Nat) (hl : l < 4294967296) (hr : r < 4294967296) (hpc : pc < 4294967296) : Calls Try.prog 49 #[.pointer (some ⟨b, 0, none⟩), .int .u32 (l : Int), .int .u32 (r : Int), .int .u32 (pc : Int)] w fun e w' => e = .returned (.int .u32 (((byP M (((l + r) % 4294967296 : Nat) : Int)).toNat : Nat) : Int)) ∧ Stp w' b bm g i (x.need (okBy (((l + r) % 4294967296 : Nat) : Int))) (((l + r) % 4294967296 : Nat) : Int) 2 M ∧ Upd (BG b g) w w' := by
  have c24 := h.sp.c24
  rw [hop] at c24
  have H := Lib.hid h
  obtain ⟨a, ha⟩ : ∃ a, (l + r) % 4294967296 = a := ⟨_, rfl⟩
  have hal : a < 4294967296 := by omega
  have HA := Lib.hid (show ((l : Int) + (r : Int)) % 4294967296 = (a : Int) by omega)
  rw [ha]
  clear ha
  have hv : (((byP M (a : Int)).toNat : Nat) : Int) = byP M (a : Int) := by unfold byP; split <;> simp
  rw [hv]
  clear hv
  clear h hop
  go_enter Try.func49, Try.ntmps49
  go_wp2_with fail
  rw [HA.out]
  refine (sLoadB H.out a hal).mono ?_
  rintro e w1 ⟨rfl, hs, hu⟩
  have HS := Lib.hid hs
  have HU := Lib.hid hu
  clear hs hu
  go_wp2_with fail
  go_ret
  exact ⟨rfl, HS.out, HU.out⟩
set_option maxRecDepth 20000 in
set_option maxHeartbeats 1000000 in
theorem ans30 (h : Stp w b bm g i x t_ c M) (hop : i.op = 30) (l r pc : Nat) (hl : l < 4294967296) (hr : r < 4294967296) (hpc : pc < 4294967296) (d : Nat) (hd : i.d = (d : Int)) (hd16 : d < 16) : Calls Try.prog 49 #[.pointer (some ⟨b, 0, none⟩), .int .u32 (l : Int), .int .u32 (r : Int), .int .u32 (pc : Int)] w fun e w' => e = .returned (.int .u32 ((0 : Nat) : Int)) ∧ Stp w' b bm g i (x.need (okSw (((l + r) % 4294967296 : Nat) : Int))) (((l + r) % 4294967296 : Nat) : Int) 2 (swM M (((l + r) % 4294967296 : Nat) : Int) (x.R d)) ∧ Upd (BG b g) w w' := by
  have c24 := h.sp.c24
  rw [hop] at c24
  have H := Lib.hid h
  obtain ⟨a, ha⟩ : ∃ a, (l + r) % 4294967296 = a := ⟨_, rfl⟩
  have hal : a < 4294967296 := by omega
  have HA := Lib.hid (show ((l : Int) + (r : Int)) % 4294967296 = (a : Int) by omega)
  rw [ha]
  clear ha
  have HD := Lib.hid hd
  clear hd
  clear h hop
  go_enter Try.func49, Try.ntmps49
  go_wp2_with fail
  rw [HA.out]
  refine (sStore H.out a d (x.R d) hal HD.out hd16 rfl).mono ?_
  rintro e w1 ⟨rfl, hs, hu⟩
  have HS := Lib.hid hs
  have HU := Lib.hid hu
  clear hs hu
  go_wp2_with fail
  go_ret
  exact ⟨rfl, HS.out, HU.out⟩
set_option maxRecDepth 20000 in
set_option maxHeartbeats 1000000 in
theorem ans32 (h : Stp w b bm g i x t_ c M) (hop : i.op = 32) (l r pc : Nat) (hl : l < 4294967296) (hr : r < 4294967296) (hpc : pc < 4294967296) (d : Nat) (hd : i.d = (d : Int)) (hd16 : d < 16) : Calls Try.prog 49 #[.pointer (some ⟨b, 0, none⟩), .int .u32 (l : Int), .int .u32 (r : Int), .int .u32 (pc : Int)] w fun e w' => e = .returned (.int .u32 ((0 : Nat) : Int)) ∧ Stp w' b bm g i (x.need (okSw (((l + r) % 4294967296 : Nat) : Int))) (((l + r) % 4294967296 : Nat) : Int) 2 (swM M (((l + r) % 4294967296 : Nat) : Int) (x.R d)) ∧ Upd (BG b g) w w' := by
  have c24 := h.sp.c24
  rw [hop] at c24
  have H := Lib.hid h
  obtain ⟨a, ha⟩ : ∃ a, (l + r) % 4294967296 = a := ⟨_, rfl⟩
  have hal : a < 4294967296 := by omega
  have HA := Lib.hid (show ((l : Int) + (r : Int)) % 4294967296 = (a : Int) by omega)
  rw [ha]
  clear ha
  have HD := Lib.hid hd
  clear hd
  clear h hop
  go_enter Try.func49, Try.ntmps49
  go_wp2_with fail
  rw [HA.out]
  refine (sStore H.out a d (x.R d) hal HD.out hd16 rfl).mono ?_
  rintro e w1 ⟨rfl, hs, hu⟩
  have HS := Lib.hid hs
  have HU := Lib.hid hu
  clear hs hu
  go_wp2_with fail
  go_ret
  exact ⟨rfl, HS.out, HU.out⟩
set_option maxRecDepth 20000 in
set_option maxHeartbeats 1000000 in
theorem ans36 (h : Stp w b bm g i x t_ c M) (hop : i.op = 36) (l r pc : Nat) (hl : l < 4294967296) (hr : r < 4294967296) (hpc : pc < 4294967296) (d : Nat) (hd : i.d = (d : Int)) (hd16 : d < 16) : Calls Try.prog 49 #[.pointer (some ⟨b, 0, none⟩), .int .u32 (l : Int), .int .u32 (r : Int), .int .u32 (pc : Int)] w fun e w' => e = .returned (.int .u32 ((0 : Nat) : Int)) ∧ Stp w' b bm g i (x.need (okSw (((l + r) % 4294967296 : Nat) : Int))) (((l + r) % 4294967296 : Nat) : Int) 2 (swM M (((l + r) % 4294967296 : Nat) : Int) (x.R d)) ∧ Upd (BG b g) w w' := by
  have c24 := h.sp.c24
  rw [hop] at c24
  have H := Lib.hid h
  obtain ⟨a, ha⟩ : ∃ a, (l + r) % 4294967296 = a := ⟨_, rfl⟩
  have hal : a < 4294967296 := by omega
  have HA := Lib.hid (show ((l : Int) + (r : Int)) % 4294967296 = (a : Int) by omega)
  rw [ha]
  clear ha
  have HD := Lib.hid hd
  clear hd
  clear h hop
  go_enter Try.func49, Try.ntmps49
  go_wp2_with fail
  rw [HA.out]
  refine (sStore H.out a d (x.R d) hal HD.out hd16 rfl).mono ?_
  rintro e w1 ⟨rfl, hs, hu⟩
  have HS := Lib.hid hs
  have HU := Lib.hid hu
  clear hs hu
  go_wp2_with fail
  go_ret
  exact ⟨rfl, HS.out, HU.out⟩
set_option maxRecDepth 20000 in
set_option maxHeartbeats 1000000 in
theorem ans34 (h : Stp w b bm g i x t_ c M) (hop : i.op = 34) (l r pc : Nat) (hl : l < 4294967296) (hr : r < 4294967296) (hpc : pc < 4294967296) (d : Nat) (hd : i.d = (d : Int)) (hd16 : d < 16) : Calls Try.prog 49 #[.pointer (some ⟨b, 0, none⟩), .int .u32 (l : Int), .int .u32 (r : Int), .int .u32 (pc : Int)] w fun e w' => e = .returned (.int .u32 ((0 : Nat) : Int)) ∧ Stp w' b bm g i (x.need (okSb (((l + r) % 4294967296 : Nat) : Int))) (((l + r) % 4294967296 : Nat) : Int) 2 (sbM M (((l + r) % 4294967296 : Nat) : Int) (x.R d % 256)) ∧ Upd (BG b g) w w' := by
  have c24 := h.sp.c24
  rw [hop] at c24
  have H := Lib.hid h
  obtain ⟨a, ha⟩ : ∃ a, (l + r) % 4294967296 = a := ⟨_, rfl⟩
  have hal : a < 4294967296 := by omega
  have HA := Lib.hid (show ((l : Int) + (r : Int)) % 4294967296 = (a : Int) by omega)
  rw [ha]
  clear ha
  have HD := Lib.hid hd
  clear hd
  clear h hop
  go_enter Try.func49, Try.ntmps49
  go_wp2_with fail
  rw [HA.out]
  refine (sStoreB H.out a d (x.R d) hal HD.out hd16 rfl).mono ?_
  rintro e w1 ⟨rfl, hs, hu⟩
  have HS := Lib.hid hs
  have HU := Lib.hid hu
  clear hs hu
  go_wp2_with fail
  go_ret
  exact ⟨rfl, HS.out, HU.out⟩
end
end Go.Proofs.Ytibmgmgkaacibaa
/- Package chip: what comes out of an instruction (the stack, branches). -/
namespace Go.Proofs.Ytibmgmgkaacibaa
open Go.RowKit Go.ChangeShapes Go.WideShapes Go.Deep Go.IntWalk
set_option linter.unusedVariables false
set_option linter.unusedSimpArgs false
section
variable {w w' : World} {b bm g : Nat} {x : Ch} {i : I6} {t_ c : Int} {M : Nat → Nat}
set_option maxRecDepth 20000 in
set_option maxHeartbeats 1000000 in
theorem ans37 (h : Stp w b bm g i x t_ c M) (hop : i.op = 37) (l r pc : Nat) (hl : l < 4294967296) (hr : r < 4294967296) (hpc : pc < 4294967296) : Calls Try.prog 49 #[.pointer (some ⟨b, 0, none⟩), .int .u32 (l : Int), .int .u32 (r : Int), .int .u32 (pc : Int)] w fun e w' => e = .returned (.int .u32 ((0 : Nat) : Int)) ∧ Stp w' b bm g i (x.withR 13 ((l + r) % 4294967296)) t_ c M ∧ Upd (BG b g) w w' := by
  have c24 := h.sp.c24
  rw [hop] at c24
  have f13 := h.sp.fz 13
  have h13 := h.sp.c13
  have H := Lib.hid h
  obtain ⟨a, ha⟩ : ∃ a, (l + r) % 4294967296 = a := ⟨_, rfl⟩
  have hal : a < 4294967296 := by omega
  have HA := Lib.hid (show ((l : Int) + (r : Int)) % 4294967296 = (a : Int) by omega)
  have HN := Lib.hid (h.sp.setR 13 (by decide) a hal)
  rw [ha]
  clear ha h hop
  go_enter Try.func49, Try.ntmps49
  go_wp2_with fail
  go_ret
  rw [HA.out]
  exact ⟨rfl, H.out.box HN.out (Sp.setU _ _ _ _), bg_b (Sp.setU _ _ _ _)⟩
set_option maxRecDepth 20000 in
set_option maxHeartbeats 1000000 in
theorem ans38 (h : Stp w b bm g i x t_ c M) (hop : i.op = 38) (l r pc : Nat) (hl : l < 4294967296) (hr : r < 4294967296) (hpc : pc < 4294967296) : Calls Try.prog 49 #[.pointer (some ⟨b, 0, none⟩), .int .u32 (l : Int), .int .u32 (r : Int), .int .u32 (pc : Int)] w fun e w' => e = .returned (.int .u32 ((0 : Nat) : Int)) ∧ Stp w' b bm g i (x.withR 13 ((l + (4294967296 - r)) % 4294967296)) t_ c M ∧ Upd (BG b g) w w' := by
  have c24 := h.sp.c24
  rw [hop] at c24
  have f13 := h.sp.fz 13
  have h13 := h.sp.c13
  have H := Lib.hid h
  obtain ⟨a, ha⟩ : ∃ a, (l + (4294967296 - r)) % 4294967296 = a := ⟨_, rfl⟩
  have hal : a < 4294967296 := by omega
  have HA := Lib.hid (show ((l : Int) - (r : Int)) % 4294967296 = (a : Int) by omega)
  have HN := Lib.hid (h.sp.setR 13 (by decide) a hal)
  rw [ha]
  clear ha h hop
  go_enter Try.func49, Try.ntmps49
  go_wp2_with fail
  go_ret
  rw [HA.out]
  exact ⟨rfl, H.out.box HN.out (Sp.setU _ _ _ _), bg_b (Sp.setU _ _ _ _)⟩
set_option maxRecDepth 20000 in
set_option maxHeartbeats 1000000 in
theorem ans42 (h : Stp w b bm g i x t_ c M) (hop : i.op = 42) (l r pc : Nat) (hl : l < 4294967296) (hr : r < 4294967296) (hpc : pc < 4294967296) : Calls Try.prog 49 #[.pointer (some ⟨b, 0, none⟩), .int .u32 (l : Int), .int .u32 (r : Int), .int .u32 (pc : Int)] w fun e w' => e = .returned (.int .u32 ((0 : Nat) : Int)) ∧ Stp w' b bm g i (x.withR 15 ((pc + r) % 4294967296)) t_ 3 M ∧ Upd (BG b g) w w' := by
  have c24 := h.sp.c24
  rw [hop] at c24
  have H := Lib.hid h
  obtain ⟨a, ha⟩ : ∃ a, (pc + r) % 4294967296 = a := ⟨_, rfl⟩
  have hal : a < 4294967296 := by omega
  have HA := Lib.hid (show ((pc : Int) + (r : Int)) % 4294967296 = (a : Int) by omega)
  rw [ha]
  clear ha
  clear h hop
  go_enter Try.func49, Try.ntmps49
  go_wp2_with fail
  rw [HA.out]
  refine (sBranch H.out.sp a hal 3).mono ?_
  rintro e w1 ⟨rfl, hs, hu⟩
  have HS := Lib.hid (H.out.box hs hu)
  have HU := Lib.hid (bg_b (g := g) hu)
  clear hs hu
  go_wp2_with fail
  go_ret
  exact ⟨rfl, HS.out, HU.out⟩
set_option maxRecDepth 20000 in
set_option maxHeartbeats 1000000 in
theorem ans43 (h : Stp w b bm g i x t_ c M) (hop : i.op = 43) (l r pc : Nat) (hl : l < 4294967296) (hr : r < 4294967296) (hpc : pc < 4294967296) : Calls Try.prog 49 #[.pointer (some ⟨b, 0, none⟩), .int .u32 (l : Int), .int .u32 (r : Int), .int .u32 (pc : Int)] w fun e w' => e = .returned (.int .u32 ((0 : Nat) : Int)) ∧ Stp w' b bm g i ((x.withR 14 ((x.R 15 + 1) % 4294967296)).withR 15 ((pc + r) % 4294967296)) t_ 4 M ∧ Upd (BG b g) w w' := by
  have c24 := h.sp.c24
  rw [hop] at c24
  have H := Lib.hid h
  obtain ⟨a, ha⟩ : ∃ a, (pc + r) % 4294967296 = a := ⟨_, rfl⟩
  have hal : a < 4294967296 := by omega
  have HA := Lib.hid (show ((pc : Int) + (r : Int)) % 4294967296 = (a : Int) by omega)
  rw [ha]
  clear ha
  clear h hop
  go_enter Try.func49, Try.ntmps49
  go_wp2_with fail
  rw [HA.out]
  refine (sLink H.out.sp a hal).mono ?_
  rintro e w1 ⟨rfl, hs, hu⟩
  have HS := Lib.hid (H.out.box hs hu)
  have HU := Lib.hid (bg_b (g := g) hu)
  clear hs hu
  go_wp2_with fail
  go_ret
  exact ⟨rfl, HS.out, HU.out⟩
set_option maxRecDepth 20000 in
set_option maxHeartbeats 1000000 in
theorem ans44 (h : Stp w b bm g i x t_ c M) (hop : i.op = 44) (l r pc : Nat) (hl : l < 4294967296) (hr : r < 4294967296) (hpc : pc < 4294967296) : Calls Try.prog 49 #[.pointer (some ⟨b, 0, none⟩), .int .u32 (l : Int), .int .u32 (r : Int), .int .u32 (pc : Int)] w fun e w' => e = .returned (.int .u32 ((0 : Nat) : Int)) ∧ Stp w' b bm g i { x with st := 1, num := i.imm } t_ c M ∧ Upd (BG b g) w w' := by
  have c24 := h.sp.c24
  rw [hop] at c24
  have f20 := h.sp.fz 20
  have f21 := h.sp.fz 21
  have h20 := h.sp.c20
  have h21 := h.sp.c21
  have h28 := h.sp.c28
  have H := Lib.hid h
  have HN := Lib.hid ((h.sp.set_st 1).set_num i.imm)
  clear h hop
  go_enter Try.func49, Try.ntmps49
  go_wp2_with fail
  go_ret
  exact ⟨rfl, H.out.box HN.out ((Sp.setU _ _ _ _).putU _ _), bg_b ((Sp.setU _ _ _ _).putU _ _)⟩
end
end Go.Proofs.Ytibmgmgkaacibaa
/- Package chip: a branch on a condition; what comes out of any instruction. -/
namespace Go.Proofs.Ytibmgmgkaacibaa
open Go.RowKit Go.ChangeShapes Go.WideShapes Go.Deep Go.IntWalk
set_option linter.unusedVariables false
set_option linter.unusedSimpArgs false
/-- what an instruction leaves, and what comes out of it -/
structure Rs where
  x : Ch
  t : Int
  c : Int
  M : Nat → Nat
  out : Nat
def pushP (imm : Nat) (x : Ch) (M : Nat → Nat) : Rs :=
  bif allSw (spLow (x.R 13) (regsP imm 14).length) (regsP imm 14).length then ⟨x.withR 13 (spLow (x.R 13) (regsP imm 14).length), (spLow (x.R 13) (regsP imm 14).length : Int), 1 + ((regsP imm 14).length : Int), pushM M x.R (spLow (x.R 13) (regsP imm 14).length) (regsP imm 14) (regsP imm 14).length, 0⟩
  else ⟨x.need false, -1, 1, M, 0⟩
def popP (imm : Nat) (x : Ch) (M : Nat → Nat) : Rs :=
  ⟨{ (x.need (allWd (x.R 13) (regsP imm 15).length)) with R := rSet (popR M x.R (x.R 13) (regsP imm 15) (regsP imm 15).length) 13 ((x.R 13 + 4 * (regsP imm 15).length) % 4294967296) }, (x.R 13 : Int), popC 1 (regsP imm 15) (regsP imm 15).length + ((regsP imm 15).length : Int), M, 0⟩
def adP (l r : Nat) : Nat := (l + r) % 4294967296
def ansP (op d cond : Nat) (imm : Int) (l r pc : Nat) (x : Ch) (M : Nat → Nat) : Rs := match op with
  | 1 => ⟨outP x r (lslL l (r % 256)), -1, 1, M, lslN l (r % 256)⟩
  | 2 => ⟨outP x r (lsrL l (r % 256)), -1, 1, M, lsrN l (r % 256)⟩
  | 3 => ⟨outP x r (asrL l (r % 256)), -1, 1, M, asrN l (r % 256)⟩
  | 4 => ⟨sumX x l r 0, -1, 1, M, sumN l r 0⟩
  | 5 => ⟨sumX x l (4294967295 - r) 1, -1, 1, M, sumN l (4294967295 - r) 1⟩
  | 6 => ⟨sumX x l r 0, -1, 1, M, sumN l r 0⟩
  | 7 => ⟨sumX x l (4294967295 - r) 1, -1, 1, M, sumN l (4294967295 - r) 1⟩
  | 8 => ⟨x, -1, 1, M, r⟩
  | 9 => ⟨sumX x l (4294967295 - r) 1, -1, 1, M, sumN l (4294967295 - r) 1⟩
  | 10 => ⟨sumX x l r 0, -1, 1, M, sumN l r 0⟩
  | 11 => ⟨sumX x l (4294967295 - r) 1, -1, 1, M, sumN l (4294967295 - r) 1⟩
  | 12 => ⟨x, -1, 1, M, l &&& r⟩
  | 13 => ⟨x, -1, 1, M, l ^^^ r⟩
  | 14 => ⟨outP x r (lslL l (r % 256)), -1, 1, M, lslN l (r % 256)⟩
  | 15 => ⟨outP x r (lsrL l (r % 256)), -1, 1, M, lsrN l (r % 256)⟩
  | 16 => ⟨outP x r (asrL l (r % 256)), -1, 1, M, asrN l (r % 256)⟩
  | 17 => ⟨sumX x l r x.cf.toNat, -1, 1, M, sumN l r x.cf.toNat⟩
  | 18 => ⟨sumX x l (4294967295 - r) x.cf.toNat, -1, 1, M, sumN l (4294967295 - r) x.cf.toNat⟩
  | 19 => ⟨outP x r (rorL l (r % 256)), -1, 1, M, rorN l (r % 256)⟩
  | 20 => ⟨x, -1, 1, M, l &&& r⟩
  | 21 => ⟨sumX x l (4294967295 - r) 1, -1, 1, M, sumN l (4294967295 - r) 1⟩
  | 22 => ⟨sumX x l (4294967295 - r) 1, -1, 1, M, sumN l (4294967295 - r) 1⟩
  | 23 => ⟨sumX x l r 0, -1, 1, M, sumN l r 0⟩
  | 24 => ⟨x, -1, 1, M, l ||| r⟩
  | 25 => ⟨x, -1, 1, M, l * r % 4294967296⟩
  | 26 => ⟨x, -1, 1, M, l &&& (4294967295 - r)⟩
  | 27 => ⟨x, -1, 1, M, 4294967295 - r⟩
  | 28 => ⟨x, -1, 1, M, r⟩
  | 29 => ⟨x.need (okWd (((l + r) % 4294967296 : Nat) : Int)), (((l + r) % 4294967296 : Nat) : Int), 2, M, (wdP M (((l + r) % 4294967296 : Nat) : Int)).toNat⟩
  | 31 => ⟨x.need (okWd (((l + r) % 4294967296 : Nat) : Int)), (((l + r) % 4294967296 : Nat) : Int), 2, M, (wdP M (((l + r) % 4294967296 : Nat) : Int)).toNat⟩
  | 35 => ⟨x.need (okWd (((l + r) % 4294967296 : Nat) : Int)), (((l + r) % 4294967296 : Nat) : Int), 2, M, (wdP M (((l + r) % 4294967296 : Nat) : Int)).toNat⟩
  | 30 => ⟨x.need (okSw (((l + r) % 4294967296 : Nat) : Int)), (((l + r) % 4294967296 : Nat) : Int), 2, swM M (((l + r) % 4294967296 : Nat) : Int) (x.R d), 0⟩
  | 32 => ⟨x.need (okSw (((l + r) % 4294967296 : Nat) : Int)), (((l + r) % 4294967296 : Nat) : Int), 2, swM M (((l + r) % 4294967296 : Nat) : Int) (x.R d), 0⟩
  | 36 => ⟨x.need (okSw (((l + r) % 4294967296 : Nat) : Int)), (((l + r) % 4294967296 : Nat) : Int), 2, swM M (((l + r) % 4294967296 : Nat) : Int) (x.R d), 0⟩
  | 33 => ⟨x.need (okBy (((l + r) % 4294967296 : Nat) : Int)), (((l + r) % 4294967296 : Nat) : Int), 2, M, (byP M (((l + r) % 4294967296 : Nat) : Int)).toNat⟩
  | 34 => ⟨x.need (okSb (((l + r) % 4294967296 : Nat) : Int)), (((l + r) % 4294967296 : Nat) : Int), 2, sbM M (((l + r) % 4294967296 : Nat) : Int) (x.R d % 256), 0⟩
  | 37 => ⟨x.withR 13 ((l + r) % 4294967296), -1, 1, M, 0⟩
  | 38 => ⟨x.withR 13 ((l + (4294967296 - r)) % 4294967296), -1, 1, M, 0⟩
  | 39 => pushP imm.toNat x M
  | 40 => popP imm.toNat x M
  | 41 => bif holdsP x cond then ⟨x.withR 15 ((pc + r) % 4294967296), -1, 3, M, 0⟩ else ⟨x, -1, 1, M, 0⟩
  | 42 => ⟨x.withR 15 ((pc + r) % 4294967296), -1, 3, M, 0⟩
  | 43 => ⟨(x.withR 14 ((x.R 15 + 1) % 4294967296)).withR 15 ((pc + r) % 4294967296), -1, 4, M, 0⟩
  | 44 => ⟨{ x with st := 1, num := imm }, -1, 1, M, 0⟩
  | _ => ⟨x, -1, 1, M, 0⟩
theorem ansP_1 (d cond : Nat) (imm : Int) (l r pc : Nat) (x : Ch) (M : Nat → Nat) : ansP 1 d cond imm l r pc x M = ⟨outP x r (lslL l (r % 256)), -1, 1, M, lslN l (r % 256)⟩ := rfl
theorem ansP_2 (d cond : Nat) (imm : Int) (l r pc : Nat) (x : Ch) (M : Nat → Nat) : ansP 2 d cond imm l r pc x M = ⟨outP x r (lsrL l (r % 256)), -1, 1, M, lsrN l (r % 256)⟩ := rfl
theorem ansP_3 (d cond : Nat) (imm : Int) (l r pc : Nat) (x : Ch) (M : Nat → Nat) : ansP 3 d cond imm l r pc x M = ⟨outP x r (asrL l (r % 256)), -1, 1, M, asrN l (r % 256)⟩ := rfl
theorem ansP_4 (d cond : Nat) (imm : Int) (l r pc : Nat) (x : Ch) (M : Nat → Nat) : ansP 4 d cond imm l r pc x M = ⟨sumX x l r 0, -1, 1, M, sumN l r 0⟩ := rfl
theorem ansP_5 (d cond : Nat) (imm : Int) (l r pc : Nat) (x : Ch) (M : Nat → Nat) : ansP 5 d cond imm l r pc x M = ⟨sumX x l (4294967295 - r) 1, -1, 1, M, sumN l (4294967295 - r) 1⟩ := rfl
theorem ansP_6 (d cond : Nat) (imm : Int) (l r pc : Nat) (x : Ch) (M : Nat → Nat) : ansP 6 d cond imm l r pc x M = ⟨sumX x l r 0, -1, 1, M, sumN l r 0⟩ := rfl
theorem ansP_7 (d cond : Nat) (imm : Int) (l r pc : Nat) (x : Ch) (M : Nat → Nat) : ansP 7 d cond imm l r pc x M = ⟨sumX x l (4294967295 - r) 1, -1, 1, M, sumN l (4294967295 - r) 1⟩ := rfl
theorem ansP_8 (d cond : Nat) (imm : Int) (l r pc : Nat) (x : Ch) (M : Nat → Nat) : ansP 8 d cond imm l r pc x M = ⟨x, -1, 1, M, r⟩ := rfl
theorem ansP_9 (d cond : Nat) (imm : Int) (l r pc : Nat) (x : Ch) (M : Nat → Nat) : ansP 9 d cond imm l r pc x M = ⟨sumX x l (4294967295 - r) 1, -1, 1, M, sumN l (4294967295 - r) 1⟩ := rfl
theorem ansP_10 (d cond : Nat) (imm : Int) (l r pc : Nat) (x : Ch) (M : Nat → Nat) : ansP 10 d cond imm l r pc x M = ⟨sumX x l r 0, -1, 1, M, sumN l r 0⟩ := rfl
theorem ansP_11 (d cond : Nat) (imm : Int) (l r pc : Nat) (x : Ch) (M : Nat → Nat) : ansP 11 d cond imm l r pc x M = ⟨sumX x l (4294967295 - r) 1, -1, 1, M, sumN l (4294967295 - r) 1⟩ := rfl
theorem ansP_12 (d cond : Nat) (imm : Int) (l r pc : Nat) (x : Ch) (M : Nat → Nat) : ansP 12 d cond imm l r pc x M = ⟨x, -1, 1, M, l &&& r⟩ := rfl
theorem ansP_13 (d cond : Nat) (imm : Int) (l r pc : Nat) (x : Ch) (M : Nat → Nat) : ansP 13 d cond imm l r pc x M = ⟨x, -1, 1, M, l ^^^ r⟩ := rfl
theorem ansP_14 (d cond : Nat) (imm : Int) (l r pc : Nat) (x : Ch) (M : Nat → Nat) : ansP 14 d cond imm l r pc x M = ⟨outP x r (lslL l (r % 256)), -1, 1, M, lslN l (r % 256)⟩ := rfl
theorem ansP_15 (d cond : Nat) (imm : Int) (l r pc : Nat) (x : Ch) (M : Nat → Nat) : ansP 15 d cond imm l r pc x M = ⟨outP x r (lsrL l (r % 256)), -1, 1, M, lsrN l (r % 256)⟩ := rfl
theorem ansP_16 (d cond : Nat) (imm : Int) (l r pc : Nat) (x : Ch) (M : Nat → Nat) : ansP 16 d cond imm l r pc x M = ⟨outP x r (asrL l (r % 256)), -1, 1, M, asrN l (r % 256)⟩ := rfl
theorem ansP_17 (d cond : Nat) (imm : Int) (l r pc : Nat) (x : Ch) (M : Nat → Nat) : ansP 17 d cond imm l r pc x M = ⟨sumX x l r x.cf.toNat, -1, 1, M, sumN l r x.cf.toNat⟩ := rfl
theorem ansP_18 (d cond : Nat) (imm : Int) (l r pc : Nat) (x : Ch) (M : Nat → Nat) : ansP 18 d cond imm l r pc x M = ⟨sumX x l (4294967295 - r) x.cf.toNat, -1, 1, M, sumN l (4294967295 - r) x.cf.toNat⟩ := rfl
theorem ansP_19 (d cond : Nat) (imm : Int) (l r pc : Nat) (x : Ch) (M : Nat → Nat) : ansP 19 d cond imm l r pc x M = ⟨outP x r (rorL l (r % 256)), -1, 1, M, rorN l (r % 256)⟩ := rfl
theorem ansP_20 (d cond : Nat) (imm : Int) (l r pc : Nat) (x : Ch) (M : Nat → Nat) : ansP 20 d cond imm l r pc x M = ⟨x, -1, 1, M, l &&& r⟩ := rfl
theorem ansP_21 (d cond : Nat) (imm : Int) (l r pc : Nat) (x : Ch) (M : Nat → Nat) : ansP 21 d cond imm l r pc x M = ⟨sumX x l (4294967295 - r) 1, -1, 1, M, sumN l (4294967295 - r) 1⟩ := rfl
theorem ansP_22 (d cond : Nat) (imm : Int) (l r pc : Nat) (x : Ch) (M : Nat → Nat) : ansP 22 d cond imm l r pc x M = ⟨sumX x l (4294967295 - r) 1, -1, 1, M, sumN l (4294967295 - r) 1⟩ := rfl
theorem ansP_23 (d cond : Nat) (imm : Int) (l r pc : Nat) (x : Ch) (M : Nat → Nat) : ansP 23 d cond imm l r pc x M = ⟨sumX x l r 0, -1, 1, M, sumN l r 0⟩ := rfl
theorem ansP_24 (d cond : Nat) (imm : Int) (l r pc : Nat) (x : Ch) (M : Nat → Nat) : ansP 24 d cond imm l r pc x M = ⟨x, -1, 1, M, l ||| r⟩ := rfl
theorem ansP_25 (d cond : Nat) (imm : Int) (l r pc : Nat) (x : Ch) (M : Nat → Nat) : ansP 25 d cond imm l r pc x M = ⟨x, -1, 1, M, l * r % 4294967296⟩ := rfl
theorem ansP_26 (d cond : Nat) (imm : Int) (l r pc : Nat) (x : Ch) (M : Nat → Nat) : ansP 26 d cond imm l r pc x M = ⟨x, -1, 1, M, l &&& (4294967295 - r)⟩ := rfl
theorem ansP_27 (d cond : Nat) (imm : Int) (l r pc : Nat) (x : Ch) (M : Nat → Nat) : ansP 27 d cond imm l r pc x M = ⟨x, -1, 1, M, 4294967295 - r⟩ := rfl
theorem ansP_28 (d cond : Nat) (imm : Int) (l r pc : Nat) (x : Ch) (M : Nat → Nat) : ansP 28 d cond imm l r pc x M = ⟨x, -1, 1, M, r⟩ := rfl
theorem ansP_29 (d cond : Nat) (imm : Int) (l r pc : Nat) (x : Ch) (M : Nat → Nat) : ansP 29 d cond imm l r pc x M = ⟨x.need (okWd (((l + r) % 4294967296 : Nat) : Int)), (((l + r) % 4294967296 : Nat) : Int), 2, M, (wdP M (((l + r) % 4294967296 : Nat) : Int)).toNat⟩ := rfl
theorem ansP_31 (d cond : Nat) (imm : Int) (l r pc : Nat) (x : Ch) (M : Nat → Nat) : ansP 31 d cond imm l r pc x M = ⟨x.need (okWd (((l + r) % 4294967296 : Nat) : Int)), (((l + r) % 4294967296 : Nat) : Int), 2, M, (wdP M (((l + r) % 4294967296 : Nat) : Int)).toNat⟩ := rfl
theorem ansP_35 (d cond : Nat) (imm : Int) (l r pc : Nat) (x : Ch) (M : Nat → Nat) : ansP 35 d cond imm l r pc x M = ⟨x.need (okWd (((l + r) % 4294967296 : Nat) : Int)), (((l + r) % 4294967296 : Nat) : Int), 2, M, (wdP M (((l + r) % 4294967296 : Nat) : Int)).toNat⟩ := rfl
theorem ansP_30 (d cond : Nat) (imm : Int) (l r pc : Nat) (x : Ch) (M : Nat → Nat) : ansP 30 d cond imm l r pc x M = ⟨x.need (okSw (((l + r) % 4294967296 : Nat) : Int)), (((l + r) % 4294967296 : Nat) : Int), 2, swM M (((l + r) % 4294967296 : Nat) : Int) (x.R d), 0⟩ := rfl
theorem ansP_32 (d cond : Nat) (imm : Int) (l r pc : Nat) (x : Ch) (M : Nat → Nat) : ansP 32 d cond imm l r pc x M = ⟨x.need (okSw (((l + r) % 4294967296 : Nat) : Int)), (((l + r) % 4294967296 : Nat) : Int), 2, swM M (((l + r) % 4294967296 : Nat) : Int) (x.R d), 0⟩ := rfl
theorem ansP_36 (d cond : Nat) (imm : Int) (l r pc : Nat) (x : Ch) (M : Nat → Nat) : ansP 36 d cond imm l r pc x M = ⟨x.need (okSw (((l + r) % 4294967296 : Nat) : Int)), (((l + r) % 4294967296 : Nat) : Int), 2, swM M (((l + r) % 4294967296 : Nat) : Int) (x.R d), 0⟩ := rfl
theorem ansP_33 (d cond : Nat) (imm : Int) (l r pc : Nat) (x : Ch) (M : Nat → Nat) : ansP 33 d cond imm l r pc x M = ⟨x.need (okBy (((l + r) % 4294967296 : Nat) : Int)), (((l + r) % 4294967296 : Nat) : Int), 2, M, (byP M (((l + r) % 4294967296 : Nat) : Int)).toNat⟩ := rfl
theorem ansP_34 (d cond : Nat) (imm : Int) (l r pc : Nat) (x : Ch) (M : Nat → Nat) : ansP 34 d cond imm l r pc x M = ⟨x.need (okSb (((l + r) % 4294967296 : Nat) : Int)), (((l + r) % 4294967296 : Nat) : Int), 2, sbM M (((l + r) % 4294967296 : Nat) : Int) (x.R d % 256), 0⟩ := rfl
theorem ansP_37 (d cond : Nat) (imm : Int) (l r pc : Nat) (x : Ch) (M : Nat → Nat) : ansP 37 d cond imm l r pc x M = ⟨x.withR 13 ((l + r) % 4294967296), -1, 1, M, 0⟩ := rfl
theorem ansP_38 (d cond : Nat) (imm : Int) (l r pc : Nat) (x : Ch) (M : Nat → Nat) : ansP 38 d cond imm l r pc x M = ⟨x.withR 13 ((l + (4294967296 - r)) % 4294967296), -1, 1, M, 0⟩ := rfl
theorem ansP_39 (d cond : Nat) (imm : Int) (l r pc : Nat) (x : Ch) (M : Nat → Nat) : ansP 39 d cond imm l r pc x M = pushP imm.toNat x M := rfl
theorem ansP_40 (d cond : Nat) (imm : Int) (l r pc : Nat) (x : Ch) (M : Nat → Nat) : ansP 40 d cond imm l r pc x M = popP imm.toNat x M := rfl
theorem ansP_41 (d cond : Nat) (imm : Int) (l r pc : Nat) (x : Ch) (M : Nat → Nat) : ansP 41 d cond imm l r pc x M = bif holdsP x cond then ⟨x.withR 15 ((pc + r) % 4294967296), -1, 3, M, 0⟩ else ⟨x, -1, 1, M, 0⟩ := rfl
theorem ansP_42 (d cond : Nat) (imm : Int) (l r pc : Nat) (x : Ch) (M : Nat → Nat) : ansP 42 d cond imm l r pc x M = ⟨x.withR 15 ((pc + r) % 4294967296), -1, 3, M, 0⟩ := rfl
theorem ansP_43 (d cond : Nat) (imm : Int) (l r pc : Nat) (x : Ch) (M : Nat → Nat) : ansP 43 d cond imm l r pc x M = ⟨(x.withR 14 ((x.R 15 + 1) % 4294967296)).withR 15 ((pc + r) % 4294967296), -1, 4, M, 0⟩ := rfl
theorem ansP_44 (d cond : Nat) (imm : Int) (l r pc : Nat) (x : Ch) (M : Nat → Nat) : ansP 44 d cond imm l r pc x M = ⟨{ x with st := 1, num := imm }, -1, 1, M, 0⟩ := rfl
theorem ansP_45 (d cond : Nat) (imm : Int) (l r pc : Nat) (x : Ch) (M : Nat → Nat) : ansP 45 d cond imm l r pc x M = ⟨x, -1, 1, M, 0⟩ := rfl
section
variable {w w' : World} {b bm g : Nat} {x : Ch} {i : I6} {t_ c : Int} {M : Nat → Nat}
theorem sBranchIf {mp : Value} (h : Sp w b mp i x t_ c) (a cond : Nat) (ha : a < 4294967296) (hc : i.cond = (cond : Int)) (hcond : cond < 14) : Calls Try.prog 75 #[.pointer (some ⟨b, 0, none⟩), .int .u32 (a : Int)] w fun e w' => e = .returned (.tuple #[]) ∧ (holdsP x cond = true → Sp w' b mp i (x.withR 15 a) t_ 3) ∧ (holdsP x cond = false → Sp w' b mp i x t_ c) ∧ Upd (fun q => q = b) w w' := by
  have c29 := h.c29
  rw [hc] at c29
  have H := Lib.hid h
  have HH := Lib.hid (sHolds h cond hcond)
  clear h hc
  go_enter Try.func75, Try.ntmps75
  go_wp2_with fail
  refine HH.out.mono ?_
  rintro e w1 ⟨rfl, hu⟩
  have H1 := Lib.hid (H.out.upd hu (fun h => h))
  have HU1 : Hid (Upd (fun q => q = b) w w1) := Lib.hid (hu.mono (fun _ h _ => h.elim))
  clear hu c29 HH
  cases hb : holdsP x cond
  · have HBB := Lib.hid hb
    clear hb
    go_wp2_with fail
    go_end0
    exact ⟨rfl, fun h => absurd (HBB.out.symm.trans h) (by decide), fun _ => H1.out, HU1.out⟩
  · have HBB := Lib.hid hb
    clear hb
    go_wp2_with fail
    refine (sBranch H1.out a ha 3).mono ?_
    rintro e w2 ⟨rfl, hs, hu⟩
    have H2 := Lib.hid hs
    have HU2 := Lib.hid (HU1.out.trans hu (fun _ h _ => h))
    clear hs hu
    go_wp2_with fail
    go_end0
    exact ⟨rfl, fun _ => H2.out, fun h => absurd (HBB.out.symm.trans h) (by decide), HU2.out⟩
set_option maxRecDepth 20000 in
set_option maxHeartbeats 1000000 in
theorem ans41 (h : Stp w b bm g i x (-1) 1 M) (hop : i.op = 41) (l r pc : Nat) (hl : l < 4294967296) (hr : r < 4294967296) (hpc : pc < 4294967296) (cond : Nat) (hc : i.cond = (cond : Int)) (hcond : cond < 14) : Calls Try.prog 49 #[.pointer (some ⟨b, 0, none⟩), .int .u32 (l : Int), .int .u32 (r : Int), .int .u32 (pc : Int)] w fun e w' => e = .returned (.int .u32 ((ansP 41 0 cond 0 l r pc x M).out : Int)) ∧ Stp w' b bm g i (ansP 41 0 cond 0 l r pc x M).x (ansP 41 0 cond 0 l r pc x M).t (ansP 41 0 cond 0 l r pc x M).c (ansP 41 0 cond 0 l r pc x M).M ∧ Upd (BG b g) w w' := by
  have c24 := h.sp.c24
  rw [hop] at c24
  have H := Lib.hid h
  obtain ⟨a, ha⟩ : ∃ a, (pc + r) % 4294967296 = a := ⟨_, rfl⟩
  have hal : a < 4294967296 := by omega
  have HA := Lib.hid (show ((pc : Int) + (r : Int)) % 4294967296 = (a : Int) by omega)
  have HB := Lib.hid (sBranchIf h.sp a cond hal hc hcond)
  have HP : Hid (ansP 41 0 cond 0 l r pc x M = bif holdsP x cond then ⟨x.withR 15 a, -1, 3, M, 0⟩ else ⟨x, -1, 1, M, 0⟩) := Lib.hid (by rw [← ha]; rfl)
  obtain ⟨q, hq⟩ : ∃ q, ansP 41 0 cond 0 l r pc x M = q := ⟨_, rfl⟩
  rw [hq] at HP ⊢
  clear h hop ha hq hc
  go_enter Try.func49, Try.ntmps49
  go_wp2_with fail
  rw [HA.out]
  refine HB.out.mono ?_
  rintro e w1 ⟨rfl, hy, hn, hu⟩
  have HS : Hid (q.out = 0 ∧ Stp w1 b bm g i q.x q.t q.c q.M) := Lib.hid (by
    cases hb : holdsP x cond
    · have e := HP.out
      rw [hb] at e
      rw [e]
      exact ⟨rfl, H.out.box (hn hb) hu⟩
    · have e := HP.out
      rw [hb] at e
      rw [e]
      exact ⟨rfl, H.out.box (hy hb) hu⟩)
  have HU := Lib.hid (bg_b (g := g) hu)
  clear hy hn hu
  go_wp2_with fail
  go_ret
  rw [HS.out.1]
  exact ⟨rfl, HS.out.2, HU.out⟩
set_option maxRecDepth 20000 in
set_option maxHeartbeats 1000000 in
theorem ans39 (h : Stp w b bm g i x (-1) 1 M) (hop : i.op = 39) (l r pc : Nat) (hl : l < 4294967296) (hr : r < 4294967296) (hpc : pc < 4294967296) (list : Nat) (hli : i.imm = (list : Int)) (hll : list < 512) (hst : x.st = 0) : Calls Try.prog 49 #[.pointer (some ⟨b, 0, none⟩), .int .u32 (l : Int), .int .u32 (r : Int), .int .u32 (pc : Int)] w fun e w' => e = .returned (.int .u32 ((pushP list x M).out : Int)) ∧ Stp w' b bm g i (pushP list x M).x (pushP list x M).t (pushP list x M).c (pushP list x M).M ∧ Upd (BG b g) w w' := by
  have c24 := h.sp.c24
  rw [hop] at c24
  have H := Lib.hid h
  have HB := Lib.hid (sPush h list hll hli (by rw [hst]; decide) (by omega) _ rfl _ rfl)
  obtain ⟨q, hq⟩ : ∃ q, pushP list x M = q := ⟨_, rfl⟩
  have HP := Lib.hid hq
  rw [hq]
  clear h hop hq hli
  go_enter Try.func49, Try.ntmps49
  go_wp2_with fail
  refine HB.out.mono ?_
  rintro e w1 ⟨rfl, hy, hn, hu⟩
  have HS : Hid (q.out = 0 ∧ Stp w1 b bm g i q.x q.t q.c q.M) := Lib.hid (by
    cases hb : allSw (spLow (x.R 13) (regsP list 14).length) (regsP list 14).length
    · have e := HP.out
      unfold pushP at e
      rw [hb] at e
      rw [← e]
      exact ⟨rfl, hn hb⟩
    · have e := HP.out
      unfold pushP at e
      rw [hb] at e
      rw [← e]
      exact ⟨rfl, hy hb⟩)
  have HU := Lib.hid hu
  clear hy hn hu
  go_wp2_with fail
  go_ret
  rw [HS.out.1]
  exact ⟨rfl, HS.out.2, HU.out⟩
set_option maxRecDepth 20000 in
set_option maxHeartbeats 1000000 in
theorem ans40 (h : Stp w b bm g i x (-1) 1 M) (hop : i.op = 40) (l r pc : Nat) (hl : l < 4294967296) (hr : r < 4294967296) (hpc : pc < 4294967296) (list : Nat) (hli : i.imm = (list : Int)) (hll : list < 512) : Calls Try.prog 49 #[.pointer (some ⟨b, 0, none⟩), .int .u32 (l : Int), .int .u32 (r : Int), .int .u32 (pc : Int)] w fun e w' => e = .returned (.int .u32 ((popP list x M).out : Int)) ∧ Stp w' b bm g i (popP list x M).x (popP list x M).t (popP list x M).c (popP list x M).M ∧ Upd (BG b g) w w' := by
  have c24 := h.sp.c24
  rw [hop] at c24
  have HB := Lib.hid (sPop h list hll hli (by omega) _ rfl _ rfl)
  obtain ⟨q, hq⟩ : ∃ q, popP list x M = q := ⟨_, rfl⟩
  have HP := Lib.hid hq
  rw [hq]
  clear h hop hq hli
  go_enter Try.func49, Try.ntmps49
  go_wp2_with fail
  refine HB.out.mono ?_
  rintro e w1 ⟨rfl, hy, hu⟩
  have HS : Hid (q.out = 0 ∧ Stp w1 b bm g i q.x q.t q.c q.M) := Lib.hid (by
    rw [← HP.out]
    exact ⟨rfl, hy⟩)
  have HU := Lib.hid hu
  clear hy hu
  go_wp2_with fail
  go_ret
  rw [HS.out.1]
  exact ⟨rfl, HS.out.2, HU.out⟩
end
end Go.Proofs.Ytibmgmgkaacibaa

/- Stage 15: what 'known' asks; MemKnown. -/
import Derived.Test.YtplialeggcaplaaYg
namespace Go.Proofs.Ytplialeggcaplaa
open Go.RowKit Go.ChangeShapes Go.WideShapes Go.Deep
set_option linter.unusedVariables false
set_option linter.unusedSimpArgs false
theorem Upd.calm {w a b : World} {g : Nat} (h : Upd (fun _ => False) w a) (k : Upd (fun q => q = g) a b) (hg : w.heap.size ≤ g) : Upd (fun _ => False) w b :=
  h.trans k (fun q e hq => by omega)
theorem Upd.calm0 {w a b : World} (h : Upd (fun _ => False) w a) (k : Upd (fun _ => False) a b) : Upd (fun _ => False) w b := h.trans k (fun _ h _ => h)
set_option maxHeartbeats 1000000 in
theorem known15 (w : World) : Calls Try.prog 7 #[] w fun e w' => e = .returned (.bool true) ∧ Upd (fun _ => False) w w' := by
  go_enter Try.func7, Try.ntmps7
  go_wp2_with fail
  refine (mNew _).mono ?_
  rintro e w1 ⟨rfl, hm, hu⟩
  have HU := Lib.hid hu
  have HM := Lib.hid hm
  generalize hb : w.heap.size + 1 = b at *
  clear hu hm hb
  go_wp2_with fail
  refine (mWord HM.out 2 (by unfold rng64; omega)).mono ?_
  rw [show wdP (fun _ => 0) 2 = 0 from rfl, show okWd 2 = false from rfl]
  rintro e w2 ⟨rfl, hu⟩
  have HM := Lib.hid (HM.out.upd hu (fun h => h) (fun h => h))
  have HU := Lib.hid (HU.out.calm0 hu)
  clear hu
  go_wp2_with fail
  refine (mSetWord HM.out 0 (by unfold rng64; omega) 1 (by omega)).mono ?_
  rw [show okSw 0 = false from rfl]
  rintro e w3 ⟨rfl, -, hu⟩
  have HU := Lib.hid (HU.out.calm hu (Nat.le_refl _))
  clear hu
  go_wp2_with fail
  go_ret
  exact ⟨rfl, HU.out⟩
theorem vwm_two (w : World) (t : TypeId) (x y : Nat) (hx : x < 65536) (hy : y < 65536) : VwM (w.alloc (.cells #[.int .u16 (x : Int), .int .u16 (y : Int)] t)) (.slice (some ⟨w.heap.size, 0, none⟩) 2 2) [x, y] := by
  have hb : (w.alloc (.cells #[.int .u16 (x : Int), .int .u16 (y : Int)] t)).heap[w.heap.size]? = some (.cells #[.int .u16 (x : Int), .int .u16 (y : Int)] t (0, 0)) := by
    show (Array.push w.heap _)[w.heap.size]? = _
    simp
  refine ⟨by simp [hx, hy], .inr ⟨w.heap.size, 0, 2, rfl, by simp, by unfold maxLen; simp, fun j hj => ?_⟩⟩
  have : j = 0 ∨ j = 1 := by simp at hj; omega
  rcases this with rfl | rfl
  · unfold World.cell?; rw [hb]; rfl
  · unfold World.cell?; rw [hb]; rfl
theorem vwm_nil (w : World) : VwM w (.slice none 0 0) [] := ⟨by simp, .inl ⟨⟨none, rfl⟩, rfl⟩⟩
def K1 : Nat → Nat := ldM (fun _ => 0) 4 [4660, 43981]
def K2 : Nat → Nat := swM K1 262140 16909060
def K3 : Nat → Nat := sbM K2 131072 9
set_option maxHeartbeats 4000000 in
theorem memKnown_walk (w : World) : Calls Try.prog 3 #[] w fun e w' => e = .returned (.bool true) ∧ Upd (fun _ => False) w w' := by
  go_enter Try.func3, Try.ntmps3
  go_wp2_with fail
  refine (mNew _).mono ?_
  rintro e w1 ⟨rfl, hm, hu⟩
  have HU := Lib.hid hu
  have HM := Lib.hid hm
  have HG := Lib.hid (Nat.le_refl w.heap.size)
  obtain ⟨g, hg⟩ : ∃ g, g = w.heap.size := ⟨_, rfl⟩
  have HG := Lib.hid (Nat.le_of_eq hg.symm)
  rw [← hg] at HM
  rw [← hg]
  generalize hb : g + 1 = b at *
  clear hu hm hb hg
  go_wp2_with fail
  refine (known15 _).mono ?_
  rintro e w2 ⟨rfl, hu⟩
  have HM := Lib.hid (HM.out.upd hu (fun h => h) (fun h => h))
  have HU := Lib.hid (HU.out.calm0 hu)
  clear hu
  go_wp2_with fail
  refine (mLoad (HM.out.upd (Upd.alloc (fun _ => False) _ _) (fun h => h) (fun h => h)) 4 (by unfold rng64; omega) _ 2 [4660, 43981] (vwm_two _ _ 4660 43981 (by omega) (by omega)) (fun _ q hq => by simp [Value.ownBlock] at hq; have := HM.out.lt.2; omega) (by simp)).mono ?_
  rintro e w3 ⟨rfl, hm, hu⟩
  have HM : Hid (Mm 49 w3 b g K1) := Lib.hid hm
  have HU := Lib.hid ((HU.out.calm0 (Upd.alloc _ _ _)).calm hu HG.out)
  clear hu hm
  rw [show okLd 4 ([4660, 43981] : List Nat).length = true from rfl]
  go_wp2_with fail
  refine (mLoad HM.out 3 (by unfold rng64; omega) none 0 [] (vwm_nil _) (fun _ q hq => by simp [Value.ownBlock] at hq) (by simp)).mono ?_
  rintro e w3 ⟨rfl, hm, hu⟩
  have HM : Hid (Mm 49 w3 b g K1) := Lib.hid hm
  have HU := Lib.hid (HU.out.calm hu HG.out)
  clear hu hm
  rw [show okLd 3 ([] : List Nat).length = false from rfl]
  go_wp2_with fail
  refine (mLoad (HM.out.upd (Upd.alloc (fun _ => False) _ _) (fun h => h) (fun h => h)) 131070 (by unfold rng64; omega) _ 2 [1, 2] (vwm_two _ _ 1 2 (by omega) (by omega)) (fun _ q hq => by simp [Value.ownBlock] at hq; have := HM.out.lt.2; omega) (by simp)).mono ?_
  rintro e w3 ⟨rfl, hm, hu⟩
  have HM : Hid (Mm 49 w3 b g K1) := Lib.hid hm
  have HU := Lib.hid ((HU.out.calm0 (Upd.alloc _ _ _)).calm hu HG.out)
  clear hu hm
  rw [show okLd 131070 ([1, 2] : List Nat).length = false from rfl]
  go_wp2_with fail
  refine (mLoad HM.out 131072 (by unfold rng64; omega) none 0 [] (vwm_nil _) (fun _ q hq => by simp [Value.ownBlock] at hq) (by simp)).mono ?_
  rintro e w3 ⟨rfl, hm, hu⟩
  have HM : Hid (Mm 49 w3 b g K1) := Lib.hid hm
  have HU := Lib.hid (HU.out.calm hu HG.out)
  clear hu hm
  rw [show okLd 131072 ([] : List Nat).length = true from rfl]
  go_wp2_with fail
  refine (mHalf HM.out 6 (by unfold rng64; omega)).mono ?_
  rw [show hfP K1 6 = 43981 by decide +kernel, show okHf 6 = true from rfl]
  rintro e w3 ⟨rfl, hu⟩
  have HM := Lib.hid (HM.out.upd hu (fun h => h) (fun h => h))
  have HU := Lib.hid (HU.out.calm0 hu)
  clear hu
  go_wp2_with fail
  refine (mHalf HM.out 131072 (by unfold rng64; omega)).mono ?_
  rw [show hfP K1 131072 = 0 by decide +kernel, show okHf 131072 = false from rfl]
  rintro e w3 ⟨rfl, hu⟩
  have HM := Lib.hid (HM.out.upd hu (fun h => h) (fun h => h))
  have HU := Lib.hid (HU.out.calm0 hu)
  clear hu
  go_wp2_with fail
  refine (mWord HM.out 4 (by unfold rng64; omega)).mono ?_
  rw [show wdP K1 4 = 2882343476 by decide +kernel, show okWd 4 = true from rfl]
  rintro e w3 ⟨rfl, hu⟩
  have HM := Lib.hid (HM.out.upd hu (fun h => h) (fun h => h))
  have HU := Lib.hid (HU.out.calm0 hu)
  clear hu
  go_wp2_with fail
  refine (mSetWord HM.out 262140 (by unfold rng64; omega) 16909060 (by omega)).mono ?_
  rintro e w3 ⟨rfl, hm, hu⟩
  have HM : Hid (Mm 49 w3 b g K2) := Lib.hid hm
  have HU := Lib.hid (HU.out.calm hu HG.out)
  clear hu hm
  rw [show okSw 262140 = true from rfl]
  go_wp2_with fail
  refine (mByte HM.out 262140 (by unfold rng64; omega)).mono ?_
  rw [show byP K2 262140 = 4 by decide +kernel, show okBy 262140 = true from rfl]
  rintro e w3 ⟨rfl, rfl⟩
  go_wp2_with fail
  refine (mSetWord HM.out 262144 (by unfold rng64; omega) 1 (by omega)).mono ?_
  rintro e w3 ⟨rfl, hm, hu⟩
  have HM : Hid (Mm 49 w3 b g K2) := Lib.hid hm
  have HU := Lib.hid (HU.out.calm hu HG.out)
  clear hu hm
  rw [show okSw 262144 = false from rfl]
  go_wp2_with fail
  refine (mSetByte HM.out 131072 (by unfold rng64; omega) 9 (by omega)).mono ?_
  rintro e w3 ⟨rfl, hm, hu⟩
  have HM : Hid (Mm 49 w3 b g K3) := Lib.hid hm
  have HU := Lib.hid (HU.out.calm hu HG.out)
  clear hu hm
  rw [show okSb 131072 = true from rfl]
  go_wp2_with fail
  refine (mWord HM.out 131072 (by unfold rng64; omega)).mono ?_
  rw [show wdP K3 131072 = 9 by decide +kernel, show okWd 131072 = true from rfl]
  rintro e w3 ⟨rfl, hu⟩
  have HM := Lib.hid (HM.out.upd hu (fun h => h) (fun h => h))
  have HU := Lib.hid (HU.out.calm0 hu)
  clear hu
  go_wp2_with fail
  refine (mSetByte HM.out 4 (by unfold rng64; omega) 9 (by omega)).mono ?_
  rintro e w3 ⟨rfl, hm, hu⟩
  have HM : Hid (Mm 49 w3 b g K3) := Lib.hid hm
  have HU := Lib.hid (HU.out.calm hu HG.out)
  clear hu hm
  rw [show okSb 4 = false from rfl]
  go_wp2_with fail
  go_ret
  exact ⟨rfl, HU.out⟩
theorem memKnown_below (w : World) : Calls Try.prog 3 #[] w fun e w' => e = .returned (.bool true) ∧ Below w.heap.size w w' := (memKnown_walk w).mono fun _ _ h => ⟨h.1, h.2.below (Nat.le_refl _) (fun _ h => h.elim)⟩
end Go.Proofs.Ytplialeggcaplaa

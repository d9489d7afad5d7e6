/- The chapter's example, and more, as OctetKnown asks: the walk. -/
import Derived.Test.YtlaofiiajiflgaaRd
namespace Go.Proofs.Ytlaofiiajiflgaa
open Go.RowKit
set_option linter.unusedVariables false

set_option maxHeartbeats 2000000 in
set_option maxRecDepth 100000 in
theorem octetKnown_walk (w : World) : Calls Try.prog 3 #[] w fun e w' => e = .returned (.bool true) ∧ Below w.heap.size w w' := by
  obtain ⟨i0, hi, hz0, hz1, hz2⟩ := info_parts info5
  have hm1 := fun u : World => run_zeros u 256 256 rfl (by omega)
  have hm2 := fun u : World => run_zeros u 255 255 rfl (by omega)
  go_enter Try.func3, Try.ntmps3
  go_wp2_with fail
  have ha := Upd.alloc (fun _ => False) w (.cells (bv [255, 255, 255, 254, 1, 2]).toArray 5)
  refine (newReader _ _ [255, 255, 255, 254, 1, 2] (vw_lit w 5 (0, 0) [255, 255, 255, 254, 1, 2] _ 6 6 rfl rfl (by omega) (by unfold maxLen; omega) (by decide)) (by decide)).mono ?_
  rintro e w1 ⟨b, v, rfl, h1, h2, h3⟩
  have HU1 := Lib.hid (ha.trans h2 (fun _ h _ => h))
  have HF1 := Lib.hid h3
  have HR1 := Lib.hid h1
  clear h1 h2 h3 ha
  go_wp2_with fail
  refine (newWriter _).mono ?_
  rintro e w2 ⟨rfl, h1, h2⟩
  have HW2 := Lib.hid h1
  have HU2 := Lib.hid (HU1.out.trans h2 (fun _ h _ => h))
  have HR2 := Lib.hid (HR1.out.upd h2 (fun _ _ h => h))
  clear h1 h2
  go_wp2_with fail
  refine (known _).mono ?_
  rintro e w3 ⟨rfl, h2⟩
  have HW3 := Lib.hid (HW2.out.upd h2 (fun _ _ h => h))
  have HU3 := Lib.hid (HU2.out.trans h2 (fun _ h _ => h))
  have HR3 := Lib.hid (HR2.out.upd h2 (fun _ _ h => h))
  clear h2
  go_wp2_with fail
  have hb : w.heap.size < b := by have := HF1.out b (.inl rfl); simp at this; omega
  have hbw : b < w1.heap.size := HR1.out.lt
  refine (rS32 _ _ _ _ _ HR3.out).mono ?_
  rw [show takeP 4 false [255, 255, 255, 254, 1, 2] = ([255, 255, 255, 254], false, [1, 2]) from by decide, show sgn (beN ([255, 255, 255, 254], false, ([1, 2] : List Int)).1) = -2 from by decide]
  rintro e w4 ⟨rfl, v4, h1, h2, h3⟩
  have HR4 := Lib.hid h1
  have HW4 := Lib.hid (HW3.out.upd h2 (fun k hk e => by rcases hk with hk | hk; (omega); (simp [Value.ownBlock] at hk)))
  have HU4 := Lib.hid (HU3.out.trans h2 (fun i hi hlt => by omega))
  clear h1 h2 h3
  go_wp2_with fail
  refine (rU16 _ _ _ _ _ HR4.out).mono ?_
  rw [show takeP 2 false [1, 2] = ([1, 2], false, []) from by decide, show beN ([1, 2], false, ([] : List Int)).1 = 258 from by decide]
  rintro e w5 ⟨rfl, v5, h1, h2, h3⟩
  have HR5 := Lib.hid h1
  have HW5 := Lib.hid (HW4.out.upd h2 (fun k hk e => by rcases hk with hk | hk; (omega); (simp [Value.ownBlock] at hk)))
  have HU5 := Lib.hid (HU4.out.trans h2 (fun i hi hlt => by omega))
  clear h1 h2 h3
  go_wp2_with fail
  refine (rU8 _ _ _ _ _ HR5.out).mono ?_
  rw [show takeP 1 false [] = ([], true, []) from by decide, show beN (([] : List Int), true, ([] : List Int)).1 = 0 from by decide]
  rintro e w6 ⟨rfl, v6, h1, h2, h3⟩
  have HR6 := Lib.hid h1
  have HW6 := Lib.hid (HW5.out.upd h2 (fun k hk e => by rcases hk with hk | hk; (omega); (simp [Value.ownBlock] at hk)))
  have HU6 := Lib.hid (HU5.out.trans h2 (fun i hi hlt => by omega))
  clear h1 h2 h3
  go_wp2_with fail
  refine (rLack _ _ _ _ _ HR6.out).mono ?_
  rintro e w7 ⟨rfl, rfl⟩
  go_wp2_with fail
  refine (rLeft _ _ _ _ _ HR6.out).mono ?_
  rintro e w7 ⟨rfl, rfl⟩
  go_wp2_with fail
  have ha := Upd.alloc (fun _ => False) w6 (.cells (zerosA 256) 5)
  have HW8 := Lib.hid (HW6.out.upd ha (fun _ _ h => h))
  have HU8 := Lib.hid (HU6.out.trans ha (fun _ h _ => h))
  have HV := Lib.hid (vw_zeros w6 256 (by omega))
  clear ha
  refine (short_no _ _ _ _ HV.out (by simp)).mono ?_
  rintro e w8 ⟨rfl, rfl⟩
  clear HV
  go_wp2_with fail
  refine (bytesOf _ _ _ _ HW8.out (by simp)).mono ?_
  rintro e w9 ⟨v9, rfl, hN⟩
  obtain ⟨a9, c9, rfl⟩ := ownsRow_slice hN.1
  have HW9 := Lib.hid (HW8.out.upd hN.2.1 (fun _ _ h => h))
  have HU9 := Lib.hid (HU8.out.trans hN.2.1 (fun _ h _ => h))
  clear hN
  go_wp2_with fail
  have ha := Upd.alloc (fun _ => False) w9 (.cells (zerosA 255) 5)
  have HW10 := Lib.hid (HW9.out.upd ha (fun _ _ h => h))
  have HU10 := Lib.hid (HU9.out.trans ha (fun _ h _ => h))
  have HV := Lib.hid (vw_zeros w9 255 (by omega))
  clear ha
  have hlt9 := HW9.out.lt
  refine (short _ _ _ _ _ _ HW10.out HV.out (fun w' hu => HV.out.upd hu fun k hk h => ?_) (by simp) (by simp)).mono ?_
  · rcases h with h | h
    · simp [Value.ownBlock] at hk; omega
    · simp [Value.ownBlock] at h
  rintro e w11 ⟨rfl, v11, h1, h2, h3⟩
  have HW11 := Lib.hid h1
  have HU11 := Lib.hid (HU10.out.trans h2 (fun i hi hlt => by
    rcases hi with hi | hi
    · omega
    · simp [Value.ownBlock] at hi))
  clear h1 h2 h3 HV
  go_wp2_with fail
  refine (bytesOf _ _ _ _ HW11.out (by simp)).mono ?_
  rintro e w12 ⟨v12, rfl, hN⟩
  obtain ⟨a12, c12, rfl⟩ := ownsRow_slice hN.1
  have HU12 := Lib.hid (HU11.out.trans hN.2.1 (fun _ h _ => h))
  clear hN
  go_wp2
  go_ret
  exact ⟨rfl, HU12.out.below (Nat.le_refl _) (fun _ h => h.elim)⟩
end Go.Proofs.Ytlaofiiajiflgaa

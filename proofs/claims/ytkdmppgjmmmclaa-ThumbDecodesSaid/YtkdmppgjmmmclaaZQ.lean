/- The walk of ThumbEncodes. -/
import Derived.Test.YtkdmppgjmmmclaaZO
import Derived.Test.YtkdmppgjmmmclaaZC
namespace Go.Proofs.Ytkdmppgjmmmclaa
open Go.RowKit
set_option linter.unusedVariables false
set_option linter.unusedSimpArgs false
set_option maxRecDepth 20000 in
set_option maxHeartbeats 4000000 in
theorem thumbEncodes_walk (x y : I6) (which : Bool) (hx : x.Ok) (hy : y.Ok) (w : World) : Calls Try.prog 4 #[x.val, y.val, .bool which] w fun e w' => e = .returned (.bool true) ∧ New w w' := by
  have HX := Lib.hid hx
  have HY := Lib.hid hy
  clear hx hy
  go_enter Try.func4, Try.ntmps4
  go_wp2_with fail
  refine (lIns x HX.out _).mono ?_
  rintro e w1 ⟨⟨i, hi, rfl⟩, h1⟩
  obtain ⟨hk0, k0, k1, k2, k3, k4, k5⟩ : w.heap.size + 1 < w1.heap.size ∧ w1.cell? ⟨w.heap.size + 1, 0, none⟩ = some (.int .i64 y.op) ∧ w1.cell? ⟨w.heap.size + 1, 1, none⟩ = some (.int .i64 y.d) ∧ w1.cell? ⟨w.heap.size + 1, 2, none⟩ = some (.int .i64 y.n) ∧ w1.cell? ⟨w.heap.size + 1, 3, none⟩ = some (.int .i64 y.m) ∧ w1.cell? ⟨w.heap.size + 1, 4, none⟩ = some (.int .i64 y.imm) ∧ w1.cell? ⟨w.heap.size + 1, 5, none⟩ = some (.int .i64 y.cond) := by
    have h2 := I6.kept (w := w.alloc _) (i := y) h1
    simpa using h2
  have HI := Lib.hid hi
  have HW1 := Lib.hid (New.trans (New.trans (New.alloc _ _) (New.alloc _ _)) h1)
  clear hi h1
  generalize hb5 : w.heap.size + 1 = b5 at *
  clear hb5
  have HB9 := Lib.hid (heap_alloc_last w1 (.cells i.cells 23))
  have HN9 := Lib.hid (New.trans HW1.out (New.alloc w1 (.cells i.cells 23)))
  cases which
  · obtain ⟨c0, c1, c2, c3, c4, c5, cf, -⟩ := I6.box HB9.out
    have HW := HN9
    clear k0 k1 k2 k3 k4 k5 HB9 HN9
    go_wp2_with fail
    refine (tEncode i HI.out _).mono ?_
    rintro e w2 ⟨hres, h2⟩
    replace c0 := h2.keep c0
    replace c1 := h2.keep c1
    replace c2 := h2.keep c2
    replace c3 := h2.keep c3
    replace c4 := h2.keep c4
    replace c5 := h2.keep c5
    have HW2 := Lib.hid (New.trans HW.out h2)
    clear HW
    rcases hres with ⟨hr, rfl⟩ | ⟨hr, u, rfl, hu⟩
    · have HR := Lib.hid hr
      clear hr h2
      go_wp2_with fail
      refine (qRight i _).mono ?_
      rintro e w3 ⟨rfl, h3⟩
      rw [← right_eq, HR.out]
      replace c0 := h3.keep c0
      replace c1 := h3.keep c1
      replace c2 := h3.keep c2
      replace c3 := h3.keep c3
      replace c4 := h3.keep c4
      replace c5 := h3.keep c5
      have HW3 := Lib.hid (New.trans HW2.out h3)
      clear h3 HW2
      go_wp2_with fail
      refine (known14 _).mono ?_
      rintro e w4 ⟨rfl, h4⟩
      replace c0 := h4.keep c0
      replace c1 := h4.keep c1
      replace c2 := h4.keep c2
      replace c3 := h4.keep c3
      replace c4 := h4.keep c4
      replace c5 := h4.keep c5
      have HW4 := Lib.hid (New.trans HW3.out h4)
      clear h4 HW3
      go_wp2_with fail
      refine (tRight i HI.out _).mono ?_
      rintro e w5 ⟨rfl, h5⟩
      rw [HR.out]
      go_wp2_with fail
      go_ret
      exact ⟨rfl, New.trans HW4.out h5⟩
    · have HR := Lib.hid hr
      obtain ⟨ua, uc, rfl, -⟩ := hu.slice
      have HU := Lib.hid hu
      obtain ⟨n, hn⟩ : ∃ n, (encP i).length = n := ⟨_, rfl⟩
      rw [hn] at HU ⊢
      clear hr hu h2
      go_wp2_with fail
      refine (qRight i _).mono ?_
      rintro e w3 ⟨rfl, h3⟩
      rw [← right_eq, HR.out]
      replace c0 := h3.keep c0
      replace c1 := h3.keep c1
      replace c2 := h3.keep c2
      replace c3 := h3.keep c3
      replace c4 := h3.keep c4
      replace c5 := h3.keep c5
      have HW3 := Lib.hid (New.trans HW2.out h3)
      have HU3 := Lib.hid (HU.out.new h3)
      clear h3 HW2 HU
      go_wp2_with fail
      refine (known14 _).mono ?_
      rintro e w4 ⟨rfl, h4⟩
      replace c0 := h4.keep c0
      replace c1 := h4.keep c1
      replace c2 := h4.keep c2
      replace c3 := h4.keep c3
      replace c4 := h4.keep c4
      replace c5 := h4.keep c5
      have HW4 := Lib.hid (New.trans HW3.out h4)
      have HU4 := Lib.hid (HU3.out.new h4)
      clear h4 HW3 HU3
      go_wp2_with fail
      refine (tRight i HI.out _).mono ?_
      rintro e w5 ⟨rfl, h5⟩
      rw [HR.out]
      replace c0 := h5.keep c0
      replace c1 := h5.keep c1
      replace c2 := h5.keep c2
      replace c3 := h5.keep c3
      replace c4 := h5.keep c4
      replace c5 := h5.keep c5
      have HW5 := Lib.hid (New.trans HW4.out h5)
      have HU5 := Lib.hid (HU4.out.new h5)
      clear h5 HW4 HU4
      go_wp2_with fail
      refine (qEncode i HR.out _).mono ?_
      rintro e w6 ⟨⟨v, rfl, hv⟩, h6⟩
      have HV := Lib.hid hv
      have HW6 := Lib.hid (New.trans HW5.out h6)
      have HU6 := Lib.hid (HU5.out.new h6)
      clear h6 hv HW5 HU5 c0 c1 c2 c3 c4 c5
      go_wp2_with fail
      refine (lHalves _ _ _ _ _ HU6.out HV.out).mono ?_
      rintro e w7 ⟨rfl, q, rfl⟩
      rw [decide_eq_true rfl]
      go_wp2_with fail
      go_ret
      exact ⟨rfl, New.trans HW6.out (Upd.drewN _ _ _)⟩
  · have HB8 := Lib.hid (heap_alloc_last w1 (.cells y.cells 23))
    have HW := Lib.hid (New.trans HW1.out (New.alloc w1 (.cells y.cells 23)))
    clear HI HB9 HN9
    have HI := HY
    go_wp2_with fail
    obtain ⟨c0, c1, c2, c3, c4, c5, cf, -⟩ := I6.box HB8.out
    clear k0 k1 k2 k3 k4 k5 HB8
    refine (tEncode y HI.out _).mono ?_
    rintro e w2 ⟨hres, h2⟩
    replace c0 := h2.keep c0
    replace c1 := h2.keep c1
    replace c2 := h2.keep c2
    replace c3 := h2.keep c3
    replace c4 := h2.keep c4
    replace c5 := h2.keep c5
    have HW2 := Lib.hid (New.trans HW.out h2)
    clear HW
    rcases hres with ⟨hr, rfl⟩ | ⟨hr, u, rfl, hu⟩
    · have HR := Lib.hid hr
      clear hr h2
      go_wp2_with fail
      refine (qRight y _).mono ?_
      rintro e w3 ⟨rfl, h3⟩
      rw [← right_eq, HR.out]
      replace c0 := h3.keep c0
      replace c1 := h3.keep c1
      replace c2 := h3.keep c2
      replace c3 := h3.keep c3
      replace c4 := h3.keep c4
      replace c5 := h3.keep c5
      have HW3 := Lib.hid (New.trans HW2.out h3)
      clear h3 HW2
      go_wp2_with fail
      refine (known14 _).mono ?_
      rintro e w4 ⟨rfl, h4⟩
      replace c0 := h4.keep c0
      replace c1 := h4.keep c1
      replace c2 := h4.keep c2
      replace c3 := h4.keep c3
      replace c4 := h4.keep c4
      replace c5 := h4.keep c5
      have HW4 := Lib.hid (New.trans HW3.out h4)
      clear h4 HW3
      go_wp2_with fail
      refine (tRight y HI.out _).mono ?_
      rintro e w5 ⟨rfl, h5⟩
      rw [HR.out]
      go_wp2_with fail
      go_ret
      exact ⟨rfl, New.trans HW4.out h5⟩
    · have HR := Lib.hid hr
      obtain ⟨ua, uc, rfl, -⟩ := hu.slice
      have HU := Lib.hid hu
      obtain ⟨n, hn⟩ : ∃ n, (encP y).length = n := ⟨_, rfl⟩
      rw [hn] at HU ⊢
      clear hr hu h2
      go_wp2_with fail
      refine (qRight y _).mono ?_
      rintro e w3 ⟨rfl, h3⟩
      rw [← right_eq, HR.out]
      replace c0 := h3.keep c0
      replace c1 := h3.keep c1
      replace c2 := h3.keep c2
      replace c3 := h3.keep c3
      replace c4 := h3.keep c4
      replace c5 := h3.keep c5
      have HW3 := Lib.hid (New.trans HW2.out h3)
      have HU3 := Lib.hid (HU.out.new h3)
      clear h3 HW2 HU
      go_wp2_with fail
      refine (known14 _).mono ?_
      rintro e w4 ⟨rfl, h4⟩
      replace c0 := h4.keep c0
      replace c1 := h4.keep c1
      replace c2 := h4.keep c2
      replace c3 := h4.keep c3
      replace c4 := h4.keep c4
      replace c5 := h4.keep c5
      have HW4 := Lib.hid (New.trans HW3.out h4)
      have HU4 := Lib.hid (HU3.out.new h4)
      clear h4 HW3 HU3
      go_wp2_with fail
      refine (tRight y HI.out _).mono ?_
      rintro e w5 ⟨rfl, h5⟩
      rw [HR.out]
      replace c0 := h5.keep c0
      replace c1 := h5.keep c1
      replace c2 := h5.keep c2
      replace c3 := h5.keep c3
      replace c4 := h5.keep c4
      replace c5 := h5.keep c5
      have HW5 := Lib.hid (New.trans HW4.out h5)
      have HU5 := Lib.hid (HU4.out.new h5)
      clear h5 HW4 HU4
      go_wp2_with fail
      refine (qEncode y HR.out _).mono ?_
      rintro e w6 ⟨⟨v, rfl, hv⟩, h6⟩
      have HV := Lib.hid hv
      have HW6 := Lib.hid (New.trans HW5.out h6)
      have HU6 := Lib.hid (HU5.out.new h6)
      clear h6 hv HW5 HU5 c0 c1 c2 c3 c4 c5
      go_wp2_with fail
      refine (lHalves _ _ _ _ _ HU6.out HV.out).mono ?_
      rintro e w7 ⟨rfl, q, rfl⟩
      rw [decide_eq_true rfl]
      go_wp2_with fail
      go_ret
      exact ⟨rfl, New.trans HW6.out (Upd.drewN _ _ _)⟩
theorem thumbEncodes_below (x y : I6) (which : Bool) (hx : x.Ok) (hy : y.Ok) (w : World) : Calls Try.prog 4 #[x.val, y.val, .bool which] w fun e w' => e = .returned (.bool true) ∧ Below w.heap.size w w' := (thumbEncodes_walk x y which hx hy w).mono fun _ _ h => ⟨h.1, h.2.below (Nat.le_refl _) (fun _ h => h.elim)⟩
end Go.Proofs.Ytkdmppgjmmmclaa

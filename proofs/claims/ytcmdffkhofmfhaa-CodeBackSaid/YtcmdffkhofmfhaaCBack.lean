/- CodeBack: what may be is laid, and read back: the walk. -/
import Derived.Test.YtcmdffkhofmfhaaCi
import Derived.Test.YtcmdffkhofmfhaaCk
import Derived.Test.YtcmdffkhofmfhaaCBackP
import Derived.Outline
namespace Go.Proofs.Ytcmdffkhofmfhaa
open Go.RowKit
set_option linter.unusedVariables false

set_option maxHeartbeats 4000000 in
theorem back3_walk (o a b c : Int) (vm : Value) (more : List Int) (W : World) (wo : wf64 o) (wa : wf64 a) (wb : wf64 b) (wc : wf64 c) (hm : Vw W vm more) (hlen : more.length ≤ 140737488351232) :
    Calls Try.prog 6 #[raw4 o a b c, vm] W fun e w' => e = .returned (.bool true) ∧ Below W.heap.size W w' := by
  have HR := Lib.hid (fun w => instr o a b c w wo wa wb wc)
  have HA := Lib.hid (Upd.alloc (fun _ => False) W (.cells #[.int .i64 o, .int .i64 a, .int .i64 b, .int .i64 c] 39))
  have HM := Lib.hid hm
  obtain ⟨am, cm, rfl, hl1, hl2⟩ := hm.slice
  clear wo wa wb wc hm
  go_enter Try.func6, Try.ntmps6
  go_wp2_with fail
  refine (HR.out _).mono ?_
  rintro e w1 ⟨⟨op, a', b', rfl, _, _, _⟩, hu⟩
  have hu1 := (HA.out.trans hu (fun _ h _ => h)).trans (Upd.alloc (fun _ => False) w1 (.cells #[.int .i64 op, .int .i64 a', .int .i64 b'] 29)) (fun _ h _ => h)
  have HU1 := Lib.hid hu1
  have HI1 := Lib.hid (is3_new 29 w1 (.int .i64 op) (.int .i64 a') (.int .i64 b'))
  have hs1 : W.heap.size < w1.heap.size := by have := hu.size; simp at this; omega
  clear hu hu1 HA HR
  go_wp2_with fail
  refine (newWriter _).mono ?_
  rintro e w2 ⟨rfl, h1, h2⟩
  rw [show (w1.alloc (.cells #[.int .i64 op, .int .i64 a', .int .i64 b'] 29)).heap.size = w1.heap.size + 1 by simp] at h1 ⊢
  have HW2 := Lib.hid h1
  have HI2 := Lib.hid (HI1.out.upd h2 (fun h => h))
  have HU2 := Lib.hid (HU1.out.trans h2 (fun _ h _ => h))
  clear h1 h2 HI1 HU1
  generalize hbi : w1.heap.size = bi at *
  clear hbi
  go_wp2_with fail
  refine (known3 _).mono ?_
  rintro e w3 ⟨rfl, h2⟩
  have HW3 := Lib.hid (HW2.out.upd h2 (fun _ _ h => h))
  have hi3 := HI2.out.upd h2 (fun h => h)
  have HI3 := Lib.hid hi3
  have HU3 := Lib.hid (HU2.out.trans h2 (fun _ h _ => h))
  have i0 := hi3.c0
  have i1 := hi3.c1
  have i2 := hi3.c2
  clear h2 HW2 HI2 HU2 hi3
  cases hr : rightB op a' b' with
  | false =>
    have HRR := Lib.hid hr
    clear hr
    go_wp2_with fail
    refine (cLay_no op a' b' _ _ (.inr HRR.out)).mono ?_
    rintro e w4 ⟨rfl, h2⟩
    have hi4 := HI3.out.upd h2 (fun h => h)
    have j0 := hi4.c0
    have j1 := hi4.c1
    have j2 := hi4.c2
    have HU4 := Lib.hid (HU3.out.trans h2 (fun _ h _ => h))
    clear h2 hi4 i0 i1 i2
    go_wp2_with fail
    refine (cRight _ _ _ _).mono ?_
    rw [HRR.out]
    rintro e w5 ⟨rfl, h2⟩
    have HU5 := Lib.hid (HU4.out.trans h2 (fun _ h _ => h))
    clear h2
    go_wp2_with fail
    go_ret
    exact ⟨rfl, HU5.out.below (Nat.le_refl _) (fun _ h => h.elim)⟩
  | true =>
    have HRR := Lib.hid hr
    clear hr
    go_wp2_with fail
    refine (cLay op a' b' _ _ _ [] HW3.out (by simp) HRR.out).mono ?_
    rw [List.nil_append]
    rintro e w4 ⟨rfl, v4, g1, g2, g3⟩
    have hfp : ∀ k, fp (bi + 1) (.slice none 0 0) k → k = bi + 1 := fun k hk => by
      rcases hk with hk | hk
      · exact hk
      · simp [Value.ownBlock] at hk
    have hi4 := HI3.out.upd g2 (fun hf => by have := hfp _ hf; omega)
    have HI4 := Lib.hid hi4
    have j0 := hi4.c0
    have j1 := hi4.c1
    have j2 := hi4.c2
    have HU4 := Lib.hid (HU3.out.trans g2 (fun i hi hlt => by have := hfp _ hi; omega))
    have HW4 := Lib.hid g1
    have hv4 : ∀ k, v4.ownBlock = some k → W.heap.size ≤ k := fun k hk => by
      rcases g3 k hk with h | h
      · simp [Value.ownBlock] at h
      · have := HU3.out.size; omega
    have hv4' : ∀ k, v4.ownBlock = some k → k ≠ bi := fun k hk => by
      rcases g3 k hk with h | h
      · simp [Value.ownBlock] at h
      · have := HI3.out.lt; omega
    have HV4 := Lib.hid hv4
    have HV4' := Lib.hid hv4'
    clear g1 g2 g3 hfp hi4 hv4 hv4' i0 i1 i2
    go_wp2_with fail
    refine (cRight _ _ _ _).mono ?_
    rw [HRR.out]
    rintro e w5 ⟨rfl, h2⟩
    have HI5 := Lib.hid (HI4.out.upd h2 (fun h => h))
    have HW5 := Lib.hid (HW4.out.upd h2 (fun _ _ h => h))
    have HU5 := Lib.hid (HU4.out.trans h2 (fun _ h _ => h))
    clear h2 j0 j1 j2
    have HLL := Lib.hid (lay_len op a' b')
    go_wp2_with fail
    refine (bytesOf _ _ _ _ HW5.out (by have := HLL.out; omega)).mono ?_
    rintro e w6 ⟨v6, rfl, hN⟩
    obtain ⟨a6, c6, rfl⟩ := ownsRow_slice hN.1
    have HI6 := Lib.hid (HI5.out.upd hN.2.1 (fun h => h))
    have HW6 := Lib.hid (HW5.out.upd hN.2.1 (fun _ _ h => h))
    have HU6 := Lib.hid (HU5.out.trans hN.2.1 (fun _ h _ => h))
    clear hN
    have hl6 : 1 ≤ (layB op a' b').length := by simp [layB]
    generalize hn6 : (layB op a' b').length = n6 at *
    have HN6 := Lib.hid hn6
    clear hn6
    go_wp2_with fail
    refine (raw _ _ _ _ _ more HW6.out (HM.out.upd HU6.out (fun _ _ h => h)) (by have := HLL.out; have := HN6.out; omega)).mono ?_
    rintro e w7 ⟨rfl, v7, g1, g2, g3⟩
    have HI7 := Lib.hid (HI6.out.upd g2 (fun hf => by
      rcases hf with hf | hf
      · omega
      · exact HV4'.out _ hf rfl))
    have HU7 := Lib.hid (HU6.out.trans g2 (fun i hi hlt => by
      rcases hi with hi | hi
      · omega
      · have := HV4.out _ hi; omega))
    have HW7 := Lib.hid g1
    clear g1 g2 g3
    go_wp2_with fail
    refine (bytesOf _ _ _ _ HW7.out (by have := HLL.out; have := HN6.out; simp; omega)).mono ?_
    rintro e w8 ⟨v8, rfl, hN⟩
    have HV8 := Lib.hid (hN.vw HW7.out.byte)
    have HI8 := Lib.hid (HI7.out.upd hN.2.1 (fun h => h))
    have HU8 := Lib.hid (HU7.out.trans hN.2.1 (fun _ h _ => h))
    clear hN
    go_wp2_with fail
    refine (newReader _ _ _ HV8.out (by have := HLL.out; have := HN6.out; simp; omega)).mono ?_
    rintro e w9 ⟨b9, v9, rfl, h1, h2, h3⟩
    have HR9 := Lib.hid h1
    have HI9 := Lib.hid (HI8.out.upd h2 (fun h => h))
    have HU9 := Lib.hid (HU8.out.trans h2 (fun _ h _ => h))
    have HF9 := Lib.hid (show w8.heap.size ≤ b9 from h3 b9 (.inl rfl))
    clear h1 h2 h3
    have HBK := Lib.hid (read_back HRR.out more)
    go_wp2_with fail
    refine (cRead _ _ _ false _ HR9.out).mono ?_
    rw [HBK.out.1, HBK.out.2.1, HBK.out.2.2]
    rintro e w10 (⟨h0, _⟩ | ⟨_, rfl, v10, k1, k2, k3⟩)
    · exact absurd rfl h0
    have hA := Upd.alloc (fun _ => False) w10 (.cells #[.int .i64 op, .int .i64 a', .int .i64 b'] 29)
    have hi10 := (HI9.out.upd k2 (fun e => by have := HF9.out; have := HI8.out.lt; omega))
    have HK := Lib.hid (k1.upd hA (fun _ _ h => h))
    have HU10 := Lib.hid ((HU9.out.trans k2 (fun i hi hlt => by have := HF9.out; have := HU8.out.size; omega)).trans hA (fun _ h _ => h))
    have y0 := hi10.c0
    have y1 := hi10.c1
    have y2 := hi10.c2
    have hi11 := hi10.upd hA (fun h => h)
    have z0 := hi11.c0
    have z1 := hi11.c1
    have z2 := hi11.c2
    clear hA hi10 hi11 k1 k2 k3
    go_wp2_with fail
    refine (rLeft _ _ _ _ _ HK.out).mono ?_
    rintro e w11 ⟨rfl, rfl⟩
    go_wp2_with fail
    go_ret
    exact ⟨ret_bool (decide_eq_true (by omega)), HU10.out.below (Nat.le_refl _) (fun _ h => h.elim)⟩
end Go.Proofs.Ytcmdffkhofmfhaa

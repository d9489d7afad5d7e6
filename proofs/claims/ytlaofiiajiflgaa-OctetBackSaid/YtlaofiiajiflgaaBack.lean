/- OctetBack: the walk. -/
import Derived.Test.YtlaofiiajiflgaaBackP
import Derived.Deep.RegionHeld3
namespace Go.Proofs.Ytlaofiiajiflgaa
open Go.RowKit
set_option linter.unusedVariables false

set_option maxHeartbeats 2000000 in
set_option maxRecDepth 100000 in
theorem back_walk (v : Value) (L : List StepR) (W : World) (hv : StepsAt W v L) : Calls Try.prog 6 #[v] W fun e w' => e = .returned (.bool true) ∧ Below W.heap.size W w' := by
  obtain ⟨i0, hi, hz0, hz1, hz2⟩ := info_parts info5
  have HV := Lib.hid hv
  obtain ⟨a, c, rfl⟩ := hv.slice
  clear hv
  go_enter Try.func6, Try.ntmps6
  go_wp2_with fail
  refine (newWriter _).mono ?_
  rintro e w1 ⟨rfl, h1, h2⟩
  have HW1 := Lib.hid h1
  have HU1 := Lib.hid h2
  clear h1 h2
  go_wp2_with fail
  refine (known _).mono ?_
  rintro e w2 ⟨rfl, h2⟩
  have HM := Lib.hid (show Mine 52 W W.heap.size [] w2 from ⟨_, HW1.out.upd h2 (fun _ _ h => h), HU1.out.trans h2 (fun _ h _ => h), fun k hk => by rcases hk with h | h; (omega); (simp [Value.ownBlock] at h)⟩)
  clear h2 HW1 HU1
  generalize hwb : W.heap.size = wb at *
  have HB := Lib.hid hwb
  clear hwb
  go_wp2_with fail
  go_loopw [4] (fun i wr => ∃ k : Nat, k ≤ L.length ∧ k ≤ 40 ∧ i = .int .i64 k ∧ Hid (Mine 52 W wb (layAll (L.take k)) wr)) (fun i _ => 40 - (intOf i).toNat)
  case atStart => exact ⟨0, Nat.zero_le _, by omega, rfl, HM⟩
  case round =>
    obtain ⟨k, hk1, hk2, rfl, HM1⟩ := hrel
    by_cases hlt : k < L.length
    · by_cases h40 : k < 40
      · obtain ⟨g, off, vb, rfl, hl, hm, hg, hc0, hc1, hc2, hvb, ww, wn⟩ := steps_at HV.out HM1.out.below hlt
        have HS := Lib.hid (layAll_take L k hlt)
        have HL := Lib.hid (layAll_len (L.take k))
        generalize hs : L.getD k default = s at *
        have HSS := Lib.hid hs
        have Hvb := Lib.hid hvb
        clear hs hvb HM
        unfold maxLen at hm
        go_wp2_with fail
        refine (pick _ s.what 4 ww (by omega) (by omega)).mono ?_
        rintro e w3 ⟨rfl, rfl⟩
        obtain ⟨v, hw, hu, hf⟩ := HM1.out
        have HW := Lib.hid hw
        have HU := Lib.hid hu
        have HF := Lib.hid hf
        have hlen : (layAll (L.take k)).length ≤ 10240 := by have := HL.out; simp at this; omega
        clear hw hu hf HL
        by_cases q0 : s.what % 4 = 0
        · have HQ := Lib.hid (show layAll (L.take (k + 1)) = layAll (L.take k) ++ [s.n % 256 % 256] by rw [HS.out]; unfold layB; rw [if_pos q0])
          rw [q0]
          clear q0
          go_wp2_with fail
          refine (pick _ s.n 256 wn (by omega) (by omega)).mono ?_
          rintro e w4 ⟨rfl, rfl⟩
          go_wp2_with fail
          refine (wU8 _ wb v _ (s.n % 256) HW.out (by omega)).mono ?_
          rintro e w5 ⟨rfl, hL⟩
          have HM2 := Lib.hid (mine_step HU.out HF.out hL)
          rw [← HQ.out] at HM2
          clear hL
          go_wp2_with fail
          go_roundw
          case rel => exact ⟨k + 1, by omega, by omega, by go_num, HM2⟩
          case measure => simp [intOf]; omega
        · by_cases q1 : s.what % 4 = 1
          · have HQ := Lib.hid (show layAll (L.take (k + 1)) = layAll (L.take k) ++ [s.n % 65536 / 256 % 256, s.n % 65536 % 256] by rw [HS.out]; unfold layB; rw [if_neg q0, if_pos q1])
            rw [q1]
            clear q0 q1
            go_wp2_with fail
            refine (pick _ s.n 65536 wn (by omega) (by omega)).mono ?_
            rintro e w4 ⟨rfl, rfl⟩
            go_wp2_with fail
            refine (wU16 _ wb v _ (s.n % 65536) HW.out (by omega)).mono ?_
            rintro e w5 ⟨rfl, hL⟩
            have HM2 := Lib.hid (mine_step HU.out HF.out hL)
            rw [← HQ.out] at HM2
            clear hL
            go_wp2_with fail
            go_roundw
            case rel => exact ⟨k + 1, by omega, by omega, by go_num, HM2⟩
            case measure => simp [intOf]; omega
          · by_cases q2 : s.what % 4 = 2
            · have HQ := Lib.hid (show layAll (L.take (k + 1)) = layAll (L.take k) ++ [wrap32 s.n / 16777216 % 256, wrap32 s.n / 65536 % 256, wrap32 s.n / 256 % 256, wrap32 s.n % 256] by rw [HS.out]; unfold layB; rw [if_neg q0, if_neg q1, if_pos q2])
              rw [q2]
              clear q0 q1 q2
              go_wp2_with fail
              rw [w64_32]
              refine (wS32 _ wb v _ (wrap32 s.n) HW.out (by omega)).mono ?_
              rintro e w5 ⟨rfl, hL⟩
              have HM2 := Lib.hid (mine_step HU.out HF.out hL)
              rw [← HQ.out] at HM2
              clear hL
              go_wp2_with fail
              go_roundw
              case rel => exact ⟨k + 1, by omega, by omega, by go_num, HM2⟩
              case measure => simp [intOf]; omega
            · have HQ := Lib.hid (show layAll (L.take (k + 1)) = layAll (L.take k) ++ (((s.bs.take 255).length : Int) :: s.bs.take 255) by rw [HS.out]; unfold layB; rw [if_neg q0, if_neg q1, if_neg q2])
              have b0 : ((s.what % 4 : Int) == 0) = false := by simpa using q0
              have b1 : ((s.what % 4 : Int) == 1) = false := by simpa using q1
              have b2 : ((s.what % 4 : Int) == 2) = false := by simpa using q2
              clear q0 q1 q2
              generalize s.what % 4 = q at *
              go_wp2_with fail
              refine (few _ vb s.bs 255 (Hvb.out.below (W := W) (HU.out.below (Nat.le_refl _) (fun _ h => h.elim))) (by omega) (by omega) (by omega)).mono ?_
              rintro e w4 ⟨x, rfl, hN⟩
              have hap := new_apart HW.out hN
              have hvw := hN.vw (fun y hy => Hvb.out.1 y (List.mem_of_mem_take hy))
              have hw4 := HW.out.upd hN.2.1 (fun _ _ h => h)
              have HU4 := Lib.hid (HU.out.trans hN.2.1 (fun _ h _ => h))
              have HA := Lib.hid hap
              have HV4 := Lib.hid hvw
              have HW4 := Lib.hid hw4
              clear hN hap hvw hw4
              go_wp2_with fail
              refine (short _ wb v x _ _ HW4.out HV4.out (fun w' hu => HV4.out.upd hu HA.out) (by simp; omega) (by omega)).mono ?_
              rintro e w5 ⟨rfl, hL⟩
              have HM2 := Lib.hid (mine_step HU4.out HF.out hL)
              clear hL
              go_wp2_with fail
              go_roundw
              case rel => exact ⟨k + 1, by omega, by omega, by go_num, by rw [HQ.out]; exact HM2⟩
              case measure => simp [intOf]; omega
      · have HT := Lib.hid (show L.take k = L.take 40 by rw [show k = 40 by omega])
        rw [HT.out] at HM1
        obtain ⟨v, hw, hu, hf⟩ := HM1.out
        have HW := Lib.hid hw
        have HU := Lib.hid hu
        have hlen : (layAll (L.take 40)).length ≤ 10240 := by have := layAll_len (L.take 40); simp at this; omega
        clear hw hu hf HM HM1
        go_wp2_with fail
        refine (bytesOf _ _ _ _ HW.out (by omega)).mono ?_
        rintro e w3 ⟨x, rfl, hN⟩
        have HX := Lib.hid (hN.vw HW.out.byte)
        have HU3 := Lib.hid (HU.out.trans hN.2.1 (fun _ h _ => h))
        clear hN HU
        go_wp2_with fail
        refine (newReader _ _ _ HX.out (by omega)).mono ?_
        rintro e w4 ⟨b, vr, rfl, h1, h2, h3⟩
        have HR := Lib.hid (show RMine W b false (layAll ((L.take 40).drop 0)) w4 from ⟨vr, h1, HU3.out.trans h2 (fun _ h _ => h), Nat.le_trans HU3.out.size (h3 b (.inl rfl))⟩)
        clear h1 h2 h3 HU3 HX HW hlen
        go_wp2_with fail
        go_loopw [6] (fun i wr => ∃ k : Nat, k ≤ L.length ∧ k ≤ 40 ∧ i = .int .i64 k ∧ Hid (RMine W b false (layAll ((L.take 40).drop k)) wr)) (fun i _ => 40 - (intOf i).toNat)
        case atStart => exact ⟨0, Nat.zero_le _, by omega, rfl, HR⟩
        case round =>
          clear HR hk1 hk2 hlt h40 HT
          obtain ⟨k, hk1, hk2, rfl, HR1⟩ := hrel
          by_cases hlt : k < L.length
          · by_cases h40 : k < 40
            · obtain ⟨g, off, vb, rfl, hl, hm, hg, hc0, hc1, hc2, hvb, ww, wn⟩ := steps_at HV.out HR1.out.below hlt
              have HS := Lib.hid (layAll_drop40 L k hlt h40)
              generalize hs : L.getD k default = s at *
              have HSS := Lib.hid hs
              have Hvb := Lib.hid hvb
              clear hs hvb
              unfold maxLen at hm
              go_wp2_with fail
              refine (pick _ s.what 4 ww (by omega) (by omega)).mono ?_
              rintro e w3 ⟨rfl, rfl⟩
              obtain ⟨v, hr, hu, hf⟩ := HR1.out
              rw [HS.out] at hr
              have HRDd := Lib.hid (hr.upd (Upd.drew (fun _ => False) wr) (fun _ _ h => h))
              have HUd := Lib.hid (hu.trans (Upd.drew (fun _ => False) wr) (fun _ h _ => h))
              have hfb : W.heap.size ≤ b := hf
              have hcd : wr.drew.cell? ⟨g, off + k * 3 + 1, none⟩ = some (.int .i64 s.n) := by simpa using hc1
              have HCU := Lib.hid (show ∀ w', Upd (fun i => i = b) wr.drew w' → w'.cell? ⟨g, off + k * 3 + 1, none⟩ = some (.int .i64 s.n) from fun w' hu => by
                rw [hu.cell (p := ⟨g, off + k * 3 + 1, none⟩) (World.block_lt_of_cell? _ _ hcd) (by simp; omega)]
                exact hcd)
              clear hr hu hf hc0 ww
              by_cases q0 : s.what % 4 = 0
              · have HQ := Lib.hid (back0 q0 (layAll ((L.take 40).drop (k + 1))))
                rw [q0]
                clear q0 hc2
                go_wp2_with fail
                go_region_held3 (fun w' => w'.cell? ⟨g, off + k * 3 + 1, none⟩ = some (.int .i64 s.n))
                  (first | exact hcd | exact hc5)
                  ((first
                    | (go_at_call 17; refine (pick _ s.n 256 wn (by omega) (by omega)).mono ?_; rintro e w6 ⟨rfl, rfl⟩)
                    | (go_at_call 12; refine (rU8 _ b v _ _ HRDd.out).mono ?_; rw [HQ.out.1, HQ.out.2]; rintro e w5 ⟨rfl, v5, h51, h52, h53⟩; have hc5 := HCU.out _ h52; have HM5 := Lib.hid (rmine_step HUd.out hfb h51 h52); clear h51 h52 h53)))
                all_goals
                  go_wp2_with fail
                  go_roundw
                  case rel => exact ⟨k + 1, by omega, by omega, by go_num, HM5⟩
                  case measure => simp [intOf]; omega
              · by_cases q1 : s.what % 4 = 1
                · have HQ := Lib.hid (back1 q1 (layAll ((L.take 40).drop (k + 1))))
                  rw [q1]
                  clear q0 q1 hc2
                  go_wp2_with fail
                  go_region_held3 (fun w' => w'.cell? ⟨g, off + k * 3 + 1, none⟩ = some (.int .i64 s.n))
                    (first | exact hcd | exact hc5)
                    ((first
                      | (go_at_call 17; refine (pick _ s.n 65536 wn (by omega) (by omega)).mono ?_; rintro e w6 ⟨rfl, rfl⟩)
                      | (go_at_call 11; refine (rU16 _ b v _ _ HRDd.out).mono ?_; rw [HQ.out.1, HQ.out.2]; rintro e w5 ⟨rfl, v5, h51, h52, h53⟩; have hc5 := HCU.out _ h52; have HM5 := Lib.hid (rmine_step HUd.out hfb h51 h52); clear h51 h52 h53)))
                  all_goals
                    go_wp2_with fail
                    go_roundw
                    case rel => exact ⟨k + 1, by omega, by omega, by go_num, HM5⟩
                    case measure => simp [intOf]; omega
                · by_cases q2 : s.what % 4 = 2
                  · have HQ := Lib.hid (back2 q2 (layAll ((L.take 40).drop (k + 1))))
                    have HW6 := Lib.hid (w64_32 s.n)
                    rw [q2]
                    clear q0 q1 q2 hc2
                    go_wp2_with fail
                    go_region_held3 (fun w' => w'.cell? ⟨g, off + k * 3 + 1, none⟩ = some (.int .i64 s.n))
                      (first | exact hcd | exact hc5)
                      ((first
                        | (go_at_call 10; refine (rS32 _ b v _ _ HRDd.out).mono ?_; rw [HQ.out.1, HQ.out.2]; rintro e w5 ⟨rfl, v5, h51, h52, h53⟩; have hc5 := HCU.out _ h52; have HM5 := Lib.hid (rmine_step HUd.out hfb h51 h52); clear h51 h52 h53)))
                    all_goals
                      rw [k64_32, beq_self_eq_true]
                      go_wp2_with fail
                      go_roundw
                      case rel => exact ⟨k + 1, by omega, by omega, by go_num, HM5⟩
                      case measure => simp [intOf]; omega
                  · have HQ := Lib.hid (back3 q0 q1 q2 (layAll ((L.take 40).drop (k + 1))))
                    have b0 : ((s.what % 4 : Int) == 0) = false := by simpa using q0
                    have b1 : ((s.what % 4 : Int) == 1) = false := by simpa using q1
                    have b2 : ((s.what % 4 : Int) == 2) = false := by simpa using q2
                    clear q0 q1 q2
                    generalize s.what % 4 = q at *
                    have hcd2 : wr.drew.cell? ⟨g, off + k * 3 + 2, none⟩ = some vb := by simpa using hc2
                    have HC2 := Lib.hid (show ∀ w', Upd (fun i => i = b) wr.drew w' → w'.cell? ⟨g, off + k * 3 + 2, none⟩ = some vb from fun w' hu => by
                      rw [hu.cell (p := ⟨g, off + k * 3 + 2, none⟩) (World.block_lt_of_cell? _ _ hcd2) (by simp; omega)]
                      exact hcd2)
                    have hgb : g ≠ b := by omega
                    have hbb : ∀ y ∈ s.bs.take 255, 0 ≤ y ∧ y ≤ 255 := fun y hy => Hvb.out.1 y (List.mem_of_mem_take hy)
                    generalize hts : s.bs.take 255 = ts at *
                    have HT := Lib.hid hts
                    have HBB := Lib.hid hbb
                    clear hts hbb
                    clear hcd hc1
                    go_wp2_with fail
                    go_region_with ((first
                        | (go_at_call 33; (with_reducible refine (rShort _ b v _ _ HRDd.out).mono ?_); rw [HQ.out]; rintro e w5 ⟨x5, rfl, v5, g1, g2, g3, g4, g5⟩; obtain ⟨a5, c5, rfl⟩ := ownsRow_slice g2; have hc5 := cell_keep g3 hcd2 hgb; have HV5 := Lib.hid (vw_of_row g2 HBB.out); have hs5 := str_of HV5.out; have HM5 := Lib.hid (rmine_step HUd.out hfb g1 g3); have HF5 := Lib.hid g5; clear g1 g2 g3 g4 g5)
                        | (go_at_call 33; (with_reducible refine (rShort _ b v _ _ HRD6.out).mono ?_); rw [HQ.out]; rintro e w5 ⟨x5, rfl, v5, g1, g2, g3, g4, g5⟩; obtain ⟨a5, c5, rfl⟩ := ownsRow_slice g2; have hc5 := cell_keep g3 hc6 hgb; have HV5 := Lib.hid (vw_of_row g2 HBB.out); have hs5 := str_of HV5.out; have HM6 := Lib.hid (rmine_step HU6.out hfb g1 g3); have hs65 := str_of (HV6.out.upd g3 (fun i hi e => by have := HF6.out i hi; have := HRDd.out.lt; omega)); clear g1 g2 g3 g4 g5)
                        | (go_at_call 27; (with_reducible refine (few wr.drew vb s.bs 255 (Hvb.out.below (W := W) (HUd.out.below (Nat.le_refl _) (fun _ h => h.elim))) (by omega) (by omega) (by omega)).mono ?_); rw [show s.bs.take (Int.toNat 255) = ts from HT.out]; rintro e w6 ⟨x6, rfl, hN6⟩; obtain ⟨a6, c6, rfl⟩ := ownsRow_slice hN6.1; have hc6 := cell_new hN6.2.1 hcd2; have HV6 := Lib.hid (hN6.vw HBB.out); have hs6 := str_of HV6.out; have HRD6 := Lib.hid (HRDd.out.upd hN6.2.1 (fun _ _ h => h)); have HU6 := Lib.hid (HUd.out.trans hN6.2.1 (fun _ h _ => h)); have HF6 := Lib.hid hN6.2.2; clear hN6)
                        | (go_at_call 27; (with_reducible refine (few w5 vb s.bs 255 (Hvb.out.below (W := W) HM5.out.below) (by omega) (by omega) (by omega)).mono ?_); rw [show s.bs.take (Int.toNat 255) = ts from HT.out]; rintro e w6 ⟨x6, rfl, hN6⟩; obtain ⟨a6, c6, rfl⟩ := ownsRow_slice hN6.1; have hc6 := cell_new hN6.2.1 hc5; have HV6 := Lib.hid (hN6.vw HBB.out); have hs6 := str_of HV6.out; have hs56 := str_of (HV5.out.upd hN6.2.1 (fun _ _ h => h)); have HM6 := Lib.hid (HM5.out.upd hN6.2.1); clear hN6)))
                    all_goals
                      go_wp2_with fail
                      go_roundw
                      case rel => exact ⟨k + 1, by omega, by omega, by go_num, HM6⟩
                      case measure => simp [intOf]; omega
            · have HE := Lib.hid (layAll_end40 L k (by omega))
              rw [HE.out] at HR1
              obtain ⟨v, hr, hu, hf⟩ := HR1.out
              have HRD := Lib.hid hr
              have HU := Lib.hid hu
              clear hr hu hf
              go_wp2_with fail
              refine (rLeft _ _ _ _ _ HRD.out).mono ?_
              rintro e w5 ⟨rfl, rfl⟩
              go_wp2_with fail
              refine (rLack _ _ _ _ _ HRD.out).mono ?_
              rintro e w5 ⟨rfl, rfl⟩
              go_wp2_with fail
              go_ret
              exact ⟨rfl, HU.out.below (Nat.le_refl _) (fun _ h => h.elim)⟩
          · have HE := Lib.hid (layAll_end40 L k (by omega))
            rw [HE.out] at HR1
            obtain ⟨v, hr, hu, hf⟩ := HR1.out
            have HRD := Lib.hid hr
            have HU := Lib.hid hu
            clear hr hu hf
            go_wp2_with fail
            refine (rLeft _ _ _ _ _ HRD.out).mono ?_
            rintro e w5 ⟨rfl, rfl⟩
            go_wp2_with fail
            refine (rLack _ _ _ _ _ HRD.out).mono ?_
            rintro e w5 ⟨rfl, rfl⟩
            go_wp2_with fail
            go_ret
            exact ⟨rfl, HU.out.below (Nat.le_refl _) (fun _ h => h.elim)⟩
    · have HT := Lib.hid (show L.take k = L.take 40 by rw [List.take_of_length_le (by omega), List.take_of_length_le (by omega)])
      rw [HT.out] at HM1
      obtain ⟨v, hw, hu, hf⟩ := HM1.out
      have HW := Lib.hid hw
      have HU := Lib.hid hu
      have hlen : (layAll (L.take 40)).length ≤ 10240 := by have := layAll_len (L.take 40); simp at this; omega
      clear hw hu hf HM HM1
      go_wp2_with fail
      refine (bytesOf _ _ _ _ HW.out (by omega)).mono ?_
      rintro e w3 ⟨x, rfl, hN⟩
      have HX := Lib.hid (hN.vw HW.out.byte)
      have HU3 := Lib.hid (HU.out.trans hN.2.1 (fun _ h _ => h))
      clear hN HU
      go_wp2_with fail
      refine (newReader _ _ _ HX.out (by omega)).mono ?_
      rintro e w4 ⟨b, vr, rfl, h1, h2, h3⟩
      have HR := Lib.hid (show RMine W b false (layAll ((L.take 40).drop 0)) w4 from ⟨vr, h1, HU3.out.trans h2 (fun _ h _ => h), Nat.le_trans HU3.out.size (h3 b (.inl rfl))⟩)
      clear h1 h2 h3 HU3 HX HW hlen
      go_wp2_with fail
      go_loopw [6] (fun i wr => ∃ k : Nat, k ≤ L.length ∧ k ≤ 40 ∧ i = .int .i64 k ∧ Hid (RMine W b false (layAll ((L.take 40).drop k)) wr)) (fun i _ => 40 - (intOf i).toNat)
      case atStart => exact ⟨0, Nat.zero_le _, by omega, rfl, HR⟩
      case round =>
        clear HR hk1 hk2 hlt HT
        obtain ⟨k, hk1, hk2, rfl, HR1⟩ := hrel
        by_cases hlt : k < L.length
        · by_cases h40 : k < 40
          · obtain ⟨g, off, vb, rfl, hl, hm, hg, hc0, hc1, hc2, hvb, ww, wn⟩ := steps_at HV.out HR1.out.below hlt
            have HS := Lib.hid (layAll_drop40 L k hlt h40)
            generalize hs : L.getD k default = s at *
            have HSS := Lib.hid hs
            have Hvb := Lib.hid hvb
            clear hs hvb
            unfold maxLen at hm
            go_wp2_with fail
            refine (pick _ s.what 4 ww (by omega) (by omega)).mono ?_
            rintro e w3 ⟨rfl, rfl⟩
            obtain ⟨v, hr, hu, hf⟩ := HR1.out
            rw [HS.out] at hr
            have HRDd := Lib.hid (hr.upd (Upd.drew (fun _ => False) wr) (fun _ _ h => h))
            have HUd := Lib.hid (hu.trans (Upd.drew (fun _ => False) wr) (fun _ h _ => h))
            have hfb : W.heap.size ≤ b := hf
            have hcd : wr.drew.cell? ⟨g, off + k * 3 + 1, none⟩ = some (.int .i64 s.n) := by simpa using hc1
            have HCU := Lib.hid (show ∀ w', Upd (fun i => i = b) wr.drew w' → w'.cell? ⟨g, off + k * 3 + 1, none⟩ = some (.int .i64 s.n) from fun w' hu => by
              rw [hu.cell (p := ⟨g, off + k * 3 + 1, none⟩) (World.block_lt_of_cell? _ _ hcd) (by simp; omega)]
              exact hcd)
            clear hr hu hf hc0 ww
            by_cases q0 : s.what % 4 = 0
            · have HQ := Lib.hid (back0 q0 (layAll ((L.take 40).drop (k + 1))))
              rw [q0]
              clear q0 hc2
              go_wp2_with fail
              go_region_held3 (fun w' => w'.cell? ⟨g, off + k * 3 + 1, none⟩ = some (.int .i64 s.n))
                (first | exact hcd | exact hc5)
                ((first
                  | (go_at_call 17; refine (pick _ s.n 256 wn (by omega) (by omega)).mono ?_; rintro e w6 ⟨rfl, rfl⟩)
                  | (go_at_call 12; refine (rU8 _ b v _ _ HRDd.out).mono ?_; rw [HQ.out.1, HQ.out.2]; rintro e w5 ⟨rfl, v5, h51, h52, h53⟩; have hc5 := HCU.out _ h52; have HM5 := Lib.hid (rmine_step HUd.out hfb h51 h52); clear h51 h52 h53)))
              all_goals
                go_wp2_with fail
                go_roundw
                case rel => exact ⟨k + 1, by omega, by omega, by go_num, HM5⟩
                case measure => simp [intOf]; omega
            · by_cases q1 : s.what % 4 = 1
              · have HQ := Lib.hid (back1 q1 (layAll ((L.take 40).drop (k + 1))))
                rw [q1]
                clear q0 q1 hc2
                go_wp2_with fail
                go_region_held3 (fun w' => w'.cell? ⟨g, off + k * 3 + 1, none⟩ = some (.int .i64 s.n))
                  (first | exact hcd | exact hc5)
                  ((first
                    | (go_at_call 17; refine (pick _ s.n 65536 wn (by omega) (by omega)).mono ?_; rintro e w6 ⟨rfl, rfl⟩)
                    | (go_at_call 11; refine (rU16 _ b v _ _ HRDd.out).mono ?_; rw [HQ.out.1, HQ.out.2]; rintro e w5 ⟨rfl, v5, h51, h52, h53⟩; have hc5 := HCU.out _ h52; have HM5 := Lib.hid (rmine_step HUd.out hfb h51 h52); clear h51 h52 h53)))
                all_goals
                  go_wp2_with fail
                  go_roundw
                  case rel => exact ⟨k + 1, by omega, by omega, by go_num, HM5⟩
                  case measure => simp [intOf]; omega
              · by_cases q2 : s.what % 4 = 2
                · have HQ := Lib.hid (back2 q2 (layAll ((L.take 40).drop (k + 1))))
                  have HW6 := Lib.hid (w64_32 s.n)
                  rw [q2]
                  clear q0 q1 q2 hc2
                  go_wp2_with fail
                  go_region_held3 (fun w' => w'.cell? ⟨g, off + k * 3 + 1, none⟩ = some (.int .i64 s.n))
                    (first | exact hcd | exact hc5)
                    ((first
                      | (go_at_call 10; refine (rS32 _ b v _ _ HRDd.out).mono ?_; rw [HQ.out.1, HQ.out.2]; rintro e w5 ⟨rfl, v5, h51, h52, h53⟩; have hc5 := HCU.out _ h52; have HM5 := Lib.hid (rmine_step HUd.out hfb h51 h52); clear h51 h52 h53)))
                  all_goals
                    rw [k64_32, beq_self_eq_true]
                    go_wp2_with fail
                    go_roundw
                    case rel => exact ⟨k + 1, by omega, by omega, by go_num, HM5⟩
                    case measure => simp [intOf]; omega
                · have HQ := Lib.hid (back3 q0 q1 q2 (layAll ((L.take 40).drop (k + 1))))
                  have b0 : ((s.what % 4 : Int) == 0) = false := by simpa using q0
                  have b1 : ((s.what % 4 : Int) == 1) = false := by simpa using q1
                  have b2 : ((s.what % 4 : Int) == 2) = false := by simpa using q2
                  clear q0 q1 q2
                  generalize s.what % 4 = q at *
                  have hcd2 : wr.drew.cell? ⟨g, off + k * 3 + 2, none⟩ = some vb := by simpa using hc2
                  have HC2 := Lib.hid (show ∀ w', Upd (fun i => i = b) wr.drew w' → w'.cell? ⟨g, off + k * 3 + 2, none⟩ = some vb from fun w' hu => by
                    rw [hu.cell (p := ⟨g, off + k * 3 + 2, none⟩) (World.block_lt_of_cell? _ _ hcd2) (by simp; omega)]
                    exact hcd2)
                  have hgb : g ≠ b := by omega
                  have hbb : ∀ y ∈ s.bs.take 255, 0 ≤ y ∧ y ≤ 255 := fun y hy => Hvb.out.1 y (List.mem_of_mem_take hy)
                  generalize hts : s.bs.take 255 = ts at *
                  have HT := Lib.hid hts
                  have HBB := Lib.hid hbb
                  clear hts hbb
                  clear hcd hc1
                  go_wp2_with fail
                  go_region_with ((first
                      | (go_at_call 33; (with_reducible refine (rShort _ b v _ _ HRDd.out).mono ?_); rw [HQ.out]; rintro e w5 ⟨x5, rfl, v5, g1, g2, g3, g4, g5⟩; obtain ⟨a5, c5, rfl⟩ := ownsRow_slice g2; have hc5 := cell_keep g3 hcd2 hgb; have HV5 := Lib.hid (vw_of_row g2 HBB.out); have hs5 := str_of HV5.out; have HM5 := Lib.hid (rmine_step HUd.out hfb g1 g3); have HF5 := Lib.hid g5; clear g1 g2 g3 g4 g5)
                      | (go_at_call 33; (with_reducible refine (rShort _ b v _ _ HRD6.out).mono ?_); rw [HQ.out]; rintro e w5 ⟨x5, rfl, v5, g1, g2, g3, g4, g5⟩; obtain ⟨a5, c5, rfl⟩ := ownsRow_slice g2; have hc5 := cell_keep g3 hc6 hgb; have HV5 := Lib.hid (vw_of_row g2 HBB.out); have hs5 := str_of HV5.out; have HM6 := Lib.hid (rmine_step HU6.out hfb g1 g3); have hs65 := str_of (HV6.out.upd g3 (fun i hi e => by have := HF6.out i hi; have := HRDd.out.lt; omega)); clear g1 g2 g3 g4 g5)
                      | (go_at_call 27; (with_reducible refine (few wr.drew vb s.bs 255 (Hvb.out.below (W := W) (HUd.out.below (Nat.le_refl _) (fun _ h => h.elim))) (by omega) (by omega) (by omega)).mono ?_); rw [show s.bs.take (Int.toNat 255) = ts from HT.out]; rintro e w6 ⟨x6, rfl, hN6⟩; obtain ⟨a6, c6, rfl⟩ := ownsRow_slice hN6.1; have hc6 := cell_new hN6.2.1 hcd2; have HV6 := Lib.hid (hN6.vw HBB.out); have hs6 := str_of HV6.out; have HRD6 := Lib.hid (HRDd.out.upd hN6.2.1 (fun _ _ h => h)); have HU6 := Lib.hid (HUd.out.trans hN6.2.1 (fun _ h _ => h)); have HF6 := Lib.hid hN6.2.2; clear hN6)
                      | (go_at_call 27; (with_reducible refine (few w5 vb s.bs 255 (Hvb.out.below (W := W) HM5.out.below) (by omega) (by omega) (by omega)).mono ?_); rw [show s.bs.take (Int.toNat 255) = ts from HT.out]; rintro e w6 ⟨x6, rfl, hN6⟩; obtain ⟨a6, c6, rfl⟩ := ownsRow_slice hN6.1; have hc6 := cell_new hN6.2.1 hc5; have HV6 := Lib.hid (hN6.vw HBB.out); have hs6 := str_of HV6.out; have hs56 := str_of (HV5.out.upd hN6.2.1 (fun _ _ h => h)); have HM6 := Lib.hid (HM5.out.upd hN6.2.1); clear hN6)))
                  all_goals
                    go_wp2_with fail
                    go_roundw
                    case rel => exact ⟨k + 1, by omega, by omega, by go_num, HM6⟩
                    case measure => simp [intOf]; omega
          · have HE := Lib.hid (layAll_end40 L k (by omega))
            rw [HE.out] at HR1
            obtain ⟨v, hr, hu, hf⟩ := HR1.out
            have HRD := Lib.hid hr
            have HU := Lib.hid hu
            clear hr hu hf
            go_wp2_with fail
            refine (rLeft _ _ _ _ _ HRD.out).mono ?_
            rintro e w5 ⟨rfl, rfl⟩
            go_wp2_with fail
            refine (rLack _ _ _ _ _ HRD.out).mono ?_
            rintro e w5 ⟨rfl, rfl⟩
            go_wp2_with fail
            go_ret
            exact ⟨rfl, HU.out.below (Nat.le_refl _) (fun _ h => h.elim)⟩
        · have HE := Lib.hid (layAll_end40 L k (by omega))
          rw [HE.out] at HR1
          obtain ⟨v, hr, hu, hf⟩ := HR1.out
          have HRD := Lib.hid hr
          have HU := Lib.hid hu
          clear hr hu hf
          go_wp2_with fail
          refine (rLeft _ _ _ _ _ HRD.out).mono ?_
          rintro e w5 ⟨rfl, rfl⟩
          go_wp2_with fail
          refine (rLack _ _ _ _ _ HRD.out).mono ?_
          rintro e w5 ⟨rfl, rfl⟩
          go_wp2_with fail
          go_ret
          exact ⟨rfl, HU.out.below (Nat.le_refl _) (fun _ h => h.elim)⟩
end Go.Proofs.Ytlaofiiajiflgaa

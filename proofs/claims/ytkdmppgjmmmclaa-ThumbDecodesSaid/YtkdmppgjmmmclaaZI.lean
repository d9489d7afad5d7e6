/- The walk of ThumbStreams, its two loops. -/
import Derived.Test.YtkdmppgjmmmclaaZG
namespace Go.Proofs.Ytkdmppgjmmmclaa
open Go.RowKit
set_option linter.unusedVariables false
set_option linter.unusedSimpArgs false

theorem decA_at {i : I6} (h : rightP i = true) (more : List Nat) (n : Nat) (hn : (encP i).length = n) : decA (encP i ++ more) = (i, (n : Int), 0) := by
  subst hn
  exact (enc_dec h more).1
theorem VwH.cut {w : World} {g off n m cc : Nat} {R : List Nat} (h : VwH w (.slice (some ⟨g, off + n, none⟩) m (cc - n)) R) (hm : R.length = m) (hc : n + m ≤ cc) :
    VwH w (.slice (if cc = n then some ⟨g, off, none⟩ else some ⟨g, off + n, none⟩) m (cc - n)) R := by
  split
  · have h0 : m = 0 := by omega
    subst h0
    obtain rfl := List.eq_nil_of_length_eq_zero hm
    rw [show cc - n = 0 by omega]
    exact VwH.nil _ _
  · exact h
set_option maxRecDepth 100000 in
set_option maxHeartbeats 4000000 in
theorem thumbStreams_walk (vl : Value) (L : List I6) (W : World) (hl : RawsH W vl L) :
    Calls Try.prog 7 #[vl] W fun e w' => e = .returned (.bool true) ∧ New W w' := by
  obtain ⟨al, cl, rfl⟩ := hl.slice
  have HL := Lib.hid hl
  clear hl
  obtain ⟨i0, hi, hz0, hz1, hz2⟩ := info_parts info_u16
  obtain ⟨i6, hj, hy0, hy1, hy2⟩ := info_parts info_ins
  go_enter Try.func7, Try.ntmps7
  go_wp2_with fail
  have HS0 : Hid (Sv W W (.slice none 0 0) (.slice none 0 0) []) := Lib.hid ⟨World.ownsRow_nil _ _ _ _, World.ownsRow_nil _ _ _ _, Upd.refl _ _, by simp [Value.ownBlock], by simp [Value.ownBlock], by simp⟩
  go_loopw [3, 4, 5] (fun vh vk i wr => ∃ k : Nat, k ≤ L.length ∧ k ≤ 40 ∧ i = .int .i64 k ∧ Hid (∃ K, Sv W wr vh vk K ∧ K.length ≤ k)) (fun _ _ i _ => 40 - (intOf i).toNat)
  case atStart => exact ⟨0, Nat.zero_le _, by omega, rfl, Lib.hid ⟨[], HS0.out, by simp⟩⟩
  case round =>
    clear HS0
    obtain ⟨k, hk1, hk2, rfl, HK⟩ := hrel
    obtain ⟨K, hs, hkl⟩ := HK.out
    obtain ⟨ah, ch, rfl⟩ := ownsRow_slice hs.h
    obtain ⟨ak, ck, rfl⟩ := ownsRow_slice hs.k
    have HS := Lib.hid hs
    have hil := hal_len K hs.right
    generalize hn0 : (hal K).length = nh at *
    generalize hm0 : K.length = nk at *
    have HN0 := Lib.hid hn0
    have HM0 := Lib.hid hm0
    clear hs HK hn0 hm0
    by_cases hlt : k < L.length ∧ k < 40
    · obtain ⟨hlt1, hlt2⟩ := hlt
      obtain ⟨g, off, cl', he, hcl, hcm, hok, c0, c1, c2, c3, c4, c5⟩ := raws6_at HL.out HS.out.new hlt1
      simp at he
      obtain ⟨rfl, rfl⟩ := he
      have hg := World.block_lt_of_cell? _ _ c0
      generalize hsd : L.getD k I6.zero = sd at *
      have HOK := Lib.hid hok
      unfold maxLen at hcm
      clear hsd hok
      go_wp2_with fail
      refine (lInsL sd.op sd.d sd.n sd.m sd.imm sd.cond HOK.out _).mono ?_
      rintro e w1 ⟨⟨i, hi', rfl⟩, h1⟩
      have HI := Lib.hid hi'
      have HB := Lib.hid (show ∀ i, (Value.slice ah nh ch).ownBlock = some i → i < w1.heap.size from fun i hh => by have := (HS.out.h.lt i hh).2; have := h1.size; omega)
      have HS1 := Lib.hid (HS.out.mono (New.trans h1 (New.alloc w1 (.cells i.cells 23))))
      clear hi' h1 HS HOK c0 c1 c2 c3 c4 c5 hg
      go_wp2_with fail
      refine (tEncode i HI.out _).mono ?_
      rintro e w2 ⟨hres, h2⟩
      obtain ⟨hlt, c0, c1, c2, c3, c4, c5⟩ := I6.kept h2
      have HS2 := Lib.hid (HS1.out.mono h2)
      clear h2 HS1
      rcases hres with ⟨hr, rfl⟩ | ⟨hr, u, rfl, hu⟩
      · have HR := Lib.hid hr
        clear hr
        go_wp2_with fail
        refine (tRight i HI.out _).mono ?_
        rintro e w3 ⟨rfl, h3⟩
        rw [HR.out]
        have HS3 := Lib.hid (HS2.out.mono h3)
        clear h3 HS2 c0 c1 c2 c3 c4 c5
        go_wp2_with fail
        go_roundw
        case rel => exact ⟨k + 1, by omega, by omega, by go_num, Lib.hid ⟨K, HS3.out, by rw [HM0.out]; omega⟩⟩
        case measure => simp [intOf]; omega
      · have HR := Lib.hid hr
        have hlen := (enc_dec hr []).2.1
        obtain ⟨ua, uc, rfl, -⟩ := hu.slice
        generalize hn2 : (encP i).length = n2 at *
        have hn3 : n2 ≤ 2 := by split at hlen <;> omega
        have HN2 := Lib.hid hn2
        have HU := Lib.hid hu
        clear hr hu hn2 hlen
        go_wp2_with fail
        refine (tRight i HI.out _).mono ?_
        rintro e w3 ⟨rfl, h3⟩
        rw [HR.out]
        have HS3 := Lib.hid (HS2.out.mono h3)
        have HU3 := Lib.hid ((VwH.src HU.out).upd h3 (fun _ _ h => h))
        rw [HN2.out] at HU3
        replace c0 := h3.keep c0
        replace c1 := h3.keep c1
        replace c2 := h3.keep c2
        replace c3 := h3.keep c3
        replace c4 := h3.keep c4
        replace c5 := h3.keep c5
        have hl3 : w1.heap.size < w3.heap.size := World.block_lt_of_cell? w3 _ c0
        have HO := Lib.hid HS3.out.h
        rw [HN0.out] at HO
        have HG3 := Lib.hid HS3.out.oh
        clear h3 HS2 HU hlt
        go_wp2_with (at_builtin; go_loud (refine wpList_append_mine _ rfl _ _ 28 rfl 0 27 i0 (.int .u16 0) 1 2 Try.underlying28 hi hz0 hz1 hz2 rfl (by decide) (.slice ah nh ch) nh (hvl (hal K)) rfl HO.out n2 (hvl (encP i)) HU3.out (by unfold maxLen; omega) (by omega) (Nat.zero_le _) ?_))
        intro v4 w4 ho hg4 hf
        have hu4 := Upd.grown (S := fun i => (Value.slice ah nh ch).ownBlock = some i) hg4 (fun i hi => .inl hi)
        have hne : ¬ (Value.slice ah nh ch).ownBlock = some w1.heap.size := fun hh => by have := HB.out _ hh; omega
        replace c0 := (hu4.cell (p := ⟨w1.heap.size, 0, none⟩) hl3 hne).trans c0
        replace c1 := (hu4.cell (p := ⟨w1.heap.size, 1, none⟩) hl3 hne).trans c1
        replace c2 := (hu4.cell (p := ⟨w1.heap.size, 2, none⟩) hl3 hne).trans c2
        replace c3 := (hu4.cell (p := ⟨w1.heap.size, 3, none⟩) hl3 hne).trans c3
        replace c4 := (hu4.cell (p := ⟨w1.heap.size, 4, none⟩) hl3 hne).trans c4
        replace c5 := (hu4.cell (p := ⟨w1.heap.size, 5, none⟩) hl3 hne).trans c5
        obtain ⟨a4, c4', rfl⟩ := ownsRow_slice ho
        have HO4 := Lib.hid ho
        have HGG := Lib.hid hg4
        have HF4 := Lib.hid hf
        have HKM := Lib.hid (Sv.kmid (o := .cells #[.int .i64 i.op, .int .i64 i.d, .int .i64 i.n, .int .i64 i.m, .int .i64 i.imm, .int .i64 i.cond] 23) HS3.out hg4)
        rw [HM0.out] at HKM
        have hl4 : w1.heap.size < w4.heap.size := World.block_lt_of_cell? w4 _ c0
        clear ho hg4 hf hu4 hne hl3 HO HU3
        go_wp2_with (at_builtin; go_loud (refine wpList_append_mine _ rfl _ _ 44 rfl 0 23 i6 (.agg #[.int .i64 0, .int .i64 0, .int .i64 0, .int .i64 0, .int .i64 0, .int .i64 0]) 6 48 Try.underlying44 hj hy0 hy1 hy2 rfl (by decide) (.slice ak nk ck) nk (icells K) rfl HKM.out 1 (icl6 i) (src6 w4 23 i 1 _ rfl) (by unfold maxLen; omega) (by omega) (Nat.zero_le _) ?_))
        intro v5 w5 ho2 hg5 hf5
        have HM := Lib.hid (show Sv W w5 (.slice a4 (nh + n2) c4') v5 (K ++ [i]) from Sv.app HS3.out (by rw [HN0.out, HN2.out]; exact HO4.out) HGG.out HF4.out (by rw [HM0.out]; exact ho2) hg5 hf5 HR.out)
        obtain ⟨a5, c5', rfl⟩ := ownsRow_slice ho2
        clear ho2 hg5 hf5 c0 c1 c2 c3 c4 c5 hl4 HKM HO4 HGG HF4 HS3
        go_wp2_with fail
        go_roundw
        case rel => exact ⟨k + 1, by omega, by omega, by go_num, Lib.hid ⟨K ++ [i], HM.out, by rw [List.length_append, HM0.out]; simp; omega⟩⟩
        case measure => simp [intOf]; omega
    · have HRT := Lib.hid HS.out.right
      have HK0 : Hid (Sk W wr (.slice ah nh ch) (.slice ak nk ck) K 0) := Lib.hid (by
        have h1 := HS.out.h
        have h3 := vwh_of_row h1 (hal_small K HRT.out)
        exact ⟨by simpa using h3, HS.out.k, HS.out.new⟩)
      by_cases hkl2 : k < L.length
      · have hk40 : ¬ (k : Int) < 40 := by omega
        have hkL : (k : Int) < L.length := by omega
        clear hlt HS HN0 HL
        go_wp2_with fail
        go_loopw [3, 9] (fun vh i wr => ∃ j : Nat, j ≤ nk ∧ i = .int .i64 j ∧ Hid (Sk W wr vh (.slice ak nk ck) K j)) (fun _ i _ => nk - (intOf i).toNat)
        case atStart => exact ⟨0, Nat.zero_le _, rfl, HK0⟩
        case round =>
          clear HK0
          obtain ⟨j, hj', rfl, HK⟩ := hrel
          obtain ⟨hv, hk, hn⟩ := HK.out
          rw [HM0.out] at hk
          have HUP := Lib.hid hn
          have HKK := Lib.hid hk
          clear hn HK
          by_cases hjl : j < nk
          · have hjK : j < K.length := by rw [HM0.out]; exact hjl
            have hright : rightP (K.getD j I6.zero) = true := HRT.out _ (by simp [List.getD, hjK])
            have hd := hal_drop K j hjK
            rw [hd] at hv
            obtain ⟨q0, q1, q2, q3, q4, q5⟩ := icells_get K j hjK
            have hHD := Lib.hid hd
            clear hd
            generalize hR : hal (K.drop (j + 1)) = R at *
            generalize K.getD j I6.zero = t at *
            have hen := (enc_dec hright R).2.1
            have h1n : 1 ≤ (encP t).length := by split at hen <;> omega
            obtain ⟨gh, offh, cc, rfl, hc1, hc2, hgl, hnx⟩ := VwH.cons hv h1n
            generalize hnn : (encP t).length = n at *
            generalize hmm : R.length = m at *
            have HV := Lib.hid hv
            have HNX := Lib.hid (VwH.cut hnx hmm hc1)
            have HD := Lib.hid (decA_at hright R n hnn)
            have HRR := Lib.hid hR
            obtain ⟨g, cg, hge⟩ : ∃ g c, (Value.slice ak nk ck) = .slice (some ⟨g, 0, none⟩) nk c := by
              rcases hk.2 with ⟨he, h0⟩ | ⟨g, cap, cur, he, _⟩
              · omega
              · exact ⟨g, cap, he⟩
            simp at hge
            obtain ⟨rfl, rfl⟩ := hge
            have c0 := hk.cells (g := g) rfl _ _ q0
            have c1 := hk.cells (g := g) rfl _ _ q1
            have c2 := hk.cells (g := g) rfl _ _ q2
            have c3 := hk.cells (g := g) rfl _ _ q3
            have c4 := hk.cells (g := g) rfl _ _ q4
            have c5 := hk.cells (g := g) rfl _ _ q5
            rw [addr_add, Nat.zero_add] at c0 c1 c2 c3 c4 c5
            obtain ⟨hck1, hck2⟩ : nk ≤ ck ∧ ck ≤ maxLen := by
              rcases hk.2 with ⟨he, h0⟩ | ⟨g', cap, cur, he, _, _, h1, h2, _⟩
              · omega
              · simp at he; obtain ⟨_, rfl⟩ := he; exact ⟨h1, h2⟩
            unfold maxLen at hck2 hc2
            clear hv hk hright hR hnn hmm hen hnx q0 q1 q2 q3 q4 q5 hHD
            go_wp2_with fail
            refine (tDecode _ (encP t ++ R) _ HV.out).mono ?_
            rintro e w7 ⟨rfl, h7⟩
            rw [HD.out]
            have hA := New.trans h7 (New.alloc w7 (.cells t.cells 23))
            have HX := Lib.hid (show Sk W (w7.alloc (.cells t.cells 23)) (.slice (if cc = n then some ⟨gh, offh, none⟩ else some ⟨gh, offh + n, none⟩) m (cc - n)) (.slice (some ⟨g, 0, none⟩) nk ck) K (j + 1) from
              ⟨by rw [HRR.out]; exact HNX.out.new hA, by rw [HM0.out]; exact ownsRow_upd HKK.out hA (fun _ _ h => h), New.trans HUP.out hA⟩)
            have hgl7 : g < w7.heap.size := World.block_lt_of_cell? w7 _ (h7.keep c0)
            replace c0 := hA.keep c0
            replace c1 := hA.keep c1
            replace c2 := hA.keep c2
            replace c3 := hA.keep c3
            replace c4 := hA.keep c4
            replace c5 := hA.keep c5
            have hq : ∀ u, (binOp .neq 23 (.agg #[.int .i64 t.op, .int .i64 t.d, .int .i64 t.n, .int .i64 t.m, .int .i64 t.imm, .int .i64 t.cond]) (.agg #[.int .i64 t.op, .int .i64 t.d, .int .i64 t.n, .int .i64 t.m, .int .i64 t.imm, .int .i64 t.cond])).run Try.prog u = .ok (.bool false) u := fun u => by rw [insNeq]; simp
            have g1 : decide ((n : Int) < 1) = false := by simp; omega
            have g2 : decide ((n : Int) > ((n + m : Nat) : Int)) = false := by simp; omega
            have g3 : decide (((n + m : Nat) : Int) < (n : Int)) = false := by simp; omega
            have g4 : decide ((n : Int) + (m : Int) < (n : Int)) = false := by simp; omega
            clear h7 hA HV HNX HD HUP HKK
            go_wp2_with fail
            go_quiet (fail)
            have HMd := Lib.hid (HX.out.mono (Upd.drewN (fun _ => False) _ nq))
            go_wp2_with fail
            go_roundw
            case rel => exact ⟨j + 1, by omega, by go_num, HMd⟩
            case measure => simp [intOf]; omega
          · obtain rfl : j = nk := by omega
            have hz : hal (K.drop j) = [] := by rw [← HM0.out]; simp [hal]
            rw [hz] at hv
            obtain ⟨va, vc, rfl, -⟩ := hv.slice
            clear hv hk hz
            go_wp2_with fail
            refine (known14 _).mono ?_
            rintro e w8 ⟨rfl, h8⟩
            go_wp2_with fail
            go_ret
            exact ⟨rfl, New.trans HUP.out h8⟩
      · have hkL : ¬ (k : Int) < L.length := by omega
        clear hlt HS HN0 HL
        go_wp2_with fail
        go_loopw [3, 9] (fun vh i wr => ∃ j : Nat, j ≤ nk ∧ i = .int .i64 j ∧ Hid (Sk W wr vh (.slice ak nk ck) K j)) (fun _ i _ => nk - (intOf i).toNat)
        case atStart => exact ⟨0, Nat.zero_le _, rfl, HK0⟩
        case round =>
          clear HK0
          obtain ⟨j, hj', rfl, HK⟩ := hrel
          obtain ⟨hv, hk, hn⟩ := HK.out
          rw [HM0.out] at hk
          have HUP := Lib.hid hn
          have HKK := Lib.hid hk
          clear hn HK
          by_cases hjl : j < nk
          · have hjK : j < K.length := by rw [HM0.out]; exact hjl
            have hright : rightP (K.getD j I6.zero) = true := HRT.out _ (by simp [List.getD, hjK])
            have hd := hal_drop K j hjK
            rw [hd] at hv
            obtain ⟨q0, q1, q2, q3, q4, q5⟩ := icells_get K j hjK
            have hHD := Lib.hid hd
            clear hd
            generalize hR : hal (K.drop (j + 1)) = R at *
            generalize K.getD j I6.zero = t at *
            have hen := (enc_dec hright R).2.1
            have h1n : 1 ≤ (encP t).length := by split at hen <;> omega
            obtain ⟨gh, offh, cc, rfl, hc1, hc2, hgl, hnx⟩ := VwH.cons hv h1n
            generalize hnn : (encP t).length = n at *
            generalize hmm : R.length = m at *
            have HV := Lib.hid hv
            have HNX := Lib.hid (VwH.cut hnx hmm hc1)
            have HD := Lib.hid (decA_at hright R n hnn)
            have HRR := Lib.hid hR
            obtain ⟨g, cg, hge⟩ : ∃ g c, (Value.slice ak nk ck) = .slice (some ⟨g, 0, none⟩) nk c := by
              rcases hk.2 with ⟨he, h0⟩ | ⟨g, cap, cur, he, _⟩
              · omega
              · exact ⟨g, cap, he⟩
            simp at hge
            obtain ⟨rfl, rfl⟩ := hge
            have c0 := hk.cells (g := g) rfl _ _ q0
            have c1 := hk.cells (g := g) rfl _ _ q1
            have c2 := hk.cells (g := g) rfl _ _ q2
            have c3 := hk.cells (g := g) rfl _ _ q3
            have c4 := hk.cells (g := g) rfl _ _ q4
            have c5 := hk.cells (g := g) rfl _ _ q5
            rw [addr_add, Nat.zero_add] at c0 c1 c2 c3 c4 c5
            obtain ⟨hck1, hck2⟩ : nk ≤ ck ∧ ck ≤ maxLen := by
              rcases hk.2 with ⟨he, h0⟩ | ⟨g', cap, cur, he, _, _, h1, h2, _⟩
              · omega
              · simp at he; obtain ⟨_, rfl⟩ := he; exact ⟨h1, h2⟩
            unfold maxLen at hck2 hc2
            clear hv hk hright hR hnn hmm hen hnx q0 q1 q2 q3 q4 q5 hHD
            go_wp2_with fail
            refine (tDecode _ (encP t ++ R) _ HV.out).mono ?_
            rintro e w7 ⟨rfl, h7⟩
            rw [HD.out]
            have hA := New.trans h7 (New.alloc w7 (.cells t.cells 23))
            have HX := Lib.hid (show Sk W (w7.alloc (.cells t.cells 23)) (.slice (if cc = n then some ⟨gh, offh, none⟩ else some ⟨gh, offh + n, none⟩) m (cc - n)) (.slice (some ⟨g, 0, none⟩) nk ck) K (j + 1) from
              ⟨by rw [HRR.out]; exact HNX.out.new hA, by rw [HM0.out]; exact ownsRow_upd HKK.out hA (fun _ _ h => h), New.trans HUP.out hA⟩)
            have hgl7 : g < w7.heap.size := World.block_lt_of_cell? w7 _ (h7.keep c0)
            replace c0 := hA.keep c0
            replace c1 := hA.keep c1
            replace c2 := hA.keep c2
            replace c3 := hA.keep c3
            replace c4 := hA.keep c4
            replace c5 := hA.keep c5
            have hq : ∀ u, (binOp .neq 23 (.agg #[.int .i64 t.op, .int .i64 t.d, .int .i64 t.n, .int .i64 t.m, .int .i64 t.imm, .int .i64 t.cond]) (.agg #[.int .i64 t.op, .int .i64 t.d, .int .i64 t.n, .int .i64 t.m, .int .i64 t.imm, .int .i64 t.cond])).run Try.prog u = .ok (.bool false) u := fun u => by rw [insNeq]; simp
            have g1 : decide ((n : Int) < 1) = false := by simp; omega
            have g2 : decide ((n : Int) > ((n + m : Nat) : Int)) = false := by simp; omega
            have g3 : decide (((n + m : Nat) : Int) < (n : Int)) = false := by simp; omega
            have g4 : decide ((n : Int) + (m : Int) < (n : Int)) = false := by simp; omega
            clear h7 hA HV HNX HD HUP HKK
            go_wp2_with fail
            go_quiet (fail)
            have HMd := Lib.hid (HX.out.mono (Upd.drewN (fun _ => False) _ nq))
            go_wp2_with fail
            go_roundw
            case rel => exact ⟨j + 1, by omega, by go_num, HMd⟩
            case measure => simp [intOf]; omega
          · obtain rfl : j = nk := by omega
            have hz : hal (K.drop j) = [] := by rw [← HM0.out]; simp [hal]
            rw [hz] at hv
            obtain ⟨va, vc, rfl, -⟩ := hv.slice
            clear hv hk hz
            go_wp2_with fail
            refine (known14 _).mono ?_
            rintro e w8 ⟨rfl, h8⟩
            go_wp2_with fail
            go_ret
            exact ⟨rfl, New.trans HUP.out h8⟩
theorem thumbStreams_below (vl : Value) (L : List I6) (W : World) (hl : RawsH W vl L) :
    Calls Try.prog 7 #[vl] W fun e w' => e = .returned (.bool true) ∧ Below W.heap.size W w' := (thumbStreams_walk vl L W hl).mono fun _ _ h => ⟨h.1, h.2.below (Nat.le_refl _) (fun _ h => h.elim)⟩
end Go.Proofs.Ytkdmppgjmmmclaa

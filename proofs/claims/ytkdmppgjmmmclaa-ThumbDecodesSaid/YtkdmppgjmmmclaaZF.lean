/- The walk of ThumbBack. -/
import Derived.Test.YtkdmppgjmmmclaaZE
namespace Go.Proofs.Ytkdmppgjmmmclaa
open Go.RowKit
set_option linter.unusedVariables false
set_option linter.unusedSimpArgs false

theorem right_ok {i : I6} (h : rightP i = true) : i.Ok := by
  by_cases h43 : i.op = 43
  · obtain ⟨h1, h2, h3, _⟩ := far_right h h43
    rw [h1]
    refine ⟨?_, ?_, ?_, ?_, ?_, ?_⟩ <;> (unfold i64R; simp only; omega)
  · obtain ⟨q, hq, hf, hd⟩ := surj h h43
    unfold decP at hd
    rw [Option.map_eq_some_iff] at hd
    obtain ⟨r, hr, rfl⟩ := hd
    exact take_ok (rows_ok (List.mem_of_find?_eq_some hr)) q
set_option maxRecDepth 20000 in
set_option maxHeartbeats 4000000 in
theorem thumbBack_walk (w : World) (x : I6) (v : Value) (ys : List Nat) (a b : Nat) (hx : x.Ok) (hv : VwH w v ys) (hl : ys.length ≤ 70368744175616) (ha : a < 65536) (hb : b < 65536) :
    Calls Try.prog 6 #[x.val, v, .int .u16 (a : Int), .int .u16 (b : Int)] w fun e w' => e = .returned (.bool true) ∧ New w w' := by
  have HX := Lib.hid hx
  have HV := Lib.hid hv
  obtain ⟨i0, hi, hz0, hz1, hz2⟩ := info_parts info_u16
  clear hx hv
  go_enter Try.func6, Try.ntmps6
  go_wp2_with fail
  refine (lIns x HX.out _).mono ?_
  rintro e w1 ⟨⟨i, hi', rfl⟩, h1⟩
  have HI := Lib.hid hi'
  have HW1 := Lib.hid (New.trans (New.alloc _ _) h1)
  have HV1 := Lib.hid (HV.out.new (New.trans (New.trans (New.alloc _ _) h1) (New.alloc w1 (.cells i.cells 23))))
  clear hi' h1 HX HV
  go_wp2_with fail
  refine (tEncode i HI.out _).mono ?_
  rintro e w2 ⟨hres, h2⟩
  obtain ⟨hlt, c0, c1, c2, c3, c4, c5⟩ := I6.kept h2
  have HV2 := Lib.hid (HV1.out.new h2)
  have HW2 := Lib.hid (New.trans HW1.out (New.trans (New.alloc _ _) h2))
  clear h2 HV1
  obtain ⟨ua, n, uc, he, rfl, hgood⟩ : ∃ ua n uc he, e = .returned (.tuple #[.slice ua n uc, .int .i64 he]) ∧ (he = 1 ∨ (he = 0 ∧ rightP i = true ∧ VwH w2 (.slice ua n uc) (encP i) ∧ (encP i).length = n)) := by
    rcases hres with ⟨hr, rfl⟩ | ⟨hr, u, rfl, hu⟩
    · exact ⟨none, 0, 0, _, rfl, .inl rfl⟩
    · obtain ⟨ua, uc, rfl, -⟩ := hu.slice
      exact ⟨_, _, _, _, rfl, .inr ⟨rfl, hr, hu, rfl⟩⟩
  obtain ⟨va, vc, rfl, -⟩ := HV2.out.slice
  obtain ⟨m, hm⟩ : ∃ m, ys.length = m := ⟨_, rfl⟩
  rw [hm] at HV2 hl ⊢
  have HMM := Lib.hid hm
  have HG := Lib.hid hgood
  clear hres hgood hm
  go_upto_if 29 with fail
  go_cut [9] (fun t wr => Hid (New w2 wr))
  case first =>
    rcases HG.out with rfl | ⟨rfl, hr, hu, hn⟩
    · go_wp2_with fail
      go_meet
      exact Lib.hid (Upd.refl _ _)
    · obtain ⟨hd, hlen, hlt16⟩ := enc_dec hr ys
      have HD := Lib.hid hd
      have HL := Lib.hid hlen
      have hn2 : n ≤ 2 := by rw [← hn]; split at hlen <;> omega
      have HY : Hid (∀ y ∈ encP i ++ ys, y < 65536) := Lib.hid (fun y hy => by
        rcases List.mem_append.1 hy with h | h
        · exact hlt16 y h
        · exact HV2.out.1 y h)
      have HO := Lib.hid (World.ownsRow_lit (base := 0) (e := 27) (size := 1) w2 #[] 0 (Nat.zero_le _) (by unfold maxLen; omega) rfl)
      have HS := Lib.hid ((VwH.src hu).upd (New.alloc w2 (.cells #[] 27)) (fun _ _ h => h))
      have HN0 := Lib.hid (New.alloc w2 (.cells #[] 27))
      have HNN := Lib.hid hn
      rw [hn] at HS HD HL
      clear hd hlen hlt16 hu HG hn
      go_wp2_with (at_builtin; go_loud (refine wpList_append_mine _ rfl _ _ 28 rfl 0 27 i0 (.int .u16 0) 1 2 Try.underlying28 hi hz0 hz1 hz2 rfl (by decide) (.slice (some ⟨w2.heap.size, 0, none⟩) 0 0) 0 [] rfl HO.out n (hvl (encP i)) HS.out (by unfold maxLen; omega) (by omega) (Nat.zero_le _) ?_))
      intro v3 w3 ho hg hf
      have HN3 := Lib.hid (New.row2 HN0.out hg (fun k hk => by simp [Value.ownBlock] at hk; omega))
      have HF3 : Hid (∀ k, v3.ownBlock = some k → w2.heap.size ≤ k) := Lib.hid (fun k hk => by
        rcases hf k hk with h | h
        · simp [Value.ownBlock] at h; omega
        · simp at h; omega)
      obtain ⟨a3, c3', rfl⟩ := ownsRow_slice ho
      have HO3 := Lib.hid ho
      have HS3 := Lib.hid (VwH.src (HV2.out.new HN3.out))
      rw [HMM.out] at HS3
      clear ho hg hf HS HO HN0
      go_wp2_with (at_builtin; go_loud (refine wpList_append_mine _ rfl _ _ 28 rfl 0 27 i0 (.int .u16 0) 1 2 Try.underlying28 hi hz0 hz1 hz2 rfl (by decide) (.slice a3 n c3') n (hvl (encP i)) rfl HO3.out m (hvl ys) HS3.out (by unfold maxLen; omega) (by omega) (Nat.zero_le _) ?_))
      intro v4 w4 ho hg hf
      have HN4 := Lib.hid (New.row2 HN3.out hg HF3.out)
      obtain ⟨a4, c4', rfl⟩ := ownsRow_slice ho
      have HV4 : Hid (VwH w4 (.slice a4 (n + m) c4') (encP i ++ ys)) := Lib.hid (vwh_of_row (base := 0) (e := 27) (by
        rw [hvl_append, List.length_append, HNN.out, HMM.out]
        exact ho) HY.out)
      clear ho hg hf HO3 HS3 HF3 HN3
      replace c0 := HN4.out.keep c0
      replace c1 := HN4.out.keep c1
      replace c2 := HN4.out.keep c2
      replace c3 := HN4.out.keep c3
      replace c4 := HN4.out.keep c4
      replace c5 := HN4.out.keep c5
      go_wp2_with fail
      refine (tDecode _ (encP i ++ ys) _ HV4.out).mono ?_
      rintro e w5 ⟨rfl, h5⟩
      rw [HD.out]
      replace c0 := h5.keep c0
      replace c1 := h5.keep c1
      replace c2 := h5.keep c2
      replace c3 := h5.keep c3
      replace c4 := h5.keep c4
      replace c5 := h5.keep c5
      have HN5 := Lib.hid (New.trans HN4.out h5)
      have hl5 : w1.heap.size < w5.heap.size := World.block_lt_of_cell? w5 _ c0
      have hq : ∀ u, (binOp .neq 23 (.agg #[.int .i64 i.op, .int .i64 i.d, .int .i64 i.n, .int .i64 i.m, .int .i64 i.imm, .int .i64 i.cond]) (.agg #[.int .i64 i.op, .int .i64 i.d, .int .i64 i.n, .int .i64 i.m, .int .i64 i.imm, .int .i64 i.cond])).run Try.prog u = .ok (.bool false) u := fun u => by rw [insNeq]; simp
      have hsz : (if i.op == 43 then (4 : Int) else 2) = 2 * (n : Int) := by
        have := HL.out
        by_cases h43 : i.op = 43
        · rw [if_pos h43] at this; subst this; simp [h43]
        · rw [if_neg h43] at this; subst this; simp [h43]
      have HZ : Hid (∀ u, Calls Try.prog 12 #[i.val] u fun e w' => e = .returned (.int .i64 (2 * (n : Int))) ∧ New u w') := Lib.hid (fun u => by rw [← hsz]; exact tSize i u)
      have hs2 : ((2 * (n : Int)) != (2 * (n : Int))) = false := by simp
      clear hsz
      have hs3 : ((n : Int) != (n : Int)) = false := by simp
      clear h5 HV4 HD hr HL
      go_wp2_with (with_reducible refine (HZ.out _).mono ?_; rintro e w6 ⟨rfl, h6⟩)
      go_meet
      exact Lib.hid (New.trans (New.trans HN5.out (New.alloc _ _)) h6)
  case rest =>
    have HW3 := Lib.hid (New.trans HW2.out hcut.out)
    clear HG HV2 HW2 c0 c1 c2 c3 c4 c5 hlt HI hz0 hz1 hz2 hi HW1 hcut
    have HV6 := Lib.hid (VwH.two wc 27 a b ha hb)
    go_wp2_with fail
    refine (tDecode _ [a, b] _ HV6.out).mono ?_
    rintro e w7 ⟨rfl, h7⟩
    obtain ⟨⟨j, n, f⟩, hd⟩ : ∃ d, decA [a, b] = d := ⟨_, rfl⟩
    rw [hd]
    have HD := Lib.hid hd
    clear hd
    have HV7 := Lib.hid (HV6.out.new h7)
    have HW7 := Lib.hid (New.trans HW3.out (New.trans (New.alloc _ _) h7))
    have HB7 : Hid (w7.heap[wc.heap.size]? = some (.cells #[.int .u16 (a : Int), .int .u16 (b : Int)] 27 (0, 0))) := Lib.hid (by
      rw [h7.block _ (by simp) (fun h => h)]; exact heap_alloc_last wc _)
    clear h7 HV6 HW3
    cases hf : (f == 0)
    · go_wp2_with (with_reducible refine (known14 _).mono ?_; rintro e w8 ⟨rfl, h8⟩)
      go_ret
      exact ⟨rfl, New.trans (New.trans HW7.out (New.trans (New.alloc _ _) (by assumption))) h8⟩
    · have hf0 : f = 0 := by simpa using hf
      subst hf0
      obtain ⟨hr, hcase⟩ := dec_enc ha (t := [b]) (by simpa using hb) HD.out
      have HR := Lib.hid hr
      have HC := Lib.hid hcase
      clear hr hcase hf
      have hjok : j.Ok := right_ok HR.out
      have HJ := Lib.hid hjok
      clear hjok
      go_wp2_with fail
      refine (known14 _).mono ?_
      rintro e w8 ⟨rfl, h8⟩
      obtain ⟨hl8, d0, d1, d2, d3, d4, d5⟩ := I6.kept h8
      have HV8 := Lib.hid (HV7.out.new (New.trans (New.alloc _ _) h8))
      have HW8 := Lib.hid (New.trans HW7.out (New.trans (New.alloc _ _) h8))
      clear h8 HV7 HW7 HB7
      go_wp2_with fail
      refine (tEncode j HJ.out _).mono ?_
      rintro e w9 ⟨(⟨hr, _⟩ | ⟨_, u, rfl, hu⟩), h9⟩
      · rw [HR.out] at hr; cases hr
      · obtain ⟨pa, pc, rfl, -⟩ := hu.slice
        have HU := Lib.hid hu
        have HV9 := Lib.hid (HV8.out.new h9)
        have HW9 := Lib.hid (New.trans HW8.out h9)
        replace d0 := h9.keep d0
        replace d1 := h9.keep d1
        replace d2 := h9.keep d2
        replace d3 := h9.keep d3
        replace d4 := h9.keep d4
        replace d5 := h9.keep d5
        have hl9 : w7.heap.size < w9.heap.size := World.block_lt_of_cell? w9 _ d0
        clear hu h9 HV8 HW8 hl8
        have HRR := Lib.hid (tRight j HJ.out)
        obtain ⟨k, hk1, hk2, hk3⟩ : ∃ k : Nat, n = (k : Int) ∧ (k = 1 ∨ k = 2) ∧ VwH w9 (.slice (some ⟨wc.heap.size, 0, none⟩) k 2) (encP j) := by
          rcases HC.out with ⟨h1, h2⟩ | ⟨g, u, h1, h2, h3⟩
          · refine ⟨1, h1, .inl rfl, ?_⟩
            rw [h2]
            refine ⟨by simpa using ha, .inr ⟨_, 0, 2, rfl, by simp, by unfold maxLen; simp, fun q hq => ?_⟩⟩
            rcases HV9.out.2 with ⟨_, h⟩ | ⟨g', off', c', he', _, _, hc'⟩
            · cases h
            · simp at he'
              obtain ⟨⟨rfl, rfl⟩, rfl⟩ := he'
              have := hc' q (by simp at hq ⊢; omega)
              have hq0 : q = 0 := by simpa using hq
              subst hq0
              exact this
          · simp at h1
            obtain ⟨rfl, rfl⟩ := h1
            refine ⟨2, h2, .inr rfl, ?_⟩
            rw [h3]; exact HV9.out
        have HK := Lib.hid hk3
        have HH : Hid (∀ q, Calls Try.prog 17 #[.slice pa (encP j).length pc, .slice (some ⟨wc.heap.size, 0, none⟩) k 2] (w9.drewN q) fun e w' => e = .returned (.bool true) ∧ ∃ m, w' = w9.drewN m) := Lib.hid (fun q => by
          have := Calls.quiet_of (lHalves _ _ _ _ _ (HU.out.new (Upd.drewN _ _ q)) (HK.out.new (Upd.drewN _ _ q)))
          simpa using this)
        have HH0 := Lib.hid (HH.out 0)
        rw [World.drewN_zero] at HH0
        subst hk1
        clear HD HC HV9 hk3 HH
        have g1 : decide ((1 : Int) ≤ (k : Int)) = true := by simp; omega
        have g2 : decide ((k : Int) ≤ (2 : Int)) = true := by simp; omega
        have hk4 : k ≤ 2 := by omega
        clear hk2
        go_wp2_with (first
          | (with_reducible refine HH0.out.mono ?_; rintro e w10 ⟨rfl, q, rfl⟩)
          | (with_reducible refine (HRR.out _).mono ?_; rintro e w11 ⟨rfl, h11⟩; rw [HR.out]))
        go_ret
        exact ⟨rfl, New.trans (New.trans HW9.out (Upd.drewN _ _ _)) h11⟩
theorem thumbBack_below (w : World) (x : I6) (v : Value) (ys : List Nat) (a b : Nat) (hx : x.Ok) (hv : VwH w v ys) (hl : ys.length ≤ 70368744175616) (ha : a < 65536) (hb : b < 65536) :
    Calls Try.prog 6 #[x.val, v, .int .u16 (a : Int), .int .u16 (b : Int)] w fun e w' => e = .returned (.bool true) ∧ Below w.heap.size w w' := (thumbBack_walk w x v ys a b hx hv hl ha hb).mono fun _ _ h => ⟨h.1, h.2.below (Nat.le_refl _) (fun _ h => h.elim)⟩
end Go.Proofs.Ytkdmppgjmmmclaa

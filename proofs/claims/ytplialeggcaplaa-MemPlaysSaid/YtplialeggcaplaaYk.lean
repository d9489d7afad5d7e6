/- Stage 15: MemPlays. -/
import Derived.Test.YtplialeggcaplaaYj
import Derived.Deep.RegionHeld3
namespace Go.Proofs.Ytplialeggcaplaa
open Go.RowKit Go.ChangeShapes Go.WideShapes Go.Deep
set_option linter.unusedVariables false
set_option linter.unusedSimpArgs false
theorem ix6 (m : Int) (h0 : 0 ≤ m) (h1 : m < 6) : ∃ u : Int, 0 ≤ u ∧ u ≤ 262144 ∧ ∀ w : World, (Instr.index 53 (.agg #[.int .i64 0, .int .i64 131072, .int .i64 131072, .int .i64 245760, .int .i64 262144, .int .i64 100]) (.int .i64 m)).run Try.prog w = .ok (.int .i64 u) w := by
  have h : m = 0 ∨ m = 1 ∨ m = 2 ∨ m = 3 ∨ m = 4 ∨ m = 5 := by omega
  rcases h with rfl | rfl | rfl | rfl | rfl | rfl
  · exact ⟨0, by omega, by omega, fun w => by kernel_rfl⟩
  · exact ⟨131072, by omega, by omega, fun w => by kernel_rfl⟩
  · exact ⟨131072, by omega, by omega, fun w => by kernel_rfl⟩
  · exact ⟨245760, by omega, by omega, fun w => by kernel_rfl⟩
  · exact ⟨262144, by omega, by omega, fun w => by kernel_rfl⟩
  · exact ⟨100, by omega, by omega, fun w => by kernel_rfl⟩
theorem Upd.calm0x {w a b : World} (h : Upd (fun _ => False) w a) (k : Upd (fun _ => False) a b) : Upd (fun _ => False) w b := h.trans k (fun _ h _ => h)
set_option maxHeartbeats 1000000 in
theorem lAt15 (w : World) (what a near n : Int) (vb : Value) (ha : rng64 a) : Calls Try.prog 15 #[.agg #[.int .i64 what, .int .i64 a, .int .i64 near, .int .u32 n, vb]] w fun e w' => (∃ k : Int, rng64 k ∧ e = .returned (.int .i64 k)) ∧ Upd (fun _ => False) w w' := by
  obtain ⟨w1, hw1⟩ : ∃ w1, w1 = w.alloc (.cells #[.int .i64 what, .int .i64 a, .int .i64 near, .int .u32 n, vb] 41) := ⟨_, rfl⟩
  have hb : w1.heap[w.heap.size]? = some (.cells #[.int .i64 what, .int .i64 a, .int .i64 near, .int .u32 n, vb] 41 (0, 0)) := by
    rw [hw1]; show (Array.push w.heap _)[w.heap.size]? = _; simp
  have HU := Lib.hid (show Upd (fun _ => False) w w1 by rw [hw1]; exact Upd.alloc _ _ _)
  have HS : Hid (∀ u, Upd (fun _ => False) w1 u → u.cell? ⟨w.heap.size, 1, none⟩ = some (.int .i64 a) ∧ u.cell? ⟨w.heap.size, 2, none⟩ = some (.int .i64 near)) := Lib.hid (fun u hu => by
    have h := (hu.block w.heap.size (by rw [hw1]; simp) (fun h => h)).trans hb
    constructor
    · unfold World.cell?; rw [h]; rfl
    · unfold World.cell?; rw [h]; rfl)
  obtain ⟨c1, c2⟩ := HS.out w1 (Upd.refl _ _)
  have HR := Lib.hid (Upd.drew (fun _ => False) w1)
  have HW := Lib.hid hw1
  have HA := Lib.hid ha
  clear hb hw1 ha
  by_cases h8 : near.tmod 9 = 8
  · have t1 : (near.tmod 9 == 8) = true := by simp [h8]
    clear h8
    go_enter Try.func15, Try.ntmps15
    go_wp2_with fail
    go_ret
    exact ⟨⟨a, HA.out, rfl⟩, by rw [← HW.out]; exact HU.out⟩
  · have t1 : (near.tmod 9 == 8) = false := by simp [h8]
    clear h8
    obtain ⟨u, hu0, hu1, hix⟩ := ix6 (near % 6) (Int.emod_nonneg _ (by omega)) (Int.emod_lt_of_pos _ (by omega))
    have hq0 : 0 ≤ a % 24 ∧ a % 24 < 24 := ⟨Int.emod_nonneg _ (by omega), Int.emod_lt_of_pos _ (by omega)⟩
    have hw1 : IntKind.i64.wrap (u + a % 24) = u + a % 24 := IntWalk.i64_in _ (by omega)
    have hw2 : IntKind.i64.wrap (u + a % 24 - 12) = u + a % 24 - 12 := IntWalk.i64_in _ (by omega)
    have HQ := Lib.hid (show rng64 (u + a % 24 - 12) by unfold rng64; omega)
    clear hu0 hu1 hq0
    go_enter Try.func15, Try.ntmps15
    go_wp2_with fail
    rw [← HW.out]
    go_region_held3 (fun u => u.cell? ⟨w.heap.size, 1, none⟩ = some (.int .i64 a) ∧ u.cell? ⟨w.heap.size, 2, none⟩ = some (.int .i64 near)) (first
      | with_reducible exact HS.out _ HR.out) ((go_at_call 16; (refine (hPick _ _ _ (by omega) (by omega)).mono ?_); rintro e w' ⟨rfl, rfl⟩))
    all_goals
      go_wp2_with fail
      go_ret
      exact ⟨⟨_, HQ.out, rfl⟩, HU.out.calm0x HR.out⟩
/-- both memories hold M -/
structure Two (W w : World) (bm gm br gr : Nat) (M : Nat → Nat) : Prop where
  m : Mm 49 w bm gm M
  r : Mm 52 w br gr M
  up : Upd (fun _ => False) W w
  gmo : W.heap.size ≤ gm
  gro : W.heap.size ≤ gr
  ne : bm ≠ gr ∧ br ≠ gm ∧ gm ≠ gr
section
variable {W w w' w'' : World} {bm gm br gr : Nat} {M M' : Nat → Nat}
theorem Two.quiet (h : Two W w bm gm br gr M) (hu : Upd (fun _ => False) w w') : Two W w' bm gm br gr M :=
  ⟨h.m.upd hu (fun h => h) (fun h => h), h.r.upd hu (fun h => h) (fun h => h), h.up.calm0 hu, h.gmo, h.gro, h.ne⟩
theorem Two.half (h : Two W w bm gm br gr M) (hu : Upd (fun q => q = gm) w w') : Mm 52 w' br gr M := h.r.upd hu h.ne.2.1 (fun e => h.ne.2.2 e.symm)
theorem Two.both (h : Two W w bm gm br gr M) (hm : Mm 49 w' bm gm M') (hu : Upd (fun q => q = gm) w w') (hr : Mm 52 w'' br gr M') (hv : Upd (fun q => q = gr) w' w'') : Two W w'' bm gm br gr M' :=
  ⟨hm.upd hv h.ne.1 h.ne.2.2, hr, (h.up.calm hu h.gmo).calm hv h.gro, h.gmo, h.gro, h.ne⟩
end
theorem VwM.lt {w : World} {v : Value} {ys : List Nat} (h : VwM w v ys) {k : Nat} (hk : v.ownBlock = some k) (h0 : ys ≠ []) : k < w.heap.size := by
  rcases h.2 with ⟨_, rfl⟩ | ⟨g, off, c, rfl, h1, h2, h3⟩
  · exact absurd rfl h0
  · simp [Value.ownBlock] at hk
    subst hk
    exact World.block_lt_of_cell? w _ (h3 0 (List.length_pos_iff.2 h0))
theorem VwM.take {w : World} {a : Option Addr} {n c : Nat} {ys : List Nat} (h : VwM w (.slice a n c) ys) (k : Nat) (hk : k ≤ ys.length) : VwM w (.slice a (ys.take k).length c) (ys.take k) := by
  refine ⟨fun y hy => h.1 y (List.mem_of_mem_take hy), ?_⟩
  have hl : (ys.take k).length = k := by simp; omega
  rcases h.2 with ⟨⟨a0, he⟩, rfl⟩ | ⟨g, off, c', he, h1, h2, h3⟩
  · simp at he
    obtain ⟨rfl, rfl, rfl⟩ := he
    exact .inl ⟨⟨a, by simp⟩, by simp⟩
  · simp at he
    obtain ⟨rfl, rfl, rfl⟩ := he
    refine .inr ⟨g, off, c, rfl, by omega, h2, fun j hj => ?_⟩
    rw [hl] at hj
    rw [h3 j (by omega)]
    simp [List.getD, hj]
theorem hi8 {n : Nat} (hn : n < 4294967296) : IntKind.u8.wrap ((n : Nat) : Int) = ((n % 256 : Nat) : Int) := by rw [IntKind.wrap_u8]; omega
set_option maxRecDepth 100000 in
set_option maxHeartbeats 8000000 in
theorem memPlays_walk (W : World) (v : Value) (L : List St15) (hL : Sts15At W v L) : Calls Try.prog 4 #[v] W fun e w' => e = .returned (.bool true) ∧ Upd (fun _ => False) W w' := by
  obtain ⟨la, lc, rfl⟩ := hL.slice
  have HL := Lib.hid hL
  have hlm : L.length ≤ maxLen := by
    rcases hL with ⟨_, rfl⟩ | ⟨g, off, c, _, h1, h2, _⟩
    · simp
    · omega
  clear hL
  unfold maxLen at hlm
  go_enter Try.func4, Try.ntmps4
  go_wp2_with fail
  refine (mNew _).mono ?_
  rintro e w1 ⟨rfl, hm, hu⟩
  have HM := Lib.hid hm
  have HU := Lib.hid hu
  obtain ⟨gm, hg⟩ : ∃ gm, gm = W.heap.size := ⟨_, rfl⟩
  have HG := Lib.hid (Nat.le_of_eq hg.symm)
  rw [← hg] at HM
  rw [← hg]
  generalize hb : gm + 1 = bm at *
  clear hu hm hb hg
  go_wp2_with fail
  refine (known15 _).mono ?_
  rintro e w2 ⟨rfl, hu⟩
  have HM := Lib.hid (HM.out.upd hu (fun h => h) (fun h => h))
  have HU := Lib.hid (HU.out.calm0 hu)
  clear hu
  go_wp2_with fail
  refine (qNewM _).mono ?_
  rintro e w3 ⟨rfl, hm, hu⟩
  obtain ⟨gr, hg⟩ : ∃ gr, gr = w2.heap.size := ⟨_, rfl⟩
  rw [← hg] at hm
  rw [← hg]
  have HT : Hid (Two W w3 bm gm (gr + 1) gr (fun _ => 0)) := Lib.hid (by
    have h1 := HM.out.lt
    have h3 := HM.out.ne
    have h2 := HU.out.size
    exact ⟨HM.out.upd hu (fun h => h) (fun h => h), hm, HU.out.calm0 hu, HG.out, by omega, ⟨by omega, by omega, by omega⟩⟩)
  generalize hb : gr + 1 = br at *
  clear hu hm hb hg
  go_wp2_with fail
  go_loopw [5, 6, 7, 8, 9, 10, 11, 12, 13, 14, 15, 16, 17, 18, 19, 20, 21] (fun t _ _ _ _ _ _ _ _ _ _ _ _ _ _ _ _ wr => ∃ (i : Nat) (M : Nat → Nat), i ≤ L.length ∧ i ≤ 60 ∧ t = .int .i64 i ∧ Hid (Two W wr bm gm br gr M)) (fun t _ _ _ _ _ _ _ _ _ _ _ _ _ _ _ _ _ => 60 - (intOf t).toNat)
  case atStart => exact ⟨0, _, Nat.zero_le _, by omega, rfl, HT⟩
  case round =>
    obtain ⟨i, M, hi, hi6, rfl, HT⟩ := hrel
    by_cases hlt : i < L.length ∧ i < 60
    · obtain ⟨hlt, hlt2⟩ := hlt
      have HBL := Lib.hid (HT.out.up.below (Nat.le_refl _) (fun _ h => h.elim))
      obtain ⟨g, off, rfl, -, hgl, vb, c0, c1, c2, c3, c4, c5, c6⟩ := HL.out.at hlt
      have hq : ∀ q, W.cell? ⟨g, q, none⟩ = wr.cell? ⟨g, q, none⟩ := fun q => (HBL.out.cell (p := ⟨g, q, none⟩) hgl).symm
      rw [hq] at c0 c1 c2 c3 c4
      clear hq
      generalize L.getD i default = s at *
      obtain ⟨what, sa, near, n, hs⟩ := s
      obtain ⟨wf0, wf1, wf2, wn⟩ := c6
      simp only at c0 c1 c2 c3 c4 c5 wf1 wn
      obtain ⟨da, dc, rfl, hd1, hd2⟩ := c5.slice
      obtain ⟨w4, hw4⟩ : ∃ w4, w4 = wr.alloc (.cells #[.int .i64 what, .int .i64 sa, .int .i64 near, .int .u32 ((n : Nat) : Int), .slice da hs.length dc] 41) := ⟨_, rfl⟩
      have hx4 : w4.heap[wr.heap.size]? = some (.cells #[.int .i64 what, .int .i64 sa, .int .i64 near, .int .u32 ((n : Nat) : Int), .slice da hs.length dc] 41 (0, 0)) := by
        rw [hw4]; show (Array.push wr.heap _)[wr.heap.size]? = _; simp
      have hu4 : Upd (fun _ => False) wr w4 := by rw [hw4]; exact Upd.alloc _ _ _
      have hz4 : wr.heap.size < w4.heap.size := by rw [hw4]; simp
      have HT4 := Lib.hid (HT.out.quiet hu4)
      obtain ⟨xb, hxb⟩ : ∃ xb, xb = wr.heap.size := ⟨_, rfl⟩
      rw [← hxb] at hx4 hz4
      have HXN := Lib.hid (show xb ≠ gm ∧ xb ≠ gr by have := HT.out.m.lt.2; have := HT.out.r.lt.2; omega)
      have HC : Hid (∀ (S : Nat → Prop) u, Upd S w4 u → ¬ S xb → u.cell? ⟨xb, 0, none⟩ = some (.int .i64 what) ∧ u.cell? ⟨xb, 1, none⟩ = some (.int .i64 sa) ∧ u.cell? ⟨xb, 2, none⟩ = some (.int .i64 near) ∧ u.cell? ⟨xb, 3, none⟩ = some (.int .u32 ((n : Nat) : Int)) ∧ u.cell? ⟨xb, 4, none⟩ = some (.slice da hs.length dc)) := Lib.hid (fun S u hu hS => by
        have h := (hu.block xb hz4 hS).trans hx4
        refine ⟨?_, ?_, ?_, ?_, ?_⟩ <;> (unfold World.cell?; rw [h]; rfl))
      have HV := Lib.hid c5
      have HW4 := Lib.hid hw4
      have HXB := Lib.hid hxb.symm
      have HWN := Lib.hid wn
      have HSA := Lib.hid (show rng64 sa by have := bounds_i64 wf1; unfold rng64; omega)
      have HD2 := Lib.hid hd1
      have HW := Lib.hid (show wrap64 ((i : Int) + 1) = ((i + 1 : Nat) : Int) by unfold wrap64; omega)
      clear c5 wf0 wf1 wf2 wn hd1 hd2 hw4 hx4 hu4 hz4 hxb
      go_wp2_with fail
      rw [← HW4.out, HXB.out]
      clear c0 c1 c2 c3 c4
      obtain ⟨x0, x1, x2, x3, x4⟩ := HC.out (fun _ => False) w4 (Upd.refl _ _) (fun h => h)
      go_wp2_with fail
      refine (lAt15 w4 what sa near n (.slice da hs.length dc) HSA.out).mono ?_
      rintro e w5 ⟨⟨k, hk, rfl⟩, hu⟩
      have HK := Lib.hid hk
      have HT5 := Lib.hid (HT4.out.quiet hu)
      have HC5 : Hid (∀ (S : Nat → Prop) u, Upd S w5 u → ¬ S xb → u.cell? ⟨xb, 0, none⟩ = some (.int .i64 what) ∧ u.cell? ⟨xb, 1, none⟩ = some (.int .i64 sa) ∧ u.cell? ⟨xb, 2, none⟩ = some (.int .i64 near) ∧ u.cell? ⟨xb, 3, none⟩ = some (.int .u32 ((n : Nat) : Int)) ∧ u.cell? ⟨xb, 4, none⟩ = some (.slice da hs.length dc)) := Lib.hid (fun S u hu2 hS => HC.out S u ((hu.mono (fun _ h _ => h.elim)).trans hu2 (fun _ h _ => h)) hS)
      clear x0 x1 x2 x3 x4 hk hu
      obtain ⟨x0, x1, x2, x3, x4⟩ := HC5.out (fun _ => False) w5 (Upd.refl _ _) (fun h => h)
      go_wp2_with fail
      refine (hPick what 7 w5 (by omega) (by omega)).mono ?_
      rintro e w' ⟨rfl, rfl⟩
      obtain ⟨P, hP, hPr⟩ : ∃ P, P = what % 7 ∧ (0 ≤ P ∧ P ≤ 6) := ⟨_, rfl, by omega⟩
      rw [← hP]
      clear hP
      have hcase : ((P == 0) = true) ∨ ((P == 0) = false ∧ (P == 1) = true) ∨ ((P == 0) = false ∧ (P == 1) = false ∧ (P == 2) = true) ∨ ((P == 0) = false ∧ (P == 1) = false ∧ (P == 2) = false ∧ (P == 3) = true) ∨ ((P == 0) = false ∧ (P == 1) = false ∧ (P == 2) = false ∧ (P == 3) = false) := by
        simp; omega
      clear hPr
      rcases hcase with p0 | ⟨p0, p1⟩ | ⟨p0, p1, p2⟩ | ⟨p0, p1, p2, p3⟩ | ⟨p0, p1, p2, p3⟩
      · as_aux_lemma =>
        have HB : Hid (hs ≠ [] → ∀ n q, (Value.slice da n dc).ownBlock = some q → q < W.heap.size) := Lib.hid (fun h n q hq => HV.out.lt (k := q) (by rw [← hq]; cases da <;> rfl) h)
        by_cases hl20 : hs.length ≤ 20
        · have HD : Hid (VwM w5 (.slice da hs.length dc) hs ∧ (hs ≠ [] → ∀ q, (Value.slice da hs.length dc).ownBlock = some q → ¬ q = gm) ∧ (hs.length : Int) ≤ 4294967296) := Lib.hid ⟨HV.out.upd HT5.out.up (fun _ _ h => h), fun h q hq e => by have := HB.out h _ q hq; have := HT5.out.gmo; omega, by omega⟩
          have HQR : Hid (hs ≠ [] → ∀ q, (Value.slice da hs.length dc).ownBlock = some q → ¬ q = gr) := Lib.hid (fun h q hq e => by have := HB.out h _ q hq; have := HT5.out.gro; omega)
          have h20 : decide ((20 : Int) < (hs.length : Int)) = false := decide_eq_false (by omega)
          clear hl20
          go_wp2_with fail
          refine (mLoad HT5.out.m k HK.out da dc hs HD.out.1 HD.out.2.1 HD.out.2.2).mono ?_
          rintro e w6 ⟨rfl, hm, hu⟩
          have HM6 := Lib.hid hm
          have HU6 := Lib.hid hu
          have HR6 := Lib.hid (HT5.out.half hu)
          have HV6 : Hid (VwM w6 (.slice da hs.length dc) hs) := Lib.hid (HD.out.1.upd2 hu HD.out.2.1)
          clear hm hu
          go_wp2_with fail
          refine (qLoad HR6.out k HK.out da dc hs HV6.out HQR.out HD.out.2.2).mono ?_
          rintro e w7 ⟨rfl, hm, hu⟩
          have HT := Lib.hid (HT5.out.both HM6.out HU6.out hm hu)
          clear hm hu
          go_wp2_with fail
          refine (mWord HT.out.m k HK.out).mono ?_
          rintro e u1 ⟨rfl, hu⟩
          have HT := Lib.hid (HT.out.quiet hu)
          clear hu
          go_wp2_with fail
          refine (qWord HT.out.r k HK.out).mono ?_
          rintro e u2 ⟨rfl, hu⟩
          have HT := Lib.hid (HT.out.quiet hu)
          clear hu
          go_wp2_with fail
          refine (mByte HT.out.m k HK.out).mono ?_
          rintro e u3 ⟨rfl, rfl⟩
          go_wp2_with fail
          refine (qByte HT.out.r k HK.out).mono ?_
          rintro e u4 ⟨rfl, hu⟩
          have HT := Lib.hid (HT.out.quiet hu)
          clear hu
          go_wp2_with fail
          refine (mHalf HT.out.m k HK.out).mono ?_
          rintro e u5 ⟨rfl, hu⟩
          have HT := Lib.hid (HT.out.quiet hu)
          clear hu
          go_wp2_with fail
          refine (qHalf HT.out.r k HK.out).mono ?_
          rintro e u6 ⟨rfl, hu⟩
          have HT := Lib.hid (HT.out.quiet hu)
          clear hu
          go_wp2_with fail
          go_roundw
          case rel => exact ⟨i + 1, _, by omega, by omega, by go_num, HT⟩
          case measure => simp [intOf]; omega
        · have HD : Hid (VwM w5 (.slice da (hs.take 20).length dc) (hs.take 20) ∧ (hs.take 20 ≠ [] → ∀ q, (Value.slice da (hs.take 20).length dc).ownBlock = some q → ¬ q = gm) ∧ ((hs.take 20).length : Int) ≤ 4294967296) := Lib.hid ⟨(HV.out.upd HT5.out.up (fun _ _ h => h)).take 20 (by omega), fun h q hq e => by have := HB.out (fun e2 => h (by rw [e2]; rfl)) _ q hq; have := HT5.out.gmo; omega, by simp; omega⟩
          have HQR : Hid (hs.take 20 ≠ [] → ∀ q, (Value.slice da (hs.take 20).length dc).ownBlock = some q → ¬ q = gr) := Lib.hid (fun h q hq e => by have := HB.out (fun e2 => h (by rw [e2]; rfl)) _ q hq; have := HT5.out.gro; omega)
          have h20 : decide ((20 : Int) < (hs.length : Int)) = true := decide_eq_true (by omega)
          have HT20 := Lib.hid (show (hs.take 20).length = 20 by simp; omega)
          have hd2 := HD2.out
          have hcap : (20 : Int) ≤ (dc : Int) := by omega
          clear hl20 hd2
          obtain ⟨l, hl⟩ : ∃ l, l = hs.take 20 := ⟨_, rfl⟩
          rw [← hl] at HD HQR HT20
          clear hl
          have HML : Hid (Calls Try.prog 8 #[.pointer (some ⟨bm, 0, none⟩), .int .i64 k, .slice da 20 dc] w5 fun r w' => r = .returned (.bool (okLd k 20)) ∧ Mm 49 w' bm gm (ldM M k l) ∧ Upd (fun q => q = gm) w5 w') := Lib.hid (by
            have h := mLoad HT5.out.m k HK.out da dc l HD.out.1 HD.out.2.1 HD.out.2.2
            rw [HT20.out] at h
            exact h)
          go_wp2_with fail
          refine HML.out.mono ?_
          rintro e w6 ⟨rfl, hm, hu⟩
          have HM6 := Lib.hid hm
          have HU6 := Lib.hid hu
          have HR6 := Lib.hid (HT5.out.half hu)
          have HV6 : Hid (VwM w6 (.slice da l.length dc) l) := Lib.hid (HD.out.1.upd2 hu HD.out.2.1)
          have HQL : Hid (Calls Try.prog 17 #[.pointer (some ⟨br, 0, none⟩), .int .i64 k, .slice da 20 dc] w6 fun r w' => r = .returned (.bool (okLd k 20)) ∧ Mm 52 w' br gr (ldM M k l) ∧ Upd (fun q => q = gr) w6 w') := Lib.hid (by
            have h := qLoad HR6.out k HK.out da dc l HV6.out HQR.out HD.out.2.2
            rw [HT20.out] at h
            exact h)
          clear hm hu
          go_wp2_with fail
          refine HQL.out.mono ?_
          rintro e w7 ⟨rfl, hm, hu⟩
          have HT := Lib.hid (HT5.out.both HM6.out HU6.out hm hu)
          clear hm hu
          go_wp2_with fail
          refine (mWord HT.out.m k HK.out).mono ?_
          rintro e u1 ⟨rfl, hu⟩
          have HT := Lib.hid (HT.out.quiet hu)
          clear hu
          go_wp2_with fail
          refine (qWord HT.out.r k HK.out).mono ?_
          rintro e u2 ⟨rfl, hu⟩
          have HT := Lib.hid (HT.out.quiet hu)
          clear hu
          go_wp2_with fail
          refine (mByte HT.out.m k HK.out).mono ?_
          rintro e u3 ⟨rfl, rfl⟩
          go_wp2_with fail
          refine (qByte HT.out.r k HK.out).mono ?_
          rintro e u4 ⟨rfl, hu⟩
          have HT := Lib.hid (HT.out.quiet hu)
          clear hu
          go_wp2_with fail
          refine (mHalf HT.out.m k HK.out).mono ?_
          rintro e u5 ⟨rfl, hu⟩
          have HT := Lib.hid (HT.out.quiet hu)
          clear hu
          go_wp2_with fail
          refine (qHalf HT.out.r k HK.out).mono ?_
          rintro e u6 ⟨rfl, hu⟩
          have HT := Lib.hid (HT.out.quiet hu)
          clear hu
          go_wp2_with fail
          go_roundw
          case rel => exact ⟨i + 1, _, by omega, by omega, by go_num, HT⟩
          case measure => simp [intOf]; omega
      · as_aux_lemma =>
        have hd := Upd.drew (fun _ => False) w5
        have HT6 := Lib.hid (HT5.out.quiet hd)
        have HC6 : Hid (∀ (S : Nat → Prop) u, Upd S w5.drew u → ¬ S xb → u.cell? ⟨xb, 3, none⟩ = some (.int .u32 ((n : Nat) : Int))) := Lib.hid (fun S u hu2 hS => (HC5.out S u ((hd.mono (fun _ h _ => h.elim)).trans hu2 (fun _ h _ => h)) hS).2.2.2.1)
        have HS0 := Lib.hid (HC6.out (fun _ => False) w5.drew (Upd.refl _ _) (fun h => h))
        clear hd
        go_wp2_with fail
        go_region_held3 (fun u => u.cell? ⟨xb, 3, none⟩ = some (.int .u32 ((n : Nat) : Int))) (first
          | with_reducible exact HS0.out
          | with_reducible exact HS6.out
          | with_reducible exact HS7.out) (first
          | (go_at_call 11; (refine (mSetWord HT6.out.m k HK.out n HWN.out).mono ?_); rintro e w6 ⟨rfl, hm, hu⟩; have HM6 := Lib.hid hm; have HU6 := Lib.hid hu; have HR6 := Lib.hid (HT6.out.half hu); have HS6 := Lib.hid (HC6.out _ _ hu HXN.out.1); clear hm hu)
          | (go_at_call 18; (refine (qSetWord HR6.out k HK.out n HWN.out).mono ?_); rintro e w7 ⟨rfl, hm, hu⟩; have HT := Lib.hid (HT6.out.both HM6.out HU6.out hm hu); have HS7 := Lib.hid (HC6.out (fun q => q = gm ∨ q = gr) w7 ((HU6.out.mono (fun _ h _ => .inl h)).trans (hu.mono (fun _ h _ => .inr h)) (fun _ h _ => h)) (fun h => h.elim HXN.out.1 HXN.out.2)); clear hm hu))
        go_wp2_with fail
        refine (mWord HT.out.m k HK.out).mono ?_
        rintro e u1 ⟨rfl, hu⟩
        have HT := Lib.hid (HT.out.quiet hu)
        clear hu
        go_wp2_with fail
        refine (qWord HT.out.r k HK.out).mono ?_
        rintro e u2 ⟨rfl, hu⟩
        have HT := Lib.hid (HT.out.quiet hu)
        clear hu
        go_wp2_with fail
        refine (mByte HT.out.m k HK.out).mono ?_
        rintro e u3 ⟨rfl, rfl⟩
        go_wp2_with fail
        refine (qByte HT.out.r k HK.out).mono ?_
        rintro e u4 ⟨rfl, hu⟩
        have HT := Lib.hid (HT.out.quiet hu)
        clear hu
        go_wp2_with fail
        refine (mHalf HT.out.m k HK.out).mono ?_
        rintro e u5 ⟨rfl, hu⟩
        have HT := Lib.hid (HT.out.quiet hu)
        clear hu
        go_wp2_with fail
        refine (qHalf HT.out.r k HK.out).mono ?_
        rintro e u6 ⟨rfl, hu⟩
        have HT := Lib.hid (HT.out.quiet hu)
        clear hu
        go_wp2_with fail
        go_roundw
        case rel => exact ⟨i + 1, _, by omega, by omega, by go_num, HT⟩
        case measure => simp [intOf]; omega
      · as_aux_lemma =>
        have hd := Upd.drew (fun _ => False) w5
        have HT6 := Lib.hid (HT5.out.quiet hd)
        have HC6 : Hid (∀ (S : Nat → Prop) u, Upd S w5.drew u → ¬ S xb → u.cell? ⟨xb, 3, none⟩ = some (.int .u32 ((n : Nat) : Int))) := Lib.hid (fun S u hu2 hS => (HC5.out S u ((hd.mono (fun _ h _ => h.elim)).trans hu2 (fun _ h _ => h)) hS).2.2.2.1)
        have HS0 := Lib.hid (HC6.out (fun _ => False) w5.drew (Upd.refl _ _) (fun h => h))
        clear hd
        go_wp2_with fail
        go_region_held3 (fun u => u.cell? ⟨xb, 3, none⟩ = some (.int .u32 ((n : Nat) : Int))) (first
          | with_reducible exact HS0.out
          | with_reducible exact HS6.out
          | with_reducible exact HS7.out) (first
          | (go_at_call 11; (refine (mSetWord HT6.out.m k HK.out n HWN.out).mono ?_); rintro e w6 ⟨rfl, hm, hu⟩; have HM6 := Lib.hid hm; have HU6 := Lib.hid hu; have HR6 := Lib.hid (HT6.out.half hu); have HS6 := Lib.hid (HC6.out _ _ hu HXN.out.1); clear hm hu)
          | (go_at_call 18; (refine (qSetWord HR6.out k HK.out n HWN.out).mono ?_); rintro e w7 ⟨rfl, hm, hu⟩; have HT := Lib.hid (HT6.out.both HM6.out HU6.out hm hu); have HS7 := Lib.hid (HC6.out (fun q => q = gm ∨ q = gr) w7 ((HU6.out.mono (fun _ h _ => .inl h)).trans (hu.mono (fun _ h _ => .inr h)) (fun _ h _ => h)) (fun h => h.elim HXN.out.1 HXN.out.2)); clear hm hu))
        go_wp2_with fail
        refine (mWord HT.out.m k HK.out).mono ?_
        rintro e u1 ⟨rfl, hu⟩
        have HT := Lib.hid (HT.out.quiet hu)
        clear hu
        go_wp2_with fail
        refine (qWord HT.out.r k HK.out).mono ?_
        rintro e u2 ⟨rfl, hu⟩
        have HT := Lib.hid (HT.out.quiet hu)
        clear hu
        go_wp2_with fail
        refine (mByte HT.out.m k HK.out).mono ?_
        rintro e u3 ⟨rfl, rfl⟩
        go_wp2_with fail
        refine (qByte HT.out.r k HK.out).mono ?_
        rintro e u4 ⟨rfl, hu⟩
        have HT := Lib.hid (HT.out.quiet hu)
        clear hu
        go_wp2_with fail
        refine (mHalf HT.out.m k HK.out).mono ?_
        rintro e u5 ⟨rfl, hu⟩
        have HT := Lib.hid (HT.out.quiet hu)
        clear hu
        go_wp2_with fail
        refine (qHalf HT.out.r k HK.out).mono ?_
        rintro e u6 ⟨rfl, hu⟩
        have HT := Lib.hid (HT.out.quiet hu)
        clear hu
        go_wp2_with fail
        go_roundw
        case rel => exact ⟨i + 1, _, by omega, by omega, by go_num, HT⟩
        case measure => simp [intOf]; omega
      · as_aux_lemma =>
        have hq8 := hi8 HWN.out
        have HY := Lib.hid (show n % 256 < 256 by omega)
        generalize n % 256 = y at *
        have hd := Upd.drew (fun _ => False) w5
        have HT6 := Lib.hid (HT5.out.quiet hd)
        have HC6 : Hid (∀ (S : Nat → Prop) u, Upd S w5.drew u → ¬ S xb → u.cell? ⟨xb, 3, none⟩ = some (.int .u32 ((n : Nat) : Int))) := Lib.hid (fun S u hu2 hS => (HC5.out S u ((hd.mono (fun _ h _ => h.elim)).trans hu2 (fun _ h _ => h)) hS).2.2.2.1)
        have HS0 := Lib.hid (HC6.out (fun _ => False) w5.drew (Upd.refl _ _) (fun h => h))
        clear hd
        go_wp2_with fail
        go_region_held3 (fun u => u.cell? ⟨xb, 3, none⟩ = some (.int .u32 ((n : Nat) : Int))) (first
          | with_reducible exact HS0.out
          | with_reducible exact HS6.out
          | with_reducible exact HS7.out) (first
          | (go_at_call 13; (refine (mSetByte HT6.out.m k HK.out y HY.out).mono ?_); rintro e w6 ⟨rfl, hm, hu⟩; have HM6 := Lib.hid hm; have HU6 := Lib.hid hu; have HR6 := Lib.hid (HT6.out.half hu); have HS6 := Lib.hid (HC6.out _ _ hu HXN.out.1); clear hm hu)
          | (go_at_call 19; (refine (qSetByte HR6.out k HK.out y HY.out).mono ?_); rintro e w7 ⟨rfl, hm, hu⟩; have HT := Lib.hid (HT6.out.both HM6.out HU6.out hm hu); have HS7 := Lib.hid (HC6.out (fun q => q = gm ∨ q = gr) w7 ((HU6.out.mono (fun _ h _ => .inl h)).trans (hu.mono (fun _ h _ => .inr h)) (fun _ h _ => h)) (fun h => h.elim HXN.out.1 HXN.out.2)); clear hm hu))
        go_wp2_with fail
        refine (mWord HT.out.m k HK.out).mono ?_
        rintro e u1 ⟨rfl, hu⟩
        have HT := Lib.hid (HT.out.quiet hu)
        clear hu
        go_wp2_with fail
        refine (qWord HT.out.r k HK.out).mono ?_
        rintro e u2 ⟨rfl, hu⟩
        have HT := Lib.hid (HT.out.quiet hu)
        clear hu
        go_wp2_with fail
        refine (mByte HT.out.m k HK.out).mono ?_
        rintro e u3 ⟨rfl, rfl⟩
        go_wp2_with fail
        refine (qByte HT.out.r k HK.out).mono ?_
        rintro e u4 ⟨rfl, hu⟩
        have HT := Lib.hid (HT.out.quiet hu)
        clear hu
        go_wp2_with fail
        refine (mHalf HT.out.m k HK.out).mono ?_
        rintro e u5 ⟨rfl, hu⟩
        have HT := Lib.hid (HT.out.quiet hu)
        clear hu
        go_wp2_with fail
        refine (qHalf HT.out.r k HK.out).mono ?_
        rintro e u6 ⟨rfl, hu⟩
        have HT := Lib.hid (HT.out.quiet hu)
        clear hu
        go_wp2_with fail
        go_roundw
        case rel => exact ⟨i + 1, _, by omega, by omega, by go_num, HT⟩
        case measure => simp [intOf]; omega
      · as_aux_lemma =>
        have HT := HT5
        go_wp2_with fail
        refine (mWord HT.out.m k HK.out).mono ?_
        rintro e u1 ⟨rfl, hu⟩
        have HT := Lib.hid (HT.out.quiet hu)
        clear hu
        go_wp2_with fail
        refine (qWord HT.out.r k HK.out).mono ?_
        rintro e u2 ⟨rfl, hu⟩
        have HT := Lib.hid (HT.out.quiet hu)
        clear hu
        go_wp2_with fail
        refine (mByte HT.out.m k HK.out).mono ?_
        rintro e u3 ⟨rfl, rfl⟩
        go_wp2_with fail
        refine (qByte HT.out.r k HK.out).mono ?_
        rintro e u4 ⟨rfl, hu⟩
        have HT := Lib.hid (HT.out.quiet hu)
        clear hu
        go_wp2_with fail
        refine (mHalf HT.out.m k HK.out).mono ?_
        rintro e u5 ⟨rfl, hu⟩
        have HT := Lib.hid (HT.out.quiet hu)
        clear hu
        go_wp2_with fail
        refine (qHalf HT.out.r k HK.out).mono ?_
        rintro e u6 ⟨rfl, hu⟩
        have HT := Lib.hid (HT.out.quiet hu)
        clear hu
        go_wp2_with fail
        go_roundw
        case rel => exact ⟨i + 1, _, by omega, by omega, by go_num, HT⟩
        case measure => simp [intOf]; omega
    · have h9 : (i < L.length ∧ ¬ i < 60) ∨ ¬ i < L.length := by omega
      clear hlt hi hi6
      rcases h9 with ⟨h9, h10⟩ | h9
      · go_wp2_with fail
        go_ret
        exact ⟨rfl, HT.out.up⟩
      · go_wp2_with fail
        go_ret
        exact ⟨rfl, HT.out.up⟩
theorem memPlays_below (W : World) (v : Value) (L : List St15) (hL : Sts15At W v L) : Calls Try.prog 4 #[v] W fun e w' => e = .returned (.bool true) ∧ Below W.heap.size W w' := (memPlays_walk W v L hL).mono fun _ _ h => ⟨h.1, h.2.below (Nat.le_refl _) (fun _ h => h.elim)⟩
end Go.Proofs.Ytplialeggcaplaa

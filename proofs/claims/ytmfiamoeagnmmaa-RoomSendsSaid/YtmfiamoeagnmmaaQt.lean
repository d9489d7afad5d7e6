/- RoomSends: what is sent is told, in order, public and secret apart. -/
import Derived.Test.YtmfiamoeagnmmaaQs
import Derived.Test.YtmfiamoeagnmmaaQr
import Derived.Test.YtmfiamoeagnmmaaQn
namespace Go.Proofs.Ytmfiamoeagnmmaa
open Go.RowKit Go.Lib Go.ChangeShapes Go.WideShapes Go.Deep
set_option linter.unusedVariables false
set_option linter.unusedSimpArgs false

/-- the room while it sends: the buffers stay, what is told grows -/
def sent (x y X Y : List Int) : RmM := ⟨((two 100).lay 0 x).lay 1 y, [], X, Y⟩
theorem two_cells {w : World} {g : Nat} {v0 v1 : Value} {t : TypeId} (h : w.heap[g]? = some (.cells #[v0, v1] t (0, 0))) : w.cell? ⟨g, 0, none⟩ = some v0 ∧ w.cell? ⟨g, 1, none⟩ = some v1 ∧ ∀ q, w.frozen? ⟨g, q, none⟩ = false := by
  refine ⟨?_, ?_, fun q => by simp [World.frozen?, h]⟩ <;> simp [World.cell?, h]
theorem send_pub (x y X Y : List Int) (a k : Nat) (h : a + k ≤ x.length) (aa : Int) : sendS (sent x y X Y) 0 aa ⟨1, a, k⟩ = if 128 < ((toldP (sent x y X Y) aa).length : Int) + (k : Int) then 28425 else 36864 := by
  unfold sendS
  simp only
  rw [if_pos (show rngP (sent x y X Y).hp.arrs 1 a k 0 = 36864 from rng_pub 100 x y a k 0 h)]
theorem send_sec (x y X Y : List Int) (a k : Nat) (h : a + k ≤ y.length) (aa : Int) : sendS (sent x y X Y) 0 aa ⟨2, a, k⟩ = if 128 < ((toldP (sent x y X Y) aa).length : Int) + (k : Int) then 28425 else 36864 := by
  unfold sendS
  simp only
  rw [if_pos (show rngP (sent x y X Y).hp.arrs 2 a k 0 = 36864 from rng_sec 100 x y a k 0 h)]
/-- what stands at a round's begin, the law's own texts apart -/
structure At0 (W : World) (x y : List Int) (pv sv : Value) (rb tb : Nat) (c : Nat → Nat) (wr : World) (X Y : List Int) : Prop where
  rm : Rm c wr rb (sent x y X Y)
  cb : c tb = 10
  tl : tb < wr.heap.size
  p : Vw wr pv x
  s : Vw wr sv y
  cp : ∀ k, pv.ownBlock = some k → 0 < x.length → c k = 8
  cs : ∀ k, sv.ownBlock = some k → 0 < y.length → c k = 8
  up : Upd (fun _ => False) W wr
  c0 : ∀ k, k < W.heap.size → c k = 0
theorem vw_lt {w : World} {v : Value} {x : List Int} (h : Vw w v x) (h0 : 0 < x.length) : ∀ k, v.ownBlock = some k → k < w.heap.size := by
  intro k hk
  rcases h.2 with ⟨_, e⟩ | ⟨g, off, cc, rfl, -, -, hc⟩
  · rw [e] at h0; simp at h0
  · simp [Value.ownBlock] at hk
    subst hk
    exact World.block_lt_of_cell? w _ (hc 0 h0)
theorem vw_keep {T : Nat → Prop} {c c' : Nat → Nat} {w w' : World} {v : Value} {x : List Int} (h : Vw w v x) (hc : ∀ k, v.ownBlock = some k → 0 < x.length → c k = 8) (hx : Ext T c w c' w') (hT : ¬ T 8) : Vw w' v x ∧ ∀ k, v.ownBlock = some k → 0 < x.length → c' k = 8 := by
  by_cases h0 : 0 < x.length
  · exact ⟨hx.vw h (fun k hk => by rw [hc k hk h0]; exact hT), fun k hk _ => hx.col (vw_lt h h0 k hk) (hc k hk h0)⟩
  · have : x = [] := List.eq_nil_of_length_eq_zero (by omega)
    subst this
    refine ⟨⟨by simp, ?_⟩, fun k _ h => absurd h h0⟩
    rcases h.2 with h | ⟨g, off, cc, e, h1, h2, -⟩
    · exact .inl h
    · exact .inr ⟨g, off, cc, e, h1, h2, by simp⟩
theorem At0.ext {W : World} {x y : List Int} {pv sv : Value} {rb tb : Nat} {c c' : Nat → Nat} {wr w' : World} {X Y X' Y' : List Int} {T : Nat → Prop} (h : At0 W x y pv sv rb tb c wr X Y) (hx : Ext T c wr c' w') (hT : ¬ T 8) (hT0 : ¬ T 0) (hr : Rm c' w' rb (sent x y X' Y')) : At0 W x y pv sv rb tb c' w' X' Y' := by
  obtain ⟨k1, k2⟩ := vw_keep h.p h.cp hx hT
  obtain ⟨k3, k4⟩ := vw_keep h.s h.cs hx hT
  obtain ⟨k5, k6⟩ := hx.upW h.up h.c0 hT0
  exact ⟨hr, hx.col h.tl h.cb, Nat.lt_of_lt_of_le h.tl hx.size, k1, k3, k2, k4, k5, k6⟩
theorem At0.quiet {W : World} {x y : List Int} {pv sv : Value} {rb tb : Nat} {c : Nat → Nat} {wr w' : World} {X Y : List Int} (h : At0 W x y pv sv rb tb c wr X Y) (hu : Upd (fun _ => False) wr w') : At0 W x y pv sv rb tb c w' X Y :=
  h.ext (Ext.quiet c hu) (fun h => h) (fun h => h) (h.rm.quiet hu)
abbrev T10 (i : Nat) : Prop := i = 10
theorem At0.store {W : World} {x y : List Int} {pv sv : Value} {rb tb : Nat} {c : Nat → Nat} {wr : World} {X Y : List Int} (h : At0 W x y pv sv rb tb c wr X Y) (q : Nat) (u : Value) : At0 W x y pv sv rb tb c (wr.setCell ⟨tb, q, none⟩ u) X Y := by
  have hu : Upd (fun k => k = tb) wr (wr.setCell ⟨tb, q, none⟩ u) := hpS (Upd.refl _ _) rfl
  have E : Ext T10 c wr c (wr.setCell ⟨tb, q, none⟩ u) := ⟨fun _ _ => rfl, hu.mono (fun k hk _ => by rw [hk]; exact h.cb)⟩
  exact h.ext E (by omega) (by omega) (h.rm.ext E (fun i hi e => by have e : i = 10 := e; subst e; simp [RmC] at hi))
theorem begin0 {c : Nat → Nat} {w : World} {rb : Nat} {x y : List Int} (h : Rm c w rb (beginM (noRoom 100) x y)) : Rm c w rb (sent x y [] []) := h
def bx (X Y : List Int) : Array Value := #[.string (strOfNums X), .string (strOfNums Y)]
set_option maxRecDepth 100000 in
set_option maxHeartbeats 4000000 in
theorem roomSends_walk (W : World) (pv0 sv0 lv : Value) (x0 y0 : List Int) (L : List St12) (hp : Vw W pv0 x0) (hs : Vw W sv0 y0) (hl : Qs12At W lv L) : Calls Try.prog 4 #[pv0, sv0, lv] W fun e w' => e = .returned (.bool true) ∧ Upd (fun _ => False) W w' := by
  have HN := Lib.hid (rNewRoom zero0 100 W (by omega) (by omega))
  have HP := Lib.hid hp
  have HS := Lib.hid hs
  have HL := Lib.hid hl
  obtain ⟨pa0, pc0, rfl, -, -⟩ := hp.slice
  obtain ⟨sa0, sc0, rfl, -, -⟩ := hs.slice
  obtain ⟨la, lc, rfl⟩ := hl.slice
  clear hp hs hl
  go_enter Try.func4, Try.ntmps4
  go_wp2_with fail
  refine HN.out.mono ?_
  rintro e w1 ⟨rb, c1, rfl, hx, hr⟩
  obtain ⟨hu1, hc1⟩ := hx.upW (Upd.refl _ W) (fun _ _ => rfl) (fun h => h)
  go_wp2_with fail
  refine (known12 w1).mono ?_
  rintro e w2 ⟨rfl, hu2⟩
  have HR2 := Lib.hid (hr.quiet hu2)
  have HU2 := Lib.hid (hu1.trans hu2 (fun _ h _ => h))
  have HC1 := Lib.hid hc1
  clear hx hr hu1 hc1 HN hu2
  go_wp2_with fail
  refine (few w2 _ x0 64 (HP.out.upd HU2.out (fun _ _ h => h)) (.inr (by omega)) (by omega) (by omega)).mono ?_
  rintro e w3 ⟨pv, rfl, hn⟩
  obtain ⟨x, hxe⟩ : ∃ x, x = x0.take (64 : Int).toNat := ⟨_, rfl⟩
  rw [← hxe] at hn
  have hxl : x.length ≤ 64 := by rw [hxe, List.length_take]; omega
  have hxb : ∀ z ∈ x, 0 ≤ z ∧ z ≤ 255 := fun z hz => HP.out.1 z (by rw [hxe] at hz; exact List.mem_of_mem_take hz)
  have HVP := Lib.hid (hn.vw hxb)
  have HE3 := Lib.hid (Ext.made None0 8 (c := c1) hn.2.1)
  have HCP := Lib.hid (show ∀ k, pv.ownBlock = some k → paint c1 w2 8 k = 8 from fun k hk => paint_new _ _ _ (hn.2.2 k hk))
  have HU3 := Lib.hid (HU2.out.trans hn.2.1 (fun _ h _ => h))
  obtain ⟨pa, pc, rfl, hpc1, hpc2⟩ := HVP.out.slice
  clear hn hxe hxb
  go_wp2_with fail
  refine (few w3 _ y0 64 (HS.out.upd HU3.out (fun _ _ h => h)) (.inr (by omega)) (by omega) (by omega)).mono ?_
  rintro e w4 ⟨sv, rfl, hn⟩
  obtain ⟨y, hye⟩ : ∃ y, y = y0.take (64 : Int).toNat := ⟨_, rfl⟩
  rw [← hye] at hn
  have hyl : y.length ≤ 64 := by rw [hye, List.length_take]; omega
  have hyb : ∀ z ∈ y, 0 ≤ z ∧ z ≤ 255 := fun z hz => HS.out.1 z (by rw [hye] at hz; exact List.mem_of_mem_take hz)
  have HVS := Lib.hid (hn.vw hyb)
  have HE4 := Lib.hid (Ext.made None0 8 (c := paint c1 w2 8) hn.2.1)
  have HCS := Lib.hid (show ∀ k, sv.ownBlock = some k → paint (paint c1 w2 8) w3 8 k = 8 from fun k hk => paint_new _ _ _ (hn.2.2 k hk))
  have HU4 := Lib.hid (HU3.out.trans hn.2.1 (fun _ h _ => h))
  have HVP4 := Lib.hid (vw_keep HVP.out (fun k hk _ => HCP.out k hk) HE4.out (fun h => h))
  obtain ⟨sa, sc, rfl, hsc1, hsc2⟩ := HVS.out.slice
  obtain ⟨hu4, hc4⟩ := HE3.out.upW HU2.out HC1.out (fun h => h)
  obtain ⟨hu4', hc4'⟩ := HE4.out.upW hu4 hc4 (fun h => h)
  have HC4 := Lib.hid hc4'
  have HR4 := Lib.hid ((HR2.out.ext HE3.out (fun _ _ h => h)).ext HE4.out (fun _ _ h => h))
  have HXL := Lib.hid hxl
  have HYL := Lib.hid hyl
  clear hn hye hyb hu4 hc4 hu4' hc4'
  unfold maxLen at hpc2 hsc2
  go_wp2_with fail
  refine (rBegin HR4.out (.slice pa x.length pc) (.slice sa y.length sc) x y HVP4.out.1 HVS.out HXL.out HYL.out (fun k hk => by rw [HCS.out k hk]; omega)).mono ?_
  rintro e w5 ⟨rfl, c5, hx5, hr5⟩
  obtain ⟨wt, hwt⟩ : ∃ wt, wt = w5.alloc (.cells #[.string { data := #[] }, .string { data := #[] }] 49) := ⟨_, rfl⟩
  have hut : Upd (fun _ => False) w5 wt := by rw [hwt]; exact Upd.alloc _ _ _
  have hqt : wt.heap[w5.heap.size]? = some (.cells (bx [] []) 49 (0, 0)) := by rw [hwt]; exact hpTop _ _ _ rfl
  have HWT := Lib.hid hwt
  have HBX0 := Lib.hid hqt
  have hx6 := Ext.made None0 10 (c := c5) hut
  have HAT0 : Hid (At0 W x y (.slice pa x.length pc) (.slice sa y.length sc) rb w5.heap.size (paint c5 w5 10) wt [] []) := Lib.hid (by
    obtain ⟨p1, p2⟩ := vw_keep HVP4.out.1 HVP4.out.2 hx5 (by simp [BT])
    obtain ⟨p3, p4⟩ := vw_keep p1 p2 hx6 (fun h => h)
    obtain ⟨s1, s2⟩ := vw_keep HVS.out (fun k hk _ => HCS.out k hk) hx5 (by simp [BT])
    obtain ⟨s3, s4⟩ := vw_keep s1 s2 hx6 (fun h => h)
    obtain ⟨u1, u2⟩ := hx5.upW HU4.out HC4.out (by simp [BT])
    obtain ⟨u3, u4⟩ := hx6.upW u1 u2 (fun h => h)
    exact ⟨(begin0 hr5).ext hx6 (fun _ _ h => h), paint_new _ _ _ (Nat.le_refl _), by rw [hwt]; simp, p3, s3, p4, s4, u3, u4⟩)
  clear hx5 hr5 hwt hut hqt hx6
  go_wp2_with fail
  rw [← HWT.out]
  clear HWT
  generalize htb : w5.heap.size = tb at *
  clear htb
  go_loopw [12, 13, 14, 15, 16, 17, 18, 19, 20, 21, 22] (fun i _ _ _ _ _ _ _ _ _ _ wr => ∃ k c X Y, k ≤ L.length ∧ k ≤ 30 ∧ i = .int .i64 (k : Nat) ∧ Hid (At0 W x y (.slice pa x.length pc) (.slice sa y.length sc) rb tb c wr X Y) ∧ Hid (wr.heap[tb]? = some (.cells (bx X Y) 49 (0, 0)))) (fun i _ _ _ _ _ _ _ _ _ _ _ => L.length - (intOf i).toNat)
  case atStart => exact ⟨0, _, [], [], Nat.zero_le _, by omega, rfl, HAT0, HBX0⟩
  case round =>
    obtain ⟨k, c, X, Y, hk, hk2, rfl, HAT, HBX⟩ := hrel
    have hXl : X.length ≤ 128 := by obtain ⟨_, _, _, _, _, _, _, h⟩ := HAT.out.rm; exact h.pb.1
    have hYl : Y.length ≤ 128 := by obtain ⟨_, _, _, _, _, _, _, h⟩ := HAT.out.rm; exact h.sb.1
    by_cases hlt : k < L.length ∧ k < 30
    · have hb : Below W.heap.size W wr := HAT.out.up.below (Nat.le_refl _) (fun _ h => h.elim)
      obtain ⟨lg, loff, rfl, -, -, hst⟩ := (HL.out.below hb).at hlt.1
      obtain ⟨_, _, _, q0, q1, q2, q3, -⟩ := hst
      obtain ⟨hl1, hl2⟩ := hlt
      generalize (L.getD k default).what = s0 at *
      generalize (L.getD k default).app = s1 at *
      generalize (L.getD k default).a = s2 at *
      generalize (L.getD k default).b = s3 at *
      have t1 : decide ((k : Int) < (L.length : Int)) = true := by simp; omega
      have t2 : decide ((k : Int) < 30) = true := by simp; omega
      have hk0 : (0 : Int) ≤ (k : Int) := Int.natCast_nonneg _
      have hk1 : (k : Int) < (L.length : Int) := by omega
      clear hb
      go_wp2_with fail
      refine (hPick s2 2 wr (by omega) (by omega)).mono ?_
      rintro e w' ⟨rfl, rfl⟩
      have hz : s2 % 2 = 0 ∨ s2 % 2 = 1 := by omega
      rcases hz with hz | hz
      · rw [hz]
        clear hz
        have hw1 : IntKind.i64.wrap ((x.length : Int) + 1) = (x.length : Int) + 1 := IntWalk.i64_in _ (by omega)
        go_wp2_with fail
        refine (hPick s3 ((x.length : Int) + 1) wr (by omega) (by omega)).mono ?_
        rintro e w' ⟨rfl, rfl⟩
        obtain ⟨at_, hn, hat⟩ : ∃ at_ : Nat, s3 % ((x.length : Int) + 1) = (at_ : Int) ∧ at_ ≤ x.length := by
          have h1 := Int.emod_nonneg s3 (show ((x.length : Int) + 1) ≠ 0 by omega)
          have h2 := Int.emod_lt_of_pos s3 (show 0 < (x.length : Int) + 1 by omega)
          exact ⟨(s3 % ((x.length : Int) + 1)).toNat, by omega, by omega⟩
        rw [hn]
        clear hn
        have hw2 : IntKind.i64.wrap ((x.length : Int) - (at_ : Int)) = (x.length : Int) - (at_ : Int) := IntWalk.i64_in _ (by omega)
        have hw3 : IntKind.i64.wrap ((x.length : Int) - (at_ : Int) + 1) = (x.length : Int) - (at_ : Int) + 1 := IntWalk.i64_in _ (by omega)
        go_wp2_with fail
        refine (hPick s1 ((x.length : Int) - (at_ : Int) + 1) wr (by omega) (by omega)).mono ?_
        rintro e w' ⟨rfl, rfl⟩
        obtain ⟨n, hn, hzl⟩ : ∃ n : Nat, s1 % ((x.length : Int) - (at_ : Int) + 1) = (n : Int) ∧ at_ + n ≤ x.length := by
          have h1 := Int.emod_nonneg s1 (show ((x.length : Int) - (at_ : Int) + 1) ≠ 0 by omega)
          have h2 := Int.emod_lt_of_pos s1 (show 0 < (x.length : Int) - (at_ : Int) + 1 by omega)
          exact ⟨(s1 % ((x.length : Int) - (at_ : Int) + 1)).toNat, by omega, by omega⟩
        rw [hn]
        have hwat : IntKind.i32.wrap (at_ : Int) = (at_ : Int) := by rw [IntKind.wrap_i32]; omega
        have hwn : IntKind.i32.wrap (n : Int) = (n : Int) := by rw [IntKind.wrap_i32]; omega
        have hn64 : n ≤ 64 := by omega
        clear hn hw1 hw2 hw3
        by_cases hfull : 128 < (X.length : Int) + (n : Int)
        · as_aux_lemma =>
          have HST : Hid (sendS (sent x y X Y) 0 1 ⟨1, at_, n⟩ = 28425) := Lib.hid (by
            rw [send_pub x y X Y at_ n hzl 1, if_pos (show 128 < ((toldP (sent x y X Y) 1).length : Int) + (n : Int) from hfull)])
          have HSM : Hid (sendM (sent x y X Y) 0 1 ⟨1, at_, n⟩ = sent x y X Y) := Lib.hid (by
            unfold sendM
            rw [HST.out]
            exact if_neg (by decide))
          obtain ⟨wa, hwa⟩ : ∃ wa, wa = wr.alloc (.cells #[.int .i32 1, .int .i32 at_, .int .i32 n] 21) := ⟨_, rfl⟩
          have ha1 : Upd (fun _ => False) wr wa := by rw [hwa]; exact Upd.alloc _ _ _
          have hqa : wa.heap[wr.heap.size]? = some (.cells #[.int .i32 1, .int .i32 at_, .int .i32 n] 21 (0, 0)) := by rw [hwa]; exact hpTop _ _ _ rfl
          have HE5 := Lib.hid (Ext.made None0 9 (c := c) ha1)
          have HS1 : Hid (Calls Try.prog 12 #[.pointer (some ⟨rb, 0, none⟩), .pointer none, .int .i64 0, .int .i64 36, .int .i64 1, .int .i64 0, .slice (some ⟨wr.heap.size, 0, none⟩) 3 3] wa fun e w' => Served (paint c wr 9) wa rb (.pointer none) ⟨0, 28425, sent x y X Y⟩ none e w') := Lib.hid (by
            have := sv36p (HAT.out.rm.ext HE5.out (fun _ _ h => h)) (show TrO (paint c wr 9) wa (.pointer none) none from rfl) 0 1 0 _ 1 at_ n (i32_lit hqa rfl rfl (show 3 ≤ 100 by omega) (by simp; omega)) (fun k hk => by simp [Value.ownBlock] at hk; rw [← hk, paint_new _ _ _ (Nat.le_refl _)]; exact nR9) rfl
            rw [HST.out, HSM.out] at this
            exact this)
          have HWA := Lib.hid hwa
          clear hwa hqa ha1
          go_wp2_with fail
          rw [← HWA.out]
          refine HS1.out.mono ?_
          rintro e w5 ⟨rfl, c5, hx5, hr5, -⟩
          have hx5' : Ext TR c wr c5 w5 := (HE5.out.mono (T' := TR) (fun _ h => h.elim)).trans hx5 (fun _ h => h)
          have HA5 := Lib.hid (HAT.out.ext hx5' (by simp [TR]) (by simp [TR]) hr5)
          have hb5 := hx5'.blk HBX.out (by rw [HAT.out.cb]; simp [TR])
          have HB5 := Lib.hid hb5
          obtain ⟨t0, t1, tf⟩ := two_cells hb5
          have tf0 := tf 0
          have hsz : (strOfNums X).size ≤ 128 := by rw [strOfNums_size]; omega
          have HSZ := Lib.hid (strOfNums_size X)
          have hwl : IntKind.i64.wrap (((strOfNums X).size : Int) + (n : Int)) = ((strOfNums X).size : Int) + (n : Int) := IntWalk.i64_in _ (by omega)
          have hfl : decide (128 < ((strOfNums X).size : Int) + (n : Int)) = true := by rw [HSZ.out]; simpa using hfull
          have hwz : IntKind.i64.wrap 0 = 0 := by decide +kernel
          clear hx5 hr5 hx5' hb5 tf HS1 HE5 hfull
          have HTOLD := Lib.hid (rTold HA5.out.rm)
          clear t0 t1 tf0
          obtain ⟨t0, t1, -⟩ := two_cells HB5.out
          go_wp2_with fail
          refine HTOLD.out.mono ?_
          rintro e w7 ⟨p7, q7, rfl, hp7, hq7, hu7⟩
          obtain ⟨t0', t1', -⟩ := two_cells (hpBlk hu7 HB5.out (fun h => h))
          have hp7 : Vw w7 p7 X := hp7
          have hq7 : Vw w7 q7 Y := hq7
          have n1 : ((strOfNums X).toList != (strOfNums X).toList) = false := by simp
          have n2 : ((strOfNums Y).toList != (strOfNums Y).toList) = false := by simp
          have HA7 := Lib.hid (HA5.out.quiet hu7)
          have HB7 := Lib.hid (hpBlk hu7 HB5.out (fun h => h))
          obtain ⟨xa7, xc7, rfl, -, -⟩ := hp7.slice
          obtain ⟨ya7, yc7, rfl, -, -⟩ := hq7.slice
          have e1 := run_str (P := Try.prog) Try.underlying31 Try.underlying5 Try.underlying9 hp7
          have e2 := run_str (P := Try.prog) Try.underlying31 Try.underlying5 Try.underlying9 hq7
          clear hp7 hq7 hu7
          go_wp2_with fail
          go_roundw
          case rel => exact ⟨k + 1, c5, X, Y, by omega, by omega, by go_num, HA7, HB7⟩
          case measure => simp [intOf]; omega
        · as_aux_lemma =>
          have HST : Hid (sendS (sent x y X Y) 0 1 ⟨1, at_, n⟩ = 36864) := Lib.hid (by
            rw [send_pub x y X Y at_ n hzl 1, if_neg (show ¬ 128 < ((toldP (sent x y X Y) 1).length : Int) + (n : Int) from hfull)])
          have HSM : Hid (sendM (sent x y X Y) 0 1 ⟨1, at_, n⟩ = sent x y (X ++ (x.drop at_).take n) Y) := Lib.hid (by
            unfold sendM
            rw [HST.out]
            rfl)
          obtain ⟨wa, hwa⟩ : ∃ wa, wa = wr.alloc (.cells #[.int .i32 1, .int .i32 at_, .int .i32 n] 21) := ⟨_, rfl⟩
          have ha1 : Upd (fun _ => False) wr wa := by rw [hwa]; exact Upd.alloc _ _ _
          have hqa : wa.heap[wr.heap.size]? = some (.cells #[.int .i32 1, .int .i32 at_, .int .i32 n] 21 (0, 0)) := by rw [hwa]; exact hpTop _ _ _ rfl
          have HE5 := Lib.hid (Ext.made None0 9 (c := c) ha1)
          have HS1 : Hid (Calls Try.prog 12 #[.pointer (some ⟨rb, 0, none⟩), .pointer none, .int .i64 0, .int .i64 36, .int .i64 1, .int .i64 0, .slice (some ⟨wr.heap.size, 0, none⟩) 3 3] wa fun e w' => Served (paint c wr 9) wa rb (.pointer none) ⟨0, 36864, sent x y (X ++ (x.drop at_).take n) Y⟩ none e w') := Lib.hid (by
            have := sv36p (HAT.out.rm.ext HE5.out (fun _ _ h => h)) (show TrO (paint c wr 9) wa (.pointer none) none from rfl) 0 1 0 _ 1 at_ n (i32_lit hqa rfl rfl (show 3 ≤ 100 by omega) (by simp; omega)) (fun k hk => by simp [Value.ownBlock] at hk; rw [← hk, paint_new _ _ _ (Nat.le_refl _)]; exact nR9) rfl
            rw [HST.out, HSM.out] at this
            exact this)
          have HWA := Lib.hid hwa
          clear hwa hqa ha1
          go_wp2_with fail
          rw [← HWA.out]
          refine HS1.out.mono ?_
          rintro e w5 ⟨rfl, c5, hx5, hr5, -⟩
          have hx5' : Ext TR c wr c5 w5 := (HE5.out.mono (T' := TR) (fun _ h => h.elim)).trans hx5 (fun _ h => h)
          have HA5 := Lib.hid (HAT.out.ext hx5' (by simp [TR]) (by simp [TR]) hr5)
          have hb5 := hx5'.blk HBX.out (by rw [HAT.out.cb]; simp [TR])
          have HB5 := Lib.hid hb5
          obtain ⟨t0, t1, tf⟩ := two_cells hb5
          have tf0 := tf 0
          have hsz : (strOfNums X).size ≤ 128 := by rw [strOfNums_size]; omega
          have HSZ := Lib.hid (strOfNums_size X)
          have hwl : IntKind.i64.wrap (((strOfNums X).size : Int) + (n : Int)) = ((strOfNums X).size : Int) + (n : Int) := IntWalk.i64_in _ (by omega)
          have hfl : decide (128 < ((strOfNums X).size : Int) + (n : Int)) = false := by rw [HSZ.out]; simpa using hfull
          have hwz : IntKind.i64.wrap 0 = 0 := by decide +kernel
          clear hx5 hr5 hx5' hb5 tf HS1 HE5 hfull
          have HV5 := Lib.hid HA5.out.p
          obtain ⟨e, hfe⟩ : ∃ e : Nat, e = at_ + n := ⟨_, rfl⟩
          have HFE := Lib.hid hfe
          have hwe : IntKind.i64.wrap ((at_ : Int) + (n : Int)) = (e : Int) := by rw [hfe, Int.natCast_add]; exact IntWalk.i64_in _ (by omega)
          have HSB : Hid (∀ u, Upd (fun _ => False) w5 u → ∀ a', ((pc = at_ ∧ a' = pa) ∨ (pc ≠ at_ ∧ a' = pa.map (·.add at_))) → (convert 31 9 (.slice a' (e - at_) (pc - at_))).run Try.prog u = .ok (.string (strOfNums ((x.drop at_).take n))) u) := Lib.hid (fun u hu a' ha => by
            have h := vw_cut (HV5.out.upd hu (fun _ _ h => h)) at_ n hzl ha
            rw [show n = e - at_ by rw [HFE.out]; omega] at h ⊢
            exact run_str (P := Try.prog) Try.underlying31 Try.underlying5 Try.underlying9 h)
          have hszz : (strOfNums ((x.drop at_).take n)).size ≤ 64 := by rw [strOfNums_size, List.length_take, List.length_drop]; omega
          have hc1 : ¬ (9223372036854775807 < (strOfNums X).size + (strOfNums ((x.drop at_).take n)).size) := by omega
          have HAP := Lib.hid (str_app X ((x.drop at_).take n))
          have HDW := Lib.hid (Upd.drew (fun _ => False) w5)
          have i1 : (0 : Int) ≤ (at_ : Int) := Int.natCast_nonneg _
          have i2 : (0 : Int) ≤ (e : Int) := Int.natCast_nonneg _
          have i3 : (at_ : Int) ≤ (e : Int) := by rw [HFE.out]; omega
          have i4 : (e : Int) ≤ (pc : Int) := by rw [HFE.out]; omega
          clear hfe
          go_upto_region 25 with fail
          by_cases g1 : pc = at_
          · as_aux_lemma =>
            obtain rfl : e = at_ := by omega
            obtain rfl := g1
            have hB := HSB.out _ HDW.out _ (.inl ⟨rfl, rfl⟩)
            rw [Nat.sub_self] at hB
            have HB5d := Lib.hid (hpBlk HDW.out HB5.out (fun h => h))
            obtain ⟨k0, k1, kf⟩ := two_cells HB5d.out
            have kfq := kf 0
            have HA6 := Lib.hid (((HA5.out.store 0 (.string (strOfNums X ++ strOfNums ((x.drop pc).take n)))).quiet (Upd.drew (fun _ => False) _)))
            have hb6 : ((w5.setCell ⟨tb, 0, none⟩ (.string (strOfNums X ++ strOfNums ((x.drop pc).take n)))).drew).heap[tb]? = some (.cells (bx (X ++ (x.drop pc).take n) Y) 49 (0, 0)) := by
              have h := HB5.out
              show (w5.setCell ⟨tb, 0, none⟩ _).heap[tb]? = _
              simp [World.setCell, Array.getElem?_modify, h, bx, HAP.out]
            have HB6 := Lib.hid hb6
            have HTOLD := Lib.hid (rTold HA6.out.rm)
            rw [HAP.out] at HA6 HB6 HTOLD
            clear hb6 kf HSB t0 t1 tf0
            have hHeld : (fun w' : World => w'.cell? ⟨tb, 0, none⟩ = some (.string (strOfNums X)) ∧ (convert 31 9 (.slice pa 0 0)).run Try.prog w' = .ok (.string (strOfNums ((x.drop pc).take n))) w') w5.drew := ⟨k0, hB⟩
            refine wp_region_last (S := fun w' => w'.cell? ⟨tb, 0, none⟩ = some (.string (strOfNums X)) ∧ (convert 31 9 (.slice pa 0 0)).run Try.prog w' = .ok (.string (strOfNums ((x.drop pc).take n))) w') 15 _ (by kernel_rfl) (by kernel_rfl) rfl ?_
            change wpHL _ _ _ _ _ _ _ _ _ _ w5.drew
            refine wpHL_take (i := 0) (v := ?_) rfl (by kernel_rfl) (fun _ _ _ h => h) hHeld (Or.inl ⟨by rfl, ?_⟩) ?_
            rotate_left
            · (intro w hSw; obtain ⟨y0, y1⟩ := hSw; go_simp; try with_reducible rfl)
            try simp only [Act.put, List.getElem_toArray, List.getElem_cons_succ, List.getElem_cons_zero, List.setIfInBounds_toArray, List.set_cons_zero, List.set_cons_succ]
            refine wpHL_take (i := 1) (v := ?_) rfl (by kernel_rfl) (fun _ _ _ h => h) hHeld (Or.inl ⟨by rfl, ?_⟩) ?_
            rotate_left
            · (intro w hSw; obtain ⟨y0, y1⟩ := hSw; go_simp; try with_reducible rfl)
            try simp only [Act.put, List.getElem_toArray, List.getElem_cons_succ, List.getElem_cons_zero, List.setIfInBounds_toArray, List.set_cons_zero, List.set_cons_succ]
            refine wpHL_take (i := 2) (v := ?_) rfl (by kernel_rfl) (fun _ _ _ h => h) hHeld (Or.inl ⟨by rfl, ?_⟩) ?_
            rotate_left
            · (intro w hSw; obtain ⟨y0, y1⟩ := hSw; go_simp; try with_reducible rfl)
            try simp only [Act.put, List.getElem_toArray, List.getElem_cons_succ, List.getElem_cons_zero, List.setIfInBounds_toArray, List.set_cons_zero, List.set_cons_succ]
            refine wpHL_take (i := 3) (v := ?_) rfl (by kernel_rfl) (fun _ _ _ h => h) hHeld (Or.inl ⟨by rfl, ?_⟩) ?_
            rotate_left
            · (intro w hSw; obtain ⟨y0, y1⟩ := hSw; go_simp; try with_reducible rfl)
            try simp only [Act.put, List.getElem_toArray, List.getElem_cons_succ, List.getElem_cons_zero, List.setIfInBounds_toArray, List.set_cons_zero, List.set_cons_succ]
            refine wpHL_take (i := 4) (v := ?_) rfl (by kernel_rfl) (fun _ _ _ h => h) hHeld (Or.inl ⟨by rfl, ?_⟩) ?_
            rotate_left
            · (intro w hSw; obtain ⟨y0, y1⟩ := hSw; go_simp; try with_reducible rfl)
            try simp only [Act.put, List.getElem_toArray, List.getElem_cons_succ, List.getElem_cons_zero, List.setIfInBounds_toArray, List.set_cons_zero, List.set_cons_succ]
            refine wpHL_take (i := 5) (v := ?_) rfl (by kernel_rfl) (fun _ _ _ h => h) hHeld (Or.inl ⟨by rfl, ?_⟩) ?_
            rotate_left
            · (intro w hSw; obtain ⟨y0, y1⟩ := hSw; go_simp; try with_reducible rfl)
            try simp only [Act.put, List.getElem_toArray, List.getElem_cons_succ, List.getElem_cons_zero, List.setIfInBounds_toArray, List.set_cons_zero, List.set_cons_succ]
            refine wpHL_take (i := 6) (v := ?_) rfl (by kernel_rfl) (fun _ _ _ h => h) hHeld (Or.inl ⟨by rfl, ?_⟩) ?_
            rotate_left
            · (intro w hSw; obtain ⟨y0, y1⟩ := hSw; go_simp; try with_reducible rfl)
            try simp only [Act.put, List.getElem_toArray, List.getElem_cons_succ, List.getElem_cons_zero, List.setIfInBounds_toArray, List.set_cons_zero, List.set_cons_succ]
            refine wpHL_take (i := 7) (v := ?_) rfl (by kernel_rfl) (fun _ _ _ h => h) hHeld (Or.inl ⟨by rfl, ?_⟩) ?_
            rotate_left
            · (intro w hSw; obtain ⟨y0, y1⟩ := hSw; go_simp; try with_reducible rfl)
            try simp only [Act.put, List.getElem_toArray, List.getElem_cons_succ, List.getElem_cons_zero, List.setIfInBounds_toArray, List.set_cons_zero, List.set_cons_succ]
            refine wpHL_take (i := 8) (v := ?_) rfl (by kernel_rfl) (fun _ _ _ h => h) hHeld (Or.inl ⟨by rfl, ?_⟩) ?_
            rotate_left
            · (intro w hSw; obtain ⟨y0, y1⟩ := hSw; go_simp; try with_reducible rfl)
            try simp only [Act.put, List.getElem_toArray, List.getElem_cons_succ, List.getElem_cons_zero, List.setIfInBounds_toArray, List.set_cons_zero, List.set_cons_succ]
            refine wpHL_take (i := 9) (v := ?_) rfl (by kernel_rfl) (fun _ _ _ h => h) hHeld (Or.inl ⟨by rfl, ?_⟩) ?_
            rotate_left
            · (intro w hSw; obtain ⟨y0, y1⟩ := hSw; go_simp; try with_reducible rfl)
            try simp only [Act.put, List.getElem_toArray, List.getElem_cons_succ, List.getElem_cons_zero, List.setIfInBounds_toArray, List.set_cons_zero, List.set_cons_succ]
            refine wpHL_take (i := 10) (v := ?_) rfl (by kernel_rfl) (fun _ _ _ h => h) hHeld (Or.inl ⟨by rfl, ?_⟩) ?_
            rotate_left
            · (intro w hSw; obtain ⟨y0, y1⟩ := hSw; go_simp; try with_reducible rfl)
            try simp only [Act.put, List.getElem_toArray, List.getElem_cons_succ, List.getElem_cons_zero, List.setIfInBounds_toArray, List.set_cons_zero, List.set_cons_succ]
            refine wpHL_take (i := 11) (v := ?_) rfl (by kernel_rfl) (fun _ _ _ h => h) hHeld (Or.inl ⟨by rfl, ?_⟩) ?_
            rotate_left
            · (intro w hSw; obtain ⟨y0, y1⟩ := hSw; go_simp; try with_reducible rfl)
            try simp only [Act.put, List.getElem_toArray, List.getElem_cons_succ, List.getElem_cons_zero, List.setIfInBounds_toArray, List.set_cons_zero, List.set_cons_succ]
            refine wpHL_take (i := 12) (v := ?_) rfl (by kernel_rfl) (fun _ _ _ h => h) hHeld (Or.inl ⟨by rfl, ?_⟩) ?_
            rotate_left
            · (intro w hSw; obtain ⟨y0, y1⟩ := hSw; go_simp; try with_reducible rfl)
            try simp only [Act.put, List.getElem_toArray, List.getElem_cons_succ, List.getElem_cons_zero, List.setIfInBounds_toArray, List.set_cons_zero, List.set_cons_succ]
            refine wpHL_take (i := 13) (v := ?_) rfl (by kernel_rfl) (fun _ _ _ h => h) hHeld (Or.inl ⟨by rfl, ?_⟩) ?_
            rotate_left
            · (intro w hSw; obtain ⟨y0, y1⟩ := hSw; go_simp; try with_reducible rfl)
            try simp only [Act.put, List.getElem_toArray, List.getElem_cons_succ, List.getElem_cons_zero, List.setIfInBounds_toArray, List.set_cons_zero, List.set_cons_succ]
            refine wpHL_take (i := 14) (v := ?_) rfl (by kernel_rfl) (fun _ _ _ h => h) hHeld (Or.inl ⟨by rfl, ?_⟩) ?_
            rotate_left
            · (intro w hSw; obtain ⟨y0, y1⟩ := hSw; go_simp; try with_reducible rfl)
            try simp only [Act.put, List.getElem_toArray, List.getElem_cons_succ, List.getElem_cons_zero, List.setIfInBounds_toArray, List.set_cons_zero, List.set_cons_succ]
            clear hHeld
            refine wpHL_last (by kernel_rfl) ?_
            clear hB k1
            obtain ⟨m0, m1, -⟩ := two_cells HB6.out
            go_wp2_with fail
            rw [HAP.out]
            clear HAP m0 m1
            generalize X ++ (x.drop pc).take n = Tn at *
            refine HTOLD.out.mono ?_
            rintro e w7 ⟨p7, q7, rfl, hp7, hq7, hu7⟩
            obtain ⟨t0', t1', -⟩ := two_cells (hpBlk hu7 HB6.out (fun h => h))
            have hp7 : Vw w7 p7 Tn := hp7
            have hq7 : Vw w7 q7 Y := hq7
            have n1 : ((strOfNums Tn).toList != (strOfNums Tn).toList) = false := by simp
            have n2 : ((strOfNums Y).toList != (strOfNums Y).toList) = false := by simp
            have HA7 := Lib.hid (HA6.out.quiet hu7)
            have HB7 := Lib.hid (hpBlk hu7 HB6.out (fun h => h))
            obtain ⟨xa7, xc7, rfl, -, -⟩ := hp7.slice
            obtain ⟨ya7, yc7, rfl, -, -⟩ := hq7.slice
            have e1 := run_str (P := Try.prog) Try.underlying31 Try.underlying5 Try.underlying9 hp7
            have e2 := run_str (P := Try.prog) Try.underlying31 Try.underlying5 Try.underlying9 hq7
            clear hp7 hq7 hu7
            go_wp2_with fail
            go_roundw
            case rel => exact ⟨k + 1, c5, Tn, Y, by omega, by omega, by go_num, HA7, HB7⟩
            case measure => simp [intOf]; omega
          · as_aux_lemma =>
            have hB := HSB.out _ HDW.out _ (.inr ⟨g1, rfl⟩)
            have HB5d := Lib.hid (hpBlk HDW.out HB5.out (fun h => h))
            obtain ⟨k0, k1, kf⟩ := two_cells HB5d.out
            have kfq := kf 0
            have HA6 := Lib.hid (((HA5.out.store 0 (.string (strOfNums X ++ strOfNums ((x.drop at_).take n)))).quiet (Upd.drew (fun _ => False) _)))
            have hb6 : ((w5.setCell ⟨tb, 0, none⟩ (.string (strOfNums X ++ strOfNums ((x.drop at_).take n)))).drew).heap[tb]? = some (.cells (bx (X ++ (x.drop at_).take n) Y) 49 (0, 0)) := by
              have h := HB5.out
              show (w5.setCell ⟨tb, 0, none⟩ _).heap[tb]? = _
              simp [World.setCell, Array.getElem?_modify, h, bx, HAP.out]
            have HB6 := Lib.hid hb6
            have HTOLD := Lib.hid (rTold HA6.out.rm)
            rw [HAP.out] at HA6 HB6 HTOLD
            clear hb6 kf HSB t0 t1 tf0
            have hHeld : (fun w' : World => w'.cell? ⟨tb, 0, none⟩ = some (.string (strOfNums X)) ∧ (convert 31 9 (.slice (pa.map (fun x => x.add at_)) (e - at_) (pc - at_))).run Try.prog w' = .ok (.string (strOfNums ((x.drop at_).take n))) w') w5.drew := ⟨k0, hB⟩
            refine wp_region_last (S := fun w' => w'.cell? ⟨tb, 0, none⟩ = some (.string (strOfNums X)) ∧ (convert 31 9 (.slice (pa.map (fun x => x.add at_)) (e - at_) (pc - at_))).run Try.prog w' = .ok (.string (strOfNums ((x.drop at_).take n))) w') 15 _ (by kernel_rfl) (by kernel_rfl) rfl ?_
            change wpHL _ _ _ _ _ _ _ _ _ _ w5.drew
            refine wpHL_take (i := 0) (v := ?_) rfl (by kernel_rfl) (fun _ _ _ h => h) hHeld (Or.inl ⟨by rfl, ?_⟩) ?_
            rotate_left
            · (intro w hSw; obtain ⟨y0, y1⟩ := hSw; go_simp; try with_reducible rfl)
            try simp only [Act.put, List.getElem_toArray, List.getElem_cons_succ, List.getElem_cons_zero, List.setIfInBounds_toArray, List.set_cons_zero, List.set_cons_succ]
            refine wpHL_take (i := 1) (v := ?_) rfl (by kernel_rfl) (fun _ _ _ h => h) hHeld (Or.inl ⟨by rfl, ?_⟩) ?_
            rotate_left
            · (intro w hSw; obtain ⟨y0, y1⟩ := hSw; go_simp; try with_reducible rfl)
            try simp only [Act.put, List.getElem_toArray, List.getElem_cons_succ, List.getElem_cons_zero, List.setIfInBounds_toArray, List.set_cons_zero, List.set_cons_succ]
            refine wpHL_take (i := 2) (v := ?_) rfl (by kernel_rfl) (fun _ _ _ h => h) hHeld (Or.inl ⟨by rfl, ?_⟩) ?_
            rotate_left
            · (intro w hSw; obtain ⟨y0, y1⟩ := hSw; go_simp; try with_reducible rfl)
            try simp only [Act.put, List.getElem_toArray, List.getElem_cons_succ, List.getElem_cons_zero, List.setIfInBounds_toArray, List.set_cons_zero, List.set_cons_succ]
            refine wpHL_take (i := 3) (v := ?_) rfl (by kernel_rfl) (fun _ _ _ h => h) hHeld (Or.inl ⟨by rfl, ?_⟩) ?_
            rotate_left
            · (intro w hSw; obtain ⟨y0, y1⟩ := hSw; go_simp; try with_reducible rfl)
            try simp only [Act.put, List.getElem_toArray, List.getElem_cons_succ, List.getElem_cons_zero, List.setIfInBounds_toArray, List.set_cons_zero, List.set_cons_succ]
            refine wpHL_take (i := 4) (v := ?_) rfl (by kernel_rfl) (fun _ _ _ h => h) hHeld (Or.inl ⟨by rfl, ?_⟩) ?_
            rotate_left
            · (intro w hSw; obtain ⟨y0, y1⟩ := hSw; go_simp; try with_reducible rfl)
            try simp only [Act.put, List.getElem_toArray, List.getElem_cons_succ, List.getElem_cons_zero, List.setIfInBounds_toArray, List.set_cons_zero, List.set_cons_succ]
            refine wpHL_take (i := 5) (v := ?_) rfl (by kernel_rfl) (fun _ _ _ h => h) hHeld (Or.inl ⟨by rfl, ?_⟩) ?_
            rotate_left
            · (intro w hSw; obtain ⟨y0, y1⟩ := hSw; go_simp; try with_reducible rfl)
            try simp only [Act.put, List.getElem_toArray, List.getElem_cons_succ, List.getElem_cons_zero, List.setIfInBounds_toArray, List.set_cons_zero, List.set_cons_succ]
            refine wpHL_take (i := 6) (v := ?_) rfl (by kernel_rfl) (fun _ _ _ h => h) hHeld (Or.inl ⟨by rfl, ?_⟩) ?_
            rotate_left
            · (intro w hSw; obtain ⟨y0, y1⟩ := hSw; go_simp; try with_reducible rfl)
            try simp only [Act.put, List.getElem_toArray, List.getElem_cons_succ, List.getElem_cons_zero, List.setIfInBounds_toArray, List.set_cons_zero, List.set_cons_succ]
            refine wpHL_take (i := 7) (v := ?_) rfl (by kernel_rfl) (fun _ _ _ h => h) hHeld (Or.inl ⟨by rfl, ?_⟩) ?_
            rotate_left
            · (intro w hSw; obtain ⟨y0, y1⟩ := hSw; go_simp; try with_reducible rfl)
            try simp only [Act.put, List.getElem_toArray, List.getElem_cons_succ, List.getElem_cons_zero, List.setIfInBounds_toArray, List.set_cons_zero, List.set_cons_succ]
            refine wpHL_take (i := 8) (v := ?_) rfl (by kernel_rfl) (fun _ _ _ h => h) hHeld (Or.inl ⟨by rfl, ?_⟩) ?_
            rotate_left
            · (intro w hSw; obtain ⟨y0, y1⟩ := hSw; go_simp; try with_reducible rfl)
            try simp only [Act.put, List.getElem_toArray, List.getElem_cons_succ, List.getElem_cons_zero, List.setIfInBounds_toArray, List.set_cons_zero, List.set_cons_succ]
            refine wpHL_take (i := 9) (v := ?_) rfl (by kernel_rfl) (fun _ _ _ h => h) hHeld (Or.inl ⟨by rfl, ?_⟩) ?_
            rotate_left
            · (intro w hSw; obtain ⟨y0, y1⟩ := hSw; go_simp; try with_reducible rfl)
            try simp only [Act.put, List.getElem_toArray, List.getElem_cons_succ, List.getElem_cons_zero, List.setIfInBounds_toArray, List.set_cons_zero, List.set_cons_succ]
            refine wpHL_take (i := 10) (v := ?_) rfl (by kernel_rfl) (fun _ _ _ h => h) hHeld (Or.inl ⟨by rfl, ?_⟩) ?_
            rotate_left
            · (intro w hSw; obtain ⟨y0, y1⟩ := hSw; go_simp; try with_reducible rfl)
            try simp only [Act.put, List.getElem_toArray, List.getElem_cons_succ, List.getElem_cons_zero, List.setIfInBounds_toArray, List.set_cons_zero, List.set_cons_succ]
            refine wpHL_take (i := 11) (v := ?_) rfl (by kernel_rfl) (fun _ _ _ h => h) hHeld (Or.inl ⟨by rfl, ?_⟩) ?_
            rotate_left
            · (intro w hSw; obtain ⟨y0, y1⟩ := hSw; go_simp; try with_reducible rfl)
            try simp only [Act.put, List.getElem_toArray, List.getElem_cons_succ, List.getElem_cons_zero, List.setIfInBounds_toArray, List.set_cons_zero, List.set_cons_succ]
            refine wpHL_take (i := 12) (v := ?_) rfl (by kernel_rfl) (fun _ _ _ h => h) hHeld (Or.inl ⟨by rfl, ?_⟩) ?_
            rotate_left
            · (intro w hSw; obtain ⟨y0, y1⟩ := hSw; go_simp; try with_reducible rfl)
            try simp only [Act.put, List.getElem_toArray, List.getElem_cons_succ, List.getElem_cons_zero, List.setIfInBounds_toArray, List.set_cons_zero, List.set_cons_succ]
            refine wpHL_take (i := 13) (v := ?_) rfl (by kernel_rfl) (fun _ _ _ h => h) hHeld (Or.inl ⟨by rfl, ?_⟩) ?_
            rotate_left
            · (intro w hSw; obtain ⟨y0, y1⟩ := hSw; go_simp; try with_reducible rfl)
            try simp only [Act.put, List.getElem_toArray, List.getElem_cons_succ, List.getElem_cons_zero, List.setIfInBounds_toArray, List.set_cons_zero, List.set_cons_succ]
            refine wpHL_take (i := 14) (v := ?_) rfl (by kernel_rfl) (fun _ _ _ h => h) hHeld (Or.inl ⟨by rfl, ?_⟩) ?_
            rotate_left
            · (intro w hSw; obtain ⟨y0, y1⟩ := hSw; go_simp; try with_reducible rfl)
            try simp only [Act.put, List.getElem_toArray, List.getElem_cons_succ, List.getElem_cons_zero, List.setIfInBounds_toArray, List.set_cons_zero, List.set_cons_succ]
            clear hHeld
            refine wpHL_last (by kernel_rfl) ?_
            clear hB k1
            obtain ⟨m0, m1, -⟩ := two_cells HB6.out
            go_wp2_with fail
            rw [HAP.out]
            clear HAP m0 m1
            generalize X ++ (x.drop at_).take n = Tn at *
            refine HTOLD.out.mono ?_
            rintro e w7 ⟨p7, q7, rfl, hp7, hq7, hu7⟩
            obtain ⟨t0', t1', -⟩ := two_cells (hpBlk hu7 HB6.out (fun h => h))
            have hp7 : Vw w7 p7 Tn := hp7
            have hq7 : Vw w7 q7 Y := hq7
            have n1 : ((strOfNums Tn).toList != (strOfNums Tn).toList) = false := by simp
            have n2 : ((strOfNums Y).toList != (strOfNums Y).toList) = false := by simp
            have HA7 := Lib.hid (HA6.out.quiet hu7)
            have HB7 := Lib.hid (hpBlk hu7 HB6.out (fun h => h))
            obtain ⟨xa7, xc7, rfl, -, -⟩ := hp7.slice
            obtain ⟨ya7, yc7, rfl, -, -⟩ := hq7.slice
            have e1 := run_str (P := Try.prog) Try.underlying31 Try.underlying5 Try.underlying9 hp7
            have e2 := run_str (P := Try.prog) Try.underlying31 Try.underlying5 Try.underlying9 hq7
            clear hp7 hq7 hu7
            go_wp2_with fail
            go_roundw
            case rel => exact ⟨k + 1, c5, Tn, Y, by omega, by omega, by go_num, HA7, HB7⟩
            case measure => simp [intOf]; omega
      · rw [hz]
        clear hz
        cases hq : (s0.tmod 2 == 0) with
        | false =>
          have hw1 : IntKind.i64.wrap ((x.length : Int) + 1) = (x.length : Int) + 1 := IntWalk.i64_in _ (by omega)
          go_wp2_with fail
          refine (hPick s3 ((x.length : Int) + 1) wr (by omega) (by omega)).mono ?_
          rintro e w' ⟨rfl, rfl⟩
          obtain ⟨at_, hn, hat⟩ : ∃ at_ : Nat, s3 % ((x.length : Int) + 1) = (at_ : Int) ∧ at_ ≤ x.length := by
            have h1 := Int.emod_nonneg s3 (show ((x.length : Int) + 1) ≠ 0 by omega)
            have h2 := Int.emod_lt_of_pos s3 (show 0 < (x.length : Int) + 1 by omega)
            exact ⟨(s3 % ((x.length : Int) + 1)).toNat, by omega, by omega⟩
          rw [hn]
          clear hn
          have hw2 : IntKind.i64.wrap ((x.length : Int) - (at_ : Int)) = (x.length : Int) - (at_ : Int) := IntWalk.i64_in _ (by omega)
          have hw3 : IntKind.i64.wrap ((x.length : Int) - (at_ : Int) + 1) = (x.length : Int) - (at_ : Int) + 1 := IntWalk.i64_in _ (by omega)
          go_wp2_with fail
          refine (hPick s1 ((x.length : Int) - (at_ : Int) + 1) wr (by omega) (by omega)).mono ?_
          rintro e w' ⟨rfl, rfl⟩
          obtain ⟨n, hn, hzl⟩ : ∃ n : Nat, s1 % ((x.length : Int) - (at_ : Int) + 1) = (n : Int) ∧ at_ + n ≤ x.length := by
            have h1 := Int.emod_nonneg s1 (show ((x.length : Int) - (at_ : Int) + 1) ≠ 0 by omega)
            have h2 := Int.emod_lt_of_pos s1 (show 0 < (x.length : Int) - (at_ : Int) + 1 by omega)
            exact ⟨(s1 % ((x.length : Int) - (at_ : Int) + 1)).toNat, by omega, by omega⟩
          rw [hn]
          have hwat : IntKind.i32.wrap (at_ : Int) = (at_ : Int) := by rw [IntKind.wrap_i32]; omega
          have hwn : IntKind.i32.wrap (n : Int) = (n : Int) := by rw [IntKind.wrap_i32]; omega
          have hn64 : n ≤ 64 := by omega
          clear hn hw1 hw2 hw3
          by_cases hfull : 128 < (Y.length : Int) + (n : Int)
          · as_aux_lemma =>
            have HST : Hid (sendS (sent x y X Y) 0 2 ⟨1, at_, n⟩ = 28425) := Lib.hid (by
              rw [send_pub x y X Y at_ n hzl 2, if_pos (show 128 < ((toldP (sent x y X Y) 2).length : Int) + (n : Int) from hfull)])
            have HSM : Hid (sendM (sent x y X Y) 0 2 ⟨1, at_, n⟩ = sent x y X Y) := Lib.hid (by
              unfold sendM
              rw [HST.out]
              exact if_neg (by decide))
            obtain ⟨wa, hwa⟩ : ∃ wa, wa = wr.alloc (.cells #[.int .i32 1, .int .i32 at_, .int .i32 n] 21) := ⟨_, rfl⟩
            have ha1 : Upd (fun _ => False) wr wa := by rw [hwa]; exact Upd.alloc _ _ _
            have hqa : wa.heap[wr.heap.size]? = some (.cells #[.int .i32 1, .int .i32 at_, .int .i32 n] 21 (0, 0)) := by rw [hwa]; exact hpTop _ _ _ rfl
            have HE5 := Lib.hid (Ext.made None0 9 (c := c) ha1)
            have HS1 : Hid (Calls Try.prog 12 #[.pointer (some ⟨rb, 0, none⟩), .pointer none, .int .i64 0, .int .i64 36, .int .i64 2, .int .i64 0, .slice (some ⟨wr.heap.size, 0, none⟩) 3 3] wa fun e w' => Served (paint c wr 9) wa rb (.pointer none) ⟨0, 28425, sent x y X Y⟩ none e w') := Lib.hid (by
              have := sv36q (HAT.out.rm.ext HE5.out (fun _ _ h => h)) (show TrO (paint c wr 9) wa (.pointer none) none from rfl) 0 2 0 _ 1 at_ n (i32_lit hqa rfl rfl (show 3 ≤ 100 by omega) (by simp; omega)) (fun k hk => by simp [Value.ownBlock] at hk; rw [← hk, paint_new _ _ _ (Nat.le_refl _)]; exact nR9) (by omega)
              rw [HST.out, HSM.out] at this
              exact this)
            have HWA := Lib.hid hwa
            clear hwa hqa ha1
            go_wp2_with fail
            rw [← HWA.out]
            refine HS1.out.mono ?_
            rintro e w5 ⟨rfl, c5, hx5, hr5, -⟩
            have hx5' : Ext TR c wr c5 w5 := (HE5.out.mono (T' := TR) (fun _ h => h.elim)).trans hx5 (fun _ h => h)
            have HA5 := Lib.hid (HAT.out.ext hx5' (by simp [TR]) (by simp [TR]) hr5)
            have hb5 := hx5'.blk HBX.out (by rw [HAT.out.cb]; simp [TR])
            have HB5 := Lib.hid hb5
            obtain ⟨t0, t1, tf⟩ := two_cells hb5
            have tf0 := tf 1
            have hsz : (strOfNums Y).size ≤ 128 := by rw [strOfNums_size]; omega
            have HSZ := Lib.hid (strOfNums_size Y)
            have hwl : IntKind.i64.wrap (((strOfNums Y).size : Int) + (n : Int)) = ((strOfNums Y).size : Int) + (n : Int) := IntWalk.i64_in _ (by omega)
            have hfl : decide (128 < ((strOfNums Y).size : Int) + (n : Int)) = true := by rw [HSZ.out]; simpa using hfull
            have hwz : IntKind.i64.wrap 1 = 1 := by decide +kernel
            clear hx5 hr5 hx5' hb5 tf HS1 HE5 hfull
            have HTOLD := Lib.hid (rTold HA5.out.rm)
            clear t0 t1 tf0
            obtain ⟨t0, t1, -⟩ := two_cells HB5.out
            go_wp2_with fail
            refine HTOLD.out.mono ?_
            rintro e w7 ⟨p7, q7, rfl, hp7, hq7, hu7⟩
            obtain ⟨t0', t1', -⟩ := two_cells (hpBlk hu7 HB5.out (fun h => h))
            have hp7 : Vw w7 p7 X := hp7
            have hq7 : Vw w7 q7 Y := hq7
            have n1 : ((strOfNums X).toList != (strOfNums X).toList) = false := by simp
            have n2 : ((strOfNums Y).toList != (strOfNums Y).toList) = false := by simp
            have HA7 := Lib.hid (HA5.out.quiet hu7)
            have HB7 := Lib.hid (hpBlk hu7 HB5.out (fun h => h))
            obtain ⟨xa7, xc7, rfl, -, -⟩ := hp7.slice
            obtain ⟨ya7, yc7, rfl, -, -⟩ := hq7.slice
            have e1 := run_str (P := Try.prog) Try.underlying31 Try.underlying5 Try.underlying9 hp7
            have e2 := run_str (P := Try.prog) Try.underlying31 Try.underlying5 Try.underlying9 hq7
            clear hp7 hq7 hu7
            go_wp2_with fail
            go_roundw
            case rel => exact ⟨k + 1, c5, X, Y, by omega, by omega, by go_num, HA7, HB7⟩
            case measure => simp [intOf]; omega
          · as_aux_lemma =>
            have HST : Hid (sendS (sent x y X Y) 0 2 ⟨1, at_, n⟩ = 36864) := Lib.hid (by
              rw [send_pub x y X Y at_ n hzl 2, if_neg (show ¬ 128 < ((toldP (sent x y X Y) 2).length : Int) + (n : Int) from hfull)])
            have HSM : Hid (sendM (sent x y X Y) 0 2 ⟨1, at_, n⟩ = sent x y X (Y ++ (x.drop at_).take n)) := Lib.hid (by
              unfold sendM
              rw [HST.out]
              rfl)
            obtain ⟨wa, hwa⟩ : ∃ wa, wa = wr.alloc (.cells #[.int .i32 1, .int .i32 at_, .int .i32 n] 21) := ⟨_, rfl⟩
            have ha1 : Upd (fun _ => False) wr wa := by rw [hwa]; exact Upd.alloc _ _ _
            have hqa : wa.heap[wr.heap.size]? = some (.cells #[.int .i32 1, .int .i32 at_, .int .i32 n] 21 (0, 0)) := by rw [hwa]; exact hpTop _ _ _ rfl
            have HE5 := Lib.hid (Ext.made None0 9 (c := c) ha1)
            have HS1 : Hid (Calls Try.prog 12 #[.pointer (some ⟨rb, 0, none⟩), .pointer none, .int .i64 0, .int .i64 36, .int .i64 2, .int .i64 0, .slice (some ⟨wr.heap.size, 0, none⟩) 3 3] wa fun e w' => Served (paint c wr 9) wa rb (.pointer none) ⟨0, 36864, sent x y X (Y ++ (x.drop at_).take n)⟩ none e w') := Lib.hid (by
              have := sv36q (HAT.out.rm.ext HE5.out (fun _ _ h => h)) (show TrO (paint c wr 9) wa (.pointer none) none from rfl) 0 2 0 _ 1 at_ n (i32_lit hqa rfl rfl (show 3 ≤ 100 by omega) (by simp; omega)) (fun k hk => by simp [Value.ownBlock] at hk; rw [← hk, paint_new _ _ _ (Nat.le_refl _)]; exact nR9) (by omega)
              rw [HST.out, HSM.out] at this
              exact this)
            have HWA := Lib.hid hwa
            clear hwa hqa ha1
            go_wp2_with fail
            rw [← HWA.out]
            refine HS1.out.mono ?_
            rintro e w5 ⟨rfl, c5, hx5, hr5, -⟩
            have hx5' : Ext TR c wr c5 w5 := (HE5.out.mono (T' := TR) (fun _ h => h.elim)).trans hx5 (fun _ h => h)
            have HA5 := Lib.hid (HAT.out.ext hx5' (by simp [TR]) (by simp [TR]) hr5)
            have hb5 := hx5'.blk HBX.out (by rw [HAT.out.cb]; simp [TR])
            have HB5 := Lib.hid hb5
            obtain ⟨t0, t1, tf⟩ := two_cells hb5
            have tf0 := tf 1
            have hsz : (strOfNums Y).size ≤ 128 := by rw [strOfNums_size]; omega
            have HSZ := Lib.hid (strOfNums_size Y)
            have hwl : IntKind.i64.wrap (((strOfNums Y).size : Int) + (n : Int)) = ((strOfNums Y).size : Int) + (n : Int) := IntWalk.i64_in _ (by omega)
            have hfl : decide (128 < ((strOfNums Y).size : Int) + (n : Int)) = false := by rw [HSZ.out]; simpa using hfull
            have hwz : IntKind.i64.wrap 1 = 1 := by decide +kernel
            clear hx5 hr5 hx5' hb5 tf HS1 HE5 hfull
            have HV5 := Lib.hid HA5.out.p
            obtain ⟨e, hfe⟩ : ∃ e : Nat, e = at_ + n := ⟨_, rfl⟩
            have HFE := Lib.hid hfe
            have hwe : IntKind.i64.wrap ((at_ : Int) + (n : Int)) = (e : Int) := by rw [hfe, Int.natCast_add]; exact IntWalk.i64_in _ (by omega)
            have HSB : Hid (∀ u, Upd (fun _ => False) w5 u → ∀ a', ((pc = at_ ∧ a' = pa) ∨ (pc ≠ at_ ∧ a' = pa.map (·.add at_))) → (convert 31 9 (.slice a' (e - at_) (pc - at_))).run Try.prog u = .ok (.string (strOfNums ((x.drop at_).take n))) u) := Lib.hid (fun u hu a' ha => by
              have h := vw_cut (HV5.out.upd hu (fun _ _ h => h)) at_ n hzl ha
              rw [show n = e - at_ by rw [HFE.out]; omega] at h ⊢
              exact run_str (P := Try.prog) Try.underlying31 Try.underlying5 Try.underlying9 h)
            have hszz : (strOfNums ((x.drop at_).take n)).size ≤ 64 := by rw [strOfNums_size, List.length_take, List.length_drop]; omega
            have hc1 : ¬ (9223372036854775807 < (strOfNums Y).size + (strOfNums ((x.drop at_).take n)).size) := by omega
            have HAP := Lib.hid (str_app Y ((x.drop at_).take n))
            have HDW := Lib.hid (Upd.drew (fun _ => False) w5)
            have i1 : (0 : Int) ≤ (at_ : Int) := Int.natCast_nonneg _
            have i2 : (0 : Int) ≤ (e : Int) := Int.natCast_nonneg _
            have i3 : (at_ : Int) ≤ (e : Int) := by rw [HFE.out]; omega
            have i4 : (e : Int) ≤ (pc : Int) := by rw [HFE.out]; omega
            clear hfe
            go_upto_region 25 with fail
            by_cases g1 : pc = at_
            · as_aux_lemma =>
              obtain rfl : e = at_ := by omega
              obtain rfl := g1
              have hB := HSB.out _ HDW.out _ (.inl ⟨rfl, rfl⟩)
              rw [Nat.sub_self] at hB
              have HB5d := Lib.hid (hpBlk HDW.out HB5.out (fun h => h))
              obtain ⟨k0, k1, kf⟩ := two_cells HB5d.out
              have kfq := kf 1
              have HA6 := Lib.hid (((HA5.out.store 1 (.string (strOfNums Y ++ strOfNums ((x.drop pc).take n)))).quiet (Upd.drew (fun _ => False) _)))
              have hb6 : ((w5.setCell ⟨tb, 1, none⟩ (.string (strOfNums Y ++ strOfNums ((x.drop pc).take n)))).drew).heap[tb]? = some (.cells (bx X (Y ++ (x.drop pc).take n)) 49 (0, 0)) := by
                have h := HB5.out
                show (w5.setCell ⟨tb, 1, none⟩ _).heap[tb]? = _
                simp [World.setCell, Array.getElem?_modify, h, bx, HAP.out]
              have HB6 := Lib.hid hb6
              have HTOLD := Lib.hid (rTold HA6.out.rm)
              rw [HAP.out] at HA6 HB6 HTOLD
              clear hb6 kf HSB t0 t1 tf0
              have hHeld : (fun w' : World => w'.cell? ⟨tb, 1, none⟩ = some (.string (strOfNums Y)) ∧ (convert 31 9 (.slice pa 0 0)).run Try.prog w' = .ok (.string (strOfNums ((x.drop pc).take n))) w') w5.drew := ⟨k1, hB⟩
              refine wp_region_last (S := fun w' => w'.cell? ⟨tb, 1, none⟩ = some (.string (strOfNums Y)) ∧ (convert 31 9 (.slice pa 0 0)).run Try.prog w' = .ok (.string (strOfNums ((x.drop pc).take n))) w') 15 _ (by kernel_rfl) (by kernel_rfl) rfl ?_
              change wpHL _ _ _ _ _ _ _ _ _ _ w5.drew
              refine wpHL_take (i := 0) (v := ?_) rfl (by kernel_rfl) (fun _ _ _ h => h) hHeld (Or.inl ⟨by rfl, ?_⟩) ?_
              rotate_left
              · (intro w hSw; obtain ⟨y0, y1⟩ := hSw; go_simp; try with_reducible rfl)
              try simp only [Act.put, List.getElem_toArray, List.getElem_cons_succ, List.getElem_cons_zero, List.setIfInBounds_toArray, List.set_cons_zero, List.set_cons_succ]
              refine wpHL_take (i := 1) (v := ?_) rfl (by kernel_rfl) (fun _ _ _ h => h) hHeld (Or.inl ⟨by rfl, ?_⟩) ?_
              rotate_left
              · (intro w hSw; obtain ⟨y0, y1⟩ := hSw; go_simp; try with_reducible rfl)
              try simp only [Act.put, List.getElem_toArray, List.getElem_cons_succ, List.getElem_cons_zero, List.setIfInBounds_toArray, List.set_cons_zero, List.set_cons_succ]
              refine wpHL_take (i := 2) (v := ?_) rfl (by kernel_rfl) (fun _ _ _ h => h) hHeld (Or.inl ⟨by rfl, ?_⟩) ?_
              rotate_left
              · (intro w hSw; obtain ⟨y0, y1⟩ := hSw; go_simp; try with_reducible rfl)
              try simp only [Act.put, List.getElem_toArray, List.getElem_cons_succ, List.getElem_cons_zero, List.setIfInBounds_toArray, List.set_cons_zero, List.set_cons_succ]
              refine wpHL_take (i := 3) (v := ?_) rfl (by kernel_rfl) (fun _ _ _ h => h) hHeld (Or.inl ⟨by rfl, ?_⟩) ?_
              rotate_left
              · (intro w hSw; obtain ⟨y0, y1⟩ := hSw; go_simp; try with_reducible rfl)
              try simp only [Act.put, List.getElem_toArray, List.getElem_cons_succ, List.getElem_cons_zero, List.setIfInBounds_toArray, List.set_cons_zero, List.set_cons_succ]
              refine wpHL_take (i := 4) (v := ?_) rfl (by kernel_rfl) (fun _ _ _ h => h) hHeld (Or.inl ⟨by rfl, ?_⟩) ?_
              rotate_left
              · (intro w hSw; obtain ⟨y0, y1⟩ := hSw; go_simp; try with_reducible rfl)
              try simp only [Act.put, List.getElem_toArray, List.getElem_cons_succ, List.getElem_cons_zero, List.setIfInBounds_toArray, List.set_cons_zero, List.set_cons_succ]
              refine wpHL_take (i := 5) (v := ?_) rfl (by kernel_rfl) (fun _ _ _ h => h) hHeld (Or.inl ⟨by rfl, ?_⟩) ?_
              rotate_left
              · (intro w hSw; obtain ⟨y0, y1⟩ := hSw; go_simp; try with_reducible rfl)
              try simp only [Act.put, List.getElem_toArray, List.getElem_cons_succ, List.getElem_cons_zero, List.setIfInBounds_toArray, List.set_cons_zero, List.set_cons_succ]
              refine wpHL_take (i := 6) (v := ?_) rfl (by kernel_rfl) (fun _ _ _ h => h) hHeld (Or.inl ⟨by rfl, ?_⟩) ?_
              rotate_left
              · (intro w hSw; obtain ⟨y0, y1⟩ := hSw; go_simp; try with_reducible rfl)
              try simp only [Act.put, List.getElem_toArray, List.getElem_cons_succ, List.getElem_cons_zero, List.setIfInBounds_toArray, List.set_cons_zero, List.set_cons_succ]
              refine wpHL_take (i := 7) (v := ?_) rfl (by kernel_rfl) (fun _ _ _ h => h) hHeld (Or.inl ⟨by rfl, ?_⟩) ?_
              rotate_left
              · (intro w hSw; obtain ⟨y0, y1⟩ := hSw; go_simp; try with_reducible rfl)
              try simp only [Act.put, List.getElem_toArray, List.getElem_cons_succ, List.getElem_cons_zero, List.setIfInBounds_toArray, List.set_cons_zero, List.set_cons_succ]
              refine wpHL_take (i := 8) (v := ?_) rfl (by kernel_rfl) (fun _ _ _ h => h) hHeld (Or.inl ⟨by rfl, ?_⟩) ?_
              rotate_left
              · (intro w hSw; obtain ⟨y0, y1⟩ := hSw; go_simp; try with_reducible rfl)
              try simp only [Act.put, List.getElem_toArray, List.getElem_cons_succ, List.getElem_cons_zero, List.setIfInBounds_toArray, List.set_cons_zero, List.set_cons_succ]
              refine wpHL_take (i := 9) (v := ?_) rfl (by kernel_rfl) (fun _ _ _ h => h) hHeld (Or.inl ⟨by rfl, ?_⟩) ?_
              rotate_left
              · (intro w hSw; obtain ⟨y0, y1⟩ := hSw; go_simp; try with_reducible rfl)
              try simp only [Act.put, List.getElem_toArray, List.getElem_cons_succ, List.getElem_cons_zero, List.setIfInBounds_toArray, List.set_cons_zero, List.set_cons_succ]
              refine wpHL_take (i := 10) (v := ?_) rfl (by kernel_rfl) (fun _ _ _ h => h) hHeld (Or.inl ⟨by rfl, ?_⟩) ?_
              rotate_left
              · (intro w hSw; obtain ⟨y0, y1⟩ := hSw; go_simp; try with_reducible rfl)
              try simp only [Act.put, List.getElem_toArray, List.getElem_cons_succ, List.getElem_cons_zero, List.setIfInBounds_toArray, List.set_cons_zero, List.set_cons_succ]
              refine wpHL_take (i := 11) (v := ?_) rfl (by kernel_rfl) (fun _ _ _ h => h) hHeld (Or.inl ⟨by rfl, ?_⟩) ?_
              rotate_left
              · (intro w hSw; obtain ⟨y0, y1⟩ := hSw; go_simp; try with_reducible rfl)
              try simp only [Act.put, List.getElem_toArray, List.getElem_cons_succ, List.getElem_cons_zero, List.setIfInBounds_toArray, List.set_cons_zero, List.set_cons_succ]
              refine wpHL_take (i := 12) (v := ?_) rfl (by kernel_rfl) (fun _ _ _ h => h) hHeld (Or.inl ⟨by rfl, ?_⟩) ?_
              rotate_left
              · (intro w hSw; obtain ⟨y0, y1⟩ := hSw; go_simp; try with_reducible rfl)
              try simp only [Act.put, List.getElem_toArray, List.getElem_cons_succ, List.getElem_cons_zero, List.setIfInBounds_toArray, List.set_cons_zero, List.set_cons_succ]
              refine wpHL_take (i := 13) (v := ?_) rfl (by kernel_rfl) (fun _ _ _ h => h) hHeld (Or.inl ⟨by rfl, ?_⟩) ?_
              rotate_left
              · (intro w hSw; obtain ⟨y0, y1⟩ := hSw; go_simp; try with_reducible rfl)
              try simp only [Act.put, List.getElem_toArray, List.getElem_cons_succ, List.getElem_cons_zero, List.setIfInBounds_toArray, List.set_cons_zero, List.set_cons_succ]
              refine wpHL_take (i := 14) (v := ?_) rfl (by kernel_rfl) (fun _ _ _ h => h) hHeld (Or.inl ⟨by rfl, ?_⟩) ?_
              rotate_left
              · (intro w hSw; obtain ⟨y0, y1⟩ := hSw; go_simp; try with_reducible rfl)
              try simp only [Act.put, List.getElem_toArray, List.getElem_cons_succ, List.getElem_cons_zero, List.setIfInBounds_toArray, List.set_cons_zero, List.set_cons_succ]
              clear hHeld
              refine wpHL_last (by kernel_rfl) ?_
              clear hB k0
              obtain ⟨m0, m1, -⟩ := two_cells HB6.out
              go_wp2_with fail
              rw [HAP.out]
              clear HAP m0 m1
              generalize Y ++ (x.drop pc).take n = Tn at *
              refine HTOLD.out.mono ?_
              rintro e w7 ⟨p7, q7, rfl, hp7, hq7, hu7⟩
              obtain ⟨t0', t1', -⟩ := two_cells (hpBlk hu7 HB6.out (fun h => h))
              have hp7 : Vw w7 p7 X := hp7
              have hq7 : Vw w7 q7 Tn := hq7
              have n1 : ((strOfNums X).toList != (strOfNums X).toList) = false := by simp
              have n2 : ((strOfNums Tn).toList != (strOfNums Tn).toList) = false := by simp
              have HA7 := Lib.hid (HA6.out.quiet hu7)
              have HB7 := Lib.hid (hpBlk hu7 HB6.out (fun h => h))
              obtain ⟨xa7, xc7, rfl, -, -⟩ := hp7.slice
              obtain ⟨ya7, yc7, rfl, -, -⟩ := hq7.slice
              have e1 := run_str (P := Try.prog) Try.underlying31 Try.underlying5 Try.underlying9 hp7
              have e2 := run_str (P := Try.prog) Try.underlying31 Try.underlying5 Try.underlying9 hq7
              clear hp7 hq7 hu7
              go_wp2_with fail
              go_roundw
              case rel => exact ⟨k + 1, c5, X, Tn, by omega, by omega, by go_num, HA7, HB7⟩
              case measure => simp [intOf]; omega
            · as_aux_lemma =>
              have hB := HSB.out _ HDW.out _ (.inr ⟨g1, rfl⟩)
              have HB5d := Lib.hid (hpBlk HDW.out HB5.out (fun h => h))
              obtain ⟨k0, k1, kf⟩ := two_cells HB5d.out
              have kfq := kf 1
              have HA6 := Lib.hid (((HA5.out.store 1 (.string (strOfNums Y ++ strOfNums ((x.drop at_).take n)))).quiet (Upd.drew (fun _ => False) _)))
              have hb6 : ((w5.setCell ⟨tb, 1, none⟩ (.string (strOfNums Y ++ strOfNums ((x.drop at_).take n)))).drew).heap[tb]? = some (.cells (bx X (Y ++ (x.drop at_).take n)) 49 (0, 0)) := by
                have h := HB5.out
                show (w5.setCell ⟨tb, 1, none⟩ _).heap[tb]? = _
                simp [World.setCell, Array.getElem?_modify, h, bx, HAP.out]
              have HB6 := Lib.hid hb6
              have HTOLD := Lib.hid (rTold HA6.out.rm)
              rw [HAP.out] at HA6 HB6 HTOLD
              clear hb6 kf HSB t0 t1 tf0
              have hHeld : (fun w' : World => w'.cell? ⟨tb, 1, none⟩ = some (.string (strOfNums Y)) ∧ (convert 31 9 (.slice (pa.map (fun x => x.add at_)) (e - at_) (pc - at_))).run Try.prog w' = .ok (.string (strOfNums ((x.drop at_).take n))) w') w5.drew := ⟨k1, hB⟩
              refine wp_region_last (S := fun w' => w'.cell? ⟨tb, 1, none⟩ = some (.string (strOfNums Y)) ∧ (convert 31 9 (.slice (pa.map (fun x => x.add at_)) (e - at_) (pc - at_))).run Try.prog w' = .ok (.string (strOfNums ((x.drop at_).take n))) w') 15 _ (by kernel_rfl) (by kernel_rfl) rfl ?_
              change wpHL _ _ _ _ _ _ _ _ _ _ w5.drew
              refine wpHL_take (i := 0) (v := ?_) rfl (by kernel_rfl) (fun _ _ _ h => h) hHeld (Or.inl ⟨by rfl, ?_⟩) ?_
              rotate_left
              · (intro w hSw; obtain ⟨y0, y1⟩ := hSw; go_simp; try with_reducible rfl)
              try simp only [Act.put, List.getElem_toArray, List.getElem_cons_succ, List.getElem_cons_zero, List.setIfInBounds_toArray, List.set_cons_zero, List.set_cons_succ]
              refine wpHL_take (i := 1) (v := ?_) rfl (by kernel_rfl) (fun _ _ _ h => h) hHeld (Or.inl ⟨by rfl, ?_⟩) ?_
              rotate_left
              · (intro w hSw; obtain ⟨y0, y1⟩ := hSw; go_simp; try with_reducible rfl)
              try simp only [Act.put, List.getElem_toArray, List.getElem_cons_succ, List.getElem_cons_zero, List.setIfInBounds_toArray, List.set_cons_zero, List.set_cons_succ]
              refine wpHL_take (i := 2) (v := ?_) rfl (by kernel_rfl) (fun _ _ _ h => h) hHeld (Or.inl ⟨by rfl, ?_⟩) ?_
              rotate_left
              · (intro w hSw; obtain ⟨y0, y1⟩ := hSw; go_simp; try with_reducible rfl)
              try simp only [Act.put, List.getElem_toArray, List.getElem_cons_succ, List.getElem_cons_zero, List.setIfInBounds_toArray, List.set_cons_zero, List.set_cons_succ]
              refine wpHL_take (i := 3) (v := ?_) rfl (by kernel_rfl) (fun _ _ _ h => h) hHeld (Or.inl ⟨by rfl, ?_⟩) ?_
              rotate_left
              · (intro w hSw; obtain ⟨y0, y1⟩ := hSw; go_simp; try with_reducible rfl)
              try simp only [Act.put, List.getElem_toArray, List.getElem_cons_succ, List.getElem_cons_zero, List.setIfInBounds_toArray, List.set_cons_zero, List.set_cons_succ]
              refine wpHL_take (i := 4) (v := ?_) rfl (by kernel_rfl) (fun _ _ _ h => h) hHeld (Or.inl ⟨by rfl, ?_⟩) ?_
              rotate_left
              · (intro w hSw; obtain ⟨y0, y1⟩ := hSw; go_simp; try with_reducible rfl)
              try simp only [Act.put, List.getElem_toArray, List.getElem_cons_succ, List.getElem_cons_zero, List.setIfInBounds_toArray, List.set_cons_zero, List.set_cons_succ]
              refine wpHL_take (i := 5) (v := ?_) rfl (by kernel_rfl) (fun _ _ _ h => h) hHeld (Or.inl ⟨by rfl, ?_⟩) ?_
              rotate_left
              · (intro w hSw; obtain ⟨y0, y1⟩ := hSw; go_simp; try with_reducible rfl)
              try simp only [Act.put, List.getElem_toArray, List.getElem_cons_succ, List.getElem_cons_zero, List.setIfInBounds_toArray, List.set_cons_zero, List.set_cons_succ]
              refine wpHL_take (i := 6) (v := ?_) rfl (by kernel_rfl) (fun _ _ _ h => h) hHeld (Or.inl ⟨by rfl, ?_⟩) ?_
              rotate_left
              · (intro w hSw; obtain ⟨y0, y1⟩ := hSw; go_simp; try with_reducible rfl)
              try simp only [Act.put, List.getElem_toArray, List.getElem_cons_succ, List.getElem_cons_zero, List.setIfInBounds_toArray, List.set_cons_zero, List.set_cons_succ]
              refine wpHL_take (i := 7) (v := ?_) rfl (by kernel_rfl) (fun _ _ _ h => h) hHeld (Or.inl ⟨by rfl, ?_⟩) ?_
              rotate_left
              · (intro w hSw; obtain ⟨y0, y1⟩ := hSw; go_simp; try with_reducible rfl)
              try simp only [Act.put, List.getElem_toArray, List.getElem_cons_succ, List.getElem_cons_zero, List.setIfInBounds_toArray, List.set_cons_zero, List.set_cons_succ]
              refine wpHL_take (i := 8) (v := ?_) rfl (by kernel_rfl) (fun _ _ _ h => h) hHeld (Or.inl ⟨by rfl, ?_⟩) ?_
              rotate_left
              · (intro w hSw; obtain ⟨y0, y1⟩ := hSw; go_simp; try with_reducible rfl)
              try simp only [Act.put, List.getElem_toArray, List.getElem_cons_succ, List.getElem_cons_zero, List.setIfInBounds_toArray, List.set_cons_zero, List.set_cons_succ]
              refine wpHL_take (i := 9) (v := ?_) rfl (by kernel_rfl) (fun _ _ _ h => h) hHeld (Or.inl ⟨by rfl, ?_⟩) ?_
              rotate_left
              · (intro w hSw; obtain ⟨y0, y1⟩ := hSw; go_simp; try with_reducible rfl)
              try simp only [Act.put, List.getElem_toArray, List.getElem_cons_succ, List.getElem_cons_zero, List.setIfInBounds_toArray, List.set_cons_zero, List.set_cons_succ]
              refine wpHL_take (i := 10) (v := ?_) rfl (by kernel_rfl) (fun _ _ _ h => h) hHeld (Or.inl ⟨by rfl, ?_⟩) ?_
              rotate_left
              · (intro w hSw; obtain ⟨y0, y1⟩ := hSw; go_simp; try with_reducible rfl)
              try simp only [Act.put, List.getElem_toArray, List.getElem_cons_succ, List.getElem_cons_zero, List.setIfInBounds_toArray, List.set_cons_zero, List.set_cons_succ]
              refine wpHL_take (i := 11) (v := ?_) rfl (by kernel_rfl) (fun _ _ _ h => h) hHeld (Or.inl ⟨by rfl, ?_⟩) ?_
              rotate_left
              · (intro w hSw; obtain ⟨y0, y1⟩ := hSw; go_simp; try with_reducible rfl)
              try simp only [Act.put, List.getElem_toArray, List.getElem_cons_succ, List.getElem_cons_zero, List.setIfInBounds_toArray, List.set_cons_zero, List.set_cons_succ]
              refine wpHL_take (i := 12) (v := ?_) rfl (by kernel_rfl) (fun _ _ _ h => h) hHeld (Or.inl ⟨by rfl, ?_⟩) ?_
              rotate_left
              · (intro w hSw; obtain ⟨y0, y1⟩ := hSw; go_simp; try with_reducible rfl)
              try simp only [Act.put, List.getElem_toArray, List.getElem_cons_succ, List.getElem_cons_zero, List.setIfInBounds_toArray, List.set_cons_zero, List.set_cons_succ]
              refine wpHL_take (i := 13) (v := ?_) rfl (by kernel_rfl) (fun _ _ _ h => h) hHeld (Or.inl ⟨by rfl, ?_⟩) ?_
              rotate_left
              · (intro w hSw; obtain ⟨y0, y1⟩ := hSw; go_simp; try with_reducible rfl)
              try simp only [Act.put, List.getElem_toArray, List.getElem_cons_succ, List.getElem_cons_zero, List.setIfInBounds_toArray, List.set_cons_zero, List.set_cons_succ]
              refine wpHL_take (i := 14) (v := ?_) rfl (by kernel_rfl) (fun _ _ _ h => h) hHeld (Or.inl ⟨by rfl, ?_⟩) ?_
              rotate_left
              · (intro w hSw; obtain ⟨y0, y1⟩ := hSw; go_simp; try with_reducible rfl)
              try simp only [Act.put, List.getElem_toArray, List.getElem_cons_succ, List.getElem_cons_zero, List.setIfInBounds_toArray, List.set_cons_zero, List.set_cons_succ]
              clear hHeld
              refine wpHL_last (by kernel_rfl) ?_
              clear hB k0
              obtain ⟨m0, m1, -⟩ := two_cells HB6.out
              go_wp2_with fail
              rw [HAP.out]
              clear HAP m0 m1
              generalize Y ++ (x.drop at_).take n = Tn at *
              refine HTOLD.out.mono ?_
              rintro e w7 ⟨p7, q7, rfl, hp7, hq7, hu7⟩
              obtain ⟨t0', t1', -⟩ := two_cells (hpBlk hu7 HB6.out (fun h => h))
              have hp7 : Vw w7 p7 X := hp7
              have hq7 : Vw w7 q7 Tn := hq7
              have n1 : ((strOfNums X).toList != (strOfNums X).toList) = false := by simp
              have n2 : ((strOfNums Tn).toList != (strOfNums Tn).toList) = false := by simp
              have HA7 := Lib.hid (HA6.out.quiet hu7)
              have HB7 := Lib.hid (hpBlk hu7 HB6.out (fun h => h))
              obtain ⟨xa7, xc7, rfl, -, -⟩ := hp7.slice
              obtain ⟨ya7, yc7, rfl, -, -⟩ := hq7.slice
              have e1 := run_str (P := Try.prog) Try.underlying31 Try.underlying5 Try.underlying9 hp7
              have e2 := run_str (P := Try.prog) Try.underlying31 Try.underlying5 Try.underlying9 hq7
              clear hp7 hq7 hu7
              go_wp2_with fail
              go_roundw
              case rel => exact ⟨k + 1, c5, X, Tn, by omega, by omega, by go_num, HA7, HB7⟩
              case measure => simp [intOf]; omega
        | true =>
          have hw1 : IntKind.i64.wrap ((y.length : Int) + 1) = (y.length : Int) + 1 := IntWalk.i64_in _ (by omega)
          go_wp2_with fail
          refine (hPick s3 ((y.length : Int) + 1) wr (by omega) (by omega)).mono ?_
          rintro e w' ⟨rfl, rfl⟩
          obtain ⟨at_, hn, hat⟩ : ∃ at_ : Nat, s3 % ((y.length : Int) + 1) = (at_ : Int) ∧ at_ ≤ y.length := by
            have h1 := Int.emod_nonneg s3 (show ((y.length : Int) + 1) ≠ 0 by omega)
            have h2 := Int.emod_lt_of_pos s3 (show 0 < (y.length : Int) + 1 by omega)
            exact ⟨(s3 % ((y.length : Int) + 1)).toNat, by omega, by omega⟩
          rw [hn]
          clear hn
          have hw2 : IntKind.i64.wrap ((y.length : Int) - (at_ : Int)) = (y.length : Int) - (at_ : Int) := IntWalk.i64_in _ (by omega)
          have hw3 : IntKind.i64.wrap ((y.length : Int) - (at_ : Int) + 1) = (y.length : Int) - (at_ : Int) + 1 := IntWalk.i64_in _ (by omega)
          go_wp2_with fail
          refine (hPick s1 ((y.length : Int) - (at_ : Int) + 1) wr (by omega) (by omega)).mono ?_
          rintro e w' ⟨rfl, rfl⟩
          obtain ⟨n, hn, hzl⟩ : ∃ n : Nat, s1 % ((y.length : Int) - (at_ : Int) + 1) = (n : Int) ∧ at_ + n ≤ y.length := by
            have h1 := Int.emod_nonneg s1 (show ((y.length : Int) - (at_ : Int) + 1) ≠ 0 by omega)
            have h2 := Int.emod_lt_of_pos s1 (show 0 < (y.length : Int) - (at_ : Int) + 1 by omega)
            exact ⟨(s1 % ((y.length : Int) - (at_ : Int) + 1)).toNat, by omega, by omega⟩
          rw [hn]
          have hwat : IntKind.i32.wrap (at_ : Int) = (at_ : Int) := by rw [IntKind.wrap_i32]; omega
          have hwn : IntKind.i32.wrap (n : Int) = (n : Int) := by rw [IntKind.wrap_i32]; omega
          have hn64 : n ≤ 64 := by omega
          clear hn hw1 hw2 hw3
          by_cases hfull : 128 < (Y.length : Int) + (n : Int)
          · as_aux_lemma =>
            have HST : Hid (sendS (sent x y X Y) 0 2 ⟨2, at_, n⟩ = 28425) := Lib.hid (by
              rw [send_sec x y X Y at_ n hzl 2, if_pos (show 128 < ((toldP (sent x y X Y) 2).length : Int) + (n : Int) from hfull)])
            have HSM : Hid (sendM (sent x y X Y) 0 2 ⟨2, at_, n⟩ = sent x y X Y) := Lib.hid (by
              unfold sendM
              rw [HST.out]
              exact if_neg (by decide))
            obtain ⟨wa, hwa⟩ : ∃ wa, wa = wr.alloc (.cells #[.int .i32 2, .int .i32 at_, .int .i32 n] 21) := ⟨_, rfl⟩
            have ha1 : Upd (fun _ => False) wr wa := by rw [hwa]; exact Upd.alloc _ _ _
            have hqa : wa.heap[wr.heap.size]? = some (.cells #[.int .i32 2, .int .i32 at_, .int .i32 n] 21 (0, 0)) := by rw [hwa]; exact hpTop _ _ _ rfl
            have HE5 := Lib.hid (Ext.made None0 9 (c := c) ha1)
            have HS1 : Hid (Calls Try.prog 12 #[.pointer (some ⟨rb, 0, none⟩), .pointer none, .int .i64 0, .int .i64 36, .int .i64 2, .int .i64 0, .slice (some ⟨wr.heap.size, 0, none⟩) 3 3] wa fun e w' => Served (paint c wr 9) wa rb (.pointer none) ⟨0, 28425, sent x y X Y⟩ none e w') := Lib.hid (by
              have := sv36q (HAT.out.rm.ext HE5.out (fun _ _ h => h)) (show TrO (paint c wr 9) wa (.pointer none) none from rfl) 0 2 0 _ 2 at_ n (i32_lit hqa rfl rfl (show 3 ≤ 100 by omega) (by simp; omega)) (fun k hk => by simp [Value.ownBlock] at hk; rw [← hk, paint_new _ _ _ (Nat.le_refl _)]; exact nR9) (by omega)
              rw [HST.out, HSM.out] at this
              exact this)
            have HWA := Lib.hid hwa
            clear hwa hqa ha1
            go_wp2_with fail
            rw [← HWA.out]
            refine HS1.out.mono ?_
            rintro e w5 ⟨rfl, c5, hx5, hr5, -⟩
            have hx5' : Ext TR c wr c5 w5 := (HE5.out.mono (T' := TR) (fun _ h => h.elim)).trans hx5 (fun _ h => h)
            have HA5 := Lib.hid (HAT.out.ext hx5' (by simp [TR]) (by simp [TR]) hr5)
            have hb5 := hx5'.blk HBX.out (by rw [HAT.out.cb]; simp [TR])
            have HB5 := Lib.hid hb5
            obtain ⟨t0, t1, tf⟩ := two_cells hb5
            have tf0 := tf 1
            have hsz : (strOfNums Y).size ≤ 128 := by rw [strOfNums_size]; omega
            have HSZ := Lib.hid (strOfNums_size Y)
            have hwl : IntKind.i64.wrap (((strOfNums Y).size : Int) + (n : Int)) = ((strOfNums Y).size : Int) + (n : Int) := IntWalk.i64_in _ (by omega)
            have hfl : decide (128 < ((strOfNums Y).size : Int) + (n : Int)) = true := by rw [HSZ.out]; simpa using hfull
            have hwz : IntKind.i64.wrap 1 = 1 := by decide +kernel
            clear hx5 hr5 hx5' hb5 tf HS1 HE5 hfull
            have HTOLD := Lib.hid (rTold HA5.out.rm)
            clear t0 t1 tf0
            obtain ⟨t0, t1, -⟩ := two_cells HB5.out
            go_wp2_with fail
            refine HTOLD.out.mono ?_
            rintro e w7 ⟨p7, q7, rfl, hp7, hq7, hu7⟩
            obtain ⟨t0', t1', -⟩ := two_cells (hpBlk hu7 HB5.out (fun h => h))
            have hp7 : Vw w7 p7 X := hp7
            have hq7 : Vw w7 q7 Y := hq7
            have n1 : ((strOfNums X).toList != (strOfNums X).toList) = false := by simp
            have n2 : ((strOfNums Y).toList != (strOfNums Y).toList) = false := by simp
            have HA7 := Lib.hid (HA5.out.quiet hu7)
            have HB7 := Lib.hid (hpBlk hu7 HB5.out (fun h => h))
            obtain ⟨xa7, xc7, rfl, -, -⟩ := hp7.slice
            obtain ⟨ya7, yc7, rfl, -, -⟩ := hq7.slice
            have e1 := run_str (P := Try.prog) Try.underlying31 Try.underlying5 Try.underlying9 hp7
            have e2 := run_str (P := Try.prog) Try.underlying31 Try.underlying5 Try.underlying9 hq7
            clear hp7 hq7 hu7
            go_wp2_with fail
            go_roundw
            case rel => exact ⟨k + 1, c5, X, Y, by omega, by omega, by go_num, HA7, HB7⟩
            case measure => simp [intOf]; omega
          · as_aux_lemma =>
            have HST : Hid (sendS (sent x y X Y) 0 2 ⟨2, at_, n⟩ = 36864) := Lib.hid (by
              rw [send_sec x y X Y at_ n hzl 2, if_neg (show ¬ 128 < ((toldP (sent x y X Y) 2).length : Int) + (n : Int) from hfull)])
            have HSM : Hid (sendM (sent x y X Y) 0 2 ⟨2, at_, n⟩ = sent x y X (Y ++ (y.drop at_).take n)) := Lib.hid (by
              unfold sendM
              rw [HST.out]
              rfl)
            obtain ⟨wa, hwa⟩ : ∃ wa, wa = wr.alloc (.cells #[.int .i32 2, .int .i32 at_, .int .i32 n] 21) := ⟨_, rfl⟩
            have ha1 : Upd (fun _ => False) wr wa := by rw [hwa]; exact Upd.alloc _ _ _
            have hqa : wa.heap[wr.heap.size]? = some (.cells #[.int .i32 2, .int .i32 at_, .int .i32 n] 21 (0, 0)) := by rw [hwa]; exact hpTop _ _ _ rfl
            have HE5 := Lib.hid (Ext.made None0 9 (c := c) ha1)
            have HS1 : Hid (Calls Try.prog 12 #[.pointer (some ⟨rb, 0, none⟩), .pointer none, .int .i64 0, .int .i64 36, .int .i64 2, .int .i64 0, .slice (some ⟨wr.heap.size, 0, none⟩) 3 3] wa fun e w' => Served (paint c wr 9) wa rb (.pointer none) ⟨0, 36864, sent x y X (Y ++ (y.drop at_).take n)⟩ none e w') := Lib.hid (by
              have := sv36q (HAT.out.rm.ext HE5.out (fun _ _ h => h)) (show TrO (paint c wr 9) wa (.pointer none) none from rfl) 0 2 0 _ 2 at_ n (i32_lit hqa rfl rfl (show 3 ≤ 100 by omega) (by simp; omega)) (fun k hk => by simp [Value.ownBlock] at hk; rw [← hk, paint_new _ _ _ (Nat.le_refl _)]; exact nR9) (by omega)
              rw [HST.out, HSM.out] at this
              exact this)
            have HWA := Lib.hid hwa
            clear hwa hqa ha1
            go_wp2_with fail
            rw [← HWA.out]
            refine HS1.out.mono ?_
            rintro e w5 ⟨rfl, c5, hx5, hr5, -⟩
            have hx5' : Ext TR c wr c5 w5 := (HE5.out.mono (T' := TR) (fun _ h => h.elim)).trans hx5 (fun _ h => h)
            have HA5 := Lib.hid (HAT.out.ext hx5' (by simp [TR]) (by simp [TR]) hr5)
            have hb5 := hx5'.blk HBX.out (by rw [HAT.out.cb]; simp [TR])
            have HB5 := Lib.hid hb5
            obtain ⟨t0, t1, tf⟩ := two_cells hb5
            have tf0 := tf 1
            have hsz : (strOfNums Y).size ≤ 128 := by rw [strOfNums_size]; omega
            have HSZ := Lib.hid (strOfNums_size Y)
            have hwl : IntKind.i64.wrap (((strOfNums Y).size : Int) + (n : Int)) = ((strOfNums Y).size : Int) + (n : Int) := IntWalk.i64_in _ (by omega)
            have hfl : decide (128 < ((strOfNums Y).size : Int) + (n : Int)) = false := by rw [HSZ.out]; simpa using hfull
            have hwz : IntKind.i64.wrap 1 = 1 := by decide +kernel
            clear hx5 hr5 hx5' hb5 tf HS1 HE5 hfull
            have HV5 := Lib.hid HA5.out.s
            obtain ⟨e, hfe⟩ : ∃ e : Nat, e = at_ + n := ⟨_, rfl⟩
            have HFE := Lib.hid hfe
            have hwe : IntKind.i64.wrap ((at_ : Int) + (n : Int)) = (e : Int) := by rw [hfe, Int.natCast_add]; exact IntWalk.i64_in _ (by omega)
            have HSB : Hid (∀ u, Upd (fun _ => False) w5 u → ∀ a', ((sc = at_ ∧ a' = sa) ∨ (sc ≠ at_ ∧ a' = sa.map (·.add at_))) → (convert 31 9 (.slice a' (e - at_) (sc - at_))).run Try.prog u = .ok (.string (strOfNums ((y.drop at_).take n))) u) := Lib.hid (fun u hu a' ha => by
              have h := vw_cut (HV5.out.upd hu (fun _ _ h => h)) at_ n hzl ha
              rw [show n = e - at_ by rw [HFE.out]; omega] at h ⊢
              exact run_str (P := Try.prog) Try.underlying31 Try.underlying5 Try.underlying9 h)
            have hszz : (strOfNums ((y.drop at_).take n)).size ≤ 64 := by rw [strOfNums_size, List.length_take, List.length_drop]; omega
            have hc1 : ¬ (9223372036854775807 < (strOfNums Y).size + (strOfNums ((y.drop at_).take n)).size) := by omega
            have HAP := Lib.hid (str_app Y ((y.drop at_).take n))
            have HDW := Lib.hid (Upd.drew (fun _ => False) w5)
            have i1 : (0 : Int) ≤ (at_ : Int) := Int.natCast_nonneg _
            have i2 : (0 : Int) ≤ (e : Int) := Int.natCast_nonneg _
            have i3 : (at_ : Int) ≤ (e : Int) := by rw [HFE.out]; omega
            have i4 : (e : Int) ≤ (sc : Int) := by rw [HFE.out]; omega
            clear hfe
            go_upto_region 25 with fail
            by_cases g1 : sc = at_
            · as_aux_lemma =>
              obtain rfl : e = at_ := by omega
              obtain rfl := g1
              have hB := HSB.out _ HDW.out _ (.inl ⟨rfl, rfl⟩)
              rw [Nat.sub_self] at hB
              have HB5d := Lib.hid (hpBlk HDW.out HB5.out (fun h => h))
              obtain ⟨k0, k1, kf⟩ := two_cells HB5d.out
              have kfq := kf 1
              have HA6 := Lib.hid (((HA5.out.store 1 (.string (strOfNums Y ++ strOfNums ((y.drop sc).take n)))).quiet (Upd.drew (fun _ => False) _)))
              have hb6 : ((w5.setCell ⟨tb, 1, none⟩ (.string (strOfNums Y ++ strOfNums ((y.drop sc).take n)))).drew).heap[tb]? = some (.cells (bx X (Y ++ (y.drop sc).take n)) 49 (0, 0)) := by
                have h := HB5.out
                show (w5.setCell ⟨tb, 1, none⟩ _).heap[tb]? = _
                simp [World.setCell, Array.getElem?_modify, h, bx, HAP.out]
              have HB6 := Lib.hid hb6
              have HTOLD := Lib.hid (rTold HA6.out.rm)
              rw [HAP.out] at HA6 HB6 HTOLD
              clear hb6 kf HSB t0 t1 tf0
              have hHeld : (fun w' : World => w'.cell? ⟨tb, 1, none⟩ = some (.string (strOfNums Y)) ∧ (convert 31 9 (.slice sa 0 0)).run Try.prog w' = .ok (.string (strOfNums ((y.drop sc).take n))) w') w5.drew := ⟨k1, hB⟩
              refine wp_region_last (S := fun w' => w'.cell? ⟨tb, 1, none⟩ = some (.string (strOfNums Y)) ∧ (convert 31 9 (.slice sa 0 0)).run Try.prog w' = .ok (.string (strOfNums ((y.drop sc).take n))) w') 15 _ (by kernel_rfl) (by kernel_rfl) rfl ?_
              change wpHL _ _ _ _ _ _ _ _ _ _ w5.drew
              refine wpHL_take (i := 0) (v := ?_) rfl (by kernel_rfl) (fun _ _ _ h => h) hHeld (Or.inl ⟨by rfl, ?_⟩) ?_
              rotate_left
              · (intro w hSw; obtain ⟨y0, y1⟩ := hSw; go_simp; try with_reducible rfl)
              try simp only [Act.put, List.getElem_toArray, List.getElem_cons_succ, List.getElem_cons_zero, List.setIfInBounds_toArray, List.set_cons_zero, List.set_cons_succ]
              refine wpHL_take (i := 1) (v := ?_) rfl (by kernel_rfl) (fun _ _ _ h => h) hHeld (Or.inl ⟨by rfl, ?_⟩) ?_
              rotate_left
              · (intro w hSw; obtain ⟨y0, y1⟩ := hSw; go_simp; try with_reducible rfl)
              try simp only [Act.put, List.getElem_toArray, List.getElem_cons_succ, List.getElem_cons_zero, List.setIfInBounds_toArray, List.set_cons_zero, List.set_cons_succ]
              refine wpHL_take (i := 2) (v := ?_) rfl (by kernel_rfl) (fun _ _ _ h => h) hHeld (Or.inl ⟨by rfl, ?_⟩) ?_
              rotate_left
              · (intro w hSw; obtain ⟨y0, y1⟩ := hSw; go_simp; try with_reducible rfl)
              try simp only [Act.put, List.getElem_toArray, List.getElem_cons_succ, List.getElem_cons_zero, List.setIfInBounds_toArray, List.set_cons_zero, List.set_cons_succ]
              refine wpHL_take (i := 3) (v := ?_) rfl (by kernel_rfl) (fun _ _ _ h => h) hHeld (Or.inl ⟨by rfl, ?_⟩) ?_
              rotate_left
              · (intro w hSw; obtain ⟨y0, y1⟩ := hSw; go_simp; try with_reducible rfl)
              try simp only [Act.put, List.getElem_toArray, List.getElem_cons_succ, List.getElem_cons_zero, List.setIfInBounds_toArray, List.set_cons_zero, List.set_cons_succ]
              refine wpHL_take (i := 4) (v := ?_) rfl (by kernel_rfl) (fun _ _ _ h => h) hHeld (Or.inl ⟨by rfl, ?_⟩) ?_
              rotate_left
              · (intro w hSw; obtain ⟨y0, y1⟩ := hSw; go_simp; try with_reducible rfl)
              try simp only [Act.put, List.getElem_toArray, List.getElem_cons_succ, List.getElem_cons_zero, List.setIfInBounds_toArray, List.set_cons_zero, List.set_cons_succ]
              refine wpHL_take (i := 5) (v := ?_) rfl (by kernel_rfl) (fun _ _ _ h => h) hHeld (Or.inl ⟨by rfl, ?_⟩) ?_
              rotate_left
              · (intro w hSw; obtain ⟨y0, y1⟩ := hSw; go_simp; try with_reducible rfl)
              try simp only [Act.put, List.getElem_toArray, List.getElem_cons_succ, List.getElem_cons_zero, List.setIfInBounds_toArray, List.set_cons_zero, List.set_cons_succ]
              refine wpHL_take (i := 6) (v := ?_) rfl (by kernel_rfl) (fun _ _ _ h => h) hHeld (Or.inl ⟨by rfl, ?_⟩) ?_
              rotate_left
              · (intro w hSw; obtain ⟨y0, y1⟩ := hSw; go_simp; try with_reducible rfl)
              try simp only [Act.put, List.getElem_toArray, List.getElem_cons_succ, List.getElem_cons_zero, List.setIfInBounds_toArray, List.set_cons_zero, List.set_cons_succ]
              refine wpHL_take (i := 7) (v := ?_) rfl (by kernel_rfl) (fun _ _ _ h => h) hHeld (Or.inl ⟨by rfl, ?_⟩) ?_
              rotate_left
              · (intro w hSw; obtain ⟨y0, y1⟩ := hSw; go_simp; try with_reducible rfl)
              try simp only [Act.put, List.getElem_toArray, List.getElem_cons_succ, List.getElem_cons_zero, List.setIfInBounds_toArray, List.set_cons_zero, List.set_cons_succ]
              refine wpHL_take (i := 8) (v := ?_) rfl (by kernel_rfl) (fun _ _ _ h => h) hHeld (Or.inl ⟨by rfl, ?_⟩) ?_
              rotate_left
              · (intro w hSw; obtain ⟨y0, y1⟩ := hSw; go_simp; try with_reducible rfl)
              try simp only [Act.put, List.getElem_toArray, List.getElem_cons_succ, List.getElem_cons_zero, List.setIfInBounds_toArray, List.set_cons_zero, List.set_cons_succ]
              refine wpHL_take (i := 9) (v := ?_) rfl (by kernel_rfl) (fun _ _ _ h => h) hHeld (Or.inl ⟨by rfl, ?_⟩) ?_
              rotate_left
              · (intro w hSw; obtain ⟨y0, y1⟩ := hSw; go_simp; try with_reducible rfl)
              try simp only [Act.put, List.getElem_toArray, List.getElem_cons_succ, List.getElem_cons_zero, List.setIfInBounds_toArray, List.set_cons_zero, List.set_cons_succ]
              refine wpHL_take (i := 10) (v := ?_) rfl (by kernel_rfl) (fun _ _ _ h => h) hHeld (Or.inl ⟨by rfl, ?_⟩) ?_
              rotate_left
              · (intro w hSw; obtain ⟨y0, y1⟩ := hSw; go_simp; try with_reducible rfl)
              try simp only [Act.put, List.getElem_toArray, List.getElem_cons_succ, List.getElem_cons_zero, List.setIfInBounds_toArray, List.set_cons_zero, List.set_cons_succ]
              refine wpHL_take (i := 11) (v := ?_) rfl (by kernel_rfl) (fun _ _ _ h => h) hHeld (Or.inl ⟨by rfl, ?_⟩) ?_
              rotate_left
              · (intro w hSw; obtain ⟨y0, y1⟩ := hSw; go_simp; try with_reducible rfl)
              try simp only [Act.put, List.getElem_toArray, List.getElem_cons_succ, List.getElem_cons_zero, List.setIfInBounds_toArray, List.set_cons_zero, List.set_cons_succ]
              refine wpHL_take (i := 12) (v := ?_) rfl (by kernel_rfl) (fun _ _ _ h => h) hHeld (Or.inl ⟨by rfl, ?_⟩) ?_
              rotate_left
              · (intro w hSw; obtain ⟨y0, y1⟩ := hSw; go_simp; try with_reducible rfl)
              try simp only [Act.put, List.getElem_toArray, List.getElem_cons_succ, List.getElem_cons_zero, List.setIfInBounds_toArray, List.set_cons_zero, List.set_cons_succ]
              refine wpHL_take (i := 13) (v := ?_) rfl (by kernel_rfl) (fun _ _ _ h => h) hHeld (Or.inl ⟨by rfl, ?_⟩) ?_
              rotate_left
              · (intro w hSw; obtain ⟨y0, y1⟩ := hSw; go_simp; try with_reducible rfl)
              try simp only [Act.put, List.getElem_toArray, List.getElem_cons_succ, List.getElem_cons_zero, List.setIfInBounds_toArray, List.set_cons_zero, List.set_cons_succ]
              refine wpHL_take (i := 14) (v := ?_) rfl (by kernel_rfl) (fun _ _ _ h => h) hHeld (Or.inl ⟨by rfl, ?_⟩) ?_
              rotate_left
              · (intro w hSw; obtain ⟨y0, y1⟩ := hSw; go_simp; try with_reducible rfl)
              try simp only [Act.put, List.getElem_toArray, List.getElem_cons_succ, List.getElem_cons_zero, List.setIfInBounds_toArray, List.set_cons_zero, List.set_cons_succ]
              clear hHeld
              refine wpHL_last (by kernel_rfl) ?_
              clear hB k0
              obtain ⟨m0, m1, -⟩ := two_cells HB6.out
              go_wp2_with fail
              rw [HAP.out]
              clear HAP m0 m1
              generalize Y ++ (y.drop sc).take n = Tn at *
              refine HTOLD.out.mono ?_
              rintro e w7 ⟨p7, q7, rfl, hp7, hq7, hu7⟩
              obtain ⟨t0', t1', -⟩ := two_cells (hpBlk hu7 HB6.out (fun h => h))
              have hp7 : Vw w7 p7 X := hp7
              have hq7 : Vw w7 q7 Tn := hq7
              have n1 : ((strOfNums X).toList != (strOfNums X).toList) = false := by simp
              have n2 : ((strOfNums Tn).toList != (strOfNums Tn).toList) = false := by simp
              have HA7 := Lib.hid (HA6.out.quiet hu7)
              have HB7 := Lib.hid (hpBlk hu7 HB6.out (fun h => h))
              obtain ⟨xa7, xc7, rfl, -, -⟩ := hp7.slice
              obtain ⟨ya7, yc7, rfl, -, -⟩ := hq7.slice
              have e1 := run_str (P := Try.prog) Try.underlying31 Try.underlying5 Try.underlying9 hp7
              have e2 := run_str (P := Try.prog) Try.underlying31 Try.underlying5 Try.underlying9 hq7
              clear hp7 hq7 hu7
              go_wp2_with fail
              go_roundw
              case rel => exact ⟨k + 1, c5, X, Tn, by omega, by omega, by go_num, HA7, HB7⟩
              case measure => simp [intOf]; omega
            · as_aux_lemma =>
              have hB := HSB.out _ HDW.out _ (.inr ⟨g1, rfl⟩)
              have HB5d := Lib.hid (hpBlk HDW.out HB5.out (fun h => h))
              obtain ⟨k0, k1, kf⟩ := two_cells HB5d.out
              have kfq := kf 1
              have HA6 := Lib.hid (((HA5.out.store 1 (.string (strOfNums Y ++ strOfNums ((y.drop at_).take n)))).quiet (Upd.drew (fun _ => False) _)))
              have hb6 : ((w5.setCell ⟨tb, 1, none⟩ (.string (strOfNums Y ++ strOfNums ((y.drop at_).take n)))).drew).heap[tb]? = some (.cells (bx X (Y ++ (y.drop at_).take n)) 49 (0, 0)) := by
                have h := HB5.out
                show (w5.setCell ⟨tb, 1, none⟩ _).heap[tb]? = _
                simp [World.setCell, Array.getElem?_modify, h, bx, HAP.out]
              have HB6 := Lib.hid hb6
              have HTOLD := Lib.hid (rTold HA6.out.rm)
              rw [HAP.out] at HA6 HB6 HTOLD
              clear hb6 kf HSB t0 t1 tf0
              have hHeld : (fun w' : World => w'.cell? ⟨tb, 1, none⟩ = some (.string (strOfNums Y)) ∧ (convert 31 9 (.slice (sa.map (fun x => x.add at_)) (e - at_) (sc - at_))).run Try.prog w' = .ok (.string (strOfNums ((y.drop at_).take n))) w') w5.drew := ⟨k1, hB⟩
              refine wp_region_last (S := fun w' => w'.cell? ⟨tb, 1, none⟩ = some (.string (strOfNums Y)) ∧ (convert 31 9 (.slice (sa.map (fun x => x.add at_)) (e - at_) (sc - at_))).run Try.prog w' = .ok (.string (strOfNums ((y.drop at_).take n))) w') 15 _ (by kernel_rfl) (by kernel_rfl) rfl ?_
              change wpHL _ _ _ _ _ _ _ _ _ _ w5.drew
              refine wpHL_take (i := 0) (v := ?_) rfl (by kernel_rfl) (fun _ _ _ h => h) hHeld (Or.inl ⟨by rfl, ?_⟩) ?_
              rotate_left
              · (intro w hSw; obtain ⟨y0, y1⟩ := hSw; go_simp; try with_reducible rfl)
              try simp only [Act.put, List.getElem_toArray, List.getElem_cons_succ, List.getElem_cons_zero, List.setIfInBounds_toArray, List.set_cons_zero, List.set_cons_succ]
              refine wpHL_take (i := 1) (v := ?_) rfl (by kernel_rfl) (fun _ _ _ h => h) hHeld (Or.inl ⟨by rfl, ?_⟩) ?_
              rotate_left
              · (intro w hSw; obtain ⟨y0, y1⟩ := hSw; go_simp; try with_reducible rfl)
              try simp only [Act.put, List.getElem_toArray, List.getElem_cons_succ, List.getElem_cons_zero, List.setIfInBounds_toArray, List.set_cons_zero, List.set_cons_succ]
              refine wpHL_take (i := 2) (v := ?_) rfl (by kernel_rfl) (fun _ _ _ h => h) hHeld (Or.inl ⟨by rfl, ?_⟩) ?_
              rotate_left
              · (intro w hSw; obtain ⟨y0, y1⟩ := hSw; go_simp; try with_reducible rfl)
              try simp only [Act.put, List.getElem_toArray, List.getElem_cons_succ, List.getElem_cons_zero, List.setIfInBounds_toArray, List.set_cons_zero, List.set_cons_succ]
              refine wpHL_take (i := 3) (v := ?_) rfl (by kernel_rfl) (fun _ _ _ h => h) hHeld (Or.inl ⟨by rfl, ?_⟩) ?_
              rotate_left
              · (intro w hSw; obtain ⟨y0, y1⟩ := hSw; go_simp; try with_reducible rfl)
              try simp only [Act.put, List.getElem_toArray, List.getElem_cons_succ, List.getElem_cons_zero, List.setIfInBounds_toArray, List.set_cons_zero, List.set_cons_succ]
              refine wpHL_take (i := 4) (v := ?_) rfl (by kernel_rfl) (fun _ _ _ h => h) hHeld (Or.inl ⟨by rfl, ?_⟩) ?_
              rotate_left
              · (intro w hSw; obtain ⟨y0, y1⟩ := hSw; go_simp; try with_reducible rfl)
              try simp only [Act.put, List.getElem_toArray, List.getElem_cons_succ, List.getElem_cons_zero, List.setIfInBounds_toArray, List.set_cons_zero, List.set_cons_succ]
              refine wpHL_take (i := 5) (v := ?_) rfl (by kernel_rfl) (fun _ _ _ h => h) hHeld (Or.inl ⟨by rfl, ?_⟩) ?_
              rotate_left
              · (intro w hSw; obtain ⟨y0, y1⟩ := hSw; go_simp; try with_reducible rfl)
              try simp only [Act.put, List.getElem_toArray, List.getElem_cons_succ, List.getElem_cons_zero, List.setIfInBounds_toArray, List.set_cons_zero, List.set_cons_succ]
              refine wpHL_take (i := 6) (v := ?_) rfl (by kernel_rfl) (fun _ _ _ h => h) hHeld (Or.inl ⟨by rfl, ?_⟩) ?_
              rotate_left
              · (intro w hSw; obtain ⟨y0, y1⟩ := hSw; go_simp; try with_reducible rfl)
              try simp only [Act.put, List.getElem_toArray, List.getElem_cons_succ, List.getElem_cons_zero, List.setIfInBounds_toArray, List.set_cons_zero, List.set_cons_succ]
              refine wpHL_take (i := 7) (v := ?_) rfl (by kernel_rfl) (fun _ _ _ h => h) hHeld (Or.inl ⟨by rfl, ?_⟩) ?_
              rotate_left
              · (intro w hSw; obtain ⟨y0, y1⟩ := hSw; go_simp; try with_reducible rfl)
              try simp only [Act.put, List.getElem_toArray, List.getElem_cons_succ, List.getElem_cons_zero, List.setIfInBounds_toArray, List.set_cons_zero, List.set_cons_succ]
              refine wpHL_take (i := 8) (v := ?_) rfl (by kernel_rfl) (fun _ _ _ h => h) hHeld (Or.inl ⟨by rfl, ?_⟩) ?_
              rotate_left
              · (intro w hSw; obtain ⟨y0, y1⟩ := hSw; go_simp; try with_reducible rfl)
              try simp only [Act.put, List.getElem_toArray, List.getElem_cons_succ, List.getElem_cons_zero, List.setIfInBounds_toArray, List.set_cons_zero, List.set_cons_succ]
              refine wpHL_take (i := 9) (v := ?_) rfl (by kernel_rfl) (fun _ _ _ h => h) hHeld (Or.inl ⟨by rfl, ?_⟩) ?_
              rotate_left
              · (intro w hSw; obtain ⟨y0, y1⟩ := hSw; go_simp; try with_reducible rfl)
              try simp only [Act.put, List.getElem_toArray, List.getElem_cons_succ, List.getElem_cons_zero, List.setIfInBounds_toArray, List.set_cons_zero, List.set_cons_succ]
              refine wpHL_take (i := 10) (v := ?_) rfl (by kernel_rfl) (fun _ _ _ h => h) hHeld (Or.inl ⟨by rfl, ?_⟩) ?_
              rotate_left
              · (intro w hSw; obtain ⟨y0, y1⟩ := hSw; go_simp; try with_reducible rfl)
              try simp only [Act.put, List.getElem_toArray, List.getElem_cons_succ, List.getElem_cons_zero, List.setIfInBounds_toArray, List.set_cons_zero, List.set_cons_succ]
              refine wpHL_take (i := 11) (v := ?_) rfl (by kernel_rfl) (fun _ _ _ h => h) hHeld (Or.inl ⟨by rfl, ?_⟩) ?_
              rotate_left
              · (intro w hSw; obtain ⟨y0, y1⟩ := hSw; go_simp; try with_reducible rfl)
              try simp only [Act.put, List.getElem_toArray, List.getElem_cons_succ, List.getElem_cons_zero, List.setIfInBounds_toArray, List.set_cons_zero, List.set_cons_succ]
              refine wpHL_take (i := 12) (v := ?_) rfl (by kernel_rfl) (fun _ _ _ h => h) hHeld (Or.inl ⟨by rfl, ?_⟩) ?_
              rotate_left
              · (intro w hSw; obtain ⟨y0, y1⟩ := hSw; go_simp; try with_reducible rfl)
              try simp only [Act.put, List.getElem_toArray, List.getElem_cons_succ, List.getElem_cons_zero, List.setIfInBounds_toArray, List.set_cons_zero, List.set_cons_succ]
              refine wpHL_take (i := 13) (v := ?_) rfl (by kernel_rfl) (fun _ _ _ h => h) hHeld (Or.inl ⟨by rfl, ?_⟩) ?_
              rotate_left
              · (intro w hSw; obtain ⟨y0, y1⟩ := hSw; go_simp; try with_reducible rfl)
              try simp only [Act.put, List.getElem_toArray, List.getElem_cons_succ, List.getElem_cons_zero, List.setIfInBounds_toArray, List.set_cons_zero, List.set_cons_succ]
              refine wpHL_take (i := 14) (v := ?_) rfl (by kernel_rfl) (fun _ _ _ h => h) hHeld (Or.inl ⟨by rfl, ?_⟩) ?_
              rotate_left
              · (intro w hSw; obtain ⟨y0, y1⟩ := hSw; go_simp; try with_reducible rfl)
              try simp only [Act.put, List.getElem_toArray, List.getElem_cons_succ, List.getElem_cons_zero, List.setIfInBounds_toArray, List.set_cons_zero, List.set_cons_succ]
              clear hHeld
              refine wpHL_last (by kernel_rfl) ?_
              clear hB k0
              obtain ⟨m0, m1, -⟩ := two_cells HB6.out
              go_wp2_with fail
              rw [HAP.out]
              clear HAP m0 m1
              generalize Y ++ (y.drop at_).take n = Tn at *
              refine HTOLD.out.mono ?_
              rintro e w7 ⟨p7, q7, rfl, hp7, hq7, hu7⟩
              obtain ⟨t0', t1', -⟩ := two_cells (hpBlk hu7 HB6.out (fun h => h))
              have hp7 : Vw w7 p7 X := hp7
              have hq7 : Vw w7 q7 Tn := hq7
              have n1 : ((strOfNums X).toList != (strOfNums X).toList) = false := by simp
              have n2 : ((strOfNums Tn).toList != (strOfNums Tn).toList) = false := by simp
              have HA7 := Lib.hid (HA6.out.quiet hu7)
              have HB7 := Lib.hid (hpBlk hu7 HB6.out (fun h => h))
              obtain ⟨xa7, xc7, rfl, -, -⟩ := hp7.slice
              obtain ⟨ya7, yc7, rfl, -, -⟩ := hq7.slice
              have e1 := run_str (P := Try.prog) Try.underlying31 Try.underlying5 Try.underlying9 hp7
              have e2 := run_str (P := Try.prog) Try.underlying31 Try.underlying5 Try.underlying9 hq7
              clear hp7 hq7 hu7
              go_wp2_with fail
              go_roundw
              case rel => exact ⟨k + 1, c5, X, Tn, by omega, by omega, by go_num, HA7, HB7⟩
              case measure => simp [intOf]; omega
    · have hor : L.length ≤ k ∨ (k < L.length ∧ 30 ≤ k) := by omega
      have HBG := Lib.hid (rBegin HAT.out.rm (.slice none 0 0) (.slice none 0 0) [] [] (Vw.nil _) (Vw.nil _) (by simp) (by simp) (by simp [Value.ownBlock]))
      have hx64 : decide ((x.length : Int) ≤ 64) = true := by simp; omega
      rcases hor with h | ⟨h, h2⟩
      · have t1 : decide ((k : Int) < (L.length : Int)) = false := by simp; omega
        go_wp2_with fail
        refine HBG.out.mono ?_
        rintro e w9 ⟨rfl, c9, hx9, -⟩
        have HU9 := Lib.hid (hx9.upW HAT.out.up HAT.out.c0 (by simp [BT])).1
        clear hx9
        go_wp2_with fail
        go_ret
        exact ⟨rfl, HU9.out⟩
      · have t1 : decide ((k : Int) < (L.length : Int)) = true := by simp; omega
        have t2 : decide ((k : Int) < 30) = false := by simp; omega
        go_wp2_with fail
        refine HBG.out.mono ?_
        rintro e w9 ⟨rfl, c9, hx9, -⟩
        have HU9 := Lib.hid (hx9.upW HAT.out.up HAT.out.c0 (by simp [BT])).1
        clear hx9
        go_wp2_with fail
        go_ret
        exact ⟨rfl, HU9.out⟩
theorem roomSends_below (W : World) (pv0 sv0 lv : Value) (x0 y0 : List Int) (L : List St12) (hp : Vw W pv0 x0) (hs : Vw W sv0 y0) (hl : Qs12At W lv L) : Calls Try.prog 4 #[pv0, sv0, lv] W fun e w' => e = .returned (.bool true) ∧ Below W.heap.size W w' :=
  (roomSends_walk W pv0 sv0 lv x0 y0 L hp hs hl).mono fun e w' ⟨h1, h2⟩ => ⟨h1, h2.below (Nat.le_refl _) (fun _ h => h.elim)⟩
end Go.Proofs.Ytmfiamoeagnmmaa

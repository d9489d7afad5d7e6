/- RoomKnown, walked. -/
import Derived.Test.YtdmadfahgkikkaaDoorQBk
import Derived.Test.YtdmadfahgkikkaaDoorKQe
import Derived.Test.YtdmadfahgkikkaaDoorKQh
import Derived.Test.YtdmadfahgkikkaaDoorQapk
namespace Go.Proofs.YtdmadfahgkikkaaDoor
open Go.RowKit Go.Lib Go.ChangeShapes Go.WideShapes Go.Deep
set_option linter.unusedVariables false
set_option linter.unusedSimpArgs false

section
variable {c : Nat → Nat} {w : World} {rb : Nat} {M : RmM}
set_option maxRecDepth 100000 in
set_option maxHeartbeats 1000000 in
theorem svNo (op ap a b : Int) (tv v : Value) (xs : List Int) (hx : I32 w v xs) (hn : servesP op ≠ (xs.length : Int)) :
    Calls Tryd.prog 14 #[.pointer (some ⟨rb, 0, none⟩), tv, .int .i64 ap, .int .i64 op, .int .i64 a, .int .i64 b, v] w fun e w' => e = .returned (.tuple #[.int .i32 0, .int .i64 27013]) ∧ w = w' := by
  obtain ⟨-, va, vc, rfl, -, -, -⟩ := hx
  have t1 : ((xs.length : Int) == servesP op) = false := by simp; omega
  have t2 : ((xs.length : Int) != servesP op) = true := by simp [bne, t1]
  have HS := Lib.hid (rServes op w)
  clear hn
  generalize servesP op = r at *
  go_enter Tryd.func14, Tryd.ntmps14
  go_wp2_with fail
  refine HS.out.mono ?_
  rintro e w' ⟨rfl, rfl⟩
  go_wp2_with fail
  refine bodyPost_ret (v := .tuple #[.int .i32 0, .int .i64 27013]) (by simp only [results, Tryd.f14]; simp [go_sem]) rfl ?_
  exact ⟨rfl, rfl⟩
end
/-- a law's state: the room, a trace, nothing of W turned -/
structure Kn (W : World) (rb tb : Nat) (c : Nat → Nat) (w : World) (M : RmM) (o : Option (List EvM)) : Prop where
  rm : Rm c w rb M
  tr : TrO c w (.pointer (some ⟨tb, 0, none⟩)) o
  up : Upd (fun _ => False) W w
  cz : ∀ k, k < W.heap.size → c k = 0
section
variable {W : World} {rb tb : Nat} {c : Nat → Nat} {w w' : World} {M M' : RmM} {o : Option (List EvM)}
theorem Kn.ext {T : Nat → Prop} {c' : Nat → Nat} (h : Kn W rb tb c w M o) (hx : Ext T c w c' w') (h0 : ¬ T 0) (h7 : ¬ T 7) (hr : Rm c' w' rb M') : Kn W rb tb c' w' M' o := by
  obtain ⟨h1, h2⟩ := hx.upW h.up h.cz h0
  exact ⟨hr, h.tr.ext hx h7, h1, h2⟩
theorem Kn.quiet (h : Kn W rb tb c w M o) (hu : Upd (fun _ => False) w w') : Kn W rb tb c w' M o := h.ext (Ext.quiet c hu) (fun h => h) (fun h => h) (h.rm.quiet hu)
theorem Kn.made (h : Kn W rb tb c w M o) (hu : Upd (fun _ => False) w w') : Kn W rb tb (paint c w 9) w' M o := h.ext (Ext.made None0 9 hu) (fun h => h) (fun h => h) (h.rm.ext (Ext.made None0 9 hu) (fun _ _ h => h))
theorem Kn.served (h : Kn W rb tb c w M o) {r : SvA} {o' : Option (List EvM)} {e : Ending} (hs : Served c w rb (.pointer (some ⟨tb, 0, none⟩)) r o' e w') : e = .returned (.tuple #[.int .i32 r.n, .int .i64 r.s]) ∧ ∃ c', Kn W rb tb c' w' r.M o' := by
  obtain ⟨he, c', hx, hr, ht⟩ := hs
  obtain ⟨h1, h2⟩ := hx.upW h.up h.cz (by simp [TR])
  exact ⟨he, c', hr, ht, h1, h2⟩
end
/-- the rooms, one behind the other -/
def kn0 (cs : List Value) : RmM := ((noRoom 100).addI [0, 0, 0, 0] cs).setF 0 0 9
def kn1 (cs : List Value) : RmM := beginM (kn0 cs) [97, 98] [99, 100]
def kn2 (cs : List Value) : RmM := newM (kn1 cs) 0 4 4 3
def kn3 (cs : List Value) : RmM := putM (kn2 cs) 0 3 1 44
def kn4 (cs : List Value) : RmM := copyM (kn3 cs) 0 ⟨3, 0, 2⟩ ⟨2, 0, 2⟩
def kn5 (cs : List Value) : RmM := sendM (kn4 cs) 0 2 ⟨3, 0, 3⟩
def ko0 : Option (List EvM) := some []
def ko1 : Option (List EvM) := addO ko0 ⟨3, 4, 4, 3⟩
def ko2 : Option (List EvM) := tchs ko1 [⟨3, 1, 1⟩]
def ko3 : Option (List EvM) := tchs ko2 [⟨3, 1, 1⟩]
def ko4 : Option (List EvM) := tchs ko3 [⟨3, 0, 2⟩, ⟨2, 0, 2⟩]
def ko5 : Option (List EvM) := tchs ko4 [⟨3, 0, 2⟩, ⟨2, 0, 2⟩]
def ko6 : Option (List EvM) := tchs ko5 [⟨3, 0, 3⟩]
theorem kn_a (cs : List Value) : newN (kn1 cs) 4 4 3 = 3 ∧ newS (kn1 cs) 4 4 3 = 36864 := ⟨by kernel_rfl, by kernel_rfl⟩
theorem kn_b (cs : List Value) : rngP (kn2 cs).hp.arrs 3 1 1 0 = 36864 := by kernel_rfl
theorem kn_c (cs : List Value) : getP (kn3 cs).hp.arrs 3 1 0 = 44 ∧ rngP (kn3 cs).hp.arrs 3 1 1 0 = 36864 := ⟨by kernel_rfl, by kernel_rfl⟩
theorem kn_d (cs : List Value) : reachP (kn3 cs).hp.arrs 0 [⟨3, 0, 2⟩, ⟨2, 0, 2⟩] = 36864 := by kernel_rfl
theorem kn_e (cs : List Value) : sameP (kn4 cs).hp.arrs 0 ⟨3, 0, 2⟩ ⟨2, 0, 2⟩ = 1 ∧ reachP (kn4 cs).hp.arrs 0 [⟨3, 0, 2⟩, ⟨2, 0, 2⟩] = 36864 := ⟨by kernel_rfl, by kernel_rfl⟩
theorem kn_f (cs : List Value) : sendS (kn4 cs) 0 2 ⟨3, 0, 3⟩ = 36864 := by kernel_rfl
theorem kn_g (cs : List Value) : (kn5 cs).pub = [] ∧ (kn5 cs).sec = [99, 100, 0] ∧ (kn5 cs).fields.length = 1 ∧ (kn5 cs).hp.arrs.length = 3 := ⟨by kernel_rfl, by kernel_rfl, by kernel_rfl, by kernel_rfl⟩
theorem kn_h (cs : List Value) : ((kn5 cs).hp.arrs.getD 2 default).own = 0 ∧ ((kn5 cs).hp.arrs.getD 2 default).lab = 4 ∧ ((kn5 cs).hp.arrs.getD 2 default).life = 0 ∧ ((kn5 cs).hp.arrs.getD 2 default).sh = true := ⟨by kernel_rfl, by kernel_rfl, by kernel_rfl, by kernel_rfl⟩
theorem ko_len : ∃ L, ko6 = some L ∧ L.length = 8 := ⟨_, rfl, by kernel_rfl⟩
set_option maxRecDepth 100000 in
set_option maxHeartbeats 8000000 in
theorem roomKnown_walk (W : World) (hB : Bins ⟨W, fun _ => False⟩) : Calls Tryd.prog 3 #[] W fun e w' => e = .returned (.bool true) ∧ Upd (fun _ => False) W w' := by
  have HN := Lib.hid (rNewRoom zero0 100 W (by omega) (by omega))
  have HBN := Lib.hid hB
  obtain ⟨i0, hi0, hz0, hz1, hz2⟩ := info_parts info5
  clear hB
  go_enter Tryd.func3, Tryd.ntmps3
  go_wp2_with fail
  refine (rNewRoom_no 1 W (by omega)).mono ?_
  rintro e w' ⟨rfl, rfl⟩
  go_wp2_with fail
  refine HN.out.mono ?_
  rintro e w1 ⟨rb, c1, rfl, hx, hr⟩
  obtain ⟨hu1, hc1⟩ := hx.upW (Upd.refl _ W) (fun _ _ => rfl) (fun h => h)
  have HR1 := Lib.hid hr
  have HU1 := Lib.hid hu1
  have HC1 := Lib.hid hc1
  clear hx hr hu1 hc1 HN
  go_wp2_with fail
  refine (tNew w1).mono ?_
  rintro e w2 ⟨tb, rfl, ht, hu⟩
  have HK2 : Hid (Kn W rb tb (paint c1 w1 7) w2 (noRoom 100) ko0) := Lib.hid (by
    have E := Ext.made (c := c1) None0 7 hu
    obtain ⟨h1, h2⟩ := E.upW HU1.out HC1.out (fun h => h)
    exact ⟨HR1.out.ext E (fun _ _ h => h), ⟨tb, rfl, trc_of ht (fun k hk => ⟨paint_new _ _ _ hk.1, hk.2⟩)⟩, h1, h2⟩)
  clear ht hu HR1 HU1 HC1
  generalize paint c1 w1 7 = c2 at *
  go_wp2_with fail
  refine (known12 w2).mono ?_
  rintro e w3 ⟨rfl, hu⟩
  have HK3 := Lib.hid (HK2.out.quiet hu)
  clear hu HK2
  go_wp2_with fail
  refine (hAppletN w3 0 (bins_up HBN.out HK3.out.up)).mono ?_
  rintro e w4 ⟨v, I, rfl, hI, hS, h4, hu⟩
  have HK4 := Lib.hid (HK3.out.quiet hu)
  have HAD := Lib.hid (rAdd (RmI.of0 HK4.out.rm rfl) (by decide) v I hI hS)
  have H4 := Lib.hid h4
  clear hI hS h4 hu HK3
  go_wp2_with fail
  refine HAD.out.mono ?_
  rintro e w5 ⟨rfl, c5, P, -, hx, hR⟩
  have hr5 := hR.rm
  rw [H4.out] at hr5
  have HK5 : Hid (Kn W rb tb c5 w5 ((noRoom 100).addI [0, 0, 0, 0] (pisC ([] ++ [P]))) ko0) := Lib.hid (HK4.out.ext hx (by simp [TA]) (by simp [TA]) hr5)
  clear hx hR hr5 HAD HK4 H4
  generalize pisC ([] ++ [P]) = cs at *
  go_wp2_with fail
  refine (rSetField HK5.out.rm (i := 0) (k := 0) (show 0 < 1 from Nat.one_pos) (show 0 < 4 from Nat.succ_pos 3) 9).mono ?_
  rintro e w6 ⟨rfl, hx, hr⟩
  have HK6 : Hid (Kn W rb tb c5 w6 (kn0 cs) ko0) := Lib.hid (HK5.out.ext hx (ft_ne (by omega)) (ft_ne (by omega)) hr)
  clear hx hr HK5
  go_wp2_with fail
  refine (rSetField_of (0 : Nat) 4 9 (rFieldK HK6.out.rm (i := 0) (show 0 < 1 from Nat.one_pos) 4 (.inr (by exact Int.le_refl 4)))).mono ?_
  rintro e w' ⟨rfl, rfl⟩
  go_wp2_with fail
  refine (show Calls Tryd.prog 12 #[.pointer (some ⟨rb, 0, none⟩), .int .i64 0, .int .i64 0] w6 fun e w' => e = .returned (.tuple #[.int .i32 9, .bool true]) ∧ w6 = w' from rField HK6.out.rm (i := 0) (k := 0) (show 0 < 1 from Nat.one_pos) (show 0 < 4 from Nat.succ_pos 3)).mono ?_
  rintro e w' ⟨rfl, rfl⟩
  have kc := Lib.run_convert_bytes_const (P := Tryd.prog) w6 41 5 #[.int .u8 97, .int .u8 98] 2 2 Tryd.underlying41 Tryd.underlying5
  have kc2 := Lib.run_convert_bytes_const (P := Tryd.prog) (w6.alloc (.cells #[.int .u8 97, .int .u8 98] 5 (2, 3))) 41 5 #[.int .u8 99, .int .u8 100] 2 2 Tryd.underlying41 Tryd.underlying5
  rw [show (w6.alloc (.cells #[.int .u8 97, .int .u8 98] 5 (2, 3))).heap.size = w6.heap.size + 1 by simp] at kc2
  go_wp2_with fail
  clear kc kc2
  obtain ⟨w7, hw7⟩ : ∃ w7, w7 = (w6.alloc (.cells #[.int .u8 97, .int .u8 98] 5 (2, 3))).alloc (.cells #[.int .u8 99, .int .u8 100] 5 (2, 3)) := ⟨_, rfl⟩
  rw [← hw7]
  have hu7 : Upd (fun _ => False) w6 w7 := by rw [hw7]; exact (Upd.alloc _ _ _).trans (Upd.alloc _ _ _) (fun _ h _ => h)
  have hva : Vw w7 (.slice (some ⟨w6.heap.size, 0, none⟩) 2 2) [97, 98] := by
    rw [hw7]; exact (vw_lit w6 _ _ [97, 98] _ 2 2 rfl rfl (by decide) (by decide) (by decide)).upd (Upd.alloc (fun _ => False) _ _) (fun _ _ h => h)
  have hvb : Vw w7 (.slice (some ⟨w6.heap.size + 1, 0, none⟩) 2 2) [99, 100] := by
    have h1 := vw_lit (w6.alloc (.cells #[.int .u8 97, .int .u8 98] 5 (2, 3))) 5 (2, 3) [99, 100] _ 2 2 rfl rfl (by decide) (by decide) (by decide)
    rw [show (w6.alloc (.cells #[.int .u8 97, .int .u8 98] 5 (2, 3))).heap.size = w6.heap.size + 1 by simp] at h1
    rw [hw7]; exact h1
  have HK7 := Lib.hid (HK6.out.made hu7)
  refine (rBegin HK7.out.rm _ _ _ _ hva hvb (by decide) (by decide) (fun k hk => by simp [Value.ownBlock] at hk; rw [← hk, paint_new _ _ _ (by omega)]; omega)).mono ?_
  rintro e w8 ⟨rfl, c8, hx, hr⟩
  have HK8 : Hid (Kn W rb tb c8 w8 (kn1 cs) ko0) := Lib.hid (HK7.out.ext hx (by simp [BT]) (by simp [BT]) hr)
  clear hx hr HK6 HK7 hva hvb hu7 hw7
  go_wp2_with ((refine wpList_make_full w8 rfl _ _ 41 rfl 0 5 i0 (.int .u8 0) 1 Tryd.underlying41 hi0 hz0 hz1 .i64 .i64 (65 : Int) (65 : Int) 65 rfl rfl rfl rfl (by rw [hz2]; omega) (by unfold maxLen; omega) (Nat.zero_le _) ?_))
  intro w9 ho hg
  have hu9 : Upd (fun _ => False) w8 w9 := Upd.grown hg (fun k hk => by cases hk)
  have hv9 : Vw w9 (.slice (some ⟨w8.heap.size, 0, none⟩) 65 65) (zeros 65) := vw_of_row (by
    rw [show (zeros 65).length = 65 by decide]
    refine Eq.mp (congrArg _ ?_) ho
    exact made_zeros 65) (by decide)
  have HK9 := Lib.hid (HK8.out.quiet hu9)
  have HV9 := Lib.hid hv9
  clear ho hg hu9 hv9 HK8
  go_wp2_with fail
  refine (rBegin_no _ _ (zeros 65) [] HV9.out (Vw.nil _) (.inl (by decide))).mono ?_
  rintro e w' ⟨rfl, rfl⟩
  clear HV9
  go_wp2_with fail
  obtain ⟨wa9, hwa⟩ : ∃ wa, wa = w9.alloc (.cells #[.int .i32 3] 21) := ⟨_, rfl⟩
  rw [← hwa]
  have hu : Upd (fun _ => False) w9 wa9 := by rw [hwa]; exact Upd.alloc _ _ _
  have hq : wa9.heap[w9.heap.size]? = some (.cells #[.int .i32 3] 21 (0, 0)) := by rw [hwa]; exact hpTop _ _ _ rfl
  have hk := HK9.out.made hu
  have hs : Calls Tryd.prog 14 #[.pointer (some ⟨rb, 0, none⟩), .pointer (some ⟨tb, 0, none⟩), .int .i64 0, .int .i64 27, .int .i64 4, .int .i64 4, .slice (some ⟨w9.heap.size, 0, none⟩) 1 1] wa9 fun e w' => Served (paint c8 w9 9) wa9 rb (.pointer (some ⟨tb, 0, none⟩)) ⟨3, 36864, kn2 cs⟩ ko1 e w' := by
    have h1 := sv27 hk.rm hk.tr 0 4 4 _ 3 (i32_lit (xs := [3]) hq rfl rfl (show 1 ≤ 100 by omega) (by decide)) (fun k hk => by simp [Value.ownBlock] at hk; rw [← hk, paint_new _ _ _ (Nat.le_refl _)]; exact nR9) (by omega)
    rw [(kn_a cs).1, (kn_a cs).2] at h1
    exact h1
  refine hs.mono ?_
  rintro e w10 hs
  obtain ⟨rfl, c10, hk'⟩ := hk.served hs
  have HK10 := Lib.hid hk'
  clear hwa hu hq hk hs hk' HK9
  go_wp2_with fail
  obtain ⟨wa10, hwa⟩ : ∃ wa, wa = w10.alloc (.cells #[.int .i32 3, .int .i32 1, .int .i32 300] 21) := ⟨_, rfl⟩
  rw [← hwa]
  have hu : Upd (fun _ => False) w10 wa10 := by rw [hwa]; exact Upd.alloc _ _ _
  have hq : wa10.heap[w10.heap.size]? = some (.cells #[.int .i32 3, .int .i32 1, .int .i32 300] 21 (0, 0)) := by rw [hwa]; exact hpTop _ _ _ rfl
  have hk := HK10.out.made hu
  have hs : Calls Tryd.prog 14 #[.pointer (some ⟨rb, 0, none⟩), .pointer (some ⟨tb, 0, none⟩), .int .i64 0, .int .i64 30, .int .i64 0, .int .i64 0, .slice (some ⟨w10.heap.size, 0, none⟩) 3 3] wa10 fun e w' => Served (paint c10 w10 9) wa10 rb (.pointer (some ⟨tb, 0, none⟩)) ⟨0, 36864, kn3 cs⟩ ko2 e w' := by
    have h1 := sv30 hk.rm hk.tr 0 0 0 _ 3 1 300 (i32_lit (xs := [3, 1, 300]) hq rfl rfl (show 3 ≤ 100 by omega) (by decide)) (fun k hk => by simp [Value.ownBlock] at hk; rw [← hk, paint_new _ _ _ (Nat.le_refl _)]; exact nR9)
    rw [kn_b cs] at h1
    exact h1
  refine hs.mono ?_
  rintro e w11 hs
  obtain ⟨rfl, c11, hk'⟩ := hk.served hs
  have HK11 := Lib.hid hk'
  clear hwa hu hq hk hs hk' HK10
  go_wp2_with fail
  obtain ⟨wa11, hwa⟩ : ∃ wa, wa = w11.alloc (.cells #[.int .i32 3, .int .i32 1] 21) := ⟨_, rfl⟩
  rw [← hwa]
  have hu : Upd (fun _ => False) w11 wa11 := by rw [hwa]; exact Upd.alloc _ _ _
  have hq : wa11.heap[w11.heap.size]? = some (.cells #[.int .i32 3, .int .i32 1] 21 (0, 0)) := by rw [hwa]; exact hpTop _ _ _ rfl
  have hk := HK11.out.made hu
  have hs : Calls Tryd.prog 14 #[.pointer (some ⟨rb, 0, none⟩), .pointer (some ⟨tb, 0, none⟩), .int .i64 0, .int .i64 29, .int .i64 0, .int .i64 0, .slice (some ⟨w11.heap.size, 0, none⟩) 2 2] wa11 fun e w' => Served (paint c11 w11 9) wa11 rb (.pointer (some ⟨tb, 0, none⟩)) ⟨44, 36864, kn3 cs⟩ ko3 e w' := by
    have h1 := sv29 hk.rm hk.tr 0 0 0 _ 3 1 (i32_lit (xs := [3, 1]) hq rfl rfl (show 2 ≤ 100 by omega) (by decide)) (fun k hk => by simp [Value.ownBlock] at hk; rw [← hk, paint_new _ _ _ (Nat.le_refl _)]; exact nR9)
    rw [(kn_c cs).1, (kn_c cs).2] at h1
    exact h1
  refine hs.mono ?_
  rintro e w12 hs
  obtain ⟨rfl, c12, hk'⟩ := hk.served hs
  have HK12 := Lib.hid hk'
  clear hwa hu hq hk hs hk' HK11
  go_wp2_with fail
  obtain ⟨wa12, hwa⟩ : ∃ wa, wa = w12.alloc (.cells #[.int .i32 3, .int .i32 0, .int .i32 2, .int .i32 0, .int .i32 2] 21) := ⟨_, rfl⟩
  rw [← hwa]
  have hu : Upd (fun _ => False) w12 wa12 := by rw [hwa]; exact Upd.alloc _ _ _
  have hq : wa12.heap[w12.heap.size]? = some (.cells #[.int .i32 3, .int .i32 0, .int .i32 2, .int .i32 0, .int .i32 2] 21 (0, 0)) := by rw [hwa]; exact hpTop _ _ _ rfl
  have hk := HK12.out.made hu
  have hs : Calls Tryd.prog 14 #[.pointer (some ⟨rb, 0, none⟩), .pointer (some ⟨tb, 0, none⟩), .int .i64 0, .int .i64 31, .int .i64 0, .int .i64 0, .slice (some ⟨w12.heap.size, 0, none⟩) 5 5] wa12 fun e w' => Served (paint c12 w12 9) wa12 rb (.pointer (some ⟨tb, 0, none⟩)) ⟨0, 36864, kn4 cs⟩ ko4 e w' := by
    have h1 := sv31 hk.rm hk.tr 0 0 0 _ 3 0 2 0 2 (i32_lit (xs := [3, 0, 2, 0, 2]) hq rfl rfl (show 5 ≤ 100 by omega) (by decide)) (fun k hk => by simp [Value.ownBlock] at hk; rw [← hk, paint_new _ _ _ (Nat.le_refl _)]; exact nR9)
    rw [kn_d cs] at h1
    exact h1
  refine hs.mono ?_
  rintro e w13 hs
  obtain ⟨rfl, c13, hk'⟩ := hk.served hs
  have HK13 := Lib.hid hk'
  clear hwa hu hq hk hs hk' HK12
  go_wp2_with fail
  obtain ⟨wa13, hwa⟩ : ∃ wa, wa = w13.alloc (.cells #[.int .i32 3, .int .i32 0, .int .i32 2, .int .i32 0, .int .i32 2] 21) := ⟨_, rfl⟩
  rw [← hwa]
  have hu : Upd (fun _ => False) w13 wa13 := by rw [hwa]; exact Upd.alloc _ _ _
  have hq : wa13.heap[w13.heap.size]? = some (.cells #[.int .i32 3, .int .i32 0, .int .i32 2, .int .i32 0, .int .i32 2] 21 (0, 0)) := by rw [hwa]; exact hpTop _ _ _ rfl
  have hk := HK13.out.made hu
  have hs : Calls Tryd.prog 14 #[.pointer (some ⟨rb, 0, none⟩), .pointer (some ⟨tb, 0, none⟩), .int .i64 0, .int .i64 32, .int .i64 0, .int .i64 0, .slice (some ⟨w13.heap.size, 0, none⟩) 5 5] wa13 fun e w' => Served (paint c13 w13 9) wa13 rb (.pointer (some ⟨tb, 0, none⟩)) ⟨1, 36864, kn4 cs⟩ ko5 e w' := by
    have h1 := sv32 hk.rm hk.tr 0 0 0 _ 3 0 2 0 2 (i32_lit (xs := [3, 0, 2, 0, 2]) hq rfl rfl (show 5 ≤ 100 by omega) (by decide)) (fun k hk => by simp [Value.ownBlock] at hk; rw [← hk, paint_new _ _ _ (Nat.le_refl _)]; exact nR9)
    rw [(kn_e cs).1, (kn_e cs).2] at h1
    exact h1
  refine hs.mono ?_
  rintro e w14 hs
  obtain ⟨rfl, c14, hk'⟩ := hk.served hs
  have HK14 := Lib.hid hk'
  clear hwa hu hq hk hs hk' HK13
  go_wp2_with fail
  obtain ⟨wa14, hwa⟩ : ∃ wa, wa = w14.alloc (.cells #[.int .i32 3, .int .i32 0, .int .i32 3] 21) := ⟨_, rfl⟩
  rw [← hwa]
  have hu : Upd (fun _ => False) w14 wa14 := by rw [hwa]; exact Upd.alloc _ _ _
  have hq : wa14.heap[w14.heap.size]? = some (.cells #[.int .i32 3, .int .i32 0, .int .i32 3] 21 (0, 0)) := by rw [hwa]; exact hpTop _ _ _ rfl
  have hk := HK14.out.made hu
  have hs : Calls Tryd.prog 14 #[.pointer (some ⟨rb, 0, none⟩), .pointer (some ⟨tb, 0, none⟩), .int .i64 0, .int .i64 36, .int .i64 2, .int .i64 0, .slice (some ⟨w14.heap.size, 0, none⟩) 3 3] wa14 fun e w' => Served (paint c14 w14 9) wa14 rb (.pointer (some ⟨tb, 0, none⟩)) ⟨0, 36864, kn5 cs⟩ ko6 e w' := by
    have h1 := sv36q hk.rm hk.tr 0 2 0 _ 3 0 3 (i32_lit (xs := [3, 0, 3]) hq rfl rfl (show 3 ≤ 100 by omega) (by decide)) (fun k hk => by simp [Value.ownBlock] at hk; rw [← hk, paint_new _ _ _ (Nat.le_refl _)]; exact nR9) (by decide)
    rw [kn_f cs] at h1
    exact h1
  refine hs.mono ?_
  rintro e w15 hs
  obtain ⟨rfl, c15, hk'⟩ := hk.served hs
  have HK15 := Lib.hid hk'
  clear hwa hu hq hk hs hk' HK14
  go_wp2_with fail
  refine (svNo 28 0 0 0 _ _ [] (by refine ⟨by simp, none, 0, rfl, Nat.le_refl _, by unfold maxLen; omega, .inl rfl⟩) (by decide)).mono ?_
  rintro e w' ⟨rfl, rfl⟩
  go_wp2_with fail
  refine (rTold HK15.out.rm).mono ?_
  rintro e w16 ⟨p, q, rfl, hp, hq, hu⟩
  rw [(kn_g cs).1] at hp
  rw [(kn_g cs).2.1] at hq
  obtain ⟨pa, pc, rfl, -, -⟩ := hp.slice
  obtain ⟨qa, qc, rfl, -, -⟩ := hq.slice
  have HK16 := Lib.hid (HK15.out.quiet hu)
  have HQ16 := Lib.hid hq
  clear hp hq hu HK15
  obtain ⟨hb, hh, hep, hok⟩ := rHeap HK16.out.rm
  have HH := Lib.hid hh
  have HEP := Lib.hid hep
  clear hh hep hok
  go_wp2_with fail
  refine HH.out.mono ?_
  rintro e w' ⟨rfl, rfl⟩
  go_wp2_with fail
  refine HH.out.mono ?_
  rintro e w' ⟨rfl, rfl⟩
  go_wp2_with fail
  refine (show Calls Tryd.prog 17 #[.pointer (some ⟨hb, 0, none⟩), .int .i64 3] w16 fun e w' => ∃ d, e = .returned (.tuple #[aval ((kn5 cs).hp.arrs.getD 2 default) d, .bool true]) ∧ New w16 d ((kn5 cs).hp.arrs.getD 2 default).data w' from pArray HEP.out (i := 2) (by rw [(kn_g cs).2.2.2]; omega) (by rw [(kn_g cs).2.2.2]; omega)).mono ?_
  rintro e w17 ⟨d, rfl, hn⟩
  obtain ⟨da, dc, rfl⟩ := ownsRow_slice hn.1
  have HK17 := Lib.hid (HK16.out.quiet hn.2.1)
  have HQ17 := Lib.hid (HQ16.out.upd hn.2.1 (fun _ _ h => h))
  obtain ⟨a0, a1, a2, a3⟩ := kn_h cs
  rw [show aval ((kn5 cs).hp.arrs.getD 2 default) (.slice da ((kn5 cs).hp.arrs.getD 2 default).data.length dc) = .agg #[.int .i64 0, .int .i64 4, .int .i64 0, .bool true, .slice da ((kn5 cs).hp.arrs.getD 2 default).data.length dc] by unfold aval; rw [a0, a1, a2, a3]]
  clear hn a0 a1 a2 a3 HK16 HQ16 HEP HH
  generalize ((kn5 cs).hp.arrs.getD 2 default).data.length = dl
  obtain ⟨L, hL, h8⟩ := ko_len
  have HK18 := Lib.hid (fun u (hu : Upd (fun _ => False) w17 u) => HK17.out.quiet hu)
  have HQ18 := Lib.hid (fun u (hu : Upd (fun _ => False) w17 u) => run_str (P := Tryd.prog) Tryd.underlying41 Tryd.underlying5 Tryd.underlying9 (HQ17.out.upd hu (fun _ _ h => h)))
  have HTL : Hid (∀ u, Upd (fun _ => False) w17 u → Calls Tryd.prog 18 #[.pointer (some ⟨tb, 0, none⟩)] u fun e w' => e = .returned (.int .i64 8) ∧ u = w') := Lib.hid (fun u hu => by
    have h1 := (HK18.out u hu).tr
    rw [hL] at h1
    obtain ⟨tb', he, h2⟩ := h1
    simp at he
    subst he
    have h3 := tLen h2
    rw [h8] at h3
    exact h3)
  have HCT : Hid (∀ u, Upd (fun _ => False) w17 u → Calls Tryd.prog 20 #[.pointer (some ⟨rb, 0, none⟩)] u fun e w' => e = .returned (.int .i64 1) ∧ u = w') := Lib.hid (fun u hu => by
    have h1 := rCount (HK18.out u hu).rm
    rw [(kn_g cs).2.2.1] at h1
    exact h1)
  clear hL h8
  obtain ⟨w18, hw18⟩ : ∃ w18, w18 = w17.alloc (.cells #[.int .i64 0, .int .i64 4, .int .i64 0, .bool true, .slice da dl dc] 50) := ⟨_, rfl⟩
  have hu18 : Upd (fun _ => False) w17 w18 := by rw [hw18]; exact Upd.alloc _ _ _
  have kq : (convert 41 9 (.slice qa 3 qc)).run Tryd.prog w18 = .ok (.string { data := #[99, 100, 0] }) w18 := HQ18.out w18 hu18
  obtain ⟨e0, e1, e2, e3, e4, -⟩ := five (show w18.heap[w17.heap.size]? = some (.cells #[.int .i64 0, .int .i64 4, .int .i64 0, .bool true, .slice da dl dc] 50 (0, 0)) by rw [hw18]; exact hpTop _ _ _ rfl)
  have HTL := Lib.hid (HTL.out w18 hu18)
  have HCT := Lib.hid (HCT.out w18 hu18)
  have HUP := Lib.hid (HK17.out.up.trans hu18 (fun _ h _ => h))
  rw [hw18] at kq e1 e2 e3
  have HW18 := Lib.hid hw18
  clear hu18 e0 e4 hw18
  go_wp2_with fail
  rw [← HW18.out]
  refine HTL.out.mono ?_
  rintro e w' ⟨rfl, rfl⟩
  go_wp2_with fail
  refine (rServes 31 w18).mono ?_
  rintro e w' ⟨rfl, rfl⟩
  rw [show servesP 31 = 5 from rfl]
  go_wp2_with fail
  refine (rServes 6 w18).mono ?_
  rintro e w' ⟨rfl, rfl⟩
  rw [show servesP 6 = -1 from rfl]
  go_wp2_with fail
  refine HCT.out.mono ?_
  rintro e w' ⟨rfl, rfl⟩
  go_wp2_with fail
  go_ret
  exact ⟨rfl, HUP.out⟩
end Go.Proofs.YtdmadfahgkikkaaDoor

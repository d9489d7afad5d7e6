/- RoomCopies: what is copied is as if it were done all at once. -/
import Derived.Test.YtmfiamoeagnmmaaQq
import Derived.Test.YtmfiamoeagnmmaaQp
namespace Go.Proofs.Ytmfiamoeagnmmaa
open Go.RowKit Go.Lib Go.ChangeShapes Go.WideShapes Go.Deep
set_option linter.unusedVariables false
set_option linter.unusedSimpArgs false

theorem setFrom_eq {α : Type} : ∀ (vs xs : List α) (o : Nat), o + vs.length ≤ xs.length → setFrom xs o vs = xs.take o ++ vs ++ xs.drop (o + vs.length)
  | [], xs, o, _ => by
    show xs = _
    simp
  | v :: r, xs, o, h => by
    show setFrom (xs.set o v) (o + 1) r = _
    simp only [List.length_cons] at h
    rw [setFrom_eq r (xs.set o v) (o + 1) (by simp; omega)]
    have h1 : (xs.set o v).take (o + 1) = xs.take o ++ [v] := by
      rw [List.take_add_one, List.take_set_of_le (by omega), List.getElem?_set]
      simp [show o < xs.length by omega]
    have h2 : (xs.set o v).drop (o + 1 + r.length) = xs.drop (o + (v :: r).length) := by
      rw [List.drop_set_of_lt (by omega)]
      simp only [List.length_cons]
      congr 1
      omega
    rw [h1, h2]
    simp
theorem str_app (xs ys : List Int) : strOfNums xs ++ strOfNums ys = strOfNums (xs ++ ys) := by
  apply ByteArray.ext
  apply Array.toList_inj.1
  rw [ByteArray.data_append, Array.toList_append, strOfNums_data, strOfNums_data, strOfNums_data, List.map_append]
def begun (s : Int) (x y : List Int) : RmM := beginM (noRoom s) x y
theorem begun_arrs (s : Int) (x y : List Int) : (begun s x y).hp.arrs = [⟨-1, 3, 0, false, x⟩, ⟨-1, 4, 0, false, y⟩] := rfl
theorem rng_pub (s : Int) (x y : List Int) (a n : Nat) (ap : Int) (h : a + n ≤ x.length) : rngP (begun s x y).hp.arrs 1 a n ap = 36864 := by
  rw [begun_arrs]
  simp [rngP, chkP, lenP, thereB, hasB, mayB, inB, List.getD]
  omega
theorem rng_sec (s : Int) (x y : List Int) (a n : Nat) (ap : Int) (h : a + n ≤ y.length) : rngP (begun s x y).hp.arrs 2 a n ap = 36864 := by
  rw [begun_arrs]
  simp [rngP, chkP, lenP, thereB, hasB, mayB, inB, List.getD]
  omega
set_option maxRecDepth 100000 in
set_option maxHeartbeats 4000000 in
theorem roomCopies_walk (W : World) (v : Value) (ys0 : List Int) (to0 from0 n0 : Int) (hv : Vw W v ys0) : Calls Try.prog 5 #[v, .int .i64 to0, .int .i64 from0, .int .i64 n0] W fun e w' => e = .returned (.bool true) ∧ Upd (fun _ => False) W w' := by
  have HN := Lib.hid (rNewRoom zero0 100 W (by omega) (by omega))
  have HV := Lib.hid hv
  obtain ⟨va, vc, rfl, -, -⟩ := hv.slice
  clear hv
  go_enter Try.func5, Try.ntmps5
  go_wp2_with fail
  refine HN.out.mono ?_
  rintro e w1 ⟨rb, c1, rfl, hx, hr⟩
  obtain ⟨hu1, hc1⟩ := hx.upW (Upd.refl _ W) (fun _ _ => rfl) (fun h => h)
  have HU1 := Lib.hid hu1
  have HC1 := Lib.hid hc1
  have HR1 := Lib.hid hr
  clear hx hr hu1 hc1 HN
  go_wp2_with fail
  refine (few w1 _ ys0 64 (HV.out.upd HU1.out (fun _ _ h => h)) (.inr (by omega)) (by omega) (by omega)).mono ?_
  rintro e w2 ⟨pv, rfl, hn⟩
  obtain ⟨ys, hys⟩ : ∃ ys, ys = ys0.take (64 : Int).toNat := ⟨_, rfl⟩
  rw [← hys] at hn
  have hyl : ys.length ≤ 64 := by rw [hys, List.length_take]; omega
  have hyb : ∀ y ∈ ys, 0 ≤ y ∧ y ≤ 255 := fun y hy => HV.out.1 y (by rw [hys] at hy; exact List.mem_of_mem_take hy)
  clear hys
  have HE2 := Lib.hid (Ext.made None0 8 (c := c1) hn.2.1)
  have HV2 := Lib.hid (hn.vw hyb)
  have HCV := Lib.hid (show ∀ k, pv.ownBlock = some k → paint c1 w1 8 k = 8 from fun k hk => paint_new _ _ _ (hn.2.2 k hk))
  obtain ⟨pa, pc, rfl, hpc1, hpc2⟩ := HV2.out.slice
  obtain ⟨hu2, hc2⟩ := HE2.out.upW HU1.out HC1.out (fun h => h)
  have HU2 := Lib.hid hu2
  have HC2 := Lib.hid hc2
  have HYB := Lib.hid hyb
  have HYL := Lib.hid hyl
  clear hn hu2 hc2 hyb
  unfold maxLen at hpc2
  go_wp2_with fail
  refine (known12 w2).mono ?_
  rintro e w3 ⟨rfl, hu3⟩
  have HE3 := Lib.hid ((HE2.out).trans (Ext.quiet (paint c1 w1 8) hu3) (fun _ h => h))
  have HU3 := Lib.hid (HU2.out.trans hu3 (fun _ h _ => h))
  have hr3 := HR1.out.ext HE3.out (fun _ _ h => h)
  have HV3 := Lib.hid (HV2.out.upd hu3 (fun _ _ h => h))
  obtain ⟨hb, hh, -, -⟩ := rHeap hr3
  have HHB := Lib.hid hh
  have HR3 := Lib.hid hr3
  clear hu3 hh hr3
  go_wp2_with fail
  refine HHB.out.mono ?_
  rintro e w' ⟨rfl, rfl⟩
  go_wp2_with fail
  refine (rBegin HR3.out (.slice pa ys.length pc) (.slice none 0 0) ys [] HV3.out (Vw.nil _) HYL.out (by simp) (by simp [Value.ownBlock])).mono ?_
  rintro e w4 ⟨rfl, c4, hx4, hr4⟩
  have hnb : ∀ k, (Value.slice pa ys.length pc).ownBlock = some k → ¬ BT (paint c1 w1 8 k) := fun k hk => by rw [HCV.out k hk]; simp [BT]
  have HV4 := Lib.hid (HV3.out.upd hx4.upd hnb)
  have HCV4 := Lib.hid (show ∀ k, (Value.slice pa ys.length pc).ownBlock = some k → 0 < ys.length → c4 k = 8 from fun k hk h0 => by
    have hlt : k < w3.heap.size := by
      rcases HV3.out.2 with ⟨_, h⟩ | ⟨g, off, cc, he, -, -, hcell⟩
      · rw [h] at h0; simp at h0
      · simp at he
        obtain ⟨rfl, rfl⟩ := he
        simp [Value.ownBlock] at hk
        subst hk
        exact World.block_lt_of_cell? w3 _ (hcell 0 h0)
    rw [hx4.same k hlt]; exact HCV.out k hk)
  obtain ⟨hu4, hc4⟩ := hx4.upW HU3.out HC2.out (by simp [BT])
  have HU4 := Lib.hid hu4
  have HC4 := Lib.hid hc4
  have HR4 := Lib.hid (show Rm c4 w4 rb (begun 100 ys []) from hr4)
  clear hx4 hr4 hu4 hc4 hnb
  obtain ⟨L, hL⟩ : ∃ L : Nat, L = ys.length := ⟨_, rfl⟩
  have hw1 : IntKind.i64.wrap ((ys.length : Int) + 1) = (ys.length : Int) + 1 := IntWalk.i64_in _ (by omega)
  clear hL
  go_wp2_with fail
  refine (hPick n0 ((ys.length : Int) + 1) w4 (by omega) (by omega)).mono ?_
  rintro e w' ⟨rfl, rfl⟩
  obtain ⟨n, hn, hn2⟩ : ∃ n : Nat, n0 % ((ys.length : Int) + 1) = (n : Int) ∧ n ≤ ys.length := by
    have h1 := Int.emod_nonneg n0 (show ((ys.length : Int) + 1) ≠ 0 by omega)
    have h2 := Int.emod_lt_of_pos n0 (show 0 < (ys.length : Int) + 1 by omega)
    exact ⟨(n0 % ((ys.length : Int) + 1)).toNat, by omega, by omega⟩
  rw [hn]
  have hw2 : IntKind.i64.wrap ((ys.length : Int) - (n : Int)) = (ys.length : Int) - (n : Int) := IntWalk.i64_in _ (by omega)
  have hw3 : IntKind.i64.wrap ((ys.length : Int) - (n : Int) + 1) = (ys.length : Int) - (n : Int) + 1 := IntWalk.i64_in _ (by omega)
  clear hn
  go_wp2_with fail
  refine (hPick to0 ((ys.length : Int) - (n : Int) + 1) w4 (by omega) (by omega)).mono ?_
  rintro e w' ⟨rfl, rfl⟩
  obtain ⟨t, hn, ht2⟩ : ∃ t : Nat, to0 % ((ys.length : Int) - (n : Int) + 1) = (t : Int) ∧ t + n ≤ ys.length := by
    have h1 := Int.emod_nonneg to0 (show ((ys.length : Int) - (n : Int) + 1) ≠ 0 by omega)
    have h2 := Int.emod_lt_of_pos to0 (show 0 < (ys.length : Int) - (n : Int) + 1 by omega)
    exact ⟨(to0 % ((ys.length : Int) - (n : Int) + 1)).toNat, by omega, by omega⟩
  rw [hn]
  clear hn
  go_wp2_with fail
  refine (hPick from0 ((ys.length : Int) - (n : Int) + 1) w4 (by omega) (by omega)).mono ?_
  rintro e w' ⟨rfl, rfl⟩
  obtain ⟨f, hn, hf2⟩ : ∃ f : Nat, from0 % ((ys.length : Int) - (n : Int) + 1) = (f : Int) ∧ f + n ≤ ys.length := by
    have h1 := Int.emod_nonneg from0 (show ((ys.length : Int) - (n : Int) + 1) ≠ 0 by omega)
    have h2 := Int.emod_lt_of_pos from0 (show 0 < (ys.length : Int) - (n : Int) + 1 by omega)
    exact ⟨(from0 % ((ys.length : Int) - (n : Int) + 1)).toNat, by omega, by omega⟩
  rw [hn]
  clear hn
  have hwt : IntKind.i32.wrap (t : Int) = (t : Int) := by rw [IntKind.wrap_i32]; omega
  have hwf : IntKind.i32.wrap (f : Int) = (f : Int) := by rw [IntKind.wrap_i32]; omega
  have hwn : IntKind.i32.wrap (n : Int) = (n : Int) := by rw [IntKind.wrap_i32]; omega
  obtain ⟨wa, hwa⟩ : ∃ wa, wa = w4.alloc (.cells #[.int .i32 1, .int .i32 t, .int .i32 1, .int .i32 f, .int .i32 n] 21) := ⟨_, rfl⟩
  have ha1 : Upd (fun _ => False) w4 wa := by rw [hwa]; exact Upd.alloc _ _ _
  have hqa : wa.heap[w4.heap.size]? = some (.cells #[.int .i32 1, .int .i32 t, .int .i32 1, .int .i32 f, .int .i32 n] 21 (0, 0)) := by rw [hwa]; exact hpTop _ _ _ rfl
  have HE5 := Lib.hid (Ext.made None0 9 (c := c4) ha1)
  have hre : reachP (begun 100 ys []).hp.arrs 0 [⟨1, t, n⟩, ⟨1, f, n⟩] = 36864 := by
    simp only [reachP]
    rw [if_pos (rng_pub 100 ys [] t n 0 ht2), if_pos (rng_pub 100 ys [] f n 0 hf2)]
  have HS1 : Hid (Calls Try.prog 12 #[.pointer (some ⟨rb, 0, none⟩), .pointer none, .int .i64 0, .int .i64 31, .int .i64 0, .int .i64 0, .slice (some ⟨w4.heap.size, 0, none⟩) 5 5] wa fun e w' => Served (paint c4 w4 9) wa rb (.pointer none) ⟨0, 36864, copyM (begun 100 ys []) 0 ⟨1, t, n⟩ ⟨1, f, n⟩⟩ none e w') := Lib.hid (by
    have := sv31 (HR4.out.ext HE5.out (fun _ _ h => h)) (show TrO (paint c4 w4 9) wa (.pointer none) none from rfl) 0 0 0 _ 1 t 1 f n (i32_lit hqa rfl rfl (show 5 ≤ 100 by omega) (by simp; omega)) (fun k hk => by simp [Value.ownBlock] at hk; rw [← hk, paint_new _ _ _ (Nat.le_refl _)]; exact nR9)
    rw [hre] at this
    exact this)
  have HCM : Hid ((copyM (begun 100 ys []) 0 ⟨1, t, n⟩ ⟨1, f, n⟩).hp.arrs = [⟨-1, 3, 0, false, setFrom ys t ((ys.drop f).take n)⟩, ⟨-1, 4, 0, false, []⟩]) := Lib.hid (by
    unfold copyM
    rw [if_pos hre]
    rfl)
  have HWA := Lib.hid hwa
  have HV5 := Lib.hid (HV4.out.upd ha1 (fun _ _ h => h))
  clear hwa hqa hre
  go_wp2_with fail
  rw [← HWA.out]
  refine HS1.out.mono ?_
  rintro e w5 ⟨rfl, c5, hx5, hr5, -⟩
  have hv6 : Vw w5 (.slice pa ys.length pc) ys := by
    by_cases h0 : 0 < ys.length
    · refine HV5.out.upd hx5.upd (fun k hk hk' => ?_)
      have hlt : k < w4.heap.size := by
        rcases HV4.out.2 with ⟨_, h⟩ | ⟨g, off, cc, he, -, -, hcell⟩
        · rw [h] at h0; simp at h0
        · simp at he
          obtain ⟨rfl, rfl⟩ := he
          simp [Value.ownBlock] at hk
          subst hk
          exact World.block_lt_of_cell? w4 _ (hcell 0 h0)
      rw [paint_old _ _ _ hlt, HCV4.out k hk h0] at hk'
      simp [TR] at hk'
    · have : ys = [] := List.eq_nil_of_length_eq_zero (by omega)
      subst this
      rcases HV5.out.2 with ⟨⟨a, he⟩, _⟩ | ⟨g, off, cc, he, h1, h2, _⟩
      · exact ⟨by simp, .inl ⟨⟨a, he⟩, rfl⟩⟩
      · exact ⟨by simp, .inr ⟨g, off, cc, he, h1, h2, by simp⟩⟩
  obtain ⟨hua, hca⟩ := HE5.out.upW HU4.out HC4.out (fun h => h)
  obtain ⟨hu5, -⟩ := hx5.upW hua hca (by simp [TR])
  obtain ⟨hb5, hh5, hep5, hok5⟩ := rHeap hr5
  have HV6 := Lib.hid hv6
  have HU5 := Lib.hid hu5
  have HHB5 := Lib.hid hh5
  have HAR : Hid (Calls Try.prog 14 #[.pointer (some ⟨hb5, 0, none⟩), .int .i64 1] w5 fun e w' => ∃ d, e = .returned (.tuple #[aval ⟨-1, 3, 0, false, setFrom ys t ((ys.drop f).take n)⟩ d, .bool true]) ∧ New w5 d (setFrom ys t ((ys.drop f).take n)) w') := Lib.hid (by
    have := pArray hep5 (i := 0) (by rw [HCM.out]; simp) (by rw [HCM.out]; simp)
    rw [HCM.out] at this
    exact this)
  have HEQ : Hid (setFrom ys t ((ys.drop f).take n) = ys.take t ++ (ys.drop f).take n ++ ys.drop (t + n)) := Lib.hid (by
    have hl : ((ys.drop f).take n).length = n := by rw [List.length_take, List.length_drop]; omega
    rw [setFrom_eq _ _ _ (by rw [hl]; omega), hl])
  clear hx5 hr5 hua hca hu5 hh5 hep5 hok5 hv6 HS1
  go_wp2_with fail
  refine HHB5.out.mono ?_
  rintro e w' ⟨rfl, rfl⟩
  go_wp2_with fail
  refine HAR.out.mono ?_
  rintro e w6 ⟨d, rfl, hn⟩
  obtain ⟨da, dc, rfl⟩ := ownsRow_slice hn.1
  have hdb : ∀ y ∈ setFrom ys t ((ys.drop f).take n), 0 ≤ y ∧ y ≤ 255 := setFrom_byte _ _ _ HYB.out (fun y hy => HYB.out y (List.mem_of_mem_drop (List.mem_of_mem_take hy)))
  have HVD := Lib.hid (hn.vw hdb)
  have HU6 := Lib.hid (HU5.out.trans hn.2.1 (fun _ h _ => h))
  have HV6b := Lib.hid (HV6.out.upd hn.2.1 (fun _ _ h => h))
  obtain ⟨D, hD⟩ : ∃ D, D = setFrom ys t ((ys.drop f).take n) := ⟨_, rfl⟩
  rw [← hD] at HVD HEQ ⊢
  clear hn hdb hD
  simp only [aval]
  obtain ⟨w7, hw7⟩ : ∃ w7, w7 = w6.alloc (.cells #[.int .i64 (-1), .int .i64 3, .int .i64 0, .bool false, .slice da D.length dc] 42) := ⟨_, rfl⟩
  have hu7 : Upd (fun _ => False) w6 w7 := by rw [hw7]; exact Upd.alloc _ _ _
  have hq7 : w7.heap[w6.heap.size]? = some (.cells #[.int .i64 (-1), .int .i64 3, .int .i64 0, .bool false, .slice da D.length dc] 42 (0, 0)) := by rw [hw7]; exact hpTop _ _ _ rfl
  have HV7 := Lib.hid (HV6b.out.upd hu7 (fun _ _ h => h))
  have HVD7 := Lib.hid (HVD.out.upd hu7 (fun _ _ h => h))
  have HQ7 := Lib.hid hq7
  have HU7 := Lib.hid (HU6.out.trans hu7 (fun _ h _ => h))
  have HW7 := Lib.hid hw7
  clear hu7 hq7 hw7
  obtain ⟨e, hfe⟩ : ∃ e : Nat, e = f + n := ⟨_, rfl⟩
  obtain ⟨g, htg⟩ : ∃ g : Nat, g = t + n := ⟨_, rfl⟩
  have hwf2 : IntKind.i64.wrap ((f : Int) + (n : Int)) = (e : Int) := by rw [hfe, Int.natCast_add]; exact IntWalk.i64_in _ (by omega)
  have hwt2 : IntKind.i64.wrap ((t : Int) + (n : Int)) = (g : Int) := by rw [htg, Int.natCast_add]; exact IntWalk.i64_in _ (by omega)
  have HFE := Lib.hid hfe
  have HTG := Lib.hid htg
  rw [← htg] at HEQ
  clear hfe htg
  go_upto_region 10 with fail
  rw [← HW7.out]
  have HSA := Lib.hid (fun u (hu : Upd (fun _ => False) w7 u) => run_str (P := Try.prog) Try.underlying31 Try.underlying5 Try.underlying9 ((HV7.out.upd hu (fun _ _ h => h)).take rfl t (by omega)))
  have HSD := Lib.hid (fun u (hu : Upd (fun _ => False) w7 u) => run_str (P := Try.prog) Try.underlying31 Try.underlying5 Try.underlying9 (HVD7.out.upd hu (fun _ _ h => h)))
  have HSB : Hid (∀ u, Upd (fun _ => False) w7 u → ∀ a', ((pc = f ∧ a' = pa) ∨ (pc ≠ f ∧ a' = pa.map (·.add f))) → (convert 31 9 (.slice a' (e - f) (pc - f))).run Try.prog u = .ok (.string (strOfNums ((ys.drop f).take n))) u) := Lib.hid (fun u hu a' ha => by
    have h := vw_cut (HV7.out.upd hu (fun _ _ h => h)) f n hf2 ha
    rw [show n = e - f by rw [HFE.out]; omega] at h ⊢
    exact run_str (P := Try.prog) Try.underlying31 Try.underlying5 Try.underlying9 h)
  have HSC : Hid (∀ u, Upd (fun _ => False) w7 u → ∀ a', ((pc = g ∧ a' = pa) ∨ (pc ≠ g ∧ a' = pa.map (·.add g))) → (convert 31 9 (.slice a' (ys.length - g) (pc - g))).run Try.prog u = .ok (.string (strOfNums (ys.drop g))) u) := Lib.hid (fun u hu a' ha => by
    have h := vw_cut (HV7.out.upd hu (fun _ _ h => h)) g (ys.length - g) (by rw [HTG.out]; omega) ha
    rw [List.take_of_length_le (by simp)] at h
    exact run_str (P := Try.prog) Try.underlying31 Try.underlying5 Try.underlying9 h)
  have hsz1 : (strOfNums (ys.take t)).size ≤ 64 := by rw [strOfNums_size, List.length_take]; omega
  have hsz2 : (strOfNums ((ys.drop f).take n)).size ≤ 64 := by rw [strOfNums_size, List.length_take, List.length_drop]; omega
  have hsz3 : (strOfNums (ys.drop g)).size ≤ 64 := by rw [strOfNums_size, List.length_drop]; omega
  have hD2 : strOfNums D = strOfNums (ys.take t) ++ strOfNums ((ys.drop f).take n) ++ strOfNums (ys.drop g) := by rw [HEQ.out, str_app, str_app]
  rw [hD2] at HSD
  clear hD2 HEQ
  generalize strOfNums (ys.take t) = sA at *
  generalize strOfNums ((ys.drop f).take n) = sB at *
  generalize strOfNums (ys.drop g) = sC at *
  have hc1 : ¬ (9223372036854775807 < sA.size + sB.size) := by omega
  have hc2 : ¬ (9223372036854775807 < sA.size + sB.size + sC.size) := by omega
  have HDW := Lib.hid (Upd.drew (fun _ => False) w7)
  obtain ⟨-, -, -, -, q4, -⟩ := five (hpBlk HDW.out HQ7.out (fun h => h))
  have hsD := HSD.out _ HDW.out
  clear HSD
  have i1 : (0 : Int) ≤ (t : Int) := Int.natCast_nonneg _
  have i2 : (0 : Int) ≤ (f : Int) := Int.natCast_nonneg _
  have i3 : (0 : Int) ≤ (g : Int) := Int.natCast_nonneg _
  have i4 : (0 : Int) ≤ (e : Int) := Int.natCast_nonneg _
  have i5 : (f : Int) ≤ (e : Int) := by rw [HFE.out]; omega
  have i6 : (e : Int) ≤ (pc : Int) := by rw [HFE.out]; omega
  have i7 : (t : Int) ≤ (pc : Int) := by omega
  have i8 : (g : Int) ≤ (ys.length : Int) := by rw [HTG.out]; omega
  have i9 : (ys.length : Int) ≤ (pc : Int) := by omega
  by_cases g1 : pc = f
  · by_cases g2 : pc = g
    · as_aux_lemma =>
      obtain rfl : e = f := by omega
      obtain rfl := g1
      obtain rfl := g2
      have hB := HSB.out _ HDW.out _ (.inl ⟨rfl, rfl⟩)
      have hC := HSC.out _ HDW.out _ (.inl ⟨rfl, rfl⟩)
      rw [Nat.sub_self] at hB
      rw [Nat.sub_self, show ys.length - pc = 0 by omega] at hC
      obtain rfl : sB = sC := by simpa using hB.symm.trans hC
      have hHH := And.intro (HSA.out _ HDW.out) (And.intro hB hC)
      have HHH := Lib.hid hHH
      clear hB hC hHH HSA HSB HSC
      go_region_held3 (fun w' => (convert 31 9 (.slice pa t pc)).run Try.prog w' = .ok (.string sA) w' ∧ (convert 31 9 (.slice pa 0 0)).run Try.prog w' = .ok (.string sB) w' ∧ (convert 31 9 (.slice pa 0 0)).run Try.prog w' = .ok (.string sB) w') (first
        | with_reducible exact HHH.out) (fail)
      all_goals
        go_wp2_with fail
        go_ret
        exact ⟨rfl, HU7.out.trans HDW.out (fun _ h _ => h)⟩
    · as_aux_lemma =>
      obtain rfl : e = f := by omega
      obtain rfl := g1
      have hB := HSB.out _ HDW.out _ (.inl ⟨rfl, rfl⟩)
      have hC := HSC.out _ HDW.out _ (.inr ⟨g2, rfl⟩)
      rw [Nat.sub_self] at hB
      have hHH := And.intro (HSA.out _ HDW.out) (And.intro hB hC)
      have HHH := Lib.hid hHH
      clear hB hC hHH HSA HSB HSC
      go_region_held3 (fun w' => (convert 31 9 (.slice pa t pc)).run Try.prog w' = .ok (.string sA) w' ∧ (convert 31 9 (.slice pa 0 0)).run Try.prog w' = .ok (.string sB) w' ∧ (convert 31 9 (.slice (pa.map (fun x => x.add g)) (ys.length - g) (pc - g))).run Try.prog w' = .ok (.string sC) w') (first
        | with_reducible exact HHH.out) (fail)
      all_goals
        go_wp2_with fail
        go_ret
        exact ⟨rfl, HU7.out.trans HDW.out (fun _ h _ => h)⟩
  · by_cases g2 : pc = g
    · as_aux_lemma =>
      obtain rfl := g2
      have hB := HSB.out _ HDW.out _ (.inr ⟨g1, rfl⟩)
      have hC := HSC.out _ HDW.out _ (.inl ⟨rfl, rfl⟩)
      rw [Nat.sub_self, show ys.length - pc = 0 by omega] at hC
      have hHH := And.intro (HSA.out _ HDW.out) (And.intro hB hC)
      have HHH := Lib.hid hHH
      clear hB hC hHH HSA HSB HSC
      go_region_held3 (fun w' => (convert 31 9 (.slice pa t pc)).run Try.prog w' = .ok (.string sA) w' ∧ (convert 31 9 (.slice (pa.map (fun x => x.add f)) (e - f) (pc - f))).run Try.prog w' = .ok (.string sB) w' ∧ (convert 31 9 (.slice pa 0 0)).run Try.prog w' = .ok (.string sC) w') (first
        | with_reducible exact HHH.out) (fail)
      all_goals
        go_wp2_with fail
        go_ret
        exact ⟨rfl, HU7.out.trans HDW.out (fun _ h _ => h)⟩
    · as_aux_lemma =>
      have hB := HSB.out _ HDW.out _ (.inr ⟨g1, rfl⟩)
      have hC := HSC.out _ HDW.out _ (.inr ⟨g2, rfl⟩)
      have hHH := And.intro (HSA.out _ HDW.out) (And.intro hB hC)
      have HHH := Lib.hid hHH
      clear hB hC hHH HSA HSB HSC
      go_region_held3 (fun w' => (convert 31 9 (.slice pa t pc)).run Try.prog w' = .ok (.string sA) w' ∧ (convert 31 9 (.slice (pa.map (fun x => x.add f)) (e - f) (pc - f))).run Try.prog w' = .ok (.string sB) w' ∧ (convert 31 9 (.slice (pa.map (fun x => x.add g)) (ys.length - g) (pc - g))).run Try.prog w' = .ok (.string sC) w') (first
        | with_reducible exact HHH.out) (fail)
      all_goals
        go_wp2_with fail
        go_ret
        exact ⟨rfl, HU7.out.trans HDW.out (fun _ h _ => h)⟩
theorem roomCopies_below (W : World) (v : Value) (ys0 : List Int) (to0 from0 n0 : Int) (hv : Vw W v ys0) : Calls Try.prog 5 #[v, .int .i64 to0, .int .i64 from0, .int .i64 n0] W fun e w' => e = .returned (.bool true) ∧ Below W.heap.size W w' :=
  (roomCopies_walk W v ys0 to0 from0 n0 hv).mono fun e w' ⟨h1, h2⟩ => ⟨h1, h2.below (Nat.le_refl _) (fun _ h => h.elim)⟩
end Go.Proofs.Ytmfiamoeagnmmaa

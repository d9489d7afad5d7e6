/- HeapPlays: the walk (begun). -/
import Derived.Test.YteapemjkfncbjaaHz
import Derived.Deep.QuietTactic
namespace Go.Proofs.Yteapemjkfncbjaa
open Go.RowKit Go.Lib Go.ChangeShapes Go.WideShapes Go.Deep
set_option linter.unusedVariables false
set_option linter.unusedSimpArgs false

/-- what holds ahead of each step -/
def HP8 (W wr : World) (b c : Nat) (K : Nat → Prop) (m : HpM) (k : Nat) : Prop :=
  Both K W wr b c m ∧ m.arrs.length ≤ k + 2 ∧ okL m.arrs ∧ 64 ≤ m.size ∧ m.size ≤ 463
theorem two_ok (s : Int) : okL (two s).arrs := by
  refine ⟨Nat.le_refl _, fun j hj => ?_, fun a ha => ?_⟩
  · rcases (show j = 0 ∨ j = 1 by omega) with rfl | rfl <;> rfl
  · simp [two] at ha
    rcases ha with rfl | rfl <;> simp
set_option maxRecDepth 100000 in
set_option maxHeartbeats 8000000 in
theorem heapPlays_walk (W : World) (v : Value) (L : List St8) (size0 : Int) (hL : StsAt W v L) : Calls Try.prog 3 #[.int .i64 size0, v] W fun e w' => e = .returned (.bool true) ∧ Upd (fun _ => False) W w' := by
  obtain ⟨la, lc, rfl⟩ := hL.slice
  have HL := Lib.hid hL
  have hlm : L.length ≤ maxLen := by
    rcases hL with ⟨_, rfl⟩ | ⟨g, off, c, _, h1, h2, _⟩
    · simp
    · omega
  clear hL
  unfold maxLen at hlm
  obtain ⟨i0, hi, hz0, hz1, hz2⟩ := info_parts b8Info
  obtain ⟨sz, hsz, hsz2⟩ : ∃ sz, sz = 64 + size0 % 400 ∧ (64 ≤ sz ∧ sz ≤ 463) := ⟨_, rfl, by omega⟩
  have hws : IntKind.i64.wrap (64 + size0 % 400) = sz := by rw [hsz]; exact IntWalk.i64_in _ (by omega)
  clear hsz
  go_enter Try.func3, Try.ntmps3
  go_wp2_with fail
  refine (hPick size0 400 W (by omega) (by omega)).mono ?_
  rintro e w' ⟨rfl, rfl⟩
  go_wp2_with fail
  refine (oNew (K := Free) (Upd.refl _ W) (fun _ h => h.elim) sz (by omega) (by omega)).mono ?_
  rintro e w1 ⟨b, rfl, ho, -⟩
  have H1 := Lib.hid ho
  clear ho hws
  go_wp2_with fail
  refine (known8 w1 w1 (Upd.refl _ _)).mono ?_
  rintro e w2 ⟨rfl, hu⟩
  have H2 := Lib.hid (H1.out.quiet hu).own
  clear hu
  go_wp2_with fail
  refine (rNew (w := w2) sz).mono ?_
  rintro e w3 ⟨c, rfl, hr, hu⟩
  have H3 : Hid (HP8 W w3 b c (Since w2 w3) (two sz) 0) := Lib.hid ⟨⟨H2.out.keep hu (fun q hq => .inr hq), hr, fun q hq => by have := H2.out.up.size; have := hq.1; omega⟩, Nat.le_refl _, two_ok sz, hsz2.1, hsz2.2⟩
  clear hr hu
  go_wp2_with fail
  go_loopw [8, 9, 10] (fun i _ _ wr => ∃ (k : Nat) (K : Nat → Prop) (m : HpM), k ≤ L.length ∧ k ≤ 50 ∧ i = .int .i64 k ∧ Hid (HP8 W wr b c K m k)) (fun i _ _ _ => 50 - (intOf i).toNat)
  case atStart => exact ⟨0, _, _, Nat.zero_le _, by omega, rfl, H3⟩
  case round =>
    obtain ⟨k, K, m, hk, hk50, rfl, HH⟩ := hrel
    by_cases hlt : k < L.length ∧ k < 50
    · obtain ⟨hlt, hlt2⟩ := hlt
      have hml := HH.out.2.1
      have HBL := Lib.hid (HH.out.1.own.up.below (Nat.le_refl _) (fun _ h => h.elim))
      obtain ⟨g, off, rfl, -, hgl, vb, c0, c1, c2, c3, c4, c5, c6, c7, c8⟩ := (HL.out.below HBL.out).at hlt
      obtain ⟨da, dc, rfl, -, -⟩ := c7.slice
      generalize L.getD k default = s at *
      obtain ⟨w4, hw4⟩ : ∃ w4, w4 = wr.alloc (.cells #[.int .i64 s.what, .int .i64 s.a, .int .i64 s.b, .int .i64 s.c, .int .i64 s.n, .bool s.sh, .slice da s.bs.length dc] 33) := ⟨_, rfl⟩
      have hu4 : Upd (fun _ => False) wr w4 := by rw [hw4]; exact Upd.alloc _ _ _
      have hs4 : wr.heap.size < w4.heap.size := by rw [hw4]; simp
      have hx4 : w4.heap[wr.heap.size]? = some (.cells #[.int .i64 s.what, .int .i64 s.a, .int .i64 s.b, .int .i64 s.c, .int .i64 s.n, .bool s.sh, .slice da s.bs.length dc] 33 (0, 0)) := by rw [hw4]; exact hpTop _ _ _ rfl
      obtain ⟨K1, hK1⟩ : ∃ K1 : Nat → Prop, K1 = fun q => K q ∨ q = wr.heap.size := ⟨_, rfl⟩
      have HKX : Hid (K1 wr.heap.size) := Lib.hid (by rw [hK1]; exact .inr rfl)
      have HB4 : Hid (Both K1 W w4 b c m) := Lib.hid ⟨HH.out.1.own.keep hu4 (fun q hq => by
          rw [hK1] at hq
          rcases hq with hq | hq
          · exact .inl hq
          · exact .inr (by omega)), (HH.out.1.ref.upd hu4 (fun _ _ h => h)).wide (fun q hq => by rw [hK1]; exact .inl hq) (fun q hq => by
          rw [hK1] at hq
          rcases hq with hq | hq
          · have := HH.out.1.own.kl q hq; omega
          · omega), fun q hq => by
          rw [hK1] at hq
          rcases hq with hq | hq
          · exact HH.out.1.new q hq
          · have := HH.out.1.own.up.size; omega⟩
      have HKK : Hid (∀ q, K q → K1 q) := Lib.hid (fun q hq => by rw [hK1]; exact .inl hq)
      have HKN : Hid (¬ K wr.heap.size) := Lib.hid (fun hq => by have := HH.out.1.own.kl _ hq; omega)
      have HR4 : Hid (Hep RT K w4 c m) := Lib.hid (HH.out.1.ref.upd hu4 (fun _ _ h => h))
      have HV4 := Lib.hid (c7.upd hu4 (fun _ _ h => h))
      have HOK := Lib.hid HH.out.2.2.1
      have HSZ := Lib.hid HH.out.2.2.2
      have HW4 := Lib.hid hw4
      have HX4 := Lib.hid hx4
      obtain ⟨ca, cc, y1⟩ := HB4.out.ref.bxs
      have hcl : c < w4.heap.size := World.block_lt_of_cell? w4 _ y1
      obtain ⟨x0, x1, x2, x3, x4, x5, x6⟩ := seven hx4
      obtain ⟨ref, href, href2⟩ : ∃ ref, ref = s.a % ((m.arrs.length : Int) + 3) - 1 ∧ (-1 ≤ ref ∧ ref ≤ (m.arrs.length : Int) + 1) := ⟨_, rfl, by
        have h1 := Int.emod_nonneg s.a (by omega : ((m.arrs.length : Int) + 3) ≠ 0)
        have h2 := Int.emod_lt_of_pos s.a (by omega : 0 < (m.arrs.length : Int) + 3)
        omega⟩
      have hwa : IntKind.i64.wrap ((m.arrs.length : Int) + 3) = (m.arrs.length : Int) + 3 := IntWalk.i64_in _ (by omega)
      have hwb : IntKind.i64.wrap (s.a % ((m.arrs.length : Int) + 3) - 1) = ref := by rw [href]; exact IntWalk.i64_in _ (by omega)
      clear c7 c8 hK1 hu4 hs4 hx4 href hw4
      go_wp2_with fail
      rw [← HW4.out]
      clear c0 c1 c2 c3 c4 c5 c6
      go_quiet (exact Calls.quiet_of_same ((hPick _ _ _ (by omega) (by omega)).mono fun _ _ h => ⟨h.1, h.2.symm⟩))
      obtain ⟨w5, hw5⟩ : ∃ w5, w5 = w4.drewN nq := ⟨_, rfl⟩
      have hu5 : Upd (fun _ => False) w4 w5 := by rw [hw5]; exact hpDrewN _ _ _
      have HB5 := Lib.hid (HB4.out.quiet hu5)
      have hx5 := hpBlk hu5 HX4.out (fun h => h)
      have HX5 := Lib.hid hx5
      have HV5 := Lib.hid (HV4.out.upd hu5 (fun _ _ h => h))
      clear x0 x1 x2 x3 x4 x5 x6 y1 hcl
      obtain ⟨x0, x1, x2, x3, x4, x5, x6⟩ := seven hx5
      have HW5 := Lib.hid hw5
      clear hu5 hx5 hw5
      rw [← HW5.out]
      go_wp2_with fail
      refine (hPick s.what 10 w5 (by omega) (by omega)).mono ?_
      rintro e w' ⟨rfl, rfl⟩
      obtain ⟨P, hP, hPr⟩ : ∃ P, P = s.what % 10 ∧ (0 ≤ P ∧ P ≤ 9) := ⟨_, rfl, by omega⟩
      rw [← hP]
      clear hP
      have hgr : ((P == 4) = false ∧ (P == 5) = false ∧ (P == 6) = false ∧ (P == 7) = false ∧ (P == 8) = true) ∨ P ≠ 8 := by
        by_cases h : P = 8
        · subst h; exact .inl ⟨rfl, rfl, rfl, rfl, rfl⟩
        · exact .inr h
      rcases hgr with ⟨p4, p5, p6, p7, p8⟩ | hrest
      · as_aux_lemma =>
        --D{8
        go_wp2_with fail
        refine (hPick s.b 4 w5 (by omega) (by omega)).mono ?_
        rintro e w' ⟨rfl, rfl⟩
        go_wp2_with fail
        refine (hPick s.c 3 w5 (by omega) (by omega)).mono ?_
        rintro e w' ⟨rfl, rfl⟩
        generalize s.b % 4 = lf
        generalize s.c % 3 = ow
        have HCL := Lib.hid (oClear HB5.out.own (by omega) lf ow)
        go_wp2_with fail
        refine HCL.out.mono ?_
        rintro e w6 ⟨rfl, ho⟩
        have HH6 := Lib.hid (HB5.out.half ho)
        have HRC := Lib.hid (rClear HH6.out.ref (by omega) HOK.out lf ow)
        clear ho
        have hgg : ((goneN m.arrs lf ow : Int) != (goneN m.arrs lf ow : Int)) = false := by simp
        go_wp2_with fail
        refine HRC.out.mono ?_
        rintro e w7 ⟨rfl, hr, hu⟩
        have HB7 := Lib.hid (HH6.out.both hr hu)
        clear hr hu
        go_wp2_with fail
        refine (alike8 HB7.out.own.hp HB7.out.ref (by simp [HpM.clr]; omega)).mono ?_
        rintro e w8 ⟨rfl, hu⟩
        have H8 : Hid (HP8 W w8 b c _ (m.clr lf ow) (k + 1)) := Lib.hid ⟨HB7.out.quiet hu, by simp [HpM.clr]; omega, okL_map HOK.out _ (fun a => by unfold clrA; split <;> rfl), HSZ.out⟩
        clear hu x0 x1 x2 x3 x4 x5 x6
        go_wp2_with fail
        go_roundw
        case rel => exact ⟨k + 1, _, _, by omega, by omega, by go_num, H8⟩
        case measure => simp [intOf]; omega
        --D}8
      · have hgr2 : ((P == 4) = false ∧ (P == 5) = false ∧ (P == 6) = false ∧ (P == 7) = false ∧ (P == 8) = false ∧ (P == 9) = false) ∨ 4 ≤ P := by
          by_cases h : P ≤ 3
          · exact .inl ⟨by simp; omega, by simp; omega, by simp; omega, by simp; omega, by simp; omega, by simp; omega⟩
          · exact .inr (by omega)
        rcases hgr2 with ⟨p4, p5, p6, p7, p8, p9⟩ | hrest2
        · as_aux_lemma =>
          --D{0
          obtain ⟨n1, hn1, hn2⟩ : ∃ n1, n1 = s.n % 70 - 2 ∧ (-2 ≤ n1 ∧ n1 ≤ 67) := ⟨_, rfl, by omega⟩
          obtain ⟨l1, hl1, hl2⟩ : ∃ l1, l1 = 2 + s.b % 4 ∧ (2 ≤ l1 ∧ l1 ≤ 5) := ⟨_, rfl, by omega⟩
          obtain ⟨f1, hf1, hf2⟩ : ∃ f1, f1 = s.c % 4 ∧ (0 ≤ f1 ∧ f1 ≤ 3) := ⟨_, rfl, by omega⟩
          have hwn : IntKind.i64.wrap (s.n % 70 - 2) = n1 := by rw [hn1]; exact IntWalk.i64_in _ (by omega)
          have hwl : IntKind.i64.wrap (2 + s.b % 4) = l1 := by rw [hl1]; exact IntWalk.i64_in _ (by omega)
          clear hn1 hl1
          go_wp2_with fail
          refine (hPick s.n 70 w5 (by omega) (by omega)).mono ?_
          rintro e w' ⟨rfl, rfl⟩
          go_wp2_with fail
          refine (hPick s.b 4 w5 (by omega) (by omega)).mono ?_
          rintro e w' ⟨rfl, rfl⟩
          go_wp2_with fail
          refine (hPick s.c 4 w5 (by omega) (by omega)).mono ?_
          rintro e w' ⟨rfl, rfl⟩
          rw [← hf1]
          clear hf1
          go_wp2_with fail
          refine (hPick s.a 3 w5 (by omega) (by omega)).mono ?_
          rintro e w' ⟨rfl, rfl⟩
          generalize s.a % 3 = ow
          have hgx : (((m.arrs.length + 1 : Nat) : Int) != ((m.arrs.length + 1 : Nat) : Int)) = false := by simp
          cases hfit : fitsB m l1 f1 n1 with
          | false =>
            have HF := Lib.hid hfit
            clear hfit
            have HCL := Lib.hid (oAlloc_no HB5.out.own (by omega) ⟨by have := HSZ.out.1; omega, by have := HSZ.out.2; omega⟩ ow l1 f1 n1 s.sh HF.out)
            go_wp2_with fail
            refine HCL.out.mono ?_
            rintro e w6 ⟨rfl, ho⟩
            have HH6 := Lib.hid (HB5.out.half ho)
            have y5 := (five5 (hpBlk ho.step HX5.out (fun h => h.2 HKX.out)))
            have HRC := Lib.hid (qAlloc_no HH6.out.ref (by omega) ⟨by have := HSZ.out.1; omega, by have := HSZ.out.2; omega⟩ ow l1 f1 n1 s.sh HF.out)
            clear ho
            go_wp2_with fail
            refine HRC.out.mono ?_
            rintro e w7 ⟨rfl, hu⟩
            have HB7 : Hid (Both K1 W w7 b c m) := Lib.hid ((Both.mk HH6.out.own HH6.out.ref HH6.out.new).quiet hu)
            have HM7 : Hid (m.arrs.length ≤ k + 1 + 2 ∧ okL m.arrs) := Lib.hid ⟨by omega, HOK.out⟩
            have HSZ7 := HSZ
            clear hu y5
            go_wp2_with fail
            refine (alike8 HB7.out.own.hp HB7.out.ref (by omega)).mono ?_
            rintro e w8 ⟨rfl, hu⟩
            have H8 : Hid (HP8 W w8 b c _ _ (k + 1)) := Lib.hid ⟨HB7.out.quiet hu, HM7.out.1, HM7.out.2, HSZ7.out⟩
            clear hu x0 x1 x2 x3 x4 x5 x6
            go_wp2_with fail
            go_roundw
            case rel => exact ⟨k + 1, _, _, by omega, by omega, by go_num, H8⟩
            case measure => simp [intOf]; omega
          | true =>
            have HF := Lib.hid hfit
            have HFY := Lib.hid (fits_yes (sz := m.size) (L := m.arrs) hfit)
            clear hfit
            have HCL := Lib.hid (oAlloc HB5.out.own (by omega) ⟨by have := HSZ.out.1; omega, by have := HSZ.out.2; omega⟩ ow l1 f1 n1 s.sh HF.out)
            go_wp2_with fail
            refine HCL.out.mono ?_
            rintro e w6 ⟨rfl, ho⟩
            have HH6 := Lib.hid (HB5.out.half ho)
            have y5 := (five5 (hpBlk ho.step HX5.out (fun h => h.2 HKX.out)))
            have HRC := Lib.hid (qAlloc HH6.out.ref (by omega) (by have := HOK.out.1; omega) ⟨by have := HSZ.out.1; omega, by have := HSZ.out.2; omega⟩ ow l1 f1 n1 s.sh HF.out)
            clear ho
            go_wp2_with fail
            refine HRC.out.mono ?_
            rintro e w7 ⟨rfl, hr, hu⟩
            have HB7 := Lib.hid (HH6.out.both hr hu)
            have HM7 : Hid ((m.add (newA ow l1 f1 s.sh n1)).arrs.length ≤ k + 1 + 2 ∧ okL (m.add (newA ow l1 f1 s.sh n1)).arrs) := Lib.hid ⟨by simp [HpM.add]; omega, okL_add HOK.out (life012 HFY.out.2.1)⟩
            have HSZ7 : Hid (64 ≤ (m.add (newA ow l1 f1 s.sh n1)).size ∧ (m.add (newA ow l1 f1 s.sh n1)).size ≤ 463) := Lib.hid HSZ.out
            have hml7 := HM7.out.1
            clear hr hu y5
            go_wp2_with fail
            refine (alike8 HB7.out.own.hp HB7.out.ref (by omega)).mono ?_
            rintro e w8 ⟨rfl, hu⟩
            have H8 : Hid (HP8 W w8 b c _ _ (k + 1)) := Lib.hid ⟨HB7.out.quiet hu, HM7.out.1, HM7.out.2, HSZ7.out⟩
            clear hu x0 x1 x2 x3 x4 x5 x6
            go_wp2_with fail
            go_roundw
            case rel => exact ⟨k + 1, _, _, by omega, by omega, by go_num, H8⟩
            case measure => simp [intOf]; omega
          --D}0
        · have hgr3 : ((P == 4) = true ∧ P = 4) ∨ ((P == 4) = false ∧ (P == 5) = true ∧ P = 5) ∨ ((P == 4) = false ∧ (P == 5) = false ∧ (P == 6) = true ∧ P = 6) ∨ ((P == 4) = false ∧ (P == 5) = false ∧ (P == 6) = false ∧ (P == 7) = true ∧ P = 7) ∨ ((P == 4) = false ∧ (P == 5) = false ∧ (P == 6) = false ∧ (P == 7) = false ∧ (P == 8) = false ∧ (P == 9) = true ∧ P = 9) := by
            have : P = 4 ∨ P = 5 ∨ P = 6 ∨ P = 7 ∨ P = 9 := by omega
            rcases this with rfl | rfl | rfl | rfl | rfl <;> simp
          clear hrest hrest2 hPr
          have HR5 : Hid (Hep RT K w5 c m) := Lib.hid (HR4.out.upd (by rw [HW5.out]; exact hpDrewN _ _ _) (fun _ _ h => h))
          rcases hgr3 with ⟨p4, hPe⟩ | ⟨p4, p5, hPe⟩ | ⟨p4, p5, p6, hPe⟩ | ⟨p4, p5, p6, p7, hPe⟩ | ⟨p4, p5, p6, p7, p8, p9, hPe⟩
          all_goals clear hPe
          iterate 3
            · as_aux_lemma =>
              --D{4
              obtain ⟨at1, hat1, hat2⟩ : ∃ at1, at1 = s.b % 12 - 1 ∧ (-1 ≤ at1 ∧ at1 ≤ 10) := ⟨_, rfl, by omega⟩
              have hwat : IntKind.i64.wrap (s.b % 12 - 1) = at1 := by rw [hat1]; exact IntWalk.i64_in _ (by omega)
              clear hat1
              go_wp2_with fail
              refine (hPick s.b 12 w5 (by omega) (by omega)).mono ?_
              rintro e w' ⟨rfl, rfl⟩
              have HA := Lib.hid (qAny HB5.out.ref (by omega) ref)
              obtain ⟨ok, hok⟩ : ∃ ok, ok = hasB m.arrs.length ref := ⟨_, rfl⟩
              rw [← hok] at HA
              have HOKB := Lib.hid hok
              clear hok
              go_wp2_with fail
              refine HA.out.mono ?_
              rintro e w6 ⟨aow, alb, alf, ash, ya, yn, yc, rfl, hu6, hyn⟩
              have HYN := Lib.hid hyn
              obtain ⟨w7, hw7⟩ : ∃ w7, w7 = w6.alloc (.cells #[.int .i64 aow, .int .i64 alb, .int .i64 alf, .bool ash, .slice ya yn yc] 38) := ⟨_, rfl⟩
              have hu67 : Upd (fun _ => False) w6 w7 := by rw [hw7]; exact Upd.alloc _ _ _
              have hx67 : w7.heap[w6.heap.size]? = some (.cells #[.int .i64 aow, .int .i64 alb, .int .i64 alf, .bool ash, .slice ya yn yc] 38 (0, 0)) := by rw [hw7]; exact hpTop _ _ _ rfl
              have hu57 := hu6.trans hu67 (fun _ h _ => h)
              have HB7 := Lib.hid (HB5.out.quiet hu57)
              have HR7 := Lib.hid (HR5.out.upd hu57 (fun _ _ h => h))
              have HX7 := Lib.hid (hpBlk hu57 HX5.out (fun h => h))
              have y3 := five3 HX7.out
              have y3a := five3 (hpBlk hu6 HX5.out (fun h => h))
              obtain ⟨-, -, -, -, e4, -⟩ := five hx67
              clear hyn hu6 hu67 hx67 hu57 x0 x1 x2 x3 x4 x5 x6
              subst hw7
              have hfit : (ok = true ∧ decide ((0 : Int) ≤ at1) = true ∧ decide (at1 < (yn : Int)) = true ∧ 0 ≤ at1 ∧ at1 < yn) ∨ ((ok = false ∨ (ok = true ∧ decide ((0 : Int) ≤ at1) = false ∧ at1 < 0) ∨ (ok = true ∧ decide ((0 : Int) ≤ at1) = true ∧ decide (at1 < (yn : Int)) = false ∧ 0 ≤ at1 ∧ yn ≤ at1)) ∧ Hid (NoB m ref at1)) := by
                cases ok with
                | false => exact .inr ⟨.inl rfl, Lib.hid (.inl HOKB.out.symm)⟩
                | true =>
                  obtain ⟨i, hi, he⟩ := hasNo HOKB.out.symm
                  have hn := HYN.out i hi he
                  by_cases h0 : 0 ≤ at1
                  · by_cases h1 : at1 < yn
                    · exact .inl ⟨rfl, by simp; omega, by simp; omega, h0, h1⟩
                    · exact .inr ⟨.inr (.inr ⟨rfl, by simp; omega, by simp; omega, h0, by omega⟩), Lib.hid (.inr ⟨i, hi, he, .inr (by omega)⟩)⟩
                  · exact .inr ⟨.inr (.inl ⟨rfl, by simp; omega, by omega⟩), Lib.hid (.inr ⟨i, hi, he, .inl (by omega)⟩)⟩
              rcases hfit with ⟨hok, hd1, hd2, hd3, hd4⟩ | ⟨hno, HNO⟩
              · subst hok
                have HBI : Hid (∃ i j : Nat, i < m.arrs.length ∧ ref = (i : Int) + 1 ∧ at1 = (j : Int) ∧ j < (m.arrs.getD i default).data.length) := Lib.hid (by
                  obtain ⟨i, hi, he⟩ := hasNo HOKB.out.symm
                  have hn := HYN.out i hi he
                  exact ⟨i, at1.toNat, hi, he, by omega, by omega⟩)
                obtain ⟨i, j, hi, he, hej, hj⟩ := HBI.out
                have HE := Lib.hid he
                have HEJ := Lib.hid hej
                have HJ := Lib.hid hj
                have HPut : Hid (∀ y, (0 ≤ y ∧ y ≤ 255) → Calls Try.prog 13 #[.pointer (some ⟨b, 0, none⟩), .int .i64 ref, .int .i64 at1, .int .u8 y] _ fun e w' => e = .returned (.bool true) ∧ OwnTo K1 W _ w' b (m.put i j y)) := Lib.hid (fun y hy => by rw [he, hej]; exact oPut HB7.out.own hi (by omega) hj y hy)
                clear he hej hj HBI
                go_wp2_with fail
                refine (HPut.out (s.c % 256) (by omega)).mono ?_
                rintro e w8 ⟨rfl, ho⟩
                have HH8 := Lib.hid (HB7.out.half ho)
                have HR8 := Lib.hid (HR7.out.upd ho.step (fun q hq hq' => hq'.2 (HKK.out q hq)))
                have HX8 := Lib.hid (hpBlk ho.step HX7.out (fun h => h.2 HKX.out))
                clear ho y3 y3a e4
                obtain ⟨w9, hw9⟩ : ∃ w9, w9 = w8.alloc (.cells #[.int .u8 (s.c % 256)] 5) := ⟨_, rfl⟩
                have hu9 : Upd (fun _ => False) w8 w9 := by rw [hw9]; exact Upd.alloc _ _ _
                have HVL : Hid (Vw w9 (.slice (some ⟨w8.heap.size, 0, none⟩) 1 1) [s.c % 256]) := Lib.hid (by rw [hw9]; exact vw_lit w8 5 (0, 0) [s.c % 256] #[.int .u8 (s.c % 256)] 1 1 rfl rfl (Nat.le_refl _) (by unfold maxLen; omega) (by simp; omega))
                have HH9 := Lib.hid (HH8.out.quiet hu9)
                have HR9 := Lib.hid (HR8.out.upd hu9 (fun _ _ h => h))
                have HX9 := Lib.hid (hpBlk hu9 HX8.out (fun h => h))
                have HP2 : Hid (Calls Try.prog 14 #[.pointer (some ⟨c, 0, none⟩), .int .i64 ref, .int .i64 at1, .slice (some ⟨w8.heap.size, 0, none⟩) 1 1] w9 fun e w' => e = .returned (.tuple #[]) ∧ Hep RT (More K w9 w') w' c (m.put i j (s.c % 256)) ∧ Upd K w9 w') := Lib.hid (by rw [HE.out, HEJ.out]; exact qPut HR9.out (by omega) hi HJ.out _ _ HVL.out)
                have y3 := five3 HX8.out
                clear hu9
                subst hw9
                go_wp2_with fail
                refine HP2.out.mono ?_
                rintro e w10 ⟨rfl, hr, hu⟩
                have HB10 := Lib.hid (HH9.out.both2 hr hu HKK.out)
                have HX10 := Lib.hid (hpBlk hu HX9.out HKN.out)
                have HG : Hid (Calls Try.prog 15 #[.pointer (some ⟨b, 0, none⟩), .int .i64 ref, .int .i64 at1] w10 fun e w' => e = .returned (.tuple #[.int .u8 (s.c % 256), .bool true]) ∧ w10 = w') := Lib.hid (by rw [HE.out, HEJ.out]; exact putGet HB10.out.own.hp (by omega) hi HJ.out)
                have HOK10 : Hid (okL (m.put i j (s.c % 256)).arrs) := Lib.hid (okL_lay HOK.out i hi _)
                have HL10 := Lib.hid (put_len m i j (s.c % 256))
                clear hr hu y3
                go_wp2_with fail
                refine HG.out.mono ?_
                rintro e w' ⟨rfl, rfl⟩
                have y3 := five3 HX10.out
                go_wp2_with fail
                refine (alike8 HB10.out.own.hp HB10.out.ref (by rw [HL10.out]; omega)).mono ?_
                rintro e w9 ⟨rfl, hu⟩
                have H8 : Hid (HP8 W w9 b c _ _ (k + 1)) := Lib.hid ⟨HB10.out.quiet hu, by rw [HL10.out]; omega, HOK10.out, HSZ.out⟩
                clear hu y3
                go_wp2_with fail
                go_roundw
                case rel => exact ⟨k + 1, _, _, by omega, by omega, by go_num, H8⟩
                case measure => simp [intOf]; omega
              · rcases hno with rfl | ⟨rfl, hd1, hd2⟩ | ⟨rfl, hd1, hd2, hd3, hd4⟩
                all_goals
                  go_wp2_with fail
                  refine (noPut HB7.out.own.hp (by omega) ref at1 _ HNO.out).mono ?_
                  rintro e w' ⟨rfl, rfl⟩
                  go_wp2_with fail
                  refine (noGet HB7.out.own.hp (by omega) ref at1 HNO.out).mono ?_
                  rintro e w' ⟨rfl, rfl⟩
                  go_wp2_with fail
                  refine (alike8 HB7.out.own.hp HB7.out.ref (by omega)).mono ?_
                  rintro e w9 ⟨rfl, hu⟩
                  have H8 : Hid (HP8 W w9 b c _ _ (k + 1)) := Lib.hid ⟨HB7.out.quiet hu, by omega, HOK.out, HSZ.out⟩
                  clear hu y3 y3a e4
                  go_wp2_with fail
                  go_roundw
                  case rel => exact ⟨k + 1, _, _, by omega, by omega, by go_num, H8⟩
                  case measure => simp [intOf]; omega
              --D}4
          · as_aux_lemma =>
            --D{7
            go_wp2_with fail
            refine (few w5 _ s.bs 70 HV5.out (.inr (by omega)) (by omega) (by omega)).mono ?_
            rintro e w6 ⟨v6, rfl, hn6⟩
            obtain ⟨ys, hys⟩ : ∃ ys, ys = s.bs.take (70 : Int).toNat := ⟨_, rfl⟩
            rw [← hys] at hn6
            have HYB : Hid (∀ y ∈ ys, 0 ≤ y ∧ y ≤ 255) := Lib.hid (fun y hy => by rw [hys] at hy; exact HV5.out.1 y (List.mem_of_mem_take hy))
            clear hys
            have HB6 := Lib.hid (HB5.out.keep hn6.2.1)
            have HV6 := Lib.hid (hn6.vw HYB.out)
            have HN6 : Hid (∀ k, v6.ownBlock = some k → More K1 w5 w6 k) := Lib.hid (fun k hk => .inr ⟨hn6.2.2 k hk, hpRowLt hn6.1 k hk⟩)
            clear hn6
            obtain ⟨va, vc, rfl, -, -⟩ := HV6.out.slice
            cases hbf : (bufB ref && decide (ys.length ≤ 64)) with
            | false =>
              have hbn : bufB ref = false ∨ 64 < ys.length := by
                cases h : bufB ref
                · exact .inl rfl
                · rw [h] at hbf; simp at hbf; exact .inr hbf
              have HS1 := Lib.hid (pSet_no HB6.out.own.hp ref _ ys HV6.out hbn)
              have HS2 := Lib.hid (rSet_no (b := c) ref _ ys HV6.out hbn)
              clear hbf hbn
              go_wp2_with fail
              refine HS1.out.mono ?_
              rintro e w' ⟨rfl, rfl⟩
              go_wp2_with fail
              refine HS2.out.mono ?_
              rintro e w' ⟨rfl, rfl⟩
              go_wp2_with fail
              refine (alike8 HB6.out.own.hp HB6.out.ref (by omega)).mono ?_
              rintro e w9 ⟨rfl, hu⟩
              have H8 : Hid (HP8 W w9 b c _ _ (k + 1)) := Lib.hid ⟨HB6.out.quiet hu, by omega, HOK.out, HSZ.out⟩
              clear hu x0 x1 x2 x3 x4 x5 x6
              go_wp2_with fail
              go_roundw
              case rel => exact ⟨k + 1, _, _, by omega, by omega, by go_num, H8⟩
              case measure => simp [intOf]; omega
            | true =>
              have HBI : Hid (∃ i : Nat, i < 2 ∧ ref = (i : Int) + 1 ∧ ys.length ≤ 64) := Lib.hid (by
                simp [bufB] at hbf
                exact ⟨(ref - 1).toNat, by omega, by omega, hbf.2⟩)
              clear hbf
              obtain ⟨i, hi2, he, hl64⟩ := HBI.out
              have hi : i < m.arrs.length := by have := HOK.out.1; omega
              have HE := Lib.hid he
              have HS1 : Hid (Calls Try.prog 17 #[.pointer (some ⟨b, 0, none⟩), .int .i64 ref, .slice va ys.length vc] w6 fun e w' => e = .returned (.bool true) ∧ OwnTo (More K1 w5 w6) W w6 w' b (m.lay i ys)) := Lib.hid (by rw [he]; exact oSet HB6.out.own hi hi2 _ ys HV6.out hl64)
              clear he HBI
              go_wp2_with fail
              refine HS1.out.mono ?_
              rintro e w7 ⟨rfl, ho⟩
              have HH7 := Lib.hid (HB6.out.half ho)
              have HS2 : Hid (Calls Try.prog 18 #[.pointer (some ⟨c, 0, none⟩), .int .i64 ref, .slice va ys.length vc] w7 fun e w' => e = .returned (.bool true) ∧ Hep RT (More (More K1 w5 w6) w7 w') w' c (m.lay i ys) ∧ Upd (More K1 w5 w6) w7 w') := Lib.hid (by rw [HE.out]; exact qSet HH7.out.ref (by omega) hi hi2 _ ys (HV6.out.upd ho.step (fun q hq hq' => hq'.2 (HN6.out q hq))) hl64)
              clear ho
              go_wp2_with fail
              refine HS2.out.mono ?_
              rintro e w8 ⟨rfl, hr, hu⟩
              have HB8 := Lib.hid (HH7.out.both hr hu)
              have HOK8 := Lib.hid (okL_lay HOK.out i hi ys)
              have HL8 : Hid ((m.lay i ys).arrs.length = m.arrs.length) := Lib.hid (by simp [HpM.lay])
              clear hr hu hi2 hl64 hi
              go_wp2_with fail
              refine (alike8 HB8.out.own.hp HB8.out.ref (by rw [HL8.out]; omega)).mono ?_
              rintro e w9 ⟨rfl, hu⟩
              have H8 : Hid (HP8 W w9 b c _ _ (k + 1)) := Lib.hid ⟨HB8.out.quiet hu, by rw [HL8.out]; omega, HOK8.out, HSZ.out⟩
              clear hu x0 x1 x2 x3 x4 x5 x6
              go_wp2_with fail
              go_roundw
              case rel => exact ⟨k + 1, _, _, by omega, by omega, by go_num, H8⟩
              case measure => simp [intOf]; omega
            --D}7
          · as_aux_lemma =>
            --D{9
            have HSZ5 := HSZ
            have HCP := Lib.hid (pCopy HB5.out.own.hp (by omega))
            go_wp2_with fail
            refine HCP.out.mono ?_
            rintro e w6 ⟨b', rfl, hc6, hu6⟩
            have HC6 := Lib.hid hc6
            have HU6 := Lib.hid hu6
            have HR6 := Lib.hid (HB5.out.ref.upd hu6 (fun _ _ h => h))
            clear hc6 hu6 x0 x1 x2 x3 x4 x5 x6
            go_wp2_with fail
            refine (alike8 HC6.out HR6.out (by omega)).mono ?_
            rintro e w7 ⟨rfl, hu⟩
            have HC7 := Lib.hid (HC6.out.upd hu (fun _ _ h => h))
            have HU7 := Lib.hid (HU6.out.trans hu (fun _ h _ => h))
            clear hu
            go_wp2_with fail
            refine (cAlloc HC7.out (by omega) ⟨by have := HSZ.out.1; omega, by have := HSZ.out.2; omega⟩).mono ?_
            rintro e w8 ⟨r8, m8, rfl, hc8, hl8, hu⟩
            have HC8 := Lib.hid hc8
            have HU8 : Hid (Upd (fun _ => False) w5 w8) := Lib.hid (HU7.out.trans hu (fun k hk hl => by have := hk.1; omega))
            have HF8 : Hid (∀ k, More (Since w5 w6) w7 w8 k → w5.heap.size ≤ k) := Lib.hid (fun k hk => by
              rcases hk with hk | hk
              · exact hk.1
              · have := HU7.out.size; omega)
            clear hu hc8
            go_wp2_with fail
            refine (cPut HC8.out (by omega)).mono ?_
            rintro e w9 ⟨q9, rfl, hu⟩
            have HU9 : Hid (Upd (fun _ => False) w5 w9) := Lib.hid (HU8.out.trans hu (fun k hk hl => by have := HF8.out k hk; omega))
            clear hu
            have HB9 := Lib.hid (HB5.out.quiet HU9.out)
            go_wp2_with fail
            refine (cArray HB9.out.own.hp (by omega) ref).mono ?_
            rintro e w10 ⟨aow, alb, alf, ash, ya, yc, zs, is, rfl, hn10⟩
            obtain ⟨w11, hw11⟩ : ∃ w11, w11 = w10.alloc (.cells #[.int .i64 aow, .int .i64 alb, .int .i64 alf, .bool ash, .slice ya zs.length yc] 38) := ⟨_, rfl⟩
            have hu11 : Upd (fun _ => False) w10 w11 := by rw [hw11]; exact Upd.alloc _ _ _
            have hx11 : w11.heap[w10.heap.size]? = some (.cells #[.int .i64 aow, .int .i64 alb, .int .i64 alf, .bool ash, .slice ya zs.length yc] 38 (0, 0)) := by rw [hw11]; exact hpTop _ _ _ rfl
            have HBM : Hid (Bmp w5 w11 w10.heap.size aow alb alf ash ya zs.length yc zs) := Lib.hid ⟨(HU9.out.trans hn10.2.1 (fun _ h _ => h)).trans hu11 (fun _ h _ => h), hx11, rfl, ownsRow_upd hn10.1 hu11 (fun _ _ h => h), fun k hk => by have := hn10.2.2 k hk; have := HU9.out.size; omega, rowMax hn10.1⟩
            have HW11 := Lib.hid hw11
            clear hw11 hu11 hx11 hn10
            generalize zs.length = n at *
            go_wp2_with fail
            rw [← HW11.out]
            go_loopw [23] (fun i wr' => ∃ (k : Nat) (zs : List Int), k ≤ n ∧ i = .int .i64 k ∧ Hid (Bmp w5 wr' w10.heap.size aow alb alf ash ya n yc zs)) (fun i _ => n - (intOf i).toNat)
            case atStart => exact ⟨0, zs, Nat.zero_le _, rfl, HBM⟩
            case round =>
              obtain ⟨kk, zs2, hkk, rfl, HBZ⟩ := hrel
              have hnm := HBZ.out.2.2.2.2.2
              unfold maxLen at hnm
              have e4 := (five HBZ.out.2.1).2.2.2.2.1
              by_cases hlt9 : kk < n
              · obtain ⟨g9, rfl, hc9, hf9⟩ := HBZ.out.at hlt9
                go_wp2_with fail
                go_roundw
                case rel => exact ⟨kk + 1, _, by omega, by go_num, Lib.hid (HBZ.out.set kk _)⟩
                case measure => simp [intOf]; omega
              · have HB12 := Lib.hid (HB5.out.quiet HBZ.out.1)
                go_wp2_with fail
                refine (alike8 HB12.out.own.hp HB12.out.ref (by omega)).mono ?_
                rintro e w9 ⟨rfl, hu⟩
                have H8 : Hid (HP8 W w9 b c _ _ (k + 1)) := Lib.hid ⟨HB12.out.quiet hu, by omega, HOK.out, HSZ.out⟩
                clear hu e4
                go_wp2_with fail
                go_roundw
                case rel => exact ⟨k + 1, _, _, by omega, by omega, by go_num, H8⟩
                case measure => simp [intOf]; omega
            --D}9
    · have hor : L.length ≤ k ∨ (k < L.length ∧ k = 50) := by omega
      have HU := Lib.hid HH.out.1.own.up
      rcases hor with hor | ⟨hor1, hor2⟩
      all_goals
        go_wp2_with fail
        go_ret
        exact ⟨rfl, HU.out⟩
theorem heapPlays_below (W : World) (v : Value) (L : List St8) (size0 : Int) (hL : StsAt W v L) : Calls Try.prog 3 #[.int .i64 size0, v] W fun e w' => e = .returned (.bool true) ∧ Below W.heap.size W w' := (heapPlays_walk W v L size0 hL).mono fun _ _ h => ⟨h.1, h.2.below (Nat.le_refl _) (fun _ h => h.elim)⟩
end Go.Proofs.Yteapemjkfncbjaa

/- The reference's heap: Put. -/
import Derived.Test.YteapemjkfncbjaaHo
namespace Go.Proofs.Yteapemjkfncbjaa
open Go.RowKit Go.Lib Go.ChangeShapes Go.WideShapes Go.Deep
set_option linter.unusedVariables false
set_option linter.unusedSimpArgs false

theorem setBv (xs : List Int) (o : Nat) (zs : List Int) {j : Nat} (hj : j < zs.length) : (bv (setFrom xs o (zs.take j))).set (o + j) (.int .u8 (zs.getD j 0)) = bv (setFrom xs o (zs.take (j + 1))) := by
  have e : zs.take (j + 1) = zs.take j ++ [zs.getD j 0] := by
    rw [List.take_add_one, List.getElem?_eq_getElem hj]
    simp [List.getD, hj]
  rw [e, setFrom_snoc]
  simp [bv, List.map_set, Nat.min_eq_left (Nat.le_of_lt hj)]
section
variable {F : Nat → Prop} {w : World} {b : Nat} {sz : Int} {av : Value} {R : List (ArrM × Value)}
set_option maxHeartbeats 2000000 in
theorem rPut (h : Hp RT F w b sz av R) (hl : R.length ≤ 1000) {i : Nat} (hi : i < R.length) (at_ : Nat) (v : Value) (zs : List Int) (hv : Vw w v zs) (hat : at_ + zs.length ≤ R[i].1.data.length) :
    Calls Try.prog 14 #[.pointer (some ⟨b, 0, none⟩), .int .i64 ((i : Int) + 1), .int .i64 at_, v] w fun e w' => e = .returned (.tuple #[]) ∧ (∃ av' d, Hp RT (More F w w') w' b sz av' (R.set i (R[i].1.put (setFrom R[i].1.data at_ zs), d))) ∧ Upd F w w' := by
  obtain ⟨va, vc, rfl, hvc, -⟩ := hv.slice
  obtain ⟨i0, hi0, hz0, hz1, hz2⟩ := info_parts b8Info
  obtain ⟨j0, hj, hy0, hy1, hy2⟩ := info_parts arrInfo
  have H := Lib.hid h
  have HV := Lib.hid hv
  have hdat := h.dat _ (List.getElem_mem hi)
  have HDV := Lib.hid (h.dat _ (List.getElem_mem hi))
  obtain ⟨h0, h1, h2⟩ := h.bx
  obtain ⟨ga, ac, rfl, -, -, -, -, k4, -⟩ := h.at hi
  obtain ⟨oa, oc, hod, -, -⟩ := h.dslice hi
  have hdl := hdat.len
  rw [hod] at k4
  have HOD := Lib.hid hod
  have hbl : b < w.heap.size := (Array.getElem?_eq_some_iff.1 h.box).1
  have hgal : ga < w.heap.size := hpRowLt h.row ga rfl
  have hi3 : (0 : Int) ≤ (i : Int) := Int.natCast_nonneg _
  have hi4 : (i : Int) < (R.length : Int) := by omega
  have hw1 : IntKind.i64.wrap (i : Int) = (i : Int) := IntWalk.i64_in _ (by omega)
  have HBR := Lib.hid (World.ownsRow_lit (base := 0) (e := 5) (size := 1) w #[] 0 (Nat.zero_le _) (by unfold maxLen; omega) rfl)
  have HBS := Lib.hid (hdat.vw.src.upd (Upd.alloc (fun _ => False) w (.cells #[] 5)) (fun _ _ h => h))
  rw [hod] at HBS
  obtain ⟨ys, hys⟩ : ∃ ys, ys = R[i].1.data := ⟨_, rfl⟩
  have HYB := Lib.hid hdat.byt
  rw [← hys] at HBS HYB HOD k4 hdl hat ⊢
  have HYS := Lib.hid hys
  clear h hv h0 h2 hod hdat hys
  generalize hn : ys.length = n at *
  have HN := Lib.hid hn
  clear hn
  go_enter Try.func14, Try.ntmps14
  go_wp2_with (at_builtin; go_loud (refine wpList_append_mine _ rfl _ _ 31 rfl 0 5 i0 (.int .u8 0) 1 1 Try.underlying31 hi0 hz0 hz1 hz2 rfl (by decide) (.slice (some ⟨w.heap.size, 0, none⟩) 0 0) 0 [] rfl HBR.out n (bv ys) HBS.out (by unfold maxLen; omega) (by omega) (Nat.zero_le _) ?_))
  intro d w1 ho hg hf
  obtain ⟨hu1, hn1⟩ := freshRow hg hf
  obtain ⟨da, dc, rfl⟩ := ownsRow_slice ho
  have HU1 := Lib.hid hu1
  have HN1 := Lib.hid hn1
  have HR1 : Hid (w1.ownsRow 0 5 1 (.slice da n dc) n (bv (setFrom ys at_ (zs.take 0)))) := Lib.hid ho
  have HV1 := Lib.hid (Upd.refl (fun k => (Value.slice da n dc).ownBlock = some k) w1)
  clear ho hg hf hu1 hn1 h1 k4
  go_wp2_with fail
  go_loopw [9] (fun q wx => ∃ j : Nat, j ≤ zs.length ∧ q = .int .i64 j ∧ Hid (wx.ownsRow 0 5 1 (.slice da n dc) n (bv (setFrom ys at_ (zs.take j)))) ∧ Hid (Upd (fun k => (Value.slice da n dc).ownBlock = some k) w1 wx)) (fun q _ => zs.length - (intOf q).toNat)
  case atStart => exact ⟨0, Nat.zero_le _, rfl, HR1, HV1⟩
  case round =>
    obtain ⟨j, hjl, rfl, HR, HUX⟩ := hrel
    by_cases hlt : j < zs.length
    · obtain ⟨g1, c1', hd1, hgl1⟩ := rowHead HR.out (by omega)
      simp at hd1
      obtain ⟨rfl, rfl⟩ := hd1
      have hvx := (HV.out.upd HU1.out (fun _ _ h => h)).upd HUX.out (fun k hk hk' => by
        have h1 := HN1.out k hk'
        have h2 : k < w.heap.size := by
          rcases HV.out.2 with ⟨⟨a, he⟩, rfl⟩ | ⟨g, off, c, he, _, _, h3⟩
          · simp at hlt
          · have := h3 j hlt
            have := World.block_lt_of_cell? w _ this
            rw [he] at hk
            simp [Value.ownBlock] at hk
            subst hk
            exact this
        omega)
      rcases hvx.2 with ⟨_, rfl⟩ | ⟨gv, ov, cv, he, _, _, hcell⟩
      · simp at hlt
      · simp at he
        obtain ⟨rfl, rfl⟩ := he
        have e1 := hcell j hlt
        have hlen : (setFrom ys at_ (zs.take j)).length = n := by rw [setFrom_len, HN.out]
        have hrow := HR.out
        have e2 : wr.cell? ⟨g1, at_ + j, none⟩ = some (.int .u8 ((setFrom ys at_ (zs.take j)).getD (at_ + j) 0)) := rowCell hrow (by
          have : at_ + j < (setFrom ys at_ (zs.take j)).length := by rw [hlen]; omega
          simp [bv, List.getElem?_eq_getElem this, List.getD])
        have e3 : wr.frozen? ⟨g1, at_ + j, none⟩ = false := hpFrozen hrow _
        have HS := Lib.hid (hpSet hrow (at_ + j) (.int .u8 (zs.getD j 0)))
        rw [setBv ys at_ zs hlt] at HS
        have HUS := Lib.hid (hpS (u := .int .u8 (zs.getD j 0)) (p := ⟨g1, at_ + j, none⟩) HUX.out rfl)
        generalize zs.getD j 0 = yv at *
        generalize (setFrom ys at_ (zs.take j)).getD (at_ + j) 0 = y0 at *
        have hj0 : (0 : Int) ≤ (j : Int) := Int.natCast_nonneg _
        have hj1 : (j : Int) < (zs.length : Int) := by omega
        have hwa : IntKind.i64.wrap ((at_ : Int) + (j : Int)) = ((at_ + j : Nat) : Int) := by rw [IntWalk.i64_in _ (by omega)]; omega
        have hwb : (0 : Int) ≤ ((at_ + j : Nat) : Int) := Int.natCast_nonneg _
        have hwc : ((at_ + j : Nat) : Int) < (n : Int) := by omega
        clear hcell hlen hrow hvx
        go_wp2_with fail
        go_roundw
        case rel => exact ⟨j + 1, by omega, by go_num, HS, HUS⟩
        case measure => simp [intOf]; omega
    · obtain rfl : j = zs.length := by omega
      rw [List.take_length] at HR
      have huw : Upd (fun k => w.heap.size ≤ k) w wr := (HU1.out.mono (fun _ h _ => h.elim)).trans (HUX.out.mono (T := fun k => w.heap.size ≤ k) (fun k hk _ => HN1.out k hk)) (fun _ h _ => h)
      have hbw := hpBlk huw H.out.box (by omega)
      have c1 : wr.cell? ⟨b, 1, none⟩ = some (.slice (some ⟨ga, 0, none⟩) R.length ac) := by simp [World.cell?, hbw]
      have HRW := Lib.hid (World.ownsRow_lit (base := 0) (e := 38) (size := 5) wr #[] 0 (Nat.zero_le _) (by unfold maxLen; omega) rfl)
      have HSR := Lib.hid (((hpSrcRow H.out.row H.out.one).upd huw (fun k hk hk' => by simp [Value.ownBlock] at hk; omega)).upd (Upd.alloc (fun _ => False) wr (.cells #[] 38)) (fun _ _ h => h))
      have HUW := Lib.hid huw
      have hblr : b < wr.heap.size := by have := huw.size; omega
      clear huw hbw
      go_wp2_with (at_builtin; go_loud (refine wpList_append_mine _ rfl _ _ 34 rfl 0 38 j0 zarr 5 56 Try.underlying34 hj hy0 hy1 hy2 rfl (by decide) (.slice (some ⟨wr.heap.size, 0, none⟩) 0 0) 0 [] rfl HRW.out R.length (R.flatMap acl) HSR.out (by unfold maxLen; omega) (by omega) (Nat.zero_le _) ?_))
      intro v3 w3 ho hg hf
      obtain ⟨hu3, hn3⟩ := freshRow hg hf
      obtain ⟨g3, c3, rfl, hgl3⟩ := rowHead ho (by omega)
      have hg3 := hn3 g3 rfl
      have hsz := HUW.out.size
      have hgw : w.heap.size ≤ g3 := by omega
      have hb3 := hpBlk hu3 (hpBlk HUW.out H.out.box (by omega)) (fun h => h)
      have q1 : w3.cell? ⟨b, 1, none⟩ = some (.slice (some ⟨ga, 0, none⟩) R.length ac) := by simp [World.cell?, hb3]
      have q2 : w3.frozen? ⟨b, 1, none⟩ = false := by simp [World.frozen?, hb3]
      have q4 : w3.cell? ⟨g3, i * 5 + 4, none⟩ = some R[i].2 := rowCell ho (by rw [acl_at R i 4 hi (by omega)]; rfl)
      have q5 : w3.frozen? ⟨g3, i * 5 + 4, none⟩ = false := hpFrozen ho _
      rw [HOD.out] at q4
      have hbg : ¬ b = g3 := by omega
      have hgb : ¬ g3 = b := by omega
      have HR5 := Lib.hid (hpSet ho (i * 5 + 4) (.slice da n dc))
      have HD3 := Lib.hid (ownsRow_upd HR.out hu3 (fun _ _ h => h))
      have HUA := Lib.hid (HUW.out.trans (hu3.mono (T := fun k => w.heap.size ≤ k) (fun _ h _ => h.elim)) (fun _ h _ => h))
      have HDB := Lib.hid (hpRowLt HR.out)
      clear ho hg hf hu3 hn3 hb3 c1
      go_wp2_with fail
      clear q1 q2 q4 q5
      have hlen : (setFrom ys at_ zs).length = n := by rw [setFrom_len, HN.out]
      have hsw := rSwap H.out hi (w4 := w3.setCell ⟨g3, i * 5 + 4, none⟩ (.slice da n dc)) (v3 := .slice (some ⟨g3, 0, none⟩) R.length c3) (d := .slice da n dc) (ys := setFrom ys at_ zs) (hpS HUA.out hgw) HR5.out
        (by rw [hlen]; exact ownsRow_upd HD3.out (Upd.setCell (S := fun k => k = g3) w3 (.inl rfl) _) (fun k hk hk' => by have := HDB.out k hk; omega)) (setFrom_byte zs ys at_ HYB.out HV.out.1) (by rw [hlen]; exact hdl) (fun k hk => HN1.out k hk) (fun k hk => by simp [Value.ownBlock] at hk; omega)
      have HSW := Lib.hid hsw
      clear hsw
      go_end0
      exact ⟨rfl, ⟨_, _, HSW.out.1⟩, HSW.out.2⟩
end
end Go.Proofs.Yteapemjkfncbjaa

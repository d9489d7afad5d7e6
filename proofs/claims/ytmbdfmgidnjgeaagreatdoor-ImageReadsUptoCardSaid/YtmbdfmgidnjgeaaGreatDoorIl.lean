/- Package image's Lay. -/
import Derived.Test.YtmbdfmgidnjgeaaGreatDoorIp
import Derived.Test.YtmbdfmgidnjgeaaGreatDoorIz
namespace Go.Proofs.YtmbdfmgidnjgeaaGreatDoor
open Go.RowKit Go.Lib Go.Shelf
set_option linter.unusedVariables false

structure ImpFacts (m : ImpM) : Prop where
  name : nmB m.name = true
  size : m.name.size ≤ 16
  pars : m.params.length ≤ 4
structure MetFacts (q : InsM → Bool) (m : MetM) : Prop where
  pars : m.params.length ≤ 4
  locs : m.locals.length ≤ 10
  code : m.code.length ≤ 120
  one : 0 < m.code.length
  all : m.code.all q = true
structure ImgFacts (q : InsM → Bool) (I : ImgM) : Prop where
  size : I.name.size ≤ 16
  flds : I.fields.length ≤ 8
  imps : I.imports.length ≤ 4
  imp : ∀ m ∈ I.imports, ImpFacts m
  mets : I.methods.length ≤ 8
  one : 0 < I.methods.length
  met : ∀ m ∈ I.methods, MetFacts q m
  exps : I.exports.length ≤ 4
theorem nm_size16 {s : ByteArray} (h : nmB s = true) : s.size ≤ 16 := by
  unfold nmB at h
  simp at h
  exact h.1.2
theorem kinds_len {L : List Int} {n : Int} (h : kindsB L n = true) : (L.length : Int) ≤ n := by
  unfold kindsB at h
  simp at h
  exact h.1
theorem impFacts {m : ImpM} (h : impB m = true) : ImpFacts m := by
  unfold impB callB at h
  simp only [Bool.and_eq_true] at h
  exact ⟨h.1, nm_size16 h.1, by have := kinds_len h.2.2.1; omega⟩
theorem metFacts {q : InsM → Bool} {m : MetM} (h : metB q m = true) : MetFacts q m := by
  unfold metB callB at h
  simp only [Bool.and_eq_true, decide_eq_true_eq] at h
  exact ⟨by have := kinds_len h.1.1; omega, by have := kinds_len h.2.1; omega, h.2.2.2.1, h.2.2.1, h.2.2.2.2⟩
theorem imgFacts {q : InsM → Bool} {I : ImgM} (h : imgB q I = true) : ImgFacts q I := by
  unfold imgB at h
  simp only [Bool.and_eq_true, decide_eq_true_eq] at h
  obtain ⟨h1, h2, ⟨h3, h4⟩, h5, ⟨h6, h7⟩, h8, h9, h10⟩ := h
  exact ⟨nm_size16 h1, by have := kinds_len h2; omega, h3, fun m hm => impFacts (List.all_eq_true.1 h4 m hm), h6, h5, fun m hm => metFacts (List.all_eq_true.1 h7 m hm), h9⟩
theorem impL_len {m : ImpM} (h : ImpFacts m) : (impL m).length ≤ 24 := by
  have := h.size
  have := h.pars
  simp [impL, nameL, numsL, nums_len]
  omega
theorem metL_len {q : InsM → Bool} {m : MetM} (h : MetFacts q m) : (metL m).length ≤ 618 := by
  have h1 := h.pars
  have h2 := h.locs
  have h3 := h.code
  have h4 := flat_len m.code (fun i : InsM => layB i.op i.a i.b) 5 (fun x _ => lay_len _ _ _)
  have h5 : (codeL m.code).length ≤ 600 := by unfold codeL; omega
  unfold metL numsL
  simp only [List.length_append, List.length_cons, List.length_map, List.length_nil]
  omega
theorem imps_len {q : InsM → Bool} {I : ImgM} (h : ImgFacts q I) (k : Nat) : (impsL (I.imports.take k)).length ≤ 96 := by
  have := flat_take_len I.imports impL 24 k (fun m hm => impL_len (h.imp m hm))
  have := h.imps
  unfold impsL
  omega
theorem mets_len {q : InsM → Bool} {I : ImgM} (h : ImgFacts q I) (k : Nat) : (metsL (I.methods.take k)).length ≤ 4944 := by
  have := flat_take_len I.methods metL 618 k (fun m hm => metL_len (h.met m hm))
  have := h.mets
  unfold metsL
  omega
theorem img_len {q : InsM → Bool} {I : ImgM} (h : ImgFacts q I) : (imgL I).length ≤ 5100 := by
  have h1 := imps_len h I.imports.length
  have h2 := mets_len h I.methods.length
  rw [List.take_of_length_le (Nat.le_refl _)] at h1 h2
  have := h.size
  have := h.flds
  have := h.exps
  unfold imgL markL nameL numsL
  simp only [List.length_append, List.length_cons, List.length_map, List.length_nil, nums_len]
  omega

theorem Pen.box5 {t : TypeId} {K : Nat → Prop} {W w' : World} {b bx : Nat} {xs : List Int} {x y z u s : Value} (h : Pen t K W w' b xs) (hx : bx < W.heap.size) (hK : K bx) (hc : W.cell? ⟨bx, 0, none⟩ = some x ∧ W.cell? ⟨bx, 1, none⟩ = some y ∧ W.cell? ⟨bx, 2, none⟩ = some z ∧ W.cell? ⟨bx, 3, none⟩ = some u ∧ W.cell? ⟨bx, 4, none⟩ = some s) :
    w'.cell? ⟨bx, 0, none⟩ = some x ∧ w'.cell? ⟨bx, 1, none⟩ = some y ∧ w'.cell? ⟨bx, 2, none⟩ = some z ∧ w'.cell? ⟨bx, 3, none⟩ = some u ∧ w'.cell? ⟨bx, 4, none⟩ = some s :=
  ⟨(h.cell (p := ⟨bx, 0, none⟩) hx hK).trans hc.1, (h.cell (p := ⟨bx, 1, none⟩) hx hK).trans hc.2.1, (h.cell (p := ⟨bx, 2, none⟩) hx hK).trans hc.2.2.1, (h.cell (p := ⟨bx, 3, none⟩) hx hK).trans hc.2.2.2.1, (h.cell (p := ⟨bx, 4, none⟩) hx hK).trans hc.2.2.2.2⟩

set_option maxRecDepth 100000 in
set_option maxHeartbeats 4000000 in
theorem cImgLay_no (w : World) (v : Value) (I : ImgM) (h : Img w v I) (hr : imgB insB I = false) :
    Calls Tryz.prog 31 #[v] w fun e w' => e = .returned (.tuple #[.slice none 0 0, .int .i64 1]) ∧ Upd (fun _ => False) w w' := by
  have HI := Lib.hid h
  obtain ⟨f, i, m, x, rfl, hf, hi, hm, hx, hsz⟩ := h
  obtain ⟨fa, fc, rfl, -, -⟩ := hf.slice
  obtain ⟨ia, ic, rfl, -, -⟩ := hi.slice
  obtain ⟨ma, mc, rfl, hl1, hl2⟩ := hm.slice
  obtain ⟨xa, xc, rfl, -, -⟩ := hx.slice
  have HA := Lib.hid (Upd.alloc (fun _ => False) w (.cells #[.string I.name, .slice fa I.fields.length fc, .slice ia I.imports.length ic, .slice ma I.methods.length mc, .slice xa I.exports.length xc] 32))
  have HR := Lib.hid hr
  clear hf hi hm hx hsz hl1 hl2 hr
  go_enter Tryz.func31, Tryz.ntmps31
  go_wp2_with fail
  refine (cImgRight _ _ I (HI.out.later (upd_below HA.out))).mono ?_
  rw [HR.out]
  rintro e w1 ⟨rfl, hu⟩
  have HU := Lib.hid (HA.out.trans hu (fun _ h _ => h))
  clear hu
  go_wp2_with fail
  go_ret2
  exact ⟨rfl, HU.out⟩

set_option maxRecDepth 100000 in
set_option maxHeartbeats 8000000 in
theorem cImgLay (w : World) (v : Value) (I : ImgM) (h : Img w v I) (hr : imgB insB I = true) :
    Calls Tryz.prog 31 #[v] w fun e w' => ∃ x, e = .returned (.tuple #[x, .int .i64 0]) ∧ New w x (imgL I) w' := by
  have HI := Lib.hid h
  have HFX := Lib.hid (imgFacts hr)
  obtain ⟨f, i, m, x, rfl, hf, hi, hm, hx, hsz⟩ := h
  have HF := Lib.hid hf
  have HIM := Lib.hid hi
  have HM := Lib.hid hm
  have HX := Lib.hid hx
  obtain ⟨fa, fc, rfl, -, -⟩ := hf.slice
  obtain ⟨ia, ic, rfl, hi1, hi2⟩ := hi.slice
  obtain ⟨ma, mc, rfl, hl1, hl2⟩ := hm.slice
  obtain ⟨xa, xc, rfl, -, -⟩ := hx.slice
  unfold maxLen at hi2 hl2
  have HA := Lib.hid (Upd.alloc (fun _ => False) w (.cells #[.string I.name, .slice fa I.fields.length fc, .slice ia I.imports.length ic, .slice ma I.methods.length mc, .slice xa I.exports.length xc] 32))
  have HR := Lib.hid hr
  have HSZ := Lib.hid hsz
  clear hf hi hm hx hsz hr
  go_enter Tryz.func31, Tryz.ntmps31
  go_wp2_with fail
  refine (cImgRight _ _ I (HI.out.later (upd_below HA.out))).mono ?_
  rw [HR.out]
  rintro e w1 ⟨rfl, hu⟩
  have hc := cell5 hu (fun h => h)
  have HU := Lib.hid (HA.out.trans hu (fun _ h _ => h))
  have hlt1 : w.heap.size < w1.heap.size := by have := hu.size; simp at this; omega
  clear hu HA
  go_wp2_with fail
  refine (newWriter _).mono ?_
  rintro e w2 ⟨rfl, hw2, hu2⟩
  have hc2 := keep5 hu2 hc
  have HC := Lib.hid hc2
  have HU2 := Lib.hid (HU.out.trans hu2 (fun _ h _ => h))
  obtain ⟨K, hp2, hg, hk⟩ : ∃ K, Pen 118 K w2 w2 w1.heap.size [] ∧ Gr w K w2 ∧ K w.heap.size :=
    ⟨fun k => k < w2.heap.size ∧ k ≠ w1.heap.size, ⟨fun k hk => hk.1, _, hw2, fun k hk hn => by
      rcases hk with hk | hk
      · exact hn.2 hk
      · simp [Value.ownBlock] at hk, Upd.refl _ _⟩, ⟨upd_below HU2.out, fun k hk => ⟨by have := HU2.out.size; omega, by omega⟩⟩, by have := hu2.size; omega, by omega⟩
  have HP2 := Lib.hid hp2
  have HG := Lib.hid hg
  have HK := Lib.hid hk
  have HB := Lib.hid (show w.heap.size < w2.heap.size by have := hu2.size; omega)
  clear hw2 hu2 hc hc2 hp2 hg hk hlt1
  obtain ⟨c0, c1, c2, c3, c4⟩ := HC.out
  generalize w1.heap.size = bw at *
  have kc := Lib.run_convert_bytes_const (P := Tryz.prog) w2 23 5 #[.int .u8 84, .int .u8 65, .int .u8 67, .int .u8 73, .int .u8 1] 5 5 Tryz.underlying23 Tryz.underlying5
  have HA3 := Lib.hid (Upd.alloc (fun _ => False) w2 (.cells #[.int .u8 84, .int .u8 65, .int .u8 67, .int .u8 73, .int .u8 1] 5 (5, 6)))
  have HV3 := Lib.hid (vw_lit w2 5 (5, 6) markL #[.int .u8 84, .int .u8 65, .int .u8 67, .int .u8 73, .int .u8 1] 5 5 rfl rfl (Nat.le_refl _) (by unfold maxLen; omega) (by decide))
  go_wp2_with fail
  refine (pRaw (HP2.out.mono HA3.out) HV3.out (by simp [markL])).mono ?_
  rintro e w4 ⟨rfl, hp⟩
  rw [List.nil_append] at hp
  have HP4 := Lib.hid hp
  have hcc := hp.box5 HB.out HK.out HC.out
  clear hp c0 c1 c2 c3 c4
  obtain ⟨c0, c1, c2, c3, c4⟩ := hcc
  obtain ⟨sc, w5, hcv, hv, hu, -⟩ := conv_at w4 I.name HSZ.out w4.heap.size rfl
  have HV5 := Lib.hid hv
  have HU5 := Lib.hid hu
  clear hv hu kc
  go_wp2_with fail
  refine (pName I.name HP4.out rfl HV5.out HU5.out (by have := HFX.out.size; omega) (by simp [markL])).mono ?_
  rintro e w6 ⟨rfl, hp⟩
  have HP6 := Lib.hid hp
  have hcc := hp.box5 HB.out HK.out HC.out
  clear hp c0 c1 c2 c3 c4
  obtain ⟨c0, c1, c2, c3, c4⟩ := hcc
  clear hcv
  go_wp2_with fail
  refine (cLayNumbers _ w _ _ _ _ _ I.fields HP6.out HG.out HF.out (by have := HFX.out.size; simp [nameL, markL, nums_len]; omega) (by have := HFX.out.flds; omega)).mono ?_
  rintro e w7 ⟨rfl, hp⟩
  have HP7 := Lib.hid hp
  have hcc := hp.box5 HB.out HK.out HC.out
  clear hp c0 c1 c2 c3 c4
  obtain ⟨c0, c1, c2, c3, c4⟩ := hcc
  go_wp2_with fail
  refine (pU8 _ HP7.out (by have := HFX.out.size; have := HFX.out.flds; simp [nameL, markL, nums_len, numsL]; omega)).mono ?_
  rintro e w8 ⟨rfl, hp⟩
  obtain ⟨ys, hys⟩ : ∃ ys, ys = markL ++ nameL I.name ++ numsL I.fields ++ [(I.imports.length : Int) % 256] := ⟨_, rfl⟩
  have HYL := Lib.hid (show ys.length ≤ 100 by have := HFX.out.size; have := HFX.out.flds; rw [hys]; simp [nameL, markL, nums_len, numsL]; omega)
  have HY := Lib.hid hys
  have HP8 : Hid (Pen 118 K w2 w8 bw (ys ++ impsL (I.imports.take 0))) := Lib.hid (by rw [hys]; simpa [impsL] using hp)
  have hcc := hp.box5 HB.out HK.out HC.out
  clear hp c0 c1 c2 c3 c4 hys
  obtain ⟨c0, c1, c2, c3, c4⟩ := hcc
  go_wp2_with fail
  clear c0 c1 c2 c3 c4
  go_loopw [34, 6] (fun i _ wr => ∃ k : Nat, k ≤ I.imports.length ∧ i = .int .i64 k ∧ Hid (Pen 118 K w2 wr bw (ys ++ impsL (I.imports.take k)))) (fun i _ _ => I.imports.length - (intOf i).toNat)
  case atStart => exact ⟨0, Nat.zero_le _, rfl, HP8⟩
  case round =>
    obtain ⟨k, hk, rfl, HQ⟩ := hrel
    by_cases hlt : k < I.imports.length
    · obtain ⟨gb, off, pv, rfl, hc0, hc1, hc2, hc3, hX⟩ := HIM.out.at hlt
      obtain ⟨n, hn⟩ : ∃ n, n = I.imports.getD k default := ⟨_, rfl⟩
      rw [← hn] at hc0 hc1 hc3 hX
      obtain ⟨pa, pc, rfl, -, -⟩ := hX.1.slice
      have hb := HG.out.at HQ.out
      have hc0 := later hb hc0
      have hc1 := later hb hc1
      have hc2 := later hb hc2
      have hc3 := later hb hc3
      have HT := Lib.hid (flat_take impL hlt)
      have HR := Lib.hid (HFX.out.imp _ (mem_getD hlt))
      rw [← hn] at HT HR
      have HIX : Hid (Imp w (imp4 n.name n.exp (.slice pa n.params.length pc) n.res) n) := Lib.hid ⟨_, rfl, hX⟩
      have HQA := Lib.hid (HQ.out.mono (Upd.alloc _ wr (.cells #[.string n.name, .int .i64 n.exp, .slice pa n.params.length pc, .int .i64 n.res] 49)))
      clear hn hX hb
      go_wp2_with fail
      refine (cLayImport _ w _ _ _ _ _ n HQA.out HG.out HIX.out (by have := HR.out.size; omega) (by have := HYL.out; have := imps_len HFX.out k; simp; omega) (by have := HR.out.pars; omega)).mono ?_
      rintro e w9 ⟨rfl, hp⟩
      have HP9 : Hid (Pen 118 K w2 w9 bw (ys ++ impsL (I.imports.take (k + 1)))) := Lib.hid (by unfold impsL; rw [HT.out]; simpa [impsL] using hp)
      clear hp hc0 hc1 hc2 hc3
      go_wp2_with fail
      go_roundw
      case rel => exact ⟨k + 1, by omega, by go_num, HP9⟩
      case measure => simp [intOf]; omega
    · have HE := Lib.hid (show I.imports.take k = I.imports from List.take_of_length_le (by omega))
      have hcc := HQ.out.box5 HB.out HK.out HC.out
      obtain ⟨c0, c1, c2, c3, c4⟩ := hcc
      go_wp2_with fail
      refine (pU8 _ HQ.out (by have := HYL.out; have := imps_len HFX.out k; simp; omega)).mono ?_
      rintro e w8 ⟨rfl, hp⟩
      rw [HE.out] at hp
      obtain ⟨zs, hzs⟩ : ∃ zs, zs = ys ++ impsL I.imports ++ [(I.methods.length : Int) % 256] := ⟨_, rfl⟩
      have HZL := Lib.hid (show zs.length ≤ 300 by have := HYL.out; have := imps_len HFX.out k; rw [HE.out] at this; rw [hzs]; simp; omega)
      have HZ := Lib.hid hzs
      have HP8 : Hid (Pen 118 K w2 w8 bw (zs ++ metsL (I.methods.take 0))) := Lib.hid (by rw [hzs]; simpa [metsL] using hp)
      have hcc := hp.box5 HB.out HK.out HC.out
      clear hp c0 c1 c2 c3 c4 hzs
      obtain ⟨c0, c1, c2, c3, c4⟩ := hcc
      go_wp2_with fail
      clear c0 c1 c2 c3 c4
      go_loopw [50, 8] (fun i _ wr => ∃ k : Nat, k ≤ I.methods.length ∧ i = .int .i64 k ∧ Hid (Pen 118 K w2 wr bw (zs ++ metsL (I.methods.take k)))) (fun i _ _ => I.methods.length - (intOf i).toNat)
      case atStart => exact ⟨0, Nat.zero_le _, rfl, HP8⟩
      case round =>
        obtain ⟨k, hk, rfl, HQ⟩ := hrel
        by_cases hlt : k < I.methods.length
        · obtain ⟨gb, off, pv, qv, rv, rfl, hc0, hc1, hc2, hc3, hX⟩ := HM.out.at hlt
          obtain ⟨n, hn⟩ : ∃ n, n = I.methods.getD k default := ⟨_, rfl⟩
          rw [← hn] at hc1 hX
          obtain ⟨pa, pc, rfl, -, -⟩ := hX.1.slice
          obtain ⟨qa, qc, rfl, -, -⟩ := hX.2.1.slice
          obtain ⟨ra, rc, rfl, -, -⟩ := hX.2.2.1.slice
          have hb := HG.out.at HQ.out
          have hc0 := later hb hc0
          have hc1 := later hb hc1
          have hc2 := later hb hc2
          have hc3 := later hb hc3
          have HT := Lib.hid (flat_take metL hlt)
          have HR := Lib.hid (HFX.out.met _ (mem_getD hlt))
          rw [← hn] at HT HR
          have HIX : Hid (Met w (met4 (.slice pa n.params.length pc) n.res (.slice qa n.locals.length qc) (.slice ra n.code.length rc)) n) := Lib.hid ⟨_, _, _, rfl, hX⟩
          have HQA := Lib.hid (HQ.out.mono (Upd.alloc _ wr (.cells #[.slice pa n.params.length pc, .int .i64 n.res, .slice qa n.locals.length qc, .slice ra n.code.length rc] 52)))
          clear hn hX hb
          go_wp2_with fail
          refine (cLayMethod _ w _ _ _ _ _ n HQA.out HG.out HIX.out (by have := HZL.out; have := mets_len HFX.out k; simp; omega) (by have := HR.out.pars; omega) (by have := HR.out.locs; omega) (by have := HR.out.code; omega) HR.out.all).mono ?_
          rintro e w9 ⟨rfl, hp⟩
          have HP9 : Hid (Pen 118 K w2 w9 bw (zs ++ metsL (I.methods.take (k + 1)))) := Lib.hid (by unfold metsL; rw [HT.out]; simpa [metsL] using hp)
          clear hp hc0 hc1 hc2 hc3
          go_wp2_with fail
          go_roundw
          case rel => exact ⟨k + 1, by omega, by go_num, HP9⟩
          case measure => simp [intOf]; omega
        · have HE2 := Lib.hid (show I.methods.take k = I.methods from List.take_of_length_le (by omega))
          have hcc := HQ.out.box5 HB.out HK.out HC.out
          obtain ⟨c0, c1, c2, c3, c4⟩ := hcc
          go_wp2_with fail
          refine (cLayNumbers _ w _ _ _ _ _ I.exports HQ.out HG.out HX.out (by have := HZL.out; have := mets_len HFX.out k; simp; omega) (by have := HFX.out.exps; omega)).mono ?_
          rintro e w8 ⟨rfl, hp⟩
          rw [HE2.out] at hp
          have hL : zs ++ metsL I.methods ++ numsL I.exports = imgL I := by rw [HZ.out, HY.out]; simp [imgL]
          rw [hL] at hp
          have HP8 := Lib.hid hp
          clear hp c0 c1 c2 c3 c4 hL
          go_wp2_with fail
          obtain ⟨_, vw, hpv⟩ := HP8.out
          have HPV := Lib.hid hpv
          clear hpv
          refine (bytesOf _ _ _ _ HPV.out.wr (by have := img_len HFX.out; omega)).mono ?_
          rintro e w9 ⟨x9, rfl, hN⟩
          obtain ⟨a9, c9, rfl⟩ := ownsRow_slice hN.1
          have HN9 := Lib.hid hN
          clear hN
          go_wp2_with fail
          go_ret2
          have hN := HN9.out
          have hle := HPV.out.kept.size
          refine ⟨_, rfl, hN.1, ?_, fun k hk => Nat.le_trans HU2.out.size (Nat.le_trans hle (hN.2.2 k hk))⟩
          exact (upd_of_below (HG.out.at HP8.out)).trans hN.2.1 (fun _ h _ => h)
end Go.Proofs.YtmbdfmgidnjgeaaGreatDoor

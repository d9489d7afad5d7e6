/- Package room: a span is copied. -/
import Derived.Test.YtdmadfahgkikkaaGreatQek
namespace Go.Proofs.YtdmadfahgkikkaaGreat
open Go.RowKit Go.Lib Go.ChangeShapes Go.WideShapes Go.Deep
set_option linter.unusedVariables false
set_option linter.unusedSimpArgs false

theorem setFrom_take {xs vs : List Int} {o k : Nat} (hk : k < vs.length) : setFrom xs o (vs.take (k + 1)) = (setFrom xs o (vs.take k)).set (o + k) (vs.getD k 0) := by
  have e : vs.take (k + 1) = vs.take k ++ [vs.getD k 0] := by
    rw [List.take_add_one, List.getElem?_eq_getElem hk]
    simp [List.getD, hk]
  rw [e, setFrom_snoc]
  simp [Nat.min_eq_left (Nat.le_of_lt hk)]
theorem lay_at {m : HpM} {i : Nat} (hi : i < m.arrs.length) (ys : List Int) : ((m.lay i ys).arrs.getD i default).data = ys := by simp [HpM.lay, List.getD, hi, ArrM.put]
theorem lay_put {m : HpM} {i : Nat} (hi : i < m.arrs.length) (ys : List Int) (j : Nat) (y : Int) : (m.lay i ys).put i j y = m.lay i (ys.set j y) := by
  unfold HpM.put
  rw [lay_at hi]
  simp [HpM.lay, List.getD, hi, ArrM.put, List.set_set]
theorem lay_same {m : HpM} {i : Nat} (hi : i < m.arrs.length) : m.lay i (m.arrs.getD i default).data = m := by
  obtain ⟨sz, L⟩ := m
  simp only [HpM.lay, List.getD] at hi ⊢
  rw [List.getElem?_eq_getElem hi]
  simp only [Option.getD_some, ArrM.put]
  rw [setSame]
  rw [List.getElem?_eq_getElem hi]
def copyM (M : RmM) (ap : Int) (s u : SpM) : RmM := if reachP M.hp.arrs ap [s, u] = 36864 then M.withHp (M.hp.lay (s.ref - 1).toNat (setFrom (M.hp.arrs.getD (s.ref - 1).toNat default).data s.at_.toNat (cutP M.hp.arrs u.ref u.at_ u.n))) else M
section
variable {c : Nat → Nat} {w : World} {rb : Nat} {M : RmM}
set_option maxRecDepth 100000 in
set_option maxHeartbeats 1000000 in
theorem rCopy (h : Rm c w rb M) (ap : Int) (s u : SpM) (ha : s.at_ ≤ 9223372036854775807) (hb' : u.at_ ≤ 9223372036854775807) (hsn : s.n = u.n) :
    Calls Tryz.prog 83 #[.pointer (some ⟨rb, 0, none⟩), .int .i64 ap, .agg #[.int .i64 s.ref, .int .i64 s.at_, .int .i64 s.n], .agg #[.int .i64 u.ref, .int .i64 u.at_, .int .i64 u.n]] w fun e w' => e = .returned (.int .i64 (reachP M.hp.arrs ap [s, u])) ∧ ∃ c', Ext T1 c w c' w' ∧ Rm c' w' rb (copyM M ap s u) := by
  obtain ⟨w1, hw1⟩ : ∃ w1, w1 = ((w.alloc (.cells #[.int .i64 s.ref, .int .i64 s.at_, .int .i64 s.n] 132)).alloc (.cells #[.int .i64 u.ref, .int .i64 u.at_, .int .i64 u.n] 132)).alloc (.cells #[.int .i64 s.ref, .int .i64 s.at_, .int .i64 s.n, .int .i64 u.ref, .int .i64 u.at_, .int .i64 u.n] 132) := ⟨_, rfl⟩
  obtain ⟨hu1, hx1, hx2, hs1⟩ := box2 hw1
  have HR := Lib.hid (rReach (h.quiet hu1) ap _ _ hs1 (by simp) (by simp; omega))
  have HX := Lib.hid hx1
  have HY := Lib.hid hx2
  have HU1 := Lib.hid hu1
  have HW1 := Lib.hid hw1
  have H := Lib.hid h
  have HG := Lib.hid (show copyM M ap s u = if reachP M.hp.arrs ap [s, u] = 36864 then M.withHp (M.hp.lay (s.ref - 1).toNat (setFrom (M.hp.arrs.getD (s.ref - 1).toNat default).data s.at_.toNat (cutP M.hp.arrs u.ref u.at_ u.n))) else M from rfl)
  have HF := Lib.hid (fun e => reach2 (L := M.hp.arrs) (s := s) (u := u) (ap := ap) e)
  have hsz1 : w.heap.size + 2 ≤ w1.heap.size := by rw [hw1]; simp
  have HZ1 := Lib.hid hsz1
  clear hu1 hx1 hx2 hs1 hw1 h hsz1
  generalize copyM M ap s u = g at *
  rcases fine_or (reachP M.hp.arrs ap [s, u]) with e | ⟨e1, e2⟩
  · obtain ⟨f1, f2⟩ := HF.out e
    rw [e] at HR ⊢
    obtain ⟨ref1, at1, n1⟩ := s
    obtain ⟨ref2, at2, n2⟩ := u
    simp only at f1 f2 HX HY HG HW1 HR ha hb' hsn ⊢
    obtain ⟨i, a, k, hi, rfl, rfl, rfl, hak, -⟩ := rng_fine f1
    obtain ⟨j, b, l, hj, rfl, rfl, rfl, hbl, -⟩ := rng_fine f2
    have hkl : k = l := by omega
    obtain ⟨hb, iv, fv, pv, sv, ivs, fvs, h⟩ := H.out
    have hdi : (M.hp.arrs.getD i default).data.length ≤ 64 := hep_dl h.hp hi
    have hdj : (M.hp.arrs.getD j default).data.length ≤ 64 := hep_dl h.hp hj
    have hfew := h.ok.few
    have hg : g = M.withHp (M.hp.lay i (setFrom (M.hp.arrs.getD i default).data a (((M.hp.arrs.getD j default).data.drop b).take l))) := by
      rw [HG.out, if_pos e]; unfold cutP; rw [show ((i : Int) + 1 - 1).toNat = i by omega, show ((j : Int) + 1 - 1).toNat = j by omega]; rfl
    have HR2 := Lib.hid (fun v (hu : Upd (fun _ => False) w v) => rRead (H.out.quiet hu) hj hbl)
    obtain ⟨vs, hvs⟩ : ∃ vs, vs = ((M.hp.arrs.getD j default).data.drop b).take l := ⟨_, rfl⟩
    have hl2 : vs.length = l := by rw [hvs, List.length_take, List.length_drop]; omega
    obtain ⟨ds, hds⟩ : ∃ ds, ds = (M.hp.arrs.getD i default).data := ⟨_, rfl⟩
    rw [← hvs] at HR2 hg
    rw [← hds] at hg hak hdi
    have HLY : Hid (M.hp.lay i ds = M.hp) := Lib.hid (by rw [hds]; exact lay_same hi)
    have HOK : Hid (∀ zs : List Int, HpOk (M.hp.lay i (setFrom ds a zs))) := Lib.hid (fun zs => h.ok.lay i _ (.inr fun _ => by rw [setFrom_len, hds]))
    have HH := Lib.hid h
    have HGG := Lib.hid hg
    have HVB : Hid (∀ y ∈ vs, 0 ≤ y ∧ y ≤ 255) := Lib.hid (by
      obtain ⟨av, R, hh, hR⟩ := h.hp
      obtain ⟨hr, e⟩ := fst_at hR hj
      intro y hy
      rw [hvs] at hy
      have := List.mem_of_mem_drop (List.mem_of_mem_take hy)
      rw [← e] at this
      exact (hh.dat _ (List.getElem_mem hr)).byt y this)
    have HC2 : Hid (∀ v, Upd (fun k => paint c w 9 k = 1) w1 v → v.cell? ⟨rb, 2, none⟩ = some (.pointer (some ⟨hb, 0, none⟩)) ∧ v.cell? ⟨w.heap.size, 0, none⟩ = some (.int .i64 ((i : Int) + 1)) ∧ v.cell? ⟨w.heap.size, 1, none⟩ = some (.int .i64 a)) :=
      Lib.hid (fun v hu => by
        obtain ⟨e0, e1, -, -⟩ := three (hpBlk hu HX.out (by rw [paint_new c w 9 (Nat.le_refl _)]; omega))
        have hr := (h.aside HU1.out).box
        have hc := (h.aside HU1.out).cb
        exact ⟨(five (hpBlk hu hr (by rw [hc]; omega))).2.2.1, e0, e1⟩)
    have HY3 : Hid (∀ v, Upd (fun _ => False) w1 v → v.cell? ⟨w.heap.size + 1, 0, none⟩ = some (.int .i64 ((j : Int) + 1)) ∧ v.cell? ⟨w.heap.size + 1, 1, none⟩ = some (.int .i64 b) ∧ v.cell? ⟨w.heap.size + 1, 2, none⟩ = some (.int .i64 l)) :=
      Lib.hid (fun v hu => by
        obtain ⟨d0, d1, d2, -⟩ := three (hpBlk hu HY.out (fun h => h))
        exact ⟨d0, d1, d2⟩)
    subst hl2
    obtain rfl := hkl
    clear hg hvs hds HG HF e f1 f2 ha hb' hbl hdj h hsn H
    go_enter Tryz.func83, Tryz.ntmps83
    go_wp2_with fail
    rw [← HW1.out]
    refine HR.out.mono ?_
    rintro e w2 ⟨rfl, hu⟩
    obtain ⟨d0, d1, d2⟩ := HY3.out _ hu
    have HX2 := Lib.hid hu
    clear hu
    go_wp2_with fail
    refine (HR2.out _ (HU1.out.trans HX2.out (fun _ h _ => h))).mono ?_
    rintro e w3 ⟨x3, rfl, hv, hu, hnb⟩
    have HX3 := Lib.hid (HX2.out.trans hu (fun _ h _ => h))
    have HU3 := Lib.hid (HU1.out.trans HX3.out (fun _ h _ => h))
    have HV3 := Lib.hid hv
    have hnb2 : ∀ b, x3.ownBlock = some b → paint c w 9 b = 9 := fun b hb => paint_new c w 9 (Nat.le_trans (HU1.out.trans HX2.out (fun _ h _ => h)).size (hnb b hb))
    have HNB := Lib.hid hnb2
    obtain ⟨xa, xc, rfl, hxc, hxm⟩ := hv.slice
    have H30 : Hid (RmAt (paint c w 9) w3 rb hb iv fv pv sv ivs fvs (M.withHp (M.hp.lay i (setFrom ds a (vs.take 0))))) := Lib.hid (by
      rw [show setFrom ds a (vs.take 0) = ds from rfl, HLY.out]
      exact HH.out.aside HU3.out)
    have HE0 := Lib.hid (Ext.refl T1 (paint c w 9) w3)
    clear hv hu d0 d1 d2 hnb hnb2
    unfold maxLen at hxm
    go_wp2_with fail
    go_loopw [25, 10, 11] (fun t _ _ wr => ∃ k d, k ≤ vs.length ∧ t = .int .i64 (k : Nat) ∧ Hid (Ext T1 (paint c w 9) w3 d wr) ∧ Hid (RmAt d wr rb hb iv fv pv sv ivs fvs (M.withHp (M.hp.lay i (setFrom ds a (vs.take k)))))) (fun t _ _ _ => vs.length - (intOf t).toNat)
    case atStart => exact ⟨0, paint c w 9, Nat.zero_le _, rfl, HE0, H30⟩
    case round =>
      obtain ⟨k, d, hk, rfl, HE, HM⟩ := hrel
      have hw31 : Upd (fun k => paint c w 9 k = 1) w1 wr := (HX3.out.mono (fun _ h _ => h.elim)).trans HE.out.upd (fun k hk _ => hk)
      by_cases hlt : k < vs.length
      · have hv := HE.out.vw HV3.out (fun b hb => by rw [HNB.out b hb]; omega)
        have HBr : Hid (∀ v, Upd (fun k => d k = 1) wr v → v.cell? ⟨rb, 2, none⟩ = some (.pointer (some ⟨hb, 0, none⟩)) ∧ v.cell? ⟨w.heap.size, 0, none⟩ = some (.int .i64 ((i : Int) + 1)) ∧ v.cell? ⟨w.heap.size, 1, none⟩ = some (.int .i64 a)) :=
          Lib.hid (fun v hu => HC2.out v (hw31.trans hu (fun k hk hl => by rw [HE.out.same k (Nat.lt_of_lt_of_le hl HX3.out.size)] at hk; exact hk)))
        rcases hv.2 with ⟨_, h0⟩ | ⟨gg, off, cc, he, -, -, hcell⟩
        · subst h0; simp at hlt
        simp at he
        obtain ⟨rfl, rfl⟩ := he
        have hc := hcell k hlt
        have hyb : 0 ≤ vs.getD k 0 ∧ vs.getD k 0 ≤ 255 := HVB.out _ (by simp [List.getD, hlt])
        have HST := Lib.hid (setFrom_take (xs := ds) (o := a) hlt)
        have HS : Hid (Calls Tryz.prog 98 #[.pointer (some ⟨hb, 0, none⟩), .int .i64 ((i : Int) + 1), .int .i64 ((a : Int) + (k : Int)), .int .u8 (vs.getD k 0)] wr.drew fun e w' => e = .returned (.bool true) ∧ Hep HT (Col d wr.drew 1) w' hb (M.hp.lay i (setFrom ds a (vs.take (k + 1)))) ∧ Upd (Col d wr.drew 1) wr.drew w') := Lib.hid (by
          have hmm := (HM.out.quiet (Upd.drew (fun _ => False) wr))
          have hll : (M.hp.lay i (setFrom ds a (vs.take k))).arrs.length = M.hp.arrs.length := by simp [HpM.lay]
          have := pPut hmm.hp (i := i) (by show i < (M.hp.lay i _).arrs.length; rw [hll]; exact hi) (by show (M.hp.lay i _).arrs.length ≤ 1000; rw [hll]; omega) (j := a + k) (by show _ < (((M.hp.lay i _).arrs.getD i default).data).length; rw [lay_at hi, setFrom_len]; omega) (vs.getD k 0) hyb
          rw [show (M.withHp (M.hp.lay i (setFrom ds a (vs.take k)))).hp = M.hp.lay i (setFrom ds a (vs.take k)) from rfl, lay_put hi, ← HST.out] at this
          rwa [Int.natCast_add] at this)
        generalize vs.getD k 0 = y at *
        have hwk : IntKind.i64.wrap ((a : Int) + (k : Int)) = (a : Int) + (k : Int) := IntWalk.i64_in _ (by omega)
        have HDr : Hid (Upd (fun k => d k = 1) wr wr.drew) := Lib.hid (Upd.drew _ _)
        clear hv hw31 hcell HST
        go_wp2_with fail
        go_region_held3 (fun w' => w'.cell? ⟨rb, 2, none⟩ = some (.pointer (some ⟨hb, 0, none⟩)) ∧ w'.cell? ⟨w.heap.size, 0, none⟩ = some (.int .i64 ((i : Int) + 1)) ∧ w'.cell? ⟨w.heap.size, 1, none⟩ = some (.int .i64 a)) (first
          | with_reducible exact HBr.out _ HDr.out
          | with_reducible exact HBr.out _ HX5.out) (first
          | (go_at_call 98; (with_reducible refine (HS.out).mono ?_); rintro e w5 ⟨rfl, hh, hu⟩; have HX5 : Hid (Upd (fun k => d k = 1) wr w5) := Lib.hid (HDr.out.trans hu (fun _ h _ => h.1)); have HM5 := Lib.hid (RmAt.heapS (HM.out.quiet (Upd.drew (fun _ => False) wr)) hh hu (HOK.out _)); clear hh hu))
        all_goals
          go_wp2_with fail
          go_roundw
          case rel => exact ⟨k + 1, _, by omega, by go_num, Lib.hid ((HE.out.trans (Ext.quietT T1 d (Upd.drew (fun _ => False) wr)) (fun _ h => h)).trans HM5.out.1 (fun _ h => h)), Lib.hid HM5.out.2⟩
          case measure => simp [intOf]; omega
      · have HM2 := Lib.hid HM.out
        rw [List.take_of_length_le (by omega)] at HM2
        go_wp2_with fail
        go_ret
        rw [HGG.out]
        exact ⟨rfl, d, (Ext.made T1 9 HU3.out).trans HE.out (fun _ h => h), _, _, _, _, _, _, _, HM2.out⟩
  · have hg : g = M := by rw [HG.out, if_neg e2]
    subst hg
    generalize reachP g.hp.arrs ap [s, u] = st at *
    clear HG HF e2 HX HY hsn
    go_enter Tryz.func83, Tryz.ntmps83
    go_wp2_with fail
    rw [← HW1.out]
    refine HR.out.mono ?_
    rintro e w2 ⟨rfl, hu⟩
    have HX2 := Lib.hid (HU1.out.trans hu (fun _ h _ => h))
    clear hu
    go_wp2_with fail
    go_ret
    exact ⟨rfl, c, Ext.quietT _ c HX2.out, H.out.quiet HX2.out⟩
end
end Go.Proofs.YtdmadfahgkikkaaGreat

/- Package room: whether two spans are alike. -/
import Derived.Test.YtdmadfahgkikkaaGreatQek
namespace Go.Proofs.YtdmadfahgkikkaaGreat
open Go.RowKit Go.Lib Go.ChangeShapes Go.WideShapes Go.Deep
set_option linter.unusedVariables false
set_option linter.unusedSimpArgs false

section
variable {c : Nat → Nat} {w : World} {rb : Nat} {M : RmM}
set_option maxRecDepth 100000 in
set_option maxHeartbeats 1000000 in
theorem rSameS (h : Rm c w rb M) (ap : Int) (s u : SpM) (ha : s.at_ ≤ 9223372036854775807) (hb' : u.at_ ≤ 9223372036854775807) :
    Calls Tryz.prog 84 #[.pointer (some ⟨rb, 0, none⟩), .int .i64 ap, .agg #[.int .i64 s.ref, .int .i64 s.at_, .int .i64 s.n], .agg #[.int .i64 u.ref, .int .i64 u.at_, .int .i64 u.n]] w fun e w' => e = .returned (.tuple #[.int .i32 (sameP M.hp.arrs ap s u), .int .i64 (reachP M.hp.arrs ap [s, u])]) ∧ Upd (fun _ => False) w w' := by
  obtain ⟨w1, hw1⟩ : ∃ w1, w1 = ((w.alloc (.cells #[.int .i64 s.ref, .int .i64 s.at_, .int .i64 s.n] 132)).alloc (.cells #[.int .i64 u.ref, .int .i64 u.at_, .int .i64 u.n] 132)).alloc (.cells #[.int .i64 s.ref, .int .i64 s.at_, .int .i64 s.n, .int .i64 u.ref, .int .i64 u.at_, .int .i64 u.n] 132) := ⟨_, rfl⟩
  obtain ⟨hu1, hx1, hx2, hs1⟩ := box2 hw1
  have HR := Lib.hid (rReach (h.quiet hu1) ap _ _ hs1 (by simp) (by simp; omega))
  have HX := Lib.hid hx1
  have HY := Lib.hid hx2
  have HU1 := Lib.hid hu1
  have HW1 := Lib.hid hw1
  have H := Lib.hid h
  have HG := Lib.hid (show sameP M.hp.arrs ap s u = if reachP M.hp.arrs ap [s, u] = 36864 then (if cutP M.hp.arrs s.ref s.at_ s.n = cutP M.hp.arrs u.ref u.at_ u.n then 1 else 0) else 0 from rfl)
  have HF := Lib.hid (fun e => reach2 (L := M.hp.arrs) (s := s) (u := u) (ap := ap) e)
  clear hu1 hx1 hx2 hs1 hw1 h
  generalize sameP M.hp.arrs ap s u = g at *
  rcases fine_or (reachP M.hp.arrs ap [s, u]) with e | ⟨e1, e2⟩
  · obtain ⟨f1, f2⟩ := HF.out e
    rw [e] at HR ⊢
    obtain ⟨ref1, at1, n1⟩ := s
    obtain ⟨ref2, at2, n2⟩ := u
    simp only at f1 f2 HX HY HG HW1 HR ha hb' ⊢
    obtain ⟨i, a, k, hi, rfl, rfl, rfl, hak, -⟩ := rng_fine f1
    obtain ⟨j, b, l, hj, rfl, rfl, rfl, hbl, -⟩ := rng_fine f2
    have hdi : (M.hp.arrs.getD i default).data.length ≤ 64 := by
      obtain ⟨hb, iv, fv, pv, sv, ivs, fvs, h⟩ := H.out
      exact hep_dl h.hp hi
    have hdj : (M.hp.arrs.getD j default).data.length ≤ 64 := by
      obtain ⟨hb, iv, fv, pv, sv, ivs, fvs, h⟩ := H.out
      exact hep_dl h.hp hj
    have hg : g = if ((M.hp.arrs.getD i default).data.drop a).take k = ((M.hp.arrs.getD j default).data.drop b).take l then 1 else 0 := by
      rw [HG.out, if_pos e]; unfold cutP; rw [show ((i : Int) + 1 - 1).toNat = i by omega, show ((j : Int) + 1 - 1).toNat = j by omega]; rfl
    have HR1 := Lib.hid (fun v (hu : Upd (fun _ => False) w v) => rRead (H.out.quiet hu) hi hak)
    have HR2 := Lib.hid (fun v (hu : Upd (fun _ => False) w v) => rRead (H.out.quiet hu) hj hbl)
    have hl1 : (((M.hp.arrs.getD i default).data.drop a).take k).length ≤ 64 := by simp; omega
    have hl2 : (((M.hp.arrs.getD j default).data.drop b).take l).length ≤ 64 := by simp; omega
    have HB : Hid (∀ v, Upd (fun _ => False) w1 v → (v.cell? ⟨w.heap.size, 0, none⟩ = some (.int .i64 ((i : Int) + 1)) ∧ v.cell? ⟨w.heap.size, 1, none⟩ = some (.int .i64 a) ∧ v.cell? ⟨w.heap.size, 2, none⟩ = some (.int .i64 k)) ∧ (v.cell? ⟨w.heap.size + 1, 0, none⟩ = some (.int .i64 ((j : Int) + 1)) ∧ v.cell? ⟨w.heap.size + 1, 1, none⟩ = some (.int .i64 b) ∧ v.cell? ⟨w.heap.size + 1, 2, none⟩ = some (.int .i64 l))) :=
      Lib.hid (fun v hu => by
        obtain ⟨e0, e1, e2, -⟩ := three (hpBlk hu HX.out (fun h => h))
        obtain ⟨d0, d1, d2, -⟩ := three (hpBlk hu HY.out (fun h => h))
        exact ⟨⟨e0, e1, e2⟩, d0, d1, d2⟩)
    clear HG HF e H f1 f2 ha hb' hak hbl hdi hdj
    generalize ((M.hp.arrs.getD i default).data.drop a).take k = xs at *
    generalize ((M.hp.arrs.getD j default).data.drop b).take l = ys at *
    have HGG := Lib.hid hg
    have HL1 := Lib.hid hl1
    have HL2 := Lib.hid hl2
    clear hg hl1 hl2
    have HSB : Hid (∀ (v : World) x y, Vw v x xs → Vw v y ys → Calls Tryz.prog 100 #[x, y] v fun e w' => e = .returned (.int .i32 g) ∧ v = w') := Lib.hid (fun v x y hx hy => by
      have hgg := HGG.out
      have l1 := HL1.out
      have l2 := HL2.out
      by_cases hxy : xs = ys
      · rw [if_pos hxy] at hgg
        rw [hgg]
        exact same_yes v x y xs ys hx hy (by omega) (by omega) hxy
      · rw [if_neg hxy] at hgg
        rw [hgg]
        exact same_no v x y xs ys hx hy (by omega) (by omega) hxy)
    clear HGG
    go_enter Tryz.func84, Tryz.ntmps84
    go_wp2_with fail
    rw [← HW1.out]
    refine HR.out.mono ?_
    rintro e w2 ⟨rfl, hu⟩
    have HD := Lib.hid (hu.trans (Upd.drew (fun _ => False) w2) (fun _ h _ => h))
    clear hu
    go_wp2_with fail
    go_region_held3 (fun w' => (w'.cell? ⟨w.heap.size, 0, none⟩ = some (.int .i64 ((i : Int) + 1)) ∧ w'.cell? ⟨w.heap.size, 1, none⟩ = some (.int .i64 a) ∧ w'.cell? ⟨w.heap.size, 2, none⟩ = some (.int .i64 k)) ∧ (w'.cell? ⟨w.heap.size + 1, 0, none⟩ = some (.int .i64 ((j : Int) + 1)) ∧ w'.cell? ⟨w.heap.size + 1, 1, none⟩ = some (.int .i64 b) ∧ w'.cell? ⟨w.heap.size + 1, 2, none⟩ = some (.int .i64 l))) (first
      | with_reducible exact HB.out _ HX4.out
      | with_reducible exact HB.out _ HX3.out
      | with_reducible exact HB.out _ HD.out) (first
      | (go_at_call 100; (with_reducible refine (HSB.out _ _ _ HV3.out HV4.out).mono ?_); rintro e w5 ⟨rfl, rfl⟩)
      | (go_at_call 99; (with_reducible refine (HR1.out _ (HU1.out.trans HD.out (fun _ h _ => h))).mono ?_); rintro e w3 ⟨x3, rfl, hv, hu, -⟩; obtain ⟨xa, xc, rfl, -, -⟩ := hv.slice; have HX3 := Lib.hid (HD.out.trans hu (fun _ h _ => h)); have HV3 := Lib.hid hv; clear hv hu)
      | (go_at_call 99; (with_reducible refine (HR2.out _ (HU1.out.trans HX3.out (fun _ h _ => h))).mono ?_); rintro e w4 ⟨x4, rfl, hv, hu, -⟩; obtain ⟨ya, yc, rfl, -, -⟩ := hv.slice; have HX4 := Lib.hid (HX3.out.trans hu (fun _ h _ => h)); have hv3 := HV3.out.upd hu (fun _ _ h => h); clear HV3; have HV3 := Lib.hid hv3; have HV4 := Lib.hid hv; clear hv hu hv3))
    all_goals
      go_wp2_with fail
      refine bodyPost_ret (v := .tuple #[.int .i32 g, .int .i64 36864]) (by simp only [results, Tryz.f84]; simp [go_sem]) rfl ?_
      exact ⟨rfl, HU1.out.trans HX4.out (fun _ h _ => h)⟩
  · have hg : g = 0 := by rw [HG.out, if_neg e2]
    subst hg
    generalize reachP M.hp.arrs ap [s, u] = st at *
    clear HG HF e2 HX HY
    go_enter Tryz.func84, Tryz.ntmps84
    go_wp2_with fail
    rw [← HW1.out]
    refine HR.out.mono ?_
    rintro e w2 ⟨rfl, hu⟩
    have HX2 := Lib.hid (HU1.out.trans hu (fun _ h _ => h))
    clear hu
    go_wp2_with fail
    refine bodyPost_ret (v := .tuple #[.int .i32 0, .int .i64 st]) (by simp only [results, Tryz.f84]; simp [go_sem]) rfl ?_
    exact ⟨rfl, HX2.out⟩
end
end Go.Proofs.YtdmadfahgkikkaaGreat

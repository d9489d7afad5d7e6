/- Package room: a byte, and how long an array is. -/
import Derived.Test.YtdmadfahgkikkaaGreatQck
namespace Go.Proofs.YtdmadfahgkikkaaGreat
open Go.RowKit Go.Lib Go.ChangeShapes Go.WideShapes Go.Deep
set_option linter.unusedVariables false
set_option linter.unusedSimpArgs false

def byteP (L : List ArrM) (ref at_ : Int) : Int := (L.getD (ref - 1).toNat default).data.getD at_.toNat 0
def getP (L : List ArrM) (ref at_ ap : Int) : Int := if rngP L ref at_ 1 ap = 36864 then byteP L ref at_ else 0
def longP (L : List ArrM) (ref ap : Int) : Int := if chkP L ref ap = 36864 then ((L.getD (ref - 1).toNat default).data.length : Int) else 0
theorem fine_or (s : Int) : s = 36864 ∨ ((s != 36864) = true ∧ s ≠ 36864) := by
  by_cases h : s = 36864
  · exact .inl h
  · exact .inr ⟨by simpa using h, h⟩
theorem reach1 (L : List ArrM) (ap : Int) (s : SpM) : reachP L ap [s] = rngP L s.ref s.at_ s.n ap := by
  simp only [reachP]
  split
  · rename_i h; exact h.symm
  · rfl
/-- the box of a span, and a slice of one span behind it -/
theorem box1 {w w1 : World} {s : SpM} (hw1 : w1 = (w.alloc (.cells #[.int .i64 s.ref, .int .i64 s.at_, .int .i64 s.n] 132)).alloc (.cells #[.int .i64 s.ref, .int .i64 s.at_, .int .i64 s.n] 132)) :
    Upd (fun _ => False) w w1 ∧ w1.heap[w.heap.size]? = some (.cells #[.int .i64 s.ref, .int .i64 s.at_, .int .i64 s.n] 132 (0, 0)) ∧ Sps w1 (.slice (some ⟨w.heap.size + 1, 0, none⟩) 1 1) [s] := by
  subst hw1
  refine ⟨(Upd.alloc _ _ _).trans (Upd.alloc _ _ _) (fun _ h _ => h), ?_, sps1 (t := 132) (hpTop _ _ _ (by simp))⟩
  exact hpBlk (S := fun _ => False) (Upd.alloc _ _ _) (hpTop w _ _ rfl) (fun h => h)
section
variable {c : Nat → Nat} {w : World} {rb : Nat} {M : RmM}
set_option maxRecDepth 100000 in
set_option maxHeartbeats 1000000 in
theorem rGet (h : Rm c w rb M) (ap ref at_ : Int) (ha : at_ ≤ 9223372036854775807) :
    Calls Tryz.prog 81 #[.pointer (some ⟨rb, 0, none⟩), .int .i64 ap, .agg #[.int .i64 ref, .int .i64 at_, .int .i64 1]] w fun e w' => e = .returned (.tuple #[.int .i32 (getP M.hp.arrs ref at_ ap), .int .i64 (rngP M.hp.arrs ref at_ 1 ap)]) ∧ Upd (fun _ => False) w w' := by
  obtain ⟨w1, hw1⟩ : ∃ w1, w1 = (w.alloc (.cells #[.int .i64 ref, .int .i64 at_, .int .i64 1] 132)).alloc (.cells #[.int .i64 ref, .int .i64 at_, .int .i64 1] 132) := ⟨_, rfl⟩
  obtain ⟨hu1, hx1, hs1⟩ := box1 (s := ⟨ref, at_, 1⟩) hw1
  have HR := Lib.hid (rReach (h.quiet hu1) ap _ _ hs1 (by simp) (by simpa using ha))
  rw [reach1] at HR
  simp only at HR hx1
  have HX := Lib.hid hx1
  have HU1 := Lib.hid hu1
  have HW1 := Lib.hid hw1
  have H := Lib.hid h
  have HG := Lib.hid (show getP M.hp.arrs ref at_ ap = if rngP M.hp.arrs ref at_ 1 ap = 36864 then byteP M.hp.arrs ref at_ else 0 from rfl)
  have hF := fun e => rng_fine (L := M.hp.arrs) (ref := ref) (at_ := at_) (n := 1) (ap := ap) e
  have HF := Lib.hid hF
  clear hu1 hx1 hs1 hw1 h hF
  generalize getP M.hp.arrs ref at_ ap = g at *
  rcases fine_or (rngP M.hp.arrs ref at_ 1 ap) with e | ⟨e1, e2⟩
  · obtain ⟨i, a, k, hi, rfl, rfl, hk, hak, -⟩ := HF.out e
    obtain rfl : k = 1 := by omega
    clear hk
    have HG2 : Hid (g = (M.hp.arrs.getD i default).data.getD a 0) := Lib.hid (by rw [HG.out, if_pos e]; unfold byteP; rw [show ((i : Int) + 1 - 1).toNat = i by omega]; rfl)
    obtain ⟨hb, iv, fv, pv, sv, ivs, fvs, h⟩ := H.out
    have hfew := h.ok.few
    have HS := Lib.hid (fun u (hu : Upd (fun _ => False) w u) => pGet (h.quiet hu).hp hi (by omega) (j := a) (by omega))
    have HB : Hid (∀ u, Upd (fun _ => False) w1 u → u.cell? ⟨rb, 2, none⟩ = some (.pointer (some ⟨hb, 0, none⟩)) ∧ u.cell? ⟨w.heap.size, 0, none⟩ = some (.int .i64 ((i : Int) + 1)) ∧ u.cell? ⟨w.heap.size, 1, none⟩ = some (.int .i64 a)) :=
      Lib.hid (fun u hu => by
        obtain ⟨e0, e1, -, -⟩ := three (hpBlk hu HX.out (fun h => h))
        exact ⟨(h.quiet (HU1.out.trans hu (fun _ h _ => h))).bx.2.2.1, e0, e1⟩)
    have hby : 0 ≤ (M.hp.arrs.getD i default).data.getD a 0 ∧ (M.hp.arrs.getD i default).data.getD a 0 ≤ 255 := by
      obtain ⟨av, R, hh, hR⟩ := h.hp
      obtain ⟨hr, e⟩ := fst_at hR hi
      rw [← e] at hak ⊢
      refine (hh.dat _ (List.getElem_mem hr)).byt _ ?_
      simp [List.getD, show a < R[i].1.data.length by omega]
    generalize (M.hp.arrs.getD i default).data.getD a 0 = y at *
    have hwy : IntKind.i32.wrap y = y := by rw [IntKind.wrap_i32]; omega
    rw [e] at HR ⊢
    have hg := HG2.out
    subst hg
    clear h HG HF hak e H hfew ha HG2
    go_enter Tryz.func81, Tryz.ntmps81
    go_wp2_with fail
    rw [← HW1.out]
    refine HR.out.mono ?_
    rintro e w2 ⟨rfl, hu⟩
    have HX2 := Lib.hid hu
    have HD := Lib.hid (hu.trans (Upd.drew (fun _ => False) w2) (fun _ h _ => h))
    clear hu
    go_wp2_with fail
    go_region_held3 (fun w' => w'.cell? ⟨rb, 2, none⟩ = some (.pointer (some ⟨hb, 0, none⟩)) ∧ w'.cell? ⟨w.heap.size, 0, none⟩ = some (.int .i64 ((i : Int) + 1)) ∧ w'.cell? ⟨w.heap.size, 1, none⟩ = some (.int .i64 a)) (first
      | with_reducible exact HB.out _ HD.out) (first
      | (go_at_call 97; (refine (HS.out _ (HU1.out.trans HD.out (fun _ h _ => h))).mono ?_); rintro e w3 ⟨rfl, rfl⟩))
    all_goals
      go_wp2_with fail
      refine bodyPost_ret (v := .tuple #[.int .i32 g, .int .i64 36864]) (by simp only [results, Tryz.f81]; simp [go_sem]) rfl ?_
      exact ⟨rfl, HU1.out.trans HD.out (fun _ h _ => h)⟩
  · have hg : g = 0 := by rw [HG.out, if_neg e2]
    subst hg
    generalize rngP M.hp.arrs ref at_ 1 ap = st at *
    clear HG HF e2 H HX
    go_enter Tryz.func81, Tryz.ntmps81
    go_wp2_with fail
    rw [← HW1.out]
    refine HR.out.mono ?_
    rintro e w2 ⟨rfl, hu⟩
    have HX2 := Lib.hid (HU1.out.trans hu (fun _ h _ => h))
    clear hu
    go_wp2_with fail
    refine bodyPost_ret (v := .tuple #[.int .i32 0, .int .i64 st]) (by simp only [results, Tryz.f81]; simp [go_sem]) rfl ?_
    exact ⟨rfl, HX2.out⟩
set_option maxRecDepth 100000 in
set_option maxHeartbeats 1000000 in
theorem rLength (h : Rm c w rb M) (ap ref : Int) :
    Calls Tryz.prog 80 #[.pointer (some ⟨rb, 0, none⟩), .int .i64 ap, .int .i64 ref] w fun e w' => e = .returned (.tuple #[.int .i32 (longP M.hp.arrs ref ap), .int .i64 (chkP M.hp.arrs ref ap)]) ∧ Upd (fun _ => False) w w' := by
  obtain ⟨hb, iv, fv, pv, sv, ivs, fvs, h⟩ := h
  have hfew := h.ok.few
  have HR := Lib.hid (wCheck h.hp (by omega) ref ap)
  have HG := Lib.hid (show longP M.hp.arrs ref ap = if chkP M.hp.arrs ref ap = 36864 then ((M.hp.arrs.getD (ref - 1).toNat default).data.length : Int) else 0 from rfl)
  have HF := Lib.hid (fun e => chk_fine (L := M.hp.arrs) (ref := ref) (ap := ap) e)
  obtain ⟨-, -, b2, -, -, -⟩ := h.bx
  have HB : Hid (∀ u, Upd (fun _ => False) w u → u.cell? ⟨rb, 2, none⟩ = some (.pointer (some ⟨hb, 0, none⟩))) := Lib.hid (fun u hu => (h.quiet hu).bx.2.2.1)
  have H := Lib.hid h
  clear h
  generalize longP M.hp.arrs ref ap = g at *
  rcases fine_or (chkP M.hp.arrs ref ap) with e | ⟨e1, e2⟩
  · obtain ⟨i, hi, rfl, -⟩ := HF.out e
    have HA : Hid (∀ u, Upd (fun _ => False) w u → Calls Tryz.prog 95 #[.pointer (some ⟨hb, 0, none⟩), .int .i64 ((i : Int) + 1)] u fun e w' => ∃ d, e = .returned (.tuple #[aval (M.hp.arrs.getD i default) d, .bool true]) ∧ New u d (M.hp.arrs.getD i default).data w') :=
      Lib.hid (fun u hu => pArray (H.out.quiet hu).hp hi (by omega))
    have hg : g = ((M.hp.arrs.getD i default).data.length : Int) := by rw [HG.out, if_pos e, show ((i : Int) + 1 - 1).toNat = i by omega]
    have hdl := hep_dl H.out.hp hi
    rw [e] at HR ⊢
    subst hg
    clear HG HF e H
    generalize M.hp.arrs.getD i default = x at *
    obtain ⟨own, lab, life, sh, ys⟩ := x
    simp only at HA hdl ⊢
    have hwy : IntKind.i32.wrap (ys.length : Int) = (ys.length : Int) := by rw [IntKind.wrap_i32]; omega
    go_enter Tryz.func80, Tryz.ntmps80
    go_wp2_with fail
    refine HR.out.mono ?_
    rintro e w2 ⟨rfl, hu⟩
    have b3 := HB.out _ hu
    have HX2 := Lib.hid hu
    clear hu
    go_wp2_with fail
    refine (HA.out _ HX2.out).mono ?_
    rintro e w3 ⟨d, rfl, hn⟩
    obtain ⟨da, dc, rfl⟩ := ownsRow_slice hn.1
    have HX3 := Lib.hid (fun o => HX2.out.trans (hn.2.1.trans (Upd.alloc (fun _ => False) w3 o) (fun _ h _ => h)) (fun _ h _ => h))
    clear hn
    simp only [aval]
    go_wp2_with fail
    refine bodyPost_ret (v := .tuple #[.int .i32 (ys.length : Int), .int .i64 36864]) (by simp only [results, Tryz.f80]; simp [go_sem]) rfl ?_
    exact ⟨rfl, HX3.out _⟩
  · have hg : g = 0 := by rw [HG.out, if_neg e2]
    subst hg
    generalize chkP M.hp.arrs ref ap = st at *
    clear HG HF e2 H
    go_enter Tryz.func80, Tryz.ntmps80
    go_wp2_with fail
    refine HR.out.mono ?_
    rintro e w2 ⟨rfl, hu⟩
    have HX2 := Lib.hid hu
    clear hu
    go_wp2_with fail
    refine bodyPost_ret (v := .tuple #[.int .i32 0, .int .i64 st]) (by simp only [results, Tryz.f80]; simp [go_sem]) rfl ?_
    exact ⟨rfl, HX2.out⟩
end
end Go.Proofs.YtdmadfahgkikkaaGreat

/- The hand's maker: a statement, ways 9. -/
import Derived.Test.YtmikibcgphkcfaaGreatDoorMq
import Derived.Test.YtmikibcgphkcfaaGreatDoorRaws
import Derived.Deep.RegionHeld3
namespace Go.Proofs.YtmikibcgphkcfaaGreatDoor
open Go.RowKit Go.Lib
set_option linter.unusedVariables false

set_option maxRecDepth 100000 in
set_option maxHeartbeats 40000000 in
theorem mStmtc (W0 : Gnd) (w0 : World) (b : Nat) (d : Int) (c : Nat) (o a' b' c' : Int) (sv mv iv : Value) (h0 : Mk 62 W0 w0 b d c) (hB0 : Bins W0) (d0 : 0 ≤ d) (d9 : d ≤ 900) (hc : c ≤ 400000000) {Ss : List Int} (hsv : ∀ w', Upd W0.S W0.w0 w' → Ints w' sv Ss) (hss : Ss.length ≤ 1000) {Is : List ImpM} (hiv : ∀ w', Upd W0.S W0.w0 w' → Imps w' iv Is) (his : Is.length ≤ 1000) (hip : ∀ i ∈ Is, i.params.length ≤ 3) {Ms : List MetM} (hmv : ∀ w', Upd W0.S W0.w0 w' → Mets w' mv Ms) (hms : 0 < Ms.length ∧ Ms.length ≤ 1000) (hmp : ∀ m ∈ Ms, m.params.length ≤ 3) (wo : wi64 o) (wa : wi64 a') (wb : wi64 b') (hpp : o % 16 = 9) :
    Calls Tryz.prog 26 #[.pointer (some ⟨b, 0, none⟩), raw4 o a' b' c', sv, mv, iv] w0 fun e w' => e = .returned (.tuple #[]) ∧ Mk 62 W0 w' b d (c + 500000) := by
  obtain ⟨S, hS, hA, -⟩ := h0.turn
  obtain ⟨sa, sc, rfl, -, -⟩ := (hsv w0 h0.kept).slice
  obtain ⟨ia, ic, rfl, -, -⟩ := (hiv w0 h0.kept).slice
  obtain ⟨ma, mc, rfl, -, -⟩ := (hmv w0 h0.kept).slice
  have HSV0 := Lib.hid hsv
  have HIV0 := Lib.hid hiv
  have HMV0 := Lib.hid hmv
  have HIP := Lib.hid hip
  have HMP := Lib.hid hmp
  have HS := Lib.hid hS
  have HK := Lib.hid h0.kept
  have HA := Lib.hid hA
  have HB0 := Lib.hid hB0
  have WO := Lib.hid wo
  have WA := Lib.hid wa
  have WB := Lib.hid wb
  clear hS hA h0 hB0 wo wa wb hsv hiv hmv hip hmp
  go_enter Tryz.func26, Tryz.ntmps26
  go_wp2_with fail
  refine (hPick _ 16 _ (by omega) (by omega)).mono ?_
  rintro e _ ⟨rfl, rfl⟩
  obtain ⟨p, hp⟩ : ∃ p : Nat, o % 16 = p := ⟨(o % 16).toNat, by omega⟩
  rw [hp]
  have HM := Lib.hid (HA.out (.cells #[.int .i64 o, .int .i64 a', .int .i64 b', .int .i64 c'] 64))
  have x1 : (w0.alloc (.cells #[.int .i64 o, .int .i64 a', .int .i64 b', .int .i64 c'] 64)).cell? ⟨w0.heap.size, 1, none⟩ = some (.int .i64 a') := by simp
  have x2 : (w0.alloc (.cells #[.int .i64 o, .int .i64 a', .int .i64 b', .int .i64 c'] 64)).cell? ⟨w0.heap.size, 2, none⟩ = some (.int .i64 b') := by simp
  have hua := Upd.alloc W0.S w0 (.cells #[.int .i64 o, .int .i64 a', .int .i64 b', .int .i64 c'] 64)
  have HR := Lib.hid (And.intro (HK.out.trans hua (fun _ h _ => h)) (fun k hk => (HS.out k hk).2))
  have hsz : w0.heap.size < (w0.alloc (.cells #[.int .i64 o, .int .i64 a', .int .i64 b', .int .i64 c'] 64)).heap.size := by simp
  generalize w0.alloc (.cells #[.int .i64 o, .int .i64 a', .int .i64 b', .int .i64 c'] 64) = w at *
  have HX : Hid (∀ w', Upd S w w' → w'.cell? ⟨w0.heap.size, 1, none⟩ = some (.int .i64 a') ∧ w'.cell? ⟨w0.heap.size, 2, none⟩ = some (.int .i64 b')) := Lib.hid (fun w' hu => by
    have hn : ¬ S w0.heap.size := fun h => by have := (HS.out _ h).1; omega
    exact ⟨(hu.cell (p := ⟨w0.heap.size, 1, none⟩) hsz hn).trans x1, (hu.cell (p := ⟨w0.heap.size, 2, none⟩) hsz hn).trans x2⟩)
  have HB : Hid (Bins ⟨w, S⟩) := Lib.hid (by
    have hg : 0 < W0.w0.heap.size := World.block_lt_of_cell? W0.w0 _ (HB0.out.2 0 (by omega))
    refine ⟨fun h => ?_, fun k hk => (HR.out.1.cell (p := ⟨0, k, none⟩) hg HB0.out.1).trans (HB0.out.2 k hk)⟩
    rcases (HS.out _ h).2 with h | h
    · exact HB0.out.1 h
    · omega)
  have HP := Lib.hid (pubAll _ b d HB.out d0 d9)
  have HSV : Hid (∀ w', Upd S w w' → Ints w' (.slice sa Ss.length sc) Ss) := Lib.hid (fun w' hu => HSV0.out w' (upd_of_new HR.out.1 hu HR.out.2))
  have HIV : Hid (∀ w', Upd S w w' → Imps w' (.slice ia Is.length ic) Is) := Lib.hid (fun w' hu => HIV0.out w' (upd_of_new HR.out.1 hu HR.out.2))
  have HMV : Hid (∀ w', Upd S w w' → Mets w' (.slice ma Ms.length mc) Ms) := Lib.hid (fun w' hu => HMV0.out w' (upd_of_new HR.out.1 hu HR.out.2))
  clear HSV0 HIV0 HMV0
  generalize w0.heap.size = X at *
  clear hua hsz HA HK HB0 HS
  have hp' : p = 9 := by omega
  clear hp hpp
  subst hp'
  · go_wp2_with (first
      | (go_at_call 54; (with_reducible refine (pubUse HP.out HM.out (by omega)).mono ?_); rintro e _ ⟨rfl, hm⟩; clear HM x1 x2; have HM := Lib.hid hm; clear hm; obtain ⟨x1, x2⟩ := HX.out _ HM.out.kept)
      | (go_at_call 28; (with_reducible refine (mPut1 _ _ _ _ _ _ _ _ HM.out (by omega) (by unfold wi64; omega) (by unfold wi64; omega) (by unfold wi64; omega)).mono ?_); rintro e w4 ⟨rfl, cv, nv, kv, C, Ns, Ks, at', hm, hpos⟩; obtain ⟨q, hq⟩ : ∃ q, C.length = q + 1 := ⟨C.length - 1, by omega⟩; obtain ⟨g, cap, rfl, ⟨x, hx⟩, hfx, -⟩ := hm.code.spot hq; have hc0 := hm.box.c0; have hqb : q + 1 ≤ 1000000000 := (by have := hm.len; omega); clear HM x1 x2; obtain ⟨n, hn⟩ : ∃ n, n = q + 1 := ⟨_, rfl⟩; rw [← hn] at hc0 hm; have hw1 : IntKind.i64.wrap (q : Int) = q := (by rw [IntKind.wrap_i64]; omega); have hw2 : (n : Int) - 1 = q := (by omega); have hqn : q < n := (by omega); have HN := Lib.hid hn; clear hn; have HMA := Lib.hid hm; have HM := Lib.hid (show Mk 62 _ _ b d _ from ⟨_, _, _, _, _, _, _, hm⟩); have HQ := Lib.hid hq; clear hm hpos hq; obtain ⟨x1, x2⟩ := HX.out _ HM.out.kept)
      | (go_at_call 6; (with_reducible refine (mPick _ 4 _ (by omega) (by omega)).mono ?_); rintro e _ ⟨k, rfl, hk, rfl⟩))
    all_goals
      first
        | ((first | go_end0 | (refine bodyPost_ret (results_none rfl _ _ _) rfl ?_)); exact ⟨rfl, (HM.out.back HR.out.1 HR.out.2).more (by omega)⟩)
        | (have hp0 : 0 < Ss.length := by omega
           obtain ⟨g2, off2, rfl, -, -⟩ := (HSV.out _ HM.out.kept).at hp0
           have HCS : Hid (∀ k, k < Ss.length → ∃ u, w4.cell? ⟨g2, off2 + k, none⟩ = some (.int .i64 u) ∧ wi64 u) := Lib.hid (fun k hk => by
             obtain ⟨g3, off3, he, h1, h2⟩ := (HSV.out _ HM.out.kept).at hk
             simp at he
             obtain ⟨rfl, rfl⟩ := he
             exact ⟨_, h1, h2⟩)
           go_region_with ((first
             | (go_at_call 6; (with_reducible refine (mPick _ _ _ (by omega) (by omega)).mono ?_); rintro e _ ⟨k2, rfl, hk2, rfl⟩; obtain ⟨u, hcs, hu⟩ := HCS.out k2 (by omega); have HU2 := Lib.hid hu; clear hu)))
           all_goals
             obtain rfl := HN.out
             replace HM := Lib.hid ((HMA.out.mono (Upd.drew (fun _ => False) w4) (fun _ h => h.elim)).setA HQ.out u HU2.out)
             ((first | go_end0 | (refine bodyPost_ret (results_none rfl _ _ _) rfl ?_)); exact ⟨rfl, (HM.out.back HR.out.1 HR.out.2).more (by omega)⟩))
end Go.Proofs.YtmikibcgphkcfaaGreatDoor

/- The hand's maker: secret numbers, whatever fits a kind. -/
import Derived.Test.YtmikibcgphkcfaaGreatDoorMl
namespace Go.Proofs.YtmikibcgphkcfaaGreatDoor
open Go.RowKit Go.Lib
set_option linter.unusedVariables false

theorem PubAt.weak {W : Gnd} {b : Nat} {d : Int} {K K' B B' : Nat} (h : PubAt W b d K B) (hK : K ≤ K') (hB : B' ≤ B) : PubAt W b d K' B' :=
  fun w c hm hc => (h w c hm (Nat.le_trans hc hB)).mono fun e w' ⟨h1, h2⟩ => ⟨h1, h2.more (by omega)⟩
theorem pubAll (W : Gnd) (b : Nat) (d : Int) (hB : Bins W) (d0 : 0 ≤ d) (d9 : d ≤ 900) : PubAt W b d 2000 700000000 := by
  have h3 := fun (d : Int) (h3 : 3 ≤ d) (h9 : d ≤ 1000) => mPubBase W b d 800000000 (Nat.le_refl _) h3 h9
  by_cases h : 3 ≤ d
  · exact (h3 d h (by omega)).weak (by omega) (by omega)
  · have p2 : PubAt W b 2 200 799990000 := mPubStep W b 2 50 799990000 800000000 hB (h3 3 (by omega) (by omega)) (by omega) (by omega) (by omega) (by omega)
    have p1 : PubAt W b 1 650 799980000 := mPubStep W b 1 200 799980000 799990000 hB p2 (by omega) (by omega) (by omega) (by omega)
    have p0 : PubAt W b 0 2000 799970000 := mPubStep W b 0 650 799970000 799980000 hB p1 (by omega) (by omega) (by omega) (by omega)
    have hd : d = 0 ∨ d = 1 ∨ d = 2 := by omega
    rcases hd with rfl | rfl | rfl
    · exact p0.weak (by omega) (by omega)
    · exact p1.weak (by omega) (by omega)
    · exact p2.weak (by omega) (by omega)

/-- sec, once it is known one deeper -/
def SecAt (W : Gnd) (b : Nat) (d : Int) (K B : Nat) : Prop := ∀ (w : World) (c : Nat), Mk 62 W w b d c → c ≤ B →
  Calls Tryz.prog 55 #[.pointer (some ⟨b, 0, none⟩)] w fun e w' => e = .returned (.tuple #[]) ∧ Mk 62 W w' b d (c + K)
theorem secUse {W : Gnd} {w : World} {b : Nat} {d : Int} {K B c : Nat} (hp : SecAt W b d K B) (h : Mk 62 W w b d c) (hc : c ≤ B) :
    Calls Tryz.prog 55 #[.pointer (some ⟨b, 0, none⟩)] w fun e w' => e = .returned (.tuple #[]) ∧ Mk 62 W w' b d (c + K) := hp w c h hc
theorem SecAt.weak {W : Gnd} {b : Nat} {d : Int} {K K' B B' : Nat} (h : SecAt W b d K B) (hK : K ≤ K') (hB : B' ≤ B) : SecAt W b d K' B' :=
  fun w c hm hc => (h w c hm (Nat.le_trans hc hB)).mono fun e w' ⟨h1, h2⟩ => ⟨h1, h2.more (by omega)⟩
theorem mod2 (k : Nat) : ((k : Int).tmod 2 = 0 ∧ (k : Int) % 2 = 0) ∨ ((k : Int).tmod 2 = 1 ∧ (k : Int) % 2 = 1) := by
  rw [Int.tmod_eq_emod_of_nonneg (by omega)]
  omega

set_option maxRecDepth 100000 in
set_option maxHeartbeats 40000000 in
theorem mSecStep (W : Gnd) (b : Nat) (d : Int) (K B B' : Nat) (hB : Bins W) (hp : SecAt W b (d + 1) K B') (hK : B + 3 * K + 7000 ≤ B') (hB' : B' ≤ 600000000) (d0 : 0 ≤ d) (d3 : d < 3) : SecAt W b d (3 * K + 7000) B := by
  intro w c h hc
  obtain ⟨c4, f4⟩ := h.deep
  have HM := Lib.hid (h.setDeep (d + 1))
  have HB := Lib.hid hB
  have HS := Lib.hid hp
  have HP := Lib.hid (pubAll W b (d + 1) hB (by omega) (by omega))
  clear h hp hB
  go_enter Tryz.func55, Tryz.ntmps55
  go_wp2_with (first
    | (go_at_call 72; (with_reducible refine (mNext _ _ _ _ _ HM.out (by omega)).mono ?_); rintro e _ ⟨x, rfl, hx, -, hm⟩; clear HM c4 f4; have HM := Lib.hid hm; obtain ⟨c4, f4⟩ := HM.out.deep; have HX := Lib.hid hx; clear hx hm)
    | (go_at_call 6; (with_reducible refine (mPick _ 12 _ (by omega) (by omega)).mono ?_); rintro e _ ⟨k, rfl, hk, rfl⟩; obtain ⟨u, hu, hbin⟩ := HM.out.bin HB.out hk; have HIX := Lib.hid hu; clear hu)
    | (go_at_call 6; (with_reducible refine (mPick _ 8 _ (by omega) (by omega)).mono ?_); rintro e _ ⟨k, rfl, hk, rfl⟩; obtain ⟨u, hu, hix⟩ := ixe k hk; have HIX := Lib.hid hu; clear hu)
    | (go_at_call 6; (with_reducible refine (mPick _ 2 _ (by omega) (by omega)).mono ?_); rintro e _ ⟨k, rfl, hk, rfl⟩; obtain ⟨u, hu, hix⟩ := ix2 k hk; have HIX := Lib.hid hu; clear hu)
    | (go_at_call 6; (with_reducible refine (mPick _ 3 _ (by omega) (by omega)).mono ?_); rintro e _ ⟨k, rfl, hk, rfl⟩; obtain ⟨u, hu, hix⟩ := ix3 k hk; have HIX := Lib.hid hu; clear hu)
    | (go_at_call 6; (with_reducible refine (mPick _ _ _ (by omega) (by omega)).mono ?_); rintro e _ ⟨k, rfl, hk, rfl⟩)
    | (go_at_call 73; (with_reducible refine (mLocal _ _ _ _ _ _ HM.out (by omega)).mono ?_); rintro e _ ⟨x, ok, rfl, hx, hm⟩; clear HM c4 f4; have HM := Lib.hid hm; obtain ⟨c4, f4⟩ := HM.out.deep; have HX := Lib.hid hx; clear hx hm)
    | (go_at_call 28; (with_reducible refine (mPut _ _ _ _ _ _ _ _ HM.out (by omega) (by first | exact HIX.out | (unfold wi64; omega)) (by first | exact HX.out | exact HIX.out | (unfold wi64; omega) | (have h100 := tmod_range x 100 (by omega); unfold wi64; omega) | (have h100 := tmod_range x 1000 (by omega); unfold wi64; omega)) (by first | exact HIX.out | (unfold wi64; omega))).mono ?_); rintro e _ ⟨rfl, hm⟩; clear HM c4 f4; have HM := Lib.hid hm; obtain ⟨c4, f4⟩ := HM.out.deep; clear hm)
    | (go_at_call 55; (with_reducible refine (secUse HS.out HM.out (by omega)).mono ?_); rintro e _ ⟨rfl, hm⟩; clear HM c4 f4; have HM := Lib.hid hm; obtain ⟨c4, f4⟩ := HM.out.deep; clear hm)
    | (go_at_call 52; (with_reducible refine (mArr _ _ _ _ _ _ HM.out (by omega) (by omega) (by omega)).mono ?_); rintro e _ ⟨rfl, hm⟩; clear HM c4 f4; have HM := Lib.hid hm; obtain ⟨c4, f4⟩ := HM.out.deep; clear hm)
    | (go_at_call 53; (with_reducible refine (mIndex _ _ _ _ _ _ _ HP.out HM.out (by omega) (by omega)).mono ?_); rintro e _ ⟨rfl, hm⟩; clear HM c4 f4; have HM := Lib.hid hm; obtain ⟨c4, f4⟩ := HM.out.deep; clear hm))
  all_goals
    first
      | go_end0
      | (refine bodyPost_ret (results_none rfl _ _ _) rfl ?_)
    exact ⟨rfl, (HM.out.setDeep d).more (by omega)⟩

set_option maxRecDepth 100000 in
set_option maxHeartbeats 40000000 in
theorem mSecBase (W : Gnd) (b : Nat) (d : Int) (B : Nat) (hB : Bins W) (hB' : B ≤ 600000000) (d3 : 3 ≤ d) (d9 : d ≤ 1000) : SecAt W b d 50 B := by
  intro w c h hc
  obtain ⟨c4, f4⟩ := h.deep
  have HM := Lib.hid (h.setDeep (d + 1))
  have HB := Lib.hid hB
  clear h hB
  go_enter Tryz.func55, Tryz.ntmps55
  go_wp2_with (first
    | (go_at_call 72; (with_reducible refine (mNext _ _ _ _ _ HM.out (by omega)).mono ?_); rintro e _ ⟨x, rfl, hx, -, hm⟩; clear HM c4 f4; have HM := Lib.hid hm; obtain ⟨c4, f4⟩ := HM.out.deep; have HX := Lib.hid hx; clear hx hm)
    | (go_at_call 6; (with_reducible refine (mPick _ 9 _ (by omega) (by omega)).mono ?_); rintro e _ ⟨k, rfl, hk, rfl⟩; rcases mod2 k with ⟨h3, h3'⟩ | ⟨h3, h3'⟩)
    | (go_at_call 6; (with_reducible refine (mPick _ 12 _ (by omega) (by omega)).mono ?_); rintro e _ ⟨k, rfl, hk, rfl⟩; obtain ⟨u, hu, hbin⟩ := HM.out.bin HB.out hk; have HIX := Lib.hid hu; clear hu)
    | (go_at_call 6; (with_reducible refine (mPick _ 8 _ (by omega) (by omega)).mono ?_); rintro e _ ⟨k, rfl, hk, rfl⟩; obtain ⟨u, hu, hix⟩ := ixe k hk; have HIX := Lib.hid hu; clear hu)
    | (go_at_call 6; (with_reducible refine (mPick _ 2 _ (by omega) (by omega)).mono ?_); rintro e _ ⟨k, rfl, hk, rfl⟩; obtain ⟨u, hu, hix⟩ := ix2 k hk; have HIX := Lib.hid hu; clear hu)
    | (go_at_call 6; (with_reducible refine (mPick _ 3 _ (by omega) (by omega)).mono ?_); rintro e _ ⟨k, rfl, hk, rfl⟩; obtain ⟨u, hu, hix⟩ := ix3 k hk; have HIX := Lib.hid hu; clear hu)
    | (go_at_call 6; (with_reducible refine (mPick _ _ _ (by omega) (by omega)).mono ?_); rintro e _ ⟨k, rfl, hk, rfl⟩)
    | (go_at_call 73; (with_reducible refine (mLocal _ _ _ _ _ _ HM.out (by omega)).mono ?_); rintro e _ ⟨x, ok, rfl, hx, hm⟩; clear HM c4 f4; have HM := Lib.hid hm; obtain ⟨c4, f4⟩ := HM.out.deep; have HX := Lib.hid hx; clear hx hm)
    | (go_at_call 28; (with_reducible refine (mPut _ _ _ _ _ _ _ _ HM.out (by omega) (by first | exact HIX.out | (unfold wi64; omega)) (by first | exact HX.out | exact HIX.out | (unfold wi64; omega) | (have h100 := tmod_range x 100 (by omega); unfold wi64; omega) | (have h100 := tmod_range x 1000 (by omega); unfold wi64; omega)) (by first | exact HIX.out | (unfold wi64; omega))).mono ?_); rintro e _ ⟨rfl, hm⟩; clear HM c4 f4; have HM := Lib.hid hm; obtain ⟨c4, f4⟩ := HM.out.deep; clear hm))
  all_goals
    first
      | go_end0
      | (refine bodyPost_ret (results_none rfl _ _ _) rfl ?_)
    exact ⟨rfl, (HM.out.setDeep d).more (by omega)⟩

theorem secAll (W : Gnd) (b : Nat) (d : Int) (hB : Bins W) (d0 : 0 ≤ d) (d9 : d ≤ 900) : SecAt W b d 100000 500000000 := by
  have h3 := fun (d : Int) (h3 : 3 ≤ d) (h9 : d ≤ 1000) => mSecBase W b d 600000000 hB (Nat.le_refl _) h3 h9
  by_cases h : 3 ≤ d
  · exact (h3 d h (by omega)).weak (by omega) (by omega)
  · have p2 : SecAt W b 2 7150 599900000 := mSecStep W b 2 50 599900000 600000000 hB (h3 3 (by omega) (by omega)) (by omega) (by omega) (by omega) (by omega)
    have p1 : SecAt W b 1 28450 599800000 := mSecStep W b 1 7150 599800000 599900000 hB p2 (by omega) (by omega) (by omega) (by omega)
    have p0 : SecAt W b 0 92350 599000000 := mSecStep W b 0 28450 599000000 599800000 hB p1 (by omega) (by omega) (by omega) (by omega)
    have hd : d = 0 ∨ d = 1 ∨ d = 2 := by omega
    rcases hd with rfl | rfl | rfl
    · exact p0.weak (by omega) (by omega)
    · exact p1.weak (by omega) (by omega)
    · exact p2.weak (by omega) (by omega)
end Go.Proofs.YtmikibcgphkcfaaGreatDoor

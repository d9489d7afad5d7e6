/- The hand's maker: arrays, numbers, whatever numbers it is given. -/
import Derived.Test.YtmikibcgphkcfaaGreatDoorMk
namespace Go.Proofs.YtmikibcgphkcfaaGreatDoor
open Go.RowKit Go.Lib
set_option linter.unusedVariables false

theorem mPick (n m : Int) (w : World) (hm : 1 ≤ m) (hm2 : m ≤ 1000) :
    Calls Tryz.prog 6 #[.int .i64 n, .int .i64 m] w fun e w' => ∃ k : Nat, e = .returned (.int .i64 k) ∧ (k : Int) < m ∧ w = w' := by
  refine (hPick n m w hm (by omega)).mono fun e w' ⟨h1, h2⟩ => ?_
  have h3 := Int.emod_nonneg n (b := m) (by omega)
  have h4 := Int.emod_lt_of_pos n (b := m) (by omega)
  exact ⟨(n % m).toNat, by rw [h1]; congr 2; omega, by omega, h2⟩
theorem ix6 (k : Nat) (hk : (k : Int) < 6) : ∃ u, wi64 u ∧ ∀ w : World, (Instr.index 105 (.agg #[.int .i64 0, .int .i64 1, .int .i64 2, .int .i64 4, .int .i64 5, .int .i64 6]) (.int .i64 k)).run Tryz.prog w = .ok (.int .i64 u) w := by
  have h : k = 0 ∨ k = 1 ∨ k = 2 ∨ k = 3 ∨ k = 4 ∨ k = 5 := by omega
  rcases h with rfl | rfl | rfl | rfl | rfl | rfl
  · exact ⟨0, by unfold wi64; decide, fun w => by kernel_rfl⟩
  · exact ⟨1, by unfold wi64; decide, fun w => by kernel_rfl⟩
  · exact ⟨2, by unfold wi64; decide, fun w => by kernel_rfl⟩
  · exact ⟨4, by unfold wi64; decide, fun w => by kernel_rfl⟩
  · exact ⟨5, by unfold wi64; decide, fun w => by kernel_rfl⟩
  · exact ⟨6, by unfold wi64; decide, fun w => by kernel_rfl⟩

set_option maxRecDepth 100000 in
set_option maxHeartbeats 8000000 in
theorem mArr (W : Gnd) (w : World) (b : Nat) (d : Int) (c : Nat) (kind : Int) (h : Mk 62 W w b d c) (hc : c ≤ 900000000) (k1 : 1 ≤ kind) (k4 : kind ≤ 4) :
    Calls Tryz.prog 52 #[.pointer (some ⟨b, 0, none⟩), .int .i64 kind] w fun e w' => e = .returned (.tuple #[]) ∧ Mk 62 W w' b d (c + 10) := by
  have HM := Lib.hid h
  clear h
  go_enter Tryz.func52, Tryz.ntmps52
  go_wp2_with (first
    | (go_at_call 72; (with_reducible refine (mNext _ _ _ _ _ HM.out (by omega)).mono ?_); rintro e _ ⟨x, rfl, hx, -, hm⟩; clear HM; have HM := Lib.hid hm; clear hx hm)
    | (go_at_call 6; (with_reducible refine (mPick _ 6 _ (by omega) (by omega)).mono ?_); rintro e _ ⟨k, rfl, hk, rfl⟩; obtain ⟨u, hu, hix⟩ := ix6 k hk; have HIX := Lib.hid hu; clear hu)
    | (go_at_call 6; (with_reducible refine (mPick _ _ _ (by omega) (by omega)).mono ?_); rintro e _ ⟨k, rfl, hk, rfl⟩)
    | (go_at_call 73; (with_reducible refine (mLocal _ _ _ _ _ _ HM.out (by omega)).mono ?_); rintro e _ ⟨x, ok, rfl, hx, hm⟩; clear HM; have HM := Lib.hid hm; have HX := Lib.hid hx; clear hx hm)
    | (go_at_call 28; (with_reducible refine (mPut _ _ _ _ _ _ _ _ HM.out (by omega) (by unfold wi64; omega) (by first | exact HX.out | (unfold wi64; omega)) (by first | exact HIX.out | (unfold wi64; omega))).mono ?_); rintro e _ ⟨rfl, hm⟩; clear HM; have HM := Lib.hid hm; clear hm))
  all_goals
    first
      | go_end0
      | (refine bodyPost_ret (results_none rfl _ _ _) rfl ?_)
    exact ⟨rfl, HM.out.more (by omega)⟩

theorem Mk.deep {t : TypeId} {W : Gnd} {w : World} {b : Nat} {d : Int} {c : Nat} (h : Mk t W w b d c) : w.cell? ⟨b, 4, none⟩ = some (.int .i64 d) ∧ w.frozen? ⟨b, 4, none⟩ = false := by
  obtain ⟨_, _, _, _, _, _, _, h⟩ := h
  exact ⟨h.box.c4, h.box.fr 4⟩
theorem Mk.setDeep {t : TypeId} {W : Gnd} {w : World} {b : Nat} {d : Int} {c : Nat} (h : Mk t W w b d c) (a : Int) : Mk t W (w.setCell ⟨b, 4, none⟩ (.int .i64 a)) b a c := by
  obtain ⟨cv, nv, kv, C, Ns, Ks, at', h⟩ := h
  exact ⟨cv, nv, kv, C, Ns, Ks, at', h.setDeep a⟩
def binN (k : Nat) : Int := [6, 7, 8, 9, 10, 11, 12, 13, 14, 19, 20, 21].getD k 0
/-- the package's table of two-armed instructions lies as its text lays it -/
def Bins (W : Gnd) : Prop := ¬ W.S 0 ∧ ∀ k, k < 12 → W.w0.cell? ⟨0, k, none⟩ = some (.int .i64 (binN k))
theorem bin_wi (k : Nat) (hk : k < 12) : wi64 (binN k) := by
  have h : k = 0 ∨ k = 1 ∨ k = 2 ∨ k = 3 ∨ k = 4 ∨ k = 5 ∨ k = 6 ∨ k = 7 ∨ k = 8 ∨ k = 9 ∨ k = 10 ∨ k = 11 := by omega
  rcases h with rfl | rfl | rfl | rfl | rfl | rfl | rfl | rfl | rfl | rfl | rfl | rfl <;> (unfold wi64; decide)
theorem Mk.bin {t : TypeId} {W : Gnd} {w : World} {b : Nat} {d : Int} {c k : Nat} (h : Mk t W w b d c) (hB : Bins W) (hk : (k : Int) < 12) : ∃ u, wi64 u ∧ w.cell? ⟨0, k, none⟩ = some (.int .i64 u) := by
  obtain ⟨_, _, _, _, _, _, _, h⟩ := h
  have hc := hB.2 k (by omega)
  exact ⟨binN k, bin_wi k (by omega), (h.below.cell (World.block_lt_of_cell? W.w0 _ hc) hB.1).trans hc⟩
theorem ixe (k : Nat) (hk : (k : Int) < 8) : ∃ u, wi64 u ∧ ∀ w : World, (Instr.index 106 (.agg #[.int .i64 0, .int .i64 1, .int .i64 2, .int .i64 3, .int .i64 7, .int .i64 (-1), .int .i64 64, .int .i64 1073741824]) (.int .i64 k)).run Tryz.prog w = .ok (.int .i64 u) w := by
  have h : k = 0 ∨ k = 1 ∨ k = 2 ∨ k = 3 ∨ k = 4 ∨ k = 5 ∨ k = 6 ∨ k = 7 := by omega
  rcases h with rfl | rfl | rfl | rfl | rfl | rfl | rfl | rfl
  · exact ⟨0, by unfold wi64; decide, fun w => by kernel_rfl⟩
  · exact ⟨1, by unfold wi64; decide, fun w => by kernel_rfl⟩
  · exact ⟨2, by unfold wi64; decide, fun w => by kernel_rfl⟩
  · exact ⟨3, by unfold wi64; decide, fun w => by kernel_rfl⟩
  · exact ⟨7, by unfold wi64; decide, fun w => by kernel_rfl⟩
  · exact ⟨-1, by unfold wi64; decide, fun w => by kernel_rfl⟩
  · exact ⟨64, by unfold wi64; decide, fun w => by kernel_rfl⟩
  · exact ⟨1073741824, by unfold wi64; decide, fun w => by kernel_rfl⟩
theorem ix2 (k : Nat) (hk : (k : Int) < 2) : ∃ u, wi64 u ∧ ∀ w : World, (Instr.index 108 (.agg #[.int .i64 17, .int .i64 18]) (.int .i64 k)).run Tryz.prog w = .ok (.int .i64 u) w := by
  have h : k = 0 ∨ k = 1 := by omega
  rcases h with rfl | rfl
  · exact ⟨17, by unfold wi64; decide, fun w => by kernel_rfl⟩
  · exact ⟨18, by unfold wi64; decide, fun w => by kernel_rfl⟩
theorem ix3 (k : Nat) (hk : (k : Int) < 3) : ∃ u, wi64 u ∧ ∀ w : World, (Instr.index 109 (.agg #[.int .i64 15, .int .i64 16, .int .i64 15]) (.int .i64 k)).run Tryz.prog w = .ok (.int .i64 u) w := by
  have h : k = 0 ∨ k = 1 ∨ k = 2 := by omega
  rcases h with rfl | rfl | rfl
  · exact ⟨15, by unfold wi64; decide, fun w => by kernel_rfl⟩
  · exact ⟨16, by unfold wi64; decide, fun w => by kernel_rfl⟩
  · exact ⟨15, by unfold wi64; decide, fun w => by kernel_rfl⟩

/-- pub, once it is known one deeper -/
def PubAt (W : Gnd) (b : Nat) (d : Int) (K B : Nat) : Prop := ∀ (w : World) (c : Nat), Mk 62 W w b d c → c ≤ B →
  Calls Tryz.prog 54 #[.pointer (some ⟨b, 0, none⟩)] w fun e w' => e = .returned (.tuple #[]) ∧ Mk 62 W w' b d (c + K)

theorem pubUse {W : Gnd} {w : World} {b : Nat} {d : Int} {K B c : Nat} (hp : PubAt W b d K B) (h : Mk 62 W w b d c) (hc : c ≤ B) :
    Calls Tryz.prog 54 #[.pointer (some ⟨b, 0, none⟩)] w fun e w' => e = .returned (.tuple #[]) ∧ Mk 62 W w' b d (c + K) := hp w c h hc
set_option maxRecDepth 100000 in
set_option maxHeartbeats 8000000 in
theorem mIndex (W : Gnd) (w : World) (b : Nat) (d : Int) (c K B : Nat) (hp : PubAt W b d K B) (h : Mk 62 W w b d c) (hB : B ≤ 900000000) (hc : c + 5 ≤ B) :
    Calls Tryz.prog 53 #[.pointer (some ⟨b, 0, none⟩)] w fun e w' => e = .returned (.tuple #[]) ∧ Mk 62 W w' b d (c + K + 5) := by
  have HM := Lib.hid h
  have HP := Lib.hid hp
  clear h hp
  go_enter Tryz.func53, Tryz.ntmps53
  go_wp2_with (first
    | (go_at_call 72; (with_reducible refine (mNext _ _ _ _ _ HM.out (by omega)).mono ?_); rintro e _ ⟨x, rfl, hx, -, hm⟩; clear HM; have HM := Lib.hid hm; clear hx hm)
    | (go_at_call 6; (with_reducible refine (mPick _ _ _ (by omega) (by omega)).mono ?_); rintro e _ ⟨k, rfl, hk, rfl⟩)
    | (go_at_call 54; (with_reducible refine (pubUse HP.out HM.out (by omega)).mono ?_); rintro e _ ⟨rfl, hm⟩; clear HM; have HM := Lib.hid hm; clear hm)
    | (go_at_call 28; (with_reducible refine (mPut _ _ _ _ _ _ _ _ HM.out (by omega) (by unfold wi64; omega) (by unfold wi64; omega) (by unfold wi64; omega)).mono ?_); rintro e _ ⟨rfl, hm⟩; clear HM; have HM := Lib.hid hm; clear hm))
  all_goals
    first
      | go_end0
      | (refine bodyPost_ret (results_none rfl _ _ _) rfl ?_)
    exact ⟨rfl, HM.out.more (by omega)⟩

set_option maxRecDepth 100000 in
set_option maxHeartbeats 40000000 in
theorem mPubStep (W : Gnd) (b : Nat) (d : Int) (K B B' : Nat) (hB : Bins W) (hp : PubAt W b (d + 1) K B') (hK : B + 3 * K + 50 ≤ B') (hB' : B' ≤ 800000000) (d0 : 0 ≤ d) (d3 : d < 3) : PubAt W b d (3 * K + 50) B := by
  intro w c h hc
  obtain ⟨c4, f4⟩ := h.deep
  have HM := Lib.hid (h.setDeep (d + 1))
  have HB := Lib.hid hB
  have HP := Lib.hid hp
  clear h hp hB
  go_enter Tryz.func54, Tryz.ntmps54
  go_wp2_with (first
    | (go_at_call 72; (with_reducible refine (mNext _ _ _ _ _ HM.out (by omega)).mono ?_); rintro e _ ⟨x, rfl, hx, -, hm⟩; clear HM c4 f4; have HM := Lib.hid hm; obtain ⟨c4, f4⟩ := HM.out.deep; have HX := Lib.hid hx; clear hx hm)
    | (go_at_call 6; (with_reducible refine (mPick _ 12 _ (by omega) (by omega)).mono ?_); rintro e _ ⟨k, rfl, hk, rfl⟩; obtain ⟨u, hu, hbin⟩ := HM.out.bin HB.out hk; have HIX := Lib.hid hu; clear hu)
    | (go_at_call 6; (with_reducible refine (mPick _ 8 _ (by omega) (by omega)).mono ?_); rintro e _ ⟨k, rfl, hk, rfl⟩; obtain ⟨u, hu, hix⟩ := ixe k hk; have HIX := Lib.hid hu; clear hu)
    | (go_at_call 6; (with_reducible refine (mPick _ 2 _ (by omega) (by omega)).mono ?_); rintro e _ ⟨k, rfl, hk, rfl⟩; obtain ⟨u, hu, hix⟩ := ix2 k hk; have HIX := Lib.hid hu; clear hu)
    | (go_at_call 6; (with_reducible refine (mPick _ 3 _ (by omega) (by omega)).mono ?_); rintro e _ ⟨k, rfl, hk, rfl⟩; obtain ⟨u, hu, hix⟩ := ix3 k hk; have HIX := Lib.hid hu; clear hu)
    | (go_at_call 6; (with_reducible refine (mPick _ _ _ (by omega) (by omega)).mono ?_); rintro e _ ⟨k, rfl, hk, rfl⟩)
    | (go_at_call 73; (with_reducible refine (mLocal _ _ _ _ _ _ HM.out (by omega)).mono ?_); rintro e _ ⟨x, ok, rfl, hx, hm⟩; clear HM c4 f4; have HM := Lib.hid hm; obtain ⟨c4, f4⟩ := HM.out.deep; have HX := Lib.hid hx; clear hx hm)
    | (go_at_call 28; (with_reducible refine (mPut _ _ _ _ _ _ _ _ HM.out (by omega) (by first | exact HIX.out | (unfold wi64; omega)) (by first | exact HX.out | exact HIX.out | (unfold wi64; omega) | (have h100 := tmod_range x 100 (by omega); unfold wi64; omega) | (have h100 := tmod_range x 1000 (by omega); unfold wi64; omega)) (by first | exact HIX.out | (unfold wi64; omega))).mono ?_); rintro e _ ⟨rfl, hm⟩; clear HM c4 f4; have HM := Lib.hid hm; obtain ⟨c4, f4⟩ := HM.out.deep; clear hm)
    | (go_at_call 54; (with_reducible refine (pubUse HP.out HM.out (by omega)).mono ?_); rintro e _ ⟨rfl, hm⟩; clear HM c4 f4; have HM := Lib.hid hm; obtain ⟨c4, f4⟩ := HM.out.deep; clear hm)
    | (go_at_call 52; (with_reducible refine (mArr _ _ _ _ _ _ HM.out (by omega) (by omega) (by omega)).mono ?_); rintro e _ ⟨rfl, hm⟩; clear HM c4 f4; have HM := Lib.hid hm; obtain ⟨c4, f4⟩ := HM.out.deep; clear hm)
    | (go_at_call 53; (with_reducible refine (mIndex _ _ _ _ _ _ _ HP.out HM.out (by omega) (by omega)).mono ?_); rintro e _ ⟨rfl, hm⟩; clear HM c4 f4; have HM := Lib.hid hm; obtain ⟨c4, f4⟩ := HM.out.deep; clear hm))
  all_goals
    first
      | go_end0
      | (refine bodyPost_ret (results_none rfl _ _ _) rfl ?_)
    exact ⟨rfl, (HM.out.setDeep d).more (by omega)⟩

theorem mod3 (k : Nat) : ((k : Int).tmod 3 = 0 ∧ (k : Int) % 3 = 0) ∨ ((k : Int).tmod 3 = 1 ∧ (k : Int) % 3 = 1) ∨ ((k : Int).tmod 3 = 2 ∧ (k : Int) % 3 = 2) := by
  rw [Int.tmod_eq_emod_of_nonneg (by omega)]
  omega
set_option maxRecDepth 100000 in
set_option maxHeartbeats 40000000 in
theorem mPubBase (W : Gnd) (b : Nat) (d : Int) (B : Nat) (hB' : B ≤ 800000000) (d3 : 3 ≤ d) (d9 : d ≤ 1000) : PubAt W b d 50 B := by
  intro w c h hc
  obtain ⟨c4, f4⟩ := h.deep
  have HM := Lib.hid (h.setDeep (d + 1))
  clear h
  go_enter Tryz.func54, Tryz.ntmps54
  go_wp2_with (first
    | (go_at_call 72; (with_reducible refine (mNext _ _ _ _ _ HM.out (by omega)).mono ?_); rintro e _ ⟨x, rfl, hx, -, hm⟩; clear HM c4 f4; have HM := Lib.hid hm; obtain ⟨c4, f4⟩ := HM.out.deep; have HX := Lib.hid hx; clear hx hm)
    | (go_at_call 6; (with_reducible refine (mPick _ 12 _ (by omega) (by omega)).mono ?_); rintro e _ ⟨k, rfl, hk, rfl⟩; rcases mod3 k with ⟨h3, h3'⟩ | ⟨h3, h3'⟩ | ⟨h3, h3'⟩)
    | (go_at_call 6; (with_reducible refine (mPick _ 8 _ (by omega) (by omega)).mono ?_); rintro e _ ⟨k, rfl, hk, rfl⟩; obtain ⟨u, hu, hix⟩ := ixe k hk; have HIX := Lib.hid hu; clear hu)
    | (go_at_call 6; (with_reducible refine (mPick _ 2 _ (by omega) (by omega)).mono ?_); rintro e _ ⟨k, rfl, hk, rfl⟩; obtain ⟨u, hu, hix⟩ := ix2 k hk; have HIX := Lib.hid hu; clear hu)
    | (go_at_call 6; (with_reducible refine (mPick _ 3 _ (by omega) (by omega)).mono ?_); rintro e _ ⟨k, rfl, hk, rfl⟩; obtain ⟨u, hu, hix⟩ := ix3 k hk; have HIX := Lib.hid hu; clear hu)
    | (go_at_call 6; (with_reducible refine (mPick _ _ _ (by omega) (by omega)).mono ?_); rintro e _ ⟨k, rfl, hk, rfl⟩)
    | (go_at_call 73; (with_reducible refine (mLocal _ _ _ _ _ _ HM.out (by omega)).mono ?_); rintro e _ ⟨x, ok, rfl, hx, hm⟩; clear HM c4 f4; have HM := Lib.hid hm; obtain ⟨c4, f4⟩ := HM.out.deep; have HX := Lib.hid hx; clear hx hm)
    | (go_at_call 28; (with_reducible refine (mPut _ _ _ _ _ _ _ _ HM.out (by omega) (by first | exact HIX.out | (unfold wi64; omega)) (by first | exact HX.out | exact HIX.out | (unfold wi64; omega) | (have h100 := tmod_range x 100 (by omega); unfold wi64; omega) | (have h100 := tmod_range x 1000 (by omega); unfold wi64; omega)) (by first | exact HIX.out | (unfold wi64; omega))).mono ?_); rintro e _ ⟨rfl, hm⟩; clear HM c4 f4; have HM := Lib.hid hm; obtain ⟨c4, f4⟩ := HM.out.deep; clear hm))
  all_goals
    first
      | go_end0
      | (refine bodyPost_ret (results_none rfl _ _ _) rfl ?_)
    exact ⟨rfl, (HM.out.setDeep d).more (by omega)⟩
end Go.Proofs.YtmikibcgphkcfaaGreatDoor

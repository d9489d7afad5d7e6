/- Package mem: Load. -/
import Derived.Test.YtibmgmgkaacibaaYc
namespace Go.Proofs.Ytibmgmgkaacibaa
open Go.RowKit Go.ChangeShapes Go.WideShapes Go.Deep
set_option linter.unusedVariables false
set_option linter.unusedSimpArgs false
/-- a slice value that reads as these halfwords -/
def VwM (w : World) (v : Value) (ys : List Nat) : Prop :=
  (∀ y ∈ ys, y < 65536) ∧ (((∃ a, v = .slice a 0 0) ∧ ys = []) ∨
  ∃ g off c, v = .slice (some ⟨g, off, none⟩) ys.length c ∧ ys.length ≤ c ∧ c ≤ maxLen ∧ ∀ j, j < ys.length → w.cell? ⟨g, off + j, none⟩ = some (.int .u16 ((ys.getD j 0 : Nat) : Int)))
theorem VwM.slice {w : World} {v : Value} {ys : List Nat} (h : VwM w v ys) : ∃ a c, v = .slice a ys.length c ∧ ys.length ≤ c ∧ c ≤ maxLen := by
  rcases h.2 with ⟨⟨a, rfl⟩, rfl⟩ | ⟨g, off, c, rfl, h1, h2, _⟩
  · exact ⟨a, 0, rfl, Nat.le_refl _, by unfold maxLen; omega⟩
  · exact ⟨_, c, rfl, h1, h2⟩
theorem VwM.at {w : World} {v : Value} {ys : List Nat} (h : VwM w v ys) {j : Nat} (hj : j < ys.length) : ∃ g off c, v = .slice (some ⟨g, off, none⟩) ys.length c ∧ w.cell? ⟨g, off + j, none⟩ = some (.int .u16 ((ys.getD j 0 : Nat) : Int)) := by
  rcases h.2 with ⟨⟨a, rfl⟩, rfl⟩ | ⟨g, off, c, rfl, h1, h2, h3⟩
  · simp at hj
  · exact ⟨g, off, c, rfl, h3 j hj⟩
theorem VwM.upd {w w' : World} {v : Value} {ys : List Nat} {S : Nat → Prop} (h : VwM w v ys) (hu : Upd S w w') (hS : ∀ k, v.ownBlock = some k → ¬ S k) : VwM w' v ys := by
  refine ⟨h.1, ?_⟩
  rcases h.2 with h | ⟨g, off, c, rfl, h1, h2, h3⟩
  · exact .inl h
  · refine .inr ⟨g, off, c, rfl, h1, h2, fun j hj => ?_⟩
    have hc := h3 j hj
    rw [hu.cell (p := ⟨g, off + j, none⟩) (World.block_lt_of_cell? w _ hc) (hS g rfl)]
    exact hc
theorem VwM.upd2 {w w' : World} {v : Value} {ys : List Nat} {S : Nat → Prop} (h : VwM w v ys) (hu : Upd S w w') (hS : ys ≠ [] → ∀ k, v.ownBlock = some k → ¬ S k) : VwM w' v ys := by
  refine ⟨h.1, ?_⟩
  rcases h.2 with h | ⟨g, off, c, rfl, h1, h2, h3⟩
  · exact .inl h
  · refine .inr ⟨g, off, c, rfl, h1, h2, fun j hj => ?_⟩
    have hc := h3 j hj
    rw [hu.cell (p := ⟨g, off + j, none⟩) (World.block_lt_of_cell? w _ hc) (hS (List.ne_nil_of_length_pos (by omega)) g rfl)]
    exact hc
theorem VwM.get {ys : List Nat} (h : ∀ y ∈ ys, y < 65536) {j : Nat} (hj : j < ys.length) : ys.getD j 0 < 65536 := by
  simp only [List.getD, List.getElem?_eq_getElem hj, Option.getD_some]
  exact h _ (List.getElem_mem hj)
theorem loop_less {i n : Nat} (h : i < n) : n - (intOf (Value.int .i64 ((i + 1 : Nat) : Int))).toNat < n - (intOf (Value.int .i64 (i : Int))).toNat := by
  simp only [intOf, Int.toNat_natCast]; omega
theorem two_shift (x : Nat) : (x : Int) / 256 = ((x / 256 : Nat) : Int) := by omega
section
variable {w : World} {b g : Nat} {M : Nat → Nat}
set_option maxRecDepth 20000 in
set_option maxHeartbeats 1000000 in
theorem mLoad_yes (h : Mm 72 w b g M) (j : Nat) (a : Option Addr) (c : Nat) (l : List Nat) (hv : VwM w (.slice a l.length c) l) (hap : l ≠ [] → ∀ q, (Value.slice a l.length c).ownBlock = some q → ¬ q = g) (hj2 : j % 2 = 0) (hj : j + 2 * l.length ≤ 131072) :
    Calls Try.prog 16 #[.pointer (some ⟨b, 0, none⟩), .int .i64 j, .slice a l.length c] w fun r w' => r = .returned (.bool true) ∧ Mm 72 w' b g (loadM M j l) ∧ Upd (fun q => q = g) w w' := by
  have HH := Lib.hid (mHas h (j : Int) (2 * (l.length : Int)) 131072 (by unfold rng64; omega) (by omega))
  have HB := Lib.hid (show mhasP (j : Int) (2 * (l.length : Int)) 131072 = true by simp [mhasP]; omega)
  have hbx := h.bx
  have HM := Lib.hid h
  have HV := Lib.hid hv
  have HA := Lib.hid hap
  have HJ := Lib.hid hj
  have HU := Lib.hid (Upd.refl (fun q => q = g) w)
  have t1 : (((j : Int) % 2) != 0) = false := by simp; omega
  have t2 : IntKind.i64.wrap (2 * (l.length : Int)) = 2 * (l.length : Int) := IntWalk.i64_in _ (by omega)
  have t3 : (0 : Int) ≤ (j : Int) := by omega
  have t4 : (j : Int) ≤ 262144 := by omega
  clear h hv hap hj hj2
  go_enter Try.func16, Try.ntmps16
  go_wp2_with (refine HH.out.mono ?_; rw [HB.out]; rintro r w' ⟨rfl, rfl⟩)
  · exfalso; have := HJ.out; omega
  clear h
  have HN := Lib.hid (show 262144 - j = 262144 - j from rfl)
  obtain ⟨N, hN⟩ : ∃ N, N = 262144 - j := ⟨_, rfl⟩
  rw [← hN]
  have HN := Lib.hid hN
  clear hN
  go_loopw [30, 8, 9] (fun t _ _ wr => ∃ i : Nat, i ≤ l.length ∧ t = .int .i64 i ∧ Hid (Mm 72 wr b g (loadM M j (l.take i))) ∧ Hid (Upd (fun q => q = g) w wr)) (fun t _ _ _ => l.length - (intOf t).toNat)
  case atStart => exact ⟨0, Nat.zero_le _, rfl, HM, HU⟩
  case round =>
    obtain ⟨i, hi, rfl, HM2, HU2⟩ := hrel
    by_cases hlt : i < l.length
    · obtain ⟨g2, off, c2, hv2, hc⟩ := HV.out.at hlt
      have hne := HA.out (List.ne_nil_of_length_pos (by omega))
      simp only [Value.slice.injEq] at hv2
      obtain ⟨rfl, -, rfl⟩ := hv2
      have hcw : wr.cell? ⟨g2, off + i, none⟩ = some (.int .u16 ((l.getD i 0 : Nat) : Int)) := (HU2.out.cell (p := ⟨g2, off + i, none⟩) (World.block_lt_of_cell? w _ hc) (hne g2 rfl)).trans hc
      have hx := VwM.get HV.out.1 hlt
      have hJ := HJ.out
      have hNN := HN.out
      have hS := Lib.hid (loadM_take M j l i hlt)
      have hm := HM2.out
      have c0 := hm.cell (j + 2 * i) (by omega)
      have f0 := hm.fz (j + 2 * i)
      have hm1 := hm.set (j + 2 * i) (by omega) (v := l.getD i 0 % 256) (by omega)
      have c1 := hm1.cell (j + (2 * i + 1)) (by omega)
      have f1 := hm1.fz (j + (2 * i + 1))
      have HM3 := Lib.hid ((hm.set (j + 2 * i) (by omega) (v := l.getD i 0 % 256) (by omega)).set (j + (2 * i + 1)) (by omega) (v := l.getD i 0 / 256 % 256) (by omega))
      have HU3 := Lib.hid (HU2.out.trans ((Mm.setU wr b g (j + 2 * i) (.int .u8 ((l.getD i 0 % 256 : Nat) : Int))).trans (Mm.setU _ b g (j + (2 * i + 1)) (.int .u8 ((l.getD i 0 / 256 % 256 : Nat) : Int))) (fun _ h _ => h)) (fun _ h _ => h))
      have HS2 : Hid (setM (setM (loadM M j (l.take i)) (j + 2 * i) (l.getD i 0 % 256)) (j + (2 * i + 1)) (l.getD i 0 / 256 % 256) = loadM M j (l.take (i + 1))) := Lib.hid (by rw [hS.out]; rfl)
      generalize loadM M j (l.take i) (j + 2 * i) = v0 at *
      generalize setM (loadM M j (l.take i)) (j + 2 * i) (l.getD i 0 % 256) (j + (2 * i + 1)) = v1 at *
      have e0 : IntKind.u8.wrap ((l.getD i 0 : Nat) : Int) = ((l.getD i 0 % 256 : Nat) : Int) := by rw [IntKind.wrap_u8]; omega
      have e1 : IntKind.u8.wrap (((l.getD i 0 : Nat) : Int) / 256) = ((l.getD i 0 / 256 % 256 : Nat) : Int) := by rw [IntKind.wrap_u8]; omega
      generalize l.getD i 0 % 256 = y0 at *
      generalize l.getD i 0 / 256 % 256 = y1 at *
      generalize l.getD i 0 = y at *
      have w1 : IntKind.i64.wrap (2 * (i : Int)) = ((2 * i : Nat) : Int) := by rw [IntWalk.i64_in _ (by omega)]; omega
      have w2 : IntKind.i64.wrap (((2 * i : Nat) : Int) + 1) = ((2 * i + 1 : Nat) : Int) := by rw [IntWalk.i64_in _ (by omega)]; omega
      have b1 : ((2 * i : Nat) : Int) < (N : Int) := by omega
      have b2 : ((2 * i + 1 : Nat) : Int) < (N : Int) := by omega
      generalize 2 * i + 1 = p1 at *
      generalize 2 * i = p0 at *
      have HW := Lib.hid (show wrap64 ((i : Int) + 1) = ((i + 1 : Nat) : Int) by unfold wrap64; omega)
      clear hx hJ hNN hm hm1 hc hne
      go_wp2_with fail
      go_roundw
      case rel => exact ⟨i + 1, by omega, by rw [HW.out], Lib.hid (by rw [← HS2.out]; exact HM3.out), HU3⟩
      case measure => rw [HW.out]; exact loop_less hlt
    · have he : i = l.length := by omega
      have HE := Lib.hid (show loadM M j (l.take i) = loadM M j l by rw [he, List.take_length])
      go_wp2_with fail
      go_ret
      exact ⟨rfl, by rw [← HE.out]; exact HM2.out, HU2.out⟩
end
end Go.Proofs.Ytibmgmgkaacibaa

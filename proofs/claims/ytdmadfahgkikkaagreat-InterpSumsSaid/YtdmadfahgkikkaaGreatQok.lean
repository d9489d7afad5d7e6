/- Package room: Serve, op by op: Div, Rem. -/
import Derived.Test.YtdmadfahgkikkaaGreatQlk
import Derived.Test.YtdmadfahgkikkaaGreatHand
namespace Go.Proofs.YtdmadfahgkikkaaGreat
open Go.RowKit Go.Lib Go.ChangeShapes Go.WideShapes Go.Deep
set_option linter.unusedVariables false
set_option linter.unusedSimpArgs false

section
variable {c : Nat → Nat} {w : World} {rb : Nat} {M : RmM} {tv : Value} {o : Option (List EvM)}
set_option maxRecDepth 100000 in
set_option maxHeartbeats 4000000 in
theorem sv17y (h : Rm c w rb M) (ht : TrO c w tv o) (ap a b : Int) (v : Value) (x0 x1 : BitVec 32) (hx : I32 w v [si x0, si x1]) (hz : bZero x1 = true) (hv : ∀ k, v.ownBlock = some k → ¬ TR (c k)) :
    Calls Tryz.prog 60 #[.pointer (some ⟨rb, 0, none⟩), tv, .int .i64 ap, .int .i64 17, .int .i64 a, .int .i64 b, v] w fun e w' => Served c w rb tv ⟨si (bDiv x0 x1), 36864, M⟩ o e w' := by
  have HN : Hid (Calls Tryz.prog 73 #[v] w fun e w' => e = .returned (.agg #[.int .i64 (si x0), .int .i64 (si x1), .int .i64 0, .int .i64 0, .int .i64 0]) ∧ Upd (fun _ => False) w w') := Lib.hid (rNumbers w v [si x0, si x1] hx (by simp))
  have HX := Lib.hid hx
  have HV := Lib.hid hv
  have H := Lib.hid h
  have HT := Lib.hid ht
  have hrg := hx.1
  obtain ⟨p, rfl⟩ := ht.ptr
  obtain ⟨va, vc, rfl, -, -⟩ : ∃ va vc, v = .slice va 2 vc ∧ 2 ≤ vc ∧ vc ≤ maxLen := by
    obtain ⟨-, a, c, e, h1, h2, -⟩ := hx
    exact ⟨a, c, e, h1, h2⟩
  have HZ := Lib.hid hz
  clear h ht hx hv hz
  go_enter Tryz.func60, Tryz.ntmps60
  go_wp2_with fail
  refine (rServes 17 w).mono ?_
  rintro e w' ⟨rfl, rfl⟩
  rw [show servesP 17 = 2 from rfl]
  go_wp2_with fail
  refine HN.out.mono ?_
  rintro e w2 ⟨rfl, hu⟩
  have HU2 := Lib.hid hu
  clear hu HN
  obtain ⟨wt, hwt⟩ : ∃ wt, wt = w2.alloc (.cells #[.int .i64 (si x0), .int .i64 (si x1), .int .i64 0, .int .i64 0, .int .i64 0] 124) := ⟨_, rfl⟩
  have hut : Upd (fun _ => False) w wt := by rw [hwt]; exact HU2.out.trans (Upd.alloc _ _ _) (fun _ h _ => h)
  obtain ⟨ag, aoff, hae, -, -⟩ := HX.out.at (k := 0) (by simp)
  subst hae
  have HAG : Hid (∀ u, Upd (fun _ => False) w u → u.cell? ⟨ag, aoff, none⟩ = some (.int .i32 (si x0)) ∧ u.cell? ⟨ag, aoff + 1, none⟩ = some (.int .i32 (si x1))) := Lib.hid (fun u hu => by
    obtain ⟨g, off, he, -, hc⟩ := (HX.out.upd hu (fun _ _ h => h)).at (k := 0) (by simp)
    obtain ⟨g', off', he', -, hc'⟩ := (HX.out.upd hu (fun _ _ h => h)).at (k := 1) (by simp)
    simp at he he'
    obtain ⟨rfl, rfl⟩ := he
    obtain ⟨rfl, rfl⟩ := he'
    exact ⟨by simpa using hc, by simpa using hc'⟩)
  have HUD := Lib.hid (hut.trans (Upd.drew (fun _ => False) wt) (fun _ h _ => h))
  have HA := Lib.hid (aside3 H.out HT.out HX.out HV.out HUD.out)
  have HWT := Lib.hid hwt
  have HDV := Lib.hid (wDiv x0 x1 wt.drew)
  rw [HZ.out] at HDV
  clear hwt hut hrg
  go_wp2_with fail
  rw [← HWT.out]
  go_region_held3 (fun w' => w'.cell? ⟨ag, aoff, none⟩ = some (.int .i32 (si x0)) ∧ w'.cell? ⟨ag, aoff + 1, none⟩ = some (.int .i32 (si x1))) (first
    | with_reducible exact HAG.out _ HUD.out) (first
    | (go_at_call 75; (with_reducible refine (HDV.out).mono ?_); rintro e w4 ⟨rfl, rfl⟩)
    | (go_at_call 74; (with_reducible refine (rDivided _ _).mono ?_); rintro e w5 ⟨rfl, rfl⟩))
  all_goals
    go_wp2_with fail
    refine bodyPost_ret (v := .tuple #[.int .i32 (si (bDiv x0 x1)), .int .i64 36864]) (by simp only [results, Tryz.f60]; simp [go_sem]) rfl ?_
    exact ⟨rfl, _, HA.out.1, HA.out.2.1, HA.out.2.2.1⟩
set_option maxRecDepth 100000 in
set_option maxHeartbeats 4000000 in
theorem sv17n (h : Rm c w rb M) (ht : TrO c w tv o) (ap a b : Int) (v : Value) (x0 x1 : BitVec 32) (hx : I32 w v [si x0, si x1]) (hz : bZero x1 = false) (hv : ∀ k, v.ownBlock = some k → ¬ TR (c k)) :
    Calls Tryz.prog 60 #[.pointer (some ⟨rb, 0, none⟩), tv, .int .i64 ap, .int .i64 17, .int .i64 a, .int .i64 b, v] w fun e w' => Served c w rb tv ⟨0, 28419, M⟩ o e w' := by
  have HN : Hid (Calls Tryz.prog 73 #[v] w fun e w' => e = .returned (.agg #[.int .i64 (si x0), .int .i64 (si x1), .int .i64 0, .int .i64 0, .int .i64 0]) ∧ Upd (fun _ => False) w w') := Lib.hid (rNumbers w v [si x0, si x1] hx (by simp))
  have HX := Lib.hid hx
  have HV := Lib.hid hv
  have H := Lib.hid h
  have HT := Lib.hid ht
  have hrg := hx.1
  obtain ⟨p, rfl⟩ := ht.ptr
  obtain ⟨va, vc, rfl, -, -⟩ : ∃ va vc, v = .slice va 2 vc ∧ 2 ≤ vc ∧ vc ≤ maxLen := by
    obtain ⟨-, a, c, e, h1, h2, -⟩ := hx
    exact ⟨a, c, e, h1, h2⟩
  have HZ := Lib.hid hz
  clear h ht hx hv hz
  go_enter Tryz.func60, Tryz.ntmps60
  go_wp2_with fail
  refine (rServes 17 w).mono ?_
  rintro e w' ⟨rfl, rfl⟩
  rw [show servesP 17 = 2 from rfl]
  go_wp2_with fail
  refine HN.out.mono ?_
  rintro e w2 ⟨rfl, hu⟩
  have HU2 := Lib.hid hu
  clear hu HN
  obtain ⟨wt, hwt⟩ : ∃ wt, wt = w2.alloc (.cells #[.int .i64 (si x0), .int .i64 (si x1), .int .i64 0, .int .i64 0, .int .i64 0] 124) := ⟨_, rfl⟩
  have hut : Upd (fun _ => False) w wt := by rw [hwt]; exact HU2.out.trans (Upd.alloc _ _ _) (fun _ h _ => h)
  obtain ⟨ag, aoff, hae, -, -⟩ := HX.out.at (k := 0) (by simp)
  subst hae
  have HAG : Hid (∀ u, Upd (fun _ => False) w u → u.cell? ⟨ag, aoff, none⟩ = some (.int .i32 (si x0)) ∧ u.cell? ⟨ag, aoff + 1, none⟩ = some (.int .i32 (si x1))) := Lib.hid (fun u hu => by
    obtain ⟨g, off, he, -, hc⟩ := (HX.out.upd hu (fun _ _ h => h)).at (k := 0) (by simp)
    obtain ⟨g', off', he', -, hc'⟩ := (HX.out.upd hu (fun _ _ h => h)).at (k := 1) (by simp)
    simp at he he'
    obtain ⟨rfl, rfl⟩ := he
    obtain ⟨rfl, rfl⟩ := he'
    exact ⟨by simpa using hc, by simpa using hc'⟩)
  have HUD := Lib.hid (hut.trans (Upd.drew (fun _ => False) wt) (fun _ h _ => h))
  have HA := Lib.hid (aside3 H.out HT.out HX.out HV.out HUD.out)
  have HWT := Lib.hid hwt
  have HDV := Lib.hid (wDiv x0 x1 wt.drew)
  rw [HZ.out] at HDV
  clear hwt hut hrg
  go_wp2_with fail
  rw [← HWT.out]
  go_region_held3 (fun w' => w'.cell? ⟨ag, aoff, none⟩ = some (.int .i32 (si x0)) ∧ w'.cell? ⟨ag, aoff + 1, none⟩ = some (.int .i32 (si x1))) (first
    | with_reducible exact HAG.out _ HUD.out) (first
    | (go_at_call 75; (with_reducible refine (HDV.out).mono ?_); rintro e w4 ⟨rfl, rfl⟩)
    | (go_at_call 74; (with_reducible refine (rDivided_no _ _).mono ?_); rintro e w5 ⟨rfl, rfl⟩))
  all_goals
    go_wp2_with fail
    refine bodyPost_ret (v := .tuple #[.int .i32 (0), .int .i64 28419]) (by simp only [results, Tryz.f60]; simp [go_sem]) rfl ?_
    exact ⟨rfl, _, HA.out.1, HA.out.2.1, HA.out.2.2.1⟩
set_option maxRecDepth 100000 in
set_option maxHeartbeats 4000000 in
theorem sv18y (h : Rm c w rb M) (ht : TrO c w tv o) (ap a b : Int) (v : Value) (x0 x1 : BitVec 32) (hx : I32 w v [si x0, si x1]) (hz : bZero x1 = true) (hv : ∀ k, v.ownBlock = some k → ¬ TR (c k)) :
    Calls Tryz.prog 60 #[.pointer (some ⟨rb, 0, none⟩), tv, .int .i64 ap, .int .i64 18, .int .i64 a, .int .i64 b, v] w fun e w' => Served c w rb tv ⟨si (bRem x0 x1), 36864, M⟩ o e w' := by
  have HN : Hid (Calls Tryz.prog 73 #[v] w fun e w' => e = .returned (.agg #[.int .i64 (si x0), .int .i64 (si x1), .int .i64 0, .int .i64 0, .int .i64 0]) ∧ Upd (fun _ => False) w w') := Lib.hid (rNumbers w v [si x0, si x1] hx (by simp))
  have HX := Lib.hid hx
  have HV := Lib.hid hv
  have H := Lib.hid h
  have HT := Lib.hid ht
  have hrg := hx.1
  obtain ⟨p, rfl⟩ := ht.ptr
  obtain ⟨va, vc, rfl, -, -⟩ : ∃ va vc, v = .slice va 2 vc ∧ 2 ≤ vc ∧ vc ≤ maxLen := by
    obtain ⟨-, a, c, e, h1, h2, -⟩ := hx
    exact ⟨a, c, e, h1, h2⟩
  have HZ := Lib.hid hz
  clear h ht hx hv hz
  go_enter Tryz.func60, Tryz.ntmps60
  go_wp2_with fail
  refine (rServes 18 w).mono ?_
  rintro e w' ⟨rfl, rfl⟩
  rw [show servesP 18 = 2 from rfl]
  go_wp2_with fail
  refine HN.out.mono ?_
  rintro e w2 ⟨rfl, hu⟩
  have HU2 := Lib.hid hu
  clear hu HN
  obtain ⟨wt, hwt⟩ : ∃ wt, wt = w2.alloc (.cells #[.int .i64 (si x0), .int .i64 (si x1), .int .i64 0, .int .i64 0, .int .i64 0] 124) := ⟨_, rfl⟩
  have hut : Upd (fun _ => False) w wt := by rw [hwt]; exact HU2.out.trans (Upd.alloc _ _ _) (fun _ h _ => h)
  obtain ⟨ag, aoff, hae, -, -⟩ := HX.out.at (k := 0) (by simp)
  subst hae
  have HAG : Hid (∀ u, Upd (fun _ => False) w u → u.cell? ⟨ag, aoff, none⟩ = some (.int .i32 (si x0)) ∧ u.cell? ⟨ag, aoff + 1, none⟩ = some (.int .i32 (si x1))) := Lib.hid (fun u hu => by
    obtain ⟨g, off, he, -, hc⟩ := (HX.out.upd hu (fun _ _ h => h)).at (k := 0) (by simp)
    obtain ⟨g', off', he', -, hc'⟩ := (HX.out.upd hu (fun _ _ h => h)).at (k := 1) (by simp)
    simp at he he'
    obtain ⟨rfl, rfl⟩ := he
    obtain ⟨rfl, rfl⟩ := he'
    exact ⟨by simpa using hc, by simpa using hc'⟩)
  have HUD := Lib.hid (hut.trans (Upd.drew (fun _ => False) wt) (fun _ h _ => h))
  have HA := Lib.hid (aside3 H.out HT.out HX.out HV.out HUD.out)
  have HWT := Lib.hid hwt
  have HDV := Lib.hid (wRem x0 x1 wt.drew)
  rw [HZ.out] at HDV
  clear hwt hut hrg
  go_wp2_with fail
  rw [← HWT.out]
  go_region_held3 (fun w' => w'.cell? ⟨ag, aoff, none⟩ = some (.int .i32 (si x0)) ∧ w'.cell? ⟨ag, aoff + 1, none⟩ = some (.int .i32 (si x1))) (first
    | with_reducible exact HAG.out _ HUD.out) (first
    | (go_at_call 76; (with_reducible refine (HDV.out).mono ?_); rintro e w4 ⟨rfl, rfl⟩)
    | (go_at_call 74; (with_reducible refine (rDivided _ _).mono ?_); rintro e w5 ⟨rfl, rfl⟩))
  all_goals
    go_wp2_with fail
    refine bodyPost_ret (v := .tuple #[.int .i32 (si (bRem x0 x1)), .int .i64 36864]) (by simp only [results, Tryz.f60]; simp [go_sem]) rfl ?_
    exact ⟨rfl, _, HA.out.1, HA.out.2.1, HA.out.2.2.1⟩
set_option maxRecDepth 100000 in
set_option maxHeartbeats 4000000 in
theorem sv18n (h : Rm c w rb M) (ht : TrO c w tv o) (ap a b : Int) (v : Value) (x0 x1 : BitVec 32) (hx : I32 w v [si x0, si x1]) (hz : bZero x1 = false) (hv : ∀ k, v.ownBlock = some k → ¬ TR (c k)) :
    Calls Tryz.prog 60 #[.pointer (some ⟨rb, 0, none⟩), tv, .int .i64 ap, .int .i64 18, .int .i64 a, .int .i64 b, v] w fun e w' => Served c w rb tv ⟨0, 28419, M⟩ o e w' := by
  have HN : Hid (Calls Tryz.prog 73 #[v] w fun e w' => e = .returned (.agg #[.int .i64 (si x0), .int .i64 (si x1), .int .i64 0, .int .i64 0, .int .i64 0]) ∧ Upd (fun _ => False) w w') := Lib.hid (rNumbers w v [si x0, si x1] hx (by simp))
  have HX := Lib.hid hx
  have HV := Lib.hid hv
  have H := Lib.hid h
  have HT := Lib.hid ht
  have hrg := hx.1
  obtain ⟨p, rfl⟩ := ht.ptr
  obtain ⟨va, vc, rfl, -, -⟩ : ∃ va vc, v = .slice va 2 vc ∧ 2 ≤ vc ∧ vc ≤ maxLen := by
    obtain ⟨-, a, c, e, h1, h2, -⟩ := hx
    exact ⟨a, c, e, h1, h2⟩
  have HZ := Lib.hid hz
  clear h ht hx hv hz
  go_enter Tryz.func60, Tryz.ntmps60
  go_wp2_with fail
  refine (rServes 18 w).mono ?_
  rintro e w' ⟨rfl, rfl⟩
  rw [show servesP 18 = 2 from rfl]
  go_wp2_with fail
  refine HN.out.mono ?_
  rintro e w2 ⟨rfl, hu⟩
  have HU2 := Lib.hid hu
  clear hu HN
  obtain ⟨wt, hwt⟩ : ∃ wt, wt = w2.alloc (.cells #[.int .i64 (si x0), .int .i64 (si x1), .int .i64 0, .int .i64 0, .int .i64 0] 124) := ⟨_, rfl⟩
  have hut : Upd (fun _ => False) w wt := by rw [hwt]; exact HU2.out.trans (Upd.alloc _ _ _) (fun _ h _ => h)
  obtain ⟨ag, aoff, hae, -, -⟩ := HX.out.at (k := 0) (by simp)
  subst hae
  have HAG : Hid (∀ u, Upd (fun _ => False) w u → u.cell? ⟨ag, aoff, none⟩ = some (.int .i32 (si x0)) ∧ u.cell? ⟨ag, aoff + 1, none⟩ = some (.int .i32 (si x1))) := Lib.hid (fun u hu => by
    obtain ⟨g, off, he, -, hc⟩ := (HX.out.upd hu (fun _ _ h => h)).at (k := 0) (by simp)
    obtain ⟨g', off', he', -, hc'⟩ := (HX.out.upd hu (fun _ _ h => h)).at (k := 1) (by simp)
    simp at he he'
    obtain ⟨rfl, rfl⟩ := he
    obtain ⟨rfl, rfl⟩ := he'
    exact ⟨by simpa using hc, by simpa using hc'⟩)
  have HUD := Lib.hid (hut.trans (Upd.drew (fun _ => False) wt) (fun _ h _ => h))
  have HA := Lib.hid (aside3 H.out HT.out HX.out HV.out HUD.out)
  have HWT := Lib.hid hwt
  have HDV := Lib.hid (wRem x0 x1 wt.drew)
  rw [HZ.out] at HDV
  clear hwt hut hrg
  go_wp2_with fail
  rw [← HWT.out]
  go_region_held3 (fun w' => w'.cell? ⟨ag, aoff, none⟩ = some (.int .i32 (si x0)) ∧ w'.cell? ⟨ag, aoff + 1, none⟩ = some (.int .i32 (si x1))) (first
    | with_reducible exact HAG.out _ HUD.out) (first
    | (go_at_call 76; (with_reducible refine (HDV.out).mono ?_); rintro e w4 ⟨rfl, rfl⟩)
    | (go_at_call 74; (with_reducible refine (rDivided_no _ _).mono ?_); rintro e w5 ⟨rfl, rfl⟩))
  all_goals
    go_wp2_with fail
    refine bodyPost_ret (v := .tuple #[.int .i32 (0), .int .i64 28419]) (by simp only [results, Tryz.f60]; simp [go_sem]) rfl ?_
    exact ⟨rfl, _, HA.out.1, HA.out.2.1, HA.out.2.2.1⟩
end
end Go.Proofs.YtdmadfahgkikkaaGreat

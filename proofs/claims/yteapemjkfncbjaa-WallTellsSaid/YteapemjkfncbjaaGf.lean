/- WallTells; an argument of type api.Array. -/
import Derived.Test.YteapemjkfncbjaaGc
import Derived.Below
import Derived.Deep.RegionHeld3
import Derived.ProofKit
import Derived.OpenShut
import Derived.ChangeArms
namespace Go.Proofs.Yteapemjkfncbjaa
open Go.RowKit Go.Lib Go.ChangeShapes Go.WideShapes Go.Deep
set_option linter.unusedVariables false
set_option linter.unusedSimpArgs false

theorem cellsOf_arr9 : Try.prog.cellsOf 38 = 5 := by kernel_rfl
theorem open_arr9 {H : Type} {enc : TypeId × Value → H} {W : World} {r : Reach} {b0 : Nat} {v : Value} {d : DataW H} {p : List MemPlace} (hv : Value.okWide Try.prog W r b0 38 v) (h : DataW.Trod enc Try.prog W 0 (fun _ => true) true 38 v d p) :
    ∃ own lab life sh da dn dc, v = .agg #[.int .i64 own, .int .i64 lab, .int .i64 life, .bool sh, .slice da dn dc] := by
  obtain ⟨cs, rfl, hsz⟩ := okWide_struct Try.underlying38 hv
  obtain ⟨l⟩ := cs
  match l, hsz.trans cellsOf_arr9 with
  | [c0, c1, c2, c3, c4], _ =>
    obtain ⟨fuel, hf⟩ := h
    obtain ⟨xs, n, _, hx, _, hlen, hg⟩ := DataW.trod_struct Try.underlying38 hf
    match xs, hlen with
    | [y0, y1, y2, y3, y4], _ =>
      have t0 : DataW.trod enc Try.prog W 0 (fun _ => true) true n 3 (([c0, c1, c2, c3, c4].drop 0).take (Try.prog.cellsOf 3)) = some y0 := hg 0 _ rfl
      have t1 : DataW.trod enc Try.prog W 0 (fun _ => true) true n 3 (([c0, c1, c2, c3, c4].drop 1).take (Try.prog.cellsOf 3)) = some y1 := hg 1 _ rfl
      have t2 : DataW.trod enc Try.prog W 0 (fun _ => true) true n 3 (([c0, c1, c2, c3, c4].drop 2).take (Try.prog.cellsOf 3)) = some y2 := hg 2 _ rfl
      have t3 : DataW.trod enc Try.prog W 0 (fun _ => true) true n 4 (([c0, c1, c2, c3, c4].drop 3).take (Try.prog.cellsOf 4)) = some y3 := hg 3 _ rfl
      have t4 : DataW.trod enc Try.prog W 0 (fun _ => true) true n 31 (([c0, c1, c2, c3, c4].drop 4).take (Try.prog.cellsOf 31)) = some y4 := hg 4 _ rfl
      rw [cells_int] at t0 t1 t2
      rw [cells_bool9] at t3
      rw [cells_bytes] at t4
      obtain ⟨n0, e0, -, -⟩ := DataW.trod_int Try.underlying3 (by simpa using t0 : DataW.trod enc Try.prog W 0 (fun _ => true) true n 3 [c0] = some y0)
      obtain ⟨n1, e1, -, -⟩ := DataW.trod_int Try.underlying3 (by simpa using t1 : DataW.trod enc Try.prog W 0 (fun _ => true) true n 3 [c1] = some y1)
      obtain ⟨n2, e2, -, -⟩ := DataW.trod_int Try.underlying3 (by simpa using t2 : DataW.trod enc Try.prog W 0 (fun _ => true) true n 3 [c2] = some y2)
      obtain ⟨b3, e3, -⟩ := DataW.trod_bool Try.underlying4 (by simpa using t3 : DataW.trod enc Try.prog W 0 (fun _ => true) true n 4 [c3] = some y3)
      obtain ⟨zs, hvw, -⟩ := open_bytes (by simpa using t4 : DataW.trod enc Try.prog W 0 (fun _ => true) true n 31 [c4] = some y4)
      obtain ⟨da, dc, rfl, -, -⟩ := hvw.slice
      simp at e0 e1 e2 e3
      subst e0 e1 e2 e3
      exact ⟨_, _, _, _, _, _, _, rfl⟩
set_option maxRecDepth 100000 in
set_option maxHeartbeats 8000000 in
theorem wallTells_walk (W : World) (v : Value) (L : List St9) (ref0 at0 n0 ap0 : Int) (near : Bool) (own lab life : Int) (sh : Bool) (da : Option Addr) (dn dc : Nat) (hL : Sts9At W v L) (hat : at0 ≤ 9223372036854775807) :
    Calls Try.prog 5 #[v, .int .i64 ref0, .int .i64 at0, .int .i64 n0, .int .i64 ap0, .bool near, .agg #[.int .i64 own, .int .i64 lab, .int .i64 life, .bool sh, .slice da dn dc]] W fun e w' => e = .returned (.bool true) ∧ Upd (fun _ => False) W w' := by
  obtain ⟨w0, hw0⟩ : ∃ w0, w0 = W.alloc (.cells #[.int .i64 own, .int .i64 lab, .int .i64 life, .bool sh, .slice da dn dc] 38) := ⟨_, rfl⟩
  have HU0 : Hid (Upd (fun _ => False) W w0) := Lib.hid (by rw [hw0]; exact Upd.alloc _ _ _)
  have HX0 : Hid (w0.heap[W.heap.size]? = some (.cells #[.int .i64 own, .int .i64 lab, .int .i64 life, .bool sh, .slice da dn dc] 38 (0, 0))) := Lib.hid (by rw [hw0]; exact hpTop _ _ _ rfl)
  have HL := Lib.hid (hL.below (HU0.out.below (Nat.le_refl _) (fun _ h => h.elim)))
  have HW0 := Lib.hid hw0
  clear hL hw0
  go_enter Try.func5, Try.ntmps5
  go_wp2_with fail
  rw [← HW0.out]
  refine (both9 w0 v L HL.out).mono ?_
  rintro e w1 ⟨b, c, K, m, rfl, hb, hp⟩
  have H1 := Lib.hid hb
  have hml := hp.2.1
  clear hb hp
  go_wp2_with fail
  refine (known9 w1 w1 (Upd.refl _ _)).mono ?_
  rintro e w2 ⟨rfl, hu⟩
  have H2 := Lib.hid (H1.out.quiet hu)
  have HU2 := Lib.hid (HU0.out.trans H2.out.own.up (fun _ h _ => h))
  have HX2 := Lib.hid (hpBlk H2.out.own.up HX0.out (fun h => h))
  clear hu H1 HL
  obtain ⟨ca, cc, y1⟩ := H2.out.ref.bxs
  cases near with
  | false =>
    clear y1
    obtain ⟨rf, rfl⟩ : ∃ rf, rf = ref0 := ⟨_, rfl⟩
    obtain ⟨a1, rfl⟩ : ∃ a1, a1 = at0 := ⟨_, rfl⟩
    obtain ⟨n1, rfl⟩ : ∃ n1, n1 = n0 := ⟨_, rfl⟩
    obtain ⟨ap, rfl⟩ : ∃ ap, ap = ap0 := ⟨_, rfl⟩
    have hat1 := hat
    have HS : Hid (∀ u, Upd (fun _ => False) w2 u → u.cell? ⟨W.heap.size, 0, none⟩ = some (.int .i64 own) ∧ u.cell? ⟨W.heap.size, 1, none⟩ = some (.int .i64 lab) ∧ u.cell? ⟨W.heap.size, 2, none⟩ = some (.int .i64 life) ∧ u.cell? ⟨W.heap.size, 3, none⟩ = some (.bool sh) ∧ u.cell? ⟨W.heap.size, 4, none⟩ = some (.slice da dn dc)) := Lib.hid (fun u hu => by
      have hx := hpBlk hu HX2.out (fun h => h)
      exact ⟨by simp [World.cell?, hx], by simp [World.cell?, hx], by simp [World.cell?, hx], by simp [World.cell?, hx], by simp [World.cell?, hx]⟩)
    have HC1 : Hid (∀ u, Upd (fun _ => False) w2 u → Calls Try.prog 27 #[.pointer (some ⟨b, 0, none⟩), .int .i64 rf, .int .i64 ap] u fun e w' => e = .returned (.int .i64 (chkP m.arrs rf ap)) ∧ Upd (fun _ => False) u w') := Lib.hid (fun u hu => wCheck (H2.out.own.quiet hu).own.hp (by omega) rf ap)
    have HC2 : Hid (∀ u, Upd (fun _ => False) w2 u → Calls Try.prog 31 #[.pointer (some ⟨c, 0, none⟩), .int .i64 rf, .int .i64 ap] u fun e w' => e = .returned (.int .i64 (chkP m.arrs rf ap)) ∧ Upd (fun _ => False) u w') := Lib.hid (fun u hu => rCheck (H2.out.ref.upd hu (fun _ _ h => h)) (by omega) rf ap)
    have HR1 : Hid (∀ u, Upd (fun _ => False) w2 u → Calls Try.prog 28 #[.pointer (some ⟨b, 0, none⟩), .int .i64 rf, .int .i64 a1, .int .i64 n1, .int .i64 ap] u fun e w' => e = .returned (.int .i64 (rngP m.arrs rf a1 n1 ap)) ∧ Upd (fun _ => False) u w') := Lib.hid (fun u hu => wRange (H2.out.own.quiet hu).own.hp (by omega) rf a1 n1 ap hat1)
    have HR2 : Hid (∀ u, Upd (fun _ => False) w2 u → Calls Try.prog 32 #[.pointer (some ⟨c, 0, none⟩), .int .i64 rf, .int .i64 a1, .int .i64 n1, .int .i64 ap] u fun e w' => e = .returned (.int .i64 (rngP m.arrs rf a1 n1 ap)) ∧ Upd (fun _ => False) u w') := Lib.hid (fun u hu => rRange (H2.out.ref.upd hu (fun _ _ h => h)) (by omega) rf a1 n1 ap)
    have HM1 : Hid (∀ u, Calls Try.prog 29 #[.agg #[.int .i64 own, .int .i64 lab, .int .i64 life, .bool sh, .slice da dn dc], .int .i64 ap] u fun e w' => e = .returned (.bool (mayB ⟨own, lab, life, sh, []⟩ ap)) ∧ Upd (fun _ => False) u w') := Lib.hid (fun u => wMay own lab life sh da dn dc [] ap u)
    have HM2 : Hid (∀ u, Calls Try.prog 33 #[.agg #[.int .i64 own, .int .i64 lab, .int .i64 life, .bool sh, .slice da dn dc], .int .i64 ap] u fun e w' => e = .returned (.bool (mayB ⟨own, lab, life, sh, []⟩ ap)) ∧ Upd (fun _ => False) u w') := Lib.hid (fun u => rMay own lab life sh da dn dc [] ap u)
    generalize chkP m.arrs rf ap = s1 at *
    generalize rngP m.arrs rf a1 n1 ap = s2 at *
    generalize mayB ⟨own, lab, life, sh, []⟩ ap = s3 at *
    have q1 : (s1 == s1) = true := by simp
    have q2 : (s2 == s2) = true := by simp
    have q3 : (s3 == s3) = true := by simp
    have HM := Lib.hid (Upd.drew (fun _ => False) w2)
    clear H2 HX2 HX0 HU0
    go_wp2_with fail
    go_region_held3 (fun u => u.cell? ⟨W.heap.size, 0, none⟩ = some (.int .i64 own) ∧ u.cell? ⟨W.heap.size, 1, none⟩ = some (.int .i64 lab) ∧ u.cell? ⟨W.heap.size, 2, none⟩ = some (.int .i64 life) ∧ u.cell? ⟨W.heap.size, 3, none⟩ = some (.bool sh) ∧ u.cell? ⟨W.heap.size, 4, none⟩ = some (.slice da dn dc)) (with_reducible exact HS.out _ HM.out) (first
      | (go_at_call 27; (refine (HC1.out _ HM.out).mono ?_); rintro e w5 ⟨rfl, hu⟩; replace HM := Lib.hid (HM.out.trans hu (fun _ h _ => h)); clear hu)
      | (go_at_call 31; (refine (HC2.out _ HM.out).mono ?_); rintro e w6 ⟨rfl, hu⟩; replace HM := Lib.hid (HM.out.trans hu (fun _ h _ => h)); clear hu)
      | (go_at_call 28; (refine (HR1.out _ HM.out).mono ?_); rintro e w7 ⟨rfl, hu⟩; replace HM := Lib.hid (HM.out.trans hu (fun _ h _ => h)); clear hu)
      | (go_at_call 32; (refine (HR2.out _ HM.out).mono ?_); rintro e w8 ⟨rfl, hu⟩; replace HM := Lib.hid (HM.out.trans hu (fun _ h _ => h)); clear hu)
      | (go_at_call 29; (refine (HM1.out _).mono ?_); rintro e w9 ⟨rfl, hu⟩; replace HM := Lib.hid (HM.out.trans hu (fun _ h _ => h)); clear hu)
      | (go_at_call 33; (refine (HM2.out _).mono ?_); rintro e w10 ⟨rfl, hu⟩; replace HM := Lib.hid (HM.out.trans hu (fun _ h _ => h)); clear hu))
    all_goals
      go_wp2_with fail
      go_ret
      exact ⟨rfl, HU2.out.trans HM.out (fun _ h _ => h)⟩
  | true =>
    have hwc : IntKind.i64.wrap ((m.arrs.length : Int) + 3) = (m.arrs.length : Int) + 3 := IntWalk.i64_in _ (by omega)
    obtain ⟨rf, hrf⟩ : ∃ rf, ref0 % ((m.arrs.length : Int) + 3) - 1 = rf := ⟨_, rfl⟩
    have hrf2 := Int.emod_nonneg ref0 (show (m.arrs.length : Int) + 3 ≠ 0 by omega)
    have hrf3 := Int.emod_lt_of_pos ref0 (show 0 < (m.arrs.length : Int) + 3 by omega)
    obtain ⟨a1, ha1, ha2⟩ : ∃ a1, at0 % 12 - 1 = a1 ∧ (-1 ≤ a1 ∧ a1 ≤ 10) := ⟨_, rfl, by omega⟩
    obtain ⟨n1, hn1, hn2⟩ : ∃ n1, n0 % 12 - 1 = n1 ∧ (-1 ≤ n1 ∧ n1 ≤ 10) := ⟨_, rfl, by omega⟩
    have hw0 : IntKind.i64.wrap (ref0 % ((m.arrs.length : Int) + 3) - 1) = rf := by rw [hrf]; exact IntWalk.i64_in _ (by omega)
    have hw1 : IntKind.i64.wrap (at0 % 12 - 1) = a1 := by rw [ha1]; exact IntWalk.i64_in _ (by omega)
    have hw2 : IntKind.i64.wrap (n0 % 12 - 1) = n1 := by rw [hn1]; exact IntWalk.i64_in _ (by omega)
    have hat1 : a1 ≤ 9223372036854775807 := by omega
    clear ha1 hn1 hrf hrf2 hrf3
    go_wp2_with fail
    refine (hPick ref0 ((m.arrs.length : Int) + 3) w2 (by omega) (by omega)).mono ?_
    rintro e w' ⟨rfl, rfl⟩
    go_wp2_with fail
    refine (hPick at0 12 w2 (by omega) (by omega)).mono ?_
    rintro e w' ⟨rfl, rfl⟩
    go_wp2_with fail
    refine (hPick n0 12 w2 (by omega) (by omega)).mono ?_
    rintro e w' ⟨rfl, rfl⟩
    go_wp2_with fail
    refine (hPick ap0 4 w2 (by omega) (by omega)).mono ?_
    rintro e w' ⟨rfl, rfl⟩
    generalize ap0 % 4 = ap
    clear y1
    have HS : Hid (∀ u, Upd (fun _ => False) w2 u → u.cell? ⟨W.heap.size, 0, none⟩ = some (.int .i64 own) ∧ u.cell? ⟨W.heap.size, 1, none⟩ = some (.int .i64 lab) ∧ u.cell? ⟨W.heap.size, 2, none⟩ = some (.int .i64 life) ∧ u.cell? ⟨W.heap.size, 3, none⟩ = some (.bool sh) ∧ u.cell? ⟨W.heap.size, 4, none⟩ = some (.slice da dn dc)) := Lib.hid (fun u hu => by
      have hx := hpBlk hu HX2.out (fun h => h)
      exact ⟨by simp [World.cell?, hx], by simp [World.cell?, hx], by simp [World.cell?, hx], by simp [World.cell?, hx], by simp [World.cell?, hx]⟩)
    have HC1 : Hid (∀ u, Upd (fun _ => False) w2 u → Calls Try.prog 27 #[.pointer (some ⟨b, 0, none⟩), .int .i64 rf, .int .i64 ap] u fun e w' => e = .returned (.int .i64 (chkP m.arrs rf ap)) ∧ Upd (fun _ => False) u w') := Lib.hid (fun u hu => wCheck (H2.out.own.quiet hu).own.hp (by omega) rf ap)
    have HC2 : Hid (∀ u, Upd (fun _ => False) w2 u → Calls Try.prog 31 #[.pointer (some ⟨c, 0, none⟩), .int .i64 rf, .int .i64 ap] u fun e w' => e = .returned (.int .i64 (chkP m.arrs rf ap)) ∧ Upd (fun _ => False) u w') := Lib.hid (fun u hu => rCheck (H2.out.ref.upd hu (fun _ _ h => h)) (by omega) rf ap)
    have HR1 : Hid (∀ u, Upd (fun _ => False) w2 u → Calls Try.prog 28 #[.pointer (some ⟨b, 0, none⟩), .int .i64 rf, .int .i64 a1, .int .i64 n1, .int .i64 ap] u fun e w' => e = .returned (.int .i64 (rngP m.arrs rf a1 n1 ap)) ∧ Upd (fun _ => False) u w') := Lib.hid (fun u hu => wRange (H2.out.own.quiet hu).own.hp (by omega) rf a1 n1 ap hat1)
    have HR2 : Hid (∀ u, Upd (fun _ => False) w2 u → Calls Try.prog 32 #[.pointer (some ⟨c, 0, none⟩), .int .i64 rf, .int .i64 a1, .int .i64 n1, .int .i64 ap] u fun e w' => e = .returned (.int .i64 (rngP m.arrs rf a1 n1 ap)) ∧ Upd (fun _ => False) u w') := Lib.hid (fun u hu => rRange (H2.out.ref.upd hu (fun _ _ h => h)) (by omega) rf a1 n1 ap)
    have HM1 : Hid (∀ u, Calls Try.prog 29 #[.agg #[.int .i64 own, .int .i64 lab, .int .i64 life, .bool sh, .slice da dn dc], .int .i64 ap] u fun e w' => e = .returned (.bool (mayB ⟨own, lab, life, sh, []⟩ ap)) ∧ Upd (fun _ => False) u w') := Lib.hid (fun u => wMay own lab life sh da dn dc [] ap u)
    have HM2 : Hid (∀ u, Calls Try.prog 33 #[.agg #[.int .i64 own, .int .i64 lab, .int .i64 life, .bool sh, .slice da dn dc], .int .i64 ap] u fun e w' => e = .returned (.bool (mayB ⟨own, lab, life, sh, []⟩ ap)) ∧ Upd (fun _ => False) u w') := Lib.hid (fun u => rMay own lab life sh da dn dc [] ap u)
    generalize chkP m.arrs rf ap = s1 at *
    generalize rngP m.arrs rf a1 n1 ap = s2 at *
    generalize mayB ⟨own, lab, life, sh, []⟩ ap = s3 at *
    have q1 : (s1 == s1) = true := by simp
    have q2 : (s2 == s2) = true := by simp
    have q3 : (s3 == s3) = true := by simp
    have HM := Lib.hid (Upd.drew (fun _ => False) w2)
    clear H2 HX2 HX0 HU0
    go_wp2_with fail
    go_region_held3 (fun u => u.cell? ⟨W.heap.size, 0, none⟩ = some (.int .i64 own) ∧ u.cell? ⟨W.heap.size, 1, none⟩ = some (.int .i64 lab) ∧ u.cell? ⟨W.heap.size, 2, none⟩ = some (.int .i64 life) ∧ u.cell? ⟨W.heap.size, 3, none⟩ = some (.bool sh) ∧ u.cell? ⟨W.heap.size, 4, none⟩ = some (.slice da dn dc)) (with_reducible exact HS.out _ HM.out) (first
      | (go_at_call 27; (refine (HC1.out _ HM.out).mono ?_); rintro e w5 ⟨rfl, hu⟩; replace HM := Lib.hid (HM.out.trans hu (fun _ h _ => h)); clear hu)
      | (go_at_call 31; (refine (HC2.out _ HM.out).mono ?_); rintro e w6 ⟨rfl, hu⟩; replace HM := Lib.hid (HM.out.trans hu (fun _ h _ => h)); clear hu)
      | (go_at_call 28; (refine (HR1.out _ HM.out).mono ?_); rintro e w7 ⟨rfl, hu⟩; replace HM := Lib.hid (HM.out.trans hu (fun _ h _ => h)); clear hu)
      | (go_at_call 32; (refine (HR2.out _ HM.out).mono ?_); rintro e w8 ⟨rfl, hu⟩; replace HM := Lib.hid (HM.out.trans hu (fun _ h _ => h)); clear hu)
      | (go_at_call 29; (refine (HM1.out _).mono ?_); rintro e w9 ⟨rfl, hu⟩; replace HM := Lib.hid (HM.out.trans hu (fun _ h _ => h)); clear hu)
      | (go_at_call 33; (refine (HM2.out _).mono ?_); rintro e w10 ⟨rfl, hu⟩; replace HM := Lib.hid (HM.out.trans hu (fun _ h _ => h)); clear hu))
    all_goals
      go_wp2_with fail
      go_ret
      exact ⟨rfl, HU2.out.trans HM.out (fun _ h _ => h)⟩
theorem wallTells_below (W : World) (v : Value) (L : List St9) (ref0 at0 n0 ap0 : Int) (near : Bool) (own lab life : Int) (sh : Bool) (da : Option Addr) (dn dc : Nat) (hL : Sts9At W v L) (hat : at0 ≤ 9223372036854775807) :
    Calls Try.prog 5 #[v, .int .i64 ref0, .int .i64 at0, .int .i64 n0, .int .i64 ap0, .bool near, .agg #[.int .i64 own, .int .i64 lab, .int .i64 life, .bool sh, .slice da dn dc]] W fun e w' => e = .returned (.bool true) ∧ Below W.heap.size W w' :=
  (wallTells_walk W v L ref0 at0 n0 ap0 near own lab life sh da dn dc hL hat).mono fun e w' ⟨h1, h2⟩ => ⟨h1, h2.below (Nat.le_refl _) (fun _ h => h.elim)⟩
end Go.Proofs.Yteapemjkfncbjaa

/- Reading an instruction: the reference's. -/
import Derived.Test.YtmbdfmgidnjgeaaGreatDoorCr
namespace Go.Proofs.YtmbdfmgidnjgeaaGreatDoor
open Go.RowKit
set_option linter.unusedVariables false

theorem takeP_lack (n : Int) (hn : 1 ≤ n) : takeP n true [] = ([], true, []) := by
  unfold takeP
  rw [if_pos (.inr (by simp; omega))]
theorem arg_lack (op : Int) : (argI op true []).2.2.1 = true := by
  unfold argI tailI
  simp only [takeP_lack 1 (by omega), takeP_lack 2 (by omega), takeP_lack 4 (by omega)]
  repeat' split
  all_goals rfl
theorem arg_none {op : Int} (h : ¬ (1 ≤ op ∧ op ≤ 39)) (lk : Bool) (ys : List Int) : argI op lk ys = (0, 0, lk, ys) := by
  have T := table op
  unfold argI tailI
  rw [if_neg (by omega), if_neg (by omega), if_neg (by omega), if_neg (by omega)]

set_option maxHeartbeats 4000000 in
theorem rRead (w : World) (b : Nat) (v : Value) (lk : Bool) (ys : List Int) (h : Rd 65 w b v lk ys) :
    Calls Tryz.prog 30 #[.pointer (some ⟨b, 0, none⟩)] w fun e w' =>
      (errI lk ys ≠ 0 ∧ e = .returned (.tuple #[ins 0 0 0, .int .i64 (errI lk ys)]) ∧ Upd (fun k => k = b) w w') ∨
      (errI lk ys = 0 ∧ e = .returned (.tuple #[ins (opI lk ys) (restI lk ys).1 (restI lk ys).2.1, .int .i64 0]) ∧ ∃ v', Rd 65 w' b v' false (restI lk ys).2.2.2 ∧ Upd (fun k => k = b) w w' ∧ (∀ k, v'.ownBlock = some k → v.ownBlock = some k)) := by
  have HA := Lib.hid (Upd.alloc (fun _ => False) w (.cells #[.int .i64 0, .int .i64 0, .int .i64 0] 55))
  have HR := Lib.hid (is3_new 55 w (.int .i64 0) (.int .i64 0) (.int .i64 0))
  have hltb := h.lt
  have H := Lib.hid h
  have HH := Lib.hid (h.upd HA.out (fun _ _ h => h))
  clear h
  go_enter Tryz.func30, Tryz.ntmps30
  go_wp2_with fail
  refine (qU8 _ b v lk ys HH.out).mono ?_
  rintro e w2 ⟨rfl, v2, g1, g2, g3⟩
  have hlt2 : w.heap.size < w2.heap.size := by have := g2.size; simp at this; omega
  have HRI := Lib.hid (show restI lk ys = argI (opI lk ys) (takeP 1 lk ys).2.1 (takeP 1 lk ys).2.2 from rfl)
  rw [show beN (takeP 1 lk ys).1 = opI lk ys from rfl]
  generalize hop : opI lk ys = op at *
  have HOP := Lib.hid hop
  generalize (takeP 1 lk ys).2.1 = lk1 at *
  generalize (takeP 1 lk ys).2.2 = ys1 at *
  clear hop
  have HR2 := Lib.hid (HR.out.upd g2 (fun e => by omega))
  have hlk2 := g1.cell1
  have HU2 := Lib.hid ((HA.out.mono (fun _ h _ => h.elim)).trans g2 (fun _ h _ => h))
  have HA3 := Upd.alloc (fun _ => False) w2 (.cells #[.int .i64 op, .int .i64 0, .int .i64 0] 55)
  have HI3' := Lib.hid (is3_new 55 w2 (.int .i64 op) (.int .i64 0) (.int .i64 0))
  have HK3' := Lib.hid (g1.upd HA3 (fun _ _ h => h))
  have HR3' := Lib.hid ((HR.out.upd g2 (fun e => by omega)).upd HA3 (fun h => h))
  have HU3' := Lib.hid (((HA.out.mono (fun _ h _ => h.elim)).trans g2 (fun _ h _ => h)).trans HA3 (fun _ h _ => h.elim))
  have HO3 := Lib.hid g3
  have hlk1 := HK3'.out.cell1
  clear g1 g2 g3 HA3 HR HH HA
  cases hl1 : lk1 with
  | true =>
    have hys : ys1 = [] := HK3'.out.lacks hl1
    have HE7 := Lib.hid (show errI lk ys = 7 by unfold errI; rw [HRI.out, hl1, hys, if_pos (arg_lack op)])
    rw [hl1] at hlk1 hlk2
    clear hl1 hys
    have e0 := HR2.out.fr 0
    have e1 := HR2.out.fr 1
    have e2 := HR2.out.fr 2
    have e7 := HR2.out.c0
    have e8 := HR2.out.c1
    have e9 := HR2.out.c2
    have d0 := HR3'.out.fr 0
    have d1 := HR3'.out.fr 1
    have d2 := HR3'.out.fr 2
    have d7 := HR3'.out.c0
    have d8 := HR3'.out.c1
    have d9 := HR3'.out.c2
    go_wp2_with fail
    obtain ⟨z1', z2'⟩ := fin3 HR2.out (.int .i64 0) (.int .i64 0) (.int .i64 0)
    have za := Upd.alloc (fun _ => False) (((w2.setCell ⟨w.heap.size, 0, none⟩ (.int .i64 0)).setCell ⟨w.heap.size, 1, none⟩ (.int .i64 0)).setCell ⟨w.heap.size, 2, none⟩ (.int .i64 0)) (.cells #[.int .i64 op, .int .i64 0, .int .i64 0] 55)
    have z1 := z1'.upd za (fun h => h)
    have y0 := z1.c0
    have y1 := z1.c1
    have y2 := z1.c2
    refine bodyPost_ret (v := .tuple #[ins 0 0 0, .int .i64 7]) (by simp [results, Tryz.f30, go_sem, y0, y1, y2]) rfl (.inl ⟨by rw [HE7.out]; decide, by rw [HE7.out], (HU2.out.trans z2' (fun i hi hlt => by omega)).trans za (fun _ h _ => h.elim)⟩)
  | false =>
    rw [hl1] at hlk1 hlk2
    by_cases hrg : 1 ≤ op ∧ op ≤ 39
    · obtain ⟨k, hk, hkl⟩ : ∃ k : Nat, op = (k : Int) + 1 ∧ k < 39 := ⟨(op - 1).toNat, by omega, by omega⟩
      have HN := Lib.hid (show nameB op = wordB k by rw [hk]; exact (nth_at hkl).2)
      have hne := word_ne hkl
      have HRG := Lib.hid hrg
      have HL1 := Lib.hid hl1
      clear hk hrg hl1
      go_wp2_with fail
      refine (rName _ _).mono ?_
      rw [HN.out]
      rintro e w3 ⟨rfl, hu⟩
      have HI3 := Lib.hid (HI3'.out.upd hu (fun h => h))
      have HK3 := Lib.hid (HK3'.out.upd hu (fun _ _ h => h))
      have HR3 := Lib.hid (HR3'.out.upd hu (fun h => h))
      have HU3 := Lib.hid (HU3'.out.trans hu (fun _ h _ => h.elim))
      clear hu hlk1 hlk2 HI3' HK3' HR3' HU3'
      have x0 := HI3.out.c0
      by_cases q1 : op = 1
      · have HT := Lib.hid (show argI op lk1 ys1 = (sgn (beN (takeP 4 lk1 ys1).1), 0, (takeP 4 lk1 ys1).2.1, (takeP 4 lk1 ys1).2.2) by simp [argI, q1])
        have b1 : (op == 1) = true := by simpa using q1
        clear q1
        go_wp2_with fail
        refine (qS32 _ b v2 _ _ HK3.out).mono ?_
        rintro e w4 ⟨rfl, v4, k1, k2, k3⟩
        generalize hA : sgn (beN (takeP 4 lk1 ys1).1) = A at *
        generalize hlk4' : (takeP 4 lk1 ys1).2.1 = lk4 at *
        generalize hys4 : (takeP 4 lk1 ys1).2.2 = ys4 at *
        have HQ := Lib.hid (show restI lk ys = (A, 0, lk4, ys4) from HRI.out.trans HT.out)
        have hi4 := HI3.out.upd k2 (fun e => by omega)
        have y1 := hi4.c0
        have y2 := hi4.c1
        have y3 := hi4.c2
        have yf := hi4.fr 1
        have HI5 := Lib.hid hi4
        have hr5 := HR3.out.upd k2 (fun e => by omega)
        have e0 := hr5.fr 0
        have e1 := hr5.fr 1
        have e2 := hr5.fr 2
        have e7 := hr5.c0
        have e8 := hr5.c1
        have e9 := hr5.c2
        have hlk4 := k1.cell1
        have HR5 := Lib.hid hr5
        have HU5 := Lib.hid (HU3.out.trans k2 (fun _ h _ => h))
        have K1 := Lib.hid k1
        have HO4 := Lib.hid (show ∀ i, v4.ownBlock = some i → v.ownBlock = some i from fun i hi => HO3.out i (k3 i hi))
        clear hA hlk4' hys4 k1 k2 k3 hi4 hr5
        have z0 := Upd.setCell (S := fun k => k = w2.heap.size) w4 (p := ⟨w2.heap.size, 1, none⟩) (.inl rfl) (.int .i64 A)
        have HI4 := Lib.hid (HI5.out.set1 (.int .i64 A))
        have HR4 := Lib.hid (HR5.out.upd z0 (fun e => by omega))
        have HU4 := Lib.hid (HU5.out.trans z0 (fun i hi hlt => by omega))
        have K5 := Lib.hid (K1.out.upd z0 (fun k hk e => by subst e; rcases hk with hk | hk; (omega); (have := H.out.inn _ (HO4.out _ hk); omega)))
        clear z0 K1
        have K1 := K5
        clear K5
        cases hl : lk4 with
        | true =>
          rw [hl] at hlk4
          have HE7 := Lib.hid (show errI lk ys = 7 by unfold errI; rw [HQ.out, hl]; rfl)
          clear hl
          go_wp2_with fail
          obtain ⟨z1, z2⟩ := fin3 HR4.out (.int .i64 0) (.int .i64 0) (.int .i64 0)
          have y0 := z1.c0
          have y1 := z1.c1
          have y2 := z1.c2
          refine bodyPost_ret (v := .tuple #[ins 0 0 0, .int .i64 7]) (by simp [results, Tryz.f30, go_sem, y0, y1, y2]) rfl (.inl ⟨by rw [HE7.out]; decide, by rw [HE7.out], HU4.out.trans z2 (fun i hi hlt => by omega)⟩)
        | false =>
          rw [hl] at hlk4
          have HL := Lib.hid hl
          clear hl
          cases hr : rightB op A 0 with
          | false =>
            have HE9 := Lib.hid (show errI lk ys = 9 by unfold errI; rw [HQ.out, HL.out, HOP.out, if_neg (by simp), if_pos HRG.out, if_neg (by simp [hr])])
            have HRR := Lib.hid hr
            clear hr
            go_wp2_with fail
            refine (rRight _ _ _ _).mono ?_
            rw [HRR.out]
            rintro e w6 ⟨rfl, hu⟩
            have HR6 := Lib.hid (HR4.out.upd hu (fun h => h))
            have HU6 := Lib.hid (HU4.out.trans hu (fun _ h _ => h.elim))
            clear e0 e1 e2 e7 e8 e9 y1 y2 y3 yf hlk4
            have e0 := HR6.out.fr 0
            have e1 := HR6.out.fr 1
            have e2 := HR6.out.fr 2
            have e7 := HR6.out.c0
            have e8 := HR6.out.c1
            have e9 := HR6.out.c2
            clear hu
            go_wp2_with fail
            obtain ⟨z1, z2⟩ := fin3 HR6.out (.int .i64 0) (.int .i64 0) (.int .i64 0)
            have y0 := z1.c0
            have y1 := z1.c1
            have y2 := z1.c2
            refine bodyPost_ret (v := .tuple #[ins 0 0 0, .int .i64 9]) (by simp [results, Tryz.f30, go_sem, y0, y1, y2]) rfl (.inl ⟨by rw [HE9.out]; decide, by rw [HE9.out], HU6.out.trans z2 (fun i hi hlt => by omega)⟩)
          | true =>
            have HE0 := Lib.hid (show errI lk ys = 0 by unfold errI; rw [HQ.out, HL.out, HOP.out, if_neg (by simp), if_pos HRG.out, if_pos hr])
            have HRR := Lib.hid hr
            clear hr
            go_wp2_with fail
            refine (rRight _ _ _ _).mono ?_
            rw [HRR.out]
            rintro e w6 ⟨rfl, hu⟩
            have HR6 := Lib.hid (HR4.out.upd hu (fun h => h))
            have HU6 := Lib.hid (HU4.out.trans hu (fun _ h _ => h.elim))
            have HI6 := Lib.hid (HI4.out.upd hu (fun h => h))
            have HK6 := Lib.hid (K1.out.upd hu (fun _ _ h => h))
            clear e0 e1 e2 e7 e8 e9 y1 y2 y3 yf hlk4
            have e0 := HR6.out.fr 0
            have e1 := HR6.out.fr 1
            have e2 := HR6.out.fr 2
            have e7 := HR6.out.c0
            have e8 := HR6.out.c1
            have e9 := HR6.out.c2
            have i0 := HI6.out.c0
            have i1 := HI6.out.c1
            have i2 := HI6.out.c2
            clear hu
            go_wp2_with fail
            obtain ⟨z1, z2⟩ := fin3 HR6.out (.int .i64 op) (.int .i64 A) (.int .i64 0)
            have y0 := z1.c0
            have y1 := z1.c1
            have y2 := z1.c2
            refine bodyPost_ret (v := .tuple #[ins op A 0, .int .i64 0]) (by simp [results, Tryz.f30, go_sem, y0, y1, y2]) rfl (.inr ⟨HE0.out, by rw [HQ.out, HOP.out], _, ?_, HU6.out.trans z2 (fun i hi hlt => by omega), HO4.out⟩)
            rw [HQ.out]
            exact (HL.out ▸ HK6.out).upd z2 (fun k hk e => by
              subst e
              rcases hk with hk | hk
              · omega
              · have := H.out.inn _ (HO4.out _ hk); omega)
      · have b1 : (op == 1) = false := by simpa using q1
        by_cases q2 : op = 23 ∨ op = 24
        · have HT := Lib.hid (show argI op lk1 ys1 = (beN (takeP 2 lk1 ys1).1, 0, (takeP 2 lk1 ys1).2.1, (takeP 2 lk1 ys1).2.2) by simp [argI, q1, q2])
          have b2 : (op == 23) = true ∨ (op == 23) = false ∧ (op == 24) = true := by
            rcases q2 with q2 | q2
            · left; simpa using q2
            · right; subst q2; exact ⟨rfl, rfl⟩
          clear q1 q2
          rcases b2 with b2 | ⟨b2, b3⟩
          all_goals
            go_wp2_with fail
            refine (qU16 _ b v2 _ _ HK3.out).mono ?_
            rintro e w4 ⟨rfl, v4, k1, k2, k3⟩
            generalize hA : beN (takeP 2 lk1 ys1).1 = A at *
            generalize hlk4' : (takeP 2 lk1 ys1).2.1 = lk4 at *
            generalize hys4 : (takeP 2 lk1 ys1).2.2 = ys4 at *
            have HQ := Lib.hid (show restI lk ys = (A, 0, lk4, ys4) from HRI.out.trans HT.out)
            have hi4 := HI3.out.upd k2 (fun e => by omega)
            have y1 := hi4.c0
            have y2 := hi4.c1
            have y3 := hi4.c2
            have yf := hi4.fr 1
            have HI5 := Lib.hid hi4
            have hr5 := HR3.out.upd k2 (fun e => by omega)
            have e0 := hr5.fr 0
            have e1 := hr5.fr 1
            have e2 := hr5.fr 2
            have e7 := hr5.c0
            have e8 := hr5.c1
            have e9 := hr5.c2
            have hlk4 := k1.cell1
            have HR5 := Lib.hid hr5
            have HU5 := Lib.hid (HU3.out.trans k2 (fun _ h _ => h))
            have K1 := Lib.hid k1
            have HO4 := Lib.hid (show ∀ i, v4.ownBlock = some i → v.ownBlock = some i from fun i hi => HO3.out i (k3 i hi))
            clear hA hlk4' hys4 k1 k2 k3 hi4 hr5
            have z0 := Upd.setCell (S := fun k => k = w2.heap.size) w4 (p := ⟨w2.heap.size, 1, none⟩) (.inl rfl) (.int .i64 A)
            have HI4 := Lib.hid (HI5.out.set1 (.int .i64 A))
            have HR4 := Lib.hid (HR5.out.upd z0 (fun e => by omega))
            have HU4 := Lib.hid (HU5.out.trans z0 (fun i hi hlt => by omega))
            have K5 := Lib.hid (K1.out.upd z0 (fun k hk e => by subst e; rcases hk with hk | hk; (omega); (have := H.out.inn _ (HO4.out _ hk); omega)))
            clear z0 K1
            have K1 := K5
            clear K5
            cases hl : lk4 with
            | true =>
              rw [hl] at hlk4
              have HE7 := Lib.hid (show errI lk ys = 7 by unfold errI; rw [HQ.out, hl]; rfl)
              clear hl
              go_wp2_with fail
              obtain ⟨z1, z2⟩ := fin3 HR4.out (.int .i64 0) (.int .i64 0) (.int .i64 0)
              have y0 := z1.c0
              have y1 := z1.c1
              have y2 := z1.c2
              refine bodyPost_ret (v := .tuple #[ins 0 0 0, .int .i64 7]) (by simp [results, Tryz.f30, go_sem, y0, y1, y2]) rfl (.inl ⟨by rw [HE7.out]; decide, by rw [HE7.out], HU4.out.trans z2 (fun i hi hlt => by omega)⟩)
            | false =>
              rw [hl] at hlk4
              have HL := Lib.hid hl
              clear hl
              cases hr : rightB op A 0 with
              | false =>
                have HE9 := Lib.hid (show errI lk ys = 9 by unfold errI; rw [HQ.out, HL.out, HOP.out, if_neg (by simp), if_pos HRG.out, if_neg (by simp [hr])])
                have HRR := Lib.hid hr
                clear hr
                go_wp2_with fail
                refine (rRight _ _ _ _).mono ?_
                rw [HRR.out]
                rintro e w6 ⟨rfl, hu⟩
                have HR6 := Lib.hid (HR4.out.upd hu (fun h => h))
                have HU6 := Lib.hid (HU4.out.trans hu (fun _ h _ => h.elim))
                clear e0 e1 e2 e7 e8 e9 y1 y2 y3 yf hlk4
                have e0 := HR6.out.fr 0
                have e1 := HR6.out.fr 1
                have e2 := HR6.out.fr 2
                have e7 := HR6.out.c0
                have e8 := HR6.out.c1
                have e9 := HR6.out.c2
                clear hu
                go_wp2_with fail
                obtain ⟨z1, z2⟩ := fin3 HR6.out (.int .i64 0) (.int .i64 0) (.int .i64 0)
                have y0 := z1.c0
                have y1 := z1.c1
                have y2 := z1.c2
                refine bodyPost_ret (v := .tuple #[ins 0 0 0, .int .i64 9]) (by simp [results, Tryz.f30, go_sem, y0, y1, y2]) rfl (.inl ⟨by rw [HE9.out]; decide, by rw [HE9.out], HU6.out.trans z2 (fun i hi hlt => by omega)⟩)
              | true =>
                have HE0 := Lib.hid (show errI lk ys = 0 by unfold errI; rw [HQ.out, HL.out, HOP.out, if_neg (by simp), if_pos HRG.out, if_pos hr])
                have HRR := Lib.hid hr
                clear hr
                go_wp2_with fail
                refine (rRight _ _ _ _).mono ?_
                rw [HRR.out]
                rintro e w6 ⟨rfl, hu⟩
                have HR6 := Lib.hid (HR4.out.upd hu (fun h => h))
                have HU6 := Lib.hid (HU4.out.trans hu (fun _ h _ => h.elim))
                have HI6 := Lib.hid (HI4.out.upd hu (fun h => h))
                have HK6 := Lib.hid (K1.out.upd hu (fun _ _ h => h))
                clear e0 e1 e2 e7 e8 e9 y1 y2 y3 yf hlk4
                have e0 := HR6.out.fr 0
                have e1 := HR6.out.fr 1
                have e2 := HR6.out.fr 2
                have e7 := HR6.out.c0
                have e8 := HR6.out.c1
                have e9 := HR6.out.c2
                have i0 := HI6.out.c0
                have i1 := HI6.out.c1
                have i2 := HI6.out.c2
                clear hu
                go_wp2_with fail
                obtain ⟨z1, z2⟩ := fin3 HR6.out (.int .i64 op) (.int .i64 A) (.int .i64 0)
                have y0 := z1.c0
                have y1 := z1.c1
                have y2 := z1.c2
                refine bodyPost_ret (v := .tuple #[ins op A 0, .int .i64 0]) (by simp [results, Tryz.f30, go_sem, y0, y1, y2]) rfl (.inr ⟨HE0.out, by rw [HQ.out, HOP.out], _, ?_, HU6.out.trans z2 (fun i hi hlt => by omega), HO4.out⟩)
                rw [HQ.out]
                exact (HL.out ▸ HK6.out).upd z2 (fun k hk e => by
                  subst e
                  rcases hk with hk | hk
                  · omega
                  · have := H.out.inn _ (HO4.out _ hk); omega)
        · have b2 : (op == 23) = false := by simp at q2; simpa using q2.1
          have b3 : (op == 24) = false := by simp at q2; simpa using q2.2
          have HT0 := Lib.hid (show argI op lk1 ys1 = tailI op lk1 ys1 by simp [argI, q1, q2])
          clear q2
          by_cases q3 : op = 27
          · have HT := Lib.hid (show argI op lk1 ys1 = (beN (takeP 1 lk1 ys1).1, beN (takeP 1 (takeP 1 lk1 ys1).2.1 (takeP 1 lk1 ys1).2.2).1, (takeP 1 (takeP 1 lk1 ys1).2.1 (takeP 1 lk1 ys1).2.2).2.1, (takeP 1 (takeP 1 lk1 ys1).2.1 (takeP 1 lk1 ys1).2.2).2.2) by rw [HT0.out, q3]; simp [tailI, ops27])
            have b4 : (op == 27) = true := by simpa using q3
            clear q1 q3 HT0
            go_wp2_with fail
            refine (qU8 _ b v2 _ _ HK3.out).mono ?_
            rintro e w4 ⟨rfl, v4, k1, k2, k3⟩
            generalize hA : beN (takeP 1 lk1 ys1).1 = A at *
            generalize hlk4 : (takeP 1 lk1 ys1).2.1 = lk4 at *
            generalize hys4 : (takeP 1 lk1 ys1).2.2 = ys4 at *
            have hi4 := HI3.out.upd k2 (fun e => by omega)
            have f1 := hi4.fr 1
            have g1 := hi4.c1
            have g0 := hi4.c0
            have g3 := hi4.c2
            have HR5 := HR3.out.upd k2 (fun e => by omega)
            have HU5 := HU3.out.trans k2 (fun _ h _ => h)
            have HO4' := Lib.hid (show ∀ i, v4.ownBlock = some i → v.ownBlock = some i from fun i hi => HO3.out i (k3 i hi))
            have z0 := Upd.setCell (S := fun k => k = w2.heap.size) w4 (p := ⟨w2.heap.size, 1, none⟩) (.inl rfl) (.int .i64 A)
            have HI5 := Lib.hid (hi4.set1 (.int .i64 A))
            have HR5 := Lib.hid (HR5.upd z0 (fun e => by omega))
            have HU5 := Lib.hid (HU5.trans z0 (fun i hi hlt => by omega))
            have K5 := Lib.hid (k1.upd z0 (fun k hk e => by subst e; rcases hk with hk | hk; (omega); (have := H.out.inn _ (HO4'.out _ hk); omega)))
            clear hA hlk4 hys4 k1 k2 k3 hi4 z0
            go_wp2_with fail
            refine (qU8 _ b v4 _ _ K5.out).mono ?_
            rintro e w7 ⟨rfl, v7, k1, k2, k3⟩
            clear g0 g1 f1 g3
            generalize hB : beN (takeP 1 lk4 ys4).1 = B at *
            generalize hlk7 : (takeP 1 lk4 ys4).2.1 = lk7 at *
            generalize hys7 : (takeP 1 lk4 ys4).2.2 = ys7 at *
            have HQ := Lib.hid (show restI lk ys = (A, B, lk7, ys7) from HRI.out.trans HT.out)
            have hi7 := HI5.out.upd k2 (fun e => by omega)
            have yf := hi7.fr 2
            have y1 := hi7.c0
            have y2 := hi7.c1
            have y3 := hi7.c2
            have HR7 := HR5.out.upd k2 (fun e => by omega)
            have e0 := HR7.fr 0
            have e1 := HR7.fr 1
            have e2 := HR7.fr 2
            have e7 := HR7.c0
            have e8 := HR7.c1
            have e9 := HR7.c2
            have hlk4 := k1.cell1
            have HU7 := HU5.out.trans k2 (fun _ h _ => h)
            have HO4 := Lib.hid (show ∀ i, v7.ownBlock = some i → v.ownBlock = some i from fun i hi => HO4'.out i (k3 i hi))
            have z0 := Upd.setCell (S := fun k => k = w2.heap.size) w7 (p := ⟨w2.heap.size, 2, none⟩) (.inl rfl) (.int .i64 B)
            have HI4 := Lib.hid (hi7.set2 (.int .i64 B))
            have HR4 := Lib.hid (HR7.upd z0 (fun e => by omega))
            have HU4 := Lib.hid (HU7.trans z0 (fun i hi hlt => by omega))
            have K1 := Lib.hid (k1.upd z0 (fun k hk e => by subst e; rcases hk with hk | hk; (omega); (have := H.out.inn _ (HO4.out _ hk); omega)))
            clear hB hlk7 hys7 k1 k2 k3 hi7 HR7 z0
            cases hl : lk7 with
            | true =>
              rw [hl] at hlk4
              have HE7 := Lib.hid (show errI lk ys = 7 by unfold errI; rw [HQ.out, hl]; rfl)
              clear hl
              go_wp2_with fail
              obtain ⟨z1, z2⟩ := fin3 HR4.out (.int .i64 0) (.int .i64 0) (.int .i64 0)
              have y0 := z1.c0
              have y1 := z1.c1
              have y2 := z1.c2
              refine bodyPost_ret (v := .tuple #[ins 0 0 0, .int .i64 7]) (by simp [results, Tryz.f30, go_sem, y0, y1, y2]) rfl (.inl ⟨by rw [HE7.out]; decide, by rw [HE7.out], HU4.out.trans z2 (fun i hi hlt => by omega)⟩)
            | false =>
              rw [hl] at hlk4
              have HL := Lib.hid hl
              clear hl
              cases hr : rightB op A B with
              | false =>
                have HE9 := Lib.hid (show errI lk ys = 9 by unfold errI; rw [HQ.out, HL.out, HOP.out, if_neg (by simp), if_pos HRG.out, if_neg (by simp [hr])])
                have HRR := Lib.hid hr
                clear hr
                go_wp2_with fail
                refine (rRight _ _ _ _).mono ?_
                rw [HRR.out]
                rintro e w6 ⟨rfl, hu⟩
                have HR6 := Lib.hid (HR4.out.upd hu (fun h => h))
                have HU6 := Lib.hid (HU4.out.trans hu (fun _ h _ => h.elim))
                clear e0 e1 e2 e7 e8 e9 y1 y2 y3 yf hlk4
                have e0 := HR6.out.fr 0
                have e1 := HR6.out.fr 1
                have e2 := HR6.out.fr 2
                have e7 := HR6.out.c0
                have e8 := HR6.out.c1
                have e9 := HR6.out.c2
                clear hu
                go_wp2_with fail
                obtain ⟨z1, z2⟩ := fin3 HR6.out (.int .i64 0) (.int .i64 0) (.int .i64 0)
                have y0 := z1.c0
                have y1 := z1.c1
                have y2 := z1.c2
                refine bodyPost_ret (v := .tuple #[ins 0 0 0, .int .i64 9]) (by simp [results, Tryz.f30, go_sem, y0, y1, y2]) rfl (.inl ⟨by rw [HE9.out]; decide, by rw [HE9.out], HU6.out.trans z2 (fun i hi hlt => by omega)⟩)
              | true =>
                have HE0 := Lib.hid (show errI lk ys = 0 by unfold errI; rw [HQ.out, HL.out, HOP.out, if_neg (by simp), if_pos HRG.out, if_pos hr])
                have HRR := Lib.hid hr
                clear hr
                go_wp2_with fail
                refine (rRight _ _ _ _).mono ?_
                rw [HRR.out]
                rintro e w6 ⟨rfl, hu⟩
                have HR6 := Lib.hid (HR4.out.upd hu (fun h => h))
                have HU6 := Lib.hid (HU4.out.trans hu (fun _ h _ => h.elim))
                have HI6 := Lib.hid (HI4.out.upd hu (fun h => h))
                have HK6 := Lib.hid (K1.out.upd hu (fun _ _ h => h))
                clear e0 e1 e2 e7 e8 e9 y1 y2 y3 yf hlk4
                have e0 := HR6.out.fr 0
                have e1 := HR6.out.fr 1
                have e2 := HR6.out.fr 2
                have e7 := HR6.out.c0
                have e8 := HR6.out.c1
                have e9 := HR6.out.c2
                have i0 := HI6.out.c0
                have i1 := HI6.out.c1
                have i2 := HI6.out.c2
                clear hu
                go_wp2_with fail
                obtain ⟨z1, z2⟩ := fin3 HR6.out (.int .i64 op) (.int .i64 A) (.int .i64 B)
                have y0 := z1.c0
                have y1 := z1.c1
                have y2 := z1.c2
                refine bodyPost_ret (v := .tuple #[ins op A B, .int .i64 0]) (by simp [results, Tryz.f30, go_sem, y0, y1, y2]) rfl (.inr ⟨HE0.out, by rw [HQ.out, HOP.out], _, ?_, HU6.out.trans z2 (fun i hi hlt => by omega), HO4.out⟩)
                rw [HQ.out]
                exact (HL.out ▸ HK6.out).upd z2 (fun k hk e => by
                  subst e
                  rcases hk with hk | hk
                  · omega
                  · have := H.out.inn _ (HO4.out _ hk); omega)
          · have b4 : (op == 27) = false := by simpa using q3
            have T := table op
            rcases ops3 op with ho | ho | ho
            · have HT := Lib.hid (show argI op lk1 ys1 = (0, 0, lk1, ys1) by rw [HT0.out]; simp [tailI, ho])
              clear q1 q3 HT0 T
              go_wp2_with fail
              refine (rOperands _ _).mono ?_
              rw [ho]
              rintro e w4 ⟨rfl, rfl⟩
              have HQ := Lib.hid (show restI lk ys = (0, 0, lk1, ys1) from HRI.out.trans HT.out)
              have HI4 := HI3
              have HR4 := HR3
              have HU4 := HU3
              have K1 := HK3
              have HO4 := HO3
              have y1 := HI3.out.c0
              have y2 := HI3.out.c1
              have y3 := HI3.out.c2
              have yf := HI3.out.fr 1
              have e0 := HR4.out.fr 0
              have e1 := HR4.out.fr 1
              have e2 := HR4.out.fr 2
              have e7 := HR4.out.c0
              have e8 := HR4.out.c1
              have e9 := HR4.out.c2
              have hlk4 := K1.out.cell1
              clear x0 ho
              cases hl : lk1 with
              | true =>
                rw [hl] at hlk4
                have HE7 := Lib.hid (show errI lk ys = 7 by unfold errI; rw [HQ.out, hl]; rfl)
                clear hl
                go_wp2_with fail
                obtain ⟨z1, z2⟩ := fin3 HR4.out (.int .i64 0) (.int .i64 0) (.int .i64 0)
                have y0 := z1.c0
                have y1 := z1.c1
                have y2 := z1.c2
                refine bodyPost_ret (v := .tuple #[ins 0 0 0, .int .i64 7]) (by simp [results, Tryz.f30, go_sem, y0, y1, y2]) rfl (.inl ⟨by rw [HE7.out]; decide, by rw [HE7.out], HU4.out.trans z2 (fun i hi hlt => by omega)⟩)
              | false =>
                rw [hl] at hlk4
                have HL := Lib.hid hl
                clear hl
                cases hr : rightB op 0 0 with
                | false =>
                  have HE9 := Lib.hid (show errI lk ys = 9 by unfold errI; rw [HQ.out, HL.out, HOP.out, if_neg (by simp), if_pos HRG.out, if_neg (by simp [hr])])
                  have HRR := Lib.hid hr
                  clear hr
                  go_wp2_with fail
                  refine (rRight _ _ _ _).mono ?_
                  rw [HRR.out]
                  rintro e w6 ⟨rfl, hu⟩
                  have HR6 := Lib.hid (HR4.out.upd hu (fun h => h))
                  have HU6 := Lib.hid (HU4.out.trans hu (fun _ h _ => h.elim))
                  clear e0 e1 e2 e7 e8 e9 y1 y2 y3 yf hlk4
                  have e0 := HR6.out.fr 0
                  have e1 := HR6.out.fr 1
                  have e2 := HR6.out.fr 2
                  have e7 := HR6.out.c0
                  have e8 := HR6.out.c1
                  have e9 := HR6.out.c2
                  clear hu
                  go_wp2_with fail
                  obtain ⟨z1, z2⟩ := fin3 HR6.out (.int .i64 0) (.int .i64 0) (.int .i64 0)
                  have y0 := z1.c0
                  have y1 := z1.c1
                  have y2 := z1.c2
                  refine bodyPost_ret (v := .tuple #[ins 0 0 0, .int .i64 9]) (by simp [results, Tryz.f30, go_sem, y0, y1, y2]) rfl (.inl ⟨by rw [HE9.out]; decide, by rw [HE9.out], HU6.out.trans z2 (fun i hi hlt => by omega)⟩)
                | true =>
                  have HE0 := Lib.hid (show errI lk ys = 0 by unfold errI; rw [HQ.out, HL.out, HOP.out, if_neg (by simp), if_pos HRG.out, if_pos hr])
                  have HRR := Lib.hid hr
                  clear hr
                  go_wp2_with fail
                  refine (rRight _ _ _ _).mono ?_
                  rw [HRR.out]
                  rintro e w6 ⟨rfl, hu⟩
                  have HR6 := Lib.hid (HR4.out.upd hu (fun h => h))
                  have HU6 := Lib.hid (HU4.out.trans hu (fun _ h _ => h.elim))
                  have HI6 := Lib.hid (HI4.out.upd hu (fun h => h))
                  have HK6 := Lib.hid (K1.out.upd hu (fun _ _ h => h))
                  clear e0 e1 e2 e7 e8 e9 y1 y2 y3 yf hlk4
                  have e0 := HR6.out.fr 0
                  have e1 := HR6.out.fr 1
                  have e2 := HR6.out.fr 2
                  have e7 := HR6.out.c0
                  have e8 := HR6.out.c1
                  have e9 := HR6.out.c2
                  have i0 := HI6.out.c0
                  have i1 := HI6.out.c1
                  have i2 := HI6.out.c2
                  clear hu
                  go_wp2_with fail
                  obtain ⟨z1, z2⟩ := fin3 HR6.out (.int .i64 op) (.int .i64 0) (.int .i64 0)
                  have y0 := z1.c0
                  have y1 := z1.c1
                  have y2 := z1.c2
                  refine bodyPost_ret (v := .tuple #[ins op 0 0, .int .i64 0]) (by simp [results, Tryz.f30, go_sem, y0, y1, y2]) rfl (.inr ⟨HE0.out, by rw [HQ.out, HOP.out], _, ?_, HU6.out.trans z2 (fun i hi hlt => by omega), HO4.out⟩)
                  rw [HQ.out]
                  exact (HL.out ▸ HK6.out).upd z2 (fun k hk e => by
                    subst e
                    rcases hk with hk | hk
                    · omega
                    · have := H.out.inn _ (HO4.out _ hk); omega)
            · have HT := Lib.hid (show argI op lk1 ys1 = (beN (takeP 1 lk1 ys1).1, 0, (takeP 1 lk1 ys1).2.1, (takeP 1 lk1 ys1).2.2) by rw [HT0.out]; simp [tailI, ho])
              clear q1 q3 HT0 T
              go_wp2_with fail
              refine (rOperands _ _).mono ?_
              rw [ho]
              rintro e w4' ⟨rfl, rfl⟩
              clear ho
              go_wp2_with fail
              refine (qU8 _ b v2 _ _ HK3.out).mono ?_
              rintro e w4 ⟨rfl, v4, k1, k2, k3⟩
              generalize hA : beN (takeP 1 lk1 ys1).1 = A at *
              generalize hlk4' : (takeP 1 lk1 ys1).2.1 = lk4 at *
              generalize hys4 : (takeP 1 lk1 ys1).2.2 = ys4 at *
              have HQ := Lib.hid (show restI lk ys = (A, 0, lk4, ys4) from HRI.out.trans HT.out)
              have hi4 := HI3.out.upd k2 (fun e => by omega)
              have y1 := hi4.c0
              have y2 := hi4.c1
              have y3 := hi4.c2
              have yf := hi4.fr 1
              have HI5 := Lib.hid hi4
              have hr5 := HR3.out.upd k2 (fun e => by omega)
              have e0 := hr5.fr 0
              have e1 := hr5.fr 1
              have e2 := hr5.fr 2
              have e7 := hr5.c0
              have e8 := hr5.c1
              have e9 := hr5.c2
              have hlk4 := k1.cell1
              have HR5 := Lib.hid hr5
              have HU5 := Lib.hid (HU3.out.trans k2 (fun _ h _ => h))
              have K1 := Lib.hid k1
              have HO4 := Lib.hid (show ∀ i, v4.ownBlock = some i → v.ownBlock = some i from fun i hi => HO3.out i (k3 i hi))
              clear hA hlk4' hys4 k1 k2 k3 hi4 hr5
              have z0 := Upd.setCell (S := fun k => k = w2.heap.size) w4 (p := ⟨w2.heap.size, 1, none⟩) (.inl rfl) (.int .i64 A)
              have HI4 := Lib.hid (HI5.out.set1 (.int .i64 A))
              have HR4 := Lib.hid (HR5.out.upd z0 (fun e => by omega))
              have HU4 := Lib.hid (HU5.out.trans z0 (fun i hi hlt => by omega))
              have K5 := Lib.hid (K1.out.upd z0 (fun k hk e => by subst e; rcases hk with hk | hk; (omega); (have := H.out.inn _ (HO4.out _ hk); omega)))
              clear z0 K1
              have K1 := K5
              clear K5
              cases hl : lk4 with
              | true =>
                rw [hl] at hlk4
                have HE7 := Lib.hid (show errI lk ys = 7 by unfold errI; rw [HQ.out, hl]; rfl)
                clear hl
                go_wp2_with fail
                obtain ⟨z1, z2⟩ := fin3 HR4.out (.int .i64 0) (.int .i64 0) (.int .i64 0)
                have y0 := z1.c0
                have y1 := z1.c1
                have y2 := z1.c2
                refine bodyPost_ret (v := .tuple #[ins 0 0 0, .int .i64 7]) (by simp [results, Tryz.f30, go_sem, y0, y1, y2]) rfl (.inl ⟨by rw [HE7.out]; decide, by rw [HE7.out], HU4.out.trans z2 (fun i hi hlt => by omega)⟩)
              | false =>
                rw [hl] at hlk4
                have HL := Lib.hid hl
                clear hl
                cases hr : rightB op A 0 with
                | false =>
                  have HE9 := Lib.hid (show errI lk ys = 9 by unfold errI; rw [HQ.out, HL.out, HOP.out, if_neg (by simp), if_pos HRG.out, if_neg (by simp [hr])])
                  have HRR := Lib.hid hr
                  clear hr
                  go_wp2_with fail
                  refine (rRight _ _ _ _).mono ?_
                  rw [HRR.out]
                  rintro e w6 ⟨rfl, hu⟩
                  have HR6 := Lib.hid (HR4.out.upd hu (fun h => h))
                  have HU6 := Lib.hid (HU4.out.trans hu (fun _ h _ => h.elim))
                  clear e0 e1 e2 e7 e8 e9 y1 y2 y3 yf hlk4
                  have e0 := HR6.out.fr 0
                  have e1 := HR6.out.fr 1
                  have e2 := HR6.out.fr 2
                  have e7 := HR6.out.c0
                  have e8 := HR6.out.c1
                  have e9 := HR6.out.c2
                  clear hu
                  go_wp2_with fail
                  obtain ⟨z1, z2⟩ := fin3 HR6.out (.int .i64 0) (.int .i64 0) (.int .i64 0)
                  have y0 := z1.c0
                  have y1 := z1.c1
                  have y2 := z1.c2
                  refine bodyPost_ret (v := .tuple #[ins 0 0 0, .int .i64 9]) (by simp [results, Tryz.f30, go_sem, y0, y1, y2]) rfl (.inl ⟨by rw [HE9.out]; decide, by rw [HE9.out], HU6.out.trans z2 (fun i hi hlt => by omega)⟩)
                | true =>
                  have HE0 := Lib.hid (show errI lk ys = 0 by unfold errI; rw [HQ.out, HL.out, HOP.out, if_neg (by simp), if_pos HRG.out, if_pos hr])
                  have HRR := Lib.hid hr
                  clear hr
                  go_wp2_with fail
                  refine (rRight _ _ _ _).mono ?_
                  rw [HRR.out]
                  rintro e w6 ⟨rfl, hu⟩
                  have HR6 := Lib.hid (HR4.out.upd hu (fun h => h))
                  have HU6 := Lib.hid (HU4.out.trans hu (fun _ h _ => h.elim))
                  have HI6 := Lib.hid (HI4.out.upd hu (fun h => h))
                  have HK6 := Lib.hid (K1.out.upd hu (fun _ _ h => h))
                  clear e0 e1 e2 e7 e8 e9 y1 y2 y3 yf hlk4
                  have e0 := HR6.out.fr 0
                  have e1 := HR6.out.fr 1
                  have e2 := HR6.out.fr 2
                  have e7 := HR6.out.c0
                  have e8 := HR6.out.c1
                  have e9 := HR6.out.c2
                  have i0 := HI6.out.c0
                  have i1 := HI6.out.c1
                  have i2 := HI6.out.c2
                  clear hu
                  go_wp2_with fail
                  obtain ⟨z1, z2⟩ := fin3 HR6.out (.int .i64 op) (.int .i64 A) (.int .i64 0)
                  have y0 := z1.c0
                  have y1 := z1.c1
                  have y2 := z1.c2
                  refine bodyPost_ret (v := .tuple #[ins op A 0, .int .i64 0]) (by simp [results, Tryz.f30, go_sem, y0, y1, y2]) rfl (.inr ⟨HE0.out, by rw [HQ.out, HOP.out], _, ?_, HU6.out.trans z2 (fun i hi hlt => by omega), HO4.out⟩)
                  rw [HQ.out]
                  exact (HL.out ▸ HK6.out).upd z2 (fun k hk e => by
                    subst e
                    rcases hk with hk | hk
                    · omega
                    · have := H.out.inn _ (HO4.out _ hk); omega)
            · omega
    · have HN := Lib.hid (nameB_out (op := op) (by omega))
      have HE8 := Lib.hid (show errI lk ys = 8 by unfold errI; rw [HRI.out, arg_none hrg, HOP.out, hl1, if_neg (by simp), if_neg hrg])
      clear hrg hl1
      go_wp2_with fail
      refine (rName _ _).mono ?_
      rw [HN.out]
      rintro e w3 ⟨rfl, hu⟩
      have HR3 := Lib.hid (HR3'.out.upd hu (fun h => h))
      have HU3 := Lib.hid (HU3'.out.trans hu (fun _ h _ => h.elim))
      clear hu hlk1 hlk2
      have e0 := HR3.out.fr 0
      have e1 := HR3.out.fr 1
      have e2 := HR3.out.fr 2
      have e7 := HR3.out.c0
      have e8 := HR3.out.c1
      have e9 := HR3.out.c2
      go_wp2_with fail
      obtain ⟨z1, z2⟩ := fin3 HR3.out (.int .i64 0) (.int .i64 0) (.int .i64 0)
      have y0 := z1.c0
      have y1 := z1.c1
      have y2 := z1.c2
      refine bodyPost_ret (v := .tuple #[ins 0 0 0, .int .i64 8]) (by simp [results, Tryz.f30, go_sem, y0, y1, y2]) rfl (.inl ⟨by rw [HE8.out]; decide, by rw [HE8.out], HU3.out.trans z2 (fun i hi hlt => by omega)⟩)
end Go.Proofs.YtmbdfmgidnjgeaaGreatDoor

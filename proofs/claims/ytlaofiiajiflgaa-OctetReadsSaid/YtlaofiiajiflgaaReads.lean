/- OctetReads: the walk. -/
import Derived.Test.YtlaofiiajiflgaaRref
import Derived.Test.YtlaofiiajiflgaaBackP
import Derived.Deep.RegionHeld3
import Derived.Deep.QuietTactic
import Derived.BigQuiet
namespace Go.Proofs.Ytlaofiiajiflgaa
open Go.RowKit
set_option linter.unusedVariables false

/-- both readers have the same, and nothing of W has turned -/
structure Two' (W : World) (bx br : Nat) (vx vr : Value) (lk : Bool) (ys : List Int) (w : World) : Prop where
  x : Rd 50 w bx vx lk ys
  r : Rd 44 w br vr lk ys
  upd : Upd (fun _ => False) W w
  ox : W.heap.size ≤ bx
  or : W.heap.size ≤ br
  ax : ∀ k, fp bx vx k → k ≠ br
  ar : ∀ k, fp br vr k → k ≠ bx
def Two (W : World) (bx br : Nat) (lk : Bool) (ys : List Int) (w : World) : Prop := ∃ vx vr, Two' W bx br vx vr lk ys w

theorem two_step {W w w5 w6 : World} {bx br : Nat} {vx vr vx' vr' : Value} {lk lk' : Bool} {ys ys' : List Int} (h : Two' W bx br vx vr lk ys w)
    (g1 : Rd 50 w5 bx vx' lk' ys') (g2 : Upd (fun k => k = bx) w w5) (g3 : ∀ k, vx'.ownBlock = some k → vx.ownBlock = some k)
    (k1 : Rd 44 w6 br vr' lk' ys') (k2 : Upd (fun k => k = br) w5 w6) (k3 : ∀ k, vr'.ownBlock = some k → vr.ownBlock = some k) : Two W bx br lk' ys' w6 := by
  have ax : ∀ k, fp bx vx' k → k ≠ br := fun k hk => by
    rcases hk with hk | hk
    · exact h.ax k (.inl hk)
    · exact h.ax k (.inr (g3 k hk))
  refine ⟨vx', vr', g1.upd k2 ax, k1, ?_, h.ox, h.or, ax, fun k hk => ?_⟩
  · refine (h.upd.trans g2 (fun i hi hlt => ?_)).trans k2 (fun i hi hlt => ?_)
    · have := h.ox; omega
    · have := h.or; omega
  · rcases hk with hk | hk
    · exact h.ar k (.inl hk)
    · exact h.ar k (.inr (k3 k hk))

theorem upd_drewN (S : Nat → Prop) (w : World) (n : Nat) : Upd S w (w.drewN n) := ⟨rfl, rfl, rfl, Nat.le_refl _, fun _ _ _ => rfl⟩
theorem lack_quiet {w : World} {n b : Nat} {v : Value} {lk : Bool} {ys : List Int} (h : Rd 50 w b v lk ys) : Calls Try.prog 13 #[.pointer (some ⟨b, 0, none⟩)] (w.drewN n) fun e w'' => e = .returned (.bool lk) ∧ ∃ m, w'' = w.drewN m :=
  Calls.quiet_of_same ((rLack _ _ _ _ _ (h.upd (upd_drewN (fun _ => False) w n) (fun _ _ h => h))).mono fun _ _ ⟨a, b⟩ => ⟨a, b.symm⟩)
theorem left_quiet {w : World} {n b : Nat} {v : Value} {lk : Bool} {ys : List Int} (h : Rd 50 w b v lk ys) : Calls Try.prog 14 #[.pointer (some ⟨b, 0, none⟩)] (w.drewN n) fun e w'' => e = .returned (.int .i64 ys.length) ∧ ∃ m, w'' = w.drewN m :=
  Calls.quiet_of_same ((rLeft _ _ _ _ _ (h.upd (upd_drewN (fun _ => False) w n) (fun _ _ h => h))).mono fun _ _ ⟨a, b⟩ => ⟨a, b.symm⟩)
theorem Two'.drew {W w : World} {bx br : Nat} {vx vr : Value} {lk : Bool} {ys : List Int} (h : Two' W bx br vx vr lk ys w) : Two' W bx br vx vr lk ys w.drew := by
  have hu := Upd.drew (fun _ => False) w
  exact ⟨h.x.upd hu (fun _ _ h => h), h.r.upd hu (fun _ _ h => h), h.upd.trans hu (fun _ h _ => h), h.ox, h.or, h.ax, h.ar⟩
theorem Two.drewN {W w : World} {bx br : Nat} {lk : Bool} {ys : List Int} (h : Two W bx br lk ys w) (n : Nat) : Two W bx br lk ys (w.drewN n) := by
  obtain ⟨vx, vr, h⟩ := h
  have hu := upd_drewN (fun _ => False) w n
  exact ⟨vx, vr, h.x.upd hu (fun _ _ h => h), h.r.upd hu (fun _ _ h => h), h.upd.trans hu (fun _ h _ => h), h.ox, h.or, h.ax, h.ar⟩

set_option maxHeartbeats 2000000 in
set_option maxRecDepth 100000 in
theorem reads_walk (vb v : Value) (bs : List Int) (L : List StepR) (W : World) (hvb : Vw W vb bs) (hv : StepsAt W v L) (hbs : bs.length ≤ 140737488355327) : Calls Try.prog 5 #[vb, v] W fun e w' => e = .returned (.bool true) ∧ Below W.heap.size W w' := by
  have HV := Lib.hid hv
  obtain ⟨a, c, rfl⟩ := hv.slice
  obtain ⟨ab, cb, rfl, hb1, hb2⟩ := hvb.slice
  unfold maxLen at hb2
  clear hv
  go_enter Try.func5, Try.ntmps5
  go_wp2_with fail
  refine (newReader _ _ bs hvb hbs).mono ?_
  rintro e w1 ⟨bx, vx, rfl, h1, h2, h3⟩
  have HX1 := Lib.hid h1
  have HU1 := Lib.hid h2
  have HF1 := Lib.hid h3
  clear h1 h2 h3
  go_wp2_with fail
  refine (known _).mono ?_
  rintro e w2 ⟨rfl, h2⟩
  have HX2 := Lib.hid (HX1.out.upd h2 (fun _ _ h => h))
  have HU2 := Lib.hid (HU1.out.trans h2 (fun _ h _ => h))
  clear h2 HX1 HU1
  go_wp2_with fail
  refine (few _ _ bs _ (hvb.below (W := W) (HU2.out.below (Nat.le_refl _) (fun _ h => h.elim))) (.inl hbs) (by omega) (by omega)).mono ?_
  rw [show bs.take (Int.toNat (bs.length : Int)) = bs from List.take_of_length_le (by simp)]
  rintro e w3 ⟨vr, rfl, hN⟩
  obtain ⟨ar, cr, rfl⟩ := ownsRow_slice hN.1
  have HN := Lib.hid hN
  clear hN
  go_wp2_with fail
  have HT : Hid (Two W bx w3.heap.size false bs (w3.alloc (.cells #[.slice ar bs.length cr, .bool false] 44))) := by
    have ha := Upd.alloc (fun _ => False) w3 (.cells #[.slice ar bs.length cr, .bool false] 44)
    have hN := HN.out
    have hx3 := HX2.out.upd hN.2.1 (fun _ _ h => h)
    have hs3 := hN.2.1.size
    have hs2 := HU2.out.size
    refine ⟨vx, .slice ar bs.length cr, hx3.upd ha (fun _ _ h => h), ⟨?_, (hN.vw hvb.1).upd ha (fun _ _ h => h), ?_, hbs, by simp, fun k hk => by have := (hN.1.lt k hk).2; simp; omega⟩, (HU2.out.trans hN.2.1 (fun _ h _ => h)).trans ha (fun _ h _ => h), HF1.out bx (.inl rfl), by omega, fun k hk e => ?_, fun k hk e => ?_⟩
    · show (w3.heap.push _)[w3.heap.size]? = _
      simp
    · intro e
      have := (hN.1.lt _ e).2
      omega
    · subst e
      rcases hk with hk | hk
      · have := hx3.lt; omega
      · have := hx3.inn _ hk; omega
    · subst e
      rcases hk with hk | hk
      · have := hx3.lt; omega
      · have := hN.2.2 _ hk
        have := HX2.out.lt
        omega
  clear HN HX2 HU2 HF1
  generalize w3.alloc (.cells #[.slice ar bs.length cr, .bool false] 44) = w4 at *
  generalize w3.heap.size = br at *
  go_loopw [7] (fun i wr => ∃ k : Nat, k ≤ L.length ∧ k ≤ 40 ∧ i = .int .i64 k ∧ Hid (∃ lk ys, Two W bx br lk ys wr)) (fun i _ => 40 - (intOf i).toNat)
  case atStart => exact ⟨0, Nat.zero_le _, by omega, rfl, ⟨_, _, HT.out⟩⟩
  case round =>
    obtain ⟨k, hk1, hk2, rfl, HR1⟩ := hrel
    by_cases hlt : k < L.length
    · by_cases h40 : k < 40
      · obtain ⟨lk, ys, vx1, vr1, h2⟩ := HR1.out
        have H2 := Lib.hid h2
        clear h2 HR1 HT
        obtain ⟨g, off, vb2, rfl, hl, hm, hg, hc0, hc1, hc2, hvb2, ww, wn⟩ := steps_at HV.out (H2.out.upd.below (Nat.le_refl _) (fun _ h => h.elim)) hlt
        generalize hs : L.getD k default = s at *
        have HSS := Lib.hid hs
        clear hs hvb2 hc2
        unfold maxLen at hm
        go_wp2_with fail
        refine (pick _ s.what 5 ww (by omega) (by omega)).mono ?_
        rintro e w5 ⟨rfl, rfl⟩
        by_cases q0 : s.what % 5 = 0
        · rw [q0]
          clear q0
          go_wp2_with fail
          refine (rU8 _ _ _ _ _ H2.out.x).mono ?_
          rintro e w5 ⟨rfl, vx5, g1, g2, g3⟩
          have hr5 := H2.out.r.upd g2 H2.out.ar
          have G1 := Lib.hid g1
          have G2 := Lib.hid g2
          have G3 := Lib.hid g3
          have HR5 := Lib.hid hr5
          clear g1 g2 g3 hr5
          go_wp2_with fail
          refine (qU8 _ _ _ _ _ HR5.out).mono ?_
          rintro e w6 ⟨rfl, vr6, k1, k2, k3⟩
          have H6 := Lib.hid (two_step H2.out G1.out G2.out G3.out k1 k2 k3)
          clear k1 k2 k3
          go_wp2_with fail
          obtain ⟨vx7, vr7, h7⟩ := H6.out
          obtain ⟨ar7, cr7, rfl, _, hcr7⟩ := h7.r.vw.slice
          have hr70 := h7.r.cell0
          have hr71 := h7.r.cell1
          have H7 := Lib.hid h7
          clear h7
          go_quiet ((first
            | (go_at_call 13; exact lack_quiet H7.out.x)
            | (go_at_call 14; exact left_quiet H7.out.x)))
          go_wp2_with fail
          exact ⟨⟨k + 1, by omega, by omega, by go_num, Lib.hid ⟨_, _, H6.out.drewN nq⟩⟩, by simp [intOf]; omega⟩
        · skip
          by_cases q1 : s.what % 5 = 1
          · rw [q1]
            clear q0 q1
            go_wp2_with fail
            refine (rU16 _ _ _ _ _ H2.out.x).mono ?_
            rintro e w5 ⟨rfl, vx5, g1, g2, g3⟩
            have hr5 := H2.out.r.upd g2 H2.out.ar
            have G1 := Lib.hid g1
            have G2 := Lib.hid g2
            have G3 := Lib.hid g3
            have HR5 := Lib.hid hr5
            clear g1 g2 g3 hr5
            go_wp2_with fail
            refine (qU16 _ _ _ _ _ HR5.out).mono ?_
            rintro e w6 ⟨rfl, vr6, k1, k2, k3⟩
            have H6 := Lib.hid (two_step H2.out G1.out G2.out G3.out k1 k2 k3)
            clear k1 k2 k3
            go_wp2_with fail
            obtain ⟨vx7, vr7, h7⟩ := H6.out
            obtain ⟨ar7, cr7, rfl, _, hcr7⟩ := h7.r.vw.slice
            have hr70 := h7.r.cell0
            have hr71 := h7.r.cell1
            have H7 := Lib.hid h7
            clear h7
            go_quiet ((first
              | (go_at_call 13; exact lack_quiet H7.out.x)
              | (go_at_call 14; exact left_quiet H7.out.x)))
            go_wp2_with fail
            exact ⟨⟨k + 1, by omega, by omega, by go_num, Lib.hid ⟨_, _, H6.out.drewN nq⟩⟩, by simp [intOf]; omega⟩
          · skip
            by_cases q2 : s.what % 5 = 2
            · rw [q2]
              clear q0 q1 q2
              go_wp2_with fail
              refine (rS32 _ _ _ _ _ H2.out.x).mono ?_
              rintro e w5 ⟨rfl, vx5, g1, g2, g3⟩
              have hr5 := H2.out.r.upd g2 H2.out.ar
              have G1 := Lib.hid g1
              have G2 := Lib.hid g2
              have G3 := Lib.hid g3
              have HR5 := Lib.hid hr5
              clear g1 g2 g3 hr5
              go_wp2_with fail
              refine (qS32 _ _ _ _ _ HR5.out).mono ?_
              rintro e w6 ⟨rfl, vr6, k1, k2, k3⟩
              have H6 := Lib.hid (two_step H2.out G1.out G2.out G3.out k1 k2 k3)
              clear k1 k2 k3
              go_wp2_with fail
              obtain ⟨vx7, vr7, h7⟩ := H6.out
              obtain ⟨ar7, cr7, rfl, _, hcr7⟩ := h7.r.vw.slice
              have hr70 := h7.r.cell0
              have hr71 := h7.r.cell1
              have H7 := Lib.hid h7
              clear h7
              go_quiet ((first
                | (go_at_call 13; exact lack_quiet H7.out.x)
                | (go_at_call 14; exact left_quiet H7.out.x)))
              go_wp2_with fail
              exact ⟨⟨k + 1, by omega, by omega, by go_num, Lib.hid ⟨_, _, H6.out.drewN nq⟩⟩, by simp [intOf]; omega⟩
            · skip
              by_cases q3 : s.what % 5 = 3
              · rw [q3]
                clear q0 q1 q2 q3
                go_wp2_with fail
                refine (pick _ s.n 9 wn (by omega) (by omega)).mono ?_
                rintro e w5 ⟨rfl, rfl⟩
                have hm1 : 0 ≤ s.n % 9 := Int.emod_nonneg _ (by omega)
                have hm2 : s.n % 9 < 9 := Int.emod_lt_of_pos _ (by omega)
                generalize s.n % 9 = n9 at *
                have H2d := Lib.hid H2.out.drew
                go_wp2_with fail
                have HBB := Lib.hid (show ∀ y ∈ (takeP (n9 - 1) lk ys).1, 0 ≤ y ∧ y ≤ 255 from takeP_bd H2d.out.x.vw.1 _ _)
                go_region_with ((first
                  | (go_at_call 31; (with_reducible refine (rRaw wr.drew bx vx1 (n9 - 1) lk ys H2d.out.x (by omega) (by omega)).mono ?_); rintro e w5 ⟨x5, rfl, vx5, g1, g2, g3, g4, g5⟩; obtain ⟨a5, c5, rfl⟩ := ownsRow_slice g2; have HV5 := Lib.hid (vw_of_row g2 HBB.out); have hs5 := str_of HV5.out; have HR5 := Lib.hid (H2d.out.r.upd g3 H2d.out.ar); have G1 := Lib.hid g1; have G3 := Lib.hid g3; have G4 := Lib.hid g4; have G5 := Lib.hid g5; clear g1 g2 g3 g4 g5)
                  | (go_at_call 32; (with_reducible refine (qRaw w5 br vr1 (n9 - 1) lk ys HR5.out (by omega) (by omega)).mono ?_); rintro e w6 ⟨x6, rfl, vr6, k1, k2, k3, k4, k5⟩; obtain ⟨a6, c6, rfl⟩ := ownsRow_slice k2; have hs6 := str_of (vw_of_row k2 HBB.out); have hs56 := str_of (HV5.out.upd k3 (fun i hi e => by have := G5.out i hi; have := H2d.out.r.lt; omega)); have H6 := Lib.hid (two_step H2d.out G1.out G3.out G4.out k1 k3 k4); clear k1 k2 k3 k4 k5)))
                all_goals
                  go_wp2_with fail
                  obtain ⟨vx7, vr7, h7⟩ := H6.out
                  obtain ⟨ar7, cr7, rfl, _, hcr7⟩ := h7.r.vw.slice
                  have hr70 := h7.r.cell0
                  have hr71 := h7.r.cell1
                  have H7 := Lib.hid h7
                  clear h7
                  go_quiet ((first
                    | (go_at_call 13; exact lack_quiet H7.out.x)
                    | (go_at_call 14; exact left_quiet H7.out.x)))
                  go_wp2_with fail
                  exact ⟨⟨k + 1, by omega, by omega, by go_num, Lib.hid ⟨_, _, H6.out.drewN nq⟩⟩, by simp [intOf]; omega⟩
              · have b0 : ((s.what % 5 : Int) == 0) = false := by simpa using q0
                have b1 : ((s.what % 5 : Int) == 1) = false := by simpa using q1
                have b2 : ((s.what % 5 : Int) == 2) = false := by simpa using q2
                have b3 : ((s.what % 5 : Int) == 3) = false := by simpa using q3
                clear q0 q1 q2 q3
                generalize s.what % 5 = q at *
                have H2d := Lib.hid H2.out.drew
                go_wp2_with fail
                have HBB := Lib.hid (show ∀ y ∈ (shortP lk ys).1, 0 ≤ y ∧ y ≤ 255 from takeP_bd (fun y hy => H2d.out.x.vw.1 y (takeP_sub _ _ _ y hy)) _ _)
                go_region_with ((first
                  | (go_at_call 33; (with_reducible refine (rShort wr.drew bx vx1 lk ys H2d.out.x).mono ?_); rintro e w5 ⟨x5, rfl, vx5, g1, g2, g3, g4, g5⟩; obtain ⟨a5, c5, rfl⟩ := ownsRow_slice g2; have HV5 := Lib.hid (vw_of_row g2 HBB.out); have hs5 := str_of HV5.out; have HR5 := Lib.hid (H2d.out.r.upd g3 H2d.out.ar); have G1 := Lib.hid g1; have G3 := Lib.hid g3; have G4 := Lib.hid g4; have G5 := Lib.hid g5; clear g1 g2 g3 g4 g5)
                  | (go_at_call 34; (with_reducible refine (qShort w5 br vr1 lk ys HR5.out).mono ?_); rintro e w6 ⟨x6, rfl, vr6, k1, k2, k3, k4, k5⟩; obtain ⟨a6, c6, rfl⟩ := ownsRow_slice k2; have hs6 := str_of (vw_of_row k2 HBB.out); have hs56 := str_of (HV5.out.upd k3 (fun i hi e => by have := G5.out i hi; have := H2d.out.r.lt; omega)); have H6 := Lib.hid (two_step H2d.out G1.out G3.out G4.out k1 k3 k4); clear k1 k2 k3 k4 k5)))
                all_goals
                  go_wp2_with fail
                  obtain ⟨vx7, vr7, h7⟩ := H6.out
                  obtain ⟨ar7, cr7, rfl, _, hcr7⟩ := h7.r.vw.slice
                  have hr70 := h7.r.cell0
                  have hr71 := h7.r.cell1
                  have H7 := Lib.hid h7
                  clear h7
                  go_quiet ((first
                    | (go_at_call 13; exact lack_quiet H7.out.x)
                    | (go_at_call 14; exact left_quiet H7.out.x)))
                  go_wp2_with fail
                  exact ⟨⟨k + 1, by omega, by omega, by go_num, Lib.hid ⟨_, _, H6.out.drewN nq⟩⟩, by simp [intOf]; omega⟩
      · obtain ⟨lk, ys, h2⟩ := HR1.out
        have HB := Lib.hid h2
        clear h2 HR1 HT
        go_wp2_with fail
        go_ret
        obtain ⟨vx, vr, h⟩ := HB.out
        exact ⟨rfl, h.upd.below (Nat.le_refl _) (fun _ h => h.elim)⟩
    · obtain ⟨lk, ys, h2⟩ := HR1.out
      have HB := Lib.hid h2
      clear h2 HR1 HT
      go_wp2_with fail
      go_ret
      obtain ⟨vx, vr, h⟩ := HB.out
      exact ⟨rfl, h.upd.below (Nat.le_refl _) (fun _ h => h.elim)⟩
end Go.Proofs.Ytlaofiiajiflgaa

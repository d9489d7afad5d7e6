/- OctetLays: the walk. -/
import Derived.Test.YtlaofiiajiflgaaWref
import Derived.Test.YtlaofiiajiflgaaBackP
import Derived.Deep.RegionHeld3
import Derived.Deep.QuietTactic
import Derived.BigQuiet
namespace Go.Proofs.Ytlaofiiajiflgaa
open Go.RowKit
set_option linter.unusedVariables false

/-- both writers have the same, and nothing of W has turned -/
structure Wtwo (W : World) (bw br : Nat) (vw vr : Value) (xs : List Int) (w : World) : Prop where
  x : Wr 52 w bw vw xs
  r : Wr 34 w br vr xs
  upd : Upd (fun _ => False) W w
  ox : ∀ k, fp bw vw k → W.heap.size ≤ k
  or : ∀ k, fp br vr k → W.heap.size ≤ k
  apart : ∀ k, fp bw vw k → ¬ fp br vr k
theorem Wr.inn {t : TypeId} {w : World} {b : Nat} {v : Value} {xs : List Int} (h : Wr t w b v xs) : ∀ k, fp b v k → k < w.heap.size := by
  intro k hk
  rcases hk with rfl | hk
  · exact h.lt
  · exact (h.own.lt k hk).2
theorem Wtwo.mono {W w w' : World} {bw br : Nat} {vw vr : Value} {xs : List Int} (h : Wtwo W bw br vw vr xs w) (hu : Upd (fun _ => False) w w') : Wtwo W bw br vw vr xs w' :=
  ⟨h.x.upd hu (fun _ _ h => h), h.r.upd hu (fun _ _ h => h), h.upd.trans hu (fun _ h _ => h), h.ox, h.or, h.apart⟩
/-- the first one lays -/
theorem Wtwo.mid {W w w5 : World} {bw br : Nat} {vw vr : Value} {xs zs : List Int} (h : Wtwo W bw br vw vr xs w) (g : Laid 52 w bw vw zs w5) :
    Wr 34 w5 br vr xs ∧ ∀ w6, Laid 34 w5 br vr zs w6 → ∃ vw' vr', Wtwo W bw br vw' vr' zs w6 := by
  obtain ⟨vw', g1, g2, g3⟩ := g
  have hr5 := h.r.upd g2 (fun k hk hf => h.apart k hf hk)
  have ap5 : ∀ k, fp bw vw' k → ¬ fp br vr k := fun k hk hf => by
    rcases hk with rfl | hk
    · exact h.apart _ (.inl rfl) hf
    · rcases g3 k hk with hh | hh
      · exact h.apart k (.inr hh) hf
      · have := h.r.inn k hf; omega
  refine ⟨hr5, fun w6 k => ?_⟩
  obtain ⟨vr', k1, k2, k3⟩ := k
  have ap6 : ∀ k, fp bw vw' k → ¬ fp br vr' k := fun k hk hf => by
    rcases hf with rfl | hf
    · exact ap5 _ hk (.inl rfl)
    · rcases k3 k hf with hh | hh
      · exact ap5 k hk (.inr hh)
      · have := g1.inn k hk; omega
  refine ⟨vw', vr', g1.upd k2 (fun k hk hf => ap5 k hk hf), k1, ?_, ?_, ?_, ap6⟩
  · refine (h.upd.trans g2 (fun i hi hlt => ?_)).trans k2 (fun i hi hlt => ?_)
    · have := h.ox i hi; omega
    · have := h.or i hi; omega
  · intro k hk
    rcases hk with rfl | hk
    · exact h.ox _ (.inl rfl)
    · rcases g3 k hk with hh | hh
      · exact h.ox k (.inr hh)
      · have := h.upd.size; omega
  · intro k hk
    rcases hk with rfl | hk
    · exact h.or _ (.inl rfl)
    · rcases k3 k hk with hh | hh
      · exact h.or k (.inr hh)
      · have := h.upd.size; have := g2.size; omega
theorem Wtwo.upd5 {W w w5 : World} {bw br : Nat} {vw vr : Value} {xs zs : List Int} (h : Wtwo W bw br vw vr xs w) (g : Laid 52 w bw vw zs w5) : Upd (fun _ => False) W w5 ∧ Upd (fp bw vw) w w5 := by
  obtain ⟨vw', g1, g2, g3⟩ := g
  exact ⟨h.upd.trans g2 (fun i hi hlt => by have := h.ox i hi; omega), g2⟩
theorem Wtwo.below {W w : World} {bw br : Nat} {vw vr : Value} {xs : List Int} (h : Wtwo W bw br vw vr xs w) : Below W.heap.size W w := h.upd.below (Nat.le_refl _) (fun _ h => h.elim)

theorem upd_drewN (S : Nat → Prop) (w : World) (n : Nat) : Upd S w (w.drewN n) := ⟨rfl, rfl, rfl, Nat.le_refl _, fun _ _ _ => rfl⟩
theorem sum_take (L : List StepR) (k : Nat) (hk : k < L.length) : ((L.take (k + 1)).map (·.bs.length)).sum = ((L.take k).map (·.bs.length)).sum + (L.getD k default).bs.length := by
  have e : L.take (k + 1) = L.take k ++ [L.getD k default] := by
    rw [List.take_succ_eq_append_getElem hk]
    simp [List.getD, hk]
  rw [e]
  simp
theorem sum_le (L : List StepR) (k : Nat) : ((L.take k).map (·.bs.length)).sum ≤ (L.map (·.bs.length)).sum := by
  have h := List.take_append_drop k L
  have e := congrArg (fun l : List StepR => (l.map (·.bs.length)).sum) h
  simp only [List.map_append, List.sum_append] at e
  omega

set_option maxHeartbeats 2000000 in
set_option maxRecDepth 100000 in
theorem lays_walk (v : Value) (long : Bool) (L : List StepR) (W : World) (hv : StepsAt W v L) (hsum : (L.map (·.bs.length)).sum ≤ 1048576) : Calls Try.prog 4 #[v, .bool long] W fun e w' => e = .returned (.bool true) ∧ Below W.heap.size W w' := by
  have HV := Lib.hid hv
  obtain ⟨a, c, rfl⟩ := hv.slice
  clear hv
  go_enter Try.func4, Try.ntmps4
  go_wp2_with fail
  refine (newWriter _).mono ?_
  rintro e w1 ⟨rfl, h1, h2⟩
  have HW1 := Lib.hid h1
  have HU1 := Lib.hid h2
  clear h1 h2
  go_wp2_with fail
  refine (known _).mono ?_
  rintro e w2 ⟨rfl, h2⟩
  have HW2 := Lib.hid (HW1.out.upd h2 (fun _ _ h => h))
  have HU2 := Lib.hid (HU1.out.trans h2 (fun _ h _ => h))
  clear h2 HW1 HU1
  generalize hwb : W.heap.size = bw at *
  have HBW := Lib.hid hwb
  clear hwb
  go_wp2_with fail
  have HT : Hid (∃ vw vr, Wtwo W bw w2.heap.size vw vr [] (w2.alloc (.cells #[.slice none 0 0] 34))) := by
    have ha := Upd.alloc (fun _ => False) w2 (.cells #[.slice none 0 0] 34)
    have hl := HW2.out.lt
    have hb := HBW.out
    refine ⟨.slice none 0 0, .slice none 0 0, HW2.out.upd ha (fun _ _ h => h), ⟨?_, World.ownsRow_nil _ _ _ _, by simp⟩, HU2.out.trans ha (fun _ h _ => h), fun k hk => ?_, fun k hk => ?_, fun k hk hf => ?_⟩
    · show (w2.heap.push _)[w2.heap.size]? = _
      simp
    · rcases hk with hk | hk
      · omega
      · simp [Value.ownBlock] at hk
    · rcases hk with hk | hk
      · omega
      · simp [Value.ownBlock] at hk
    · rcases hk with hk | hk
      · rcases hf with hf | hf
        · omega
        · simp [Value.ownBlock] at hf
      · simp [Value.ownBlock] at hk
  clear HW2 HU2
  generalize w2.alloc (.cells #[.slice none 0 0] 34) = w3 at *
  generalize w2.heap.size = br at *
  go_loopw [7] (fun i wr => ∃ k : Nat, k ≤ L.length ∧ k ≤ 40 ∧ i = .int .i64 k ∧ Hid (∃ vw vr xs, Wtwo W bw br vw vr xs wr ∧ xs.length ≤ 300 * k + ((L.take k).map (·.bs.length)).sum)) (fun i _ => 40 - (intOf i).toNat)
  case atStart => exact ⟨0, Nat.zero_le _, by omega, rfl, by obtain ⟨vw, vr, h⟩ := HT.out; exact ⟨vw, vr, [], h, by simp⟩⟩
  case round =>
    obtain ⟨k, hk1, hk2, rfl, HR1⟩ := hrel
    by_cases hlt : k < L.length
    · by_cases h40 : k < 40
      · obtain ⟨vw, vr, xs, h2, hlen⟩ := HR1.out
        have H2 := Lib.hid h2
        obtain ⟨g, off, vb, rfl, hl, hm, hg, hc0, hc1, hc2, hvb, ww, wn⟩ := steps_at HV.out h2.below hlt
        have hs1 := sum_take L k hlt
        have hs2 := sum_le L (k + 1)
        clear h2 HR1 HT
        generalize hs : L.getD k default = s at *
        have HSS := Lib.hid hs
        obtain ⟨ab, cb, rfl, hab1, hab2⟩ := hvb.slice
        have Hvb := Lib.hid hvb
        have hle : xs.length + s.bs.length ≤ 300 * k + ((L.take (k + 1)).map (·.bs.length)).sum := by omega
        have hle2 : ((L.take (k + 1)).map (·.bs.length)).sum ≤ 1048576 := by omega
        generalize hsk : ((L.take (k + 1)).map (·.bs.length)).sum = sk at *
        have HSK := Lib.hid hsk
        clear hs hsk hvb hs1 hs2 hlen
        unfold maxLen at hm hab2
        go_wp2_with fail
        have H3 := Lib.hid (H2.out.mono (Upd.alloc (fun _ => False) wr (.cells #[Value.int .i64 s.what, Value.int .i64 s.n, Value.slice ab s.bs.length cb] 36)))
        refine (pick _ s.what 5 ww (by omega) (by omega)).mono ?_
        rintro e w5 ⟨rfl, rfl⟩
        have hx1 : (wr.alloc (.cells #[Value.int .i64 s.what, Value.int .i64 s.n, Value.slice ab s.bs.length cb] 36)).cell? ⟨wr.heap.size, 1, none⟩ = some (.int .i64 s.n) := by simp
        have hx2 : (wr.alloc (.cells #[Value.int .i64 s.what, Value.int .i64 s.n, Value.slice ab s.bs.length cb] 36)).cell? ⟨wr.heap.size, 2, none⟩ = some (.slice ab s.bs.length cb) := by simp
        have HXA := Lib.hid (show ∀ i, fp bw vw i → i ≠ wr.heap.size from fun i hi e => by have := H2.out.x.inn i hi; omega)
        generalize wr.alloc (.cells #[Value.int .i64 s.what, Value.int .i64 s.n, Value.slice ab s.bs.length cb] 36) = wx at *
        generalize wr.heap.size = xb at *
        clear H2 hc0 hc1 hc2
        by_cases q0 : s.what % 5 = 0
        · rw [q0]
          clear q0
          go_wp2_with fail
          refine (wU8 _ _ _ _ s.n H3.out.x (by omega)).mono ?_
          rintro e w6 ⟨rfl, hL⟩
          obtain ⟨hr6, hn6⟩ := H3.out.mid hL
          obtain ⟨hu6, hu6'⟩ := H3.out.upd5 hL
          have HR6 := Lib.hid hr6
          have HN := Lib.hid hn6
          have HU6 := Lib.hid hu6
          have hx16 := (hu6'.cell (p := ⟨xb, 1, none⟩) (World.block_lt_of_cell? _ _ hx1) (fun h => HXA.out xb h rfl)).trans hx1
          clear hL hr6 hn6 hu6 hu6'
          go_wp2_with fail
          refine (refU8 _ _ _ _ s.n HR6.out (by omega) wn).mono ?_
          rintro e w7 ⟨rfl, hL2⟩
          have HM : Hid (∃ vw vr xs, Wtwo W bw br vw vr xs w7 ∧ xs.length ≤ 300 * (k + 1) + ((L.take (k + 1)).map (·.bs.length)).sum) := by
            obtain ⟨vw', vr', h⟩ := HN.out _ hL2
            exact ⟨vw', vr', _, h, by rw [HSK.out]; simp; omega⟩
          clear hL2
          go_wp2_with fail
          go_roundw
          case rel => exact ⟨k + 1, by omega, by omega, by go_num, HM⟩
          case measure => simp [intOf]; omega
        by_cases q1 : s.what % 5 = 1
        · rw [q1]
          clear q0 q1
          go_wp2_with fail
          refine (wU16 _ _ _ _ s.n H3.out.x (by omega)).mono ?_
          rintro e w6 ⟨rfl, hL⟩
          obtain ⟨hr6, hn6⟩ := H3.out.mid hL
          obtain ⟨hu6, hu6'⟩ := H3.out.upd5 hL
          have HR6 := Lib.hid hr6
          have HN := Lib.hid hn6
          have HU6 := Lib.hid hu6
          have hx16 := (hu6'.cell (p := ⟨xb, 1, none⟩) (World.block_lt_of_cell? _ _ hx1) (fun h => HXA.out xb h rfl)).trans hx1
          clear hL hr6 hn6 hu6 hu6'
          go_wp2_with fail
          refine (refU16 _ _ _ _ s.n HR6.out (by omega) wn).mono ?_
          rintro e w7 ⟨rfl, hL2⟩
          have HM : Hid (∃ vw vr xs, Wtwo W bw br vw vr xs w7 ∧ xs.length ≤ 300 * (k + 1) + ((L.take (k + 1)).map (·.bs.length)).sum) := by
            obtain ⟨vw', vr', h⟩ := HN.out _ hL2
            exact ⟨vw', vr', _, h, by rw [HSK.out]; simp; omega⟩
          clear hL2
          go_wp2_with fail
          go_roundw
          case rel => exact ⟨k + 1, by omega, by omega, by go_num, HM⟩
          case measure => simp [intOf]; omega
        by_cases q2 : s.what % 5 = 2
        · rw [q2]
          clear q0 q1 q2
          go_wp2_with fail
          refine (wS32 _ _ _ _ s.n H3.out.x (by omega)).mono ?_
          rintro e w6 ⟨rfl, hL⟩
          obtain ⟨hr6, hn6⟩ := H3.out.mid hL
          obtain ⟨hu6, hu6'⟩ := H3.out.upd5 hL
          have HR6 := Lib.hid hr6
          have HN := Lib.hid hn6
          have HU6 := Lib.hid hu6
          have hx16 := (hu6'.cell (p := ⟨xb, 1, none⟩) (World.block_lt_of_cell? _ _ hx1) (fun h => HXA.out xb h rfl)).trans hx1
          clear hL hr6 hn6 hu6 hu6'
          go_wp2_with fail
          refine (refS32 _ _ _ _ s.n HR6.out (by omega) wn).mono ?_
          rintro e w7 ⟨rfl, hL2⟩
          have HM : Hid (∃ vw vr xs, Wtwo W bw br vw vr xs w7 ∧ xs.length ≤ 300 * (k + 1) + ((L.take (k + 1)).map (·.bs.length)).sum) := by
            obtain ⟨vw', vr', h⟩ := HN.out _ hL2
            exact ⟨vw', vr', _, h, by rw [HSK.out]; simp; omega⟩
          clear hL2
          go_wp2_with fail
          go_roundw
          case rel => exact ⟨k + 1, by omega, by omega, by go_num, HM⟩
          case measure => simp [intOf]; omega
        by_cases q3 : s.what % 5 = 3
        · rw [q3]
          clear q0 q1 q2 q3
          go_wp2_with fail
          refine (raw _ _ _ _ _ s.bs H3.out.x (Hvb.out.below (W := W) H3.out.below) (by omega)).mono ?_
          rintro e w6 ⟨rfl, hL⟩
          obtain ⟨hr6, hn6⟩ := H3.out.mid hL
          obtain ⟨hu6, hu6'⟩ := H3.out.upd5 hL
          have HR6 := Lib.hid hr6
          have HN := Lib.hid hn6
          have HU6 := Lib.hid hu6
          have hx26 := (hu6'.cell (p := ⟨xb, 2, none⟩) (World.block_lt_of_cell? _ _ hx2) (fun h => HXA.out xb h rfl)).trans hx2
          clear hL hr6 hn6 hu6 hu6'
          go_wp2_with fail
          refine (rraw _ _ _ _ _ s.bs HR6.out (Hvb.out.below (W := W) (HU6.out.below (Nat.le_refl _) (fun _ h => h.elim))) (by omega)).mono ?_
          rintro e w7 ⟨rfl, hL2⟩
          have HM : Hid (∃ vw vr xs, Wtwo W bw br vw vr xs w7 ∧ xs.length ≤ 300 * (k + 1) + ((L.take (k + 1)).map (·.bs.length)).sum) := by
            obtain ⟨vw', vr', h⟩ := HN.out _ hL2
            exact ⟨vw', vr', _, h, by rw [HSK.out]; simp; omega⟩
          clear hL2
          go_wp2_with fail
          go_roundw
          case rel => exact ⟨k + 1, by omega, by omega, by go_num, HM⟩
          case measure => simp [intOf]; omega
        have b0 : ((s.what % 5 : Int) == 0) = false := by simpa using q0
        have b1 : ((s.what % 5 : Int) == 1) = false := by simpa using q1
        have b2 : ((s.what % 5 : Int) == 2) = false := by simpa using q2
        have b3 : ((s.what % 5 : Int) == 3) = false := by simpa using q3
        clear q0 q1 q2 q3
        generalize s.what % 5 = q at *
        cases long with
        | false =>
          go_wp2_with fail
          by_cases h255 : (s.bs).length ≤ 255
          · refine (short _ _ _ _ _ (s.bs) H3.out.x (Hvb.out.below (W := W) H3.out.below) (fun w' hu => Hvb.out.below (W := W) ((H3.out.upd.trans hu (fun i hi hlt => by have := H3.out.ox i hi; omega)).below (Nat.le_refl _) (fun _ h => h.elim))) h255 (by omega)).mono ?_
            rintro e w6 ⟨rfl, hL⟩
            obtain ⟨hr6, hn6⟩ := H3.out.mid hL
            obtain ⟨hu6, hu6'⟩ := H3.out.upd5 hL
            have HR6 := Lib.hid hr6
            have HN := Lib.hid hn6
            have HU6 := Lib.hid hu6
            have HV6 := Lib.hid (Hvb.out.below (W := W) (HU6.out.below (Nat.le_refl _) (fun _ h => h.elim)))
            clear hL hr6 hn6 hu6 hu6'
            go_wp2_with fail
            refine (refShort _ _ _ _ _ (s.bs) HR6.out HV6.out (fun w' hu => Hvb.out.below (W := W) ((HU6.out.trans hu (fun i hi hlt => by have := H3.out.or i hi; omega)).below (Nat.le_refl _) (fun _ h => h.elim))) h255 (by omega)).mono ?_
            rintro e w7 ⟨rfl, hL2⟩
            have HM : Hid (∃ vw vr xs, Wtwo W bw br vw vr xs w7 ∧ xs.length ≤ 300 * (k + 1) + ((L.take (k + 1)).map (·.bs.length)).sum) := by
              obtain ⟨vw', vr', h⟩ := HN.out _ hL2
              exact ⟨vw', vr', _, h, by rw [HSK.out]; simp at h255 ⊢; omega⟩
            clear hL2
            go_wp2_with fail
            go_roundw
            case rel => exact ⟨k + 1, by omega, by omega, by go_num, HM⟩
            case measure => simp [intOf]; omega
          · refine (short_no _ _ _ (s.bs) (Hvb.out.below (W := W) H3.out.below) (by omega)).mono ?_
            rintro e w6 ⟨rfl, rfl⟩
            go_wp2_with fail
            refine (refShort_no _ _ _ (s.bs) (Hvb.out.below (W := W) H3.out.below) (by omega)).mono ?_
            rintro e w6 ⟨rfl, rfl⟩
            have HM : Hid (∃ vw vr xs, Wtwo W bw br vw vr xs wx ∧ xs.length ≤ 300 * (k + 1) + ((L.take (k + 1)).map (·.bs.length)).sum) := ⟨_, _, _, H3.out, by rw [HSK.out]; omega⟩
            go_wp2_with fail
            go_roundw
            case rel => exact ⟨k + 1, by omega, by omega, by go_num, HM⟩
            case measure => simp [intOf]; omega
        | true =>
          by_cases h5 : k = 5
          · have b5 : ((k : Int) == 5) = true := by simp; omega
            clear h5
            have hm0 : 0 ≤ s.n % 12 := Int.emod_nonneg _ (by omega)
            have hm1 : s.n % 12 < 12 := Int.emod_lt_of_pos _ (by omega)
            obtain ⟨z, hz⟩ : ∃ z : Nat, 250 + s.n % 12 = (z : Int) := ⟨(250 + s.n % 12).toNat, by omega⟩
            have hzb : z ≤ 261 := by omega
            have hmk := fun u : World => run_zeros u z (250 + s.n % 12) hz (by omega)
            have HZ := Lib.hid hz
            clear hz
            go_wp2_with fail
            refine (pick _ s.n 12 wn (by omega) (by omega)).mono ?_
            rintro e w6 ⟨rfl, rfl⟩
            go_wp2_with fail
            have H3z := Lib.hid (H3.out.mono (Upd.alloc (fun _ => False) wx (.cells (zerosA z) 5)))
            have HZV := Lib.hid (vw_zeros wx z (by omega))
            have hown : ∀ i, (Value.slice (some ⟨wx.heap.size, 0, none⟩) z z).ownBlock = some i → i = wx.heap.size := fun i hi => by simpa [Value.ownBlock] using hi.symm
            have HOW := Lib.hid hown
            clear hown
            by_cases h255 : (List.replicate z (0 : Int)).length ≤ 255
            · refine (short _ _ _ _ _ (List.replicate z (0 : Int)) H3z.out.x HZV.out (fun w' hu => HZV.out.upd hu (fun i hi hf => by have := HOW.out i hi; have := H3.out.x.inn i hf; omega)) h255 (by omega)).mono ?_
              rintro e w6 ⟨rfl, hL⟩
              obtain ⟨hr6, hn6⟩ := H3z.out.mid hL
              obtain ⟨hu6, hu6'⟩ := H3z.out.upd5 hL
              have HR6 := Lib.hid hr6
              have HN := Lib.hid hn6
              have HU6 := Lib.hid hu6
              have HV6 := Lib.hid (HZV.out.upd hu6' (fun i hi hf => by have := HOW.out i hi; have := H3.out.x.inn i hf; omega))
              clear hL hr6 hn6 hu6 hu6'
              go_wp2_with fail
              refine (refShort _ _ _ _ _ (List.replicate z (0 : Int)) HR6.out HV6.out (fun w' hu => HV6.out.upd hu (fun i hi hf => by have := HOW.out i hi; have := H3.out.r.inn i hf; omega)) h255 (by omega)).mono ?_
              rintro e w7 ⟨rfl, hL2⟩
              have HM : Hid (∃ vw vr xs, Wtwo W bw br vw vr xs w7 ∧ xs.length ≤ 300 * (k + 1) + ((L.take (k + 1)).map (·.bs.length)).sum) := by
                obtain ⟨vw', vr', h⟩ := HN.out _ hL2
                exact ⟨vw', vr', _, h, by rw [HSK.out]; simp at h255 ⊢; omega⟩
              clear hL2
              go_wp2_with fail
              go_roundw
              case rel => exact ⟨k + 1, by omega, by omega, by go_num, HM⟩
              case measure => simp [intOf]; omega
            · refine (short_no _ _ _ (List.replicate z (0 : Int)) HZV.out (by omega)).mono ?_
              rintro e w6 ⟨rfl, rfl⟩
              go_wp2_with fail
              refine (refShort_no _ _ _ (List.replicate z (0 : Int)) HZV.out (by omega)).mono ?_
              rintro e w6 ⟨rfl, rfl⟩
              have HM : Hid (∃ vw vr xs, Wtwo W bw br vw vr xs (wx.alloc (.cells (zerosA z) 5)) ∧ xs.length ≤ 300 * (k + 1) + ((L.take (k + 1)).map (·.bs.length)).sum) := ⟨_, _, _, H3z.out, by rw [HSK.out]; omega⟩
              go_wp2_with fail
              go_roundw
              case rel => exact ⟨k + 1, by omega, by omega, by go_num, HM⟩
              case measure => simp [intOf]; omega
          · have b5 : ((k : Int) == 5) = false := by simp; omega
            go_wp2_with fail
            by_cases h255 : (s.bs).length ≤ 255
            · refine (short _ _ _ _ _ (s.bs) H3.out.x (Hvb.out.below (W := W) H3.out.below) (fun w' hu => Hvb.out.below (W := W) ((H3.out.upd.trans hu (fun i hi hlt => by have := H3.out.ox i hi; omega)).below (Nat.le_refl _) (fun _ h => h.elim))) h255 (by omega)).mono ?_
              rintro e w6 ⟨rfl, hL⟩
              obtain ⟨hr6, hn6⟩ := H3.out.mid hL
              obtain ⟨hu6, hu6'⟩ := H3.out.upd5 hL
              have HR6 := Lib.hid hr6
              have HN := Lib.hid hn6
              have HU6 := Lib.hid hu6
              have HV6 := Lib.hid (Hvb.out.below (W := W) (HU6.out.below (Nat.le_refl _) (fun _ h => h.elim)))
              clear hL hr6 hn6 hu6 hu6'
              go_wp2_with fail
              refine (refShort _ _ _ _ _ (s.bs) HR6.out HV6.out (fun w' hu => Hvb.out.below (W := W) ((HU6.out.trans hu (fun i hi hlt => by have := H3.out.or i hi; omega)).below (Nat.le_refl _) (fun _ h => h.elim))) h255 (by omega)).mono ?_
              rintro e w7 ⟨rfl, hL2⟩
              have HM : Hid (∃ vw vr xs, Wtwo W bw br vw vr xs w7 ∧ xs.length ≤ 300 * (k + 1) + ((L.take (k + 1)).map (·.bs.length)).sum) := by
                obtain ⟨vw', vr', h⟩ := HN.out _ hL2
                exact ⟨vw', vr', _, h, by rw [HSK.out]; simp at h255 ⊢; omega⟩
              clear hL2
              go_wp2_with fail
              go_roundw
              case rel => exact ⟨k + 1, by omega, by omega, by go_num, HM⟩
              case measure => simp [intOf]; omega
            · refine (short_no _ _ _ (s.bs) (Hvb.out.below (W := W) H3.out.below) (by omega)).mono ?_
              rintro e w6 ⟨rfl, rfl⟩
              go_wp2_with fail
              refine (refShort_no _ _ _ (s.bs) (Hvb.out.below (W := W) H3.out.below) (by omega)).mono ?_
              rintro e w6 ⟨rfl, rfl⟩
              have HM : Hid (∃ vw vr xs, Wtwo W bw br vw vr xs wx ∧ xs.length ≤ 300 * (k + 1) + ((L.take (k + 1)).map (·.bs.length)).sum) := ⟨_, _, _, H3.out, by rw [HSK.out]; omega⟩
              go_wp2_with fail
              go_roundw
              case rel => exact ⟨k + 1, by omega, by omega, by go_num, HM⟩
              case measure => simp [intOf]; omega
      · obtain ⟨vw, vr, xs, h2, hlen⟩ := HR1.out
        have hs2 := sum_le L k
        have hxl : xs.length ≤ 1060576 := by omega
        have H2 := Lib.hid h2
        clear h2 HR1 HT hs2 hlen
        go_wp2_with fail
        refine (bytesOf _ _ _ _ H2.out.x (by omega)).mono ?_
        rintro e w5 ⟨x5, rfl, hN⟩
        obtain ⟨a5, c5, rfl⟩ := ownsRow_slice hN.1
        have H5 := Lib.hid (H2.out.mono hN.2.1)
        have HN := Lib.hid hN
        have H5d := Lib.hid (H5.out.mono (Upd.drew (fun _ => False) w5))
        obtain ⟨ar, cr, rfl⟩ := ownsRow_slice H2.out.r.own
        have hrc := H5.out.r.cell
        have hsr := fun n : Nat => str_of ((H5.out.r.vw).upd (upd_drewN (fun _ => False) w5 n) (fun _ _ h => h))
        have hs5 := fun n : Nat => str_of ((hN.vw H2.out.x.byte).upd (upd_drewN (fun _ => False) w5 n) (fun _ _ h => h))
        clear hN H5d
        go_wp2_with fail
        go_quiet (fail)
        have H5d := Lib.hid (H5.out.mono (upd_drewN (fun _ => False) w5 nq))
        have HG := Lib.hid (show ∃ zs : List Int, zs.length = xs.length ∧ (w5.drewN nq).ownsRow 0 5 1 (.slice a5 xs.length c5) zs.length (bv zs) from ⟨xs, rfl, ownsRow_upd HN.out.1 (upd_drewN (fun _ => False) w5 nq) (fun _ _ h => h)⟩)
        have HA5 := Lib.hid (show ∀ i, (Value.slice a5 xs.length c5).ownBlock = some i → W.heap.size ≤ i ∧ ¬ fp bw vw i ∧ ¬ fp br (.slice ar xs.length cr) i from fun i hi => by
          have h1 := HN.out.2.2 i hi
          exact ⟨Nat.le_trans H2.out.upd.size h1, fun hf => by have := H2.out.x.inn i hf; omega, fun hf => by have := H2.out.r.inn i hf; omega⟩)
        clear hrc hsr hs5 H5 HN H2
        go_wp2_with fail
        go_loopw [11] (fun i wr => ∃ j : Nat, j ≤ xs.length ∧ i = .int .i64 j ∧ Hid (∃ zs : List Int, zs.length = xs.length ∧ wr.ownsRow 0 5 1 (.slice a5 xs.length c5) zs.length (bv zs)) ∧ Hid (Wtwo W bw br vw (.slice ar xs.length cr) xs wr)) (fun i _ => xs.length - (intOf i).toNat)
        case atStart => exact ⟨0, Nat.zero_le _, rfl, HG, H5d⟩
        case round =>
          clear HG H5d hlt h40 hk1 hk2
          obtain ⟨j, hj, rfl, HG, H5⟩ := hrel
          by_cases hjl : j < xs.length
          · obtain ⟨zs, hzl, hz⟩ := HG.out
            have hzc := hz
            rcases hz.2 with ⟨he, h0⟩ | ⟨gg, cap, cur, he, _, hgg, hcc, hcm, _⟩
            · omega
            · simp at he
              obtain ⟨rfl, he2, rfl⟩ := he
              have hcell : wr.cell? ⟨gg, j, none⟩ = some (.int .u8 (zs.getD j 0)) := by
                rw [he2] at hz
                rw [hz.cellAt j (by omega)]
                simp [bv, List.getD, show j < zs.length by omega]
              have hfro : wr.frozen? ⟨gg, j, none⟩ = false := by
                rw [he2] at hz
                exact hz.frozenAt j
              have HST := Lib.hid (show ∀ q : Int, Hid (∃ zs : List Int, zs.length = xs.length ∧ (wr.setCell ⟨gg, j, none⟩ (.int .u8 q)).ownsRow 0 5 1 (.slice (some ⟨gg, 0, none⟩) xs.length c5) zs.length (bv zs)) ∧ Hid (Wtwo W bw br vw (.slice ar xs.length cr) xs (wr.setCell ⟨gg, j, none⟩ (.int .u8 q))) from fun q => by
                have hu := Upd.setCell (S := fun i => i = gg) wr (p := ⟨gg, j, none⟩) (.inl rfl) (.int .u8 q)
                have hA := HA5.out gg rfl
                have H := H5.out
                refine ⟨⟨zs.set j q, by simpa using hzl, ?_⟩, ⟨H.x.upd hu (fun k hk e => hA.2.1 (e ▸ hk)), H.r.upd hu (fun k hk e => hA.2.2 (e ▸ hk)), H.upd.trans hu (fun i hi hlt => by omega), H.ox, H.or, H.apart⟩⟩
                have hs := (World.ownsRow.stored (by rw [he2] at hz; exact hz) j (.int .u8 q)).1
                rw [show bv (zs.set j q) = (bv zs).set j (.int .u8 q) by simp [bv, List.map_set], List.length_set, he2]
                exact hs)
              generalize zs.getD j 0 = z at *
              clear hzc hz HG H5 hgg hcm hcc hzl he2
              go_wp2_with fail
              go_roundw
              case rel => exact ⟨j + 1, by omega, by go_num, (HST.out _).1, (HST.out _).2⟩
              case measure => simp [intOf]; omega
          · have Hd := Lib.hid (H5.out.mono (Upd.drew (fun _ => False) wr))
            have hrc := Hd.out.r.cell
            have hsr := str_of Hd.out.r.vw
            clear HG H5
            go_wp2_with fail
            go_region_with ((first
              | (go_at_call 16; (with_reducible refine (bytesOf wr.drew bw vw xs Hd.out.x (by omega)).mono ?_); rintro e w6 ⟨x6, rfl, hN6⟩; obtain ⟨a6, c6, rfl⟩ := ownsRow_slice hN6.1; have hs6 := str_of (hN6.vw Hd.out.x.byte); have H6 := Hd.out.mono hN6.2.1; have hrc6 := H6.r.cell; have hsr6 := str_of H6.r.vw; have HB6 := Lib.hid H6.below; clear H6 hN6)))
            all_goals
              go_wp2_with fail
              go_ret
              exact ⟨rfl, HB6.out⟩
    · obtain ⟨vw, vr, xs, h2, hlen⟩ := HR1.out
      have hs2 := sum_le L k
      have hxl : xs.length ≤ 1060576 := by omega
      have H2 := Lib.hid h2
      clear h2 HR1 HT hs2 hlen
      go_wp2_with fail
      refine (bytesOf _ _ _ _ H2.out.x (by omega)).mono ?_
      rintro e w5 ⟨x5, rfl, hN⟩
      obtain ⟨a5, c5, rfl⟩ := ownsRow_slice hN.1
      have H5 := Lib.hid (H2.out.mono hN.2.1)
      have HN := Lib.hid hN
      have H5d := Lib.hid (H5.out.mono (Upd.drew (fun _ => False) w5))
      obtain ⟨ar, cr, rfl⟩ := ownsRow_slice H2.out.r.own
      have hrc := H5.out.r.cell
      have hsr := fun n : Nat => str_of ((H5.out.r.vw).upd (upd_drewN (fun _ => False) w5 n) (fun _ _ h => h))
      have hs5 := fun n : Nat => str_of ((hN.vw H2.out.x.byte).upd (upd_drewN (fun _ => False) w5 n) (fun _ _ h => h))
      clear hN H5d
      go_wp2_with fail
      go_quiet (fail)
      have H5d := Lib.hid (H5.out.mono (upd_drewN (fun _ => False) w5 nq))
      have HG := Lib.hid (show ∃ zs : List Int, zs.length = xs.length ∧ (w5.drewN nq).ownsRow 0 5 1 (.slice a5 xs.length c5) zs.length (bv zs) from ⟨xs, rfl, ownsRow_upd HN.out.1 (upd_drewN (fun _ => False) w5 nq) (fun _ _ h => h)⟩)
      have HA5 := Lib.hid (show ∀ i, (Value.slice a5 xs.length c5).ownBlock = some i → W.heap.size ≤ i ∧ ¬ fp bw vw i ∧ ¬ fp br (.slice ar xs.length cr) i from fun i hi => by
        have h1 := HN.out.2.2 i hi
        exact ⟨Nat.le_trans H2.out.upd.size h1, fun hf => by have := H2.out.x.inn i hf; omega, fun hf => by have := H2.out.r.inn i hf; omega⟩)
      clear hrc hsr hs5 H5 HN H2
      go_wp2_with fail
      go_loopw [11] (fun i wr => ∃ j : Nat, j ≤ xs.length ∧ i = .int .i64 j ∧ Hid (∃ zs : List Int, zs.length = xs.length ∧ wr.ownsRow 0 5 1 (.slice a5 xs.length c5) zs.length (bv zs)) ∧ Hid (Wtwo W bw br vw (.slice ar xs.length cr) xs wr)) (fun i _ => xs.length - (intOf i).toNat)
      case atStart => exact ⟨0, Nat.zero_le _, rfl, HG, H5d⟩
      case round =>
        clear HG H5d hlt hk1 hk2
        obtain ⟨j, hj, rfl, HG, H5⟩ := hrel
        by_cases hjl : j < xs.length
        · obtain ⟨zs, hzl, hz⟩ := HG.out
          have hzc := hz
          rcases hz.2 with ⟨he, h0⟩ | ⟨gg, cap, cur, he, _, hgg, hcc, hcm, _⟩
          · omega
          · simp at he
            obtain ⟨rfl, he2, rfl⟩ := he
            have hcell : wr.cell? ⟨gg, j, none⟩ = some (.int .u8 (zs.getD j 0)) := by
              rw [he2] at hz
              rw [hz.cellAt j (by omega)]
              simp [bv, List.getD, show j < zs.length by omega]
            have hfro : wr.frozen? ⟨gg, j, none⟩ = false := by
              rw [he2] at hz
              exact hz.frozenAt j
            have HST := Lib.hid (show ∀ q : Int, Hid (∃ zs : List Int, zs.length = xs.length ∧ (wr.setCell ⟨gg, j, none⟩ (.int .u8 q)).ownsRow 0 5 1 (.slice (some ⟨gg, 0, none⟩) xs.length c5) zs.length (bv zs)) ∧ Hid (Wtwo W bw br vw (.slice ar xs.length cr) xs (wr.setCell ⟨gg, j, none⟩ (.int .u8 q))) from fun q => by
              have hu := Upd.setCell (S := fun i => i = gg) wr (p := ⟨gg, j, none⟩) (.inl rfl) (.int .u8 q)
              have hA := HA5.out gg rfl
              have H := H5.out
              refine ⟨⟨zs.set j q, by simpa using hzl, ?_⟩, ⟨H.x.upd hu (fun k hk e => hA.2.1 (e ▸ hk)), H.r.upd hu (fun k hk e => hA.2.2 (e ▸ hk)), H.upd.trans hu (fun i hi hlt => by omega), H.ox, H.or, H.apart⟩⟩
              have hs := (World.ownsRow.stored (by rw [he2] at hz; exact hz) j (.int .u8 q)).1
              rw [show bv (zs.set j q) = (bv zs).set j (.int .u8 q) by simp [bv, List.map_set], List.length_set, he2]
              exact hs)
            generalize zs.getD j 0 = z at *
            clear hzc hz HG H5 hgg hcm hcc hzl he2
            go_wp2_with fail
            go_roundw
            case rel => exact ⟨j + 1, by omega, by go_num, (HST.out _).1, (HST.out _).2⟩
            case measure => simp [intOf]; omega
        · have Hd := Lib.hid (H5.out.mono (Upd.drew (fun _ => False) wr))
          have hrc := Hd.out.r.cell
          have hsr := str_of Hd.out.r.vw
          clear HG H5
          go_wp2_with fail
          go_region_with ((first
            | (go_at_call 16; (with_reducible refine (bytesOf wr.drew bw vw xs Hd.out.x (by omega)).mono ?_); rintro e w6 ⟨x6, rfl, hN6⟩; obtain ⟨a6, c6, rfl⟩ := ownsRow_slice hN6.1; have hs6 := str_of (hN6.vw Hd.out.x.byte); have H6 := Hd.out.mono hN6.2.1; have hrc6 := H6.r.cell; have hsr6 := str_of H6.r.vw; have HB6 := Lib.hid H6.below; clear H6 hN6)))
          all_goals
            go_wp2_with fail
            go_ret
            exact ⟨rfl, HB6.out⟩
end Go.Proofs.Ytlaofiiajiflgaa

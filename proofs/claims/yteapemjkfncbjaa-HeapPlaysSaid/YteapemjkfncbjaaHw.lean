/- HeapPlays: both heaps are alike. -/
import Derived.Test.YteapemjkfncbjaaHi
import Derived.Test.YteapemjkfncbjaaHo
import Derived.Deep.RegionHeld3
namespace Go.Proofs.Yteapemjkfncbjaa
open Go.RowKit Go.Lib Go.ChangeShapes Go.WideShapes Go.Deep
set_option linter.unusedVariables false
set_option linter.unusedSimpArgs false

section
variable {F G : Nat → Prop} {w : World} {b c : Nat} {m : HpM}
theorem qUsed (h : Hep RT F w b m) (hl : m.arrs.length ≤ 1000) : Calls Try.prog 41 #[.pointer (some ⟨b, 0, none⟩)] w fun e w' => e = .returned (.int .i64 (usedP m.arrs : Int)) ∧ w = w' := by
  obtain ⟨av, R, h, hR⟩ := h
  have := rUsed h (by rw [fst_len hR]; exact hl)
  rw [hR] at this
  exact this
theorem qAt_no (h : Hep RT F w b m) (hl : m.arrs.length ≤ 1000) (ref : Int) (hr : hasB m.arrs.length ref = false) : Calls Try.prog 12 #[.pointer (some ⟨b, 0, none⟩), .int .i64 ref] w fun e w' => e = .returned (.tuple #[zarr, .bool false]) ∧ Upd (fun _ => False) w w' := by
  obtain ⟨av, R, h, hR⟩ := h
  exact rAt_no h (by rw [fst_len hR]; exact hl) ref (by rw [fst_len hR]; exact hr)
theorem qAt (h : Hep RT F w b m) (hl : m.arrs.length ≤ 1000) {i : Nat} (hi : i < m.arrs.length) : Calls Try.prog 12 #[.pointer (some ⟨b, 0, none⟩), .int .i64 ((i : Int) + 1)] w fun e w' => ∃ a c, e = .returned (.tuple #[aval (m.arrs.getD i default) (.slice a (m.arrs.getD i default).data.length c), .bool true]) ∧ Vw w' (.slice a (m.arrs.getD i default).data.length c) (m.arrs.getD i default).data ∧ Upd (fun _ => False) w w' := by
  obtain ⟨av, R, h, hR⟩ := h
  obtain ⟨hr, e⟩ := fst_at hR hi
  refine (rAt h (by rw [fst_len hR]; exact hl) hr).mono ?_
  rintro x w' ⟨a, c, hd, rfl, hu⟩
  rw [e] at hd ⊢
  have hv := (h.dat _ (List.getElem_mem hr)).vw
  rw [e, hd] at hv
  exact ⟨a, c, rfl, hv.upd hu (fun _ _ h => h), hu⟩
theorem Hep.bxs (h : Hep RT F w b m) : ∃ a c, w.cell? ⟨b, 1, none⟩ = some (.slice a m.arrs.length c) := by
  obtain ⟨av, R, h, hR⟩ := h
  obtain ⟨a, c, rfl⟩ := h.len
  exact ⟨a, c, by rw [h.bx.2.1, fst_len hR]⟩
set_option maxRecDepth 100000 in
set_option maxHeartbeats 4000000 in
theorem alike8 (h : Hep HT F w b m) (r : Hep RT G w c m) (hl : m.arrs.length ≤ 999) : Calls Try.prog 22 #[.pointer (some ⟨b, 0, none⟩), .pointer (some ⟨c, 0, none⟩)] w fun e w' => e = .returned (.bool true) ∧ Upd (fun _ => False) w w' := by
  obtain ⟨ca, cc, q0⟩ := r.bxs
  have HC : Hid (∀ w', Upd (fun _ => False) w w' → w'.cell? ⟨c, 1, none⟩ = some (.slice ca m.arrs.length cc)) := Lib.hid (fun w' hu => by
    exact (hu.cell (p := ⟨c, 1, none⟩) (World.block_lt_of_cell? w _ q0) (fun h => h)).trans q0)
  have H := Lib.hid h
  have R := Lib.hid r
  have HD := Lib.hid (Upd.drew (fun _ => False) w)
  have hbu : ((usedP m.arrs : Int) != (usedP m.arrs : Int)) = false := by simp
  have hbc : ((m.arrs.length : Int) != (m.arrs.length : Int)) = false := by simp
  have HUA := Lib.hid (pUsed (h.upd (Upd.drew (fun _ => False) w) (fun _ _ h => h)) (by omega))
  have HUR : Hid (∀ u, Upd (fun _ => False) w u → Calls Try.prog 41 #[.pointer (some ⟨c, 0, none⟩)] u fun e w' => e = .returned (.int .i64 (usedP m.arrs : Int)) ∧ u = w') := Lib.hid (fun u hu => qUsed (r.upd hu (fun _ _ h => h)) (by omega))
  clear h r q0
  generalize usedP m.arrs = us at *
  go_enter Try.func22, Try.ntmps22
  go_wp2_with fail
  go_region_held3 (fun w' => w'.cell? ⟨c, 1, none⟩ = some (.slice ca m.arrs.length cc)) (first
    | with_reducible exact HC.out _ HX5.out
    | with_reducible exact HC.out _ HD.out) (first
    | (go_at_call 35; (refine HUA.out.mono ?_); rintro e w5 ⟨rfl, hu⟩; have HX5 := Lib.hid (HD.out.trans hu (fun _ h _ => h)); clear hu)
    | (go_at_call 41; (refine (HUR.out _ HX5.out).mono ?_); rintro e w' ⟨rfl, rfl⟩)
    | (go_at_call 34; (refine (pCount (H.out.upd HX5.out (fun _ _ h => h))).mono ?_); rintro e w' ⟨rfl, rfl⟩))
  all_goals
    go_wp2_with fail
    go_loopw [5, 6, 7, 8, 9] (fun i _ _ _ _ wr => ∃ k : Nat, k ≤ m.arrs.length + 2 ∧ i = .int .i64 k ∧ Hid (Upd (fun _ => False) w wr)) (fun i _ _ _ _ _ => m.arrs.length + 2 - (intOf i).toNat)
    case atStart => exact ⟨0, Nat.zero_le _, rfl, HX5⟩
    case round =>
      obtain ⟨k, hk, rfl, HU⟩ := hrel
      have q1 := HC.out _ HU.out
      by_cases hlt : k < m.arrs.length + 2
      · by_cases hin : 1 ≤ k ∧ k ≤ m.arrs.length
        · obtain ⟨j, rfl⟩ : ∃ j, k = j + 1 := ⟨k - 1, by omega⟩
          have hj : j < m.arrs.length := by omega
          have HA := Lib.hid (pArray (H.out.upd HU.out (fun _ _ h => h)) hj (by omega))
          have HB : Hid (∀ u, Upd (fun _ => False) w u → Calls Try.prog 12 #[.pointer (some ⟨c, 0, none⟩), .int .i64 ((j : Int) + 1)] u fun e w' => ∃ a c, e = .returned (.tuple #[aval (m.arrs.getD j default) (.slice a (m.arrs.getD j default).data.length c), .bool true]) ∧ Vw w' (.slice a (m.arrs.getD j default).data.length c) (m.arrs.getD j default).data ∧ Upd (fun _ => False) u w') := Lib.hid (fun u hu => qAt (R.out.upd hu (fun _ _ h => h)) (by omega) hj)
          have hby : ∀ y ∈ (m.arrs.getD j default).data, 0 ≤ y ∧ y ≤ 255 := by
            obtain ⟨av, RR, hh, hR⟩ := H.out
            obtain ⟨hr, e⟩ := fst_at hR hj
            rw [← e]
            exact (hh.dat _ (List.getElem_mem hr)).byt
          have HBY := Lib.hid hby
          clear hby
          generalize m.arrs.getD j default = a at *
          go_wp2_with fail
          refine HA.out.mono ?_
          rintro e w5 ⟨d1, rfl, hn1⟩
          obtain ⟨d1a, d1c, rfl⟩ := ownsRow_slice hn1.1
          obtain ⟨w6, hw6⟩ : ∃ w6, w6 = w5.alloc (.cells #[.int .i64 a.own, .int .i64 a.lab, .int .i64 a.life, .bool a.sh, .slice d1a a.data.length d1c] 38) := ⟨_, rfl⟩
          have hu6 : Upd (fun _ => False) w5 w6 := by rw [hw6]; exact Upd.alloc _ _ _
          have hx6 : w6.heap[w5.heap.size]? = some (.cells #[.int .i64 a.own, .int .i64 a.lab, .int .i64 a.life, .bool a.sh, .slice d1a a.data.length d1c] 38 (0, 0)) := by rw [hw6]; exact hpTop _ _ _ rfl
          have HU6 := Lib.hid (HU.out.trans (hn1.2.1.trans hu6 (fun _ h _ => h)) (fun _ h _ => h))
          have HV6 := Lib.hid ((hn1.vw HBY.out).upd hu6 (fun _ _ h => h))
          have HX6 := Lib.hid hx6
          have HW6 := Lib.hid hw6
          clear hn1 hu6 hx6 hw6 q1
          simp only [aval]
          go_wp2_with fail
          rw [← HW6.out]
          refine (HB.out _ HU6.out).mono ?_
          rintro e w7 ⟨d2a, d2c, rfl, hv7, hu7⟩
          obtain ⟨w8, hw8⟩ : ∃ w8, w8 = w7.alloc (.cells #[.int .i64 a.own, .int .i64 a.lab, .int .i64 a.life, .bool a.sh, .slice d2a a.data.length d2c] 38) := ⟨_, rfl⟩
          have hu8 : Upd (fun _ => False) w7 w8 := by rw [hw8]; exact Upd.alloc _ _ _
          have hx8 : w8.heap[w7.heap.size]? = some (.cells #[.int .i64 a.own, .int .i64 a.lab, .int .i64 a.life, .bool a.sh, .slice d2a a.data.length d2c] 38 (0, 0)) := by rw [hw8]; exact hpTop _ _ _ rfl
          have hu68 := hu7.trans hu8 (fun _ h _ => h)
          have hx7 := hpBlk hu68 HX6.out (fun h => h)
          have HS := Lib.hid (rSame a.own a.lab a.life a.sh _ _ a.data w8 (HV6.out.upd hu68 (fun _ _ h => h)) (hv7.upd hu8 (fun _ _ h => h)))
          have HU8 := Lib.hid (HU6.out.trans hu68 (fun _ h _ => h))
          obtain ⟨c0, c1, c2, c3, c4, -⟩ := five hx7
          obtain ⟨e0, e1, e2, e3, e4, -⟩ := five hx8
          clear hx7 hx8 hu68 hu7 hu8 hv7
          subst hw8
          simp only [aval]
          go_wp2_with fail
          refine HS.out.mono ?_
          rintro e w9 ⟨rfl, hu9⟩
          have HU9 := Lib.hid (HU8.out.trans hu9 (fun _ h _ => h))
          clear hu9 c0 c1 c2 c3 c4 e0 e1 e2 e3 e4
          go_wp2_with fail
          go_roundw
          case rel => exact ⟨j + 2, by omega, by go_num, HU9⟩
          case measure => simp [intOf]; omega
        · have hno : hasB m.arrs.length (k : Int) = false := by simp [hasB]; omega
          have HA := Lib.hid (pArray_no (H.out.upd HU.out (fun _ _ h => h)) (k : Int) hno)
          have HB : Hid (∀ u, Upd (fun _ => False) w u → Calls Try.prog 12 #[.pointer (some ⟨c, 0, none⟩), .int .i64 (k : Int)] u fun e w' => e = .returned (.tuple #[zarr, .bool false]) ∧ Upd (fun _ => False) u w') := Lib.hid (fun u hu => qAt_no (R.out.upd hu (fun _ _ h => h)) (by omega) (k : Int) hno)
          clear hno
          go_wp2_with fail
          refine HA.out.mono ?_
          rintro e w5 ⟨rfl, hn1⟩
          obtain ⟨w6, hw6⟩ : ∃ w6, w6 = w5.alloc (.cells #[.int .i64 0, .int .i64 0, .int .i64 0, .bool false, .slice none 0 0] 38) := ⟨_, rfl⟩
          have hu6 : Upd (fun _ => False) w5 w6 := by rw [hw6]; exact Upd.alloc _ _ _
          have hx6 : w6.heap[w5.heap.size]? = some (.cells #[.int .i64 0, .int .i64 0, .int .i64 0, .bool false, .slice none 0 0] 38 (0, 0)) := by rw [hw6]; exact hpTop _ _ _ rfl
          have HU6 := Lib.hid (HU.out.trans (hn1.trans hu6 (fun _ h _ => h)) (fun _ h _ => h))
          have HX6 := Lib.hid hx6
          have HW6 := Lib.hid hw6
          clear hn1 hu6 hx6 hw6 q1
          simp only [zarr]
          go_wp2_with fail
          rw [← HW6.out]
          refine (HB.out _ HU6.out).mono ?_
          rintro e w7 ⟨rfl, hu7⟩
          obtain ⟨w8, hw8⟩ : ∃ w8, w8 = w7.alloc (.cells #[.int .i64 0, .int .i64 0, .int .i64 0, .bool false, .slice none 0 0] 38) := ⟨_, rfl⟩
          have hu8 : Upd (fun _ => False) w7 w8 := by rw [hw8]; exact Upd.alloc _ _ _
          have hx8 : w8.heap[w7.heap.size]? = some (.cells #[.int .i64 0, .int .i64 0, .int .i64 0, .bool false, .slice none 0 0] 38 (0, 0)) := by rw [hw8]; exact hpTop _ _ _ rfl
          have hu68 := hu7.trans hu8 (fun _ h _ => h)
          have hx7 := hpBlk hu68 HX6.out (fun h => h)
          have HS := Lib.hid (rSame 0 0 0 false _ _ [] w8 (Vw.nil w8) (Vw.nil w8))
          have HU8 := Lib.hid (HU6.out.trans hu68 (fun _ h _ => h))
          obtain ⟨c0, c1, c2, c3, c4, -⟩ := five hx7
          obtain ⟨e0, e1, e2, e3, e4, -⟩ := five hx8
          clear hx7 hx8 hu68 hu7 hu8
          subst hw8
          simp only [zarr]
          go_wp2_with fail
          refine HS.out.mono ?_
          rintro e w9 ⟨rfl, hu9⟩
          have HU9 := Lib.hid (HU8.out.trans hu9 (fun _ h _ => h))
          clear hu9 c0 c1 c2 c3 c4 e0 e1 e2 e3 e4
          go_wp2_with fail
          go_roundw
          case rel => exact ⟨k + 1, by omega, by go_num, HU9⟩
          case measure => simp [intOf]; omega
      · go_wp2_with fail
        go_ret
        exact ⟨rfl, HU.out⟩
end
end Go.Proofs.Yteapemjkfncbjaa

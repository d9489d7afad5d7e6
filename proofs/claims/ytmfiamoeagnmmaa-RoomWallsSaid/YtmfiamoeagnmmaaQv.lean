/- RoomWalls: walls hold, whatever an applet is served. -/
import Derived.Test.YtmfiamoeagnmmaaQu
import Derived.Test.YtmfiamoeagnmmaaHj
namespace Go.Proofs.Ytmfiamoeagnmmaa
open Go.RowKit Go.Lib Go.ChangeShapes Go.WideShapes Go.Deep
set_option linter.unusedVariables false
set_option linter.unusedSimpArgs false

theorem ix10 (m : Int) (h0 : 0 ≤ m) (h1 : m < 10) : ∃ u, opB u ∧ ∀ w : World, (Instr.index 35 (.agg #[.int .i64 27, .int .i64 27, .int .i64 30, .int .i64 30, .int .i64 31, .int .i64 31, .int .i64 29, .int .i64 36, .int .i64 32, .int .i64 28]) (.int .i64 m)).run Try.prog w = .ok (.int .i64 u) w := by
  have hk : m = 0 ∨ m = 1 ∨ m = 2 ∨ m = 3 ∨ m = 4 ∨ m = 5 ∨ m = 6 ∨ m = 7 ∨ m = 8 ∨ m = 9 := by omega
  rcases hk with rfl | rfl | rfl | rfl | rfl | rfl | rfl | rfl | rfl | rfl
  · exact ⟨27, by simp [opB], fun w => by kernel_rfl⟩
  · exact ⟨27, by simp [opB], fun w => by kernel_rfl⟩
  · exact ⟨30, by simp [opB], fun w => by kernel_rfl⟩
  · exact ⟨30, by simp [opB], fun w => by kernel_rfl⟩
  · exact ⟨31, by simp [opB], fun w => by kernel_rfl⟩
  · exact ⟨31, by simp [opB], fun w => by kernel_rfl⟩
  · exact ⟨29, by simp [opB], fun w => by kernel_rfl⟩
  · exact ⟨36, by simp [opB], fun w => by kernel_rfl⟩
  · exact ⟨32, by simp [opB], fun w => by kernel_rfl⟩
  · exact ⟨28, by simp [opB], fun w => by kernel_rfl⟩
theorem ix4 (m : Int) (h0 : 0 ≤ m) (h1 : m < 4) : ∃ u : Int, (0 ≤ u ∧ u ≤ 7) ∧ ∀ w : World, (Instr.index 39 (.agg #[.int .i64 0, .int .i64 0, .int .i64 4, .int .i64 1]) (.int .i64 m)).run Try.prog w = .ok (.int .i64 u) w := by
  have hk : m = 0 ∨ m = 1 ∨ m = 2 ∨ m = 3 := by omega
  rcases hk with rfl | rfl | rfl | rfl
  · exact ⟨0, by omega, fun w => by kernel_rfl⟩
  · exact ⟨0, by omega, fun w => by kernel_rfl⟩
  · exact ⟨4, by omega, fun w => by kernel_rfl⟩
  · exact ⟨1, by omega, fun w => by kernel_rfl⟩
theorem opB_n {op : Int} (h : opB op) : 1 ≤ servesP op ∧ servesP op ≤ 5 := by
  rcases h with rfl | rfl | rfl | rfl | rfl | rfl | rfl <;> decide +kernel
theorem i32Info : (Try.prog.info? 21).map (fun i => (i.zero, i.size, i.bytes)) = some (some (.int .i32 0), 1, 4) := by kernel_rfl
theorem i32_row {w : World} {v : Value} {n : Nat} {A : List Int} (h : w.ownsRow 0 21 1 v n (i32v A)) (hn : n = A.length) (hb : ∀ x ∈ A, -2147483648 ≤ x ∧ x ≤ 2147483647) : I32 w v A := by
  subst hn
  refine ⟨hb, ?_⟩
  rcases h.2 with ⟨rfl, h0⟩ | ⟨g, cap, cur, rfl, _, _, hc, hm, _⟩
  · have : A = [] := List.eq_nil_of_length_eq_zero h0
    subst this
    exact ⟨none, 0, rfl, Nat.le_refl _, by unfold maxLen; omega, .inl rfl⟩
  · refine ⟨_, cap, rfl, hc, hm, .inr ⟨g, 0, rfl, fun j hj => ?_⟩⟩
    have := h.cells (g := g) rfl j (.int .i32 (A.getD j 0)) (by simp [i32v, List.getElem?_eq_getElem hj, List.getD])
    rwa [addr_add] at this
theorem seven7 {w : World} {g : Nat} {v0 v1 v2 v3 v4 v5 v6 : Value} {t : TypeId} (h : w.heap[g]? = some (.cells #[v0, v1, v2, v3, v4, v5, v6] t (0, 0))) :
    w.cell? ⟨g, 0, none⟩ = some v0 ∧ w.cell? ⟨g, 1, none⟩ = some v1 ∧ w.cell? ⟨g, 3, none⟩ = some v3 ∧ w.cell? ⟨g, 4, none⟩ = some v4 := by
  refine ⟨?_, ?_, ?_, ?_⟩ <;> simp [World.cell?, h]
/-- what stands at a round's begin -/
structure Wl (W : World) (rb : Nat) (c : Nat → Nat) (wr : World) (M : RmM) : Prop where
  rm : Rm c wr rb M
  up : Upd (fun _ => False) W wr
  c0 : ∀ k, k < W.heap.size → c k = 0
set_option maxRecDepth 100000 in
set_option maxHeartbeats 4000000 in
theorem roomWalls_walk (W : World) (lv : Value) (L : List St12) (hl : Qs12At W lv L) : Calls Try.prog 3 #[lv] W fun e w' => e = .returned (.bool true) ∧ Upd (fun _ => False) W w' := by
  have HN := Lib.hid (rNewRoom zero0 1000 W (by omega) (by omega))
  have HL := Lib.hid hl
  obtain ⟨i0, hi0, hz0, hz1, hz2⟩ := info_parts i32Info
  obtain ⟨la, lc, rfl⟩ := hl.slice
  clear hl
  go_enter Try.func3, Try.ntmps3
  go_wp2_with fail
  refine HN.out.mono ?_
  rintro e w1 ⟨rb, c1, rfl, hx, hr⟩
  obtain ⟨hu1, hc1⟩ := hx.upW (Upd.refl _ W) (fun _ _ => rfl) (fun h => h)
  go_wp2_with fail
  refine (known12 w1).mono ?_
  rintro e w2 ⟨rfl, hu2⟩
  have HWL0 : Hid (Wl W rb c1 w2 (noRoom 1000)) := Lib.hid ⟨hr.quiet hu2, hu1.trans hu2 (fun _ h _ => h), hc1⟩
  obtain ⟨hb0, hh0, -, -⟩ := rHeap HWL0.out.rm
  have HH0 := Lib.hid hh0
  clear hx hr hu1 hc1 HN hu2 hh0
  go_wp2_with fail
  refine HH0.out.mono ?_
  rintro e w' ⟨rfl, rfl⟩
  clear HH0
  go_wp2_with fail
  go_loopw [5, 6, 7, 8, 9, 10, 11, 12, 13, 14, 15, 16, 17, 18, 19] (fun i _ _ _ _ _ _ _ _ _ _ _ _ _ _ wr => ∃ k c M, k ≤ L.length ∧ k ≤ 40 ∧ i = .int .i64 (k : Nat) ∧ Hid (Wl W rb c wr M)) (fun i _ _ _ _ _ _ _ _ _ _ _ _ _ _ _ => L.length - (intOf i).toNat)
  case atStart => exact ⟨0, c1, _, Nat.zero_le _, by omega, rfl, HWL0⟩
  case round =>
    obtain ⟨k, c, M, hk, hk2, rfl, HWL⟩ := hrel
    obtain ⟨wo, rfl⟩ : ∃ wo, wo = wr := ⟨wr, rfl⟩
    by_cases hlt : k < L.length ∧ k < 40
    · have hb : Below W.heap.size W wo := HWL.out.up.below (Nat.le_refl _) (fun _ h => h.elim)
      obtain ⟨lg, loff, rfl, -, -, hst⟩ := (HL.out.below hb).at hlt.1
      obtain ⟨va, vp, vq, q0, q1, q2, q3, q4, q5, q6, hva, hvp, hvq, hwf⟩ := hst
      obtain ⟨hl1, hl2⟩ := hlt
      generalize (L.getD k default).what = s0 at *
      generalize (L.getD k default).app = s1 at *
      generalize (L.getD k default).a = s2 at *
      generalize (L.getD k default).b = s3 at *
      generalize (L.getD k default).args = sA at *
      generalize (L.getD k default).p = sP at *
      generalize (L.getD k default).q = sQ at *
      have HVA := Lib.hid hva
      obtain ⟨hAb, aa, ac, rfl, hac1, hac2, -⟩ := hva
      obtain ⟨pa, pc, rfl, -, -⟩ := hvp.slice
      obtain ⟨qa, qc, rfl, -, -⟩ := hvq.slice
      have t1 : decide ((k : Int) < (L.length : Int)) = true := by simp; omega
      have t2 : decide ((k : Int) < 40) = true := by simp; omega
      have hk0 : (0 : Int) ≤ (k : Int) := Int.natCast_nonneg _
      have hk1 : (k : Int) < (L.length : Int) := by omega
      obtain ⟨wy, hwy⟩ : ∃ wy, wy = wo.alloc (.cells #[.int .i64 s0, .int .i64 s1, .int .i64 s2, .int .i64 s3, .slice aa sA.length ac, .slice pa sP.length pc, .slice qa sQ.length qc] 33) := ⟨_, rfl⟩
      have huy : Upd (fun _ => False) wo wy := by rw [hwy]; exact Upd.alloc _ _ _
      have hqy : wy.heap[wo.heap.size]? = some (.cells #[.int .i64 s0, .int .i64 s1, .int .i64 s2, .int .i64 s3, .slice aa sA.length ac, .slice pa sP.length pc, .slice qa sQ.length qc] 33 (0, 0)) := by rw [hwy]; exact hpTop _ _ _ rfl
      have HB : Hid (∀ u, Upd (fun k => TR (paint c wo 9 k)) wy u → u.cell? ⟨wo.heap.size, 0, none⟩ = some (.int .i64 s0) ∧ u.cell? ⟨wo.heap.size, 1, none⟩ = some (.int .i64 s1) ∧ u.cell? ⟨wo.heap.size, 3, none⟩ = some (.int .i64 s3) ∧ u.cell? ⟨wo.heap.size, 4, none⟩ = some (.slice aa sA.length ac)) := Lib.hid (fun u hu => seven7 (keep9 (Nat.le_refl _) hqy hu))
      obtain ⟨y0, y1, y3, y4⟩ := HB.out wy (Upd.refl _ _)
      have HUY := Lib.hid huy
      have HWY := Lib.hid hwy
      have HVAy := Lib.hid (HVA.out.upd huy (fun _ _ h => h))
      have HAB := Lib.hid hAb
      obtain ⟨op, hop, hix⟩ := ix10 (s0 % 10) (Int.emod_nonneg _ (by omega)) (Int.emod_lt_of_pos _ (by omega))
      obtain ⟨b, hbb, hixb⟩ := ix4 (s3 % 4) (Int.emod_nonneg _ (by omega)) (Int.emod_lt_of_pos _ (by omega))
      have HOP := Lib.hid hop
      obtain ⟨hn1, hn5⟩ := opB_n hop
      have HBB := Lib.hid hbb
      clear hb hvp hvq hwf huy hqy hwy hAb hop hbb
      unfold maxLen at hac2
      go_wp2_with fail
      rw [← HWY.out]
      clear q0 q1 q2 q3 q4 q5 q6
      refine (hPick s1 3 wy (by omega) (by omega)).mono ?_
      rintro e w' ⟨rfl, rfl⟩
      generalize s1 % 3 = who
      go_wp2_with fail
      refine (hPick s0 10 wy (by omega) (by omega)).mono ?_
      rintro e w' ⟨rfl, rfl⟩
      go_wp2_with fail
      obtain ⟨n, hn⟩ : ∃ n : Nat, servesP op = (n : Int) := ⟨(servesP op).toNat, by omega⟩
      have HSP := Lib.hid hn
      have hn6 : n ≤ 5 := by omega
      clear hn hn1 hn5 hix
      have HU00 := Lib.hid (Upd.refl (fun _ => False) wy)
      have HR00 : Hid (wy.ownsRow 0 21 1 (.slice none 0 0) 0 (i32v [])) := Lib.hid (World.ownsRow_nil _ _ _ _)
      have HN00 : Hid (∀ q, (Value.slice none 0 0).ownBlock = some q → wy.heap.size ≤ q) := Lib.hid (by simp [Value.ownBlock])
      have HB00 : Hid (∀ x ∈ ([] : List Int), -2147483648 ≤ x ∧ x ≤ 2147483647) := Lib.hid (by simp)
      go_loopw [10, 9, 11] (fun t args _ wq => ∃ (j : Nat) (A : List Int), j ≤ n ∧ t = .int .i64 (j : Nat) ∧ Hid (A.length = j) ∧ Hid (wq.ownsRow 0 21 1 args j (i32v A)) ∧ Hid (∀ x ∈ A, -2147483648 ≤ x ∧ x ≤ 2147483647) ∧ Hid (Upd (fun _ => False) wy wq) ∧ Hid (∀ q, args.ownBlock = some q → wy.heap.size ≤ q)) (fun t _ _ _ => n - (intOf t).toNat)
      case atStart => exact ⟨0, [], Nat.zero_le _, rfl, Lib.hid rfl, HR00, HB00, HU00, HN00⟩
      case round =>
        obtain ⟨j, A, hj, rfl, HAL, HROW, HAB2, HUQ, HNB⟩ := hrel
        obtain ⟨ra, rc, rfl⟩ := ownsRow_slice HROW.out
        obtain ⟨z0, z1, z3, z4⟩ := HB.out wr (HUQ.out.mono (fun _ h _ => h.elim))
        have HU2 := Lib.hid (HUY.out.trans HUQ.out (fun _ h _ => h))
        by_cases hjn : j < n
        · have t3 : decide ((j : Int) < (n : Int)) = true := by simp; omega
          have hj0 : (0 : Int) ≤ (j : Int) := Int.natCast_nonneg _
          have HAP : Hid (∀ x : Int, (0 ≤ x ∧ x ≤ 6) → Src (wr.alloc (.cells #[.int .i32 x] 21)) 1 (.slice (some ⟨wr.heap.size, 0, none⟩) 1 1) 1 [.int .i32 x]) := Lib.hid (fun x _ => Src.lit wr 21 #[.int .i32 x] (by simp [Value.oneCell']) 1 1 rfl)
          have HRW : Hid (∀ o, (wr.alloc o).ownsRow 0 21 1 (.slice ra j rc) j (i32v A)) := Lib.hid (fun o => HROW.out.alloc o)
          by_cases hja : j < sA.length
          · obtain ⟨ag, aoff, rfl, -, hac⟩ := (HVAy.out.upd HUQ.out (fun _ _ h => h)).at hja
            have t4 : decide ((j : Int) < (sA.length : Int)) = true := by simp; omega
            have hj1 : (j : Int) < (sA.length : Int) := by omega
            have hxb := HAB.out (sA.getD j 0) (by simp [List.getD, hja])
            generalize sA.getD j 0 = x at *
            have hwx : IntKind.i64.wrap x = x := IntWalk.i64_in _ (by omega)
            go_wp2_with fail
            refine (qServes op wr).mono ?_
            rintro e w' ⟨rfl, rfl⟩
            rw [HSP.out]
            go_wp2_with fail
            refine (hPick x 7 wr (by omega) (by omega)).mono ?_
            rintro e w' ⟨rfl, rfl⟩
            have hx6 : 0 ≤ x % 7 ∧ x % 7 ≤ 6 := by omega
            have hw7 : IntKind.i32.wrap (x % 7) = x % 7 := by rw [IntKind.wrap_i32]; omega
            generalize hz7 : (x % 7 : Int) = z7 at *
            clear hz7
            go_wp2_with (at_builtin; go_loud (refine wpList_append_mine _ rfl _ _ 30 rfl 0 21 i0 (.int .i32 0) 1 4 Try.underlying30 hi0 hz0 hz1 hz2 rfl (by decide) (.slice ra j rc) j (i32v A) rfl (HRW.out _) 1 [.int .i32 z7] (HAP.out z7 hx6) (by unfold maxLen; omega) (by omega) (Nat.zero_le _) ?_))
            intro v3 w3 ho hg hf
            have hu3 : Upd (fun _ => False) wy w3 := HUQ.out.trans ((Upd.row (Upd.alloc _ wr _) hg).mono (T := fun q => wy.heap.size ≤ q) (fun q hq _ => HNB.out q hq)) (fun q hq hl => by omega)
            have hnb3 : ∀ q, v3.ownBlock = some q → wy.heap.size ≤ q := fun q hq => by
              rcases hf q hq with h | h
              · exact HNB.out q h
              · simp at h
                have := HUQ.out.size
                omega
            have HREL : Hid ((A ++ [z7]).length = j + 1) := Lib.hid (by rw [List.length_append, HAL.out]; rfl)
            have HRO : Hid (w3.ownsRow 0 21 1 v3 (j + 1) (i32v (A ++ [z7]))) := Lib.hid (by simpa [i32v] using ho)
            have HBO : Hid (∀ x ∈ A ++ [z7], -2147483648 ≤ x ∧ x ≤ 2147483647) := Lib.hid (fun x hx => by
              rcases List.mem_append.1 hx with h | h
              · exact HAB2.out x h
              · simp at h; omega)
            have HU3 := Lib.hid hu3
            have HN3 := Lib.hid hnb3
            obtain ⟨va3, vc3, rfl⟩ := ownsRow_slice ho
            clear ho hg hf hu3 hnb3
            go_wp2_with fail
            go_roundw
            case rel => exact ⟨j + 1, A ++ [z7], by omega, by go_num, HREL, HRO, HBO, HU3, HN3⟩
            case measure => simp [intOf]; omega
          · have t4 : decide ((j : Int) < (sA.length : Int)) = false := by simp; omega
            have hw0 : IntKind.i64.wrap 0 = 0 := by decide +kernel
            go_wp2_with fail
            refine (qServes op wr).mono ?_
            rintro e w' ⟨rfl, rfl⟩
            rw [HSP.out]
            go_wp2_with fail
            refine (hPick 0 7 wr (by omega) (by omega)).mono ?_
            rintro e w' ⟨rfl, rfl⟩
            have hx6 : 0 ≤ (0 : Int) % 7 ∧ (0 : Int) % 7 ≤ 6 := by omega
            have hw7 : IntKind.i32.wrap ((0 : Int) % 7) = (0 : Int) % 7 := by rw [IntKind.wrap_i32]; omega
            generalize hz7 : (0 % 7 : Int) = z7 at *
            clear hz7
            go_wp2_with (at_builtin; go_loud (refine wpList_append_mine _ rfl _ _ 30 rfl 0 21 i0 (.int .i32 0) 1 4 Try.underlying30 hi0 hz0 hz1 hz2 rfl (by decide) (.slice ra j rc) j (i32v A) rfl (HRW.out _) 1 [.int .i32 z7] (HAP.out z7 hx6) (by unfold maxLen; omega) (by omega) (Nat.zero_le _) ?_))
            intro v3 w3 ho hg hf
            have hu3 : Upd (fun _ => False) wy w3 := HUQ.out.trans ((Upd.row (Upd.alloc _ wr _) hg).mono (T := fun q => wy.heap.size ≤ q) (fun q hq _ => HNB.out q hq)) (fun q hq hl => by omega)
            have hnb3 : ∀ q, v3.ownBlock = some q → wy.heap.size ≤ q := fun q hq => by
              rcases hf q hq with h | h
              · exact HNB.out q h
              · simp at h
                have := HUQ.out.size
                omega
            have HREL : Hid ((A ++ [z7]).length = j + 1) := Lib.hid (by rw [List.length_append, HAL.out]; rfl)
            have HRO : Hid (w3.ownsRow 0 21 1 v3 (j + 1) (i32v (A ++ [z7]))) := Lib.hid (by simpa [i32v] using ho)
            have HBO : Hid (∀ x ∈ A ++ [z7], -2147483648 ≤ x ∧ x ≤ 2147483647) := Lib.hid (fun x hx => by
              rcases List.mem_append.1 hx with h | h
              · exact HAB2.out x h
              · simp at h; omega)
            have HU3 := Lib.hid hu3
            have HN3 := Lib.hid hnb3
            obtain ⟨va3, vc3, rfl⟩ := ownsRow_slice ho
            clear ho hg hf hu3 hnb3
            go_wp2_with fail
            go_roundw
            case rel => exact ⟨j + 1, A ++ [z7], by omega, by go_num, HREL, HRO, HBO, HU3, HN3⟩
            case measure => simp [intOf]; omega
        · obtain rfl : j = n := by omega
          have t3 : decide ((j : Int) < (j : Int)) = false := by simp
          obtain ⟨wq, rfl⟩ : ∃ wq, wq = wr := ⟨wr, rfl⟩
          have hrm : Rm (paint c wo 9) wq rb M := HWL.out.rm.ext (Ext.made None0 9 HU2.out) (fun _ _ h => h)
          obtain ⟨hb, hh, hep, hok⟩ := rHeap hrm
          have HHP := Lib.hid hh
          have hfew := hok.few
          have HCP := Lib.hid (pCopy hep (by omega))
          have HRM := Lib.hid hrm
          clear hh hep hok hrm
          go_wp2_with fail
          refine (qServes op wq).mono ?_
          rintro e w' ⟨rfl, rfl⟩
          rw [HSP.out]
          go_wp2_with fail
          refine HHP.out.mono ?_
          rintro e w' ⟨rfl, rfl⟩
          go_wp2_with fail
          refine HCP.out.mono ?_
          rintro e w3 ⟨bC, rfl, hcp, hu3⟩
          have HC3 : Hid (Hep HT (Col (paint (paint c wo 9) wq 11) w3 11) w3 bC M.hp) := Lib.hid (hep_since (paint c wo 9) hcp)
          have HE3 := Lib.hid (Ext.made None0 11 (c := paint c wo 9) hu3)
          have HR3 := Lib.hid (HRM.out.ext HE3.out (fun _ _ h => h))
          have HU3 := Lib.hid (HUQ.out.trans hu3 (fun _ h _ => h))
          have hrow3 : I32 w3 (.slice ra j rc) A := i32_row (ownsRow_upd HROW.out hu3 (fun _ _ h => h)) HAL.out.symm HAB2.out
          have hlt3 := hpRowLt HROW.out
          have hcol3 : ∀ q, (Value.slice ra j rc).ownBlock = some q → ¬ TR (paint (paint c wo 9) wq 11 q) := fun q hq => by
            rw [paint_old _ _ _ (hlt3 q hq), paint_new _ _ _ (Nat.le_trans HUY.out.size (HNB.out q hq))]
            exact nR9
          have HSV := Lib.hid (servedW HR3.out who op b (.slice ra j rc) A HOP.out HBB.out hrow3 (by rw [HAL.out, HSP.out]) hcol3)
          clear z0 z1 z3 z4
          obtain ⟨z0, z1, z3, z4⟩ := HB.out w3 (HU3.out.mono (fun _ h _ => h.elim))
          clear hcp hu3 hrow3 hlt3 hcol3 HCP HHP
          go_wp2_with fail
          refine (hPick s3 4 w3 (by omega) (by omega)).mono ?_
          rintro e w' ⟨rfl, rfl⟩
          go_wp2_with fail
          refine HSV.out.mono ?_
          rintro e w4 ⟨nn, st, M', ⟨rfl, c4, hx4, hr4, -⟩, hwd⟩
          have HX4 := Lib.hid hx4
          have HR4 := Lib.hid hr4
          have HC4 := Lib.hid (hx4.hep HC3.out (by simp [TR]))
          have HWD := Lib.hid hwd
          have hWl : Wl W rb c4 w4 M' := by
            obtain ⟨u1, u2⟩ := (Ext.made None0 9 (c := c) HU2.out).upW HWL.out.up HWL.out.c0 (fun h => h)
            obtain ⟨u3, u4⟩ := HE3.out.upW u1 u2 (fun h => h)
            obtain ⟨u5, u6⟩ := hx4.upW u3 u4 (by simp [TR])
            exact ⟨hr4, u5, u6⟩
          have HWL4 := Lib.hid hWl
          have hl4 : M'.hp.arrs.length ≤ 600 := by
            obtain ⟨_, _, _, hok⟩ := rHeap hr4
            exact hok.few
          have hl5 : M.hp.arrs.length ≤ M'.hp.arrs.length := hwd.1
          clear hx4 hr4 hwd hWl z0 z1 z3 z4 HSV hixb
          go_wp2_with fail
          have HU0 := Lib.hid (Upd.refl (fun _ => False) w4)
          go_loopw [15, 16, 17, 18, 19] (fun t _ _ _ _ wz => ∃ r : Nat, 1 ≤ r ∧ r ≤ M.hp.arrs.length + 1 ∧ t = .int .i64 (r : Nat) ∧ Hid (Upd (fun _ => False) w4 wz)) (fun t _ _ _ _ _ => M.hp.arrs.length + 1 - (intOf t).toNat)
          case atStart => exact ⟨1, by omega, by omega, rfl, HU0⟩
          case round =>
            obtain ⟨r, hr1, hr2, rfl, HUZ⟩ := hrel
            obtain ⟨i, rfl⟩ : ∃ i, r = i + 1 := ⟨r - 1, by omega⟩
            have HCW := Lib.hid (HC4.out.upd HUZ.out (fun _ _ h => h))
            have HCN := Lib.hid (pCount HCW.out)
            by_cases hin : i < M.hp.arrs.length
            · have t5 : decide ((i : Int) + 1 ≤ (M.hp.arrs.length : Int)) = true := by simp; omega
              have HA1 := Lib.hid (pArray HCW.out hin (by omega))
              have HA2 : Hid (∀ u, Upd (fun _ => False) w4 u → ∃ hb6, Calls Try.prog 8 #[.pointer (some ⟨rb, 0, none⟩)] u (fun e w' => e = .returned (.pointer (some ⟨hb6, 0, none⟩)) ∧ u = w') ∧ Calls Try.prog 14 #[.pointer (some ⟨hb6, 0, none⟩), .int .i64 ((i : Int) + 1)] u fun e w' => ∃ d, e = .returned (.tuple #[aval (M'.hp.arrs.getD i default) d, .bool true]) ∧ New u d (M'.hp.arrs.getD i default).data w') := Lib.hid (fun u hu => by
                obtain ⟨hb6, h1, h2, -⟩ := rHeap (HR4.out.quiet hu)
                exact ⟨hb6, h1, pArray h2 (i := i) (by omega) (by omega)⟩)
              have hby : (∀ y ∈ (M.hp.arrs.getD i default).data, 0 ≤ y ∧ y ≤ 255) ∧ ∀ y ∈ (M'.hp.arrs.getD i default).data, 0 ≤ y ∧ y ≤ 255 := by
                refine ⟨?_, ?_⟩
                · obtain ⟨av, R, hh, hR⟩ := HC4.out
                  obtain ⟨hr, e⟩ := fst_at hR hin
                  rw [← e]
                  exact (hh.dat _ (List.getElem_mem hr)).byt
                · obtain ⟨_, -, h2, -⟩ := rHeap HR4.out
                  obtain ⟨av, R, hh, hR⟩ := h2
                  obtain ⟨hr, e⟩ := fst_at hR (show i < M'.hp.arrs.length by omega)
                  rw [← e]
                  exact (hh.dat _ (List.getElem_mem hr)).byt
              have HBY := Lib.hid hby
              have HCS := Lib.hid (HWD.out.2.1 i hin)
              clear hby
              generalize M.hp.arrs.getD i default = a at *
              generalize M'.hp.arrs.getD i default = a' at *
              go_wp2_with fail
              refine HCN.out.mono ?_
              rintro e w' ⟨rfl, rfl⟩
              go_wp2_with fail
              refine HA1.out.mono ?_
              rintro e w5 ⟨d1, rfl, hn1⟩
              obtain ⟨d1a, d1c, rfl⟩ := ownsRow_slice hn1.1
              obtain ⟨w6, hw6⟩ : ∃ w6, w6 = w5.alloc (.cells #[.int .i64 a.own, .int .i64 a.lab, .int .i64 a.life, .bool a.sh, .slice d1a a.data.length d1c] 42) := ⟨_, rfl⟩
              have hu6 : Upd (fun _ => False) w5 w6 := by rw [hw6]; exact Upd.alloc _ _ _
              have hx6 : w6.heap[w5.heap.size]? = some (.cells #[.int .i64 a.own, .int .i64 a.lab, .int .i64 a.life, .bool a.sh, .slice d1a a.data.length d1c] 42 (0, 0)) := by rw [hw6]; exact hpTop _ _ _ rfl
              have HU6 := Lib.hid (HUZ.out.trans (hn1.2.1.trans hu6 (fun _ h _ => h)) (fun _ h _ => h))
              have HV6 := Lib.hid ((hn1.vw HBY.out.1).upd hu6 (fun _ _ h => h))
              have HX6 := Lib.hid hx6
              have HW6 := Lib.hid hw6
              obtain ⟨hb6, hc6, ha6⟩ := HA2.out w6 HU6.out
              have HC6 := Lib.hid hc6
              have HA6 := Lib.hid ha6
              clear hn1 hu6 hx6 hw6 hc6 ha6
              simp only [aval]
              go_wp2_with fail
              rw [← HW6.out]
              refine HC6.out.mono ?_
              rintro e w' ⟨rfl, rfl⟩
              go_wp2_with fail
              refine HA6.out.mono ?_
              rintro e w7 ⟨d2, rfl, hn2⟩
              obtain ⟨d2a, d2c, rfl⟩ := ownsRow_slice hn2.1
              obtain ⟨w8, hw8⟩ : ∃ w8, w8 = w7.alloc (.cells #[.int .i64 a'.own, .int .i64 a'.lab, .int .i64 a'.life, .bool a'.sh, .slice d2a a'.data.length d2c] 42) := ⟨_, rfl⟩
              have hu8 : Upd (fun _ => False) w7 w8 := by rw [hw8]; exact Upd.alloc _ _ _
              have hx8 : w8.heap[w7.heap.size]? = some (.cells #[.int .i64 a'.own, .int .i64 a'.lab, .int .i64 a'.life, .bool a'.sh, .slice d2a a'.data.length d2c] 42 (0, 0)) := by rw [hw8]; exact hpTop _ _ _ rfl
              have hu68 := hn2.2.1.trans hu8 (fun _ h _ => h)
              have hx7 := hpBlk hu68 HX6.out (fun h => h)
              have HV8 := Lib.hid (HV6.out.upd hu68 (fun _ _ h => h))
              have HV9 := Lib.hid ((hn2.vw HBY.out.2).upd hu8 (fun _ _ h => h))
              have HU8 := Lib.hid (HU6.out.trans hu68 (fun _ h _ => h))
              have HX8a := Lib.hid hx7
              obtain ⟨c0, c1', c2, c3, c4', -⟩ := five hx7
              obtain ⟨e0, e1, e2, e3, e4, -⟩ := five hx8
              clear hn2 hx7 hx8 hu68 hu8
              rcases HCS.out with he | ⟨hst, hmay⟩
              · subst he
                have HS := Lib.hid (rSame a'.own a'.lab a'.life a'.sh _ _ a'.data w8 HV8.out HV9.out)
                subst hw8
                simp only [aval]
                go_wp2_with fail
                refine HS.out.mono ?_
                rintro e w9 ⟨rfl, hu9⟩
                have HU9 := Lib.hid (HU8.out.trans hu9 (fun _ h _ => h))
                clear hu9 c0 c1' c2 c3 c4' e0 e1 e2 e3 e4
                go_wp2_with fail
                go_roundw
                case rel => exact ⟨i + 2, by omega, by omega, by go_num, HU9⟩
                case measure => simp [intOf]; omega
              · have HS := Lib.hid (rSameAny a.own a.lab a.life a'.own a'.lab a'.life a.sh a'.sh _ _ a.data a'.data w8 HV8.out HV9.out)
                have HX8f : Hid (∀ u, Upd (fun _ => False) w8 u → u.cell? ⟨w5.heap.size, 0, none⟩ = some (.int .i64 a.own) ∧ u.cell? ⟨w5.heap.size, 3, none⟩ = some (.bool a.sh)) := Lib.hid (fun u hu => by
                  obtain ⟨x0, -, -, x3, -, -⟩ := five (hpBlk hu HX8a.out (fun h => h))
                  exact ⟨x0, x3⟩)
                subst hst
                have hm3 : (a.own == -1) = true ∨ (a.own == who) = true ∨ a.sh = true := by
                  simp only [mayB, Bool.or_eq_true] at hmay
                  rcases hmay with (h | h) | h
                  · exact .inl h
                  · exact .inr (.inl h)
                  · exact .inr (.inr h)
                have HM3 := Lib.hid hm3
                subst hw8
                clear hmay hm3
                simp only [aval]
                go_wp2_with fail
                refine HS.out.mono ?_
                rintro e w9 ⟨⟨z, rfl⟩, hu9⟩
                have HU9 := Lib.hid (HU8.out.trans hu9 (fun _ h _ => h))
                obtain ⟨g0, g3⟩ := HX8f.out _ hu9
                clear hu9 c0 c1' c2 c3 c4' e0 e1 e2 e3 e4
                cases z with
                | true =>
                  go_wp2_with fail
                  go_roundw
                  case rel => exact ⟨i + 2, by omega, by omega, by go_num, HU9⟩
                  case measure => simp [intOf]; omega
                | false =>
                  by_cases p1 : a.own = -1
                  · have b1 : (a.own != -1) = false := by simp [p1]
                    clear p1
                    go_wp2_with fail
                    go_roundw
                    case rel => exact ⟨i + 2, by omega, by omega, by go_num, HU9⟩
                    case measure => simp [intOf]; omega
                  · have b1 : (a.own != -1) = true := by simpa using p1
                    by_cases p2 : a.own = who
                    · have b2 : (a.own != who) = false := by simp [p2]
                      clear p1 p2
                      go_wp2_with fail
                      go_roundw
                      case rel => exact ⟨i + 2, by omega, by omega, by go_num, HU9⟩
                      case measure => simp [intOf]; omega
                    · have b2 : (a.own != who) = true := by simpa using p2
                      have hsh : a.sh = true := by
                        rcases HM3.out with h | h | h
                        · exact absurd (by simpa using h) p1
                        · exact absurd (by simpa using h) p2
                        · exact h
                      rw [hsh] at g3
                      clear p1 p2 hsh
                      go_wp2_with fail
                      go_roundw
                      case rel => exact ⟨i + 2, by omega, by omega, by go_num, HU9⟩
                      case measure => simp [intOf]; omega
            · obtain rfl : i = M.hp.arrs.length := by omega
              have t5 : decide ((M.hp.arrs.length : Int) + 1 ≤ (M.hp.arrs.length : Int)) = false := by simp; omega
              go_wp2_with fail
              refine HCN.out.mono ?_
              rintro e w' ⟨rfl, rfl⟩
              have HWLr : Hid (Wl W rb c4 wr M') := Lib.hid ⟨HWL4.out.rm.quiet HUZ.out, HWL4.out.up.trans HUZ.out (fun _ h _ => h), HWL4.out.c0⟩
              by_cases hst : st = 36864
              · subst hst
                go_wp2_with fail
                go_roundw
                case rel => exact ⟨k + 1, c4, M', by omega, by omega, by go_num, HWLr⟩
                case measure => simp [intOf]; omega
              · have b1 : (st != 36864) = true := by simpa using hst
                have hhp := HWD.out.2.2 hst
                obtain ⟨hb7, h7, hep7, -⟩ := rHeap HWLr.out.rm
                have HH7 := Lib.hid h7
                have HC7 := Lib.hid (pCount hep7)
                rw [hhp] at HC7
                have b2 : ((M.hp.arrs.length : Int) != (M.hp.arrs.length : Int)) = false := by simp
                clear hst hhp h7 hep7
                go_wp2_with fail
                refine HH7.out.mono ?_
                rintro e w' ⟨rfl, rfl⟩
                go_wp2_with fail
                refine HC7.out.mono ?_
                rintro e w' ⟨rfl, rfl⟩
                go_wp2_with fail
                refine HCN.out.mono ?_
                rintro e w' ⟨rfl, rfl⟩
                go_wp2_with fail
                go_roundw
                case rel => exact ⟨k + 1, c4, M', by omega, by omega, by go_num, HWLr⟩
                case measure => simp [intOf]; omega
    · have hor : L.length ≤ k ∨ (k < L.length ∧ 40 ≤ k) := by omega
      have HUW := Lib.hid HWL.out.up
      rcases hor with h | ⟨h, h2⟩
      · have t1 : decide ((k : Int) < (L.length : Int)) = false := by simp; omega
        go_wp2_with fail
        go_ret
        exact ⟨rfl, HUW.out⟩
      · have t1 : decide ((k : Int) < (L.length : Int)) = true := by simp; omega
        have t2 : decide ((k : Int) < 40) = false := by simp; omega
        go_wp2_with fail
        go_ret
        exact ⟨rfl, HUW.out⟩
theorem roomWalls_below (W : World) (lv : Value) (L : List St12) (hl : Qs12At W lv L) : Calls Try.prog 3 #[lv] W fun e w' => e = .returned (.bool true) ∧ Below W.heap.size W w' :=
  (roomWalls_walk W lv L hl).mono fun e w' ⟨h1, h2⟩ => ⟨h1, h2.below (Nat.le_refl _) (fun _ h => h.elim)⟩
end Go.Proofs.Ytmfiamoeagnmmaa

/- Package thumb: Decode. -/
import Derived.Test.YtibmgmgkaacibaaZi
import Derived.Test.YtibmgmgkaacibaaRl
import Derived.Deep.Cut
namespace Go.Proofs.Ytibmgmgkaacibaa
open Go.RowKit
set_option linter.unusedVariables false
set_option linter.unusedSimpArgs false

theorem pOp_mk {P : Program} {ops : Array Oper} {Q : Exit → Act → World → Prop} {i : Nat} {o : Oper} {K : Act → World → Prop} {a : Act} {w : World} (ho : ops[i]? = some o)
    (h : if Region.wanted o (yielded ops a.tmps) = true then Oper.wp P o a w K Q else K (a.put o.dst undef) w) : wpOp P ops Q i K a w := by
  unfold wpOp
  simp only [ho]
  split
  · rename_i hw
    rw [if_pos hw] at h
    exact .inl h
  · rename_i hw
    rw [if_neg hw] at h
    exact h
theorem pHL_two {P : Program} {ops : Array Oper} {Q : Exit → Act → World → Prop} {md : Region.Mode} {S : World → Prop} {n i j : Nat} {oi oj : Oper} {L : Array Bool → Act → World → Prop} {f : Nat} {listed : Array Bool} {a : Act} {w : World} (hoi : ops[i]? = some oi) (hoj : ops[j]? = some oj) (hr : Region.ready md ops listed = [i, j]) (hin : i < n) (hjn : j < n)
    (h1 : ∀ K : Act → World → Prop, (∀ a' w', S w' → wpHL P md ops Q S n L f (listed.setIfInBounds i true) a' w' → K a' w') → if Region.wanted oi (yielded ops a.tmps) = true then Oper.wp P oi a w K Q else K (a.put oi.dst undef) w)
    (h2 : ∀ K : Act → World → Prop, (∀ a' w', S w' → wpHL P md ops Q S n L f (listed.setIfInBounds j true) a' w' → K a' w') → if Region.wanted oj (yielded ops a.tmps) = true then Oper.wp P oj a w K Q else K (a.put oj.dst undef) w) : wpHL P md ops Q S n L (f + 1) listed a w := by
  refine ⟨by rw [hr]; simp, fun k hk => ?_⟩
  rw [hr] at hk
  simp at hk
  rcases hk with rfl | rfl
  · exact ⟨hin, pOp_mk hoi (h1 _ (fun a' w' g1 g2 => ⟨g1, g2⟩))⟩
  · exact ⟨hjn, pOp_mk hoj (h2 _ (fun a' w' g1 g2 => ⟨g1, g2⟩))⟩
theorem pHL_1 {P : Program} {ops : Array Oper} {Q : Exit → Act → World → Prop} {md : Region.Mode} {S : World → Prop} {n i : Nat} {o : Oper} {L : Array Bool → Act → World → Prop} {f : Nat} {listed : Array Bool} {a : Act} {w : World} (ho : ops[i]? = some o) (hr : Region.ready md ops listed = [i]) (hin : i < n)
    (h : ∀ K : Act → World → Prop, Hid (∀ a' w', S w' → wpHL P md ops Q S n L f (listed.setIfInBounds i true) a' w' → K a' w') → if Region.wanted o (yielded ops a.tmps) = true then Oper.wp P o a w K Q else K (a.put o.dst undef) w) : wpHL P md ops Q S n L (f + 1) listed a w := wpHL_step ho hr hin (fun K hK => h K (Lib.hid hK))
theorem pHL_2 {P : Program} {ops : Array Oper} {Q : Exit → Act → World → Prop} {md : Region.Mode} {S : World → Prop} {n i j : Nat} {oi oj : Oper} {L : Array Bool → Act → World → Prop} {f : Nat} {listed : Array Bool} {a : Act} {w : World} (hoi : ops[i]? = some oi) (hoj : ops[j]? = some oj) (hr : Region.ready md ops listed = [i, j]) (hin : i < n) (hjn : j < n)
    (h1 : ∀ K : Act → World → Prop, Hid (∀ a' w', S w' → wpHL P md ops Q S n L f (listed.setIfInBounds i true) a' w' → K a' w') → if Region.wanted oi (yielded ops a.tmps) = true then Oper.wp P oi a w K Q else K (a.put oi.dst undef) w)
    (h2 : ∀ K : Act → World → Prop, Hid (∀ a' w', S w' → wpHL P md ops Q S n L f (listed.setIfInBounds j true) a' w' → K a' w') → if Region.wanted oj (yielded ops a.tmps) = true then Oper.wp P oj a w K Q else K (a.put oj.dst undef) w) : wpHL P md ops Q S n L (f + 1) listed a w := pHL_two hoi hoj hr hin hjn (fun K hK => h1 K (Lib.hid hK)) (fun K hK => h2 K (Lib.hid hK))

theorem zeroIns_cells {w : World} {b : Nat} {t : TypeId} (h : w.heap[b]? = some (.cells #[.int .i64 0, .int .i64 0, .int .i64 0, .int .i64 0, .int .i64 0, .int .i64 0] t (0, 0))) :
    w.cell? ⟨b, 0, none⟩ = some (.int .i64 0) ∧ w.cell? ⟨b, 1, none⟩ = some (.int .i64 0) ∧ w.cell? ⟨b, 2, none⟩ = some (.int .i64 0) ∧ w.cell? ⟨b, 3, none⟩ = some (.int .i64 0) ∧ w.cell? ⟨b, 4, none⟩ = some (.int .i64 0) ∧ w.cell? ⟨b, 5, none⟩ = some (.int .i64 0) ∧ (∀ j, w.frozen? ⟨b, j, none⟩ = false) := by
  refine ⟨?_, ?_, ?_, ?_, ?_, ?_, fun j => frozen_of_row w b j _ t h⟩ <;> (rw [cell_of_row w b _ _ t (0, 0) h]; rfl)

theorem take_ok {r : Rw} (hr : r.Ok) (h : Nat) : (takeP r h).Ok := by
  have hb : ∀ l, OkM l → ga h l < 2048 := fun l hl => by
    have h1 := ga_lt h l
    have h2 : (2 : Nat) ^ l.length ≤ 2 ^ 11 := Nat.pow_le_pow_right (by decide) (by have := len_of hl; omega)
    omega
  have h1 := hb _ hr.p
  have h2 := hb _ hr.d
  have h3 := hb _ hr.n
  have h4 := hb _ hr.m
  have h5 := hb _ hr.cond
  have hf := hr.first
  have hl := hr.least
  refine ⟨?_, ?_, ?_, ?_, ?_, ?_⟩
  all_goals simp only [takeP, i64R]
  · omega
  · omega
  · omega
  · omega
  · have hw : (2 : Int) ^ (r.imm.length + r.halved) ≤ 2 ^ 14 := by
      exact_mod_cast Nat.pow_le_pow_right (by decide : 0 < 2) (by have := len_of hr.imm; have := hr.halved; omega : r.imm.length + r.halved ≤ 14)
    have h0 : (0 : Int) < 2 ^ (r.imm.length + r.halved) := Int.pow_pos (by decide)
    unfold leastP
    have h6 := Int.emod_nonneg ((ga h r.imm : Int) * 2 ^ r.halved - r.least) (by omega : (2 : Int) ^ (r.imm.length + r.halved) ≠ 0)
    have h7 := Int.emod_lt_of_pos ((ga h r.imm : Int) * 2 ^ r.halved - r.least) h0
    omega
  · omega

set_option maxHeartbeats 2000000 in
theorem tDecode (v : Value) (hs : List Nat) (w : World) (hv : VwH w v hs) : Calls Try.prog 47 #[v] w fun e w' => e = .returned (decV (decA hs)) ∧ New w w' := by
  obtain ⟨hy, hv⟩ := hv
  cases hs with
  | nil =>
    obtain ⟨a, c, rfl⟩ : ∃ a c, v = .slice a 0 c := by
      rcases hv with ⟨⟨a, rfl⟩, _⟩ | ⟨g, off, c, rfl, _⟩
      · exact ⟨a, 0, rfl⟩
      · exact ⟨_, c, rfl⟩
    clear hv hy
    go_enter Try.func47, Try.ntmps47
    go_wp2
    refine bodyPost_ret (v := decV (decA [])) (by simp only [results, Try.f47]; simp [go_sem, decA, I6.zero]) rfl ?_
    exact ⟨rfl, New.alloc _ _⟩
  | cons h t =>
    obtain ⟨g, off, c, rfl, hn, hm, hc⟩ : ∃ g off c, v = .slice (some ⟨g, off, none⟩) (t.length + 1) c ∧ t.length + 1 ≤ c ∧ c ≤ maxLen ∧ ∀ j, j < t.length + 1 → w.cell? ⟨g, off + j, none⟩ = some (.int .u16 (((h :: t).getD j 0 : Nat) : Int)) := by
      rcases hv with ⟨_, h0⟩ | h0
      · cases h0
      · exact h0
    have hh : h < 65536 := hy h (by simp)
    have c0 : w.cell? ⟨g, off, none⟩ = some (.int .u16 (h : Int)) := hc 0 (by omega)
    have hg := World.block_lt_of_cell? w _ c0
    simp only at hg
    have HF : Hid (∀ u, New w u → Calls Try.prog 58 #[.slice (some ⟨g, off, none⟩) (t.length + 1) c] u fun e w' => e = .returned (decV (decFarA h t)) ∧ New u w') :=
      Lib.hid (fun u hu => tDecodeFar h t g off c hh (fun y hy' => hy y (by simp [hy'])) hn hm u (fun j hj => hu.keep (hc j hj)))
    have HA : Hid (decA (h :: t) = if isFarB h then decFarA h t else match decP h with
      | some i => (i, 1, 0)
      | none => (I6.zero, 0, 8)) := Lib.hid rfl
    clear hc hv hy
    obtain ⟨n, hn1⟩ : ∃ n, t.length + 1 = n := ⟨_, rfl⟩
    rw [hn1] at hn HF ⊢
    have hn0 : 0 < n := by omega
    have hn2 : (0 : Int) < (n : Int) := by omega
    have hn3 : ((n : Int) == 0) = false := by simp; omega
    have HC := Lib.hid c0
    unfold maxLen at hm
    clear hn1
    cases hf : isFarB h
    · skip
      go_enter Try.func47, Try.ntmps47
      go_wp2_with (first
        | (with_reducible refine (tIsFar h hh _).mono ?_; rintro e _ ⟨rfl, rfl⟩)
        | (with_reducible refine (tRows _).mono ?_; rintro e w1 ⟨rfl, hw1⟩))
      have hlt : w.heap.size < w1.heap.size := by have := hw1.size; simp at this; omega
      have H0 : Hid (w1.heap[w.heap.size]? = some (.cells #[.int .i64 0, .int .i64 0, .int .i64 0, .int .i64 0, .int .i64 0, .int .i64 0] 36 (0, 0))) := Lib.hid (by
        rw [hw1.block _ (by simp) (fun h => h)]; exact heap_alloc_last w _)
      have HW := Lib.hid (New.trans (New.alloc w _) hw1)
      have HG : Hid (∀ u, New w1 u → u.cell? ⟨g, off, none⟩ = some (.int .u16 (h : Int))) := Lib.hid (fun u hu => hu.keep (HW.out.keep HC.out))
      have HX := Lib.hid row_index
      clear hw1 HF c0
      generalize hb : w.heap.size = b at *
      go_loopw [22] (fun i wr => ∃ k : Nat, k ≤ 24 ∧ i = .int .i64 (k : Int) ∧ Hid (New w1 wr) ∧ Hid (∀ j < k, (hasP (rowAt j) h && mayP (rowAt j) (takeP (rowAt j) h)) = false)) (fun i _ => 24 - (intOf i).toNat)
      case atStart => exact ⟨0, by omega, rfl, Lib.hid (Upd.refl _ _), Lib.hid (fun j hj => by omega)⟩
      case round =>
        obtain ⟨k, hk, rfl, HN, HQ⟩ := hrel
        by_cases hk24 : k < 24
        · have hix := HX.out k hk24
          have HOK := Lib.hid (rowAt_ok hk24)
          have HM2 : Hid ((hasP (rowAt k) h && mayP (rowAt k) (takeP (rowAt k) h)) = true → decP h = some (takeP (rowAt k) h)) := Lib.hid (fun hq => by
            have := find_at (l := rowL) (q := fun r => hasP r h && mayP r (takeP r h)) (by rw [rows_len]; exact hk24) HQ.out hq
            unfold decP
            rw [this]; rfl)
          have HQ2 : Hid ((hasP (rowAt k) h && mayP (rowAt k) (takeP (rowAt k) h)) = false → ∀ j < k + 1, (hasP (rowAt j) h && mayP (rowAt j) (takeP (rowAt j) h)) = false) := Lib.hid (fun hq j hj => by
            rcases Nat.lt_or_ge j k with h1 | h1
            · exact HQ.out j h1
            · have : j = k := by omega
              subst this; exact hq)
          clear HQ
          generalize rowAt k = r at *
          have hgr : g < wr.heap.size := World.block_lt_of_cell? wr _ (HG.out wr HN.out)
          have HS : Hid (∀ u, New (wr.alloc (.cells #[.int .i64 r.first, .int .u16 (r.fixed : Int), .int .u16 (msk r.p : Int), .int .u16 (msk r.d : Int), .int .u16 (msk r.n : Int), .int .u16 (msk r.m : Int), .int .u16 (msk r.imm : Int), .int .u16 (msk r.cond : Int), .int .i32 r.least, .int .i32 r.most, .int .u8 (r.halved : Int)] 118)) u → u.cell? ⟨wr.heap.size, 0, none⟩ = some (.int .i64 r.first) ∧ u.cell? ⟨wr.heap.size, 1, none⟩ = some (.int .u16 (r.fixed : Int)) ∧ u.cell? ⟨wr.heap.size, 2, none⟩ = some (.int .u16 (msk r.p : Int)) ∧ u.cell? ⟨wr.heap.size, 3, none⟩ = some (.int .u16 (msk r.d : Int)) ∧ u.cell? ⟨wr.heap.size, 4, none⟩ = some (.int .u16 (msk r.n : Int)) ∧ u.cell? ⟨wr.heap.size, 5, none⟩ = some (.int .u16 (msk r.m : Int)) ∧ u.cell? ⟨wr.heap.size, 6, none⟩ = some (.int .u16 (msk r.imm : Int)) ∧ u.cell? ⟨wr.heap.size, 7, none⟩ = some (.int .u16 (msk r.cond : Int)) ∧ u.cell? ⟨wr.heap.size, 8, none⟩ = some (.int .i32 r.least) ∧ u.cell? ⟨wr.heap.size, 9, none⟩ = some (.int .i32 r.most) ∧ u.cell? ⟨wr.heap.size, 10, none⟩ = some (.int .u8 (r.halved : Int)) ∧ u.cell? ⟨g, off, none⟩ = some (.int .u16 (h : Int))) := Lib.hid (fun u hu => by
            obtain ⟨_, d0, d1, d2, d3, d4, d5, d6, d7, d8, d9, d10⟩ := Rw.kept hu
            exact ⟨d0, d1, d2, d3, d4, d5, d6, d7, d8, d9, d10, HG.out u (New.trans HN.out (New.trans (New.alloc _ _) hu))⟩)
          have HM := Lib.hid (Upd.drew (fun _ => False) (wr.alloc (.cells #[.int .i64 r.first, .int .u16 (r.fixed : Int), .int .u16 (msk r.p : Int), .int .u16 (msk r.d : Int), .int .u16 (msk r.n : Int), .int .u16 (msk r.m : Int), .int .u16 (msk r.imm : Int), .int .u16 (msk r.cond : Int), .int .i32 r.least, .int .i32 r.most, .int .u8 (r.halved : Int)] 118)))
          cases hhas : hasP r h
          · have HQ3 := Lib.hid (HQ2.out (by rw [hhas]; rfl))
            go_wp2_with fail
            go_region_held3 (fun u => u.cell? ⟨wr.heap.size, 0, none⟩ = some (.int .i64 r.first) ∧ u.cell? ⟨wr.heap.size, 1, none⟩ = some (.int .u16 (r.fixed : Int)) ∧ u.cell? ⟨wr.heap.size, 2, none⟩ = some (.int .u16 (msk r.p : Int)) ∧ u.cell? ⟨wr.heap.size, 3, none⟩ = some (.int .u16 (msk r.d : Int)) ∧ u.cell? ⟨wr.heap.size, 4, none⟩ = some (.int .u16 (msk r.n : Int)) ∧ u.cell? ⟨wr.heap.size, 5, none⟩ = some (.int .u16 (msk r.m : Int)) ∧ u.cell? ⟨wr.heap.size, 6, none⟩ = some (.int .u16 (msk r.imm : Int)) ∧ u.cell? ⟨wr.heap.size, 7, none⟩ = some (.int .u16 (msk r.cond : Int)) ∧ u.cell? ⟨wr.heap.size, 8, none⟩ = some (.int .i32 r.least) ∧ u.cell? ⟨wr.heap.size, 9, none⟩ = some (.int .i32 r.most) ∧ u.cell? ⟨wr.heap.size, 10, none⟩ = some (.int .u8 (r.halved : Int)) ∧ u.cell? ⟨g, off, none⟩ = some (.int .u16 (h : Int))) (with_reducible exact HS.out _ HM.out) (first
              | (go_at_call 60; (refine (tHas r HOK.out h hh _).mono ?_); rintro e w2 ⟨rfl, hu⟩; rw [hhas]; replace HM := Lib.hid (New.trans HM.out hu); clear hu))
            all_goals
              go_wp2
              go_roundw
              case rel => exact ⟨k + 1, by omega, by go_num, Lib.hid (New.trans HN.out (New.trans (New.alloc _ _) HM.out)), HQ3⟩
              case measure => simp [intOf]; omega
          · skip
            go_wp2_with fail
            go_region_held3 (fun u => u.cell? ⟨wr.heap.size, 0, none⟩ = some (.int .i64 r.first) ∧ u.cell? ⟨wr.heap.size, 1, none⟩ = some (.int .u16 (r.fixed : Int)) ∧ u.cell? ⟨wr.heap.size, 2, none⟩ = some (.int .u16 (msk r.p : Int)) ∧ u.cell? ⟨wr.heap.size, 3, none⟩ = some (.int .u16 (msk r.d : Int)) ∧ u.cell? ⟨wr.heap.size, 4, none⟩ = some (.int .u16 (msk r.n : Int)) ∧ u.cell? ⟨wr.heap.size, 5, none⟩ = some (.int .u16 (msk r.m : Int)) ∧ u.cell? ⟨wr.heap.size, 6, none⟩ = some (.int .u16 (msk r.imm : Int)) ∧ u.cell? ⟨wr.heap.size, 7, none⟩ = some (.int .u16 (msk r.cond : Int)) ∧ u.cell? ⟨wr.heap.size, 8, none⟩ = some (.int .i32 r.least) ∧ u.cell? ⟨wr.heap.size, 9, none⟩ = some (.int .i32 r.most) ∧ u.cell? ⟨wr.heap.size, 10, none⟩ = some (.int .u8 (r.halved : Int)) ∧ u.cell? ⟨g, off, none⟩ = some (.int .u16 (h : Int))) (with_reducible exact HS.out _ HM.out) (first
              | (go_at_call 60; (refine (tHas r HOK.out h hh _).mono ?_); rintro e w2 ⟨rfl, hu⟩; rw [hhas]; replace HM := Lib.hid (New.trans HM.out hu); clear hu))
            obtain ⟨i, hi0⟩ : ∃ i, takeP r h = i := ⟨_, rfl⟩
            have hi := Lib.hid hi0
            have HI : Hid i.Ok := Lib.hid (by rw [← hi0]; exact take_ok HOK.out h)
            have HTk := Lib.hid (tTake r HOK.out h hh)
            rw [hi0] at HTk
            clear hi0
            go_wp2_with fail
            refine wp_region_last (S := fun u => New (wr.alloc (.cells #[.int .i64 r.first, .int .u16 (r.fixed : Int), .int .u16 (msk r.p : Int), .int .u16 (msk r.d : Int), .int .u16 (msk r.n : Int), .int .u16 (msk r.m : Int), .int .u16 (msk r.imm : Int), .int .u16 (msk r.cond : Int), .int .i32 r.least, .int .i32 r.most, .int .u8 (r.halved : Int)] 118)) u) 6 _ (by kernel_rfl) (by kernel_rfl) rfl ?_
            change wpHL _ _ _ _ _ _ _ _ _ _ w2.drew
            have hHeld : New (wr.alloc (.cells #[.int .i64 r.first, .int .u16 (r.fixed : Int), .int .u16 (msk r.p : Int), .int .u16 (msk r.d : Int), .int .u16 (msk r.n : Int), .int .u16 (msk r.m : Int), .int .u16 (msk r.imm : Int), .int .u16 (msk r.cond : Int), .int .i32 r.least, .int .i32 r.most, .int .u8 (r.halved : Int)] 118)) w2.drew := New.trans HM.out (Upd.drew _ _)
            refine wpHL_take (i := 0) (v := ?_) rfl (by kernel_rfl) (fun _ _ _ h => h) hHeld (Or.inl ⟨by rfl, ?_⟩) ?_
            rotate_left
            · (intro u hSw; obtain ⟨e0, e1, e2, e3, e4, e5, e6, e7, e8, e9, e10, e11⟩ := HS.out u hSw; go_simp; try with_reducible rfl)
            simp only [Act.put, List.getElem_toArray, List.getElem_cons_succ, List.getElem_cons_zero, List.setIfInBounds_toArray, List.set_cons_zero, List.set_cons_succ]
            refine wpHL_take (i := 1) (v := ?_) rfl (by kernel_rfl) (fun _ _ _ h => h) hHeld (Or.inl ⟨by rfl, ?_⟩) ?_
            rotate_left
            · (intro u hSw; obtain ⟨e0, e1, e2, e3, e4, e5, e6, e7, e8, e9, e10, e11⟩ := HS.out u hSw; go_simp; try with_reducible rfl)
            simp only [Act.put, List.getElem_toArray, List.getElem_cons_succ, List.getElem_cons_zero, List.setIfInBounds_toArray, List.set_cons_zero, List.set_cons_succ]
            refine wpHL_take (i := 2) (v := ?_) rfl (by kernel_rfl) (fun _ _ _ h => h) hHeld (Or.inl ⟨by rfl, ?_⟩) ?_
            rotate_left
            · (intro u hSw; obtain ⟨e0, e1, e2, e3, e4, e5, e6, e7, e8, e9, e10, e11⟩ := HS.out u hSw; go_simp; try with_reducible rfl)
            simp only [Act.put, List.getElem_toArray, List.getElem_cons_succ, List.getElem_cons_zero, List.setIfInBounds_toArray, List.set_cons_zero, List.set_cons_succ]
            refine wpHL_take (i := 3) (v := ?_) rfl (by kernel_rfl) (fun _ _ _ h => h) hHeld (Or.inl ⟨by rfl, ?_⟩) ?_
            rotate_left
            · (intro u hSw; obtain ⟨e0, e1, e2, e3, e4, e5, e6, e7, e8, e9, e10, e11⟩ := HS.out u hSw; go_simp; try with_reducible rfl)
            simp only [Act.put, List.getElem_toArray, List.getElem_cons_succ, List.getElem_cons_zero, List.setIfInBounds_toArray, List.set_cons_zero, List.set_cons_succ]
            refine pHL_2 (i := 4) (j := 5) rfl rfl (by kernel_rfl) (by decide) (by decide) (fun K HK => ?_) (fun K HK => ?_)
            · go_simp
              refine (HTk.out _).mono ?_
              rintro e w3 ⟨rfl, hw3⟩
              have HM3 := Lib.hid (New.trans hHeld hw3)
              clear hHeld hw3
              refine HK.out _ _ (HM3.out) ?_
              try simp only [Act.put, List.setIfInBounds_toArray, List.set_cons_zero, List.set_cons_succ]
              clear HK
              refine pHL_1 (i := 5) rfl (by kernel_rfl) (by decide) (fun K HK => ?_)
              go_simp
              refine HK.out _ _ (New.trans HM3.out (New.alloc _ _)) ?_
              try simp only [Act.put, List.setIfInBounds_toArray, List.set_cons_zero, List.set_cons_succ]
              clear HK
              refine wpHL_last (by kernel_rfl) ?_
              obtain ⟨e0, e1, e2, e3, e4, e5, e6, e7, e8, e9, e10, e11⟩ := HS.out w3 HM3.out
              have hs3 : wr.heap.size < w3.heap.size := World.block_lt_of_cell? w3 _ e0
              go_wp2_with fail
              refine (tMay r HOK.out i HI.out _).mono ?_
              rintro e w4 ⟨rfl, hw4⟩
              have HM4 := Lib.hid (New.trans (New.trans HM3.out (New.alloc _ _)) hw4)
              obtain ⟨_, y0, y1, y2, y3, y4, y5⟩ := I6.kept hw4
              have hz4 : w4.heap[b]? = some (.cells #[.int .i64 0, .int .i64 0, .int .i64 0, .int .i64 0, .int .i64 0, .int .i64 0] 36 (0, 0)) := by
                rw [HM4.out.block b (by have := HN.out.size; simp; omega) (fun h => h), (New.alloc wr _).block b (by have := HN.out.size; omega) (fun h => h), HN.out.block b hlt (fun h => h)]
                exact H0.out
              obtain ⟨z0, z1, z2, z3, z4, z5, zf⟩ := zeroIns_cells hz4
              have hbl := (Array.getElem?_eq_some_iff.1 hz4).1
              clear hz4 hw4
              cases hmay : mayP r i
              · have HQ3 := Lib.hid (HQ2.out (by rw [hhas, hi.out, hmay]; rfl))
                clear hmay
                go_wp2
                go_roundw
                case rel => exact ⟨k + 1, by omega, by go_num, Lib.hid (New.trans HN.out (New.trans (New.alloc _ _) HM4.out)), HQ3⟩
                case measure => simp [intOf]; omega
              · have HD : Hid (decA (h :: t) = (i, 1, 0)) := Lib.hid (by
                  rw [HA.out, hf, HM2.out (by rw [hhas, hi.out, hmay]; rfl), hi.out]; rfl)
                clear hmay
                go_wp2
                rw [HD.out]
                refine bodyPost_ret (v := decV (i, 1, 0)) (by simp only [results, Try.f47]; simp [go_sem, hbl, z0, z1, z2, z3, z4, z5]) rfl ?_
                refine ⟨rfl, ?_⟩
                repeat (refine New.set ?_ _ _ (by simp [← hb]))
                exact New.trans HW.out (New.trans HN.out (New.trans (New.alloc _ _) HM4.out))
            · go_simp
              refine HK.out _ _ (New.trans hHeld (New.alloc _ _)) ?_
              try simp only [Act.put, List.setIfInBounds_toArray, List.set_cons_zero, List.set_cons_succ]
              clear HK
              refine pHL_1 (i := 4) rfl (by kernel_rfl) (by decide) (fun K HK => ?_)
              go_simp
              refine (HTk.out _).mono ?_
              rintro e w3 ⟨rfl, hw3⟩
              have HM3 := Lib.hid (New.trans (New.trans hHeld (New.alloc _ _)) hw3)
              have hz : w3.heap[w2.heap.size]? = some (.cells #[.int .i64 0, .int .i64 0, .int .i64 0, .int .i64 0, .int .i64 0, .int .i64 0] 36 (0, 0)) := by
                rw [hw3.block w2.heap.size (by simp [World.drew]) (fun h => h)]; exact heap_alloc_last w2.drew _
              obtain ⟨x0, x1, x2, x3, x4, x5, xf⟩ := zeroIns_cells hz
              have hs7 : w2.heap.size < w3.heap.size := (Array.getElem?_eq_some_iff.1 hz).1
              have hlt7 : wr.heap.size < w2.heap.size := by have := HM.out.size; simp at this; omega
              clear hHeld hw3 hz
              refine HK.out _ _ (HM3.out) ?_
              try simp only [Act.put, List.setIfInBounds_toArray, List.set_cons_zero, List.set_cons_succ]
              clear HK
              refine wpHL_last (by kernel_rfl) ?_
              obtain ⟨e0, e1, e2, e3, e4, e5, e6, e7, e8, e9, e10, e11⟩ := HS.out w3 HM3.out
              go_wp2_with fail
              refine (tMay r HOK.out i HI.out _).mono ?_
              rintro e w4 ⟨rfl, hw4⟩
              have HM4 := Lib.hid (New.trans (show New (wr.alloc (.cells #[.int .i64 r.first, .int .u16 (r.fixed : Int), .int .u16 (msk r.p : Int), .int .u16 (msk r.d : Int), .int .u16 (msk r.n : Int), .int .u16 (msk r.m : Int), .int .u16 (msk r.imm : Int), .int .u16 (msk r.cond : Int), .int .i32 r.least, .int .i32 r.most, .int .u8 (r.halved : Int)] 118)) _ from by (repeat (refine New.set ?_ _ _ (by simp; omega))); exact HM3.out) hw4)
              have y0 : w4.cell? ⟨w2.heap.size, 0, none⟩ = some (.int .i64 i.op) := by refine hw4.keep ?_; simp [go_sem, hs7, x0, x1, x2, x3, x4, x5]
              have y1 : w4.cell? ⟨w2.heap.size, 1, none⟩ = some (.int .i64 i.d) := by refine hw4.keep ?_; simp [go_sem, hs7, x0, x1, x2, x3, x4, x5]
              have y2 : w4.cell? ⟨w2.heap.size, 2, none⟩ = some (.int .i64 i.n) := by refine hw4.keep ?_; simp [go_sem, hs7, x0, x1, x2, x3, x4, x5]
              have y3 : w4.cell? ⟨w2.heap.size, 3, none⟩ = some (.int .i64 i.m) := by refine hw4.keep ?_; simp [go_sem, hs7, x0, x1, x2, x3, x4, x5]
              have y4 : w4.cell? ⟨w2.heap.size, 4, none⟩ = some (.int .i64 i.imm) := by refine hw4.keep ?_; simp [go_sem, hs7, x0, x1, x2, x3, x4, x5]
              have y5 : w4.cell? ⟨w2.heap.size, 5, none⟩ = some (.int .i64 i.cond) := by refine hw4.keep ?_; simp [go_sem, hs7, x0, x1, x2, x3, x4, x5]
              have hz4 : w4.heap[b]? = some (.cells #[.int .i64 0, .int .i64 0, .int .i64 0, .int .i64 0, .int .i64 0, .int .i64 0] 36 (0, 0)) := by
                rw [HM4.out.block b (by have := HN.out.size; simp; omega) (fun h => h), (New.alloc wr _).block b (by have := HN.out.size; omega) (fun h => h), HN.out.block b hlt (fun h => h)]
                exact H0.out
              obtain ⟨z0, z1, z2, z3, z4, z5, zf⟩ := zeroIns_cells hz4
              have hbl := (Array.getElem?_eq_some_iff.1 hz4).1
              clear hz4 hw4
              cases hmay : mayP r i
              · have HQ3 := Lib.hid (HQ2.out (by rw [hhas, hi.out, hmay]; rfl))
                clear hmay
                go_wp2
                go_roundw
                case rel => exact ⟨k + 1, by omega, by go_num, Lib.hid (New.trans HN.out (New.trans (New.alloc _ _) HM4.out)), HQ3⟩
                case measure => simp [intOf]; omega
              · have HD : Hid (decA (h :: t) = (i, 1, 0)) := Lib.hid (by
                  rw [HA.out, hf, HM2.out (by rw [hhas, hi.out, hmay]; rfl), hi.out]; rfl)
                clear hmay
                go_wp2
                rw [HD.out]
                refine bodyPost_ret (v := decV (i, 1, 0)) (by simp only [results, Try.f47]; simp [go_sem, hbl, z0, z1, z2, z3, z4, z5]) rfl ?_
                refine ⟨rfl, ?_⟩
                repeat (refine New.set ?_ _ _ (by simp [← hb]))
                exact New.trans HW.out (New.trans HN.out (New.trans (New.alloc _ _) HM4.out))
        · have HNo : Hid (decP h = none) := Lib.hid (by
            have := find_no (l := rowL) (q := fun r => hasP r h && mayP r (takeP r h)) (fun j hj => HQ.out j (by rw [rows_len] at hj; omega))
            unfold decP
            rw [this]; rfl)
          have HD : Hid (decA (h :: t) = (I6.zero, 0, 8)) := Lib.hid (by rw [HA.out, hf, HNo.out]; rfl)
          have hz4 : wr.heap[b]? = some (.cells #[.int .i64 0, .int .i64 0, .int .i64 0, .int .i64 0, .int .i64 0, .int .i64 0] 36 (0, 0)) := by
            rw [HN.out.block b hlt (fun h => h)]; exact H0.out
          obtain ⟨z0, z1, z2, z3, z4, z5, zf⟩ := zeroIns_cells hz4
          clear hz4
          go_wp2
          rw [HD.out]
          refine bodyPost_ret (v := decV (I6.zero, 0, 8)) (by simp only [results, Try.f47]; simp [go_sem, I6.zero, z0, z1, z2, z3, z4, z5]) rfl ?_
          refine ⟨rfl, ?_⟩
          repeat (refine New.set ?_ _ _ (by simp [← hb]))
          exact New.trans HW.out HN.out
    · have HE : Hid (decA (h :: t) = decFarA h t) := Lib.hid (by rw [HA.out, hf]; rfl)
      go_enter Try.func47, Try.ntmps47
      go_wp2_with (with_reducible refine (tIsFar h hh _).mono ?_; rintro e _ ⟨rfl, rfl⟩)
      have hnew := New.alloc w (.cells #[.int .i64 0, .int .i64 0, .int .i64 0, .int .i64 0, .int .i64 0, .int .i64 0] 36)
      refine (HF.out _ hnew).mono ?_
      rintro e w2 ⟨rfl, hw2⟩
      obtain ⟨x, hx⟩ : ∃ x, decFarA h t = x := ⟨_, rfl⟩
      have HX : Hid (decA (h :: t) = x) := Lib.hid (HE.out.trans hx)
      rw [hx]
      have hb : w2.heap[w.heap.size]? = some (.cells #[.int .i64 0, .int .i64 0, .int .i64 0, .int .i64 0, .int .i64 0, .int .i64 0] 36 (0, 0)) := by
        rw [hw2.block _ (by simp) (fun h => h)]; exact heap_alloc_last w _
      obtain ⟨z0, z1, z2, z3, z4, z5, zf⟩ := zeroIns_cells hb
      have hlt := (Array.getElem?_eq_some_iff.1 hb).1
      have HW := Lib.hid (New.trans hnew hw2)
      clear hb hnew hw2 hx
      go_wp2
      rw [HX.out]
      refine bodyPost_ret (v := decV x) (by simp only [results, Try.f47]; simp [go_sem, z0, z1, z2, z3, z4, z5]) rfl ?_
      refine ⟨rfl, ?_⟩
      repeat (refine New.set ?_ _ _ (by simp))
      exact HW.out
end Go.Proofs.Ytibmgmgkaacibaa

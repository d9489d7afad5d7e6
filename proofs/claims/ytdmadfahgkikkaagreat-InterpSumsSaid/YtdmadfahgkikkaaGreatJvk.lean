/- InterpSums, walked. -/
import Derived.Test.YtdmadfahgkikkaaGreatJuk
namespace Go.Proofs.YtdmadfahgkikkaaGreat
open Go.RowKit Go.Lib Go.ChangeShapes Go.WideShapes Go.Deep Go.MapKept Go.ChangeMaps
set_option linter.unusedVariables false
set_option linter.unusedSimpArgs false

theorem infoInsJ : (Tryz.prog.info? 30).map (fun i => (i.zero, i.size, i.bytes)) = some (some (.agg #[.int .i64 0, .int .i64 0, .int .i64 0]), 3, 24) := by kernel_rfl
def opsL : List Int := [6, 7, 8, 9, 10, 11, 12, 13, 14, 20]
def opAt (S : List Int) (i : Nat) : Int := if i < S.length then opsL.getD (S.getD i 0 % 10).toNat 6 else 6
theorem opAt_mem (S : List Int) (i : Nat) : opAt S i ∈ opsL := by
  unfold opAt
  split
  · have h : (S.getD i 0 % 10).toNat < 10 := by omega
    generalize (S.getD i 0 % 10).toNat = t at h
    have ht : t = 0 ∨ t = 1 ∨ t = 2 ∨ t = 3 ∨ t = 4 ∨ t = 5 ∨ t = 6 ∨ t = 7 ∨ t = 8 ∨ t = 9 := by omega
    rcases ht with rfl | rfl | rfl | rfl | rfl | rfl | rfl | rfl | rfl | rfl <;> decide
  · decide
theorem opsL_bin {op : Int} (h : op ∈ opsL) : 6 ≤ op ∧ op ≤ 14 ∨ 19 ≤ op ∧ op ≤ 21 := by simp [opsL] at h; omega
theorem binI_r (op x y : Int) : i32r (binI op x y) := si_range _
def flat (ps : List (Int × Int)) : List InsM := ps.flatMap (fun p => [⟨1, p.2, 0⟩, ⟨p.1, 0, 0⟩])
def prK (L S : List Int) (k : Nat) : List (Int × Int) := (List.range (k - 1)).map (fun i => (opAt S (i + 1), L.getD (i + 1) 0))
def cdK (L S : List Int) (k : Nat) : List InsM := if k = 0 then [] else ⟨1, L.getD 0 0, 0⟩ :: flat (prK L S k)
def wtK (L S : List Int) (k : Nat) : Int := if k = 0 then 0 else sumV (L.getD 0 0) (prK L S k)
theorem prK_len (L S : List Int) (k : Nat) : (prK L S k).length = k - 1 := by simp [prK]
theorem prK_succ (L S : List Int) {k : Nat} (h : 1 ≤ k) : prK L S (k + 1) = prK L S k ++ [(opAt S k, L.getD k 0)] := by
  obtain ⟨j, rfl⟩ : ∃ j, k = j + 1 := ⟨k - 1, by omega⟩
  simp [prK, List.range_succ]
theorem cdK_one (L S : List Int) : cdK L S 1 = cdK L S 0 ++ [⟨1, L.getD 0 0, 0⟩] := by simp [cdK, prK, flat]
theorem cdK_succ (L S : List Int) {k : Nat} (h : 1 ≤ k) : cdK L S (k + 1) = (cdK L S k ++ [⟨1, L.getD k 0, 0⟩]) ++ [⟨opAt S k, 0, 0⟩] := by
  unfold cdK
  rw [if_neg (by omega), if_neg (by omega), prK_succ L S h]
  simp [flat]
theorem cdK_len (L S : List Int) (k : Nat) : (cdK L S k).length ≤ 2 * k := by
  induction k with
  | zero => simp [cdK]
  | succ k ih =>
    rcases Nat.eq_zero_or_pos k with rfl | h
    · rw [cdK_one]; simp [cdK]
    · rw [cdK_succ L S h]; simp; omega
theorem wtK_succ (L S : List Int) {k : Nat} (h : 1 ≤ k) : wtK L S (k + 1) = binI (opAt S k) (wtK L S k) (L.getD k 0) := by
  unfold wtK
  rw [if_neg (by omega), if_neg (by omega), prK_succ L S h]
  simp [sumV]
theorem wtK_r (L S : List Int) (hL : ∀ x ∈ L, i32r x) (k : Nat) (hk : k ≤ L.length) : i32r (wtK L S k) := by
  rcases Nat.eq_zero_or_pos k with rfl | h
  · simp [wtK, i32r]
  · obtain ⟨j, rfl⟩ : ∃ j, k = j + 1 := ⟨k - 1, by omega⟩
    rcases Nat.eq_zero_or_pos j with rfl | hj
    · have : wtK L S 1 = L.getD 0 0 := by simp [wtK, prK, sumV]
      rw [this]
      exact hL _ (by simp [List.getD, show 0 < L.length by omega])
    · rw [wtK_succ L S hj]; exact binI_r _ _ _
theorem cdK_end (L S : List Int) {k : Nat} (h : 1 ≤ k) : cdK L S k ++ [⟨34, 0, 0⟩, ⟨39, 0, 0⟩] = sumC (prK L S k) (L.getD 0 0) := by
  unfold cdK sumC tailC flat
  rw [if_neg (by omega)]
  rfl
theorem prK_ok (L S : List Int) (hL : ∀ x ∈ L, i32r x) {k : Nat} (hk : k ≤ L.length) : ∀ p ∈ prK L S k, (6 ≤ p.1 ∧ p.1 ≤ 14 ∨ 19 ≤ p.1 ∧ p.1 ≤ 21) ∧ i32r p.2 := by
  intro p hp
  obtain ⟨i, hi, rfl⟩ := List.mem_map.1 hp
  rw [List.mem_range] at hi
  exact ⟨opsL_bin (opAt_mem S _), hL _ (by simp [List.getD, show i + 1 < L.length by omega])⟩
theorem rDoB {op : Int} (ho : op ∈ opsL) (x y : BitVec 32) (w : World) : Calls Tryz.prog 18 #[.int .i64 op, .int .i32 (si x), .int .i32 (si y)] w fun e w' => e = .returned (.int .i32 (si (binB op x y))) ∧ w = w' := by
  simp [opsL] at ho
  rcases ho with rfl | rfl | rfl | rfl | rfl | rfl | rfl | rfl | rfl | rfl
  · exact rDoAdd x y w
  · exact rDoSub x y w
  · exact rDoMul x y w
  · exact rDoAnd x y w
  · exact rDoOr x y w
  · exact rDoXor x y w
  · exact rDoShl x y w
  · exact rDoShr x y w
  · exact rDoSar x y w
  · exact rDoLt x y w
theorem rDoI {op x y : Int} (ho : op ∈ opsL) (hx : i32r x) (hy : i32r y) (w : World) : Calls Tryz.prog 18 #[.int .i64 op, .int .i32 x, .int .i32 y] w fun e w' => e = .returned (.int .i32 (binI op x y)) ∧ w = w' := by
  have h := rDoB ho (BitVec.ofInt 32 x) (BitVec.ofInt 32 y) w
  rw [si_of hx, si_of hy] at h
  exact h
theorem insCells_app (C D : List InsM) : insCells (C ++ D) = insCells C ++ insCells D := by simp [insCells]
/-- an own list of instructions that grows -/
def Cd (W w : World) (v : Value) (C : List InsM) : Prop := w.ownsRow 0 30 3 v C.length (insCells C) ∧ (∀ j, v.ownBlock = some j → W.heap.size ≤ j) ∧ Upd (fun _ => False) W w
theorem Cd.app {W w wa w2 : World} {v v' : Value} {C D : List InsM} (h : Cd W w v C) (ha : Upd (fun _ => False) w wa) (ho : w2.ownsRow 0 30 3 v' (C.length + D.length) (insCells C ++ insCells D)) (hg : wa.grownBy w2 v.ownBlock) (hf : Fresh wa v v') : Cd W w2 v' (C ++ D) := by
  obtain ⟨h1, h2, h3⟩ := h
  refine ⟨by rw [List.length_append, insCells_app]; exact ho, fun j hj => ?_, h3.trans (Upd.row ha hg) (fun i h hlt => by have := h2 i h; omega)⟩
  rcases hf j hj with h | h
  · exact h2 j h
  · have := h3.size; have := ha.size; omega
theorem Cd.inss {W w : World} {v : Value} {C : List InsM} (h : Cd W w v C) (hw : ∀ x ∈ C, wi64 x.op ∧ wi64 x.a ∧ wi64 x.b) : Inss w v C := by
  refine ⟨(Sl.own h.1).congr fun i hi j hj => ?_, hw⟩
  rw [List.getD, insCells_at C hi hj]
  rfl
theorem srcI (w : World) (D : List InsM) (C : Array Value) (hC : C.toList = insCells D) : Src (w.alloc (.cells C 30)) 3 (.slice (some ⟨w.heap.size, 0, none⟩) D.length D.length) D.length (insCells D) := by
  rw [← hC]
  refine qSrc w _ C 3 (fun u hu => ?_) _ _ (by have := insCells_len D; rw [← hC] at this; simpa [Nat.mul_comm] using this)
  rw [hC] at hu
  simp [insCells] at hu
  obtain ⟨x, -, hu⟩ := hu
  rcases hu with rfl | rfl | rfl <;> rfl
theorem sumC_wi (ps : List (Int × Int)) (v : Int) (hv : i32r v) (hp : ∀ p ∈ ps, (6 ≤ p.1 ∧ p.1 ≤ 14 ∨ 19 ≤ p.1 ∧ p.1 ≤ 21) ∧ i32r p.2) : ∀ x ∈ sumC ps v, wi64 x.op ∧ wi64 x.a ∧ wi64 x.b := by
  intro x hx
  simp only [sumC, tailC, List.mem_cons, List.mem_append, List.mem_flatMap, List.not_mem_nil, or_false] at hx
  unfold i32r at hv
  rcases hx with rfl | ⟨p, hp', rfl | rfl⟩ | rfl | rfl
  · simp only [wi64]; omega
  · obtain ⟨-, h⟩ := hp p hp'; unfold i32r at h; simp only [wi64]; omega
  · obtain ⟨h, -⟩ := hp p hp'; simp only [wi64]; omega
  · simp only [wi64]; omega
  · simp only [wi64]; omega
set_option maxRecDepth 100000 in
set_option maxHeartbeats 8000000 in
theorem interpSums_walk (w : World) {va vb : Value} {L S : List Int} (hL : I32 w va L) (hS : Ints w vb S) : Calls Tryz.prog 4 #[va, vb] w fun e w' => e = .returned (.bool true) ∧ Upd (fun _ => False) w w' := by
  obtain ⟨i0, hi, hz0, hz1, hz2⟩ := info_parts infoInsJ
  have HLL := Lib.hid hL
  have HSS := Lib.hid hS
  have HLR := Lib.hid (show ∀ x ∈ L, i32r x from hL.1)
  obtain ⟨-, la, lc, rfl, hlc, hlm, -⟩ := hL
  obtain ⟨sa, sc, rfl, hsc, hsm⟩ := hS.slice
  unfold maxLen at hlm hsm
  clear hS
  obtain ⟨W, hW⟩ : ∃ W, W = w.alloc (.cells #[.int .i64 6, .int .i64 7, .int .i64 8, .int .i64 9, .int .i64 10, .int .i64 11, .int .i64 12, .int .i64 13, .int .i64 14, .int .i64 20] 46) := ⟨_, rfl⟩
  have HUW : Hid (Upd (fun _ => False) w W) := Lib.hid (by rw [hW]; exact Upd.alloc _ _ _)
  have HBX : Hid (W.heap[w.heap.size]? = some (.cells #[.int .i64 6, .int .i64 7, .int .i64 8, .int .i64 9, .int .i64 10, .int .i64 11, .int .i64 12, .int .i64 13, .int .i64 14, .int .i64 20] 46 (0, 0))) := Lib.hid (by rw [hW]; exact hpTop w _ _ rfl)
  have HW := Lib.hid hW
  have HC0 : Hid (Cd W W (.slice none 0 0) (cdK L S 0)) := Lib.hid ⟨World.ownsRow_nil _ _ _ _, by simp [Value.ownBlock], Upd.refl _ _⟩
  clear hW
  go_enter Tryz.func4, Tryz.ntmps4
  go_wp2_with fail
  rw [← HW.out]
  go_loopw [5, 6, 8] (fun cv wv iv wr => ∃ (k : Nat) (ca : Option Addr) (cc n : Nat), k ≤ L.length ∧ k ≤ 25 ∧ iv = .int .i64 k ∧ cv = .slice ca n cc ∧ wv = .int .i32 (wtK L S k) ∧ Hid (n = (cdK L S k).length) ∧ Hid (Cd W wr (.slice ca n cc) (cdK L S k))) (fun _ _ iv _ => 25 - (intOf iv).toNat)
  case atStart => exact ⟨0, none, 0, 0, Nat.zero_le _, Nat.zero_le _, rfl, rfl, rfl, Lib.hid rfl, HC0⟩
  case round =>
    obtain ⟨k, ca, cc, n, hk, hk25, rfl, rfl, rfl, HN, HC⟩ := hrel
    have hnl : n ≤ 50 := by rw [HN.out]; have := cdK_len L S k; omega
    have HNL := Lib.hid hnl
    have HROW : Hid (wr.ownsRow 0 30 3 (.slice ca n cc) n (insCells (cdK L S k))) := Lib.hid (by have h := HC.out.1; rw [← HN.out] at h; exact h)
    have hi0 : (0 : Int) ≤ (k : Int) := Int.natCast_nonneg _
    clear hnl
    by_cases hlt : k < L.length
    · by_cases h25 : k < 25
      · have HUR := Lib.hid (HUW.out.trans HC.out.2.2 (fun _ h _ => h))
        obtain ⟨g, off, rfl, hcl⟩ : ∃ g off, la = some ⟨g, off, none⟩ ∧ ∀ j, j < L.length → w.cell? ⟨g, off + j, none⟩ = some (.int .i32 (L.getD j 0)) := by
          obtain ⟨-, a', c', he, -, -, h4⟩ := HLL.out
          simp at he
          obtain ⟨rfl, -⟩ := he
          rcases h4 with rfl | h4
          · simp at hlt
          · exact h4
        have HCL := Lib.hid hcl
        have hgl : g < w.heap.size := World.block_lt_of_cell? w _ (hcl k hlt)
        have c1 : wr.cell? ⟨g, off + k, none⟩ = some (.int .i32 (L.getD k 0)) := (HUR.out.cell hgl (fun h => h)).trans (hcl k hlt)
        have hir := HLR.out (L.getD k 0) (by simp [List.getD, hlt])
        unfold i32r at hir
        obtain ⟨x, hx⟩ : ∃ x, x = L.getD k 0 := ⟨_, rfl⟩
        rw [← hx] at c1 hir
        have hcv : IntKind.i64.wrap x = x := IntWalk.i64_in _ (by omega)
        have h1 : (k : Int) < (L.length : Int) := by omega
        have h2 : (k : Int) < 25 := by omega
        have HX := Lib.hid hx
        clear hcl hx hir
        go_wp2_with (at_builtin; go_loud (refine wpList_append_mine _ rfl _ _ 45 rfl 0 30 i0 (.agg #[.int .i64 0, .int .i64 0, .int .i64 0]) 3 24 Tryz.underlying45 hi hz0 hz1 hz2 rfl (by decide) (.slice ca n cc) (n) (insCells (cdK L S k)) rfl (HROW.out.alloc _) 1 (insCells ([⟨1, x, 0⟩])) ((show Src _ 3 (.slice _ 1 1) 1 _ from srcI wr [⟨1, x, 0⟩] #[.int .i64 1, .int .i64 x, .int .i64 0] (by rfl))) (by have := HNL.out; unfold maxLen; omega) (by have := HNL.out; omega) (Nat.zero_le _) ?_))
        intro v1 w1 ho hg hf
        have hc1 := Cd.app (D := [⟨1, x, 0⟩]) HC.out (Upd.alloc _ wr _) (by rw [← HN.out]; exact ho) hg hf
        obtain ⟨va, vc, rfl⟩ := ownsRow_slice ho
        have HC1 := Lib.hid hc1
        have HUR1 := Lib.hid (HUW.out.trans hc1.2.2 (fun _ h _ => h))
        have c1b : w1.cell? ⟨g, off + k, none⟩ = some (.int .i32 x) := (HUR1.out.cell hgl (fun h => h)).trans (by rw [HX.out]; exact HCL.out k hlt)
        clear ho hg hf hc1 c1
        by_cases hk0 : k = 0
        · subst hk0
          have c10 : w1.cell? ⟨g, off, none⟩ = some (.int .i32 x) := c1b
          have HREL : Hid (∃ (k' : Nat) (ca : Option Addr) (cc n' : Nat), k' ≤ L.length ∧ k' ≤ 25 ∧ Value.int .i64 1 = .int .i64 k' ∧ Value.slice va (n + 1) vc = .slice ca n' cc ∧ Value.int .i32 x = .int .i32 (wtK L S k') ∧ Hid (n' = (cdK L S k').length) ∧ Hid (Cd W w1 (.slice ca n' cc) (cdK L S k'))) := Lib.hid ⟨1, va, vc, n + 1, by omega, by omega, rfl, rfl, by rw [HX.out]; simp [wtK, prK, sumV], Lib.hid (by rw [HN.out, cdK_one]; simp), by rw [cdK_one, ← HX.out]; exact HC1⟩
          have hl0 : (0 : Int) < (L.length : Int) := by omega
          go_wp2_with fail
          go_roundw
          case rel => exact HREL.out
          case measure => simp [intOf]
        · have HK1 := Lib.hid (show 1 ≤ k by omega)
          have tk : ((k : Int) == 0) = false := by simp; omega
          have HROW1 : Hid (w1.ownsRow 0 30 3 (.slice va (n + 1) vc) (n + 1) (insCells (cdK L S k ++ [⟨1, x, 0⟩]))) := Lib.hid (by have h := HC1.out.1; rw [List.length_append, ← HN.out] at h; exact h)
          have hnx : IntKind.i64.wrap ((k : Int) + 1) = (k : Int) + 1 := IntWalk.i64_in _ (by omega)
          have HDO := Lib.hid (fun (u : World) => rDoI (opAt_mem S k) (wtK_r L S HLR.out k (by omega)) (show i32r x by rw [HX.out]; exact HLR.out _ (by simp [List.getD, hlt])) u)
          clear hk0
          by_cases hs : k < S.length
          · obtain ⟨gs, os, rfl, hsc1, hsw⟩ := (HSS.out.later ((HUR1.out).below (Nat.le_refl _) (fun _ h => h.elim))).at hs
            have hs1 : (k : Int) < (S.length : Int) := by omega
            obtain ⟨y, hy⟩ : ∃ y, y = S.getD k 0 := ⟨_, rfl⟩
            rw [← hy] at hsc1
            obtain ⟨t, ht⟩ : ∃ t : Nat, y % 10 = (t : Int) := ⟨(y % 10).toNat, by omega⟩
            have ht0 : (0 : Int) ≤ (t : Int) := Int.natCast_nonneg _
            have ht1 : (t : Int) < 10 := by omega
            have ht2 : t < 10 := by omega
            have hop : opAt S k = opsL.getD t 6 := by unfold opAt; rw [if_pos hs, ← hy, ht]; rfl
            have hbx : w1.cell? ⟨w.heap.size, t, none⟩ = some (.int .i64 (opAt S k)) := by
              rw [hop]
              have hb := hpBlk HC1.out.2.2 HBX.out (fun h => h)
              have ht' : t = 0 ∨ t = 1 ∨ t = 2 ∨ t = 3 ∨ t = 4 ∨ t = 5 ∨ t = 6 ∨ t = 7 ∨ t = 8 ∨ t = 9 := by omega
              rcases ht' with rfl | rfl | rfl | rfl | rfl | rfl | rfl | rfl | rfl | rfl <;> simp [World.cell?, hb, opsL]
            have HHT := Lib.hid ht
            clear hsw hy ht hop
            generalize hgo : opAt S k = op at *
            have HGO := Lib.hid hgo
            clear hgo
            go_wp2_with fail
            refine (hPick y 10 _ (by omega) (by omega)).mono ?_
            rintro e _ ⟨rfl, rfl⟩
            rw [HHT.out]
            go_wp2_with (at_builtin; go_loud (refine wpList_append_mine _ rfl _ _ 45 rfl 0 30 i0 (.agg #[.int .i64 0, .int .i64 0, .int .i64 0]) 3 24 Tryz.underlying45 hi hz0 hz1 hz2 rfl (by decide) (.slice va (n + 1) vc) (n + 1) (insCells (cdK L S k ++ [⟨1, x, 0⟩])) rfl (HROW1.out.alloc _) 1 (insCells ([⟨op, 0, 0⟩])) ((show Src _ 3 (.slice _ 1 1) 1 _ from srcI w1 [⟨op, 0, 0⟩] #[.int .i64 op, .int .i64 0, .int .i64 0] (by rfl))) (by have := HNL.out; unfold maxLen; omega) (by have := HNL.out; omega) (Nat.zero_le _) ?_))
            intro v2 w2 ho hg hf
            have hc2 := Cd.app (D := [⟨op, 0, 0⟩]) HC1.out (Upd.alloc _ w1 _) (by rw [List.length_append, ← HN.out]; exact ho) hg hf
            obtain ⟨va2, vc2, rfl⟩ := ownsRow_slice ho
            have HUR2 := Lib.hid (HUW.out.trans hc2.2.2 (fun _ h _ => h))
            have c1c : w2.cell? ⟨g, off + k, none⟩ = some (.int .i32 x) := (HUR2.out.cell hgl (fun h => h)).trans (by rw [HX.out]; exact HCL.out k hlt)
            have HREL : Hid (∃ (k' : Nat) (ca : Option Addr) (cc n' : Nat), k' ≤ L.length ∧ k' ≤ 25 ∧ Value.int .i64 ((k : Int) + 1) = .int .i64 k' ∧ Value.slice va2 (n + 1 + 1) vc2 = .slice ca n' cc ∧ Value.int .i32 (binI op (wtK L S k) x) = .int .i32 (wtK L S k') ∧ Hid (n' = (cdK L S k').length) ∧ Hid (Cd W w2 (.slice ca n' cc) (cdK L S k'))) := Lib.hid ⟨k + 1, va2, vc2, n + 1 + 1, by omega, by omega, by go_num, rfl, by rw [wtK_succ L S HK1.out, HGO.out, ← HX.out], Lib.hid (by rw [HN.out, cdK_succ L S HK1.out]; simp), by rw [cdK_succ L S HK1.out, HGO.out, ← HX.out]; exact Lib.hid hc2⟩
            clear ho hg hf hc2
            go_wp2_with fail
            refine (HDO.out w2).mono ?_
            rintro e _ ⟨rfl, rfl⟩
            go_wp2_with fail
            go_roundw
            case rel => exact HREL.out
            case measure => simp [intOf]; omega
          · have hs1 : ¬ (k : Int) < (S.length : Int) := by omega
            have hop : opAt S k = 6 := by unfold opAt; rw [if_neg hs]
            generalize hgo : opAt S k = op at *
            subst hop
            have HGO := Lib.hid hgo
            clear hgo
            go_wp2_with (at_builtin; go_loud (refine wpList_append_mine _ rfl _ _ 45 rfl 0 30 i0 (.agg #[.int .i64 0, .int .i64 0, .int .i64 0]) 3 24 Tryz.underlying45 hi hz0 hz1 hz2 rfl (by decide) (.slice va (n + 1) vc) (n + 1) (insCells (cdK L S k ++ [⟨1, x, 0⟩])) rfl (HROW1.out.alloc _) 1 (insCells ([⟨6, 0, 0⟩])) ((show Src _ 3 (.slice _ 1 1) 1 _ from srcI w1 [⟨6, 0, 0⟩] #[.int .i64 6, .int .i64 0, .int .i64 0] (by rfl))) (by have := HNL.out; unfold maxLen; omega) (by have := HNL.out; omega) (Nat.zero_le _) ?_))
            intro v2 w2 ho hg hf
            have hc2 := Cd.app (D := [⟨6, 0, 0⟩]) HC1.out (Upd.alloc _ w1 _) (by rw [List.length_append, ← HN.out]; exact ho) hg hf
            obtain ⟨va2, vc2, rfl⟩ := ownsRow_slice ho
            have HUR2 := Lib.hid (HUW.out.trans hc2.2.2 (fun _ h _ => h))
            have c1c : w2.cell? ⟨g, off + k, none⟩ = some (.int .i32 x) := (HUR2.out.cell hgl (fun h => h)).trans (by rw [HX.out]; exact HCL.out k hlt)
            have HREL : Hid (∃ (k' : Nat) (ca : Option Addr) (cc n' : Nat), k' ≤ L.length ∧ k' ≤ 25 ∧ Value.int .i64 ((k : Int) + 1) = .int .i64 k' ∧ Value.slice va2 (n + 1 + 1) vc2 = .slice ca n' cc ∧ Value.int .i32 (binI 6 (wtK L S k) x) = .int .i32 (wtK L S k') ∧ Hid (n' = (cdK L S k').length) ∧ Hid (Cd W w2 (.slice ca n' cc) (cdK L S k'))) := Lib.hid ⟨k + 1, va2, vc2, n + 1 + 1, by omega, by omega, by go_num, rfl, by rw [wtK_succ L S HK1.out, HGO.out, ← HX.out], Lib.hid (by rw [HN.out, cdK_succ L S HK1.out]; simp), by rw [cdK_succ L S HK1.out, HGO.out, ← HX.out]; exact Lib.hid hc2⟩
            clear ho hg hf hc2
            go_wp2_with fail
            refine (HDO.out w2).mono ?_
            rintro e _ ⟨rfl, rfl⟩
            go_wp2_with fail
            go_roundw
            case rel => exact HREL.out
            case measure => simp [intOf]; omega
      · have h1 : (k : Int) < (L.length : Int) := by omega
        have h2 : ¬ (k : Int) < 25 := by omega
        have HK1 := Lib.hid (show 1 ≤ k by omega)
        have HVX := Lib.hid (show i32r (L.getD 0 0) from HLR.out _ (by simp [List.getD, show 0 < L.length by omega]))
        have HPLX := Lib.hid (show (prK L S k).length ≤ 24 by rw [prK_len]; omega)
        have HPOX := Lib.hid (prK_ok L S HLR.out hk)
        have HWTX := Lib.hid (show wtK L S k = sumV (L.getD 0 0) (prK L S k) by unfold wtK; rw [if_neg (by have := HK1.out; omega)])
        have tl : ((L.length : Int) == 0) = false := by simp; have := HK1.out; intro h; subst h; simp at hk; omega
        have hn50 : n ≤ 50 := HNL.out
        go_wp2_with (at_builtin; go_loud (refine wpList_append_mine _ rfl _ _ 45 rfl 0 30 i0 (.agg #[.int .i64 0, .int .i64 0, .int .i64 0]) 3 24 Tryz.underlying45 hi hz0 hz1 hz2 rfl (by decide) (.slice ca n cc) (n) (insCells (cdK L S k)) rfl (HROW.out.alloc _) 2 (insCells ([⟨34, 0, 0⟩, ⟨39, 0, 0⟩])) ((show Src _ 3 (.slice _ 2 2) 2 _ from srcI wr [⟨34, 0, 0⟩, ⟨39, 0, 0⟩] #[.int .i64 34, .int .i64 0, .int .i64 0, .int .i64 39, .int .i64 0, .int .i64 0] (by rfl))) (by have := HNL.out; unfold maxLen; omega) (by have := HNL.out; omega) (Nat.zero_le _) ?_))
        intro v1 w1 ho hg hf
        have hc1 := Cd.app (D := [⟨34, 0, 0⟩, ⟨39, 0, 0⟩]) HC.out (Upd.alloc _ _ _) (by rw [← HN.out]; exact ho) hg hf
        obtain ⟨va, vc, rfl⟩ := ownsRow_slice ho
        rw [show cdK L S k ++ [⟨34, 0, 0⟩, ⟨39, 0, 0⟩] = sumC (prK L S k) (L.getD 0 0) from cdK_end L S HK1.out] at hc1
        obtain ⟨X', hrun, hst, hfu⟩ := run_sum (L.getD 0 0) HVX.out (prK L S k) HPLX.out HPOX.out
        have hlen : n + 2 = (sumC (prK L S k) (L.getD 0 0)).length := by
          have h := congrArg List.length (show cdK L S k ++ [⟨34, 0, 0⟩, ⟨39, 0, 0⟩] = sumC (prK L S k) (L.getD 0 0) from cdK_end L S HK1.out)
          rw [← h, List.length_append, ← HN.out]
          rfl
        have HIN := Lib.hid (hc1.inss (sumC_wi (prK L S k) (L.getD 0 0) HVX.out HPOX.out))
        have HUR := Lib.hid (HUW.out.trans hc1.2.2 (fun _ h _ => h))
        have HRUN := Lib.hid (run13 200 (by omega) HIN.out (by rw [← hlen]; omega) hrun)
        have HST := Lib.hid hst
        rw [← hlen] at hfu
        have HFU := Lib.hid hfu
        have hwl : IntKind.i64.wrap (200 - ((n + 2 : Nat) : Int)) = 200 - ((n + 2 : Nat) : Int) := IntWalk.i64_in _ (by omega)
        clear ho hg hf hc1 hrun hst hfu hlen
        go_wp2_with fail
        refine HRUN.out.mono ?_
        rintro e w2 ⟨mb, rb, tb, rfl, hra, hu⟩
        have HU2 := Lib.hid (HUR.out.trans hu (fun _ h _ => h))
        have HRA := Lib.hid hra
        clear hra hu HRUN
        go_wp2_with fail
        refine (known13 w2).mono ?_
        rintro e w3 ⟨rfl, hu⟩
        have HU3 := Lib.hid (HU2.out.trans hu (fun _ h _ => h))
        have HRA3 := Lib.hid (HRA.out.quiet hu)
        have HF := Lib.hid (HRA3.out.field rfl)
        have HS1 := Lib.hid HRA3.out.status
        rw [HST.out] at HS1
        have HS2 := Lib.hid HRA3.out.fuel
        rw [HFU.out] at HS2
        clear hu
        go_wp2_with fail
        refine HF.out.mono ?_
        rintro e w' ⟨rfl, rfl⟩
        rw [← HWTX.out]
        go_wp2_with fail
        refine HS1.out.mono ?_
        rintro e w' ⟨rfl, rfl⟩
        go_wp2_with fail
        refine HS2.out.mono ?_
        rintro e w' ⟨rfl, rfl⟩
        go_wp2_with fail
        go_ret
        exact ⟨rfl, HU3.out⟩
    · have h1 : ¬ (k : Int) < (L.length : Int) := by omega
      by_cases hk0 : k = 0
      · have hL0 : L = [] := List.length_eq_zero_iff.1 (by omega)
        have tl : ((L.length : Int) == 0) = true := by rw [hL0]; rfl
        subst hk0
        have hn50 : n ≤ 50 := HNL.out
        go_wp2_with (at_builtin; go_loud (refine wpList_append_mine _ rfl _ _ 45 rfl 0 30 i0 (.agg #[.int .i64 0, .int .i64 0, .int .i64 0]) 3 24 Tryz.underlying45 hi hz0 hz1 hz2 rfl (by decide) (.slice ca n cc) (n) (insCells (cdK L S 0)) rfl (HROW.out.alloc _) 1 (insCells ([⟨1, 0, 0⟩])) ((show Src _ 3 (.slice _ 1 1) 1 _ from srcI wr [⟨1, 0, 0⟩] #[.int .i64 1, .int .i64 0, .int .i64 0] (by rfl))) (by have := HNL.out; unfold maxLen; omega) (by have := HNL.out; omega) (Nat.zero_le _) ?_))
        intro v0 w0 ho hg hf
        have hc0 := Cd.app (D := [⟨1, 0, 0⟩]) HC.out (Upd.alloc _ _ _) (by rw [← HN.out]; exact ho) hg hf
        obtain ⟨va0, vc0, rfl⟩ := ownsRow_slice ho
        have HC0' := Lib.hid hc0
        have HROW0 : Hid (w0.ownsRow 0 30 3 (.slice va0 (n + 1) vc0) (n + 1) (insCells (cdK L S 0 ++ [⟨1, 0, 0⟩]))) := Lib.hid (by have h := hc0.1; rw [List.length_append, ← HN.out] at h; exact h)
        have HVX := Lib.hid (show i32r 0 by simp [i32r])
        have HPLX := Lib.hid (show ([] : List (Int × Int)).length ≤ 24 by simp)
        have HPOX := Lib.hid (show ∀ p ∈ ([] : List (Int × Int)), (6 ≤ p.1 ∧ p.1 ≤ 14 ∨ 19 ≤ p.1 ∧ p.1 ≤ 21) ∧ i32r p.2 by simp)
        have HWTX := Lib.hid (show wtK L S 0 = sumV 0 [] from rfl)
        clear ho hg hf hc0
        go_wp2_with (at_builtin; go_loud (refine wpList_append_mine _ rfl _ _ 45 rfl 0 30 i0 (.agg #[.int .i64 0, .int .i64 0, .int .i64 0]) 3 24 Tryz.underlying45 hi hz0 hz1 hz2 rfl (by decide) (.slice va0 (n + 1) vc0) (n + 1) (insCells (cdK L S 0 ++ [⟨1, 0, 0⟩])) rfl (HROW0.out.alloc _) 2 (insCells ([⟨34, 0, 0⟩, ⟨39, 0, 0⟩])) ((show Src _ 3 (.slice _ 2 2) 2 _ from srcI w0 [⟨34, 0, 0⟩, ⟨39, 0, 0⟩] #[.int .i64 34, .int .i64 0, .int .i64 0, .int .i64 39, .int .i64 0, .int .i64 0] (by rfl))) (by have := HNL.out; unfold maxLen; omega) (by have := HNL.out; omega) (Nat.zero_le _) ?_))
        intro v1 w1 ho hg hf
        have hc1 := Cd.app (D := [⟨34, 0, 0⟩, ⟨39, 0, 0⟩]) HC0'.out (Upd.alloc _ _ _) (by rw [List.length_append, ← HN.out]; exact ho) hg hf
        obtain ⟨va, vc, rfl⟩ := ownsRow_slice ho
        rw [show (cdK L S 0 ++ [⟨1, 0, 0⟩]) ++ [⟨34, 0, 0⟩, ⟨39, 0, 0⟩] = sumC ([]) (0) from rfl] at hc1
        obtain ⟨X', hrun, hst, hfu⟩ := run_sum (0) HVX.out ([]) HPLX.out HPOX.out
        have hlen : (n + 1) + 2 = (sumC ([]) (0)).length := by
          have h := congrArg List.length (show (cdK L S 0 ++ [⟨1, 0, 0⟩]) ++ [⟨34, 0, 0⟩, ⟨39, 0, 0⟩] = sumC ([]) (0) from rfl)
          rw [← h, List.length_append, List.length_append, ← HN.out]
          rfl
        have HIN := Lib.hid (hc1.inss (sumC_wi ([]) (0) HVX.out HPOX.out))
        have HUR := Lib.hid (HUW.out.trans hc1.2.2 (fun _ h _ => h))
        have HRUN := Lib.hid (run13 200 (by omega) HIN.out (by rw [← hlen]; omega) hrun)
        have HST := Lib.hid hst
        rw [← hlen] at hfu
        have HFU := Lib.hid hfu
        have hwl : IntKind.i64.wrap (200 - (((n + 1) + 2 : Nat) : Int)) = 200 - (((n + 1) + 2 : Nat) : Int) := IntWalk.i64_in _ (by omega)
        clear ho hg hf hc1 hrun hst hfu hlen
        go_wp2_with fail
        refine HRUN.out.mono ?_
        rintro e w2 ⟨mb, rb, tb, rfl, hra, hu⟩
        have HU2 := Lib.hid (HUR.out.trans hu (fun _ h _ => h))
        have HRA := Lib.hid hra
        clear hra hu HRUN
        go_wp2_with fail
        refine (known13 w2).mono ?_
        rintro e w3 ⟨rfl, hu⟩
        have HU3 := Lib.hid (HU2.out.trans hu (fun _ h _ => h))
        have HRA3 := Lib.hid (HRA.out.quiet hu)
        have HF := Lib.hid (HRA3.out.field rfl)
        have HS1 := Lib.hid HRA3.out.status
        rw [HST.out] at HS1
        have HS2 := Lib.hid HRA3.out.fuel
        rw [HFU.out] at HS2
        clear hu
        go_wp2_with fail
        refine HF.out.mono ?_
        rintro e w' ⟨rfl, rfl⟩
        rw [← HWTX.out]
        go_wp2_with fail
        refine HS1.out.mono ?_
        rintro e w' ⟨rfl, rfl⟩
        go_wp2_with fail
        refine HS2.out.mono ?_
        rintro e w' ⟨rfl, rfl⟩
        go_wp2_with fail
        go_ret
        exact ⟨rfl, HU3.out⟩
      · have HK1 := Lib.hid (show 1 ≤ k by omega)
        have HVX := Lib.hid (show i32r (L.getD 0 0) from HLR.out _ (by simp [List.getD, show 0 < L.length by omega]))
        have HPLX := Lib.hid (show (prK L S k).length ≤ 24 by rw [prK_len]; omega)
        have HPOX := Lib.hid (prK_ok L S HLR.out hk)
        have HWTX := Lib.hid (show wtK L S k = sumV (L.getD 0 0) (prK L S k) by unfold wtK; rw [if_neg (by have := HK1.out; omega)])
        have tl : ((L.length : Int) == 0) = false := by simp; have := HK1.out; intro h; subst h; simp at hk; omega
        have hn50 : n ≤ 50 := HNL.out
        go_wp2_with (at_builtin; go_loud (refine wpList_append_mine _ rfl _ _ 45 rfl 0 30 i0 (.agg #[.int .i64 0, .int .i64 0, .int .i64 0]) 3 24 Tryz.underlying45 hi hz0 hz1 hz2 rfl (by decide) (.slice ca n cc) (n) (insCells (cdK L S k)) rfl (HROW.out.alloc _) 2 (insCells ([⟨34, 0, 0⟩, ⟨39, 0, 0⟩])) ((show Src _ 3 (.slice _ 2 2) 2 _ from srcI wr [⟨34, 0, 0⟩, ⟨39, 0, 0⟩] #[.int .i64 34, .int .i64 0, .int .i64 0, .int .i64 39, .int .i64 0, .int .i64 0] (by rfl))) (by have := HNL.out; unfold maxLen; omega) (by have := HNL.out; omega) (Nat.zero_le _) ?_))
        intro v1 w1 ho hg hf
        have hc1 := Cd.app (D := [⟨34, 0, 0⟩, ⟨39, 0, 0⟩]) HC.out (Upd.alloc _ _ _) (by rw [← HN.out]; exact ho) hg hf
        obtain ⟨va, vc, rfl⟩ := ownsRow_slice ho
        rw [show cdK L S k ++ [⟨34, 0, 0⟩, ⟨39, 0, 0⟩] = sumC (prK L S k) (L.getD 0 0) from cdK_end L S HK1.out] at hc1
        obtain ⟨X', hrun, hst, hfu⟩ := run_sum (L.getD 0 0) HVX.out (prK L S k) HPLX.out HPOX.out
        have hlen : n + 2 = (sumC (prK L S k) (L.getD 0 0)).length := by
          have h := congrArg List.length (show cdK L S k ++ [⟨34, 0, 0⟩, ⟨39, 0, 0⟩] = sumC (prK L S k) (L.getD 0 0) from cdK_end L S HK1.out)
          rw [← h, List.length_append, ← HN.out]
          rfl
        have HIN := Lib.hid (hc1.inss (sumC_wi (prK L S k) (L.getD 0 0) HVX.out HPOX.out))
        have HUR := Lib.hid (HUW.out.trans hc1.2.2 (fun _ h _ => h))
        have HRUN := Lib.hid (run13 200 (by omega) HIN.out (by rw [← hlen]; omega) hrun)
        have HST := Lib.hid hst
        rw [← hlen] at hfu
        have HFU := Lib.hid hfu
        have hwl : IntKind.i64.wrap (200 - ((n + 2 : Nat) : Int)) = 200 - ((n + 2 : Nat) : Int) := IntWalk.i64_in _ (by omega)
        clear ho hg hf hc1 hrun hst hfu hlen
        go_wp2_with fail
        refine HRUN.out.mono ?_
        rintro e w2 ⟨mb, rb, tb, rfl, hra, hu⟩
        have HU2 := Lib.hid (HUR.out.trans hu (fun _ h _ => h))
        have HRA := Lib.hid hra
        clear hra hu HRUN
        go_wp2_with fail
        refine (known13 w2).mono ?_
        rintro e w3 ⟨rfl, hu⟩
        have HU3 := Lib.hid (HU2.out.trans hu (fun _ h _ => h))
        have HRA3 := Lib.hid (HRA.out.quiet hu)
        have HF := Lib.hid (HRA3.out.field rfl)
        have HS1 := Lib.hid HRA3.out.status
        rw [HST.out] at HS1
        have HS2 := Lib.hid HRA3.out.fuel
        rw [HFU.out] at HS2
        clear hu
        go_wp2_with fail
        refine HF.out.mono ?_
        rintro e w' ⟨rfl, rfl⟩
        rw [← HWTX.out]
        go_wp2_with fail
        refine HS1.out.mono ?_
        rintro e w' ⟨rfl, rfl⟩
        go_wp2_with fail
        refine HS2.out.mono ?_
        rintro e w' ⟨rfl, rfl⟩
        go_wp2_with fail
        go_ret
        exact ⟨rfl, HU3.out⟩
theorem interpSums_below (w : World) {va vb : Value} {L S : List Int} (hL : I32 w va L) (hS : Ints w vb S) : Calls Tryz.prog 4 #[va, vb] w fun e w' => e = .returned (.bool true) ∧ Below w.heap.size w w' := (interpSums_walk w hL hS).mono fun _ _ h => ⟨h.1, h.2.below (Nat.le_refl _) (fun _ h => h.elim)⟩
end Go.Proofs.YtdmadfahgkikkaaGreat

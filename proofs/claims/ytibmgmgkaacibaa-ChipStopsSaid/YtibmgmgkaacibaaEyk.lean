/- Stage 16: a memory with instructions. -/
import Derived.Test.YtibmgmgkaacibaaEwk
import Derived.Test.YtibmgmgkaacibaaZO
namespace Go.Proofs.Ytibmgmgkaacibaa
open Go.RowKit Go.ChangeShapes Go.WideShapes Go.Deep Go.IntWalk
set_option linter.unusedVariables false
set_option linter.unusedSimpArgs false
/-- a slice that reads as these instructions -/
def IsL (w : World) (q c : Nat) (L : List I6) : Prop := L.length ≤ c ∧ c ≤ maxLen ∧ ∀ j, j < L.length → ∃ i, L.getD j I6.zero = i ∧ w.cell? ⟨q, j * 6, none⟩ = some (.int .i64 i.op) ∧ w.cell? ⟨q, j * 6 + 1, none⟩ = some (.int .i64 i.d) ∧ w.cell? ⟨q, j * 6 + 2, none⟩ = some (.int .i64 i.n) ∧ w.cell? ⟨q, j * 6 + 3, none⟩ = some (.int .i64 i.m) ∧ w.cell? ⟨q, j * 6 + 4, none⟩ = some (.int .i64 i.imm) ∧ w.cell? ⟨q, j * 6 + 5, none⟩ = some (.int .i64 i.cond)
theorem IsL.upd {S : Nat → Prop} {w w' : World} {q c : Nat} {L : List I6} (h : IsL w q c L) (hu : Upd S w w') (hS : ¬ S q) : IsL w' q c L := by
  refine ⟨h.1, h.2.1, fun j hj => ?_⟩
  obtain ⟨i, h0, h1, h2, h3, h4, h5, h6⟩ := h.2.2 j hj
  have hq := World.block_lt_of_cell? w _ h1
  have k := fun o => hu.cell (p := ⟨q, o, none⟩) hq hS
  exact ⟨i, h0, (k _).trans h1, (k _).trans h2, (k _).trans h3, (k _).trans h4, (k _).trans h5, (k _).trans h6⟩
def encL (L : List I6) : List Nat := L.flatMap encP
theorem encP_len (i : I6) (h : rightP i = true) : (encP i).length ≤ 2 := by
  by_cases h43 : i.op = 43
  · have := (far_right h h43).1
    rw [this]; unfold encP; simp
  · rw [enc_ref h h43]; simp
theorem encL_len : ∀ (L : List I6), (∀ i ∈ L, rightP i = true) → (encL L).length ≤ 2 * L.length
  | [], _ => by simp [encL]
  | i :: L, h => by
    have h1 := encP_len i (h i (by simp))
    have h2 := encL_len L (fun j hj => h j (by simp [hj]))
    simp only [encL, List.flatMap_cons, List.length_append, List.length_cons] at *
    omega
theorem encL_take (L : List I6) (k : Nat) (hk : k < L.length) : encL (L.take (k + 1)) = encL (L.take k) ++ encP (L.getD k I6.zero) := by
  unfold encL
  rw [List.take_succ_eq_append_getElem hk, List.flatMap_append]
  simp [List.getD, List.getElem?_eq_getElem hk]
set_option maxRecDepth 20000 in
set_option maxHeartbeats 1000000 in
theorem lLoad (w : World) (q c : Nat) (L : List I6) (hL : IsL w q c L) (hq : q < w.heap.size) (hr : ∀ i ∈ L, rightP i = true) (hn : L.length ≤ 100) (a : Nat) (ha : a % 2 = 0) (ha2 : a ≤ 1000) :
    Calls Try.prog 26 #[.int .i64 (a : Int), .slice (some ⟨q, 0, none⟩) L.length c] w fun e w' => e = .returned (.pointer (some ⟨w.heap.size + 1, 0, none⟩)) ∧ Mm 72 w' (w.heap.size + 1) w.heap.size (loadM (fun _ => 0) a (encL L)) ∧ Upd (fun _ => False) w w' := by
  obtain ⟨i0, hi, hz0, hz1, hz2⟩ := info_parts info_u16
  have HL0 := Lib.hid hL
  have HR := Lib.hid hr
  have HN := Lib.hid hn
  have hlc := hL.1
  have hlm := hL.2.1
  have HEL := Lib.hid (encL_len L hr)
  have HMN := Lib.hid (mNew w)
  obtain ⟨n, hnn⟩ : ∃ n, L.length = n := ⟨_, rfl⟩
  obtain ⟨b0, hb0⟩ : ∃ b0, b0 = w.heap.size + 1 := ⟨_, rfl⟩
  obtain ⟨g0, hg0⟩ : ∃ g0, g0 = w.heap.size := ⟨_, rfl⟩
  rw [← hb0, ← hg0] at HMN ⊢
  rw [hnn] at hlc hn HEL ⊢
  have HNN := Lib.hid hnn
  have HG0 := Lib.hid hg0
  have HB0 := Lib.hid hb0
  have HQ := Lib.hid hq
  clear hL hr hnn hg0 hb0 hq
  go_enter Try.func26, Try.ntmps26
  go_wp2_with fail
  refine HMN.out.mono ?_
  rintro e w1 ⟨rfl, hm, hu⟩
  have HM1 := Lib.hid hm
  have HU1 := Lib.hid hu
  have HL1 := Lib.hid (HL0.out.upd hu (fun h => h))
  obtain ⟨B, hB⟩ : ∃ B, B = w1.heap.size := ⟨_, rfl⟩
  have HB := Lib.hid (Nat.le_of_eq hB)
  have HB2 := Lib.hid (Nat.le_of_eq hB.symm)
  have HGB := Lib.hid (show g0 < B by have := hm.lt.2; omega)
  have HBB := Lib.hid (show b0 < B by have := hm.lt.1; omega)
  have HUB : Hid (Upd (fun _ => False) w1 w1) := Lib.hid (Upd.refl _ _)
  clear hm hu hB HMN HL0
  go_wp2_with fail
  go_loopw [7, 6] (fun t v wr => ∃ k : Nat, k ≤ n ∧ t = .int .i64 k ∧ Hid (wr.ownsRow B 77 1 v (encL (L.take k)).length (hvl (encL (L.take k)))) ∧ Hid (Upd (fun _ => False) w1 wr)) (fun t _ _ => n - (intOf t).toNat)
  case atStart => exact ⟨0, by omega, rfl, Lib.hid (World.ownsRow_nil _ _ _ _), HUB⟩
  case round =>
    obtain ⟨k, hk, rfl, HO, HU⟩ := hrel
    obtain ⟨va, vc, rfl⟩ := ownsRow_slice HO.out
    by_cases hlt : k < n
    · have HLr := Lib.hid (HL1.out.upd HU.out (fun h => h))
      obtain ⟨i, hgi, c0, c1, c2, c3, c4, c5⟩ := HLr.out.2.2 k (by rw [HNN.out]; exact hlt)
      have HGI := Lib.hid hgi
      have HRI : Hid (rightP i = true) := Lib.hid (HR.out i (by
        have : k < L.length := by rw [HNN.out]; exact hlt
        rw [← hgi]; simp only [List.getD, List.getElem?_eq_getElem this, Option.getD_some]; exact List.getElem_mem this))
      clear hgi
      have HLN : Hid ((encL (L.take k)).length ≤ 200) := Lib.hid (by
        have := encL_len (L.take k) (fun j hj => HR.out j (List.mem_of_mem_take hj))
        have h2 : (L.take k).length ≤ 100 := by rw [List.length_take]; have := HN.out; omega
        omega)
      have HEN := Lib.hid (encP_len i HRI.out)
      have HEK : Hid (encL (L.take (k + 1)) = encL (L.take k) ++ encP i) := Lib.hid (by rw [encL_take L k (by rw [HNN.out]; exact hlt), HGI.out])
      obtain ⟨o, d, nn, m, im, co⟩ := i
      go_wp2_with fail
      refine (qEncode _ HRI.out _).mono ?_
      rintro e w2 ⟨⟨v', rfl, hv'⟩, hu⟩
      have HU2 := Lib.hid (HU.out.trans hu (fun _ h _ => h))
      have HO2 := Lib.hid (ownsRow_upd HO.out hu (fun _ _ h => h))
      have HSR := Lib.hid hv'.src
      obtain ⟨ax, cx, rfl⟩ : ∃ ax cx, v' = .slice ax (encP ⟨o, d, nn, m, im, co⟩).length cx := by
        rcases hv'.2 with ⟨⟨a', rfl⟩, h0⟩ | ⟨g', off, c', rfl, _⟩
        · exact ⟨a', 0, by rw [h0]; rfl⟩
        · exact ⟨_, c', rfl⟩
      have HSZ := Lib.hid (show B ≤ w2.heap.size by have := HU2.out.size; have := HB.out; omega)
      clear hu hv' c0 c1 c2 c3 c4 c5
      generalize hx : encP ⟨o, d, nn, m, im, co⟩ = X at *
      generalize hy : encL (L.take k) = Y at *
      generalize hxl : X.length = xl at *
      generalize hyl : Y.length = yl at *
      have HXL := Lib.hid hxl
      have HYL := Lib.hid hyl
      clear hx hy hxl hyl
      go_wp2_with (at_builtin; go_loud (refine wpList_append_mine _ rfl _ _ 24 rfl B 77 i0 (.int .u16 0) 1 2 Try.underlying24 hi hz0 hz1 hz2 rfl (by decide) (.slice va yl vc) yl (hvl Y) rfl HO2.out xl (hvl X) HSR.out (by have := HLN.out; have := HEN.out; unfold maxLen; omega) (by have := HLN.out; have := HEN.out; omega) HSZ.out ?_))
      intro v2 w3 ho hg hf
      obtain ⟨va2, vc2, rfl⟩ := ownsRow_slice ho
      have HO3 : Hid (w3.ownsRow B 77 1 (.slice va2 (yl + xl) vc2) (encL (L.take (k + 1))).length (hvl (encL (L.take (k + 1))))) := Lib.hid (by
        rw [HEK.out, List.length_append, HXL.out, HYL.out, hvl_append]; exact ho)
      have HU3 : Hid (Upd (fun _ => False) w1 w3) := Lib.hid (HU2.out.trans (Upd.grown (S := fun p => (Value.slice va yl vc).ownBlock = some p) hg (fun p hq => .inl hq)) (fun p hp hlt => by
        have := (HO2.out.lt p hp).1
        have := HB2.out
        omega))
      clear ho hg hf
      go_wp2_with fail
      go_roundw
      case rel => exact ⟨k + 1, by omega, by go_num, HO3, HU3⟩
      case measure => simp [intOf]; omega
    · have hkn : k = n := by omega
      subst hkn
      have HT : Hid (L.take k = L) := Lib.hid (List.take_of_length_le (by rw [HNN.out]; omega))
      rw [HT.out] at HO ⊢
      have HVW : Hid (VwM wr (.slice va (encL L).length vc) (encL L)) := Lib.hid (vwh_of_row HO.out (fun y hy => by
        obtain ⟨i, hi1, hi2⟩ := List.mem_flatMap.1 hy
        exact (enc_dec (HR.out i hi1) []).2.2 y hi2))
      have HMr := Lib.hid (HM1.out.upd HU.out (fun h => h) (fun h => h))
      have HAP : Hid (encL L ≠ [] → ∀ p, (Value.slice va (encL L).length vc).ownBlock = some p → ¬ p = g0) := Lib.hid (fun _ p hp e => by
        have := (HO.out.lt p hp).1
        have := HGB.out
        omega)
      have hel := HEL.out
      have HLD := Lib.hid (mLoad_yes HMr.out a va vc (encL L) HVW.out HAP.out ha (by have := HN.out; omega))
      clear hlt hk hel
      go_wp2_with fail
      refine HLD.out.mono ?_
      rintro e w4 ⟨rfl, hm, hu⟩
      have HM4 := Lib.hid hm
      have HU4 : Hid (Upd (fun _ => False) w w4) := Lib.hid ((HU1.out.trans HU.out (fun _ h _ => h)).trans hu (fun p hp hl => by have := HG0.out; omega))
      clear hm hu
      go_wp2_with fail
      go_ret
      exact ⟨rfl, HM4.out, HU4.out⟩
end Go.Proofs.Ytibmgmgkaacibaa

/- Package link, and the reference's: a contract for each call. -/
import Derived.Test.YtkjmpobbbjljjaaDoorNA
import Derived.LoopN
namespace Go.Proofs.YtkjmpobbbjljjaaDoor
open Go.RowKit Go.Lib
set_option linter.unusedVariables false
set_option linter.unusedSimpArgs false

set_option maxRecDepth 100000 in
set_option maxHeartbeats 4000000 in
theorem rSame8 (w : World) (v u : Value) (L M : List Int) (h : Ints w v L) (k : Ints w u M) :
    Calls Tryd.prog 21 #[v, u] w fun e w' => e = .returned (.bool (allB eqB L M)) ∧ Upd (fun _ => False) w w' := by
  have HL := Lib.hid h
  have HM := Lib.hid k
  obtain ⟨a, c, rfl, h1, h2⟩ := h.slice
  obtain ⟨a', c', rfl, h1', h2'⟩ := k.slice
  clear h k
  unfold maxLen at h2 h2'
  by_cases hl : L.length = M.length
  · have hb : ((L.length : Int) == (M.length : Int)) = true := by simp [hl]
    have hb' : ((L.length : Int) != (M.length : Int)) = false := by simp [bne, hb]
    have H0 := Lib.hid (Upd.refl (fun _ => False) w)
    have HT0 : Hid (∀ j, j < 0 → eqB (L.getD j 0) (M.getD j 0) = true) := Lib.hid (fun j hj => absurd hj (Nat.not_lt_zero j))
    have HEQ := Lib.hid hl
    have hle : L.length ≤ M.length := by omega
    have hge : M.length ≤ L.length := by omega
    clear hl
    go_enter Tryd.func21, Tryd.ntmps21
    go_wp2_with fail
    go_loopw [5] (fun i wr => ∃ k : Nat, k ≤ L.length ∧ i = .int .i64 k ∧ Hid (Upd (fun _ => False) w wr) ∧ Hid (∀ j, j < k → eqB (L.getD j 0) (M.getD j 0) = true)) (fun i _ => L.length - (intOf i).toNat)
    case atStart => exact ⟨0, Nat.zero_le _, rfl, H0, HT0⟩
    case round =>
      obtain ⟨k, hk, rfl, HU, HT⟩ := hrel
      by_cases hlt : k < L.length
      · have hltm : k < M.length := by omega
        obtain ⟨g1, o1, rfl, hc1, -⟩ := (HL.out.later (lbBelow HU.out)).at hlt
        obtain ⟨g2, o2, rfl, hc2, -⟩ := (HM.out.later (lbBelow HU.out)).at hltm
        obtain ⟨n, hn⟩ : ∃ n, n = L.getD k 0 := ⟨_, rfl⟩
        obtain ⟨m, hm⟩ : ∃ m, m = M.getD k 0 := ⟨_, rfl⟩
        rw [← hn] at hc1
        rw [← hm] at hc2
        have HN := Lib.hid hn
        have HMM := Lib.hid hm
        have hi1 : (0 : Int) ≤ (k : Int) := Int.natCast_nonneg _
        have hi2 : (k : Int) < (L.length : Int) := by omega
        have hi3 : (k : Int) < (M.length : Int) := by omega
        clear hn hm
        cases hq : (n == m) with
        | true =>
          have HT2 := Lib.hid (upto_succ (f := fun j => eqB (L.getD j 0) (M.getD j 0)) HT.out (by show eqB (L.getD k 0) (M.getD k 0) = true; rw [← HN.out, ← HMM.out]; exact hq))
          first | have hq' := bneT hq | have hq' := bneF hq
          go_wp2_with fail
          go_quiet (fail)
          go_wp2_with fail
          go_roundw
          case rel => exact ⟨k + 1, by omega, by go_num, Lib.hid (HU.out.trans (lbDrewN (fun _ => False) _ _) (fun _ h _ => h)), HT2⟩
          case measure => simp [intOf]; omega
        | false =>
          have HF := Lib.hid (allB_no (f := eqB) (A := L) (B := M) hlt (by rw [← HN.out, ← HMM.out]; exact hq))
          first | have hq' := bneT hq | have hq' := bneF hq
          go_wp2_with fail
          go_quiet (fail)
          go_wp2_with fail
          go_ret
          exact ⟨lbRet HF.out.symm, HU.out.trans (lbDrewN (fun _ => False) _ _) (fun _ h _ => h)⟩
      · have HE := Lib.hid (allB_yes (f := eqB) HEQ.out (by omega) HT.out)
        go_wp2_with fail
        go_ret
        exact ⟨lbRet HE.out.symm, HU.out⟩
  · have hb : ((L.length : Int) == (M.length : Int)) = false := beq_eq_false_iff_ne.2 (by omega)
    have hb' : ((L.length : Int) != (M.length : Int)) = true := by simp [bne, hb]
    have HF := Lib.hid (allB_len (f := eqB) hl)
    clear hl
    go_enter Tryd.func21, Tryd.ntmps21
    go_wp2_with fail
    go_ret
    exact ⟨lbRet HF.out.symm, Upd.refl _ _⟩
/-- Find$1 -/
theorem nIs (u : World) (b : Nat) (s : ByteArray) (hc : u.cell? ⟨b, 0, none⟩ = some (.string s)) (p : PIm) (hp : IsP u p) :
    Calls Tryd.prog 20 #[pv p, .pointer (some ⟨b, 0, none⟩)] u fun e w' => e = .returned (.bool (isNm s p)) ∧ Upd (fun _ => False) u w' := by
  obtain ⟨I, f, i, m, x⟩ := p
  unfold IsP at hp
  dsimp only at hp
  obtain ⟨h1, h2, h3, h4, -⟩ := hp
  obtain ⟨fa, fc, rfl, -⟩ := h1.slice
  obtain ⟨ia, ic, rfl, -⟩ := h2.slice
  obtain ⟨ma, mc, rfl, -⟩ := h3.slice
  obtain ⟨xa, xc, rfl, -⟩ := h4.slice
  clear h1 h2 h3 h4
  have hb := World.block_lt_of_cell? _ _ hc
  obtain ⟨q, hq⟩ : ∃ q, q = (I.name.toList == s.toList) := ⟨_, rfl⟩
  have HQ := Lib.hid (show isNm s (I, .slice fa I.fields.length fc, .slice ia I.imports.length ic, .slice ma I.methods.length mc, .slice xa I.exports.length xc) = q from hq.symm)
  have hu := Upd.alloc (fun _ => False) u (.cells #[.string I.name, .slice fa I.fields.length fc, .slice ia I.imports.length ic, .slice ma I.methods.length mc, .slice xa I.exports.length xc] 26)
  have hc2 := (hu.cell (p := ⟨b, 0, none⟩) hb id).trans hc
  have HU := Lib.hid hu
  clear hu
  show Calls _ _ #[.agg #[.string I.name, .slice fa I.fields.length fc, .slice ia I.imports.length ic, .slice ma I.methods.length mc, .slice xa I.exports.length xc], _] _ _
  go_enter Tryd.func20, Tryd.ntmps20
  go_wp2_with fail
  go_ret
  exact ⟨lbRet (by rw [HQ.out, hq]), HU.out⟩
set_option maxRecDepth 100000 in
set_option maxHeartbeats 4000000 in
theorem nIdx (w : World) (v : Value) (L : List PIm) (h : Imgs w v L) (b : Nat) (s : ByteArray) (hc : w.cell? ⟨b, 0, none⟩ = some (.string s)) :
    Calls Tryd.prog 19 #[v, .func (.func 20) #[] #[.pointer (some ⟨b, 0, none⟩)]] w fun e w' => e = .returned (.int .i64 (findP s L)) ∧ Upd (fun _ => False) w w' := by
  have HL := Lib.hid h
  have HC := Lib.hid hc
  obtain ⟨a, c, rfl, h1, h2⟩ := h.slice
  clear h hc
  unfold maxLen at h2
  have H0 := Lib.hid (Upd.refl (fun _ => False) w)
  have HT0 : Hid (∀ j, j < 0 → isNm s (L.getD j pim0) = false) := Lib.hid (fun j hj => absurd hj (Nat.not_lt_zero j))
  go_enter Tryd.func19, Tryd.ntmps19
  go_wp2_with fail
  go_loopw [8, 5] (fun i _ wr => ∃ k : Nat, k ≤ L.length ∧ i = .int .i64 k ∧ Hid (Upd (fun _ => False) w wr) ∧ Hid (∀ j, j < k → isNm s (L.getD j pim0) = false)) (fun i _ _ => L.length - (intOf i).toNat)
  case atStart => exact ⟨0, Nat.zero_le _, rfl, H0, HT0⟩
  case round =>
    obtain ⟨k, hk, rfl, HU, HT⟩ := hrel
    by_cases hlt : k < L.length
    · obtain ⟨g, off, rfl, c0, c1, c2, c3, c4, h5⟩ := (HL.out.later (upd_below HU.out)).at hlt
      have hcb : wr.cell? ⟨b, 0, none⟩ = some (.string s) := (HU.out.cell (p := ⟨b, 0, none⟩) (World.block_lt_of_cell? _ _ HC.out) id).trans HC.out
      have HF := Lib.hid (nIs wr b s hcb _ h5)
      clear hcb
      obtain ⟨p, hp⟩ : ∃ p, p = L.getD k pim0 := ⟨_, rfl⟩
      rw [← hp] at c0 c1 c2 c3 c4 h5 HF
      have HPP := Lib.hid hp
      clear hp
      obtain ⟨I, f, i, m, x⟩ := p
      unfold IsP at h5
      dsimp only at h5 c0 c1 c2 c3 c4
      obtain ⟨g1, g2, g3, g4, -⟩ := h5
      obtain ⟨fa, fc, rfl, -⟩ := g1.slice
      obtain ⟨ia, ic, rfl, -⟩ := g2.slice
      obtain ⟨ma, mc, rfl, -⟩ := g3.slice
      obtain ⟨xa, xc, rfl, -⟩ := g4.slice
      clear g1 g2 g3 g4
      have hi1 : (0 : Int) ≤ (k : Int) := Int.natCast_nonneg _
      have hi2 : (k : Int) < (L.length : Int) := by omega
      unfold pv at HF
      dsimp only at HF
      obtain ⟨q, hq⟩ : ∃ q, q = isNm s (I, .slice fa I.fields.length fc, .slice ia I.imports.length ic, .slice ma I.methods.length mc, .slice xa I.exports.length xc) := ⟨_, rfl⟩
      rw [← hq] at HF
      rw [HPP.out] at hq
      have HQ := Lib.hid hq
      clear hq
      cases q with
      | true =>
        have HE := Lib.hid (findI_some (b := isNm s) (d := pim0) (L := L) hlt HQ.out.symm HT.out)
        go_wp2_with fail
        refine HF.out.mono ?_
        rintro e w2 ⟨rfl, hu⟩
        have HU2 := Lib.hid (HU.out.trans hu (fun _ h _ => h))
        clear hu c0 c1 c2 c3 c4
        go_wp2_with fail
        go_ret
        exact ⟨by unfold findP; rw [HE.out]; rfl, HU2.out⟩
      | false =>
        have HT2 : Hid (∀ j, j < k + 1 → isNm s (L.getD j pim0) = false) := Lib.hid (fun j hj => by
          rcases Nat.lt_or_ge j k with h1 | h1
          · exact HT.out j h1
          · have : j = k := by omega
            rw [this]; exact HQ.out.symm)
        go_wp2_with fail
        refine HF.out.mono ?_
        rintro e w2 ⟨rfl, hu⟩
        have HU2 := Lib.hid (HU.out.trans hu (fun _ h _ => h))
        clear hu c0 c1 c2 c3 c4
        go_wp2_with fail
        go_roundw
        case rel => exact ⟨k + 1, by omega, by go_num, HU2, HT2⟩
        case measure => simp [intOf]; omega
    · have HF := Lib.hid (findI_none (b := isNm s) (d := pim0) (L := L) (fun j hj => HT.out j (by omega)))
      go_wp2_with fail
      go_ret
      exact ⟨by unfold findP; rw [HF.out]; rfl, HU.out⟩
theorem nFind (w : World) (v : Value) (L : List PIm) (h : Imgs w v L) (s : ByteArray) : Calls Tryd.prog 8 #[v, .string s] w fun e w' => e = .returned (.int .i64 (findP s L)) ∧ Upd (fun _ => False) w w' := by
  have hu := Upd.alloc (fun _ => False) w (.cells #[.string s] 9)
  have HL := Lib.hid (h.later (upd_below hu))
  have HU := Lib.hid hu
  obtain ⟨a, c, rfl, -, -⟩ := h.slice
  clear h hu
  go_enter Tryd.func8, Tryd.ntmps8
  go_wp2_with fail
  refine (nIdx _ _ L HL.out w.heap.size s (by rw [World.cell?_alloc_new]; rfl)).mono ?_
  rintro e w1 ⟨rfl, hu⟩
  have HU1 := Lib.hid (HU.out.trans hu (fun _ h _ => h))
  clear hu
  go_wp2_with fail
  go_ret
  exact ⟨rfl, HU1.out⟩
/-- at -/
theorem nAtInt (w : World) (v : Value) (L : List Int) (h : Ints w v L) (n : Int) : Calls Tryd.prog 16 #[v, .int .i64 n] w fun e w' => e = .returned (.tuple #[.int .i64 (atQ 0 L n).1, .bool (atQ 0 L n).2]) ∧ Upd (fun _ => False) w w' := by
  obtain ⟨a, c, rfl, h1, h2⟩ := h.slice
  by_cases hn : 0 ≤ n ∧ n < (L.length : Int)
  · obtain ⟨k, rfl⟩ : ∃ k : Nat, n = (k : Int) := ⟨n.toNat, by omega⟩
    obtain ⟨g, off, rfl, hc, -⟩ := h.at (k := k) (by omega)
    obtain ⟨hn1, hn2⟩ := hn
    rw [atQ_yes (by omega)]
    generalize L.getD k 0 = y at *
    have hn3 : k < L.length := by omega
    clear h
    go_enter Tryd.func16, Tryd.ntmps16
    go_wp2_with fail
    refine bodyPost_ret (v := .tuple #[.int .i64 y, .bool true]) (by simp only [results, Tryd.f16]; simp [go_sem]) rfl ?_
    exact ⟨rfl, Upd.refl _ _⟩
  · rw [atQ_no hn]
    clear h
    by_cases h0 : n < 0
    · go_enter Tryd.func16, Tryd.ntmps16
      go_wp2_with fail
      refine bodyPost_ret (v := .tuple #[.int .i64 0, .bool false]) (by simp only [results, Tryd.f16]; simp [go_sem]) rfl ?_
      exact ⟨rfl, Upd.refl _ _⟩
    · have h3 : (L.length : Int) ≤ n := by omega
      go_enter Tryd.func16, Tryd.ntmps16
      go_wp2_with fail
      refine bodyPost_ret (v := .tuple #[.int .i64 0, .bool false]) (by simp only [results, Tryd.f16]; simp [go_sem]) rfl ?_
      exact ⟨rfl, Upd.refl _ _⟩
end Go.Proofs.YtkjmpobbbjljjaaDoor

/- HeapBytes: plainly; the first loop. -/
import Derived.Test.YtcbknlibmhaciaaHl
import Derived.Test.YtcbknlibmhaciaaHand
import Derived.Test.YtcbknlibmhaciaaStr
import Derived.OwnWalk
import Derived.Deep.RegionLaw
import Derived.Deep.RegionHeld3
import Derived.Deep.Cut
import Derived.Deep.DeepCutAuto
namespace Go.Proofs.Ytcbknlibmhaciaa
open Go.RowKit Go.Lib Go.ChangeShapes Go.WideShapes Go.Deep
set_option linter.unusedVariables false
set_option linter.unusedSimpArgs false

def aOf (p : List Int × Value) : ArrM := ⟨0, 3, 0, false, p.1⟩
def hbM (D : List (List Int × Value)) : HpM := ⟨4096, (two 4096).arrs ++ D.map aOf⟩
def hbU (D : List (List Int × Value)) : Nat := (D.map (fun p => 8 + p.1.length)).sum
theorem hbM_nil : hbM [] = two 4096 := rfl
theorem hbM_len (D : List (List Int × Value)) : (hbM D).arrs.length = D.length + 2 := by simp [hbM, two]
theorem hbM_add (D : List (List Int × Value)) (n : Nat) (d : Value) : (hbM D).add (newA 0 3 0 false n) = hbM (D ++ [(zeros n, d)]) := by
  simp [hbM, HpM.add, newA, aOf]
theorem hbM_get (D : List (List Int × Value)) {i : Nat} (hi : i < D.length) : (hbM D).arrs.getD (i + 2) default = aOf D[i] := by
  simp [hbM, two, List.getD, hi]
theorem hbM_put (D : List (List Int × Value)) {i : Nat} (hi : i < D.length) (j : Nat) (y : Int) : (hbM D).put (i + 2) j y = hbM (D.set i (D[i].1.set j y, D[i].2)) := by
  unfold HpM.put HpM.lay
  rw [hbM_get D hi]
  simp [hbM, two, ArrM.put, aOf, List.map_set]
theorem hbM_used (D : List (List Int × Value)) : usedP (hbM D).arrs = hbU D := by
  simp [usedP, usedL, hbM, two, hbU, aOf, Function.comp_def]
theorem hbU_take {D : List (List Int × Value)} {k : Nat} (hk : k < D.length) : hbU (D.take (k + 1)) = hbU (D.take k) + (8 + D[k].1.length) := by
  unfold hbU
  rw [List.take_add_one, List.getElem?_eq_getElem hk, List.map_append, List.sum_append]
  simp
theorem hbU_le {D : List (List Int × Value)} (h : ∀ p ∈ D, p.1.length ≤ 29) : hbU D ≤ 37 * D.length := by
  induction D with
  | nil => simp [hbU]
  | cons p D ih =>
    have h1 := h p (by simp)
    have h2 := ih (fun q hq => h q (by simp [hq]))
    simp [hbU] at h2 ⊢
    omega
theorem hbM_fits {D : List (List Int × Value)} (h : ∀ p ∈ D, p.1.length ≤ 29) (hl : D.length ≤ 40) (n : Nat) (hn : n ≤ 29) : fitsB (hbM D) 3 0 n = true := by
  have h1 := hbU_le h
  have h2 := hbM_used D
  unfold fitsB
  rw [h2]
  simp [labB, lifeB]
  have : (hbM D).size = 4096 := rfl
  rw [this]
  omega
theorem Own.turnK {K K' : Nat → Prop} {w0 w w' : World} {b : Nat} {m : HpM} (h : Own K w0 w b m) (h2 : Upd K w w') (hK : ∀ k, K k → w0.heap.size ≤ k) (hK' : ∀ k, K' k → K k ∨ (w.heap.size ≤ k ∧ k < w'.heap.size)) : Own K' w0 w' b m := by
  have s1 := h.up.size
  have s2 := h2.size
  refine ⟨(h.hp.upd h2 (fun k hk hk' => hk.2 hk')).wide (fun k hk => ⟨⟨hk.1.1, by have := hk.1.2; omega⟩, fun hk' => ?_⟩) (fun k hk => hk.1.2), h.up.trans h2 (fun k hk hl => by have := hK k hk; omega), fun k hk => ?_⟩
  · rcases hK' k hk' with h | h
    · exact hk.2 h
    · have := hk.1.2; omega
  · rcases hK' k hk with h3 | h3
    · have := h.kl k h3; omega
    · exact h3.2
theorem seven {w : World} {g : Nat} {v0 v1 v2 v3 v4 v5 v6 : Value} {t : TypeId} (h : w.heap[g]? = some (.cells #[v0, v1, v2, v3, v4, v5, v6] t (0, 0))) :
    w.cell? ⟨g, 0, none⟩ = some v0 ∧ w.cell? ⟨g, 1, none⟩ = some v1 ∧ w.cell? ⟨g, 2, none⟩ = some v2 ∧ w.cell? ⟨g, 3, none⟩ = some v3 ∧ w.cell? ⟨g, 4, none⟩ = some v4 ∧ w.cell? ⟨g, 5, none⟩ = some v5 ∧ w.cell? ⟨g, 6, none⟩ = some v6 := by
  refine ⟨?_, ?_, ?_, ?_, ?_, ?_, ?_⟩ <;> simp [World.cell?, h]
theorem rowInfo : (Try.prog.info? 27).map (fun i => (i.zero, i.size, i.bytes)) = some (some (.slice none 0 0), 1, 24) := by kernel_rfl
/-- what holds ahead of each step -/
def HB (W wr : World) (b : Nat) (ha : Option Addr) (hc n : Nat) (K : Nat → Prop) (D : List (List Int × Value)) : Prop :=
  D.length = n ∧ Own K W wr b (hbM D) ∧ Had K wr (.slice ha n hc) D ∧ (∀ k, K k → W.heap.size ≤ k) ∧ ∀ p ∈ D, p.1.length ≤ 29
theorem wrap8 (x : Int) : 0 ≤ IntKind.u8.wrap x ∧ IntKind.u8.wrap x ≤ 255 := by
  simp [IntKind.wrap, IntKind.bits, IntKind.signed]
  omega
theorem pick_range (x : Int) (m : Int) (hm : 0 < m) : ∃ N : Nat, x % m = (N : Int) ∧ (N : Int) < m := by
  have h1 := Int.emod_nonneg x (by omega : m ≠ 0)
  have h2 := Int.emod_lt_of_pos x hm
  exact ⟨(x % m).toNat, by omega, by omega⟩

theorem hbPush {W w4 w5 w9 : World} {b : Nat} {ha va : Option Addr} {hc vc N : Nat} {K : Nat → Prop} {D : List (List Int × Value)} (hO : Own K W w4 b (hbM (D ++ [(zeros N, .slice none 0 0)]))) (hD : Had K w4 (.slice ha D.length hc) D) (hu5 : Upd (fun _ => False) w4 w5)
    (hr : w5.ownsRow 0 5 1 (.slice (some ⟨w4.heap.size, 0, none⟩) N N) N (bv (zeros N))) {C : Array Value} {t : TypeId} (ho : w9.ownsRow 0 27 1 (.slice va (D.length + 1) vc) (D.length + 1) (D.map Prod.snd ++ [.slice (some ⟨w4.heap.size, 0, none⟩) N N]))
    (hg : (w5.alloc (.cells C t)).grownBy w9 (Value.slice ha D.length hc).ownBlock) (hf : Fresh (w5.alloc (.cells C t)) (.slice ha D.length hc) (.slice va (D.length + 1) vc)) (hK : ∀ q, K q → W.heap.size ≤ q) (hle : ∀ p ∈ D, p.1.length ≤ 29) (hN : N ≤ 29) :
    HB W w9 b va vc (D.length + 1) (fun q => K q ∨ (w4.heap.size ≤ q ∧ q < w9.heap.size)) (D ++ [(zeros N, .slice (some ⟨w4.heap.size, 0, none⟩) N N)]) := by
  have hu9 : Upd (fun q => (Value.slice ha D.length hc).ownBlock = some q) w5 w9 := (Upd.alloc _ w5 (.cells C t)).trans (Upd.grown (S := fun q => (Value.slice ha D.length hc).ownBlock = some q) hg (fun q hq => .inl hq)) (fun _ h _ => h)
  have s5 := hu5.size
  have s9 := hu9.size
  have hw := hO.up.size
  have hk : Upd K w4 w9 := (hu5.mono (T := K) (fun _ h _ => h.elim)).trans (hu9.mono (T := K) (fun q hq _ => hD.fr q hq)) (fun _ h _ => h)
  refine ⟨by simp, ?_, ?_, fun q hq => ?_, fun p hp => ?_⟩
  · have := hO.turnK (K' := fun q => K q ∨ (w4.heap.size ≤ q ∧ q < w9.heap.size)) hk hK (fun q hq => hq)
    have e : hbM (D ++ [(zeros N, Value.slice none 0 0)]) = hbM (D ++ [(zeros N, .slice (some ⟨w4.heap.size, 0, none⟩) N N)]) := by simp [hbM, aOf]
    rw [← e]; exact this
  · refine (hD.upd hu5 (fun _ _ h => h)).push hu9 ho hf (by simp) (by rw [zeros_len]; exact hr) (zeros_byte _) (fun q hq => ?_) (fun q hq => .inl hq) (fun q h1 h2 => .inr ⟨by omega, h2⟩)
    simp [Value.ownBlock] at hq
    subst hq
    have h5 := hpRowLt hr w4.heap.size rfl
    refine ⟨.inr ⟨Nat.le_refl _, by omega⟩, fun p hp hpq => ?_⟩
    have := hO.kl _ ((hD.dat p hp).2.2 _ hpq)
    omega
  · rcases hq with hq | hq
    · exact hK q hq
    · omega
  · rcases List.mem_append.1 hp with hp | hp
    · exact hle p hp
    · simp at hp
      subst hp
      simp [zeros]; omega
theorem hbDrew {W w : World} {b : Nat} {ha : Option Addr} {hc n : Nat} {K : Nat → Prop} {D : List (List Int × Value)} (h : HB W w b ha hc n K D) : HB W w.drew b ha hc n K D :=
  ⟨h.1, (h.2.1.quiet (Upd.drew (fun _ => False) w)).own, h.2.2.1.upd (Upd.drew (fun _ => False) w) (fun _ _ h => h), h.2.2.2.1, h.2.2.2.2⟩
theorem hbPoke {W w5 : World} {b : Nat} {ha : Option Addr} {hc : Nat} {K : Nat → Prop} {D : List (List Int × Value)} {kk at_ g8 rc : Nat} {y : Int} {hk0 : kk < D.length}
    (hO : Own K W w5 b (hbM (D.set kk ((D[kk]'hk0).1.set at_ y, (D[kk]'hk0).2)))) (hD : Had K w5 (.slice ha D.length hc) D) (hK : ∀ q, K q → W.heap.size ≤ q) (hle : ∀ p ∈ D, p.1.length ≤ 29) (hkD : kk < D.length)
    (hd : D[kk].2 = .slice (some ⟨g8, 0, none⟩) D[kk].1.length rc) (hin : at_ < D[kk].1.length) (hg : K g8) (hy : 0 ≤ y ∧ y ≤ 255) :
    HB W (w5.setCell ⟨g8, at_, none⟩ (.int .u8 y)) b ha hc D.length K (D.set kk (D[kk].1.set at_ y, D[kk].2)) := by
  refine ⟨by simp, hO.aside (Upd.setCell (S := K) w5 (p := ⟨g8, at_, none⟩) (.inl hg) _) hK, hD.poke hkD hd at_ hin y hy, hK, fun p hp => ?_⟩
  rcases List.mem_or_eq_of_mem_set hp with hp | rfl
  · exact hle p hp
  · simpa using hle _ (List.getElem_mem hkD)
set_option maxRecDepth 100000 in
set_option maxHeartbeats 4000000 in
theorem heapBytes_walk (W : World) (v : Value) (L : List St8) (hL : StsAt W v L) : Calls Try.prog 6 #[v] W fun e w' => e = .returned (.bool true) ∧ Upd (fun _ => False) W w' := by
  obtain ⟨la, lc, rfl⟩ := hL.slice
  have HL := Lib.hid hL
  have hlm : L.length ≤ maxLen := by
    rcases hL with ⟨_, rfl⟩ | ⟨g, off, c, _, h1, h2, _⟩
    · simp
    · omega
  clear hL
  unfold maxLen at hlm
  obtain ⟨i0, hi, hz0, hz1, hz2⟩ := info_parts b8Info
  obtain ⟨j0, hj, hy0, hy1, hy2⟩ := info_parts rowInfo
  go_enter Try.func6, Try.ntmps6
  go_wp2_with fail
  refine (oNew (K := Free) (Upd.refl _ W) (fun _ h => h.elim) 4096 (by omega) (by omega)).mono ?_
  rintro e w1 ⟨b, rfl, ho, -⟩
  have H1 : Hid (Own Free W w1 b (hbM [])) := Lib.hid ho
  clear ho
  go_wp2_with fail
  refine (known8 w1 w1 (Upd.refl _ _)).mono ?_
  rintro e w2 ⟨rfl, hu⟩
  have H2 : Hid (HB W w2 b none 0 0 Free []) := Lib.hid ⟨rfl, (H1.out.quiet hu).own, Had.nil _ _, fun _ h => h.elim, by simp⟩
  clear hu
  go_wp2_with fail
  go_loopw [6, 5, 7, 8, 9, 10, 11, 12] (fun i hv _ _ _ _ _ _ wr => ∃ (k n hc : Nat) (ha : Option Addr) (K : Nat → Prop) (D : List (List Int × Value)), k ≤ L.length ∧ k ≤ 80 ∧ n ≤ 40 ∧ i = .int .i64 k ∧ hv = .slice ha n hc ∧ Hid (HB W wr b ha hc n K D)) (fun i _ _ _ _ _ _ _ _ => 80 - (intOf i).toNat)
  case atStart => exact ⟨0, 0, 0, none, _, [], Nat.zero_le _, by omega, by omega, rfl, rfl, H2⟩
  case round =>
    obtain ⟨k, n, hc, ha, K, D, hk, hk80, hn, rfl, rfl, HH⟩ := hrel
    by_cases hlt : k < L.length ∧ k < 80
    · obtain ⟨hlt, hlt2⟩ := hlt
      have hDn := HH.out.1
      subst hDn
      have HBL := Lib.hid (HH.out.2.1.up.below (Nat.le_refl _) (fun _ h => h.elim))
      obtain ⟨g, off, rfl, -, hgl, vb, c0, c1, c2, c3, c4, c5, c6, c7, c8⟩ := (HL.out.below HBL.out).at hlt
      obtain ⟨da, dc, rfl, -, -⟩ := c7.slice
      generalize L.getD k default = s at *
      obtain ⟨w3, hw3⟩ : ∃ w3, w3 = wr.alloc (.cells #[.int .i64 s.what, .int .i64 s.a, .int .i64 s.b, .int .i64 s.c, .int .i64 s.n, .bool s.sh, .slice da s.bs.length dc] 44) := ⟨_, rfl⟩
      have hu3 : Upd (fun _ => False) wr w3 := by rw [hw3]; exact Upd.alloc _ _ _
      have hs3 : wr.heap.size < w3.heap.size := by rw [hw3]; simp
      have hx3 : w3.heap[wr.heap.size]? = some (.cells #[.int .i64 s.what, .int .i64 s.a, .int .i64 s.b, .int .i64 s.c, .int .i64 s.n, .bool s.sh, .slice da s.bs.length dc] 44 (0, 0)) := by rw [hw3]; exact hpTop _ _ _ rfl
      have hb2 := c8
      clear c7 c8
      have HW3 := Lib.hid hw3
      have HX3 := Lib.hid hx3
      have HU3 := Lib.hid hu3
      have HS3 := Lib.hid hs3
      have HWF := Lib.hid hb2
      clear hw3 hx3 hu3 hs3 hb2
      go_wp2_with fail
      rw [← HW3.out]
      clear c0 c1 c2 c3 c4 c5 c6
      obtain ⟨x0, x1, x2, x3, x4, -, -⟩ := seven HX3.out
      go_wp2_with fail
      refine (hPick s.what 4 w3 (by omega) (by omega)).mono ?_
      rintro e w' ⟨rfl, rfl⟩
      obtain ⟨K1, hK1⟩ : ∃ K1 : Nat → Prop, K1 = fun q => K q ∨ q = wr.heap.size := ⟨_, rfl⟩
      have HKL : Hid (∀ q, K1 q → W.heap.size ≤ q) := Lib.hid (fun q hq => by
        rw [hK1] at hq
        rcases hq with hq | hq
        · exact HH.out.2.2.2.1 q hq
        · have := HH.out.2.1.up.size; omega)
      have HO3 : Hid (Own K1 W w3 b (hbM D)) := Lib.hid (HH.out.2.1.keep HU3.out (fun q hq => by
        rw [hK1] at hq
        rcases hq with hq | hq
        · exact .inl hq
        · have := HS3.out; exact .inr (by omega)))
      have hKK : ∀ q, K q → K1 q := fun q hq => by rw [hK1]; exact .inl hq
      have HD3 : Hid (Had K1 w3 (.slice ha D.length hc) D) := Lib.hid ((HH.out.2.2.1.upd HU3.out (fun _ _ h => h)).wide hKK)
      have HLE := Lib.hid HH.out.2.2.2.2
      have HKX : Hid (K1 wr.heap.size) := Lib.hid (by rw [hK1]; exact .inr rfl)
      clear hK1 hKK
      cases hq : (s.what % 4 == 0 && decide (D.length < 40)) with
      | true =>
        have hq1 : (s.what % 4 == 0) = true := by simp at hq; simp [hq.1]
        have hq2 : D.length < 40 := by simp at hq; exact hq.2
        clear hq
        go_wp2_with fail
        refine (hPick s.n 30 w3 (by omega) (by omega)).mono ?_
        rintro e w' ⟨rfl, rfl⟩
        obtain ⟨N, hN, hN2⟩ := pick_range s.n 30 (by omega)
        rw [hN]
        clear hN
        have HA := Lib.hid (show Calls Try.prog 10 #[.pointer (some ⟨b, 0, none⟩), .int .i64 0, .int .i64 3, .int .i64 0, .bool false, .int .i64 (N : Int)] w3 fun e w' => e = .returned (.tuple #[.int .i64 ((D.length + 3 : Nat) : Int), .bool true]) ∧ OwnTo K1 W w3 w' b (hbM (D ++ [(zeros N, .slice none 0 0)])) from by
          have h := oAlloc HO3.out (by rw [hbM_len]; omega) ⟨by show (0 : Int) ≤ 4096; omega, by show (4096 : Int) ≤ 4096; omega⟩ 0 3 0 N false (hbM_fits HLE.out (by omega) N (by omega))
          rw [hbM_len, hbM_add D N (.slice none 0 0)] at h
          exact h)
        go_wp2_with fail
        refine HA.out.mono ?_
        rintro e w4 ⟨rfl, ho⟩
        have HO4 := Lib.hid ho.own
        have HD4 := Lib.hid (HD3.out.upd ho.step (fun q hq hq' => hq'.2 hq))
        clear ho x0 x1 x2 x3 x4
        go_wp2_with ((refine wpList_make_full w4 rfl _ _ 27 rfl 0 5 i0 (.int .u8 0) 1 Try.underlying27 hi hz0 hz1 .i64 .i64 (N : Int) (N : Int) N rfl rfl rfl rfl (by rw [hz2]; omega) (by unfold maxLen; omega) (Nat.zero_le _) ?_))
        intro w5 ho hg
        have hu5 : Upd (fun _ => False) w4 w5 := Upd.grown hg (fun q hq => by cases hq)
        rw [made_zeros] at ho
        have HD5 := Lib.hid (HD4.out.upd hu5 (fun _ _ h => h))
        have HRO := Lib.hid ho
        have HU5 := Lib.hid hu5
        have HRW : Hid ((w5.alloc (.cells #[.slice (some ⟨w4.heap.size, 0, none⟩) N N] 27)).ownsRow 0 27 1 (.slice ha D.length hc) D.length (D.map Prod.snd)) := Lib.hid (HD5.out.row.alloc _)
        have HSR : Hid (Src (w5.alloc (.cells #[.slice (some ⟨w4.heap.size, 0, none⟩) N N] 27)) 1 (.slice (some ⟨w5.heap.size, 0, none⟩) 1 1) 1 [.slice (some ⟨w4.heap.size, 0, none⟩) N N]) := Lib.hid (hpSrc w5 27 #[.slice (some ⟨w4.heap.size, 0, none⟩) N N] 1 (by simp [Value.oneCell']) 1 1 rfl)
        clear ho hg hu5
        go_wp2_with (at_builtin; go_loud (refine wpList_append_mine _ rfl _ _ 54 rfl 0 27 j0 (.slice none 0 0) 1 24 Try.underlying54 hj hy0 hy1 hy2 rfl (by decide) (.slice ha D.length hc) D.length (D.map Prod.snd) rfl HRW.out 1 _ HSR.out (by unfold maxLen; omega) (by omega) (Nat.zero_le _) ?_))
        intro v9 w9 ho hg hf
        obtain ⟨va, vc, rfl⟩ := ownsRow_slice ho
        have HB9 := Lib.hid (hbPush HO4.out HD4.out HU5.out HRO.out ho hg hf HKL.out HLE.out (by omega))
        clear ho hg hf
        go_wp2_with fail
        go_roundw
        case rel => exact ⟨k + 1, D.length + 1, vc, va, _, _, by omega, by omega, by omega, by go_num, rfl, Lib.hid HB9.out⟩
        case measure => simp [intOf]; omega
      | false =>
        have hqq : (s.what % 4 == 0) = false ∨ ((s.what % 4 == 0) = true ∧ 40 ≤ D.length) := by
          cases h : (s.what % 4 == 0)
          · exact .inl rfl
          · rw [h] at hq; simp at hq; exact .inr ⟨rfl, hq⟩
        clear hq
        by_cases hD0 : D.length = 0
        · have hq : (s.what % 4 == 0) = false := by
            rcases hqq with h | ⟨_, h⟩
            · exact h
            · omega
          clear hqq
          have hDe : D = [] := List.eq_nil_of_length_eq_zero hD0
          subst hDe
          have HD0 : Hid (HB W w3 b ha hc 0 K1 []) := Lib.hid ⟨rfl, HO3.out, HD3.out, HKL.out, HLE.out⟩
          clear hD0
          simp only [List.length_nil] at *
          go_wp2_with fail
          go_roundw
          case rel => exact ⟨k + 1, 0, hc, ha, _, _, by omega, by omega, by omega, by go_num, rfl, HD0⟩
          case measure => simp [intOf]; omega
        · rcases hqq with hq | ⟨hq, hqn⟩
          all_goals
            go_wp2_with fail
            refine (hPick s.a (D.length : Int) w3 (by omega) (by omega)).mono ?_
            rintro e w' ⟨rfl, rfl⟩
            obtain ⟨kk, hkk, hkl⟩ := pick_range s.a (D.length : Int) (by omega)
            rw [hkk]
            clear hkk
            go_wp2_with fail
            refine (hPick s.b 30 w3 (by omega) (by omega)).mono ?_
            rintro e w' ⟨rfl, rfl⟩
            obtain ⟨at_, hat, hatl⟩ := pick_range s.b 30 (by omega)
            rw [hat]
            clear hat
            have hkD : kk < D.length := by omega
            obtain ⟨gh, hc', ra, rc, hv, hrd, hcell, hgh⟩ := HD3.out.at hkD
            simp at hv
            obtain ⟨rfl, rfl⟩ := hv
            rw [hrd] at hcell
            have hgK := HD3.out.fr gh rfl
            have HC : Hid (∀ w', Upd (Ours K1 W w3) w3 w' → w'.cell? ⟨wr.heap.size, 3, none⟩ = some (.int .i64 s.c) ∧ w'.cell? ⟨gh, kk, none⟩ = some (.slice ra D[kk].1.length rc)) := Lib.hid (fun w' hu => by
              have hx := hpBlk hu HX3.out (fun h => h.2 HKX.out)
              exact ⟨by simp [World.cell?, hx], (hu.cell (p := ⟨gh, kk, none⟩) hgh (fun h => h.2 hgK)).trans hcell⟩)
            have HDR := Lib.hid (Upd.drew (Ours K1 W w3) w3)
            have hwk : IntKind.i64.wrap ((kk : Int) + 3) = (kk : Int) + 3 := IntWalk.i64_in _ (by omega)
            have hk1 : (0 : Int) ≤ (kk : Int) := Int.natCast_nonneg _
            have HO3D := Lib.hid (HO3.out.quiet (Upd.drew (fun _ => False) w3)).own
            by_cases hin : at_ < D[kk].1.length
            · have HP : Hid (∀ y, (0 ≤ y ∧ y ≤ 255) → Calls Try.prog 11 #[.pointer (some ⟨b, 0, none⟩), .int .i64 ((kk : Int) + 3), .int .i64 (at_ : Int), .int .u8 y] w3.drew fun e w' => e = .returned (.bool true) ∧ OwnTo K1 W w3.drew w' b (hbM (D.set kk (D[kk].1.set at_ y, D[kk].2)))) := Lib.hid (fun y hy => by
                have h := oPut (i := kk + 2) (j := at_) HO3D.out (by rw [hbM_len]; omega) (by rw [hbM_len]; omega) (by rw [hbM_get D hkD]; exact hin) y hy
                rw [hbM_put D hkD, show ((kk + 2 : Nat) : Int) + 1 = (kk : Int) + 3 by omega] at h
                exact h)
              have t1 : decide ((at_ : Int) < (D[kk].1.length : Int)) = true := by simp; exact hin
              obtain ⟨g8, c8, hd8, hc8, hf8, hl8⟩ := HD3.out.byte hkD hin
              have HD8 := Lib.hid hd8
              rw [hrd] at hd8
              simp at hd8
              obtain ⟨rfl, rfl⟩ := hd8
              have HK8 := Lib.hid ((HD3.out.dat _ (List.getElem_mem hkD)).2.2 g8 (by rw [hrd]; rfl))
              have HC8 := Lib.hid (And.intro hc8 (And.intro hf8 hl8))
              have HIN := Lib.hid hin
              have hi8 : (0 : Int) ≤ (at_ : Int) := Int.natCast_nonneg _
              have hi9 : (at_ : Int) < (D[kk].1.length : Int) := by omega
              clear hc8 hf8 hl8
              generalize hrl : D[kk].1.length = rl at *
              have HRL := Lib.hid hrl
              have HRD := Lib.hid hrd
              clear hrl hrd x0 x1 x2 x4
              go_wp2_with fail
              go_region_held3 (fun w' => w'.cell? ⟨wr.heap.size, 3, none⟩ = some (.int .i64 s.c) ∧ w'.cell? ⟨gh, kk, none⟩ = some (.slice (some ⟨g8, 0, none⟩) rl rc)) (first
                | with_reducible exact HC.out _ HDR.out
                | with_reducible exact HC.out _ HX5.out) (first
                | (go_at_call 11; (refine (HP.out _ (wrap8 _)).mono ?_); rintro e w5 ⟨rfl, ho⟩; have HO5 := Lib.hid ho.own; have HX5 : Hid (Upd (Ours K1 W w3) w3 w5) := Lib.hid (HDR.out.trans ho.step (fun _ h _ => h)); clear ho))
              all_goals
                have HD5 := Lib.hid (HD3.out.upd HX5.out (fun q hq hq' => hq'.2 hq))
                have q3 := (HC.out _ HX5.out).1
                have q4 := (HC.out _ HX5.out).2
                have q5 := (HX5.out.cell (p := ⟨g8, at_, none⟩) HC8.out.2.2 (fun h => h.2 HK8.out)).trans HC8.out.1
                have q6 := (HX5.out.frozen (p := ⟨g8, at_, none⟩) HC8.out.2.2 (fun h => h.2 HK8.out)).trans HC8.out.2.1
                clear x3 hcell
                go_wp2_with fail
                go_region
                all_goals
                  clear q3 q4 q5 q6
                  have HB6 := Lib.hid (hbDrew (hbPoke HO5.out HD5.out HKL.out HLE.out hkD (by rw [HRL.out]; exact HD8.out) (by rw [HRL.out]; exact HIN.out) HK8.out (wrap8 s.c)))
                  rw [IntKind.wrap_u8] at HB6
                  go_wp2_with fail
                  go_roundw
                  case rel => exact ⟨k + 1, D.length, hc, _, _, _, by omega, by omega, by omega, by go_num, rfl, HB6⟩
                  case measure => simp [intOf]; omega
            · have HP : Hid (∀ y, Calls Try.prog 11 #[.pointer (some ⟨b, 0, none⟩), .int .i64 ((kk : Int) + 3), .int .i64 (at_ : Int), .int .u8 y] w3.drew fun e w' => e = .returned (.bool false) ∧ w3.drew = w') := Lib.hid (fun y => by
                have h := pPut_out (i := kk + 2) HO3D.out.hp (by rw [hbM_len]; omega) (by rw [hbM_len]; omega) (at_ : Int) y (.inr (by rw [hbM_get D hkD]; show (D[kk].1.length : Int) ≤ at_; omega))
                rw [show ((kk + 2 : Nat) : Int) + 1 = (kk : Int) + 3 by omega] at h
                exact h)
              have t1 : decide ((at_ : Int) < (D[kk].1.length : Int)) = false := by simp; omega
              have HB6 : Hid (HB W w3.drew b (some ⟨gh, 0, none⟩) hc D.length K1 D) := Lib.hid ⟨rfl, HO3D.out, HD3.out.upd (Upd.drew (fun _ => False) w3) (fun _ _ h => h), HKL.out, HLE.out⟩
              have q4 := (HC.out _ HDR.out).2
              generalize hrl : D[kk].1.length = rl at *
              clear hrl hrd x0 x1 x2 x4
              go_wp2_with fail
              go_region_held3 (fun w' => w'.cell? ⟨wr.heap.size, 3, none⟩ = some (.int .i64 s.c) ∧ w'.cell? ⟨gh, kk, none⟩ = some (.slice ra rl rc)) (first
                | with_reducible exact HC.out _ HDR.out) (first
                | (go_at_call 11; (refine (HP.out _).mono ?_); rintro e w5 ⟨rfl, rfl⟩))
              all_goals
                go_wp2_with fail
                go_roundw
                case rel => exact ⟨k + 1, D.length, hc, _, _, _, by omega, by omega, by omega, by go_num, rfl, HB6⟩
                case measure => simp [intOf]; omega
    · have hDn := HH.out.1
      subst hDn
      have HO := Lib.hid HH.out.2.1
      have HD := Lib.hid HH.out.2.2.1
      have HKL := Lib.hid HH.out.2.2.2.1
      have HLE := Lib.hid HH.out.2.2.2.2
      have HUT := Lib.hid (hbU_le HH.out.2.2.2.2)
      have HU0 : Hid (hbU (D.take 0) = 0) := Lib.hid (by simp [hbU])
      have hor : L.length ≤ k ∨ (k < L.length ∧ k = 80) := by omega
      rcases hor with hor | ⟨hor1, hor2⟩
      all_goals
        go_wp2_with fail
        go_loopw [14, 13, 15, 16] (fun i u _ _ wr => ∃ (k n : Nat), k ≤ D.length ∧ i = .int .i64 k ∧ u = .int .i64 n ∧ n ≤ 37 * k ∧ Hid (hbU (D.take k) = n) ∧ Hid (Own K W wr b (hbM D)) ∧ Hid (Had K wr (.slice ha D.length hc) D)) (fun i _ _ _ _ => D.length - (intOf i).toNat)
        case atStart => exact ⟨0, 0, Nat.zero_le _, rfl, rfl, Nat.zero_le _, HU0, HO, HD⟩
        case round =>
          obtain ⟨j, n2, hj, rfl, rfl, hn2, HN, HO1, HD1⟩ := hrel
          by_cases hlt2 : j < D.length
          · have HA := Lib.hid (show Calls Try.prog 9 #[.pointer (some ⟨b, 0, none⟩), .int .i64 ((j : Int) + 3)] wr fun e w' => ∃ d, e = .returned (.tuple #[.agg #[.int .i64 0, .int .i64 3, .int .i64 0, .bool false, d], .bool true]) ∧ New wr d D[j].1 w' ∧ OwnTo K W wr w' b (hbM D) from by
              have h := oArray (i := j + 2) HO1.out (by rw [hbM_len]; omega) (by rw [hbM_len]; omega)
              rw [hbM_get D hlt2, show ((j + 2 : Nat) : Int) + 1 = (j : Int) + 3 by omega] at h
              exact h)
            go_wp2_with fail
            refine HA.out.mono ?_
            rintro e w5 ⟨d, rfl, hnew, ho⟩
            obtain ⟨da, dc, rfl⟩ := ownsRow_slice hnew.1
            obtain ⟨w6, hw6⟩ : ∃ w6, w6 = w5.alloc (.cells #[.int .i64 0, .int .i64 3, .int .i64 0, .bool false, .slice da D[j].1.length dc] 29) := ⟨_, rfl⟩
            have hu6 : Upd (fun _ => False) w5 w6 := by rw [hw6]; exact Upd.alloc _ _ _
            have hx6 : w6.heap[w5.heap.size]? = some (.cells #[.int .i64 0, .int .i64 3, .int .i64 0, .bool false, .slice da D[j].1.length dc] 29 (0, 0)) := by rw [hw6]; exact hpTop _ _ _ rfl
            have hD6 := (HD1.out.upd hnew.2.1 (fun _ _ h => h)).upd hu6 (fun _ _ h => h)
            have hV6 := (hnew.vw (HD1.out.dat _ (List.getElem_mem hlt2)).2.1).upd hu6 (fun _ _ h => h)
            obtain ⟨gh, hc', ra, rc, hv, hrd, hcell, hgh⟩ := hD6.at hlt2
            simp at hv
            obtain ⟨rfl, rfl⟩ := hv
            rw [hrd] at hcell
            have hV7 := hD6.vw hlt2
            rw [hrd] at hV7
            have HO6 := Lib.hid (((ho.own.quiet hu6).own.quiet (Upd.drew (fun _ => False) w6)).own)
            have HD6 := Lib.hid (hD6.upd (Upd.drew (fun _ => False) w6) (fun _ _ h => h))
            have HUN := Lib.hid (hbU_take hlt2)
            rw [HN.out] at HUN
            have hwj : (0 : Int) ≤ (j : Int) := Int.natCast_nonneg _
            have hwj2 : (j : Int) < (D.length : Int) := by omega
            have hbq : ((strOfNums D[j].1).toList == (strOfNums D[j].1).toList) = true := by simp
            have HC : Hid (∀ w', Upd (fun _ => False) w6 w' → w'.cell? ⟨w5.heap.size, 4, none⟩ = some (.slice da D[j].1.length dc) ∧ w'.cell? ⟨gh, j, none⟩ = some (.slice ra D[j].1.length rc) ∧ (convert 27 9 (.slice da D[j].1.length dc)).run Try.prog w' = .ok (.string (strOfNums D[j].1)) w' ∧ (convert 27 9 (.slice ra D[j].1.length rc)).run Try.prog w' = .ok (.string (strOfNums D[j].1)) w') := Lib.hid (fun w' hu => by
              have hx := hpBlk hu hx6 (fun h => h)
              exact ⟨by simp [World.cell?, hx], (hu.cell (p := ⟨gh, j, none⟩) hgh (fun h => h)).trans hcell, run_str Try.underlying27 Try.underlying5 Try.underlying9 (hV6.upd hu (fun _ _ h => h)), run_str Try.underlying27 Try.underlying5 Try.underlying9 (hV7.upd hu (fun _ _ h => h))⟩)
            have HDR := Lib.hid (Upd.drew (fun _ => False) w6)
            have HW6 := Lib.hid hw6
            have q4 := (HC.out _ HDR.out).2.1
            have hl29 := HLE.out _ (List.getElem_mem hlt2)
            clear hw6 hu6 hx6 hD6 hV6 hV7 hcell hrd hnew ho
            generalize hsl : strOfNums D[j].1 = st at *
            generalize hrl : D[j].1.length = rl at *
            clear hsl hrl
            go_wp2_with fail
            rw [← HW6.out]
            go_region_held3 (fun w' => w'.cell? ⟨w5.heap.size, 4, none⟩ = some (.slice da rl dc) ∧ w'.cell? ⟨gh, j, none⟩ = some (.slice ra rl rc) ∧ (convert 27 9 (.slice da rl dc)).run Try.prog w' = .ok (.string st) w' ∧ (convert 27 9 (.slice ra rl rc)).run Try.prog w' = .ok (.string st) w') (first
              | with_reducible exact HC.out _ HDR.out) (first
              | fail)
            all_goals
              go_wp2_with fail
              go_roundw
              case rel => exact ⟨j + 1, n2 + (8 + rl), by omega, by go_num, by go_num, by omega, HUN, HO6, HD6⟩
              case measure => simp [intOf]; omega
          · obtain rfl : j = D.length := by omega
            have HN2 : Hid (hbU D = n2) := Lib.hid (by rw [← HN.out, List.take_of_length_le (by simp)])
            have HUS := Lib.hid (show Calls Try.prog 15 #[.pointer (some ⟨b, 0, none⟩)] wr fun e w' => e = .returned (.int .i64 (n2 : Int)) ∧ OwnTo K W wr w' b (hbM D) from by
              have h := oUsed HO1.out (by rw [hbM_len]; omega)
              rw [hbM_used, HN2.out] at h
              exact h)
            go_wp2_with fail
            refine HUS.out.mono ?_
            rintro e w5 ⟨rfl, ho⟩
            have HO5 := Lib.hid ho.own
            have HCT := Lib.hid (show Calls Try.prog 26 #[.pointer (some ⟨b, 0, none⟩)] w5 fun e w' => e = .returned (.int .i64 ((D.length : Int) + 2)) ∧ w5 = w' from by
              have h := pCount HO5.out.hp
              rw [hbM_len] at h
              exact h)
            clear ho
            have hb5 : ((n2 : Int) == (n2 : Int)) = true := by simp
            go_wp2_with fail
            refine HCT.out.mono ?_
            rintro e w' ⟨rfl, rfl⟩
            go_wp2_with fail
            go_ret
            exact ⟨rfl, HO5.out.up⟩
theorem heapBytes_below (W : World) (v : Value) (L : List St8) (hL : StsAt W v L) : Calls Try.prog 6 #[v] W fun e w' => e = .returned (.bool true) ∧ Below W.heap.size W w' := (heapBytes_walk W v L hL).mono fun _ _ h => ⟨h.1, h.2.below (Nat.le_refl _) (fun _ h => h.elim)⟩
end Go.Proofs.Ytcbknlibmhaciaa

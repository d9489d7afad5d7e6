/- Several texts in one. -/
import Derived.Test.YtibmgmgkaacibaaEb
import Derived.Test.YtibmgmgkaacibaaRl
import Derived.LoopTactic
import Derived.Laws.MakeOwn
import Derived.WalkLawsBesides
import Derived.OwnWalk
import Derived.Lib.Hide
/- Package chip: a step's methods that touch memory. -/
namespace Go.Proofs.Ytibmgmgkaacibaa
open Go.RowKit Go.ChangeShapes Go.WideShapes Go.Deep Go.IntWalk
set_option linter.unusedVariables false
set_option linter.unusedSimpArgs false
/-- an instruction that is being done, beside its memory -/
structure Stp (w : World) (b bm g : Nat) (i : I6) (x : Ch) (t c : Int) (M : Nat → Nat) : Prop where
  sp : Sp w b (.pointer (some ⟨bm, 0, none⟩)) i x t c
  mm : Mm 72 w bm g M
  n1 : b ≠ bm
  n2 : b ≠ g
section
variable {w w' : World} {b bm g : Nat} {x : Ch} {i : I6} {t c : Int} {M : Nat → Nat}
theorem Stp.calm (h : Stp w b bm g i x t c M) (hu : Upd (fun _ => False) w w') : Stp w' b bm g i x t c M := ⟨h.sp.upd hu (fun h => h), h.mm.upd hu (fun h => h) (fun h => h), h.n1, h.n2⟩
theorem Stp.box {x' : Ch} {t' c' : Int} (h : Stp w b bm g i x t c M) (hs : Sp w' b (.pointer (some ⟨bm, 0, none⟩)) i x' t' c') (hu : Upd (fun q => q = b) w w') : Stp w' b bm g i x' t' c' M := ⟨hs, h.mm.upd hu (fun e => h.n1 e.symm) (fun e => h.n2 e.symm), h.n1, h.n2⟩
theorem Stp.mem {M' : Nat → Nat} (h : Stp w b bm g i x t c M) (hm : Mm 72 w' bm g M') (hu : Upd (fun q => q = g) w w') : Stp w' b bm g i x t c M' := ⟨h.sp.upd hu (fun e => h.n2 e), hm, h.n1, h.n2⟩
theorem r64 (a : Nat) (h : a < 4294967296) : rng64 (a : Int) := by unfold rng64; omega
def BG (b g : Nat) (q : Nat) : Prop := q = b ∨ q = g
theorem bg_b {w w' : World} {b g : Nat} (h : Upd (fun q => q = b) w w') : Upd (BG b g) w w' := h.mono (fun _ h _ => .inl h)
theorem bg_g {w w' : World} {b g : Nat} (h : Upd (fun q => q = g) w w') : Upd (BG b g) w w' := h.mono (fun _ h _ => .inr h)
theorem bg_n {w w' : World} {b g : Nat} (h : Upd (fun _ => False) w w') : Upd (BG b g) w w' := h.mono (fun _ h _ => h.elim)
theorem bg_tr {w a z : World} {b g : Nat} (h : Upd (BG b g) w a) (k : Upd (BG b g) a z) : Upd (BG b g) w z := h.trans k (fun _ h _ => h)
theorem sLoad (h : Stp w b bm g i x t c M) (a : Nat) (ha : a < 4294967296) : Calls Try.prog 69 #[.pointer (some ⟨b, 0, none⟩), .int .u32 (a : Int)] w fun e w' => e = .returned (.int .u32 (wdP M a)) ∧ Stp w' b bm g i (x.need (okWd a)) (a : Int) 2 M ∧ Upd (BG b g) w w' := by
  have h23 := h.sp.c23
  have HM := Lib.hid (mWord h.mm a (r64 a ha))
  have H := Lib.hid h
  clear h
  go_enter Try.func69, Try.ntmps69
  go_wp2_with fail
  refine HM.out.mono ?_
  rintro e w1 ⟨rfl, hu⟩
  have H1 := Lib.hid (H.out.calm hu)
  have HU := Lib.hid hu
  clear hu h23
  go_wp2_with fail
  refine (sTouch H1.out.sp a ha (okWd a)).mono ?_
  rintro e w2 ⟨rfl, hp, hu⟩
  have HP := Lib.hid (H1.out.box hp hu)
  have HU2 := Lib.hid (bg_tr (bg_n (b := b) (g := g) HU.out) (bg_b hu))
  clear hp hu
  go_wp2
  go_ret
  exact ⟨rfl, HP.out, HU2.out⟩
theorem sLoadB (h : Stp w b bm g i x t c M) (a : Nat) (ha : a < 4294967296) : Calls Try.prog 70 #[.pointer (some ⟨b, 0, none⟩), .int .u32 (a : Int)] w fun e w' => e = .returned (.int .u32 (byP M a)) ∧ Stp w' b bm g i (x.need (okBy a)) (a : Int) 2 M ∧ Upd (BG b g) w w' := by
  have h23 := h.sp.c23
  have HM := Lib.hid (mByte h.mm a (r64 a ha))
  have hb0 : 0 ≤ byP M (a : Int) ∧ byP M (a : Int) < 256 := by
    have := h.mm.ok
    unfold byP; split
    · have := this (a : Int).toNat; omega
    · omega
  have H := Lib.hid h
  clear h
  go_enter Try.func70, Try.ntmps70
  go_wp2_with fail
  refine HM.out.mono ?_
  rintro e w1 ⟨rfl, rfl⟩
  clear h23
  go_wp2_with fail
  refine (sTouch H.out.sp a ha (okBy a)).mono ?_
  rintro e w2 ⟨rfl, hp, hu⟩
  have HP := Lib.hid (H.out.box hp hu)
  have HU2 := Lib.hid (bg_b (g := g) hu)
  clear hp hu
  go_wp2
  go_ret
  have e2 : byP M (a : Int) % 4294967296 = byP M (a : Int) := by omega
  try rw [e2]
  exact ⟨rfl, HP.out, HU2.out⟩
theorem Stp.s3 {u : World} (h : Stp u b bm g i x t c M) (d v : Nat) (hd : i.d = (d : Int)) (hd16 : d < 16) (hv : x.R d = v) : u.cell? ⟨b, 23, none⟩ = some (.pointer (some ⟨bm, 0, none⟩)) ∧ u.cell? ⟨b, 25, none⟩ = some (.int .i64 (d : Int)) ∧ u.cell? ⟨b, d, none⟩ = some (.int .u32 (v : Int)) := by
  have h25 := h.sp.c25
  have hr := h.sp.reg d hd16
  rw [hd] at h25
  rw [hv] at hr
  exact ⟨h.sp.c23, h25, hr⟩
set_option maxRecDepth 20000 in
set_option maxHeartbeats 4000000 in
theorem sStore (h : Stp w b bm g i x t c M) (a d v : Nat) (ha : a < 4294967296) (hd : i.d = (d : Int)) (hd16 : d < 16) (hv : x.R d = v) : Calls Try.prog 71 #[.pointer (some ⟨b, 0, none⟩), .int .u32 (a : Int)] w fun e w' => e = .returned (.tuple #[]) ∧ Stp w' b bm g i (x.need (okSw a)) (a : Int) 2 (swM M a v) ∧ Upd (BG b g) w w' := by
  have hx := h.sp.ok d
  rw [hv] at hx
  have H0 := Lib.hid (h.calm (Upd.drew (fun _ => False) w))
  have HM := Lib.hid (mSetWord H0.out.mm a (r64 a ha) v (by omega))
  have HS0 := Lib.hid (H0.out.s3 d v hd hd16 hv)
  have HD := Lib.hid hd
  have HV := Lib.hid hv
  clear h hd hv
  have hd0 : (0 : Int) ≤ (d : Int) := by omega
  have hd1 : (d : Int) < 16 := by omega
  have hw64 : IntKind.i64.wrap (a : Int) = (a : Int) := i64_in _ (by omega)
  go_enter Try.func71, Try.ntmps71
  go_wp2_with fail
  go_region_held3 (fun u => u.cell? ⟨b, 23, none⟩ = some (.pointer (some ⟨bm, 0, none⟩)) ∧ u.cell? ⟨b, 25, none⟩ = some (.int .i64 (d : Int)) ∧ u.cell? ⟨b, d, none⟩ = some (.int .u32 (v : Int))) (first | with_reducible exact HS0.out | with_reducible exact HS1.out | with_reducible exact HS2.out) (first
    | (go_at_call 92; (with_reducible refine HM.out.mono ?_); rintro e w1 ⟨rfl, hm, hu⟩; have H1 := Lib.hid (H0.out.mem hm hu); have HU1 := Lib.hid (bg_tr (bg_n (b := b) (g := g) (Upd.drew (fun _ => False) w)) (bg_g hu)); have HS1 := Lib.hid (H1.out.s3 d v HD.out hd16 HV.out); clear hm hu)
    | (go_at_call 90; (with_reducible refine (sTouch H1.out.sp a ha (okSw a)).mono ?_); rintro e w2 ⟨rfl, hp, hu⟩; have H2 := Lib.hid (H1.out.box hp hu); have HU2 := Lib.hid (bg_tr HU1.out (bg_b hu)); have HS2 := Lib.hid (H2.out.s3 d v HD.out hd16 HV.out); clear hp hu))
  all_goals
    go_wp2_with fail
    go_end0
    exact ⟨rfl, H2.out, HU2.out⟩
set_option maxRecDepth 20000 in
set_option maxHeartbeats 4000000 in
theorem sStoreB (h : Stp w b bm g i x t c M) (a d v : Nat) (ha : a < 4294967296) (hd : i.d = (d : Int)) (hd16 : d < 16) (hv : x.R d = v) : Calls Try.prog 72 #[.pointer (some ⟨b, 0, none⟩), .int .u32 (a : Int)] w fun e w' => e = .returned (.tuple #[]) ∧ Stp w' b bm g i (x.need (okSb a)) (a : Int) 2 (sbM M a (v % 256)) ∧ Upd (BG b g) w w' := by
  have hx := h.sp.ok d
  rw [hv] at hx
  have H0 := Lib.hid (h.calm (Upd.drew (fun _ => False) w))
  have HM := Lib.hid (mSetByte H0.out.mm a (r64 a ha) (v % 256) (by omega))
  have HS0 := Lib.hid (H0.out.s3 d v hd hd16 hv)
  have HD := Lib.hid hd
  have HV := Lib.hid hv
  clear h hd hv
  have hd0 : (0 : Int) ≤ (d : Int) := by omega
  have hd1 : (d : Int) < 16 := by omega
  have hw64 : IntKind.i64.wrap (a : Int) = (a : Int) := i64_in _ (by omega)
  obtain ⟨q, hq⟩ : ∃ q, q = v % 256 := ⟨_, rfl⟩
  have hv8 : IntKind.u8.wrap (v : Int) = (q : Int) := by rw [IntKind.wrap_u8]; omega
  rw [← hq] at HM ⊢
  clear hq
  go_enter Try.func72, Try.ntmps72
  go_wp2_with fail
  go_region_held3 (fun u => u.cell? ⟨b, 23, none⟩ = some (.pointer (some ⟨bm, 0, none⟩)) ∧ u.cell? ⟨b, 25, none⟩ = some (.int .i64 (d : Int)) ∧ u.cell? ⟨b, d, none⟩ = some (.int .u32 (v : Int))) (first | with_reducible exact HS0.out | with_reducible exact HS1.out | with_reducible exact HS2.out) (first
    | (go_at_call 93; (with_reducible refine HM.out.mono ?_); rintro e w1 ⟨rfl, hm, hu⟩; have H1 := Lib.hid (H0.out.mem hm hu); have HU1 := Lib.hid (bg_tr (bg_n (b := b) (g := g) (Upd.drew (fun _ => False) w)) (bg_g hu)); have HS1 := Lib.hid (H1.out.s3 d v HD.out hd16 HV.out); clear hm hu)
    | (go_at_call 90; (with_reducible refine (sTouch H1.out.sp a ha (okSb a)).mono ?_); rintro e w2 ⟨rfl, hp, hu⟩; have H2 := Lib.hid (H1.out.box hp hu); have HU2 := Lib.hid (bg_tr HU1.out (bg_b hu)); have HS2 := Lib.hid (H2.out.s3 d v HD.out hd16 HV.out); clear hp hu))
  all_goals
    go_wp2_with fail
    go_end0
    exact ⟨rfl, H2.out, HU2.out⟩
end
end Go.Proofs.Ytibmgmgkaacibaa
/- Package chip: which registers a list has. -/
namespace Go.Proofs.Ytibmgmgkaacibaa
open Go.RowKit Go.ChangeShapes Go.WideShapes Go.Deep Go.IntWalk
set_option linter.unusedVariables false
set_option linter.unusedSimpArgs false
def regs8 (list n : Nat) : List Nat := (List.range n).filter (fun r => list / 2 ^ r % 2 == 1)
def regsP (list last : Nat) : List Nat := regs8 list 8 ++ if list / 256 % 2 = 1 then [last] else []
theorem regs8_len (list n : Nat) : (regs8 list n).length ≤ n := by
  have := List.length_filter_le (fun r => list / 2 ^ r % 2 == 1) (List.range n)
  simpa [regs8] using this
theorem regs8_yes (list n : Nat) (h : list / 2 ^ n % 2 = 1) : regs8 list (n + 1) = regs8 list n ++ [n] := by
  unfold regs8; rw [List.range_succ, List.filter_append]; simp [h]
theorem regs8_no (list n : Nat) (h : list / 2 ^ n % 2 = 0) : regs8 list (n + 1) = regs8 list n := by
  unfold regs8; rw [List.range_succ, List.filter_append]; simp [h]
theorem regs8_lt {list n r : Nat} (h : r ∈ regs8 list n) : r < n := by
  unfold regs8 at h
  exact List.mem_range.1 (List.mem_filter.1 h).1
theorem regsP_len (list last : Nat) : (regsP list last).length ≤ 9 := by
  have := regs8_len list 8
  unfold regsP; rw [List.length_append]; split <;> simp <;> omega
theorem regsP_lt {list last r : Nat} (hl : last < 16) (h : r ∈ regsP list last) : r < 16 := by
  unfold regsP at h
  rcases List.mem_append.1 h with h | h
  · have := regs8_lt h; omega
  · split at h <;> simp at h; omega
def nvl (L : List Nat) : List Value := L.map fun (n : Nat) => .int .i64 (n : Int)
/-- a slice in block q that reads as these numbers -/
def RgI (w : World) (v : Value) (q : Nat) (L : List Nat) : Prop :=
  ∃ c, v = .slice (some ⟨q, 0, none⟩) L.length c ∧ L.length ≤ c ∧ c ≤ maxLen ∧ q < w.heap.size ∧ ∀ j, j < L.length → w.cell? ⟨q, j, none⟩ = some (.int .i64 ((L.getD j 0 : Nat) : Int))
theorem RgI.upd {S : Nat → Prop} {w w' : World} {v : Value} {q : Nat} {L : List Nat} (h : RgI w v q L) (hu : Upd S w w') (hS : ¬ S q) : RgI w' v q L := by
  obtain ⟨c, h1, h2, h3, h4, h5⟩ := h
  refine ⟨c, h1, h2, h3, Nat.lt_of_lt_of_le h4 hu.size, fun j hj => ?_⟩
  rw [hu.cell (p := ⟨q, j, none⟩) h4 hS]
  exact h5 j hj
theorem rgi_of_row {w : World} {base : Nat} {e : TypeId} {v : Value} {L : List Nat} {q : Nat} (h : w.ownsRow base e 1 v L.length (nvl L)) (hq : v.ownBlock = some q) : RgI w v q L := by
  rcases h.2 with ⟨rfl, hn⟩ | ⟨g, cap, cur, rfl, hb, hg, hc, hm, _⟩
  · simp [Value.ownBlock] at hq
  · simp [Value.ownBlock] at hq
    subst hq
    refine ⟨cap, rfl, hc, hm, (Array.getElem?_eq_some_iff.1 hg).1, fun j hj => ?_⟩
    have := h.cells (g := g) rfl j (.int .i64 ((L.getD j 0 : Nat) : Int)) (by simp [nvl, List.getElem?_eq_getElem hj, List.getD])
    rw [addr_add] at this
    simpa using this
theorem info_int : (Try.prog.info? 3).map (fun i => (i.zero, i.size, i.bytes)) = some (some (.int .i64 0), 1, 8) := by kernel_rfl
theorem own_some {w : World} {base n : Nat} {e : TypeId} {v : Value} {xs : List Value} (h : w.ownsRow base e 1 v n xs) {g : Nat} {u : Value} (hg : u.ownBlock = some g) : True := trivial
theorem src1 (w : World) (t : TypeId) (x : Value) (h1 : x.oneCell' = true) : Src (w.alloc (.cells #[x] t)) 1 (.slice (some ⟨w.heap.size, 0, none⟩) 1 1) 1 [x] := by
  refine .inr ⟨_, _, rfl, rfl, fun j u hj => ?_, by simp [h1]⟩
  have hlt := (List.getElem?_eq_some_iff.1 hj).1
  simp at hlt
  subst hlt
  simp at hj
  subst hj
  have : (w.alloc (.cells #[x] t)).heap[w.heap.size]? = some (.cells #[x] t (0, 0)) := by
    show (Array.push w.heap _)[w.heap.size]? = _
    simp
  rw [addr_add]
  unfold World.cell?; rw [Nat.add_zero, this]; rfl
theorem bit64 (m k : Nat) (hk : k < 64) (hm : m < 512) : bits .and .i64 ((m : Int) / 2 ^ k) 1 = ((m / 2 ^ k % 2 : Nat) : Int) := by
  have h1 : ((m : Int) / 2 ^ k) = ((m / 2 ^ k : Nat) : Int) := by simp
  have h2 : m / 2 ^ k ≤ m := Nat.div_le_self _ _
  have := (bits_nat .i64 62 (by decide) (fun n h₀ h₁ => by rw [IntKind.wrap_i64]; omega) (m / 2 ^ k) 1 (by omega) (by omega)).1
  rw [h1, show (1 : Int) = ((1 : Nat) : Int) from rfl, this, Nat.and_one_is_mod]
theorem needs (x : Ch) (p q : Bool) : (x.need p).need q = x.need (p && q) := by cases p <;> cases q <;> rfl
set_option maxRecDepth 20000 in
set_option maxHeartbeats 1000000 in
theorem cRegs (list last : Nat) (hl : list < 512) (hl2 : last < 16) (w : World) : Calls Try.prog 94 #[.int .i64 (list : Int), .int .i64 (last : Int)] w fun e w' => ∃ v q, e = .returned v ∧ RgI w' v q (regsP list last) ∧ w.heap.size ≤ q ∧ Upd (fun _ => False) w w' := by
  obtain ⟨i0, hi, hz0, hz1, hz2⟩ := info_parts info_int
  obtain ⟨wm, hmk, hown, hgr⟩ := run_make_own (P := Try.prog) w w.heap.size 99 3 i0 (.int .i64 0) 1 Try.underlying99 hi hz0 hz1 .i64 .i64 9 (by rw [hz2]; decide) (by unfold maxLen; omega) (Nat.le_refl _)
  have hmk : (Instr.makeSlice 99 (.int .i64 0) (.int .i64 9)).run Try.prog w = .ok (.slice (some ⟨w.heap.size, 0, none⟩) 0 9) wm := hmk
  have HO0 := Lib.hid hown
  have HU0 : Hid (Upd (fun _ => False) w wm) := Lib.hid (Upd.grown (S := fun _ => False) hgr (by simp))
  clear hown hgr
  have HL := Lib.hid hl
  obtain ⟨B, hB⟩ : ∃ B, B = w.heap.size := ⟨_, rfl⟩
  rw [← hB] at HO0 hmk ⊢
  have HB := Lib.hid hB
  clear hB
  go_enter Try.func94, Try.ntmps94
  go_wp2_with fail
  go_loopw [8, 5, 6] (fun t v _ wr => ∃ k : Nat, k ≤ 8 ∧ t = .int .i64 k ∧ Hid (wr.ownsRow B 3 1 v (regs8 list k).length (nvl (regs8 list k))) ∧ Hid (v.ownBlock ≠ none) ∧ Hid (Upd (fun _ => False) w wr)) (fun t _ _ _ => 8 - (intOf t).toNat)
  case atStart => exact ⟨0, by omega, rfl, HO0, Lib.hid (by simp [Value.ownBlock]), HU0⟩
  case round =>
    obtain ⟨k, hk, rfl, HO, HN, HU⟩ := hrel
    obtain ⟨va, vc, rfl⟩ := ownsRow_slice HO.out
    by_cases hlt : k < 8
    · have hk64 : k < 64 := by omega
      have HB1 := Lib.hid (bit64 list k hk64 HL.out)
      rcases (by omega : list / 2 ^ k % 2 = 0 ∨ list / 2 ^ k % 2 = 1) with h0 | h0
      · have hb := HB1.out
        rw [h0] at hb
        have HR := Lib.hid (regs8_no list k h0)
        clear h0 HB1
        go_wp2_with fail
        go_roundw
        case rel => exact ⟨k + 1, by omega, by go_num, Lib.hid (by rw [HR.out]; exact HO.out), HN, HU⟩
        case measure => simp [intOf]; omega
      · have hb := HB1.out
        rw [h0] at hb
        have HR := Lib.hid (regs8_yes list k h0)
        have HLN := Lib.hid (regs8_len list k)
        have hal := Upd.alloc (fun _ => False) wr (.cells #[.int .i64 (k : Int)] 3)
        have HRW := Lib.hid (ownsRow_upd HO.out hal (fun _ _ h => h))
        have HS := Lib.hid (src1 wr 3 (.int .i64 (k : Int)) rfl)
        have HAL := Lib.hid (HU.out.trans hal (fun _ h _ => h))
        clear h0 HB1 hal
        generalize hn : (regs8 list k).length = n at *
        have HNN := Lib.hid hn
        clear hn
        go_wp2_with (at_builtin; go_loud (refine wpList_append_mine _ rfl _ _ 99 rfl B 3 i0 (.int .i64 0) 1 8 Try.underlying99 hi hz0 hz1 hz2 rfl (by decide) (.slice va n vc) n (nvl (regs8 list k)) rfl HRW.out 1 _ HS.out (by have := HLN.out; unfold maxLen; omega) (by have := HLN.out; omega) (by have := HB.out; have := HU.out.size; simp; omega) ?_))
        intro v' w1 ho hg hf
        obtain ⟨va', vc', rfl⟩ := ownsRow_slice ho
        have HO2 : Hid (w1.ownsRow B 3 1 (.slice va' (n + 1) vc') (regs8 list (k + 1)).length (nvl (regs8 list (k + 1)))) := Lib.hid (by
          rw [HR.out, List.length_append, HNN.out, show nvl (regs8 list k ++ [k]) = nvl (regs8 list k) ++ [.int .i64 (k : Int)] by simp [nvl]]
          exact ho)
        have HU2 : Hid (Upd (fun _ => False) w w1) := Lib.hid (HAL.out.trans (Upd.grown (S := fun q => (Value.slice va n vc).ownBlock = some q) hg (fun q hq => .inl hq)) (fun q hq hlt => by
          have := (HO.out.lt q hq).1
          have := HB.out
          omega))
        have HN2 : Hid ((Value.slice va' (n + 1) vc').ownBlock ≠ none) := Lib.hid (by
          rcases ho.2 with ⟨h1, h2⟩ | ⟨g, cap, cur, h1, _⟩
          · simp at h2
          · rw [h1]; simp [Value.ownBlock])
        clear ho hg hf
        go_wp2_with fail
        go_roundw
        case rel => exact ⟨k + 1, by omega, by go_num, HO2, HN2, HU2⟩
        case measure => simp [intOf]; omega
    · have hk8 : k = 8 := by omega
      subst hk8
      clear hlt hk
      have HB1 := Lib.hid (bit64 list 8 (by decide) HL.out)
      have hbx : ∃ q, va = some ⟨q, 0, none⟩ ∧ B ≤ q := by
        rcases HO.out.2 with ⟨h1, h2⟩ | ⟨g, cap, cur, h1, h2, _⟩
        · exact absurd (by rw [h1]; rfl) HN.out
        · simp at h1; exact ⟨g, h1.1, h2⟩
      obtain ⟨q, rfl, hq⟩ := hbx
      have HQ := Lib.hid hq
      clear hq
      rcases (by omega : list / 256 % 2 = 0 ∨ list / 256 % 2 = 1) with h0 | h0
      · have hb : bits .and .i64 ((list : Int) / 256) 1 = 0 := by
          have := HB1.out
          rw [show list / 2 ^ 8 = list / 256 from rfl, h0] at this
          exact this
        have HR := Lib.hid (show regsP list last = regs8 list 8 by simp [regsP, h0])
        clear h0 HB1
        go_wp2_with fail
        go_ret
        refine ⟨_, q, rfl, ?_, HQ.out, HU.out⟩
        rw [HR.out]
        exact rgi_of_row HO.out rfl
      · have hb : bits .and .i64 ((list : Int) / 256) 1 = 1 := by
          have := HB1.out
          rw [show list / 2 ^ 8 = list / 256 from rfl, h0] at this
          exact this
        have HR := Lib.hid (show regsP list last = regs8 list 8 ++ [last] by simp [regsP, h0])
        have HLN := Lib.hid (regs8_len list 8)
        have hal := Upd.alloc (fun _ => False) wr (.cells #[.int .i64 (last : Int)] 3)
        have HRW := Lib.hid (ownsRow_upd HO.out hal (fun _ _ h => h))
        have HS := Lib.hid (src1 wr 3 (.int .i64 (last : Int)) rfl)
        have HAL := Lib.hid (HU.out.trans hal (fun _ h _ => h))
        clear h0 HB1 hal
        generalize hn : (regs8 list 8).length = n at *
        have HNN := Lib.hid hn
        clear hn
        go_wp2_with (at_builtin; go_loud (refine wpList_append_mine _ rfl _ _ 99 rfl B 3 i0 (.int .i64 0) 1 8 Try.underlying99 hi hz0 hz1 hz2 rfl (by decide) (.slice (some ⟨q, 0, none⟩) n vc) n (nvl (regs8 list 8)) rfl HRW.out 1 _ HS.out (by have := HLN.out; unfold maxLen; omega) (by have := HLN.out; omega) (by have := HB.out; have := HU.out.size; simp; omega) ?_))
        intro v' w1 ho hg hf
        obtain ⟨va', vc', rfl⟩ := ownsRow_slice ho
        have HO2 : Hid (w1.ownsRow B 3 1 (.slice va' (n + 1) vc') (regsP list last).length (nvl (regsP list last))) := Lib.hid (by
          rw [HR.out, List.length_append, HNN.out, show nvl (regs8 list 8 ++ [last]) = nvl (regs8 list 8) ++ [.int .i64 (last : Int)] by simp [nvl]]
          exact ho)
        have HU2 : Hid (Upd (fun _ => False) w w1) := Lib.hid (HAL.out.trans (Upd.grown (S := fun p => (Value.slice (some ⟨q, 0, none⟩) n vc).ownBlock = some p) hg (fun p hq => .inl hq)) (fun p hq hlt => by
          have := (HO.out.lt p hq).1
          have := HB.out
          omega))
        have hbx : ∃ q, va' = some ⟨q, 0, none⟩ ∧ B ≤ q := by
          rcases ho.2 with ⟨h1, h2⟩ | ⟨g, cap, cur, h1, h2, _⟩
          · simp at h2
          · simp at h1; exact ⟨g, h1.1, h2⟩
        obtain ⟨q2, rfl, hq2⟩ := hbx
        have HQ2 := Lib.hid hq2
        clear ho hg hf hq2
        go_wp2_with fail
        go_ret
        exact ⟨_, q2, rfl, rgi_of_row HO2.out rfl, HQ2.out, HU2.out⟩
end Go.Proofs.Ytibmgmgkaacibaa

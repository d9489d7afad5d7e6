/- Package room: what shows; the reaching for spans; the bytes of one. -/
import Derived.Test.YtdmadfahgkikkaaGreatQak
import Derived.LoopTactic
namespace Go.Proofs.YtdmadfahgkikkaaGreat
open Go.RowKit Go.Lib Go.ChangeShapes Go.WideShapes Go.Deep
set_option linter.unusedVariables false
set_option linter.unusedSimpArgs false

def addE (L : List EvM) (e : EvM) : List EvM := if L.length < 200000 then L ++ [e] else L
def addO (o : Option (List EvM)) (e : EvM) : Option (List EvM) := o.map (addE · e)
/-- a trace, or none; of colour 7 -/
def TrO (c : Nat → Nat) (w : World) (tv : Value) : Option (List EvM) → Prop
  | none => tv = .pointer none
  | some L => ∃ tb, tv = .pointer (some ⟨tb, 0, none⟩) ∧ Trc (Col c w 7) w tb L
abbrev T7 (i : Nat) : Prop := i = 7
section
variable {T : Nat → Prop} {c c' : Nat → Nat} {w w' : World} {tv : Value} {o : Option (List EvM)}
theorem TrO.ext (h : TrO c w tv o) (hx : Ext T c w c' w') (hT : ¬ T 7) : TrO c' w' tv o := by
  cases o with
  | none => exact h
  | some L =>
    obtain ⟨tb, rfl, h⟩ := h
    exact ⟨tb, rfl, hx.trc h hT⟩
theorem TrO.ptr (h : TrO c w tv o) : ∃ p, tv = .pointer p := by
  cases o with
  | none => exact ⟨_, h⟩
  | some L => obtain ⟨tb, rfl, h⟩ := h; exact ⟨_, rfl⟩
theorem rShow (h : TrO c w tv o) (x a b d : Int) : Calls Tryz.prog 77 #[tv, .int .i64 x, .int .i64 a, .int .i64 b, .int .i64 d] w fun e w' => e = .returned (.tuple #[]) ∧ ∃ c', Ext T7 c w c' w' ∧ TrO c' w' tv (addO o ⟨x, a, b, d⟩) := by
  cases o with
  | none =>
    obtain rfl := h
    go_enter Tryz.func77, Tryz.ntmps77
    go_wp2_with fail
    go_end0
    exact ⟨rfl, c, Ext.refl _ _ _, rfl⟩
  | some L =>
    obtain ⟨tb, rfl, h⟩ := h
    have H := Lib.hid h
    by_cases hl : L.length < 200000
    · have HE : Hid (addO (some L) ⟨x, a, b, d⟩ = some (L ++ [⟨x, a, b, d⟩])) := Lib.hid (by simp [addO, addE, hl])
      have HA := Lib.hid (tAdd h hl x a b d)
      clear h hl
      go_enter Tryz.func77, Tryz.ntmps77
      go_wp2_with fail
      refine HA.out.mono ?_
      rintro e w1 ⟨rfl, h1, h2⟩
      have H1 := Lib.hid h1
      have H2 := Lib.hid h2
      clear h1 h2
      go_wp2_with fail
      go_end0
      refine ⟨rfl, paint c w 7, Ext.of 7 rfl H2.out, ?_⟩
      rw [HE.out]
      refine ⟨tb, rfl, trc_of H1.out (fun k hk => ?_)⟩
      have hs := H2.out.size
      rcases hk with hk | hk
      · exact ⟨by rw [paint_old c w 7 hk.2]; exact hk.1, Nat.lt_of_lt_of_le hk.2 hs⟩
      · exact ⟨paint_new c w 7 hk.1, hk.2⟩
    · have HE : Hid (addO (some L) ⟨x, a, b, d⟩ = some L) := Lib.hid (by simp [addO, addE, hl])
      have HA := Lib.hid (tAdd_full h (by omega) x a b d)
      clear h hl
      go_enter Tryz.func77, Tryz.ntmps77
      go_wp2_with fail
      refine HA.out.mono ?_
      rintro e w1 ⟨rfl, rfl⟩
      go_wp2_with fail
      go_end0
      refine ⟨rfl, c, Ext.refl _ _ _, ?_⟩
      rw [HE.out]
      exact ⟨tb, rfl, H.out⟩
end

theorem three {w : World} {g : Nat} {v0 v1 v2 : Value} {t : TypeId} (h : w.heap[g]? = some (.cells #[v0, v1, v2] t (0, 0))) :
    w.cell? ⟨g, 0, none⟩ = some v0 ∧ w.cell? ⟨g, 1, none⟩ = some v1 ∧ w.cell? ⟨g, 2, none⟩ = some v2 ∧ ∀ q, w.frozen? ⟨g, q, none⟩ = false := by
  refine ⟨?_, ?_, ?_, fun q => by simp [World.frozen?, h]⟩ <;> simp [World.cell?, h]
structure SpM where
  ref : Int
  at_ : Int
  n : Int
deriving Inhabited
def spV (s : SpM) : Value := .agg #[.int .i64 s.ref, .int .i64 s.at_, .int .i64 s.n]
/-- spans in memory -/
def Sps (w : World) (v : Value) (L : List SpM) : Prop := ∃ g, v = .slice (some ⟨g, 0, none⟩) L.length L.length ∧ ∀ i, i < L.length →
  w.cell? ⟨g, i * 3, none⟩ = some (.int .i64 (L.getD i default).ref) ∧ w.cell? ⟨g, i * 3 + 1, none⟩ = some (.int .i64 (L.getD i default).at_) ∧ w.cell? ⟨g, i * 3 + 2, none⟩ = some (.int .i64 (L.getD i default).n)
theorem Sps.upd {w w' : World} {v : Value} {L : List SpM} {S : Nat → Prop} (h : Sps w v L) (hu : Upd S w w') (hS : ∀ k, v.ownBlock = some k → ¬ S k) : Sps w' v L := by
  obtain ⟨g, rfl, h⟩ := h
  refine ⟨g, rfl, fun i hi => ?_⟩
  obtain ⟨h1, h2, h3⟩ := h i hi
  have hg := World.block_lt_of_cell? w _ h1
  have hn := hS g rfl
  exact ⟨(hu.cell (p := ⟨g, i * 3, none⟩) hg hn).trans h1, (hu.cell (p := ⟨g, i * 3 + 1, none⟩) hg hn).trans h2, (hu.cell (p := ⟨g, i * 3 + 2, none⟩) hg hn).trans h3⟩
theorem sps1 {w : World} {g : Nat} {s : SpM} {t : TypeId} (h : w.heap[g]? = some (.cells #[.int .i64 s.ref, .int .i64 s.at_, .int .i64 s.n] t (0, 0))) : Sps w (.slice (some ⟨g, 0, none⟩) 1 1) [s] := by
  refine ⟨g, rfl, fun i hi => ?_⟩
  obtain rfl : i = 0 := by simp at hi; exact hi
  refine ⟨?_, ?_, ?_⟩ <;> simp [World.cell?, h]
theorem sps2 {w : World} {g : Nat} {s u : SpM} {t : TypeId} (h : w.heap[g]? = some (.cells #[.int .i64 s.ref, .int .i64 s.at_, .int .i64 s.n, .int .i64 u.ref, .int .i64 u.at_, .int .i64 u.n] t (0, 0))) : Sps w (.slice (some ⟨g, 0, none⟩) 2 2) [s, u] := by
  refine ⟨g, rfl, fun i hi => ?_⟩
  rcases (by simp at hi; omega : i = 0 ∨ i = 1) with rfl | rfl
  · refine ⟨?_, ?_, ?_⟩ <;> simp [World.cell?, h]
  · refine ⟨?_, ?_, ?_⟩ <;> simp [World.cell?, h]
def tchs (o : Option (List EvM)) (L : List SpM) : Option (List EvM) := L.foldl (fun o s => addO o ⟨2, s.ref, s.at_, s.n⟩) o
theorem tchs_step {o : Option (List EvM)} {L : List SpM} {k : Nat} (h : k < L.length) : tchs o (L.take (k + 1)) = addO (tchs o (L.take k)) ⟨2, (L.getD k default).ref, (L.getD k default).at_, (L.getD k default).n⟩ := by
  rw [List.take_add_one, List.getElem?_eq_getElem h]
  unfold tchs
  rw [Option.toList_some, List.foldl_append, show L.getD k default = L[k] by simp [List.getD, h]]
  rfl
section
variable {T : Nat → Prop} {c c' : Nat → Nat} {w w' : World} {tv : Value} {o : Option (List EvM)} {rb : Nat} {M : RmM}
set_option maxHeartbeats 1000000 in
theorem rTouch (h : TrO c w tv o) (v : Value) (L : List SpM) (hs : Sps w v L) (hv : ∀ k, v.ownBlock = some k → c k ≠ 7) (hl : L.length ≤ 10) :
    Calls Tryz.prog 79 #[tv, v] w fun e w' => e = .returned (.tuple #[]) ∧ ∃ c', Ext T7 c w c' w' ∧ TrO c' w' tv (tchs o L) := by
  obtain ⟨g, rfl, -⟩ := id hs
  obtain ⟨p, rfl⟩ := h.ptr
  have HS := Lib.hid hs
  have HV := Lib.hid hv
  have H0 : Hid (TrO c w (.pointer p) (tchs o (L.take 0))) := Lib.hid h
  have HX0 := Lib.hid (Ext.refl T7 c w)
  clear h hs hv
  go_enter Tryz.func79, Tryz.ntmps79
  go_wp2_with fail
  go_loopw [8, 5] (fun i _ wr => ∃ k d, k ≤ L.length ∧ i = .int .i64 (k : Nat) ∧ Hid (Ext T7 c w d wr) ∧ Hid (TrO d wr (.pointer p) (tchs o (L.take k)))) (fun i _ _ => L.length - (intOf i).toNat)
  case atStart => exact ⟨0, c, Nat.zero_le _, rfl, HX0, H0⟩
  case round =>
    obtain ⟨k, d, hk, rfl, HX, HT⟩ := hrel
    by_cases hlt : k < L.length
    · have HN := Lib.hid (tchs_step (o := o) hlt)
      obtain ⟨g', hv', hc⟩ := HS.out.upd HX.out.upd HV.out
      simp at hv'
      subst hv'
      obtain ⟨c0, c1, c2⟩ := hc k hlt
      generalize L.getD k default = s at *
      obtain ⟨ref, at_, n⟩ := s
      simp only at c0 c1 c2 HN
      have hu : ∀ o', Upd (fun _ => False) wr (wr.alloc o') := fun o' => Upd.alloc _ _ _
      have HU := Lib.hid hu
      clear hu hc
      go_wp2_with fail
      refine (rShow ((HT.out).ext (Ext.quiet d (HU.out _)) (fun h => h)) 2 ref at_ n).mono ?_
      rintro e w1 ⟨rfl, d', hx, ht⟩
      have HX1 := Lib.hid ((HX.out.trans (Ext.quiet d (HU.out _)) (fun _ h => h.elim)).trans hx (fun _ h => h))
      rw [← HN.out] at ht
      have HT1 := Lib.hid ht
      clear hx ht c0 c1 c2
      go_wp2_with fail
      go_roundw
      case rel => exact ⟨k + 1, d', by omega, by go_num, HX1, HT1⟩
      case measure => simp [intOf]; omega
    · have HL : Hid (TrO d wr (.pointer p) (tchs o L)) := Lib.hid (by have := HT.out; rwa [List.take_of_length_le (by omega)] at this)
      go_wp2_with fail
      go_end0
      exact ⟨rfl, d, HX.out, HL.out⟩
def reachP (arrs : List ArrM) (ap : Int) : List SpM → Int
  | [] => 36864
  | s :: r => if rngP arrs s.ref s.at_ s.n ap = 36864 then reachP arrs ap r else rngP arrs s.ref s.at_ s.n ap
theorem reach_drop (arrs : List ArrM) (ap : Int) {L : List SpM} {k : Nat} (h : k < L.length) : reachP arrs ap (L.drop k) = if rngP arrs (L.getD k default).ref (L.getD k default).at_ (L.getD k default).n ap = 36864 then reachP arrs ap (L.drop (k + 1)) else rngP arrs (L.getD k default).ref (L.getD k default).at_ (L.getD k default).n ap := by
  rw [List.drop_eq_getElem_cons h]
  simp [reachP, List.getD, h]
set_option maxHeartbeats 1000000 in
theorem rReach (h : Rm c w rb M) (ap : Int) (v : Value) (L : List SpM) (hs : Sps w v L) (hl : L.length ≤ 10) (hL : ∀ s ∈ L, s.at_ ≤ 9223372036854775807) :
    Calls Tryz.prog 96 #[.pointer (some ⟨rb, 0, none⟩), .int .i64 ap, v] w fun e w' => e = .returned (.int .i64 (reachP M.hp.arrs ap L)) ∧ Upd (fun _ => False) w w' := by
  obtain ⟨g, rfl, -⟩ := id hs
  obtain ⟨hb, iv, fv, pv, sv, ivs, fvs, h⟩ := h
  have HS := Lib.hid hs
  have H := Lib.hid h
  have HL := Lib.hid hL
  have HU0 := Lib.hid (Upd.refl (fun _ => False) w)
  have HR0 : Hid (reachP M.hp.arrs ap (L.drop 0) = reachP M.hp.arrs ap L) := Lib.hid rfl
  clear h hs hL
  go_enter Tryz.func96, Tryz.ntmps96
  go_wp2_with fail
  go_loopw [12, 8, 9] (fun i _ _ wr => ∃ k, k ≤ L.length ∧ i = .int .i64 (k : Nat) ∧ Hid (Upd (fun _ => False) w wr) ∧ Hid (reachP M.hp.arrs ap (L.drop k) = reachP M.hp.arrs ap L)) (fun i _ _ _ => L.length - (intOf i).toNat)
  case atStart => exact ⟨0, Nat.zero_le _, rfl, HU0, HR0⟩
  case round =>
    obtain ⟨k, hk, rfl, HU, HR⟩ := hrel
    by_cases hlt : k < L.length
    · have HN := Lib.hid (reach_drop M.hp.arrs ap hlt)
      obtain ⟨g', hv', hc⟩ := HS.out.upd HU.out (fun _ _ h => h)
      simp at hv'
      subst hv'
      obtain ⟨c0, c1, c2⟩ := hc k hlt
      have hat : (L.getD k default).at_ ≤ 9223372036854775807 := HL.out _ (by simp [List.getD, hlt])
      generalize L.getD k default = s at *
      obtain ⟨ref, at_, n⟩ := s
      simp only at c0 c1 c2 HN hat
      obtain ⟨w1, hw1⟩ : ∃ w1, w1 = wr.alloc (.cells #[.int .i64 ref, .int .i64 at_, .int .i64 n] 132) := ⟨_, rfl⟩
      have hu1 : Upd (fun _ => False) w w1 := by rw [hw1]; exact HU.out.trans (Upd.alloc _ _ _) (fun _ h _ => h)
      have hx1 : w1.heap[wr.heap.size]? = some (.cells #[.int .i64 ref, .int .i64 at_, .int .i64 n] 132 (0, 0)) := by rw [hw1]; exact hpTop _ _ _ rfl
      have HW : Hid (∀ u, Upd (fun _ => False) w1 u → Calls Tryz.prog 110 #[.pointer (some ⟨hb, 0, none⟩), .int .i64 ref, .int .i64 at_, .int .i64 n, .int .i64 ap] u fun e w' => e = .returned (.int .i64 (rngP M.hp.arrs ref at_ n ap)) ∧ Upd (fun _ => False) u w') :=
        Lib.hid (fun u hu => wRange (H.out.quiet (hu1.trans hu (fun _ h _ => h))).hp (by have := H.out.ok.few; omega) ref at_ n ap hat)
      have HB : Hid (∀ u, Upd (fun _ => False) w1 u → u.cell? ⟨rb, 2, none⟩ = some (.pointer (some ⟨hb, 0, none⟩)) ∧ u.cell? ⟨wr.heap.size, 0, none⟩ = some (.int .i64 ref) ∧ u.cell? ⟨wr.heap.size, 1, none⟩ = some (.int .i64 at_) ∧ u.cell? ⟨wr.heap.size, 2, none⟩ = some (.int .i64 n)) :=
        Lib.hid (fun u hu => by
          obtain ⟨e0, e1, e2, -⟩ := three (hpBlk hu hx1 (fun h => h))
          exact ⟨(H.out.quiet (hu1.trans hu (fun _ h _ => h))).bx.2.2.1, e0, e1, e2⟩)
      have HD := Lib.hid (Upd.drew (fun _ => False) w1)
      have HU1 := Lib.hid hu1
      have HW1 := Lib.hid hw1
      have hs : rngP M.hp.arrs ref at_ n ap = 36864 ∨ ((rngP M.hp.arrs ref at_ n ap != 36864) = true ∧ rngP M.hp.arrs ref at_ n ap ≠ 36864) := by
        by_cases h : rngP M.hp.arrs ref at_ n ap = 36864
        · exact .inl h
        · exact .inr ⟨by simpa using h, h⟩
      clear hc hat hu1 hx1 hw1
      generalize rngP M.hp.arrs ref at_ n ap = st at *
      rcases hs with rfl | ⟨hs1, hs2⟩
      · have HN2 : Hid (reachP M.hp.arrs ap (L.drop (k + 1)) = reachP M.hp.arrs ap L) := Lib.hid (by have := HN.out; rw [if_pos rfl] at this; rw [← this]; exact HR.out)
        go_wp2_with fail
        rw [← HW1.out]
        go_region_held3 (fun w' => w'.cell? ⟨rb, 2, none⟩ = some (.pointer (some ⟨hb, 0, none⟩)) ∧ w'.cell? ⟨wr.heap.size, 0, none⟩ = some (.int .i64 ref) ∧ w'.cell? ⟨wr.heap.size, 1, none⟩ = some (.int .i64 at_) ∧ w'.cell? ⟨wr.heap.size, 2, none⟩ = some (.int .i64 n)) (first
          | with_reducible exact HB.out _ HX2.out
          | with_reducible exact HB.out _ HD.out) (first
          | (go_at_call 110; (refine (HW.out _ HD.out).mono ?_); rintro e w2 ⟨rfl, hu⟩; have HX2 := Lib.hid (HD.out.trans hu (fun _ h _ => h)); clear hu))
        all_goals
          go_wp2_with fail
          go_roundw
          case rel => exact ⟨k + 1, by omega, by go_num, Lib.hid (HU1.out.trans HX2.out (fun _ h _ => h)), HN2⟩
          case measure => simp [intOf]; omega
      · have HN2 : Hid (st = reachP M.hp.arrs ap L) := Lib.hid (by have := HN.out; rw [if_neg hs2] at this; rw [← this]; exact HR.out)
        clear hs2
        go_wp2_with fail
        rw [← HW1.out]
        go_region_held3 (fun w' => w'.cell? ⟨rb, 2, none⟩ = some (.pointer (some ⟨hb, 0, none⟩)) ∧ w'.cell? ⟨wr.heap.size, 0, none⟩ = some (.int .i64 ref) ∧ w'.cell? ⟨wr.heap.size, 1, none⟩ = some (.int .i64 at_) ∧ w'.cell? ⟨wr.heap.size, 2, none⟩ = some (.int .i64 n)) (first
          | with_reducible exact HB.out _ HX2.out
          | with_reducible exact HB.out _ HD.out) (first
          | (go_at_call 110; (refine (HW.out _ HD.out).mono ?_); rintro e w2 ⟨rfl, hu⟩; have HX2 := Lib.hid (HD.out.trans hu (fun _ h _ => h)); clear hu))
        all_goals
          go_wp2_with fail
          go_ret
          exact ⟨ret_i64 HN2.out, HU1.out.trans HX2.out (fun _ h _ => h)⟩
    · have HL : Hid (reachP M.hp.arrs ap L = 36864) := Lib.hid (by have := HR.out; rw [List.drop_of_length_le (by omega)] at this; rw [← this]; rfl)
      go_wp2_with fail
      go_ret
      exact ⟨ret_i64 HL.out.symm, HU.out⟩
end
end Go.Proofs.YtdmadfahgkikkaaGreat

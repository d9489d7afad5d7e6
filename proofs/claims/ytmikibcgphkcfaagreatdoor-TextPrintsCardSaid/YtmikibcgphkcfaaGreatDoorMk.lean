/- The hand's maker: what its calls do to a method's code, whatever numbers it is given. -/
import Derived.Test.YtmikibcgphkcfaaGreatDoorIw
import Derived.Test.YtmikibcgphkcfaaGreatDoorHand
import Derived.Test.YtmikibcgphkcfaaGreatDoorRaws
import Derived.OpenShut
import Derived.Deep.QuietTactic
import Derived.BigQuiet
import Derived.IntWalk
namespace Go.Proofs.YtmikibcgphkcfaaGreatDoor
open Go.RowKit Go.Lib
set_option linter.unusedVariables false

theorem upd_drawn (w : World) (n : Nat) : Upd (fun _ => False) w (w.drewN n) := ⟨rfl, rfl, rfl, Nat.le_refl _, fun _ _ _ => rfl⟩
/-- own instructions, any -/
structure CRow (w : World) (v : Value) (L : List InsM) : Prop where
  row : w.ownsRow 0 41 3 v L.length (L.flatMap icl)
  wi : ∀ x ∈ L, wi64 x.op ∧ wi64 x.a ∧ wi64 x.b
theorem CRow.inss {w : World} {v : Value} {L : List InsM} (h : CRow w v L) : Inss w v L := by
  refine ⟨(Sl.own h.row).congr (fun i hi j hj => ?_), h.wi⟩
  rw [flat_get icl 3 _ (fun _ => rfl) L i j hi hj]
  unfold insF icl
  match j, hj with
  | 0, _ => rfl
  | 1, _ => rfl
  | 2, _ => rfl
theorem CRow.upd {w w' : World} {v : Value} {L : List InsM} {S : Nat → Prop} (h : CRow w v L) (hu : Upd S w w') (hS : ∀ k, v.ownBlock = some k → ¬ S k) : CRow w' v L := ⟨ownsRow_upd h.row hu hS, h.wi⟩
/-- own numbers, any -/
structure WRow (w : World) (v : Value) (L : List Int) : Prop where
  row : w.ownsRow 0 3 1 v L.length (iv L)
  wi : ∀ n ∈ L, wi64 n
theorem WRow.ints {w : World} {v : Value} {L : List Int} (h : WRow w v L) : Ints w v L := by
  refine ⟨(Sl.own h.row).congr (fun i hi j hj => ?_), h.wi⟩
  obtain rfl : j = 0 := by omega
  simp [iv, hi, List.getD]
theorem WRow.upd {w w' : World} {v : Value} {L : List Int} {S : Nat → Prop} (h : WRow w v L) (hu : Upd S w w') (hS : ∀ k, v.ownBlock = some k → ¬ S k) : WRow w' v L := ⟨ownsRow_upd h.row hu hS, h.wi⟩

/-- a world before, and the blocks of it that may have turned since -/
structure Gnd where
  w0 : World
  S : Nat → Prop
def Gnd.may (W : Gnd) (k : Nat) : Prop := W.S k ∨ W.w0.heap.size ≤ k
def Off (W : Gnd) (v : Value) : Prop := ∀ k, v.ownBlock = some k → W.may k
/-- a maker at b, all of it in memory behind W; its depth; so much was used up at most -/
structure MkAt (t : TypeId) (W : Gnd) (w : World) (b : Nat) (d : Int) (c : Nat) (cv nv kv : Value) (C : List InsM) (Ns Ks : List Int) (at' : Int) : Prop where
  box : Is5 t w b cv nv (.int .i64 at') kv (.int .i64 d)
  code : CRow w cv C
  ns : WRow w nv Ns
  ks : WRow w kv Ks
  new : W.may b
  fc : Off W cv
  fn : Off W nv
  fk : Off W kv
  below : Upd W.S W.w0 w
  at0 : 0 ≤ at'
  atc : at' ≤ c
  len : C.length ≤ c
  nsl : Ns.length ≤ 140737488355328
  ksl : Ks.length ≤ 1000
  ty : t ≠ 3 ∧ t ≠ 41
def Mk (t : TypeId) (W : Gnd) (w : World) (b : Nat) (d : Int) (c : Nat) : Prop := ∃ cv nv kv C Ns Ks at', MkAt t W w b d c cv nv kv C Ns Ks at'
section
variable {t : TypeId} {W : Gnd} {w w' : World} {b : Nat} {d : Int} {c : Nat} {cv nv kv : Value} {C : List InsM} {Ns Ks : List Int} {at' : Int}
theorem upd_of_new {T : Nat → Prop} (h : Upd W.S W.w0 w) (hu : Upd T w w') (hT : ∀ k, T k → W.may k) : Upd W.S W.w0 w' :=
  h.trans hu (fun i hi hl => (hT i hi).resolve_right (by omega))
theorem MkAt.mono {T : Nat → Prop} (h : MkAt t W w b d c cv nv kv C Ns Ks at') (hu : Upd T w w') (hT : ∀ k, T k → w.heap.size ≤ k) : MkAt t W w' b d c cv nv kv C Ns Ks at' :=
  ⟨h.box.upd hu (fun hb => by have := h.box.lt; have := hT _ hb; omega), h.code.upd hu (fun k hk hT' => by have := (h.code.row.lt k hk).2; have := hT k hT'; omega), h.ns.upd hu (fun k hk hT' => by have := (h.ns.row.lt k hk).2; have := hT k hT'; omega), h.ks.upd hu (fun k hk hT' => by have := (h.ks.row.lt k hk).2; have := hT k hT'; omega),
    h.new, h.fc, h.fn, h.fk, upd_of_new h.below hu (fun k hk => .inr (Nat.le_trans h.below.size (hT k hk))), h.at0, h.atc, h.len, h.nsl, h.ksl, h.ty⟩
theorem MkAt.more {c' : Nat} (h : MkAt t W w b d c cv nv kv C Ns Ks at') (hc : c ≤ c') : MkAt t W w b d c' cv nv kv C Ns Ks at' :=
  ⟨h.box, h.code, h.ns, h.ks, h.new, h.fc, h.fn, h.fk, h.below, h.at0, by have := h.atc; omega, Nat.le_trans h.len hc, h.nsl, h.ksl, h.ty⟩
theorem Mk.more {c' : Nat} (h : Mk t W w b d c) (hc : c ≤ c') : Mk t W w b d c' := by
  obtain ⟨cv, nv, kv, C, Ns, Ks, a, h⟩ := h
  exact ⟨cv, nv, kv, C, Ns, Ks, a, h.more hc⟩
theorem Mk.mono (h : Mk t W w b d c) (hu : Upd (fun _ => False) w w') : Mk t W w' b d c := by
  obtain ⟨cv, nv, kv, C, Ns, Ks, a, h⟩ := h
  exact ⟨cv, nv, kv, C, Ns, Ks, a, h.mono hu (fun _ h => h.elim)⟩
/-- one of its five cells set -/
theorem MkAt.ne (h : MkAt t W w b d c cv nv kv C Ns Ks at') : cv.ownBlock ≠ some b ∧ nv.ownBlock ≠ some b ∧ kv.ownBlock ≠ some b :=
  ⟨row_blk h.code.row h.box (Ne.symm h.ty.2), row_blk h.ns.row h.box (Ne.symm h.ty.1), row_blk h.ks.row h.box (Ne.symm h.ty.1)⟩
theorem MkAt.setAt (h : MkAt t W w b d c cv nv kv C Ns Ks at') (a : Int) (h0 : 0 ≤ a) (h1 : a ≤ (c : Int) + 1) : MkAt t W (w.setCell ⟨b, 2, none⟩ (.int .i64 a)) b d (c + 1) cv nv kv C Ns Ks a := by
  have hu := box_upd w b 2 (.int .i64 a)
  obtain ⟨n1, n2, n3⟩ := h.ne
  exact ⟨h.box.set2 _, h.code.upd hu (fun k hk e => n1 (by rw [hk, e])), h.ns.upd hu (fun k hk e => n2 (by rw [hk, e])), h.ks.upd hu (fun k hk e => n3 (by rw [hk, e])), h.new, h.fc, h.fn, h.fk, upd_of_new h.below hu (fun k hk => hk ▸ h.new), h0, by omega, by have := h.len; omega, h.nsl, h.ksl, h.ty⟩
/-- the code's row grown, and stored -/
theorem MkAt.grow (h : MkAt t W w b d c cv nv kv C Ns Ks at') {v' : Value} {x : InsM} (hu : Upd (fun k => cv.ownBlock = some k) w w') (hr : CRow w' v' (C ++ [x])) (hf : Off W v') :
    Is5 t w' b cv nv (.int .i64 at') kv (.int .i64 d) ∧ MkAt t W (w'.setCell ⟨b, 0, none⟩ v') b d (c + 1) v' nv kv (C ++ [x]) Ns Ks at' := by
  obtain ⟨n1, n2, n3⟩ := h.ne
  have hb := h.box.upd hu n1
  have hn := h.ns.upd hu (fun k hk hk' => row_ne h.ns.row h.code.row (by decide) k hk hk')
  have hk := h.ks.upd hu (fun k hk hk' => row_ne h.ks.row h.code.row (by decide) k hk hk')
  have hu2 := box_upd w' b 0 v'
  have n4 := row_blk hr.row hb (Ne.symm h.ty.2)
  refine ⟨hb, hb.set0 _, hr.upd hu2 (fun k hk e => n4 (by rw [hk, e])), hn.upd hu2 (fun k hk e => n2 (by rw [hk, e])), hk.upd hu2 (fun k hk e => n3 (by rw [hk, e])), h.new, hf, h.fn, h.fk, ?_, h.at0, by have := h.atc; omega, ?_, h.nsl, h.ksl, h.ty⟩
  · exact upd_of_new (upd_of_new h.below hu (fun k hk => h.fc k hk)) hu2 (fun k hk => hk ▸ h.new)
  · rw [List.length_append]
    have := h.len
    simp
    omega
theorem MkAt.setDeep (h : MkAt t W w b d c cv nv kv C Ns Ks at') (a : Int) : MkAt t W (w.setCell ⟨b, 4, none⟩ (.int .i64 a)) b a c cv nv kv C Ns Ks at' := by
  have hu := box_upd w b 4 (.int .i64 a)
  obtain ⟨n1, n2, n3⟩ := h.ne
  exact ⟨h.box.set4 _, h.code.upd hu (fun k hk e => n1 (by rw [hk, e])), h.ns.upd hu (fun k hk e => n2 (by rw [hk, e])), h.ks.upd hu (fun k hk e => n3 (by rw [hk, e])), h.new, h.fc, h.fn, h.fk, upd_of_new h.below hu (fun k hk => hk ▸ h.new), h.at0, h.atc, h.len, h.nsl, h.ksl, h.ty⟩
end

set_option maxRecDepth 100000 in
set_option maxHeartbeats 2000000 in
theorem mPut (W : Gnd) (w : World) (b : Nat) (d : Int) (c : Nat) (op a' b' : Int) (h : Mk 62 W w b d c) (hc : c ≤ 1000000000) (ho : wi64 op) (ha : wi64 a') (hb : wi64 b') :
    Calls Tryz.prog 28 #[.pointer (some ⟨b, 0, none⟩), .int .i64 op, .int .i64 a', .int .i64 b'] w fun e w' => e = .returned (.tuple #[]) ∧ Mk 62 W w' b d (c + 1) := by
  obtain ⟨i0, hi, hz0, hz1, hz2⟩ := info_parts infoIns
  obtain ⟨cv, nv, kv, C, Ns, Ks, at', h⟩ := h
  obtain ⟨ca, cc, rfl⟩ := ownsRow_slice h.code.row
  have H := Lib.hid h
  have HW := Lib.hid (And.intro ho (And.intro ha hb))
  have c0 := h.box.c0
  have hlen := h.len
  have HSRC := Lib.hid (srcAt w 41 #[.int .i64 op, .int .i64 a', .int .i64 b'] (icl ⟨op, a', b'⟩) rfl 3 (by simp [icl, Value.oneCell']) 1 1 w.heap.size rfl rfl)
  clear h ho ha hb
  go_enter Tryz.func28, Tryz.ntmps28
  go_wp2_with (at_builtin; go_loud (refine wpList_append_mine _ rfl _ _ 37 rfl 0 41 i0 (.agg #[.int .i64 0, .int .i64 0, .int .i64 0]) 3 24 Tryz.underlying37 hi hz0 hz1 hz2 rfl (by decide) (.slice ca C.length cc) C.length (C.flatMap icl) rfl (H.out.code.row.alloc _) 1 (icl ⟨op, a', b'⟩) HSRC.out (by unfold maxLen; omega) (by omega) (Nat.zero_le _) ?_))
  intro v7 w7 ho hg hf
  have hu7 := Upd.row (Upd.alloc _ w _) hg
  obtain ⟨va, vc, rfl⟩ := ownsRow_slice ho
  have hF7 : Off W (.slice va (C.length + 1) vc) := fun j hj => by
    rcases hf j hj with h | h
    · exact H.out.fc j h
    · exact .inr (by have := H.out.below.size; simp at h; omega)
  have hR7 : CRow w7 (.slice va (C.length + 1) vc) (C ++ [⟨op, a', b'⟩]) := ⟨by
    rw [List.length_append, List.flatMap_append]
    simpa using ho, fun x hx => by
    rcases List.mem_append.1 hx with h | h
    · exact H.out.code.wi x h
    · simp at h; rw [h]; exact HW.out⟩
  obtain ⟨hB, hM⟩ := H.out.grow hu7 hR7 hF7
  have HM := Lib.hid hM
  have c7 := hB.c0
  have f7 := hB.fr 0
  clear ho hg hf hu7 hF7 hR7 hB hM c0
  go_wp2_with fail
  go_end0
  exact ⟨rfl, _, _, _, _, _, _, _, HM.out⟩

theorem wf_of {n : Int} (h : wi64 n) : (Lit.int .i64 n).wf = true := by
  unfold wi64 at h
  exact WalkArith.wf_i64 (by omega)
theorem wi_of {n : Int} (h : (Lit.int .i64 n).wf = true) : wi64 n := by
  have := bounds_i64 h
  unfold wi64
  omega
theorem wi_wrap (n : Int) : wi64 (IntKind.i64.wrap n) := by
  exact wi_of (wf_wrap .i64 n)

set_option maxRecDepth 100000 in
set_option maxHeartbeats 2000000 in
theorem mNext (W : Gnd) (w : World) (b : Nat) (d : Int) (c : Nat) (h : Mk 62 W w b d c) (hc : c ≤ 1000000000) :
    Calls Tryz.prog 72 #[.pointer (some ⟨b, 0, none⟩)] w fun e w' => ∃ n, e = .returned (.int .i64 n) ∧ wi64 n ∧ Upd (fun k => k = b) w w' ∧ Mk 62 W w' b d (c + 1) := by
  obtain ⟨cv, nv, kv, C, Ns, Ks, at', h⟩ := h
  obtain ⟨na, nc, rfl⟩ := ownsRow_slice h.ns.row
  have H := Lib.hid h
  have c1 := h.box.c1
  have c2 := h.box.c2
  have f2 := h.box.fr 2
  have h0 := h.at0
  have h1 := h.atc
  have hns := h.nsl
  by_cases hl : Ns.length = 0
  · have hb : ((Ns.length : Int) == 0) = true := by simp [hl]
    clear h
    go_enter Tryz.func72, Tryz.ntmps72
    go_wp2_with fail
    go_ret
    exact ⟨_, rfl, by unfold wi64; omega, Upd.refl _ _, _, _, _, _, _, _, _, H.out.more (Nat.le_succ _)⟩
  · have hb : ((Ns.length : Int) == 0) = false := beq_eq_false_iff_ne.2 (by omega)
    have hM := h.setAt (at' + 1) (by omega) (by omega)
    have HM := Lib.hid hM
    have hpos : 0 < Ns.length := by omega
    have hr0 : 0 ≤ (at' + 1) % (Ns.length : Int) := Int.emod_nonneg _ (by omega)
    have hr1 : (at' + 1) % (Ns.length : Int) < (Ns.length : Int) := Int.emod_lt_of_pos _ (by omega)
    obtain ⟨k, hk⟩ : ∃ k : Nat, (at' + 1) % (Ns.length : Int) = k := ⟨((at' + 1) % (Ns.length : Int)).toNat, by omega⟩
    have hlt : k < Ns.length := by omega
    obtain ⟨g, off, rfl, hc', hwi⟩ := hM.ns.ints.at hlt
    obtain ⟨n, hn⟩ : ∃ n, n = Ns.getD k 0 := ⟨_, rfl⟩
    rw [← hn] at hc' hwi
    have hmod : (at' + 1).tmod (Ns.length : Int) = (k : Int) := by rw [Int.tmod_eq_emod_of_nonneg (by omega)]; exact hk
    have d1 := hM.box.c1
    have d2 := hM.box.c2
    have hk0 : (0 : Int) ≤ (k : Int) := Int.natCast_nonneg _
    have hk1 : (k : Int) < (Ns.length : Int) := by omega
    have hsum : IntKind.i64.wrap (at' + 1) = at' + 1 := IntWalk.i64_in _ (by omega)
    clear h hM hn hwi hk hr0 hr1 hl
    go_enter Tryz.func72, Tryz.ntmps72
    go_wp2_with fail
    go_quiet (fail)
    go_wp2_with fail
    go_ret
    refine ⟨_, rfl, ?_, (box_upd _ _ _ _).trans (upd_drawn _ _) (fun _ h _ => h.elim), _, _, _, _, _, _, _, HM.out.mono (upd_drawn _ _) (fun _ h => h.elim)⟩
    first
      | exact wi_wrap _
      | exact wi_of (wrap64_wf _)

/-- two rows of numbers -/
def nthI (L : List Int) (k : Nat) : Int := L.getD k 0
set_option maxRecDepth 100000 in
set_option maxHeartbeats 2000000 in
theorem mLocal (W : Gnd) (w : World) (b : Nat) (d : Int) (c : Nat) (kind : Int) (h : Mk 62 W w b d c) (hc : c ≤ 1000000000) :
    Calls Tryz.prog 73 #[.pointer (some ⟨b, 0, none⟩), .int .i64 kind] w fun e w' => ∃ n ok, e = .returned (.tuple #[.int .i64 n, .bool ok]) ∧ wi64 n ∧ Mk 62 W w' b d (c + 1) := by
  obtain ⟨i0, hi, hz0, hz1, hz2⟩ := info_parts infoInt
  obtain ⟨cv, nv, kv, C, Ns, Ks, at', h⟩ := h
  obtain ⟨ka, kc, rfl⟩ := ownsRow_slice h.ks.row
  have H := Lib.hid h
  have hks := h.ksl
  have HU0 := Lib.hid (Upd.refl (fun k => w.heap.size ≤ k) w)
  have HR0 : Hid (WRow w (.slice none 0 0) []) := Lib.hid ⟨World.ownsRow_nil _ _ _ _, by simp⟩
  have HF0 : Hid (From w.heap.size (.slice none 0 0)) := Lib.hid (by simp [From, Value.ownBlock])
  clear h
  go_enter Tryz.func73, Tryz.ntmps73
  go_wp2_with fail
  go_loopw [7, 6] (fun i lv wr => ∃ (k n : Nat) (la : Option Addr) (lc : Nat) (L : List Int), k ≤ Ks.length ∧ n ≤ k ∧ i = .int .i64 k ∧ lv = .slice la n lc ∧ Hid (L.length = n) ∧ Hid (Upd (fun k => w.heap.size ≤ k) w wr) ∧ Hid (WRow wr lv L) ∧ Hid (From w.heap.size lv)) (fun i _ _ => Ks.length - (intOf i).toNat)
  case atStart => exact ⟨0, 0, none, 0, [], Nat.zero_le _, Nat.le_refl _, rfl, rfl, Lib.hid rfl, HU0, HR0, HF0⟩
  case round =>
    obtain ⟨k, n, la, lc, L, hk, hnk, rfl, rfl, HL, HU, HR, HF⟩ := hrel
    have HM := Lib.hid (H.out.mono HU.out (fun k h => h))
    have c3 := HM.out.box.c3
    by_cases hlt : k < Ks.length
    · obtain ⟨g, off, rfl, hcell, hwi⟩ := HM.out.ks.ints.at hlt
      obtain ⟨m, hm⟩ : ∃ m, m = Ks.getD k 0 := ⟨_, rfl⟩
      rw [← hm] at hcell
      clear hm hwi
      cases hq : (m == kind) with
      | false =>
        go_wp2_with fail
        go_roundw
        case rel => exact ⟨k + 1, n, la, lc, L, by omega, by omega, by go_num, rfl, HL, HU, HR, HF⟩
        case measure => simp [intOf]; omega
      | true =>
        have hrow := HR.out.row
        rw [HL.out] at hrow
        have HROW := Lib.hid hrow
        clear hrow
        go_wp2_with (at_builtin; go_loud (refine wpList_append_mine _ rfl _ _ 23 rfl 0 3 i0 (.int .i64 0) 1 8 Tryz.underlying23 hi hz0 hz1 hz2 rfl (by decide) (.slice la n lc) n (iv L) rfl (HROW.out.alloc _) 1 [.int .i64 k] (srcN wr 3 #[.int .i64 k] 1 (by simp [Value.oneCell']) 1 _ rfl) (by unfold maxLen; omega) (by omega) (Nat.zero_le _) ?_))
        intro v7 w7 ho hg hf
        have hu7 := Upd.row (Upd.alloc _ wr _) hg
        obtain ⟨va, vc, rfl⟩ := ownsRow_slice ho
        have HF7 : Hid (From w.heap.size (.slice va (n + 1) vc)) := Lib.hid (fun j hj => by
          rcases hf j hj with h | h
          · exact HF.out j h
          · have := HU.out.size; simp at h; omega)
        have HR7 : Hid (WRow w7 (.slice va (n + 1) vc) (L ++ [(k : Int)])) := Lib.hid ⟨by
          rw [List.length_append, HL.out]
          simpa [iv] using ho, fun x hx => by
          rcases List.mem_append.1 hx with h | h
          · exact HR.out.wi x h
          · simp at h; rw [h]; unfold wi64; omega⟩
        have HU7 := Lib.hid (HU.out.trans (hu7.mono (T := fun k => w.heap.size ≤ k) (fun i hi _ => HF.out i hi)) (fun _ h _ => h))
        have HL7 : Hid ((L ++ [(k : Int)]).length = n + 1) := Lib.hid (by rw [List.length_append, HL.out]; rfl)
        clear ho hg hf hu7 c3 hcell
        go_wp2_with fail
        go_roundw
        case rel => exact ⟨k + 1, n + 1, _, _, _, by omega, by omega, by go_num, rfl, HL7, HU7, HR7, HF7⟩
        case measure => simp [intOf]; omega
    · by_cases hn0 : n = 0
      · have hb : ((n : Int) == 0) = true := by simp [hn0]
        go_wp2_with fail
        go_ret2
        exact ⟨_, _, rfl, by unfold wi64; omega, _, _, _, _, _, _, _, HM.out.more (Nat.le_succ _)⟩
      · have hb : ((n : Int) == 0) = false := beq_eq_false_iff_ne.2 (by omega)
        have HMK : Hid (Mk 62 W wr b d c) := Lib.hid ⟨_, _, _, _, _, _, _, HM.out⟩
        go_wp2_with fail
        refine (mNext W wr b d c HMK.out hc).mono ?_
        rintro e w2 ⟨x, rfl, hx, hu2, hM2⟩
        have HM2 := Lib.hid hM2
        have hlt := H.out.box.lt
        have HR2 := Lib.hid (HR.out.upd hu2 (fun j hj hj2 => by have := HF.out j hj; omega))
        have hm0 : 0 ≤ x % (n : Int) := Int.emod_nonneg _ (by omega)
        have hm1 : x % (n : Int) < (n : Int) := Int.emod_lt_of_pos _ (by omega)
        obtain ⟨m, hm⟩ : ∃ m : Nat, x % (n : Int) = m := ⟨(x % (n : Int)).toNat, by omega⟩
        rw [hm] at hm0 hm1
        have HMM := Lib.hid hm
        clear hx hM2 hu2 hm
        go_wp2_with fail
        refine (hPick x n _ (by omega) (by omega)).mono ?_
        rw [HMM.out]
        rintro e w3 ⟨rfl, rfl⟩
        have hmn : m < L.length := by rw [HL.out]; omega
        obtain ⟨g, off, rfl, hcell, hwi⟩ := HR2.out.ints.at hmn
        obtain ⟨y, hy⟩ : ∃ y, y = L.getD m 0 := ⟨_, rfl⟩
        rw [← hy] at hcell hwi
        have HWI := Lib.hid hwi
        clear hy hwi hmn
        go_wp2_with fail
        go_ret2
        exact ⟨_, _, rfl, HWI.out, HM2.out⟩
end Go.Proofs.YtmikibcgphkcfaaGreatDoor

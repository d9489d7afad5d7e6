/- The hand's maker without numbers: what it puts is right. The hand's Code, and Applet, of no raw statements: what is laid is right. -/
import Derived.Test.YtbjmmdomdijilabDoorMq
import Derived.Test.YtbjmmdomdijilabDoorMs
import Derived.Test.YtbjmmdomdijilabDoorIs
import Derived.Test.YtbjmmdomdijilabDoorMu
import Derived.Deep.RegionLaw
import Derived.Deep.Cut
import Derived.Deep.CutRange
import Derived.Deep.DeepCutAuto
namespace Go.Proofs.YtbjmmdomdijilabDoor
section
open Go.RowKit Go.Lib
set_option linter.unusedVariables false
set_option linter.unusedSimpArgs false

theorem ins_parts9 {x : InsM} (h : insB x = true) : (1 ≤ x.op ∧ x.op ≤ 39) ∧ (-9999999999 ≤ x.a ∧ x.a ≤ 9999999999) ∧ (-9999999999 ≤ x.b ∧ x.b ≤ 9999999999) ∧ True ∧ True := by
  have h := (right_iff x.op x.a x.b).1 h
  obtain ⟨h1, h2, h3, h4, h5⟩ := h
  refine ⟨⟨h1, h2⟩, ?_, by omega, trivial, trivial⟩
  unfold lowB at h3
  unfold highB at h4
  constructor
  · repeat (first | omega | split at h3)
  · repeat (first | omega | split at h4)
/-- a maker without numbers, whose code of m instructions is right -/
def MkR (W : Gnd) (w : World) (b : Nat) (d : Int) (c m : Nat) : Prop := ∃ cv nv kv C Ks at', MkAt 69 W w b d c cv nv kv C [] Ks at' ∧ (∀ x ∈ C, insB x = true) ∧ C.length = m ∧ Ks.length ≤ 10
theorem MkR.deep {W : Gnd} {w : World} {b : Nat} {d : Int} {c m : Nat} (h : MkR W w b d c m) : w.cell? ⟨b, 4, none⟩ = some (.int .i64 d) ∧ w.frozen? ⟨b, 4, none⟩ = false := by
  obtain ⟨_, _, _, _, _, _, h, -⟩ := h
  exact ⟨h.box.c4, h.box.fr 4⟩
theorem MkR.setDeep {W : Gnd} {w : World} {b : Nat} {d : Int} {c m : Nat} (h : MkR W w b d c m) (a : Int) : MkR W (w.setCell ⟨b, 4, none⟩ (.int .i64 a)) b a c m := by
  obtain ⟨cv, nv, kv, C, Ks, at', h, h2⟩ := h
  exact ⟨cv, nv, kv, C, Ks, at', h.setDeep a, h2⟩
set_option maxRecDepth 100000 in
set_option maxHeartbeats 2000000 in
theorem mNextR (W : Gnd) (w : World) (b : Nat) (d : Int) (c m : Nat) (h : MkR W w b d c m) : Calls Tryd.prog 73 #[.pointer (some ⟨b, 0, none⟩)] w fun e w' => e = .returned (.int .i64 0) ∧ w = w' := by
  obtain ⟨cv, nv, kv, C, Ks, at', h, -⟩ := h
  obtain ⟨na, nc, rfl⟩ := ownsRow_slice h.ns.row
  have c1 := h.box.c1
  have hb : ((([] : List Int).length : Int) == 0) = true := rfl
  clear h
  go_enter Tryd.func73, Tryd.ntmps73
  go_wp2_with fail
  go_ret
  exact ⟨rfl, rfl⟩
set_option maxRecDepth 100000 in
set_option maxHeartbeats 2000000 in
theorem mPutR (W : Gnd) (w : World) (b : Nat) (d : Int) (c m : Nat) (op a' b' : Int) (h : MkR W w b d c m) (hc : c ≤ 1000000000) (hi9 : insB ⟨op, a', b'⟩ = true) :
    Calls Tryd.prog 24 #[.pointer (some ⟨b, 0, none⟩), .int .i64 op, .int .i64 a', .int .i64 b'] w fun e w' => e = .returned (.tuple #[]) ∧ MkR W w' b d (c + 1) (m + 1) := by
  obtain ⟨i0, hi, hz0, hz1, hz2⟩ := info_parts infoIns
  obtain ⟨cv, nv, kv, C, Ks, at', h, hr9, hm9, hk9⟩ := h
  have HR9 := Lib.hid (And.intro hr9 (And.intro hm9 hk9))
  obtain ⟨p1, p2, p3, -, -⟩ := ins_parts9 hi9
  dsimp only at p1 p2 p3
  have ho : wi64 op := by unfold wi64; omega
  have ha : wi64 a' := by unfold wi64; omega
  have hb : wi64 b' := by unfold wi64; omega
  have HI9 := Lib.hid hi9
  clear hr9 hm9 hk9 p1 p2 p3 hi9
  obtain ⟨ca, cc, rfl⟩ := ownsRow_slice h.code.row
  have H := Lib.hid h
  have HW := Lib.hid (And.intro ho (And.intro ha hb))
  have c0 := h.box.c0
  have hlen := h.len
  have HSRC := Lib.hid (srcAt w 64 #[.int .i64 op, .int .i64 a', .int .i64 b'] (icl ⟨op, a', b'⟩) rfl 3 (by simp [icl, Value.oneCell']) 1 1 w.heap.size rfl rfl)
  clear h ho ha hb
  go_enter Tryd.func24, Tryd.ntmps24
  go_wp2_with (at_builtin; go_loud (refine wpList_append_mine _ rfl _ _ 43 rfl 0 64 i0 (.agg #[.int .i64 0, .int .i64 0, .int .i64 0]) 3 24 Tryd.underlying43 hi hz0 hz1 hz2 rfl (by decide) (.slice ca C.length cc) C.length (C.flatMap icl) rfl (H.out.code.row.alloc _) 1 (icl ⟨op, a', b'⟩) HSRC.out (by unfold maxLen; omega) (by omega) (Nat.zero_le _) ?_))
  intro v7 w7 ho hg hf
  have hu7 := Upd.row (Upd.alloc _ w _) hg
  obtain ⟨va, vc, rfl⟩ := ownsRow_slice ho
  have hF7 : Off W (.slice va (C.length + 1) vc) := fun j hj => by
    rcases hf j hj with h | h
    · exact H.out.fc j h
    · exact .inr (by have := H.out.below.size; simp at h; omega)
  have hR7 : CRow w7 (.slice va (C.length + 1) vc) (C ++ [⟨op, a', b'⟩]) := ⟨by
    rw [List.length_append, List.flatMap_append]
    simpa using ho, fun x hx => by
    rcases List.mem_append.1 hx with h | h
    · exact H.out.code.wi x h
    · simp at h; rw [h]; exact HW.out⟩
  obtain ⟨hB, hM⟩ := H.out.grow hu7 hR7 hF7
  have HM := Lib.hid hM
  have c7 := hB.c0
  have f7 := hB.fr 0
  clear ho hg hf hu7 hF7 hR7 hB hM c0
  go_wp2_with fail
  go_end0
  exact ⟨rfl, _, _, _, _, _, _, HM.out, fun x hx => by
    rcases List.mem_append.1 hx with h | h
    · exact HR9.out.1 x h
    · simp at h; rw [h]; exact HI9.out, by rw [List.length_append, HR9.out.2.1]; rfl, HR9.out.2.2⟩

set_option maxRecDepth 100000 in
set_option maxHeartbeats 2000000 in
theorem mLocalR (W : Gnd) (w : World) (b : Nat) (d : Int) (c m0 : Nat) (kind : Int) (h : MkR W w b d c m0) (hc : c ≤ 1000000000) :
    Calls Tryd.prog 74 #[.pointer (some ⟨b, 0, none⟩), .int .i64 kind] w fun e w' => ∃ n ok, e = .returned (.tuple #[.int .i64 n, .bool ok]) ∧ (0 ≤ n ∧ n ≤ 9) ∧ MkR W w' b d c m0 := by
  obtain ⟨i0, hi, hz0, hz1, hz2⟩ := info_parts infoInt
  obtain ⟨cv, nv, kv, C, Ks, at', h, hr9, hm9, hk9⟩ := h
  have HR9 := Lib.hid (And.intro hr9 (And.intro hm9 hk9))
  clear hr9 hm9
  obtain ⟨ka, kc, rfl⟩ := ownsRow_slice h.ks.row
  have H := Lib.hid h
  have hks := h.ksl
  have HU0 := Lib.hid (Upd.refl (fun k => w.heap.size ≤ k) w)
  have HR0 : Hid (WRow w (.slice none 0 0) [] ∧ ∀ x ∈ ([] : List Int), 0 ≤ x ∧ x ≤ 9) := Lib.hid ⟨⟨World.ownsRow_nil _ _ _ _, by simp⟩, by simp⟩
  have HF0 : Hid (From w.heap.size (.slice none 0 0)) := Lib.hid (by simp [From, Value.ownBlock])
  clear h
  go_enter Tryd.func74, Tryd.ntmps74
  go_wp2_with fail
  go_loopw [7, 6] (fun i lv wr => ∃ (k n : Nat) (la : Option Addr) (lc : Nat) (L : List Int), k ≤ Ks.length ∧ n ≤ k ∧ i = .int .i64 k ∧ lv = .slice la n lc ∧ Hid (L.length = n) ∧ Hid (Upd (fun k => w.heap.size ≤ k) w wr) ∧ Hid (WRow wr lv L ∧ ∀ x ∈ L, 0 ≤ x ∧ x ≤ 9) ∧ Hid (From w.heap.size lv)) (fun i _ _ => Ks.length - (RowKit.intOf i).toNat)
  case atStart => exact ⟨0, 0, none, 0, [], Nat.zero_le _, Nat.le_refl _, rfl, rfl, Lib.hid rfl, HU0, HR0, HF0⟩
  case round =>
    obtain ⟨k, n, la, lc, L, hk, hnk, rfl, rfl, HL, HU, HR, HF⟩ := hrel
    have HM := Lib.hid (H.out.mono HU.out (fun k h => h))
    have c3 := HM.out.box.c3
    by_cases hlt : k < Ks.length
    · obtain ⟨g, off, rfl, hcell, hwi⟩ := HM.out.ks.ints.at hlt
      obtain ⟨m, hm⟩ : ∃ m, m = Ks.getD k 0 := ⟨_, rfl⟩
      rw [← hm] at hcell
      clear hm hwi
      cases hq : (m == kind) with
      | false =>
        go_wp2_with fail
        go_roundw
        case rel => exact ⟨k + 1, n, la, lc, L, by omega, by omega, by go_num, rfl, HL, HU, HR, HF⟩
        case measure => simp [RowKit.intOf]; omega
      | true =>
        have hrow := HR.out.1.row
        rw [HL.out] at hrow
        have HROW := Lib.hid hrow
        clear hrow
        go_wp2_with (at_builtin; go_loud (refine wpList_append_mine _ rfl _ _ 22 rfl 0 3 i0 (.int .i64 0) 1 8 Tryd.underlying22 hi hz0 hz1 hz2 rfl (by decide) (.slice la n lc) n (iv L) rfl (HROW.out.alloc _) 1 [.int .i64 k] (srcN wr 3 #[.int .i64 k] 1 (by simp [Value.oneCell']) 1 _ rfl) (by unfold maxLen; omega) (by omega) (Nat.zero_le _) ?_))
        intro v7 w7 ho hg hf
        have hu7 := Upd.row (Upd.alloc _ wr _) hg
        obtain ⟨va, vc, rfl⟩ := ownsRow_slice ho
        have HF7 : Hid (From w.heap.size (.slice va (n + 1) vc)) := Lib.hid (fun j hj => by
          rcases hf j hj with h | h
          · exact HF.out j h
          · have := HU.out.size; simp at h; omega)
        have HR7 : Hid (WRow w7 (.slice va (n + 1) vc) (L ++ [(k : Int)]) ∧ ∀ x ∈ L ++ [(k : Int)], 0 ≤ x ∧ x ≤ 9) := Lib.hid ⟨⟨by
          rw [List.length_append, HL.out]
          simpa [iv] using ho, fun x hx => by
          rcases List.mem_append.1 hx with h | h
          · exact HR.out.1.wi x h
          · simp at h; rw [h]; unfold wi64; omega⟩, fun x hx => by
          rcases List.mem_append.1 hx with h | h
          · exact HR.out.2 x h
          · simp at h; rw [h]; omega⟩
        have HU7 := Lib.hid (HU.out.trans (hu7.mono (T := fun k => w.heap.size ≤ k) (fun i hi _ => HF.out i hi)) (fun _ h _ => h))
        have HL7 : Hid ((L ++ [(k : Int)]).length = n + 1) := Lib.hid (by rw [List.length_append, HL.out]; rfl)
        clear ho hg hf hu7 c3 hcell
        go_wp2_with fail
        go_roundw
        case rel => exact ⟨k + 1, n + 1, _, _, _, by omega, by omega, by go_num, rfl, HL7, HU7, HR7, HF7⟩
        case measure => simp [RowKit.intOf]; omega
    · by_cases hn0 : n = 0
      · have hb : ((n : Int) == 0) = true := by simp [hn0]
        go_wp2_with fail
        go_ret2
        exact ⟨_, _, rfl, ⟨by omega, by omega⟩, _, _, _, _, _, _, HM.out, HR9.out⟩
      · have hb : ((n : Int) == 0) = false := beq_eq_false_iff_ne.2 (by omega)
        have HMK : Hid (MkR W wr b d c m0) := Lib.hid ⟨_, _, _, _, _, _, HM.out, HR9.out⟩
        go_wp2_with fail
        refine (mNextR W wr b d c m0 HMK.out).mono ?_
        rintro e _ ⟨rfl, rfl⟩
        have hm0 : (0 : Int) % (n : Int) = 0 := Int.zero_emod _
        have HMM := Lib.hid hm0
        clear hm0
        go_wp2_with fail
        refine (hPick 0 n _ (by omega) (by omega)).mono ?_
        rw [HMM.out]
        rintro e w3 ⟨rfl, rfl⟩
        have hmn : 0 < L.length := by rw [HL.out]; omega
        obtain ⟨g, off, rfl, hcell, hwi⟩ := HR.out.1.ints.at hmn
        have hrg := HR.out.2 _ (mem_getD0 (L := L) (k := 0) hmn)
        obtain ⟨y, hy⟩ : ∃ y, y = L.getD 0 0 := ⟨_, rfl⟩
        rw [← hy, Nat.add_zero] at hcell
        rw [← hy] at hrg
        have HRG := Lib.hid hrg
        have hnp : (0 : Int) < (n : Int) := by omega
        clear hy hwi hmn hrg
        go_wp2_with fail
        go_ret2
        exact ⟨_, _, rfl, HRG.out, HMK.out⟩
set_option maxRecDepth 100000 in
set_option maxHeartbeats 2000000 in
theorem mArrR (W : Gnd) (w : World) (b : Nat) (d : Int) (c m : Nat) (kind : Int) (h : MkR W w b d c m) (hc : c ≤ 900000000) (k3 : 3 ≤ kind) (k4 : kind ≤ 4) :
    Calls Tryd.prog 47 #[.pointer (some ⟨b, 0, none⟩), .int .i64 kind] w fun e w' => e = .returned (.tuple #[]) ∧ MkR W w' b d (c + 1) (m + 1) := by
  have HM := Lib.hid h
  have HP6 := Lib.hid (fun u => hPick 0 6 u (by omega) (by omega))
  clear h
  go_enter Tryd.func47, Tryd.ntmps47
  go_wp2_with fail
  refine (mNextR _ _ _ _ _ _ HM.out).mono ?_
  rintro e _ ⟨rfl, rfl⟩
  go_wp2_with fail
  refine (HP6.out _).mono ?_
  rw [show (0 : Int) % 6 = 0 from rfl]
  rintro e _ ⟨rfl, rfl⟩
  go_wp2_with fail
  refine (mLocalR _ _ _ _ _ _ _ HM.out (by omega)).mono ?_
  rintro e w1 ⟨x, ok, rfl, hx, hm⟩
  have HM1 := Lib.hid hm
  have HX := Lib.hid hx
  clear hm hx
  cases ok with
  | true =>
    go_wp2_with fail
    refine (mPutR _ _ _ _ _ _ _ _ _ HM1.out (by omega) ((right_iff _ _ _).2 ⟨by simp, by simp, by show lowB 2 ≤ x; have := HX.out; unfold lowB; simp; omega, by show x ≤ highB 2; have := HX.out; unfold highB; simp; omega, .inl rfl⟩)).mono ?_
    rintro e w2 ⟨rfl, hm⟩
    have HM2 := Lib.hid hm
    clear hm
    go_wp2_with fail
    all_goals
      first
        | go_end0
        | (refine bodyPost_ret (results_none rfl _ _ _) rfl ?_)
      exact ⟨rfl, HM2.out⟩
  | false =>
    go_wp2_with fail
    refine (mPutR _ _ _ _ _ _ _ _ _ HM1.out (by omega) ((right_iff _ _ _).2 ⟨by simp, by simp, by show lowB 25 ≤ kind; unfold lowB; simp; omega, by show kind ≤ highB 25; unfold highB; simp; omega, .inl rfl⟩)).mono ?_
    rintro e w2 ⟨rfl, hm⟩
    have HM2 := Lib.hid hm
    clear hm
    go_wp2_with fail
    all_goals
      first
        | go_end0
        | (refine bodyPost_ret (results_none rfl _ _ _) rfl ?_)
      exact ⟨rfl, HM2.out⟩
set_option maxRecDepth 100000 in
set_option maxHeartbeats 2000000 in
theorem mSecR (W : Gnd) (w : World) (b : Nat) (c m : Nat) (h : MkR W w b 0 c m) (hc : c ≤ 900000000) :
    Calls Tryd.prog 50 #[.pointer (some ⟨b, 0, none⟩)] w fun e w' => e = .returned (.tuple #[]) ∧ MkR W w' b 0 (c + 1) (m + 1) := by
  obtain ⟨c4, f4⟩ := h.deep
  have HM := Lib.hid (h.setDeep 1)
  have HP9 := Lib.hid (fun u => hPick 0 9 u (by omega) (by omega))
  obtain ⟨d4, -⟩ := HM.out.deep
  clear h
  go_enter Tryd.func50, Tryd.ntmps50
  go_wp2_with fail
  refine (mNextR _ _ _ _ _ _ HM.out).mono ?_
  rintro e _ ⟨rfl, rfl⟩
  go_wp2_with fail
  refine (HP9.out _).mono ?_
  rw [show (0 : Int) % 9 = 0 from rfl]
  rintro e _ ⟨rfl, rfl⟩
  go_wp2_with fail
  refine (mLocalR _ _ _ _ _ _ _ HM.out (by omega)).mono ?_
  rintro e w1 ⟨x, ok, rfl, hx, hm⟩
  have HM1 := Lib.hid hm
  have HX := Lib.hid hx
  clear hm hx c4 f4 d4
  cases ok with
  | true =>
    go_wp2_with fail
    refine (mPutR _ _ _ _ _ _ _ _ _ HM1.out (by omega) ((right_iff _ _ _).2 ⟨by simp, by simp, by show lowB 2 ≤ x; have := HX.out; unfold lowB; simp; omega, by show x ≤ highB 2; have := HX.out; unfold highB; simp; omega, .inl rfl⟩)).mono ?_
    rintro e w2 ⟨rfl, hm⟩
    obtain ⟨c4, f4⟩ := hm.deep
    have HM2 := Lib.hid (hm.setDeep 0)
    clear hm
    go_wp2_with fail
    all_goals
      first
        | go_end0
        | (refine bodyPost_ret (results_none rfl _ _ _) rfl ?_)
      exact ⟨rfl, HM2.out⟩
  | false =>
    go_wp2_with fail
    refine (mPutR _ _ _ _ _ _ _ _ _ HM1.out (by omega) (by decide)).mono ?_
    rintro e w2 ⟨rfl, hm⟩
    obtain ⟨c4, f4⟩ := hm.deep
    have HM2 := Lib.hid (hm.setDeep 0)
    clear hm
    go_wp2_with fail
    all_goals
      first
        | go_end0
        | (refine bodyPost_ret (results_none rfl _ _ _) rfl ?_)
      exact ⟨rfl, HM2.out⟩
set_option maxRecDepth 100000 in
theorem mAnyR (W : Gnd) (w : World) (b : Nat) (c m : Nat) (kind : Int) (h : MkR W w b 0 c m) (hc : c ≤ 900000000) (k2 : 2 ≤ kind) (k4 : kind ≤ 4) :
    Calls Tryd.prog 23 #[.pointer (some ⟨b, 0, none⟩), .int .i64 kind] w fun e w' => e = .returned (.tuple #[]) ∧ MkR W w' b 0 (c + 1) (m + 1) := by
  have HM := Lib.hid h
  clear h
  have h1 : (kind == 1) = false := beq_eq_false_iff_ne.2 (by omega)
  by_cases hk : kind = 2
  · have h2 : (kind == 2) = true := by simp [hk]
    clear hk
    go_enter Tryd.func23, Tryd.ntmps23
    go_wp2_with fail
    refine (mSecR _ _ _ _ _ HM.out hc).mono ?_
    rintro e w2 ⟨rfl, hm⟩
    have HM2 := Lib.hid hm
    clear hm
    go_wp2_with fail
    all_goals
      first
        | go_end0
        | (refine bodyPost_ret (results_none rfl _ _ _) rfl ?_)
      exact ⟨rfl, HM2.out⟩
  · have h2 : (kind == 2) = false := beq_eq_false_iff_ne.2 hk
    go_enter Tryd.func23, Tryd.ntmps23
    go_wp2_with fail
    refine (mArrR _ _ _ _ _ _ _ HM.out hc (by omega) k4).mono ?_
    rintro e w2 ⟨rfl, hm⟩
    have HM2 := Lib.hid hm
    clear hm
    go_wp2_with fail
    all_goals
      first
        | go_end0
        | (refine bodyPost_ret (results_none rfl _ _ _) rfl ?_)
      exact ⟨rfl, HM2.out⟩
end

section
open Go.RowKit Go.Lib
set_option linter.unusedVariables false
set_option linter.unusedSimpArgs false

set_option maxRecDepth 100000 in
set_option maxHeartbeats 40000000 in
theorem hCodeR (w : World) (lv mv iv' pv qv cv : Value) (res : Int) (hl : RawsAt w lv [])
    {P Q : List Int} (hp : Src w 1 pv P.length (iv P)) (hq : Src w 1 qv Q.length (iv Q)) (hP : P.length ≤ 5 ∧ ∀ n ∈ P, wi64 n) (hQ : Q.length ≤ 5 ∧ ∀ n ∈ Q, wi64 n) (hr : res = 0 ∨ (2 ≤ res ∧ res ≤ 4))
    {Is : List ImpM} (hiv : Imps w iv' Is) (his : Is.length ≤ 1000) (hip : ∀ i ∈ Is, i.params.length ≤ 3) {Ms : List MetM} (hmv : Mets w mv Ms) (hms : 0 < Ms.length ∧ Ms.length ≤ 1000) (hmp : ∀ m ∈ Ms, m.params.length ≤ 3)
    (hB : Bins ⟨w, fun _ => False⟩) :
    Calls Tryd.prog 11 #[lv, met4 pv res qv cv, mv, iv'] w fun e w' => ∃ v C, e = .returned v ∧ Inss w' v C ∧ (∀ k, v.ownBlock = some k → w.heap.size ≤ k) ∧ (0 < C.length ∧ C.length ≤ 2) ∧ (∀ x ∈ C, insB x = true) ∧ Upd (fun _ => False) w w' := by
  obtain ⟨i0, hi, hz0, hz1, hz2⟩ := info_parts infoInt
  obtain ⟨la, lc, rfl⟩ := hl.slice
  obtain ⟨ma, mc, rfl, -, -⟩ := hmv.slice
  obtain ⟨ia, ic, rfl, -, -⟩ := hiv.slice
  obtain ⟨w1, hw1⟩ : ∃ w1, w1 = w.alloc (.cells #[pv, .int .i64 res, qv, cv] 45) := ⟨_, rfl⟩
  have hua : Upd (fun _ => False) w w1 := hw1 ▸ Upd.alloc _ w _
  have hsz : w1.heap.size = w.heap.size + 1 := by rw [hw1]; simp
  have hx : ∀ w', Upd (fun k => w.heap.size < k) w1 w' → w'.cell? ⟨w.heap.size, 0, none⟩ = some pv ∧ w'.cell? ⟨w.heap.size, 1, none⟩ = some (.int .i64 res) ∧ w'.cell? ⟨w.heap.size, 2, none⟩ = some qv := fun w' hu => by
    have e : ∀ j, w'.cell? ⟨w.heap.size, j, none⟩ = w1.cell? ⟨w.heap.size, j, none⟩ := fun j => hu.cell (p := ⟨w.heap.size, j, none⟩) (by simp; omega) (by simp)
    rw [e 0, e 1, e 2, hw1]
    simp
  have HL := Lib.hid hl
  have HP := Lib.hid hp
  have HQ := Lib.hid hq
  have HPL := Lib.hid hP
  have HQL := Lib.hid hQ
  have HR := Lib.hid hr
  have HIV := Lib.hid hiv
  have HIP := Lib.hid hip
  have HMV := Lib.hid hmv
  have HMP := Lib.hid hmp
  have HB := Lib.hid hB
  have HX := Lib.hid hx
  have HU := Lib.hid hua
  have hP1 := hP.1
  have hQ1 := hQ.1
  have HW := Lib.hid hw1
  have HSZ := Lib.hid hsz
  clear hl hp hq hP hQ hr hiv hip hmv hmp hB hx hua hsz
  go_enter Tryd.func11, Tryd.ntmps11
  go_wp2_with fail
  generalize hX : w.heap.size = X at *
  have HXE := Lib.hid hX
  rw [← HW.out] at *
  clear hw1 hX
  go_cut [9] (fun x wr => ∃ b ka kc nk, x = .pointer (some ⟨b, 0, none⟩) ∧ Hid (nk = P.length + Q.length) ∧ Hid (MkAt 69 ⟨w1, fun _ => False⟩ wr b 0 0 (.slice none 0 0) (.slice none 0 0) (.slice ka nk kc) [] [] (P ++ Q) 0))
  case first =>
    have HSX : Hid (∀ w', Upd (fun k => X < k) w1 w' → w'.cell? ⟨X, 0, none⟩ = some pv ∧ w'.cell? ⟨X, 2, none⟩ = some qv) := Lib.hid (fun w' hu => ⟨(HX.out w' hu).1, (HX.out w' hu).2.2⟩)
    have hE := own_empty w1.drew 3 1 0
    have HE1 : Hid ((w1.drew.alloc (.cells #[] 3)).ownsRow 0 3 1 (.slice (some ⟨w1.heap.size, 0, none⟩) 0 0) 0 []) := Lib.hid hE
    have HP2 : Hid (Src (w1.drew.alloc (.cells #[] 3)) 1 pv P.length (iv P)) := Lib.hid (((HP.out.upd HU.out (fun _ _ h => h)).upd (Upd.drew (fun _ => False) w1) (fun _ _ h => h)).upd (Upd.alloc (fun _ => False) _ _) (fun _ _ h => h))
    clear hE
    go_region_held3 (fun w' => w'.cell? ⟨X, 0, none⟩ = some pv ∧ w'.cell? ⟨X, 2, none⟩ = some qv) (first
      | exact HSX.out _ (Upd.drew _ _)
      | exact HSX.out _ ((Upd.drew _ _).trans (Upd.alloc _ _ _) (fun _ h _ => h))
      | exact HSX.out _ HM3.out
      | exact HSX.out _ HM4.out
      | exact HSX.out _ (HM4.out.trans (Upd.alloc _ _ _) (fun _ h _ => h))) (first
      | (refine step_append_mine rfl (.tmp 15) (.tmp 17) 22 rfl 0 3 i0 (.int .i64 0) 1 8 Tryd.underlying22 hi hz0 hz1 hz2 rfl (by decide) (.slice (some ⟨w1.heap.size, 0, none⟩) 0 0) 0 [] rfl HE1.out P.length (iv P) HP2.out (by unfold maxLen; omega) (by omega) (Nat.zero_le _) ?_; intro v3 w3 ho hg hf; have hu3 : Upd (fun _ => False) w1 w3 := (((Upd.drew (fun _ => False) w1).trans (Upd.alloc (fun _ => False) _ (.cells #[] 3)) (fun _ h _ => h)).trans (Upd.grown (S := fun k => w1.heap.size ≤ k) hg (fun k hk => .inl (by simp [Value.ownBlock] at hk; omega))) (fun k hk hl => by omega)); have hf3 : ∀ k, v3.ownBlock = some k → w1.heap.size ≤ k := (fun k hk => by rcases hf k hk with h | h; (simp [Value.ownBlock] at h; omega); (simp at h; omega)); have HM3 : Hid (Upd (fun k => X < k) w1 w3) := Lib.hid (hu3.mono (fun k h _ => h.elim)); have HO3 := Lib.hid ho; have HF3 := Lib.hid hf3; have HQ3 := Lib.hid ((HQ.out.upd HU.out (fun _ _ h => h)).upd hu3 (fun _ _ h => h)); have HU3 := Lib.hid hu3; clear ho hg hf hu3 hf3)
      | (refine step_append_mine rfl (.tmp 18) (.tmp 20) 22 rfl 0 3 i0 (.int .i64 0) 1 8 Tryd.underlying22 hi hz0 hz1 hz2 rfl (by decide) v3 (0 + P.length) ([] ++ iv P) rfl HO3.out Q.length (iv Q) HQ3.out (by unfold maxLen; omega) (by omega) (Nat.zero_le _) ?_; intro v4 w4 ho hg hf; have hu4 : Upd (fun _ => False) w1 w4 := (HU3.out.trans (Upd.grown (S := fun k => w1.heap.size ≤ k) hg (fun k hk => .inl (HF3.out k hk))) (fun k hk hl => by omega)); have hf4 : ∀ k, v4.ownBlock = some k → w1.heap.size ≤ k := (fun k hk => by rcases hf k hk with h | h; exact HF3.out k h; exact Nat.le_trans HU3.out.size h); obtain ⟨ka, kc, rfl⟩ := ownsRow_slice ho; have HM4 : Hid (Upd (fun k => X < k) w1 w4) := Lib.hid (hu4.mono (fun k h _ => h.elim)); have HO4 := Lib.hid ho; have HF4 := Lib.hid hf4; have HU4 := Lib.hid hu4; clear ho hg hf hu4 hf4))
    all_goals
      go_wp2_with fail
      go_meet
      refine ⟨_, ka, kc, _, rfl, Lib.hid (by omega), cells5_new, ⟨World.ownsRow_nil _ _ _ _, by simp⟩, ⟨World.ownsRow_nil _ _ _ _, by simp⟩, ⟨by have := HO4.out.alloc (.cells #[.slice none 0 0, .slice none 0 0, .int .i64 0, .slice ka (0 + P.length + Q.length) kc, .int .i64 0] 69); simpa [iv] using this, fun n hn => ?_⟩, .inr HU4.out.size, by simp [Off, Value.ownBlock], by simp [Off, Value.ownBlock], fun k hk => .inr (HF4.out k (by simpa [Value.ownBlock] using hk)), HU4.out.trans (Upd.alloc _ _ _) (fun _ h _ => h), by omega, by simp, by simp, by simp, by simp; omega, by decide, by decide⟩
      rcases List.mem_append.1 hn with h | h
      · exact HPL.out.2 n h
      · exact HQL.out.2 n h
  case rest =>
    obtain ⟨b, ka, kc, nk, rfl, HNK, HM⟩ := hcut
    clear HP HQ
    have HPQ : Hid ((P ++ Q).length ≤ 10) := Lib.hid (by rw [List.length_append]; have := HPL.out.1; have := HQL.out.1; omega)
    have HU0 := Lib.hid HM.out.below
    go_wp2_with fail
    go_loopw [10] (fun i wr => i = .int .i64 0 ∧ Hid (MkAt 69 ⟨w1, fun _ => False⟩ wr b 0 0 (.slice none 0 0) (.slice none 0 0) (.slice ka nk kc) [] [] (P ++ Q) 0)) (fun i _ => 0)
    case atStart => exact ⟨rfl, HM⟩
    case round =>
      obtain ⟨rfl, HMA⟩ := hrel
      go_wp2_with fail
      go_loopw [12, 11] (fun i sv wx => i = .int .i64 0 ∧ sv = .slice none 0 0 ∧ wr = wx) (fun i _ _ => 0)
      case atStart => exact ⟨rfl, rfl, rfl⟩
      case round =>
        obtain ⟨rfl, rfl, rfl⟩ := hrel
        have c0 := HMA.out.box.c0
        have HSRC := Lib.hid (srcAt wr 3 #[.int .i64 0] (iv [0]) rfl 1 (by simp [iv, Value.oneCell']) 1 1 wr.heap.size rfl rfl)
        have hrow : (wr.alloc (.cells #[.int .i64 0] 3)).ownsRow 0 3 1 (.slice none 0 0) 0 [] := World.ownsRow_nil _ _ _ _
        have HROW := Lib.hid hrow
        clear hrow
        go_wp2_with (at_builtin; go_loud (refine wpList_append_mine _ rfl _ _ 22 rfl 0 3 i0 (.int .i64 0) 1 8 Tryd.underlying22 hi hz0 hz1 hz2 rfl (by decide) (.slice none 0 0) 0 [] rfl HROW.out 1 (iv [0]) HSRC.out (by unfold maxLen; omega) (by omega) (Nat.zero_le _) ?_))
        intro v7 w7 ho hg hf
        have hu7 : Upd (fun _ => False) wr w7 := (Upd.alloc (fun _ => False) wr (.cells #[.int .i64 0] 3)).trans (Upd.grown (S := fun _ => False) hg (fun k hk => by simp [Value.ownBlock] at hk)) (fun _ h _ => h)
        obtain ⟨va, vc, rfl⟩ := ownsRow_slice ho
        have HM7 := Lib.hid (HMA.out.mono hu7 (fun _ h => h.elim))
        have d0 := HM7.out.box.c0
        clear ho hg hf hu7 c0 HSRC HROW HMA
        go_wp2_with fail
        go_loopw [13] (fun i wx => i = .int .i64 0 ∧ w7 = wx) (fun i _ => 0)
        case atStart => exact ⟨rfl, rfl⟩
        case round =>
          obtain ⟨rfl, rfl⟩ := hrel
          have HK : Hid (MkR ⟨w1, fun _ => False⟩ w7 b 0 0 0) := Lib.hid ⟨_, _, _, [], _, _, HM7.out, by simp, rfl, HPQ.out⟩
          have x1 : w7.cell? ⟨X, 1, none⟩ = some (.int .i64 res) := (HX.out w7 (HM7.out.below.mono (fun _ h _ => h.elim))).2.1
          have HOWN : Hid (∀ j, Gnd.may ⟨w1, fun _ => False⟩ j → w.heap.size ≤ j) := Lib.hid (fun j hj => by
            have h1 := HSZ.out
            have h2 := HXE.out
            rcases hj with h | h
            · exact h.elim
            · simp at h; omega)
          rcases HR.out with hres | hres
          · subst hres
            go_wp2_with fail
            refine (mPutR _ _ _ _ _ _ _ _ _ HK.out (by omega) (by decide)).mono ?_
            rintro e w9 ⟨rfl, hm⟩
            obtain ⟨cv9, nv9, kv9, C9, Ks9, at9, hm1, hm2, hm3, hm4⟩ := hm
            obtain ⟨ca9, cc9, rfl⟩ := ownsRow_slice hm1.code.row
            have q0 := hm1.box.c0
            rw [hm3] at q0
            have HC9 := Lib.hid hm1
            have HRT := Lib.hid (And.intro hm2 hm3)
            clear hm1 hm2 hm3 hm4 d0 x1
            go_wp2_with fail
            go_ret
            have hC := HRT.out.2
            refine ⟨_, C9, rfl, ?_, fun j hj => HOWN.out j (HC9.out.fc j (by cases ca9 <;> first | (simp [Value.ownBlock] at hj; done) | (simpa [Value.ownBlock] using hj))), by omega, HRT.out.1, HU.out.trans HC9.out.below (fun _ h _ => h)⟩
            have := HC9.out.code.inss
            rw [hC] at this
            exact this
          · have hr1 : (res == 0) = false := beq_eq_false_iff_ne.2 (by omega)
            have hr2 : (res != 0) = true := by simp; omega
            go_wp2_with fail
            refine (mAnyR _ _ _ _ _ res HK.out (by omega) hres.1 hres.2).mono ?_
            rintro e w8 ⟨rfl, hm⟩
            have HK8 := Lib.hid hm
            clear hm
            go_wp2_with fail
            refine (mPutR _ _ _ _ _ _ _ _ _ HK8.out (by omega) (by decide)).mono ?_
            rintro e w9 ⟨rfl, hm⟩
            obtain ⟨cv9, nv9, kv9, C9, Ks9, at9, hm1, hm2, hm3, hm4⟩ := hm
            obtain ⟨ca9, cc9, rfl⟩ := ownsRow_slice hm1.code.row
            have q0 := hm1.box.c0
            rw [hm3] at q0
            have HC9 := Lib.hid hm1
            have HRT := Lib.hid (And.intro hm2 hm3)
            clear hm1 hm2 hm3 hm4 d0 x1
            go_wp2_with fail
            go_ret
            have hC := HRT.out.2
            refine ⟨_, C9, rfl, ?_, fun j hj => HOWN.out j (HC9.out.fc j (by cases ca9 <;> first | (simp [Value.ownBlock] at hj; done) | (simpa [Value.ownBlock] using hj))), by omega, HRT.out.1, HU.out.trans HC9.out.below (fun _ h _ => h)⟩
            have := HC9.out.code.inss
            rw [hC] at this
            exact this
/-- right code, and short -/
def RC (C : List InsM) : Prop := (0 < C.length ∧ C.length ≤ 2) ∧ ∀ x ∈ C, insB x = true
set_option maxRecDepth 100000 in
set_option maxHeartbeats 40000000 in
theorem hAppletR (w : World) (k : Int) (lv : Value) (L : List RawR) (hl : RawsAt w lv L) (hL : L.length ≤ 4398046511104) (hLn : L = []) (hB : Bins ⟨w, fun _ => False⟩) :
    Calls Tryd.prog 5 #[.int .i64 k, lv] w fun e w' => ∃ s s1 s2 c0 c1 c2 C0 C1 C2, e = .returned (img5 s (.slice (some ⟨w.heap.size + 2, 0, none⟩) 4 4) (.slice (some ⟨w.heap.size + 7, 0, none⟩) 2 2) (.slice (some ⟨w.heap.size + 10, 0, none⟩) 3 3) (.slice (some ⟨w.heap.size + 3, 0, none⟩) 2 2)) ∧
      App w w' w.heap.size s s1 s2 c0 c1 c2 C0 C1 C2 ∧ (RC C0 ∧ RC C1 ∧ RC C2) ∧ s = nmOf k ∧ s1 = nmOf (wrap64 (k + 1)) ∧ ∃ j, s2 = nmOf j := by
  obtain ⟨la, lc, rfl⟩ := hl.slice
  have HL := Lib.hid hl
  have HLN := Lib.hid hLn
  clear hLn
  have HB := Lib.hid hB
  clear hl hB
  go_enter Tryd.func5, Tryd.ntmps5
  go_wp2_with (first
    | (go_at_call 10; (with_reducible refine (hName _ _).mono ?_); rintro e _ ⟨s, rfl, hs, rfl⟩)
    | (go_at_call 4; (with_reducible refine (mPick _ 3 _ (by omega) (by omega)).mono ?_); rintro e _ ⟨p, rfl, hp, rfl⟩))
  rename_i Q0 s0 hs0 s1 hs1 K0 a0
  have HS := Lib.hid (And.intro hs0.out.1 (And.intro hs1.out.1 hs.out.1))
  have HNM := Lib.hid (And.intro hs0.out.2 (And.intro hs1.out.2 (show ∃ j, _ = nmOf j from ⟨_, hs.out.2⟩)))
  clear hs0 hs1 hs hp
  go_loopw [8] (fun i wr => ∃ (m : Nat) (c0 c1 c2 : Value) (C0 C1 C2 : List InsM), m ≤ 3 ∧ i = .int .i64 m ∧ Hid (App w wr w.heap.size s0 s1 s c0 c1 c2 C0 C1 C2) ∧ Hid ((0 < m → RC C0) ∧ (1 < m → RC C1) ∧ (2 < m → RC C2))) (fun i _ => 3 - (RowKit.intOf i).toNat)
  case atStart =>
    refine ⟨0, .slice none 0 0, .slice none 0 0, .slice none 0 0, [], [], [], by omega, rfl, Lib.hid ⟨rfl, ?_, ⟨.string { data := #[] }, .slice none 0 0, .slice none 0 0, .slice none 0 0, .slice none 0 0, ?_⟩, ?_, ?_, ?_, ?_, ?_, ?_, ?_, ?_, ?_, ?_, ⟨⟨Sl.nil _ _ _, by simp⟩, by simp [Value.ownBlock]⟩, ⟨⟨Sl.nil _ _ _, by simp⟩, by simp [Value.ownBlock]⟩, ⟨⟨Sl.nil _ _ _, by simp⟩, by simp [Value.ownBlock]⟩, HS.out⟩, Lib.hid ⟨fun h => absurd h (by omega), fun h => absurd h (by omega), fun h => absurd h (by omega)⟩⟩
    · repeat (first | exact Upd.refl _ _ | refine Upd.trans ?_ (Upd.alloc _ _ _) (fun _ h _ => h))
    all_goals repeat (first | (refine blk_top _ _ _ ?_; simp; done) | refine stay_blk (Upd.alloc (fun _ => False) _ _) ?_ id)
  case round =>
    obtain ⟨m, c0, c1, c2, C0, C1, C2, hm, rfl, HA, HG⟩ := hrel
    have e2 : wr.cell? ⟨w.heap.size + 1 + 1 + 1 + 1, 2, none⟩ = some (.slice (some ⟨w.heap.size + 7, 0, none⟩) 2 2) := by simp [World.cell?, HA.out.b4]
    have e3 : wr.cell? ⟨w.heap.size + 1 + 1 + 1 + 1, 3, none⟩ = some (.slice (some ⟨w.heap.size + 10, 0, none⟩) 3 3) := by simp [World.cell?, HA.out.b4]
    by_cases hlt : m < 3
    · have hm3 : m = 0 ∨ m = 1 ∨ m = 2 := by omega
      clear hlt
      have q1 : ((L.length : Nat) : Int).tdiv 3 = ((L.length / 3 : Nat) : Int) := (Int.ofNat_tdiv _ 3).symm
      have q2 : (2 * (L.length : Int)).tdiv 3 = ((2 * L.length / 3 : Nat) : Int) := (Int.ofNat_tdiv (2 * L.length) 3).symm
      have q3 : (3 * (L.length : Int)).tdiv 3 = ((L.length : Nat) : Int) := by
        have h := Int.ofNat_tdiv (3 * L.length) 3
        rw [Nat.mul_div_cancel_left _ (by omega)] at h
        exact h.symm
      have q4 : ((L.length : Nat) : Int).tdiv 2 = ((L.length / 2 : Nat) : Int) := (Int.ofNat_tdiv _ 2).symm
      have hlc : L.length ≤ lc := by
        rcases HL.out with ⟨_, h0⟩ | ⟨g, off, c', hv, hc1, -⟩
        · simp [h0]
        · simp at hv
          omega
      have HAD := Lib.hid (HA.out.keep (Upd.drew (fun _ => False) wr))
      have HBD : Hid (Bins ⟨wr.drew, fun _ => False⟩) := Lib.hid (by
        have hg : 0 < w.heap.size := World.block_lt_of_cell? w _ (HB.out.2 0 (by omega))
        exact ⟨fun h => h, fun k hk => (HAD.out.up.cell (p := ⟨0, k, none⟩) hg (fun h => h)).trans (HB.out.2 k hk)⟩)
      have HBE := Lib.hid (HAD.out.up.below (Nat.le_refl _) (fun _ h => h.elim))
      have HIV := Lib.hid HAD.out.imps
      have HMV := Lib.hid HAD.out.mets
      have HIL : Hid ((appImps s1 s).length ≤ 1000) := Lib.hid (by simp [appImps])
      have HIP : Hid (∀ i ∈ appImps s1 s, i.params.length ≤ 3) := Lib.hid (by simp [appImps])
      have HML : Hid (0 < (appMets C0 C1 C2).length ∧ (appMets C0 C1 C2).length ≤ 1000) := Lib.hid (by simp [appMets])
      have HMP : Hid (∀ m ∈ appMets C0 C1 C2, m.params.length ≤ 3) := Lib.hid (by simp [appMets])
      rcases hm3 with rfl | rfl | rfl
      · have HP2 : Hid (Src wr.drew 1 (.slice none 0 0) ([] : List Int).length (iv [])) := Lib.hid (.inl ⟨rfl, rfl, rfl⟩)
        have HQ4 : Hid (Src wr.drew 1 (.slice (some ⟨w.heap.size + 1, 0, none⟩) 4 4) [(1 : Int), 2, 3, 4].length (iv [1, 2, 3, 4])) := Lib.hid (Src.blk HAD.out.b1 [1, 2, 3, 4] ⟨[], rfl⟩ 4)
        have HPW : Hid (([] : List Int).length ≤ 10 ∧ ∀ n ∈ ([] : List Int), wi64 n) := Lib.hid (by simp [wi64])
        have HQW : Hid ([(1 : Int), 2, 3, 4].length ≤ 10 ∧ ∀ n ∈ [(1 : Int), 2, 3, 4], wi64 n) := Lib.hid (by simp [wi64])
        have HRW : Hid (wi64 0) := Lib.hid (by simp [wi64])
        go_upto_region 12 with fail
        all_goals try (exfalso; omega)
        generalize hA : (if (L.length : Int) / 2 < (L.length : Int) then (L.length : Int) / 2 else (L.length : Int)).toNat = A
        have hAB : A ≤ L.length := by
          rw [← hA]
          split <;> omega
        have hraw := (HL.out.take hAB).later HBE.out
        have HRL : Hid ((L.take A).length ≤ 4398046511104) := Lib.hid (by simp; omega)
        have hle : L.take A = [] := by rw [HLN.out]; simp
        have HLE0 := Lib.hid hle
        clear hle
        generalize L.take A = L' at *
        have HLE : Hid (L' = []) := HLE0
        generalize A = n' at *
        have HRAW := Lib.hid hraw
        clear hraw hA hAB q1 q2 q3 q4
        have HS2 : Hid (∀ u, App w u w.heap.size s0 s1 s c0 c1 c2 C0 C1 C2 → (fun w' => w'.cell? ⟨w.heap.size + 1 + 1 + 1 + 1, 2, none⟩ = some (.slice (some ⟨w.heap.size + 7, 0, none⟩) 2 2) ∧ w'.cell? ⟨w.heap.size + 1 + 1 + 1 + 1, 3, none⟩ = some (.slice (some ⟨w.heap.size + 10, 0, none⟩) 3 3) ∧ w'.cell? ⟨w.heap.size + 10, 0, none⟩ = some (.slice none 0 0) ∧ w'.cell? ⟨w.heap.size + 10, 1, none⟩ = some (.int .i64 0) ∧ w'.cell? ⟨w.heap.size + 10, 2, none⟩ = some (.slice (some ⟨w.heap.size + 1, 0, none⟩) 4 4) ∧ w'.cell? ⟨w.heap.size + 10, 3, none⟩ = some c0) u) := Lib.hid (fun u h => by simp [World.cell?, h.b4, h.b10])
        clear e2 e3
        refine wp_region_last (S := fun w' => w'.cell? ⟨w.heap.size + 1 + 1 + 1 + 1, 2, none⟩ = some (.slice (some ⟨w.heap.size + 7, 0, none⟩) 2 2) ∧ w'.cell? ⟨w.heap.size + 1 + 1 + 1 + 1, 3, none⟩ = some (.slice (some ⟨w.heap.size + 10, 0, none⟩) 3 3) ∧ w'.cell? ⟨w.heap.size + 10, 0, none⟩ = some (.slice none 0 0) ∧ w'.cell? ⟨w.heap.size + 10, 1, none⟩ = some (.int .i64 0) ∧ w'.cell? ⟨w.heap.size + 10, 2, none⟩ = some (.slice (some ⟨w.heap.size + 1, 0, none⟩) 4 4) ∧ w'.cell? ⟨w.heap.size + 10, 3, none⟩ = some c0) 16 _ (by kernel_rfl) (by kernel_rfl) rfl ?_
        change wpHL _ _ _ _ _ _ _ _ _ _ wr.drew
        have hHeld := HS2.out _ HAD.out
        refine wpHL_take (i := 0) (v := ?_) rfl (by kernel_rfl) (fun _ _ _ h => h) hHeld (Or.inl ⟨by rfl, ?_⟩) ?_
        rotate_left
        · (intro w hSw; (try dsimp only at hSw); go_simp; try with_reducible rfl)
        simp only [Act.put, List.setIfInBounds_toArray, List.set_cons_zero, List.set_cons_succ]
        refine wpHL_take (i := 1) (v := ?_) rfl (by kernel_rfl) (fun _ _ _ h => h) hHeld (Or.inl ⟨by rfl, ?_⟩) ?_
        rotate_left
        · (intro w hSw; (try dsimp only at hSw); go_simp; try with_reducible rfl)
        simp only [Act.put, List.setIfInBounds_toArray, List.set_cons_zero, List.set_cons_succ]
        refine wpHL_take (i := 2) (v := ?_) rfl (by kernel_rfl) (fun _ _ _ h => h) hHeld (Or.inl ⟨by rfl, ?_⟩) ?_
        rotate_left
        · (intro w hSw; (try dsimp only at hSw); go_simp; try with_reducible rfl)
        simp only [Act.put, List.setIfInBounds_toArray, List.set_cons_zero, List.set_cons_succ]
        refine wpHL_take (i := 3) (v := ?_) rfl (by kernel_rfl) (fun _ _ _ h => h) hHeld (Or.inl ⟨by rfl, ?_⟩) ?_
        rotate_left
        · (intro w hSw; (try dsimp only at hSw); go_simp; try with_reducible rfl)
        simp only [Act.put, List.setIfInBounds_toArray, List.set_cons_zero, List.set_cons_succ]
        refine wpHL_take (i := 4) (v := ?_) rfl (by kernel_rfl) (fun _ _ _ h => h) hHeld (Or.inl ⟨by rfl, ?_⟩) ?_
        rotate_left
        · (intro w hSw; (try dsimp only at hSw); go_simp; try with_reducible rfl)
        simp only [Act.put, List.setIfInBounds_toArray, List.set_cons_zero, List.set_cons_succ]
        refine wpHL_take (i := 5) (v := ?_) rfl (by kernel_rfl) (fun _ _ _ h => h) hHeld (Or.inl ⟨by rfl, ?_⟩) ?_
        rotate_left
        · (intro w hSw; (try dsimp only at hSw); go_simp; try with_reducible rfl)
        simp only [Act.put, List.setIfInBounds_toArray, List.set_cons_zero, List.set_cons_succ]
        refine wpHL_take (i := 6) (v := ?_) rfl (by kernel_rfl) (fun _ _ _ h => h) hHeld (Or.inl ⟨by rfl, ?_⟩) ?_
        rotate_left
        · (intro w hSw; (try dsimp only at hSw); go_simp; try with_reducible rfl)
        simp only [Act.put, List.setIfInBounds_toArray, List.set_cons_zero, List.set_cons_succ]
        refine wpHL_take (i := 7) (v := ?_) rfl (by kernel_rfl) (fun _ _ _ h => h) hHeld (Or.inl ⟨by rfl, ?_⟩) ?_
        rotate_left
        · (intro w hSw; (try dsimp only at hSw); go_simp; try with_reducible rfl)
        simp only [Act.put, List.setIfInBounds_toArray, List.set_cons_zero, List.set_cons_succ]
        refine wpHL_take (i := 8) (v := ?_) rfl (by kernel_rfl) (fun _ _ _ h => h) hHeld (Or.inl ⟨by rfl, ?_⟩) ?_
        rotate_left
        · (intro w hSw; (try dsimp only at hSw); go_simp; try with_reducible rfl)
        simp only [Act.put, List.setIfInBounds_toArray, List.set_cons_zero, List.set_cons_succ]
        refine wpHL_take (i := 9) (v := ?_) rfl (by kernel_rfl) (fun _ _ _ h => h) hHeld (Or.inl ⟨by rfl, ?_⟩) ?_
        rotate_left
        · (intro w hSw; (try dsimp only at hSw); go_simp; try with_reducible rfl)
        simp only [Act.put, List.setIfInBounds_toArray, List.set_cons_zero, List.set_cons_succ]
        refine wpHL_take (i := 10) (v := ?_) rfl (by kernel_rfl) (fun _ _ _ h => h) hHeld (Or.inl ⟨by rfl, ?_⟩) ?_
        rotate_left
        · (intro w hSw; (try dsimp only at hSw); go_simp; try with_reducible rfl)
        simp only [Act.put, List.setIfInBounds_toArray, List.set_cons_zero, List.set_cons_succ]
        refine wpHL_take (i := 11) (v := ?_) rfl (by kernel_rfl) (fun _ _ _ h => h) hHeld (Or.inl ⟨by rfl, ?_⟩) ?_
        rotate_left
        · (intro w hSw; (try dsimp only at hSw); go_simp; try with_reducible rfl)
        simp only [Act.put, List.setIfInBounds_toArray, List.set_cons_zero, List.set_cons_succ]
        refine wpHL_take (i := 12) (v := ?_) rfl (by kernel_rfl) (fun _ _ _ h => h) hHeld (Or.inl ⟨by rfl, ?_⟩) ?_
        rotate_left
        · (intro w hSw; (try dsimp only at hSw); go_simp; try with_reducible rfl)
        simp only [Act.put, List.setIfInBounds_toArray, List.set_cons_zero, List.set_cons_succ]
        refine wpHL_step (i := 13) rfl (by kernel_rfl) (by decide) (fun K hK => ?_)
        have HKK := Lib.hid hK
        clear hK hHeld
        go_simp
        refine (hCodeR _ _ _ _ _ _ _ _ (by have h9 := HRAW.out; rw [HLE.out] at h9; exact h9) (P := []) (Q := [1, 2, 3, 4]) HP2.out HQ4.out (by simp [wi64]) (by simp [wi64]) (by omega) HIV.out HIL.out HIP.out HMV.out HML.out HMP.out HBD.out).mono ?_
        rintro e w5 ⟨v5, C5, rfl, k1, k2, k3, krt, k4⟩
        have HA5 := Lib.hid (HAD.out.keep k4)
        have g7 : w5.cell? ⟨w.heap.size + 10, 3, none⟩ = some c0 := by simp [World.cell?, HA5.out.b10]
        have f7 : w5.frozen? ⟨w.heap.size + 10, 3, none⟩ = false := by simp [World.frozen?, HA5.out.b10]
        obtain ⟨va5, vc5, rfl, -, -⟩ := k1.slice
        have HC5 : Hid (Inss w5 (.slice va5 C5.length vc5) C5 ∧ ∀ k, (Value.slice va5 C5.length vc5).ownBlock = some k → w.heap.size + 11 ≤ k) := Lib.hid ⟨k1, fun k hk => by
          have h1 := k2 k hk
          have h2 : w.heap.size + 10 < wr.heap.size := (Array.getElem?_eq_some_iff.1 HA.out.b10).1
          simp at h1
          omega⟩
        have HL5 : Hid (RC C5) := Lib.hid ⟨k3, krt⟩
        clear k1 k2 k3 k4 krt
        go_simp
        have hHeld := HS2.out _ HA5.out
        refine HKK.out _ _ hHeld ?_
        try simp only [Act.put, List.setIfInBounds_toArray, List.set_cons_zero, List.set_cons_succ]
        refine wpHL_take (i := 14) (v := ?_) rfl (by kernel_rfl) (fun _ _ _ h => h) hHeld (Or.inl ⟨by rfl, ?_⟩) ?_
        rotate_left
        · (intro w hSw; (try dsimp only at hSw); go_simp; try with_reducible rfl)
        simp only [Act.put, List.setIfInBounds_toArray, List.set_cons_zero, List.set_cons_succ]
        refine wpHL_take (i := 15) (v := ?_) rfl (by kernel_rfl) (fun _ _ _ h => h) hHeld (Or.inl ⟨by rfl, ?_⟩) ?_
        rotate_left
        · (intro w hSw; (try dsimp only at hSw); go_simp; try with_reducible rfl)
        simp only [Act.put, List.setIfInBounds_toArray, List.set_cons_zero, List.set_cons_succ]
        refine wpHL_last (by kernel_rfl) ?_
        clear hHeld HKK
        go_wp2_with fail
        go_roundw
        case rel => exact ⟨1, _, _, _, _, _, _, by omega, by go_num, Lib.hid (HA5.out.set0 HC5.out), Lib.hid ⟨fun _ => HL5.out, fun h => absurd h (by omega), fun h => absurd h (by omega)⟩⟩
        case measure => simp [RowKit.intOf]
      · have HP2 : Hid (Src wr.drew 1 (.slice (some ⟨w.heap.size + 8, 0, none⟩) 2 2) [(1 : Int), 2].length (iv [1, 2])) := Lib.hid (Src.blk HAD.out.b8 [1, 2] ⟨[], rfl⟩ 2)
        have HQ4 : Hid (Src wr.drew 1 (.slice (some ⟨w.heap.size + 1, 0, none⟩) 4 4) [(1 : Int), 2, 3, 4].length (iv [1, 2, 3, 4])) := Lib.hid (Src.blk HAD.out.b1 [1, 2, 3, 4] ⟨[], rfl⟩ 4)
        have HPW : Hid ([(1 : Int), 2].length ≤ 10 ∧ ∀ n ∈ [(1 : Int), 2], wi64 n) := Lib.hid (by simp [wi64])
        have HQW : Hid ([(1 : Int), 2, 3, 4].length ≤ 10 ∧ ∀ n ∈ [(1 : Int), 2, 3, 4], wi64 n) := Lib.hid (by simp [wi64])
        have HRW : Hid (wi64 2) := Lib.hid (by simp [wi64])
        go_upto_region 12 with fail
        all_goals try (exfalso; omega)
        generalize hA : (if (L.length : Int) / 3 < (L.length : Int) then (L.length : Int) / 3 else (L.length : Int)).toNat = A
        generalize hBB : (if 2 * (L.length : Int) / 3 < (L.length : Int) then 2 * (L.length : Int) / 3 else (L.length : Int)).toNat = B
        have hAB : A ≤ B ∧ B ≤ L.length := by
          rw [← hA, ← hBB]
          split <;> split <;> omega
        have hraw := (HL.out.sub hAB.1 hAB.2).later HBE.out
        have HRL : Hid (((L.drop A).take (B - A)).length ≤ 4398046511104) := Lib.hid (by simp; omega)
        have hle : (L.drop A).take (B - A) = [] := by rw [HLN.out]; simp
        have HLE0 := Lib.hid hle
        clear hle
        generalize (L.drop A).take (B - A) = L' at *
        have HLE : Hid (L' = []) := HLE0
        generalize (if lc = A then la else la.map (·.add (A * 4))) = la' at *
        generalize B - A = n' at *
        generalize lc - A = lc' at *
        have HRAW := Lib.hid hraw
        clear hraw hA hBB hAB q1 q2 q3 q4
        have HS2 : Hid (∀ u, App w u w.heap.size s0 s1 s c0 c1 c2 C0 C1 C2 → (fun w' => w'.cell? ⟨w.heap.size + 1 + 1 + 1 + 1, 2, none⟩ = some (.slice (some ⟨w.heap.size + 7, 0, none⟩) 2 2) ∧ w'.cell? ⟨w.heap.size + 1 + 1 + 1 + 1, 3, none⟩ = some (.slice (some ⟨w.heap.size + 10, 0, none⟩) 3 3) ∧ w'.cell? ⟨w.heap.size + 10, 4, none⟩ = some (.slice (some ⟨w.heap.size + 8, 0, none⟩) 2 2) ∧ w'.cell? ⟨w.heap.size + 10, 5, none⟩ = some (.int .i64 2) ∧ w'.cell? ⟨w.heap.size + 10, 6, none⟩ = some (.slice (some ⟨w.heap.size + 1, 0, none⟩) 4 4) ∧ w'.cell? ⟨w.heap.size + 10, 7, none⟩ = some c1) u) := Lib.hid (fun u h => by simp [World.cell?, h.b4, h.b10])
        clear e2 e3
        refine wp_region_last (S := fun w' => w'.cell? ⟨w.heap.size + 1 + 1 + 1 + 1, 2, none⟩ = some (.slice (some ⟨w.heap.size + 7, 0, none⟩) 2 2) ∧ w'.cell? ⟨w.heap.size + 1 + 1 + 1 + 1, 3, none⟩ = some (.slice (some ⟨w.heap.size + 10, 0, none⟩) 3 3) ∧ w'.cell? ⟨w.heap.size + 10, 4, none⟩ = some (.slice (some ⟨w.heap.size + 8, 0, none⟩) 2 2) ∧ w'.cell? ⟨w.heap.size + 10, 5, none⟩ = some (.int .i64 2) ∧ w'.cell? ⟨w.heap.size + 10, 6, none⟩ = some (.slice (some ⟨w.heap.size + 1, 0, none⟩) 4 4) ∧ w'.cell? ⟨w.heap.size + 10, 7, none⟩ = some c1) 16 _ (by kernel_rfl) (by kernel_rfl) rfl ?_
        change wpHL _ _ _ _ _ _ _ _ _ _ wr.drew
        have hHeld := HS2.out _ HAD.out
        refine wpHL_take (i := 0) (v := ?_) rfl (by kernel_rfl) (fun _ _ _ h => h) hHeld (Or.inl ⟨by rfl, ?_⟩) ?_
        rotate_left
        · (intro w hSw; (try dsimp only at hSw); go_simp; try with_reducible rfl)
        simp only [Act.put, List.setIfInBounds_toArray, List.set_cons_zero, List.set_cons_succ]
        refine wpHL_take (i := 1) (v := ?_) rfl (by kernel_rfl) (fun _ _ _ h => h) hHeld (Or.inl ⟨by rfl, ?_⟩) ?_
        rotate_left
        · (intro w hSw; (try dsimp only at hSw); go_simp; try with_reducible rfl)
        simp only [Act.put, List.setIfInBounds_toArray, List.set_cons_zero, List.set_cons_succ]
        refine wpHL_take (i := 2) (v := ?_) rfl (by kernel_rfl) (fun _ _ _ h => h) hHeld (Or.inl ⟨by rfl, ?_⟩) ?_
        rotate_left
        · (intro w hSw; (try dsimp only at hSw); go_simp; try with_reducible rfl)
        simp only [Act.put, List.setIfInBounds_toArray, List.set_cons_zero, List.set_cons_succ]
        refine wpHL_take (i := 3) (v := ?_) rfl (by kernel_rfl) (fun _ _ _ h => h) hHeld (Or.inl ⟨by rfl, ?_⟩) ?_
        rotate_left
        · (intro w hSw; (try dsimp only at hSw); go_simp; try with_reducible rfl)
        simp only [Act.put, List.setIfInBounds_toArray, List.set_cons_zero, List.set_cons_succ]
        refine wpHL_take (i := 4) (v := ?_) rfl (by kernel_rfl) (fun _ _ _ h => h) hHeld (Or.inl ⟨by rfl, ?_⟩) ?_
        rotate_left
        · (intro w hSw; (try dsimp only at hSw); go_simp; try with_reducible rfl)
        simp only [Act.put, List.setIfInBounds_toArray, List.set_cons_zero, List.set_cons_succ]
        refine wpHL_take (i := 5) (v := ?_) rfl (by kernel_rfl) (fun _ _ _ h => h) hHeld (Or.inl ⟨by rfl, ?_⟩) ?_
        rotate_left
        · (intro w hSw; (try dsimp only at hSw); go_simp; try with_reducible rfl)
        simp only [Act.put, List.setIfInBounds_toArray, List.set_cons_zero, List.set_cons_succ]
        refine wpHL_take (i := 6) (v := ?_) rfl (by kernel_rfl) (fun _ _ _ h => h) hHeld (Or.inl ⟨by rfl, ?_⟩) ?_
        rotate_left
        · (intro w hSw; (try dsimp only at hSw); go_simp; try with_reducible rfl)
        simp only [Act.put, List.setIfInBounds_toArray, List.set_cons_zero, List.set_cons_succ]
        refine wpHL_take (i := 7) (v := ?_) rfl (by kernel_rfl) (fun _ _ _ h => h) hHeld (Or.inl ⟨by rfl, ?_⟩) ?_
        rotate_left
        · (intro w hSw; (try dsimp only at hSw); go_simp; try with_reducible rfl)
        simp only [Act.put, List.setIfInBounds_toArray, List.set_cons_zero, List.set_cons_succ]
        refine wpHL_take (i := 8) (v := ?_) rfl (by kernel_rfl) (fun _ _ _ h => h) hHeld (Or.inl ⟨by rfl, ?_⟩) ?_
        rotate_left
        · (intro w hSw; (try dsimp only at hSw); go_simp; try with_reducible rfl)
        simp only [Act.put, List.setIfInBounds_toArray, List.set_cons_zero, List.set_cons_succ]
        refine wpHL_take (i := 9) (v := ?_) rfl (by kernel_rfl) (fun _ _ _ h => h) hHeld (Or.inl ⟨by rfl, ?_⟩) ?_
        rotate_left
        · (intro w hSw; (try dsimp only at hSw); go_simp; try with_reducible rfl)
        simp only [Act.put, List.setIfInBounds_toArray, List.set_cons_zero, List.set_cons_succ]
        refine wpHL_take (i := 10) (v := ?_) rfl (by kernel_rfl) (fun _ _ _ h => h) hHeld (Or.inl ⟨by rfl, ?_⟩) ?_
        rotate_left
        · (intro w hSw; (try dsimp only at hSw); go_simp; try with_reducible rfl)
        simp only [Act.put, List.setIfInBounds_toArray, List.set_cons_zero, List.set_cons_succ]
        refine wpHL_take (i := 11) (v := ?_) rfl (by kernel_rfl) (fun _ _ _ h => h) hHeld (Or.inl ⟨by rfl, ?_⟩) ?_
        rotate_left
        · (intro w hSw; (try dsimp only at hSw); go_simp; try with_reducible rfl)
        simp only [Act.put, List.setIfInBounds_toArray, List.set_cons_zero, List.set_cons_succ]
        refine wpHL_take (i := 12) (v := ?_) rfl (by kernel_rfl) (fun _ _ _ h => h) hHeld (Or.inl ⟨by rfl, ?_⟩) ?_
        rotate_left
        · (intro w hSw; (try dsimp only at hSw); go_simp; try with_reducible rfl)
        simp only [Act.put, List.setIfInBounds_toArray, List.set_cons_zero, List.set_cons_succ]
        refine wpHL_step (i := 13) rfl (by kernel_rfl) (by decide) (fun K hK => ?_)
        have HKK := Lib.hid hK
        clear hK hHeld
        go_simp
        refine (hCodeR _ _ _ _ _ _ _ _ (by have h9 := HRAW.out; rw [HLE.out] at h9; exact h9) (P := [1, 2]) (Q := [1, 2, 3, 4]) HP2.out HQ4.out (by simp [wi64]) (by simp [wi64]) (by omega) HIV.out HIL.out HIP.out HMV.out HML.out HMP.out HBD.out).mono ?_
        rintro e w5 ⟨v5, C5, rfl, k1, k2, k3, krt, k4⟩
        have HA5 := Lib.hid (HAD.out.keep k4)
        have g7 : w5.cell? ⟨w.heap.size + 10, 7, none⟩ = some c1 := by simp [World.cell?, HA5.out.b10]
        have f7 : w5.frozen? ⟨w.heap.size + 10, 7, none⟩ = false := by simp [World.frozen?, HA5.out.b10]
        obtain ⟨va5, vc5, rfl, -, -⟩ := k1.slice
        have HC5 : Hid (Inss w5 (.slice va5 C5.length vc5) C5 ∧ ∀ k, (Value.slice va5 C5.length vc5).ownBlock = some k → w.heap.size + 11 ≤ k) := Lib.hid ⟨k1, fun k hk => by
          have h1 := k2 k hk
          have h2 : w.heap.size + 10 < wr.heap.size := (Array.getElem?_eq_some_iff.1 HA.out.b10).1
          simp at h1
          omega⟩
        have HL5 : Hid (RC C5) := Lib.hid ⟨k3, krt⟩
        clear k1 k2 k3 k4 krt
        go_simp
        have hHeld := HS2.out _ HA5.out
        refine HKK.out _ _ hHeld ?_
        try simp only [Act.put, List.setIfInBounds_toArray, List.set_cons_zero, List.set_cons_succ]
        refine wpHL_take (i := 14) (v := ?_) rfl (by kernel_rfl) (fun _ _ _ h => h) hHeld (Or.inl ⟨by rfl, ?_⟩) ?_
        rotate_left
        · (intro w hSw; (try dsimp only at hSw); go_simp; try with_reducible rfl)
        simp only [Act.put, List.setIfInBounds_toArray, List.set_cons_zero, List.set_cons_succ]
        refine wpHL_take (i := 15) (v := ?_) rfl (by kernel_rfl) (fun _ _ _ h => h) hHeld (Or.inl ⟨by rfl, ?_⟩) ?_
        rotate_left
        · (intro w hSw; (try dsimp only at hSw); go_simp; try with_reducible rfl)
        simp only [Act.put, List.setIfInBounds_toArray, List.set_cons_zero, List.set_cons_succ]
        refine wpHL_last (by kernel_rfl) ?_
        clear hHeld HKK
        go_wp2_with fail
        go_roundw
        case rel => exact ⟨2, _, _, _, _, _, _, by omega, by go_num, Lib.hid (HA5.out.set1 HC5.out), Lib.hid ⟨fun _ => HG.out.1 (by omega), fun _ => HL5.out, fun h => absurd h (by omega)⟩⟩
        case measure => simp [RowKit.intOf]
      · have HP2 : Hid (Src wr.drew 1 (.slice (some ⟨w.heap.size + 9, 0, none⟩) 2 2) [(4 : Int), 3].length (iv [4, 3])) := Lib.hid (Src.blk HAD.out.b9 [4, 3] ⟨[], rfl⟩ 2)
        have HQ4 : Hid (Src wr.drew 1 (.slice (some ⟨w.heap.size + 1, 0, none⟩) 2 4) [(1 : Int), 2].length (iv [1, 2])) := Lib.hid (Src.blk HAD.out.b1 [1, 2] ⟨[.int .i64 3, .int .i64 4], rfl⟩ 4)
        have HPW : Hid ([(4 : Int), 3].length ≤ 10 ∧ ∀ n ∈ [(4 : Int), 3], wi64 n) := Lib.hid (by simp [wi64])
        have HQW : Hid ([(1 : Int), 2].length ≤ 10 ∧ ∀ n ∈ [(1 : Int), 2], wi64 n) := Lib.hid (by simp [wi64])
        have HRW : Hid (wi64 3) := Lib.hid (by simp [wi64])
        go_upto_region 12 with fail
        all_goals try (exfalso; omega)
        generalize hA : (if 2 * (L.length : Int) / 3 < (L.length : Int) then 2 * (L.length : Int) / 3 else (L.length : Int)).toNat = A
        obtain ⟨B, hBB⟩ : ∃ B, B = L.length := ⟨_, rfl⟩
        have hAB : A ≤ B ∧ B ≤ L.length := by
          rw [← hA, hBB]
          split <;> omega
        have hraw := (HL.out.sub hAB.1 hAB.2).later HBE.out
        have HRL : Hid (((L.drop A).take (B - A)).length ≤ 4398046511104) := Lib.hid (by simp; omega)
        rw [hBB] at hraw HRL
        have hle : (L.drop A).take (L.length - A) = [] := by rw [HLN.out]; simp
        have HLE0 := Lib.hid hle
        clear hle
        generalize (L.drop A).take (L.length - A) = L' at *
        have HLE : Hid (L' = []) := HLE0
        generalize (if lc = A then la else la.map (·.add (A * 4))) = la' at *
        generalize L.length - A = n' at *
        generalize lc - A = lc' at *
        have HRAW := Lib.hid hraw
        clear hraw hA hBB hAB q1 q2 q3 q4
        have HS2 : Hid (∀ u, App w u w.heap.size s0 s1 s c0 c1 c2 C0 C1 C2 → (fun w' => w'.cell? ⟨w.heap.size + 1 + 1 + 1 + 1, 2, none⟩ = some (.slice (some ⟨w.heap.size + 7, 0, none⟩) 2 2) ∧ w'.cell? ⟨w.heap.size + 1 + 1 + 1 + 1, 3, none⟩ = some (.slice (some ⟨w.heap.size + 10, 0, none⟩) 3 3) ∧ w'.cell? ⟨w.heap.size + 10, 8, none⟩ = some (.slice (some ⟨w.heap.size + 9, 0, none⟩) 2 2) ∧ w'.cell? ⟨w.heap.size + 10, 9, none⟩ = some (.int .i64 3) ∧ w'.cell? ⟨w.heap.size + 10, 10, none⟩ = some (.slice (some ⟨w.heap.size + 1, 0, none⟩) 2 4) ∧ w'.cell? ⟨w.heap.size + 10, 11, none⟩ = some c2) u) := Lib.hid (fun u h => by simp [World.cell?, h.b4, h.b10])
        clear e2 e3
        refine wp_region_last (S := fun w' => w'.cell? ⟨w.heap.size + 1 + 1 + 1 + 1, 2, none⟩ = some (.slice (some ⟨w.heap.size + 7, 0, none⟩) 2 2) ∧ w'.cell? ⟨w.heap.size + 1 + 1 + 1 + 1, 3, none⟩ = some (.slice (some ⟨w.heap.size + 10, 0, none⟩) 3 3) ∧ w'.cell? ⟨w.heap.size + 10, 8, none⟩ = some (.slice (some ⟨w.heap.size + 9, 0, none⟩) 2 2) ∧ w'.cell? ⟨w.heap.size + 10, 9, none⟩ = some (.int .i64 3) ∧ w'.cell? ⟨w.heap.size + 10, 10, none⟩ = some (.slice (some ⟨w.heap.size + 1, 0, none⟩) 2 4) ∧ w'.cell? ⟨w.heap.size + 10, 11, none⟩ = some c2) 16 _ (by kernel_rfl) (by kernel_rfl) rfl ?_
        change wpHL _ _ _ _ _ _ _ _ _ _ wr.drew
        have hHeld := HS2.out _ HAD.out
        refine wpHL_take (i := 0) (v := ?_) rfl (by kernel_rfl) (fun _ _ _ h => h) hHeld (Or.inl ⟨by rfl, ?_⟩) ?_
        rotate_left
        · (intro w hSw; (try dsimp only at hSw); go_simp; try with_reducible rfl)
        simp only [Act.put, List.setIfInBounds_toArray, List.set_cons_zero, List.set_cons_succ]
        refine wpHL_take (i := 1) (v := ?_) rfl (by kernel_rfl) (fun _ _ _ h => h) hHeld (Or.inl ⟨by rfl, ?_⟩) ?_
        rotate_left
        · (intro w hSw; (try dsimp only at hSw); go_simp; try with_reducible rfl)
        simp only [Act.put, List.setIfInBounds_toArray, List.set_cons_zero, List.set_cons_succ]
        refine wpHL_take (i := 2) (v := ?_) rfl (by kernel_rfl) (fun _ _ _ h => h) hHeld (Or.inl ⟨by rfl, ?_⟩) ?_
        rotate_left
        · (intro w hSw; (try dsimp only at hSw); go_simp; try with_reducible rfl)
        simp only [Act.put, List.setIfInBounds_toArray, List.set_cons_zero, List.set_cons_succ]
        refine wpHL_take (i := 3) (v := ?_) rfl (by kernel_rfl) (fun _ _ _ h => h) hHeld (Or.inl ⟨by rfl, ?_⟩) ?_
        rotate_left
        · (intro w hSw; (try dsimp only at hSw); go_simp; try with_reducible rfl)
        simp only [Act.put, List.setIfInBounds_toArray, List.set_cons_zero, List.set_cons_succ]
        refine wpHL_take (i := 4) (v := ?_) rfl (by kernel_rfl) (fun _ _ _ h => h) hHeld (Or.inl ⟨by rfl, ?_⟩) ?_
        rotate_left
        · (intro w hSw; (try dsimp only at hSw); go_simp; try with_reducible rfl)
        simp only [Act.put, List.setIfInBounds_toArray, List.set_cons_zero, List.set_cons_succ]
        refine wpHL_take (i := 5) (v := ?_) rfl (by kernel_rfl) (fun _ _ _ h => h) hHeld (Or.inl ⟨by rfl, ?_⟩) ?_
        rotate_left
        · (intro w hSw; (try dsimp only at hSw); go_simp; try with_reducible rfl)
        simp only [Act.put, List.setIfInBounds_toArray, List.set_cons_zero, List.set_cons_succ]
        refine wpHL_take (i := 6) (v := ?_) rfl (by kernel_rfl) (fun _ _ _ h => h) hHeld (Or.inl ⟨by rfl, ?_⟩) ?_
        rotate_left
        · (intro w hSw; (try dsimp only at hSw); go_simp; try with_reducible rfl)
        simp only [Act.put, List.setIfInBounds_toArray, List.set_cons_zero, List.set_cons_succ]
        refine wpHL_take (i := 7) (v := ?_) rfl (by kernel_rfl) (fun _ _ _ h => h) hHeld (Or.inl ⟨by rfl, ?_⟩) ?_
        rotate_left
        · (intro w hSw; (try dsimp only at hSw); go_simp; try with_reducible rfl)
        simp only [Act.put, List.setIfInBounds_toArray, List.set_cons_zero, List.set_cons_succ]
        refine wpHL_take (i := 8) (v := ?_) rfl (by kernel_rfl) (fun _ _ _ h => h) hHeld (Or.inl ⟨by rfl, ?_⟩) ?_
        rotate_left
        · (intro w hSw; (try dsimp only at hSw); go_simp; try with_reducible rfl)
        simp only [Act.put, List.setIfInBounds_toArray, List.set_cons_zero, List.set_cons_succ]
        refine wpHL_take (i := 9) (v := ?_) rfl (by kernel_rfl) (fun _ _ _ h => h) hHeld (Or.inl ⟨by rfl, ?_⟩) ?_
        rotate_left
        · (intro w hSw; (try dsimp only at hSw); go_simp; try with_reducible rfl)
        simp only [Act.put, List.setIfInBounds_toArray, List.set_cons_zero, List.set_cons_succ]
        refine wpHL_take (i := 10) (v := ?_) rfl (by kernel_rfl) (fun _ _ _ h => h) hHeld (Or.inl ⟨by rfl, ?_⟩) ?_
        rotate_left
        · (intro w hSw; (try dsimp only at hSw); go_simp; try with_reducible rfl)
        simp only [Act.put, List.setIfInBounds_toArray, List.set_cons_zero, List.set_cons_succ]
        refine wpHL_take (i := 11) (v := ?_) rfl (by kernel_rfl) (fun _ _ _ h => h) hHeld (Or.inl ⟨by rfl, ?_⟩) ?_
        rotate_left
        · (intro w hSw; (try dsimp only at hSw); go_simp; try with_reducible rfl)
        simp only [Act.put, List.setIfInBounds_toArray, List.set_cons_zero, List.set_cons_succ]
        refine wpHL_take (i := 12) (v := ?_) rfl (by kernel_rfl) (fun _ _ _ h => h) hHeld (Or.inl ⟨by rfl, ?_⟩) ?_
        rotate_left
        · (intro w hSw; (try dsimp only at hSw); go_simp; try with_reducible rfl)
        simp only [Act.put, List.setIfInBounds_toArray, List.set_cons_zero, List.set_cons_succ]
        refine wpHL_step (i := 13) rfl (by kernel_rfl) (by decide) (fun K hK => ?_)
        have HKK := Lib.hid hK
        clear hK hHeld
        go_simp
        refine (hCodeR _ _ _ _ _ _ _ _ (by have h9 := HRAW.out; rw [HLE.out] at h9; exact h9) (P := [4, 3]) (Q := [1, 2]) HP2.out HQ4.out (by simp [wi64]) (by simp [wi64]) (by omega) HIV.out HIL.out HIP.out HMV.out HML.out HMP.out HBD.out).mono ?_
        rintro e w5 ⟨v5, C5, rfl, k1, k2, k3, krt, k4⟩
        have HA5 := Lib.hid (HAD.out.keep k4)
        have g7 : w5.cell? ⟨w.heap.size + 10, 11, none⟩ = some c2 := by simp [World.cell?, HA5.out.b10]
        have f7 : w5.frozen? ⟨w.heap.size + 10, 11, none⟩ = false := by simp [World.frozen?, HA5.out.b10]
        obtain ⟨va5, vc5, rfl, -, -⟩ := k1.slice
        have HC5 : Hid (Inss w5 (.slice va5 C5.length vc5) C5 ∧ ∀ k, (Value.slice va5 C5.length vc5).ownBlock = some k → w.heap.size + 11 ≤ k) := Lib.hid ⟨k1, fun k hk => by
          have h1 := k2 k hk
          have h2 : w.heap.size + 10 < wr.heap.size := (Array.getElem?_eq_some_iff.1 HA.out.b10).1
          simp at h1
          omega⟩
        have HL5 : Hid (RC C5) := Lib.hid ⟨k3, krt⟩
        clear k1 k2 k3 k4 krt
        go_simp
        have hHeld := HS2.out _ HA5.out
        refine HKK.out _ _ hHeld ?_
        try simp only [Act.put, List.setIfInBounds_toArray, List.set_cons_zero, List.set_cons_succ]
        refine wpHL_take (i := 14) (v := ?_) rfl (by kernel_rfl) (fun _ _ _ h => h) hHeld (Or.inl ⟨by rfl, ?_⟩) ?_
        rotate_left
        · (intro w hSw; (try dsimp only at hSw); go_simp; try with_reducible rfl)
        simp only [Act.put, List.setIfInBounds_toArray, List.set_cons_zero, List.set_cons_succ]
        refine wpHL_take (i := 15) (v := ?_) rfl (by kernel_rfl) (fun _ _ _ h => h) hHeld (Or.inl ⟨by rfl, ?_⟩) ?_
        rotate_left
        · (intro w hSw; (try dsimp only at hSw); go_simp; try with_reducible rfl)
        simp only [Act.put, List.setIfInBounds_toArray, List.set_cons_zero, List.set_cons_succ]
        refine wpHL_last (by kernel_rfl) ?_
        clear hHeld HKK
        go_wp2_with fail
        go_roundw
        case rel => exact ⟨3, _, _, _, _, _, _, by omega, by go_num, Lib.hid (HA5.out.set2 HC5.out), Lib.hid ⟨fun _ => HG.out.1 (by omega), fun _ => HG.out.2.1 (by omega), fun _ => HL5.out⟩⟩
        case measure => simp [RowKit.intOf]
    · obtain rfl : m = 3 := by omega
      have e0 : wr.cell? ⟨w.heap.size + 1 + 1 + 1 + 1, 0, none⟩ = some (.string s0) := by simp [World.cell?, HA.out.b4]
      have e1 : wr.cell? ⟨w.heap.size + 1 + 1 + 1 + 1, 1, none⟩ = some (.slice (some ⟨w.heap.size + 2, 0, none⟩) 4 4) := by simp [World.cell?, HA.out.b4]
      have e4 : wr.cell? ⟨w.heap.size + 1 + 1 + 1 + 1, 4, none⟩ = some (.slice (some ⟨w.heap.size + 3, 0, none⟩) 2 2) := by simp [World.cell?, HA.out.b4]
      obtain ⟨a, b, c, d, e, hb0⟩ := HA.out.b0
      have r0 : wr.cell? ⟨w.heap.size, 0, none⟩ = some a := by simp [World.cell?, hb0]
      have r1 : wr.cell? ⟨w.heap.size, 1, none⟩ = some b := by simp [World.cell?, hb0]
      have r2 : wr.cell? ⟨w.heap.size, 2, none⟩ = some c := by simp [World.cell?, hb0]
      have r3 : wr.cell? ⟨w.heap.size, 3, none⟩ = some d := by simp [World.cell?, hb0]
      have r4 : wr.cell? ⟨w.heap.size, 4, none⟩ = some e := by simp [World.cell?, hb0]
      have f0 : ∀ j, wr.frozen? ⟨w.heap.size, j, none⟩ = false := fun j => by simp [World.frozen?, hb0]
      have f0' := f0 0
      have f1' := f0 1
      have f2' := f0 2
      have f3' := f0 3
      have f4' := f0 4
      obtain ⟨h5, hu5⟩ := fin5 (t := 29) (w := wr) (b := w.heap.size) (x := a) (y := b) (z := c) (u := d) (s := e) hb0 (.string s0) (.slice (some ⟨w.heap.size + 2, 0, none⟩) 4 4) (.slice (some ⟨w.heap.size + 7, 0, none⟩) 2 2) (.slice (some ⟨w.heap.size + 10, 0, none⟩) 3 3) (.slice (some ⟨w.heap.size + 3, 0, none⟩) 2 2)
      have HF := Lib.hid (HA.out.fin hu5 h5)
      have H5 := Lib.hid h5
      clear f0 h5 hu5 hb0
      go_wp2_with fail
      refine bodyPost_ret (v := img5 s0 (.slice (some ⟨w.heap.size + 2, 0, none⟩) 4 4) (.slice (some ⟨w.heap.size + 7, 0, none⟩) 2 2) (.slice (some ⟨w.heap.size + 10, 0, none⟩) 3 3) (.slice (some ⟨w.heap.size + 3, 0, none⟩) 2 2)) (by simp [results, Tryd.f5, go_sem, H5.out.c0, H5.out.c1, H5.out.c2, H5.out.c3, H5.out.c4]) rfl ?_
      exact ⟨_, _, _, _, _, _, _, _, _, rfl, HF.out, ⟨HG.out.1 (by omega), HG.out.2.1 (by omega), HG.out.2.2 (by omega)⟩, HNM.out.1, HNM.out.2.1, HNM.out.2.2⟩
end
end Go.Proofs.YtbjmmdomdijilabDoor

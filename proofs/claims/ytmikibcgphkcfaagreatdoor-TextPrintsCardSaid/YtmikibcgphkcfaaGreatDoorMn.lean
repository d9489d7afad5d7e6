/- The hand's maker: whatever fits a kind. -/
import Derived.Test.YtmikibcgphkcfaaGreatDoorMm
namespace Go.Proofs.YtmikibcgphkcfaaGreatDoor
open Go.RowKit Go.Lib
set_option linter.unusedVariables false

set_option maxRecDepth 100000 in
set_option maxHeartbeats 8000000 in
theorem mArrW (W : Gnd) (w : World) (b : Nat) (d : Int) (c : Nat) (kind : Int) (h : Mk 62 W w b d c) (hc : c ≤ 900000000) (hk : wi64 kind) :
    Calls Tryz.prog 52 #[.pointer (some ⟨b, 0, none⟩), .int .i64 kind] w fun e w' => e = .returned (.tuple #[]) ∧ Mk 62 W w' b d (c + 10) := by
  have HM := Lib.hid h
  have HK := Lib.hid hk
  clear h hk
  go_enter Tryz.func52, Tryz.ntmps52
  go_wp2_with (first
    | (go_at_call 72; (with_reducible refine (mNext _ _ _ _ _ HM.out (by omega)).mono ?_); rintro e _ ⟨x, rfl, hx, -, hm⟩; clear HM; have HM := Lib.hid hm; clear hx hm)
    | (go_at_call 6; (with_reducible refine (mPick _ 6 _ (by omega) (by omega)).mono ?_); rintro e _ ⟨k, rfl, hk, rfl⟩; obtain ⟨u, hu, hix⟩ := ix6 k hk; have HIX := Lib.hid hu; clear hu)
    | (go_at_call 6; (with_reducible refine (mPick _ _ _ (by omega) (by omega)).mono ?_); rintro e _ ⟨k, rfl, hk, rfl⟩)
    | (go_at_call 73; (with_reducible refine (mLocal _ _ _ _ _ _ HM.out (by omega)).mono ?_); rintro e _ ⟨x, ok, rfl, hx, hm⟩; clear HM; have HM := Lib.hid hm; have HX := Lib.hid hx; clear hx hm)
    | (go_at_call 28; (with_reducible refine (mPut _ _ _ _ _ _ _ _ HM.out (by omega) (by unfold wi64; omega) (by first | exact HX.out | exact HK.out | exact wi_of (wrap64_wf _) | (unfold wi64; omega)) (by first | exact HIX.out | (unfold wi64; omega))).mono ?_); rintro e _ ⟨rfl, hm⟩; clear HM; have HM := Lib.hid hm; clear hm))
  all_goals
    first
      | go_end0
      | (refine bodyPost_ret (results_none rfl _ _ _) rfl ?_)
    exact ⟨rfl, HM.out.more (by omega)⟩

set_option maxRecDepth 100000 in
set_option maxHeartbeats 8000000 in
theorem mAny (W : Gnd) (w : World) (b : Nat) (d : Int) (c : Nat) (kind : Int) (h : Mk 62 W w b d c) (hB : Bins W) (d0 : 0 ≤ d) (d9 : d ≤ 900) (hc : c ≤ 500000000) (hk : wi64 kind) :
    Calls Tryz.prog 27 #[.pointer (some ⟨b, 0, none⟩), .int .i64 kind] w fun e w' => e = .returned (.tuple #[]) ∧ Mk 62 W w' b d (c + 100000) := by
  have HM := Lib.hid h
  have HK := Lib.hid hk
  have HP := Lib.hid (pubAll W b d hB d0 d9)
  have HS := Lib.hid (secAll W b d hB d0 d9)
  clear h hk hB
  go_enter Tryz.func27, Tryz.ntmps27
  go_wp2_with (first
    | (go_at_call 54; (with_reducible refine (pubUse HP.out HM.out (by omega)).mono ?_); rintro e _ ⟨rfl, hm⟩; clear HM; have HM := Lib.hid hm; clear hm)
    | (go_at_call 55; (with_reducible refine (secUse HS.out HM.out (by omega)).mono ?_); rintro e _ ⟨rfl, hm⟩; clear HM; have HM := Lib.hid hm; clear hm)
    | (go_at_call 52; (with_reducible refine (mArrW _ _ _ _ _ _ HM.out (by omega) HK.out).mono ?_); rintro e _ ⟨rfl, hm⟩; clear HM; have HM := Lib.hid hm; clear hm))
  all_goals
    first
      | go_end0
      | (refine bodyPost_ret (results_none rfl _ _ _) rfl ?_)
    exact ⟨rfl, HM.out.more (by omega)⟩

/-- a ground anew: the world as it is now, and what the maker owns -/
theorem Mk.turn {t : TypeId} {W : Gnd} {w : World} {b : Nat} {d : Int} {c : Nat} (h : Mk t W w b d c) :
    ∃ S : Nat → Prop, (∀ k, S k → k < w.heap.size ∧ W.may k) ∧ (∀ o, Mk t ⟨w.alloc o, S⟩ (w.alloc o) b d c) ∧ Mk t ⟨w, S⟩ w b d c := by
  obtain ⟨cv, nv, kv, C, Ns, Ks, a, h⟩ := h
  have hm : MkAt t ⟨w, fun k => k = b ∨ cv.ownBlock = some k ∨ nv.ownBlock = some k ∨ kv.ownBlock = some k⟩ w b d c cv nv kv C Ns Ks a :=
    ⟨h.box, h.code, h.ns, h.ks, .inl (.inl rfl), fun k hk => .inl (.inr (.inl hk)), fun k hk => .inl (.inr (.inr (.inl hk))), fun k hk => .inl (.inr (.inr (.inr hk))), Upd.refl _ _, h.at0, h.atc, h.len, h.nsl, h.ksl, h.ty⟩
  refine ⟨fun k => k = b ∨ cv.ownBlock = some k ∨ nv.ownBlock = some k ∨ kv.ownBlock = some k, ?_, fun o => ?_, ⟨cv, nv, kv, C, Ns, Ks, a, hm⟩⟩
  · rintro k (rfl | hk | hk | hk)
    · exact ⟨h.box.lt, h.new⟩
    · exact ⟨(h.code.row.lt k hk).2, h.fc k hk⟩
    · exact ⟨(h.ns.row.lt k hk).2, h.fn k hk⟩
    · exact ⟨(h.ks.row.lt k hk).2, h.fk k hk⟩
  · have h2 := hm.mono (Upd.alloc (fun _ => False) w o) (fun _ h => h.elim)
    exact ⟨cv, nv, kv, C, Ns, Ks, a, h2.box, h2.code, h2.ns, h2.ks, .inl (.inl rfl), fun k hk => .inl (.inr (.inl hk)), fun k hk => .inl (.inr (.inr (.inl hk))), fun k hk => .inl (.inr (.inr (.inr hk))), Upd.refl _ _, h.at0, h.atc, h.len, h.nsl, h.ksl, h.ty⟩
theorem Mk.kept {t : TypeId} {W : Gnd} {w : World} {b : Nat} {d : Int} {c : Nat} (h : Mk t W w b d c) : Upd W.S W.w0 w := by
  obtain ⟨_, _, _, _, _, _, _, h⟩ := h
  exact h.below
/-- back on the ground of before -/
theorem Mk.back {t : TypeId} {W : Gnd} {w w' : World} {S : Nat → Prop} {b : Nat} {d : Int} {c : Nat} (h : Mk t ⟨w, S⟩ w' b d c) (hk : Upd W.S W.w0 w) (hS : ∀ k, S k → W.may k) : Mk t W w' b d c := by
  obtain ⟨cv, nv, kv, C, Ns, Ks, a, h⟩ := h
  have hm : ∀ k, Gnd.may ⟨w, S⟩ k → W.may k := fun k hh => by
    rcases hh with hh | hh
    · exact hS k hh
    · exact .inr (Nat.le_trans hk.size hh)
  exact ⟨cv, nv, kv, C, Ns, Ks, a, h.box, h.code, h.ns, h.ks, hm _ h.new, fun k hk' => hm k (h.fc k hk'), fun k hk' => hm k (h.fn k hk'), fun k hk' => hm k (h.fk k hk'),
    upd_of_new hk h.below hS, h.at0, h.atc, h.len, h.nsl, h.ksl, h.ty⟩
end Go.Proofs.YtmikibcgphkcfaaGreatDoor

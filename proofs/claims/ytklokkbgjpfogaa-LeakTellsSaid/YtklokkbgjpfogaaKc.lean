/- Package leak: Same. -/
import Derived.Test.YtklokkbgjpfogaaKe
import Derived.Deep.QuietTactic
namespace Go.Proofs.Ytklokkbgjpfogaa
open Go.RowKit Go.Lib Go.ChangeShapes Go.WideShapes Go.Deep
set_option linter.unusedVariables false
set_option linter.unusedSimpArgs false

/-- where two lists part: -1, if they are the same -/
def Parts (L M : List EvM) (r : Int) : Prop := (r = -1 ∧ L = M) ∨ ∃ k : Nat, r = k ∧ L.take k = M.take k ∧ L[k]? ≠ M[k]?
theorem take_get {L M : List EvM} {k j : Nat} (h : L.take k = M.take k) (hj : j < k) : L[j]? = M[j]? := by
  have := congrArg (fun l => l[j]?) h
  simpa [List.getElem?_take, hj] using this
theorem Parts.one {L M : List EvM} {r s : Int} (h : Parts L M r) (h' : Parts L M s) : r = s := by
  rcases h with ⟨rfl, rfl⟩ | ⟨k, rfl, h1, h2⟩
  · rcases h' with ⟨rfl, _⟩ | ⟨k', rfl, _, h4⟩
    · rfl
    · exact absurd rfl h4
  · rcases h' with ⟨rfl, rfl⟩ | ⟨k', rfl, h3, h4⟩
    · exact absurd rfl h2
    · rcases Nat.lt_trichotomy k k' with h | rfl | h
      · exact absurd (take_get h3 h) h2
      · rfl
      · exact absurd (take_get h1 h) h4
theorem Parts.same (L : List EvM) : Parts L L (-1) := .inl ⟨rfl, rfl⟩
theorem Parts.swap {L M : List EvM} {r : Int} (h : Parts L M r) : Parts M L r := by
  rcases h with ⟨rfl, rfl⟩ | ⟨k, rfl, h1, h2⟩
  · exact .same _
  · exact .inr ⟨k, rfl, h1.symm, h2.symm⟩
/-- what a trace, or none, tells -/
def Lst (w : World) (v : Value) (L : List EvM) : Prop := ∃ ev, Evs w ev L ∧ Calls Try.prog 17 #[v] w fun e w' => e = .returned ev ∧ w = w'
theorem Lst.none (w : World) : Lst w (.pointer none) [] := ⟨_, Evs.nil w, tList_nil w⟩
theorem Trc.lst {F : Nat → Prop} {w : World} {b : Nat} {L : List EvM} (h : Trc F w b L) : Lst w (.pointer (some ⟨b, 0, .none⟩)) L := by
  obtain ⟨ev, h⟩ := h
  exact ⟨ev, evs_of_row h.row, tList h⟩
set_option maxHeartbeats 1000000 in
theorem tSame {w : World} {v u : Value} {L M : List EvM} {r : Int} (hv : Lst w v L) (hu : Lst w u M) (hr : Parts L M r) :
    Calls Try.prog 10 #[v, u] w fun e w' => e = .returned (.int .i64 r) ∧ Upd (fun _ => False) w w' := by
  obtain ⟨x, hx, hcx⟩ := hv
  obtain ⟨y, hy, hcy⟩ := hu
  have HX := Lib.hid hx
  have HY := Lib.hid hy
  have HR := Lib.hid hr
  have HCX := Lib.hid hcx
  have HCY := Lib.hid hcy
  obtain ⟨xa, xc, rfl, hx1, hx2⟩ := hx.slice
  obtain ⟨ya, yc, rfl, hy1, hy2⟩ := hy.slice
  clear hx hy hr hcx hcy
  have hm1 : L.length ≤ maxLen := by omega
  have hm2 : M.length ≤ maxLen := by omega
  unfold maxLen at hm1 hm2
  clear hx1 hx2 hy1 hy2
  have HT0 : Hid (L.take 0 = M.take 0) := Lib.hid (by simp)
  have HU0 := Lib.hid (Upd.refl (fun _ => False) w)
  go_enter Try.func10, Try.ntmps10
  go_wp2_with fail
  refine HCX.out.mono ?_
  rintro e w' ⟨rfl, rfl⟩
  go_wp2_with fail
  refine HCY.out.mono ?_
  rintro e w' ⟨rfl, rfl⟩
  go_wp2_with fail
  all_goals
    go_loopw [19, 8] (fun i _ wr => ∃ k : Nat, k ≤ L.length ∧ k ≤ M.length ∧ i = .int .i64 k ∧ Hid (L.take k = M.take k) ∧ Hid (Upd (fun _ => False) w wr)) (fun i _ _ => min L.length M.length - (intOf i).toNat)
    case atStart => exact ⟨0, Nat.zero_le _, Nat.zero_le _, rfl, HT0, HU0⟩
    case round =>
      obtain ⟨k, hk1, hk2, rfl, HT, HU⟩ := hrel
      have hki : (0 : Int) ≤ (k : Int) := Int.natCast_nonneg _
      by_cases hlt : k < L.length ∧ k < M.length
      · obtain ⟨hl1, hl2⟩ := hlt
        obtain ⟨g1, o1, rfl, hg1, c0, c1, c2, c3⟩ := (HX.out.upd HU.out (fun _ _ h => h)).at hl1
        obtain ⟨g2, o2, rfl, hg2, d0, d1, d2, d3⟩ := (HY.out.upd HU.out (fun _ _ h => h)).at hl2
        have HE1 : Hid (L[k]? = some (L.getD k default)) := Lib.hid (by simp [List.getD, hl1])
        have HE2 : Hid (M[k]? = some (M.getD k default)) := Lib.hid (by simp [List.getD, hl2])
        generalize L.getD k default = s at *
        generalize M.getD k default = t at *
        have hgd := ev_guard
        have hne := fun w : World => evNeq w s t
        cases hq : evEq s t with
        | true =>
          rw [hq] at hne
          have HQ := Lib.hid hq
          clear hq
          go_wp2_with fail
          go_quiet (fail)
          clear hne hgd c0 c1 c2 c3 d0 d1 d2 d3
          have HU2 := Lib.hid (HU.out.trans (T := fun _ => False) (⟨rfl, rfl, rfl, Nat.le_refl _, fun _ _ _ => rfl⟩ : Upd (fun _ => False) wr (wr.drewN nq)) (fun _ h _ => h))
          have HT2 : Hid (L.take (k + 1) = M.take (k + 1)) := Lib.hid (by
            rw [List.take_add_one, List.take_add_one, HT.out, HE1.out, HE2.out, (evEq_iff s t).1 HQ.out])
          go_wp2_with fail
          go_roundw
          case rel => exact ⟨k + 1, by omega, by omega, by go_num, HT2, HU2⟩
          case measure => simp [intOf]; omega
        | false =>
          rw [hq] at hne
          have HQ := Lib.hid hq
          clear hq
          go_wp2_with fail
          go_quiet (fail)
          clear hne hgd c0 c1 c2 c3 d0 d1 d2 d3
          have HU2 := Lib.hid (HU.out.trans (T := fun _ => False) (⟨rfl, rfl, rfl, Nat.le_refl _, fun _ _ _ => rfl⟩ : Upd (fun _ => False) wr (wr.drewN nq)) (fun _ h _ => h))
          have HP : Hid (r = k) := Lib.hid (Parts.one HR.out (.inr ⟨k, rfl, HT.out, by
            rw [HE1.out, HE2.out]
            intro e
            have := (evEq_iff s t).2 (Option.some.inj e)
            rw [HQ.out] at this
            cases this⟩))
          go_wp2_with fail
          go_ret
          exact ⟨by rw [HP.out]; rfl, HU2.out⟩
      · have HNL := Lib.hid hlt
        by_cases hlm : L.length = M.length
        · have HP : Hid (r = -1) := Lib.hid (Parts.one HR.out (.inl ⟨rfl, by
            have := HT.out
            rwa [List.take_of_length_le (by omega), List.take_of_length_le (by omega)] at this⟩))
          go_wp2_with fail
          all_goals first
            | (exfalso; omega)
            | (go_ret; exact ⟨ret_i64 (by have := HP.out; omega), HU.out⟩)
        · have HP : Hid (r = k) := Lib.hid (Parts.one HR.out (.inr ⟨k, rfl, HT.out, by
            intro e
            rcases (by omega : L.length ≤ k ∨ M.length ≤ k) with h | h
            · rw [List.getElem?_eq_none h] at e
              have := List.getElem?_eq_none_iff.1 e.symm
              omega
            · rw [List.getElem?_eq_none h] at e
              have := List.getElem?_eq_none_iff.1 e
              omega⟩))
          go_wp2_with fail
          all_goals first
            | (exfalso; omega)
            | (go_ret; exact ⟨ret_i64 (by have := HNL.out; have := HP.out; omega), HU.out⟩)
end Go.Proofs.Ytklokkbgjpfogaa

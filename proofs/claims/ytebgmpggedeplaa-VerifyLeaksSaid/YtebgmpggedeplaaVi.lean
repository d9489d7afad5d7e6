/- Package verify: a stack brought to a place. -/
import Derived.Test.YtebgmpggedeplaaVh
namespace Go.Proofs.Ytebgmpggedeplaa
open Go.RowKit Go.Lib Go.ChangeShapes Go.WideShapes
set_option linter.unusedVariables false
set_option linter.unusedSimpArgs false

theorem Pls.set2 {w : World} {g k : Nat} {P : List PlM} (h : Pls w g P) (hk : k < P.length) (L : List Int) (td : Bool) (v : Value) (hv : Ints w v L) (ha : Away v g) (hl : L.length ≤ 8) :
    Pls ((w.setCell ⟨g, k * 3, none⟩ v).setCell ⟨g, k * 3 + 2, none⟩ (.bool td)) g (P.set k ⟨L, (P.getD k default).on, td⟩) := by
  obtain ⟨⟨cur, hc⟩, hp⟩ := h
  have hg : g < w.heap.size := (Array.getElem?_eq_some_iff.1 hc).1
  have hu : Upd (fun k => k = g) w ((w.setCell ⟨g, k * 3, none⟩ v).setCell ⟨g, k * 3 + 2, none⟩ (.bool td)) :=
    (Upd.setCell (S := fun k => k = g) w (.inl rfl) _).trans (Upd.setCell (S := fun k => k = g) _ (.inl rfl) _) (fun _ h _ => h)
  obtain ⟨v0, c0, c1, c2, -⟩ := hp k hk
  refine ⟨?_, fun j hj => ?_⟩
  · simp [World.setCell, Array.getElem?_modify, hc]
  · rw [List.length_set] at hj
    by_cases hjk : j = k
    · subst hjk
      have e : (P.set j ⟨L, (P.getD j default).on, td⟩).getD j default = ⟨L, (P.getD j default).on, td⟩ := by
        simp [List.getD, hk]
      rw [e]
      refine ⟨v, ?_, ?_, ?_, hv.keep hu ha, ha, hl⟩
      · rw [sc_other (by simp), sc_same c0]
      · rw [sc_other (by simp), sc_other (by simp)]; exact c1
      · rw [sc_same ((sc_other (by simp)).trans c2)]
    · have e : (P.set k ⟨L, (P.getD k default).on, td⟩).getD j default = P.getD j default := by simp [List.getD, Ne.symm hjk]
      rw [e]
      obtain ⟨v1, d0, d1, d2, d3, d4, d5⟩ := hp j hj
      refine ⟨v1, ?_, ?_, ?_, d3.keep hu d4, d4, d5⟩
      · rw [sc_other (by simp <;> omega), sc_other (by simp <;> omega)]; exact d0
      · rw [sc_other (by simp <;> omega), sc_other (by simp <;> omega)]; exact d1
      · rw [sc_other (by simp <;> omega), sc_other (by simp <;> omega)]; exact d2
theorem set_self {P : List PlM} {k : Nat} (hk : k < P.length) : P.set k (P.getD k default) = P := by
  have e : P.getD k default = P[k] := by simp [List.getD, hk]
  rw [e]; exact List.set_getElem_self hk

set_option maxRecDepth 100000 in
set_option maxHeartbeats 4000000 in
theorem vTake (w : World) (g k : Nat) (P : List PlM) (h : Pls w g P) (hk : k < P.length) (u : Value) (st : List Int) (hu : Ints w u st) (ha : Away u g) (hl : st.length ≤ 8) :
    Calls Try.prog 29 #[.pointer (some ⟨g, k * 3, none⟩), u] w fun e w' => e = .returned (.bool (takeP (P.getD k default) st).isSome) ∧ Upd (fun k => k = g) w w' ∧ ∀ p, takeP (P.getD k default) st = some p → Pls w' g (P.set k p) := by
  have HP := Lib.hid h
  have HK := Lib.hid hk
  have HU := Lib.hid hu
  have HAW := Lib.hid ha
  have HL := Lib.hid hl
  obtain ⟨v, c0, c1, c2, hv, hav, hlv⟩ := h.2 k hk
  have HV := Lib.hid hv
  have HAV := Lib.hid hav
  have HLV := Lib.hid hlv
  have hz0 := h.frozen (k * 3)
  have hz1 := h.frozen (k * 3 + 1)
  have hz2 := h.frozen (k * 3 + 2)
  have hg := h.lt
  obtain ⟨ua, uc, rfl, -, -⟩ := hu.slice
  obtain ⟨va, vc, rfl, -, -⟩ := hv.slice
  have HC0 := Lib.hid c0
  have HC1 := Lib.hid c1
  have HC2 := Lib.hid c2
  have HG := Lib.hid hg
  have HS2 : Hid (∀ w2, Pls w2 g P → ∀ L td v, Ints w2 v L → Away v g → L.length ≤ 8 → Pls ((w2.setCell ⟨g, k * 3, none⟩ v).setCell ⟨g, k * 3 + 2, none⟩ (.bool td)) g (P.set k ⟨L, (P.getD k default).on, td⟩)) := Lib.hid (fun w2 h2 L td v hv ha hl => h2.set2 hk L td v hv ha hl)
  have HSELF := Lib.hid (set_self hk)
  clear h hk hu ha hl hv hav hlv
  generalize P.getD k default = q at *
  cases hon : q.on with
  | false =>
    have HT := Lib.hid (show takeP q st = some ⟨st, true, true⟩ by simp only [takeP, hon, if_true])
    have HS := Lib.hid (HP.out.set HK.out ⟨st, true, true⟩ (.slice ua st.length uc) HU.out HAW.out HL.out)
    have HUD := Lib.hid (((Upd.setCell (S := fun k => k = g) w (p := ⟨g, k * 3, none⟩) (.inl rfl) (.slice ua st.length uc)).trans (Upd.setCell (S := fun k => k = g) _ (p := ⟨g, k * 3 + 1, none⟩) (.inl rfl) (.bool true)) (fun _ h _ => h)).trans (Upd.setCell (S := fun k => k = g) _ (p := ⟨g, k * 3 + 2, none⟩) (.inl rfl) (.bool true)) (fun _ h _ => h))
    rw [hon] at c1
    clear hon hg
    go_enter Try.func29, Try.ntmps29
    go_wp2_with fail
    go_ret
    refine ⟨by rw [HT.out]; rfl, HUD.out, fun p hp => ?_⟩
    rw [HT.out] at hp
    cases hp
    exact HS.out
  | true =>
    have HON := Lib.hid hon
    rw [hon] at c1
    clear hon
    go_enter Try.func29, Try.ntmps29
    go_wp2_with fail
    refine (vJoinAll _ _ _ q.st st HV.out HU.out (by have := HLV.out; omega)).mono ?_
    rintro e w1 ⟨r, rfl, hr, hu1, hnw⟩
    have HR := Lib.hid hr
    have HU1 := Lib.hid hu1
    have HNW := Lib.hid hnw
    have d0 := (hu1.cell (p := ⟨g, k * 3, none⟩) HG.out (fun h => h)).trans HC0.out
    have HD1 := Lib.hid ((hu1.cell (p := ⟨g, k * 3 + 1, none⟩) HG.out (fun h => h)).trans HC1.out)
    have d2 := (hu1.cell (p := ⟨g, k * 3 + 2, none⟩) HG.out (fun h => h)).trans HC2.out
    have HP1 := Lib.hid (HP.out.upd hu1)
    have e0 := HP1.out.frozen (k * 3)
    have e2 := HP1.out.frozen (k * 3 + 2)
    have HV1 := Lib.hid (HV.out.upd hu1 (fun _ _ _ _ _ _ h => h))
    obtain ⟨ra, rc, hre⟩ := ownsRow_slice hr.1
    subst hre
    clear hr hu1 hnw c0 c1 c2 hz0 hz1 hz2 hg
    cases hj : allB joinB q.st st with
    | false =>
      have HT := Lib.hid (show takeP q st = none by simp [takeP, HON.out, hj])
      have HJ := Lib.hid hj
      clear hj
      go_wp2_with fail
      go_ret
      refine ⟨by rw [HT.out]; rfl, HU1.out.mono (fun _ h _ => h.elim), fun p hp => ?_⟩
      rw [HT.out] at hp
      cases hp
    | true =>
      have HRJ : Hid (Ints w1 (.slice ra (joinR q.st st).length rc) (joinL q.st st)) := Lib.hid (by rw [← joinR_yes hj]; exact HR.out.ints)
      have HJL := Lib.hid (joinL_len q.st st)
      have HJT := Lib.hid hj
      clear hj
      go_wp2_with fail
      refine (vEqual _ _ _ (joinL q.st st) q.st HRJ.out HV1.out).mono ?_
      rintro e w2 ⟨rfl, hu2⟩
      have f0 := (hu2.cell (p := ⟨g, k * 3, none⟩) (World.block_lt_of_cell? _ _ d0) (fun h => h)).trans d0
      have f2 := (hu2.cell (p := ⟨g, k * 3 + 2, none⟩) (World.block_lt_of_cell? _ _ d2) (fun h => h)).trans d2
      have HP2 := Lib.hid (HP1.out.upd hu2)
      have e0' := HP2.out.frozen (k * 3)
      have e2' := HP2.out.frozen (k * 3 + 2)
      have HU2 := Lib.hid (HU1.out.trans hu2 (fun _ h _ => h))
      have HRJ2 := Lib.hid (HRJ.out.upd hu2 (fun _ _ _ _ _ _ h => h))
      clear hu2 d0 d2 e0 e2
      cases heq : allB eqB (joinL q.st st) q.st with
      | true =>
        have HT := Lib.hid (show takeP q st = some q by simp [takeP, HON.out, HJT.out, allB_eq.1 heq])
        clear heq
        go_wp2_with fail
        go_ret
        refine ⟨by rw [HT.out]; rfl, HU2.out.mono (fun _ h _ => h.elim), fun p hp => ?_⟩
        rw [HT.out] at hp
        cases hp
        rw [HSELF.out]
        exact HP2.out
      | false =>
        have hne : joinL q.st st ≠ q.st := fun h => by rw [allB_eq.2 h] at heq; cases heq
        have HT := Lib.hid (show takeP q st = some ⟨joinL q.st st, q.on, true⟩ by simp [takeP, HON.out, HJT.out, hne])
        have HS := Lib.hid (HS2.out w2 HP2.out (joinL q.st st) true _ HRJ2.out (HNW.out.away HG.out) (by rw [HJL.out]; exact HLV.out))
        have HUD := Lib.hid ((HU2.out.mono (T := fun k => k = g) (fun _ h _ => h.elim)).trans ((Upd.setCell (S := fun k => k = g) w2 (p := ⟨g, k * 3, none⟩) (.inl rfl) (.slice ra (joinR q.st st).length rc)).trans (Upd.setCell (S := fun k => k = g) _ (p := ⟨g, k * 3 + 2, none⟩) (.inl rfl) (.bool true)) (fun _ h _ => h)) (fun _ h _ => h))
        clear heq hne
        go_wp2_with fail
        go_ret
        refine ⟨by rw [HT.out]; rfl, HUD.out, fun p hp => ?_⟩
        rw [HT.out] at hp
        cases hp
        exact HS.out
end Go.Proofs.Ytebgmpggedeplaa

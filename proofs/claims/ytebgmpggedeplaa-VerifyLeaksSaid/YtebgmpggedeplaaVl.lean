/- Package verify: the walk over a method. -/
import Derived.Test.YtebgmpggedeplaaVk
namespace Go.Proofs.Ytebgmpggedeplaa
open Go.RowKit Go.Lib Go.ChangeShapes Go.WideShapes
set_option linter.unusedVariables false
set_option linter.unusedSimpArgs false

theorem ex_least {R : Nat → Prop} (h : ∃ f, R f) : ∃ f, R f ∧ ∀ g, R g → f ≤ g := by
  obtain ⟨f, hf⟩ := h
  induction f using Nat.strongRecOn with
  | ind f ih =>
    by_cases hx : ∃ g, g < f ∧ R g
    · obtain ⟨g, hg, hr⟩ := hx
      exact ih g hg hr
    · refine ⟨f, hf, fun g hg => ?_⟩
      rcases Nat.lt_or_ge g f with h | h
      · exact absurd ⟨g, h, hg⟩ hx
      · exact h
noncomputable def least (R : Nat → Prop) : Nat := @dite _ (∃ f, R f) (Classical.propDecidable _) (fun h => Classical.choose (ex_least h)) (fun _ => 0)
theorem least_spec {R : Nat → Prop} (h : ∃ f, R f) : R (least R) := by
  unfold least
  rw [dif_pos h]
  exact (Classical.choose_spec (ex_least h)).1
theorem least_le {R : Nat → Prop} {f : Nat} (h : R f) : least R ≤ f := by
  unfold least
  rw [dif_pos ⟨f, h⟩]
  exact (Classical.choose_spec (ex_least ⟨f, h⟩)).2 f h
theorem idx_lt {α : Type} {b : α → Bool} : ∀ {L : List α} {k : Nat}, idxP b L = some k → k < L.length
  | [], k, h => by simp [idxP] at h
  | x :: r, k, h => by
    unfold idxP at h
    split at h
    · simp at h; subst h; simp
    · cases hr : idxP b r with
      | none => rw [hr] at h; simp at h
      | some j => rw [hr] at h; simp at h; subst h; have := idx_lt hr; simp; omega
theorem idx_all {α : Type} {b : α → Bool} : ∀ {L : List α}, idxP b L = none → ∀ x ∈ L, b x = false
  | [], _, x, hx => by simp at hx
  | y :: r, h, x, hx => by
    unfold idxP at h
    split at h
    · simp at h
    · rename_i hb
      cases hr : idxP b r with
      | some j => rw [hr] at h; simp at h
      | none =>
        rcases List.mem_cons.1 hx with rfl | hx
        · simpa using hb
        · exact idx_all hr x hx
theorem Pls.setTd {w : World} {g k : Nat} {P : List PlM} (h : Pls w g P) (hk : k < P.length) :
    Pls (w.setCell ⟨g, k * 3 + 2, none⟩ (.bool false)) g (off P k) := by
  obtain ⟨⟨cur, hc⟩, hp⟩ := h
  have hg : g < w.heap.size := (Array.getElem?_eq_some_iff.1 hc).1
  have hu : Upd (fun k => k = g) w (w.setCell ⟨g, k * 3 + 2, none⟩ (.bool false)) := Upd.setCell (S := fun k => k = g) w (.inl rfl) _
  unfold off
  refine ⟨?_, fun j hj => ?_⟩
  · simp [World.setCell, Array.getElem?_modify, hc]
  · rw [List.length_set] at hj
    by_cases hjk : j = k
    · subst hjk
      have e : (P.set j ⟨(P.getD j default).st, (P.getD j default).on, false⟩).getD j default = ⟨(P.getD j default).st, (P.getD j default).on, false⟩ := by
        simp [List.getD, hk]
      rw [e]
      obtain ⟨v1, d0, d1, d2, d3, d4, d5⟩ := hp j hk
      refine ⟨v1, ?_, ?_, ?_, d3.keep hu d4, d4, d5⟩
      · rw [sc_other (by simp)]; exact d0
      · rw [sc_other (by simp)]; exact d1
      · rw [sc_same d2]
    · have e : (P.set k ⟨(P.getD k default).st, (P.getD k default).on, false⟩).getD j default = P.getD j default := by simp [List.getD, Ne.symm hjk]
      rw [e]
      obtain ⟨v1, d0, d1, d2, d3, d4, d5⟩ := hp j hj
      refine ⟨v1, ?_, ?_, ?_, d3.keep hu d4, d4, d5⟩
      · rw [sc_other (by simp <;> omega)]; exact d0
      · rw [sc_other (by simp <;> omega)]; exact d1
      · rw [sc_other (by simp <;> omega)]; exact d2
theorem off_len {P : List PlM} {k : Nat} : (off P k).length = P.length := by simp [off]
/-- places as they are made -/
theorem Pls.made {w : World} {g n : Nat} (h : w.ownsRow 0 54 3 (.slice (some ⟨g, 0, none⟩) n n) n (madeCells #[.slice none 0 0, .bool false, .bool false] (n * 3)).toList) : Pls w g (List.replicate n default) := by
  have hcell := h.cells (g := g) rfl
  obtain ⟨hl, h⟩ := h
  rcases h with ⟨h, _⟩ | ⟨g', cap', cur, he, hb, hg, -⟩
  · simp at h
  · simp at he
    obtain ⟨rfl, rfl⟩ := he
    refine ⟨⟨cur, hg⟩, fun k hk => ?_⟩
    have hk' : k < n := by simpa using hk
    have e : (List.replicate n (default : PlM)).getD k default = default := by simp [List.getD, hk']
    rw [e]
    have hq : ∀ q x, q < n * 3 → (#[.slice none 0 0, .bool false, .bool false] : Array Value).getD (q % 3) default = x → w.cell? ⟨g, q, none⟩ = some x := fun q x hq hx => by
      have := hcell q _ (List.getElem?_eq_getElem (by simpa [madeCells] using hq))
      rw [addr_add, Nat.zero_add] at this
      rw [this, ← hx]
      have h3 : q % 3 < 3 := Nat.mod_lt _ (by decide)
      simp [madeCells, h3]
    refine ⟨.slice none 0 0, hq _ _ (by omega) (by rw [show k * 3 % 3 = 0 by omega]; rfl), hq _ _ (by omega) (by rw [show (k * 3 + 1) % 3 = 1 by omega]; rfl), hq _ _ (by omega) (by rw [show (k * 3 + 2) % 3 = 2 by omega]; rfl), Ints.nil _, Away.nil _ _ _, by decide⟩
theorem plInfo : (Try.prog.info? 54).map (fun i => (i.zero, i.size, i.bytes)) = some (some (.agg #[.slice none 0 0, .bool false, .bool false]), 3, 32) := by kernel_rfl
theorem make_place (n : Nat) (hn : 0 < n) : takeP ((List.replicate n (default : PlM)).getD 0 default) [] = some ⟨[], true, true⟩ := by
  have e : (List.replicate n (default : PlM)).getD 0 default = default := by simp [List.getD, hn]
  rw [e]; rfl

set_option maxRecDepth 100000 in
set_option maxHeartbeats 8000000 in
theorem vWalk (w : World) (v : Value) (I : ImgM) (hI : Img w v I) (m : Nat) (hm : m < I.methods.length) (hR : imgB insB I = true) (f : Nat) (res : List PlM × Nat × Int) (hres : methP I m f = some res) :
    Calls Try.prog 14 #[v, .int .i64 m] w fun e w' => ∃ pv, e = .returned (.tuple #[pv, .int .i64 res.2.1, .int .i64 res.2.2]) ∧ Upd (fun _ => False) w w' ∧ (res.2.2 = 0 → ∃ g, pv = .slice (some ⟨g, 0, none⟩) (bodyP I m).code.length (bodyP I m).code.length ∧ Pls w' g res.1 ∧ res.1.length = (bodyP I m).code.length) := by
  obtain ⟨z0, hz, hz0, hz1, hz2⟩ := info_parts plInfo
  obtain ⟨⟨hr1, hr2⟩, hr3, hr4, hr5⟩ := right_met hR hm
  have HIM := Lib.hid hI
  have HCODE := Lib.hid (show ∀ x ∈ (bodyP I m).code, insB x = true from hr5)
  have hc1 : 0 < (bodyP I m).code.length := hr3
  have hc2 : (bodyP I m).code.length ≤ 120 := hr4
  have HRES := Lib.hid (show (match idxP (astrayB (bodyP I m)) (bodyP I m).code with | some pc => some ([], pc, 9) | none => walkP (bodyP I m) f (start (bodyP I m).code.length)) = some res from hres)
  have HL : Hid ((I.methods.getD m default).params.length + (I.methods.getD m default).locals.length ≤ 1000) := Lib.hid (by omega)
  have HMM := Lib.hid hm
  obtain ⟨fv, iv', mv, xv, rfl, hf, hi, hme, hx, hsz⟩ := hI
  obtain ⟨fa, fc, rfl, -, -⟩ := hf.slice
  obtain ⟨ia, ic, rfl, -, -⟩ := hi.slice
  obtain ⟨ma, mc, rfl, -, -⟩ := hme.slice
  obtain ⟨xa, xc, rfl, -, -⟩ := hx.slice
  have HA := Lib.hid (Upd.alloc (fun _ => False) w (.cells #[.string I.name, .slice fa I.fields.length fc, .slice ia I.imports.length ic, .slice ma I.methods.length mc, .slice xa I.exports.length xc] 31))
  clear hf hi hme hx hsz hr1 hr2 hr3 hr4 hr5 hres hR hm
  go_enter Try.func14, Try.ntmps14
  go_wp2_with fail
  refine (vBodyOf _ _ I (HIM.out.later (lbBelow HA.out)) m HMM.out HL.out).mono ?_
  rintro e w1 ⟨bv, rfl, hb, hu1⟩
  have HU1 := Lib.hid (HA.out.trans hu1 (fun _ h _ => h))
  generalize hBE : bodyP I m = B at *
  have HBE := Lib.hid hBE
  clear hBE
  have HB1 := Lib.hid hb
  obtain ⟨ga, gc, ja, jc, na, nc, ya, yc, la, lc, ca, cc, rfl, -, -, -, -, hcode, -⟩ := hb.open
  have HA2 := Lib.hid (Upd.alloc (fun _ => False) w1 (.cells #[.string B.img.name, .slice ga B.img.fields.length gc, .slice ja B.img.imports.length jc, .slice na B.img.methods.length nc, .slice ya B.img.exports.length yc, .slice la B.locals.length lc, .int .i64 B.res, .slice ca B.code.length cc] 67))
  have HBX := Lib.hid (fun (w' : World) (h : Upd (fun _ => False) (w1.alloc (.cells #[.string B.img.name, .slice ga B.img.fields.length gc, .slice ja B.img.imports.length jc, .slice na B.img.methods.length nc, .slice ya B.img.exports.length yc, .slice la B.locals.length lc, .int .i64 B.res, .slice ca B.code.length cc] 67)) w') => box8 h)
  have HCW := Lib.hid hcode.2
  have HCV := Lib.hid hcode
  clear hu1 hb hcode
  go_wp2_with fail
  refine (vIdxAstray _ _ B (HB1.out.later (lbBelow HA2.out)) _ B.code (HCV.out.later (lbBelow HA2.out)) (by omega)).mono ?_
  rintro e w2 ⟨rfl, hu2⟩
  have HX2 := Lib.hid hu2
  have HU2 := Lib.hid (HU1.out.trans (HA2.out.trans hu2 (fun _ h _ => h)) (fun _ h _ => h))
  have HV2 := Lib.hid (HA2.out.trans hu2 (fun _ h _ => h))
  clear hu2
  cases hq : idxP (astrayB B) B.code with
  | some pc =>
    have hr := HRES.out
    rw [hq] at hr
    simp only [Option.some.injEq] at hr
    subst hr
    have hp0 : (0 : Int) ≤ (pc : Int) := Int.natCast_nonneg _
    have hid : idxI (some pc) = (pc : Int) := rfl
    have hge : (pc : Int) ≥ 0 := hp0
    clear hq
    go_wp2_with fail
    go_ret3
    first | exact ⟨⟨.slice none 0 0, rfl⟩, HU2.out⟩ | exact ⟨.slice none 0 0, rfl, HU2.out, fun h => by simp at h⟩
  | none =>
    have hr := HRES.out
    rw [hq] at hr
    have HWK := Lib.hid (show walkP B f (start B.code.length) = some res from hr)
    have HNA := Lib.hid (idx_all hq)
    have hid : idxI none = -1 := rfl
    obtain ⟨b0, b1, b2, b3, b4, b5, b6, b7⟩ := HBX.out _ HX2.out
    obtain ⟨n, hn⟩ : ∃ n, n = B.code.length := ⟨_, rfl⟩
    have HN := Lib.hid hn
    clear hq hr
    go_wp2_with ((refine wpList_make_full w2 rfl _ _ 48 rfl 0 54 z0 (.agg #[.slice none 0 0, .bool false, .bool false]) 3 Try.underlying48 hz hz0 hz1 .i64 .i64 (B.code.length : Int) (B.code.length : Int) B.code.length rfl rfl rfl rfl (by rw [hz2]; omega) (by unfold maxLen; omega) (Nat.zero_le _) ?_))
    intro w3 ho hg
    have HP3 := Lib.hid (Pls.made ho)
    have HU3 := Lib.hid (Upd.grown (S := fun _ => False) hg (fun k hk => by cases hk))
    have HXX3 := Lib.hid (HX2.out.trans HU3.out (fun _ h _ => h))
    have HW3 := Lib.hid (HU2.out.trans HU3.out (fun _ h _ => h))
    have HV3 := Lib.hid (HV2.out.trans HU3.out (fun _ h _ => h))
    have HG2 : Hid (w1.heap.size < w2.heap.size) := Lib.hid (by have := HX2.out.size; simp at this; omega)
    have HGW : Hid (w.heap.size ≤ w2.heap.size) := Lib.hid HU2.out.size
    clear ho hg
    generalize hgg : w2.heap.size = g at *
    go_wp2_with fail
    refine (vTake w3 g 0 (List.replicate B.code.length default) HP3.out (by rw [List.length_replicate]; exact hc1) _ [] (Ints.nil _) (Away.nil _ _ _) (by simp)).mono ?_
    rw [make_place _ hc1]
    rintro e w4 ⟨rfl, hu4, hp4⟩
    have HP4 := Lib.hid (show Pls w4 g (start B.code.length) from hp4 _ rfl)
    have HU4 := Lib.hid hu4
    have HR0 : Hid (∃ f, ∃ P, Pls w4 g P ∧ P.length = B.code.length ∧ walkP B f P = some res) := Lib.hid ⟨f, _, HP4.out, by simp [start], HWK.out⟩
    have HR1 : Hid (Upd (fun k => k = g) w4 w4) := Lib.hid (Upd.refl _ _)
    clear hu4 hp4 b0 b1 b2 b3 b4 b5 b6 b7
    go_wp2_with fail
    go_loopw [10, 11] (fun _ _ wr => Hid (Upd (fun k => k = g) w4 wr) ∧ Hid (∃ f, ∃ P, Pls wr g P ∧ P.length = B.code.length ∧ walkP B f P = some res)) (fun _ _ wr => least (fun f => ∃ P, Pls wr g P ∧ P.length = B.code.length ∧ walkP B f P = some res))
    case atStart => exact ⟨HR1, HR0⟩
    case round =>
      obtain ⟨HU, HR⟩ := hrel
      obtain ⟨P, hP, hPl, hPw⟩ := least_spec HR.out
      obtain ⟨F0, hF0⟩ : ∃ F0, F0 = least (fun f => ∃ P, Pls wr g P ∧ P.length = B.code.length ∧ walkP B f P = some res) := ⟨_, rfl⟩
      rw [← hF0] at hPw
      have HF0 := Lib.hid hF0
      have HUr := Lib.hid (HU4.out.trans HU.out (fun _ h _ => h))
      have HWr := Lib.hid (HW3.out.trans HUr.out (fun i h hlt => by have := HGW.out; omega))
      have HPr := Lib.hid hP
      have HPL := Lib.hid hPl
      have HPLT : Hid (P.length ≤ 1000) := Lib.hid (by omega)
      clear hF0 hP
      cases F0 with
      | zero => simp [walkP] at hPw
      | succ f' =>
        have hstep : (match idxP PlM.td P with | none => some (P, 0, 0) | some pc => if (doP B (off P pc) pc).2 = 0 then walkP B f' (doP B (off P pc) pc).1 else some ([], pc, (doP B (off P pc) pc).2)) = some res := hPw
        have HST := Lib.hid hstep
        clear hPw hPl hstep
        go_wp2_with fail
        refine (vIdx wr g P HPr.out HPLT.out B.code.length HPL.out.symm).mono ?_
        rintro e w5 ⟨rfl, hu5⟩
        have HP5 := Lib.hid (HPr.out.upd hu5)
        have HU5 := Lib.hid (HU.out.trans hu5 (fun _ h _ => h.elim))
        have HU5' := Lib.hid hu5
        have HW5 := Lib.hid (HWr.out.trans hu5 (fun _ h _ => h))
        clear hu5
        cases hq : idxP PlM.td P with
        | none =>
          have hr := HST.out
          rw [hq] at hr
          simp only [Option.some.injEq] at hr
          subst hr
          have hid2 : idxI none = -1 := rfl
          clear hq
          go_wp2_with fail
          go_ret3
          rw [HBE.out]
          first | exact ⟨_, rfl, HW5.out, g, rfl, HP5.out, HPL.out⟩ | exact ⟨_, rfl, HW5.out, fun _ => ⟨g, rfl, HP5.out, HPL.out⟩⟩
        | some pc =>
          have hr := HST.out
          rw [hq] at hr
          have HD := Lib.hid (show (if (doP B (off P pc) pc).2 = 0 then walkP B f' (doP B (off P pc) pc).1 else some ([], pc, (doP B (off P pc) pc).2)) = some res from hr)
          have hpc := idx_lt hq
          have hpc2 : pc < B.code.length := by rw [← HPL.out]; exact hpc
          have hp0 : (0 : Int) ≤ (pc : Int) := Int.natCast_nonneg _
          have hpi : (pc : Int) < (B.code.length : Int) := by omega
          have hid2 : idxI (some pc) = (pc : Int) := rfl
          have hnl : ¬ ((pc : Int) < 0) := by omega
          obtain ⟨pv, q0, q1, q2, -, -, -⟩ := HP5.out.2 pc hpc
          have hfz := HP5.out.frozen (pc * 3 + 2)
          have HPO := Lib.hid (HP5.out.setTd hpc)
          have HUO := Lib.hid (HU5.out.trans (Upd.setCell (S := fun k => k = g) w5 (p := ⟨g, pc * 3 + 2, none⟩) (.inl rfl) (.bool false)) (fun _ h _ => h))
          have HU14 := Lib.hid ((HV3.out.mono (T := fun k => k = g) (fun _ h _ => h.elim)).trans (HU4.out.trans HUO.out (fun _ h _ => h)) (fun _ h _ => h))
          have HB14 := Lib.hid (HU14.out.below (B := w1.heap.size) (Nat.le_refl _) (fun k hk => by have := HG2.out; omega))
          have HXK := Lib.hid (HBX.out _ HXX3.out)
          have hne : w1.heap.size ≠ g := by have := HG2.out; omega
          have HX14 := Lib.hid (HU4.out.trans HUO.out (fun _ h _ => h))
          obtain ⟨b0, b1, b2, b3, b4, b5, b6, b7⟩ := HXK.out
          replace b0 := keep_cell b0 HX14.out hne
          replace b1 := keep_cell b1 HX14.out hne
          replace b2 := keep_cell b2 HX14.out hne
          replace b3 := keep_cell b3 HX14.out hne
          replace b4 := keep_cell b4 HX14.out hne
          replace b5 := keep_cell b5 HX14.out hne
          replace b6 := keep_cell b6 HX14.out hne
          replace b7 := keep_cell b7 HX14.out hne
          have HI := Lib.hid (right_op (HCODE.out _ (mem_getD hpc2)))
          have HIW := Lib.hid (HCW.out _ (mem_getD hpc2))
          have HIA := Lib.hid (HNA.out _ (mem_getD hpc2))
          have HPC2 := Lib.hid hpc2
          clear hq hr hpc hpc2 hne
          go_wp2_with fail
          refine (vDo w1 _ _ B HB1.out HB14.out g (Nat.le_of_lt HG2.out) (off P pc) HPO.out B.code.length pc (by rw [off_len]; exact HPL.out.symm) hc2 rfl HPC2.out (B.code.getD pc default) rfl HI.out.1 HI.out.2.1 HI.out.2.2 HIA.out HIW.out.2.1).mono ?_
          rintro e w6 ⟨rfl, hu6, hp6⟩
          have HU6 := Lib.hid (HUO.out.trans hu6 (fun _ h _ => h))
          have HUr6 := Lib.hid (HU4.out.trans HU6.out (fun _ h _ => h))
          have HW6 := Lib.hid (HW3.out.trans HUr6.out (fun i h hlt => by have := HGW.out; omega))
          have HP6 := Lib.hid hp6
          clear hu6 hp6 b0 b1 b2 b3 b4 b5 b6 b7 q0 q1 q2 hfz
          by_cases he : (doP B (off P pc) pc).2 = 0
          · have hD := HD.out
            rw [if_pos he] at hD
            obtain ⟨hp7, hl7⟩ := HP6.out he
            have HR7 : Hid (∃ f, ∃ P, Pls w6 g P ∧ P.length = B.code.length ∧ walkP B f P = some res) := Lib.hid ⟨f', _, hp7, hl7, hD⟩
            have HLE := Lib.hid (least_le (R := fun f => ∃ P, Pls w6 g P ∧ P.length = B.code.length ∧ walkP B f P = some res) ⟨_, hp7, hl7, hD⟩)
            rw [he]
            clear hp7 hl7 hD he HP6 HD
            go_wp2_with fail
            go_roundw
            case rel => exact ⟨HU6, HR7⟩
            case measure => exact Nat.lt_of_le_of_lt HLE.out (by rw [← HF0.out]; exact Nat.lt_succ_self _)
          · have hD := HD.out
            rw [if_neg he] at hD
            simp only [Option.some.injEq] at hD
            subst hD
            have he1 : ((doP B (off P pc) pc).2 == 0) = false := beq_eq_false_iff_ne.2 he
            have he2 : ((doP B (off P pc) pc).2 != 0) = true := by simp [bne, he1]
            have HE := Lib.hid he
            generalize hEE : (doP B (off P pc) pc).2 = E at *
            have HEE := Lib.hid hEE
            clear hEE
            clear he HP6 HD
            go_wp2_with fail
            go_ret3
            rw [HEE.out]
            first | exact ⟨⟨.slice none 0 0, rfl⟩, HW6.out⟩ | exact ⟨.slice none 0 0, rfl, HW6.out, fun h => absurd h HE.out⟩
end Go.Proofs.Ytebgmpggedeplaa

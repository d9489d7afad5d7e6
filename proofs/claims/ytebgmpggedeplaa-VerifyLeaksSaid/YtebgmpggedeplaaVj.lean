/- Package verify: do: a step, and what it is brought to. -/
import Derived.Test.YtebgmpggedeplaaVg
import Derived.Test.YtebgmpggedeplaaVi
namespace Go.Proofs.Ytebgmpggedeplaa
open Go.RowKit Go.Lib Go.ChangeShapes Go.WideShapes
set_option linter.unusedVariables false
set_option linter.unusedSimpArgs false

theorem vStep (w : World) (v : Value) (B : BodyM) (h : Body w v B) (i : InsM) (h1 : 1 ≤ i.op) (h2 : i.op ≤ 39) (h0 : i.op ≠ 1 → 0 ≤ i.a) (ha : astrayB B i = false) (hw : wi64 i.a) (u : Value) (st : List Int) (hs : Ints w u st) (hlen : st.length ≤ 8) : Calls Try.prog 40 #[v, ins i.op i.a i.b, u] w fun e w' => ∃ r, e = .returned (.tuple #[r, .int .i64 (stepP B i st).2]) ∧ Ints w' r (stepP B i st).1 ∧ Upd (fun _ => False) w w' ∧ Newer w.heap.size r := by
  obtain ⟨a, c, rfl, hc1, hc2⟩ := hs.slice
  cases a with
  | some A0 => exact vStepS w v B h i h1 h2 h0 ha hw A0 _ c st hs hlen
  | none =>
    have h0' : st = [] := by
      obtain ⟨⟨a, c1, e, _, _, h3⟩, _⟩ := hs
      rcases h3 with h3 | ⟨g, off, h3, _⟩
      · exact List.eq_nil_of_length_eq_zero h3
      · subst h3; simp at e
    subst h0'
    exact vStepN w v B h i h1 h2 h0 ha hw c hc2
theorem step_len {B : BodyM} {i : InsM} {st : List Int} : (stepP B i st).1.length ≤ 8 := by
  unfold stepP
  split
  · simp
  · split
    · simp
    · split
      · simp
      · split
        · simp
        · rename_i h _ _; exact Nat.le_of_not_lt h
/-- a box of eight cells -/
theorem box8 {w w' : World} {x0 x1 x2 x3 x4 x5 x6 x7 : Value} {t : TypeId} (hu : Upd (fun _ => False) (w.alloc (.cells #[x0, x1, x2, x3, x4, x5, x6, x7] t)) w') :
    w'.cell? ⟨w.heap.size, 0, none⟩ = some x0 ∧ w'.cell? ⟨w.heap.size, 1, none⟩ = some x1 ∧ w'.cell? ⟨w.heap.size, 2, none⟩ = some x2 ∧ w'.cell? ⟨w.heap.size, 3, none⟩ = some x3 ∧ w'.cell? ⟨w.heap.size, 4, none⟩ = some x4 ∧ w'.cell? ⟨w.heap.size, 5, none⟩ = some x5 ∧ w'.cell? ⟨w.heap.size, 6, none⟩ = some x6 ∧ w'.cell? ⟨w.heap.size, 7, none⟩ = some x7 := by
  have h0 : ∀ q, w'.cell? ⟨w.heap.size, q, none⟩ = (#[x0, x1, x2, x3, x4, x5, x6, x7] : Array Value)[q]? := fun q => by
    rw [hu.cell (p := ⟨w.heap.size, q, none⟩) (by simp) (fun h => h), World.cell?_alloc_new]
  exact ⟨h0 0, h0 1, h0 2, h0 3, h0 4, h0 5, h0 6, h0 7⟩
theorem follow_pos {i : InsM} {pc : Nat} (h0 : i.op ≠ 1 → 0 ≤ i.a) : ∀ y ∈ followP i pc, 0 ≤ y := by
  intro y hy
  unfold followP at hy
  split at hy
  · rename_i h; simp at hy h; subst hy; exact h0 (by omega)
  · split at hy
    · rename_i h; simp at hy h; rcases hy with rfl | rfl
      · omega
      · exact h0 (by omega)
    · split at hy
      · simp at hy
      · simp at hy; omega
theorem bring_end {st : List Int} {P : List PlM} {F : List Int} {k : Nat} (h : F.length ≤ k) : bringP st P (F.drop k) = (P, 0) := by
  rw [List.drop_eq_nil_of_le h]; rfl
theorem bring_at {st : List Int} {P : List PlM} {F : List Int} {k : Nat} (h : k < F.length) : bringP st P (F.drop k) = if (P.length : Int) ≤ F.getD k 0 then (P, 13) else
    match takeP (P.getD (F.getD k 0).toNat default) st with
    | none => (P, 14)
    | some p => bringP st (P.set (F.getD k 0).toNat p) (F.drop (k + 1)) := by
  rw [List.drop_eq_getElem_cons h]
  have e : F.getD k 0 = F[k] := by simp [List.getD, h]
  rw [e]
  rfl

set_option maxRecDepth 100000 in
set_option maxHeartbeats 8000000 in
theorem vDo (W w : World) (bv : Value) (B : BodyM) (hB : Body W bv B) (hW : Below W.heap.size W w) (g : Nat) (hg : W.heap.size ≤ g) (P : List PlM) (hP : Pls w g P) (n pc : Nat) (hn : n = P.length) (hn2 : n ≤ 120) (hcn : B.code.length = n) (hpc : pc < n)
    (i : InsM) (hi : i = B.code.getD pc default) (h1 : 1 ≤ i.op) (h2 : i.op ≤ 39) (h0 : i.op ≠ 1 → 0 ≤ i.a) (ha : astrayB B i = false) (hw : wi64 i.a) :
    Calls Try.prog 32 #[bv, .slice (some ⟨g, 0, none⟩) n n, .int .i64 pc] w fun e w' => e = .returned (.int .i64 (doP B P pc).2) ∧ Upd (fun k => k = g) w w' ∧ ((doP B P pc).2 = 0 → Pls w' g (doP B P pc).1 ∧ (doP B P pc).1.length = n) := by
  have HBW := Lib.hid (hB.later hW)
  obtain ⟨fa, fc, ia', ic, ma, mc, xa, xc, la, lc, ca, cc, rfl, -, -, -, -, hc, -⟩ := HBW.out.open
  obtain ⟨gc, oc, rfl, k0, k1, k2, -, -, -⟩ := hc.at (by rw [hcn]; exact hpc)
  obtain ⟨pv, p0, p1, p2, hpv, hpa, hpl⟩ := hP.2 pc (by rw [← hn]; exact hpc)
  obtain ⟨va, vc, rfl, -, -⟩ := hpv.slice
  rw [← hi] at k0 k1 k2
  obtain ⟨iop, iia, iib⟩ := i
  simp only at h1 h2 h0 hw k0 k1 k2
  have HI := Lib.hid hi
  have H1 := Lib.hid h1
  have H2 := Lib.hid h2
  have H0 := Lib.hid h0
  have HNA := Lib.hid ha
  have HWI := Lib.hid hw
  have HPL := Lib.hid hP
  have HN := Lib.hid hn
  have HG := Lib.hid hP.lt
  have HPV := Lib.hid hpv
  have HPLEN := Lib.hid hpl
  obtain ⟨E, hE⟩ : ∃ E, E = (stepP B ⟨iop, iia, iib⟩ (P.getD pc default).st).2 := ⟨_, rfl⟩
  obtain ⟨NS, hNS⟩ : ∃ NS, NS = (stepP B ⟨iop, iia, iib⟩ (P.getD pc default).st).1 := ⟨_, rfl⟩
  have HE := Lib.hid hE
  have HNS := Lib.hid hNS
  have HNL : Hid (NS.length ≤ 8) := Lib.hid (by rw [hNS]; exact step_len)
  have HDO := Lib.hid (show doP B P pc = if E = 0 then bringP NS P (followP ⟨iop, iia, iib⟩ pc) else (P, E) by unfold doP; rw [← hi, ← hE, ← hNS])
  generalize hST : (P.getD pc default).st = ST at *
  have HA := Lib.hid (Upd.alloc (fun _ => False) w (.cells #[.string B.img.name, .slice fa B.img.fields.length fc, .slice ia' B.img.imports.length ic, .slice ma B.img.methods.length mc, .slice xa B.img.exports.length xc, .slice la B.locals.length lc, .int .i64 B.res, .slice (some ⟨gc, oc, none⟩) B.code.length cc] 67))
  have HAD := Lib.hid (HA.out.trans (Upd.drew (fun _ => False) _) (fun _ h _ => h))
  have HX := Lib.hid (fun (w' : World) (h : Upd (fun _ => False) (w.alloc (.cells #[.string B.img.name, .slice fa B.img.fields.length fc, .slice ia' B.img.imports.length ic, .slice ma B.img.methods.length mc, .slice xa B.img.exports.length xc, .slice la B.locals.length lc, .int .i64 B.res, .slice (some ⟨gc, oc, none⟩) B.code.length cc] 67)) w') => box8 h)
  have HK := Lib.hid (fun (w' : World) (h : Upd (fun _ => False) w w') => And.intro ((h.cell (p := ⟨gc, oc + pc * 3, none⟩) (World.block_lt_of_cell? _ _ k0) (fun h => h)).trans k0) (And.intro ((h.cell (p := ⟨gc, oc + pc * 3 + 1, none⟩) (World.block_lt_of_cell? _ _ k1) (fun h => h)).trans k1) (And.intro ((h.cell (p := ⟨gc, oc + pc * 3 + 2, none⟩) (World.block_lt_of_cell? _ _ k2) (fun h => h)).trans k2) ((h.cell (p := ⟨g, pc * 3, none⟩) (World.block_lt_of_cell? _ _ p0) (fun h => h)).trans p0))))
  have hi1 : (0 : Int) ≤ (pc : Int) := Int.natCast_nonneg _
  have hi2 : (pc : Int) < (n : Int) := by omega
  have hwm : IntKind.i64.wrap (pc : Int) = (pc : Int) := IntWalk.i64_in _ (by omega)
  have HCN := Lib.hid hcn
  have HLE := Lib.hid hn2
  have HPC : Hid (pc ≤ 1000) := Lib.hid (by omega)
  have hcl : (pc : Int) < (B.code.length : Int) := by omega
  have d0 := HK.out _ HA.out
  obtain ⟨d0, d1, d2, d3⟩ := d0
  clear hB hW hg hP hn hcn hi h1 h2 h0 ha hw hc k0 k1 k2 p0 p1 p2 hpv hpa hpl hE hNS hST
  go_enter Try.func32, Try.ntmps32
  go_wp2_with fail
  go_region_held3 (fun w' => w'.cell? ⟨w.heap.size, 0, none⟩ = some (.string B.img.name) ∧ w'.cell? ⟨w.heap.size, 1, none⟩ = some (.slice fa B.img.fields.length fc) ∧ w'.cell? ⟨w.heap.size, 2, none⟩ = some (.slice ia' B.img.imports.length ic) ∧ w'.cell? ⟨w.heap.size, 3, none⟩ = some (.slice ma B.img.methods.length mc) ∧ w'.cell? ⟨w.heap.size, 4, none⟩ = some (.slice xa B.img.exports.length xc) ∧ w'.cell? ⟨w.heap.size, 5, none⟩ = some (.slice la B.locals.length lc) ∧ w'.cell? ⟨w.heap.size, 6, none⟩ = some (.int .i64 B.res) ∧ w'.cell? ⟨w.heap.size, 7, none⟩ = some (.slice (some ⟨gc, oc, none⟩) B.code.length cc) ∧ w'.cell? ⟨gc, oc + pc * 3, none⟩ = some (.int .i64 iop) ∧ w'.cell? ⟨gc, oc + pc * 3 + 1, none⟩ = some (.int .i64 iia) ∧ w'.cell? ⟨gc, oc + pc * 3 + 2, none⟩ = some (.int .i64 iib) ∧ w'.cell? ⟨g, pc * 3, none⟩ = some (.slice va ST.length vc)) (first
    | (obtain ⟨x0, x1, x2, x3, x4, x5, x6, x7⟩ := HX.out _ (Upd.refl _ _); obtain ⟨y0, y1, y2, y3⟩ := HK.out _ HA.out; exact ⟨x0, x1, x2, x3, x4, x5, x6, x7, y0, y1, y2, y3⟩)
    | (obtain ⟨x0, x1, x2, x3, x4, x5, x6, x7⟩ := HX.out _ (Upd.drew _ _); obtain ⟨y0, y1, y2, y3⟩ := HK.out _ HAD.out; exact ⟨x0, x1, x2, x3, x4, x5, x6, x7, y0, y1, y2, y3⟩)
    | (obtain ⟨x0, x1, x2, x3, x4, x5, x6, x7⟩ := HX.out _ HX1.out; obtain ⟨y0, y1, y2, y3⟩ := HK.out _ HU1.out; exact ⟨x0, x1, x2, x3, x4, x5, x6, x7, y0, y1, y2, y3⟩)) ((first
    | (go_at_call 40; (refine (vStep _ _ B (HBW.out.later (lbBelow HAD.out)) ⟨iop, iia, iib⟩ H1.out H2.out H0.out HNA.out HWI.out _ ST (HPV.out.later (lbBelow HAD.out)) HPLEN.out).mono ?_); rw [← HE.out, ← HNS.out]; rintro e w1 ⟨r, rfl, hr, hu, hnw⟩; obtain ⟨ra, rc, rfl, -, -⟩ := hr.slice; have HR := Lib.hid hr; have HX1 := Lib.hid ((Upd.drew (fun _ => False) _).trans hu (fun _ h _ => h)); have HU1 := Lib.hid (HAD.out.trans hu (fun _ h _ => h)); have HAW := Lib.hid (hnw.away (Nat.lt_of_lt_of_le HG.out HAD.out.size)); clear hr hu hnw)))
  all_goals
    have HP1 := Lib.hid (HPL.out.upd HU1.out)
    obtain ⟨x0, x1, x2, x3, x4, x5, x6, x7⟩ := HX.out _ HX1.out
    obtain ⟨y0, y1, y2, y3⟩ := HK.out _ HU1.out
    clear x0 x1 x2 x3 x4 x5 x6 y3 d0 d1 d2 d3
    by_cases hq : E = 0
    · subst hq
      have HD2 := Lib.hid (show doP B P pc = bringP NS P (followP ⟨iop, iia, iib⟩ pc) by rw [HDO.out, if_pos rfl])
      go_wp2_with fail
      refine (vFollow _ ⟨iop, iia, iib⟩ pc HPC.out HWI.out).mono ?_
      rintro e w2 ⟨fr, rfl, hfr, hu2, hfn⟩
      obtain ⟨F, hF⟩ : ∃ F, F = followP ⟨iop, iia, iib⟩ pc := ⟨_, rfl⟩
      rw [← hF] at hfr
      have HD3 := HD2.out
      rw [← hF] at HD3
      have HD := Lib.hid HD3
      have HPOS : Hid (∀ y ∈ F, 0 ≤ y) := Lib.hid (by rw [hF]; exact follow_pos H0.out)
      obtain ⟨sa, sc, rfl, hf1, hf2⟩ := hfr.slice
      unfold maxLen at hf2
      have HFR := Lib.hid hfr
      have HFA := Lib.hid (hfn.away (Nat.lt_of_lt_of_le HG.out HU1.out.size))
      have HU2 := Lib.hid (HU1.out.trans hu2 (fun _ h _ => h))
      have HU20 := Lib.hid (HU2.out.mono (T := fun k => k = g) (fun _ h _ => h.elim))
      have HP2 := Lib.hid (HP1.out.upd hu2)
      have HR2 := Lib.hid (HR.out.upd hu2 (fun _ _ _ _ _ _ h => h))
      have HB0 : Hid (bringP NS P F = bringP NS P (F.drop 0)) := Lib.hid rfl
      have HF0 : Hid (Upd (fun k => k = g) w2 w2) := Lib.hid (Upd.refl _ _)
      clear hfr hu2 hfn HD3 HD2 hF x7 y0 y1 y2
      go_wp2_with fail
      go_loopw [37, 10] (fun ix _ wr => ∃ (k : Nat) (P' : List PlM), k ≤ F.length ∧ ix = .int .i64 k ∧ Hid (Upd (fun k => k = g) w2 wr) ∧ Hid (Pls wr g P') ∧ Hid (P'.length = n) ∧ Hid (bringP NS P F = bringP NS P' (F.drop k))) (fun ix _ _ => F.length - (intOf ix).toNat)
      case atStart => exact ⟨0, P, Nat.zero_le _, rfl, HF0, HP2, Lib.hid HN.out.symm, HB0⟩
      case round =>
        obtain ⟨k, P', hk, rfl, HU, HPk, HLk, HBk⟩ := hrel
        have HUW := Lib.hid (HU20.out.trans HU.out (fun _ h _ => h))
        by_cases hlt : k < F.length
        · have hfk := HFR.out.keep HU.out HFA.out
          clear HFA
          obtain ⟨gf, of, rfl, hcf, hwf⟩ := hfk.at hlt
          have HBE := Lib.hid (bring_at (st := NS) (P := P') hlt)
          have hpos := HPOS.out _ (mem_getD0 hlt)
          obtain ⟨m, hm⟩ : ∃ m : Nat, F.getD k 0 = (m : Int) := ⟨(F.getD k 0).toNat, by omega⟩
          rw [hm] at hcf HBE
          have hj1 : (0 : Int) ≤ (k : Int) := Int.natCast_nonneg _
          have hj2 : (k : Int) < (F.length : Int) := by omega
          have hm1 : (0 : Int) ≤ (m : Int) := Int.natCast_nonneg _
          rw [Int.toNat_natCast, HLk.out] at HBE
          clear hm hpos hwf hfk
          by_cases hmn : (n : Int) ≤ (m : Int)
          · have HF := Lib.hid (HD.out.trans (HBk.out.trans (HBE.out.trans (if_pos hmn))))
            go_wp2_with fail
            go_ret
            exact ⟨by rw [HF.out]; rfl, HUW.out, fun h => by rw [HF.out] at h; simp at h⟩
          · have hmn2 : m < n := by omega
            have hmn3 : (m : Int) < (n : Int) := by omega
            have HBF := Lib.hid (HBE.out.trans (if_neg hmn))
            go_wp2_with fail
            refine (vTake _ g m P' HPk.out (by rw [HLk.out]; exact hmn2) _ NS (HR2.out.keep HU.out HAW.out) HAW.out HNL.out).mono ?_
            rintro e w3 ⟨rfl, hu3, hp3⟩
            have HU3 := Lib.hid (HU.out.trans hu3 (fun _ h _ => h))
            have HUW3 := Lib.hid (HU20.out.trans HU3.out (fun _ h _ => h))
            have HP3 := Lib.hid hp3
            clear hu3 hp3 hcf
            cases hT : takeP (P'.getD m default) NS with
            | none =>
              have HF := Lib.hid (HD.out.trans (HBk.out.trans (HBF.out.trans (by rw [hT]))))
              clear hT
              go_wp2_with fail
              go_ret
              exact ⟨by rw [HF.out]; rfl, HUW3.out, fun h => by rw [HF.out] at h; simp at h⟩
            | some p =>
              have HF := Lib.hid (HBk.out.trans (HBF.out.trans (by rw [hT])))
              have HPN := Lib.hid (HP3.out p hT)
              clear hT HP3
              go_wp2_with fail
              go_roundw
              case rel => exact ⟨k + 1, _, by omega, by go_num, HU3, HPN, Lib.hid (by rw [List.length_set]; exact HLk.out), HF⟩
              case measure => simp [intOf]; omega
        · have HF := Lib.hid (HD.out.trans (HBk.out.trans (bring_end (by omega))))
          go_wp2_with fail
          go_ret
          exact ⟨by rw [HF.out]; rfl, HUW.out, fun _ => by rw [HF.out]; exact ⟨HPk.out, HLk.out⟩⟩
    · have hq1 : (E == 0) = false := beq_eq_false_iff_ne.2 hq
      have hq2 : (E != 0) = true := by simp [bne, hq1]
      have HD2 := Lib.hid (show doP B P pc = (P, E) by rw [HDO.out, if_neg hq])
      have HQ := Lib.hid hq
      clear hq
      go_wp2_with fail
      go_ret
      exact ⟨by rw [HD2.out]; rfl, HU1.out.mono (fun _ h _ => h.elim), fun h => by rw [HD2.out] at h; exact absurd h HQ.out⟩
end Go.Proofs.Ytebgmpggedeplaa

/- Package verify: States and Height, of an image that is taken. -/
import Derived.Test.YtebgmpggedeplaaVm
namespace Go.Proofs.Ytebgmpggedeplaa
open Go.RowKit Go.Lib Go.ChangeShapes Go.WideShapes
set_option linter.unusedVariables false
set_option linter.unusedSimpArgs false

theorem own_nothing (w : World) : (w.alloc (.cells #[] 3)).ownsRow 0 3 1 (.slice (some ⟨w.heap.size, 0, none⟩) 0 0) 0 [] :=
  ⟨rfl, .inr ⟨w.heap.size, 0, #[], rfl, Nat.zero_le _, heap_alloc_new w _, Nat.le_refl _, by unfold maxLen; omega, rfl, rfl⟩⟩
set_option maxRecDepth 100000 in
set_option maxHeartbeats 4000000 in
theorem vClone (w : World) (v : Value) (L : List Int) (h : Ints w v L) (hl : L.length ≤ 1000) : Calls Try.prog 16 #[v] w fun e w' => ∃ r, e = .returned r ∧ Ints w' r L ∧ Upd (fun _ => False) w w' ∧ Newer w.heap.size r := by
  obtain ⟨i0, hi, hz0, hz1, hz2⟩ := info_parts lbInfo
  have H := Lib.hid h
  have HL := Lib.hid hl
  obtain ⟨a, c, rfl, h1, h2⟩ := h.slice
  cases a with
  | none =>
    have h0' : L = [] := by
      obtain ⟨⟨a, c1, e, _, _, h3⟩, _⟩ := h
      rcases h3 with h3 | ⟨g, off, h3, _⟩
      · exact List.eq_nil_of_length_eq_zero h3
      · subst h3; simp at e
    have HN := Lib.hid h0'
    clear h hl h0'
    have hbin := Lib.run_eql_slice_nil (P := Try.prog) w 27 3 none L.length c 0 0 Try.underlying27
    go_enter Try.func16, Try.ntmps16
    go_wp2_with fail
    go_ret
    exact ⟨_, rfl, by rw [HN.out]; exact Ints.nil _, Upd.refl _ _, Newer.nil _ _ _⟩
  | some A0 =>
    have HO := Lib.hid (own_nothing w)
    have HA := Lib.hid (Upd.alloc (fun _ => False) w (.cells #[] 3))
    clear h hl
    have hbin := Lib.run_eql_slice_nil (P := Try.prog) w 27 3 (some A0) L.length c 0 0 Try.underlying27
    go_enter Try.func16, Try.ntmps16
    go_wp2_with (at_builtin; go_loud (refine wp_append_ints _ rfl _ _ 27 rfl 3 i0 (.int .i64 0) Try.underlying27 hi hz0 hz1 hz2 rfl (.slice (some ⟨w.heap.size, 0, none⟩) 0 0) 0 [] rfl HO.out L _ rfl (H.out.later (lbBelow HA.out)) (by have := HL.out; omega) ?_))
    intro v' w2 ho hg hf
    obtain ⟨va, vc, rfl⟩ := ownsRow_slice ho
    have HR : Hid (ORow w2 (.slice va L.length vc) L) := Lib.hid ⟨by simpa using ho, H.out.2⟩
    have HNW := Lib.hid (Ints.newer (N := w.heap.size) HR.out (fun k hk => by
      rcases hf k hk with h | h
      · simp [Value.ownBlock] at h; omega
      · simp at h; omega))
    have HU := Lib.hid (Upd.row HA.out hg)
    clear ho hg hf
    go_wp2_with fail
    go_ret
    refine ⟨_, rfl, HR.out.ints, HU.out.mono (fun i h hlt => by simp [Value.ownBlock] at h; omega), HNW.out⟩

theorem verify_right {I : ImgM} {f rm rp : Nat} (h : verifyP I f = some (rm, rp, 0)) : imgB insB I = true := by
  cases hR : imgB insB I with
  | true => rfl
  | false =>
    unfold verifyP at h
    rw [hR] at h
    simp at h

set_option maxRecDepth 100000 in
set_option maxHeartbeats 8000000 in
theorem vPlaces (w : World) (v : Value) (I : ImgM) (hI : Img w v I) (f rm rp : Nat) (hv : verifyP I f = some (rm, rp, 0)) (m : Nat) (hm : m < I.methods.length) (P : List PlM) (pc : Nat) (hp : methP I m f = some (P, pc, 0)) :
    Calls Try.prog 15 #[v, .int .i64 m] w fun e w' => ∃ g, e = .returned (.tuple #[.slice (some ⟨g, 0, none⟩) P.length P.length, .bool true]) ∧ Pls w' g P ∧ Upd (fun _ => False) w w' := by
  have HIM := Lib.hid hI
  have HV := Lib.hid hv
  have HM := Lib.hid hm
  have HP := Lib.hid hp
  have HR := Lib.hid (verify_right hv)
  obtain ⟨fv, iv', mv, xv, rfl, hf, hi, hme, hx, hsz⟩ := hI
  obtain ⟨fa, fc, rfl, -, -⟩ := hf.slice
  obtain ⟨ia, ic, rfl, -, -⟩ := hi.slice
  obtain ⟨ma, mc, rfl, hm1, hm2⟩ := hme.slice
  obtain ⟨xa, xc, rfl, -, -⟩ := hx.slice
  have HA := Lib.hid (Upd.alloc (fun _ => False) w (.cells #[.string I.name, .slice fa I.fields.length fc, .slice ia I.imports.length ic, .slice ma I.methods.length mc, .slice xa I.exports.length xc] 31))
  have hi1 : ¬ ((m : Int) < 0) := by omega
  have hi2 : ¬ ((m : Int) ≥ (I.methods.length : Int)) := by omega
  have hi3 : (0 : Int) ≤ (m : Int) := by omega
  have hi4 : ¬ ((I.methods.length : Int) ≤ (m : Int)) := by omega
  have hi5 : (m : Int) < (I.methods.length : Int) := by omega
  clear hf hi hme hx hsz hv hm hp
  go_enter Try.func15, Try.ntmps15
  go_wp2_with fail
  refine (vVerify _ _ I (HIM.out.later (lbBelow HA.out)) f rm rp 0 HV.out).mono ?_
  rintro e w1 ⟨rfl, hu1⟩
  have hc := cell5 hu1 (fun h => h)
  have HU1 := Lib.hid (HA.out.trans hu1 (fun _ h _ => h))
  have HA2 := Lib.hid (Upd.alloc (fun _ => False) w1 (.cells #[.int .i64 rm, .int .i64 rp] 23))
  have HU2 := Lib.hid (HU1.out.trans HA2.out (fun _ h _ => h))
  have hd := keep5 HA2.out hc
  obtain ⟨c0, c1, c2, c3, c4⟩ := hc
  obtain ⟨d0, d1, d2, d3, d4⟩ := hd
  clear hu1
  go_wp2_with fail
  refine (vWalk _ _ I (HIM.out.later (lbBelow HU2.out)) m HM.out HR.out f (P, pc, 0) HP.out).mono ?_
  rintro e w3 ⟨pv, rfl, hu3, hpp⟩
  obtain ⟨g, rfl, hpl, hlen⟩ := hpp rfl
  have HPL := Lib.hid hpl
  have HLEN := Lib.hid hlen
  have HU3 := Lib.hid (HU2.out.trans hu3 (fun _ h _ => h))
  simp only at hlen
  clear hu3 hpp hpl hlen
  go_wp2_with fail
  go_ret2
  exact ⟨g, by rw [HLEN.out]; rfl, HPL.out, HU3.out⟩

/-- states as they lie: the first k are those of P -/
def Sts (w : World) (g n k : Nat) (P : List PlM) : Prop := (∃ cur, w.heap[g]? = some (.cells cur 27 (0, 0))) ∧ ∀ j, j < n → ∃ v, w.cell? ⟨g, j, none⟩ = some v ∧ (j < k → Ints w v (P.getD j default).st ∧ Away v g)
theorem Sts.upd {w w' : World} {g n k : Nat} {P : List PlM} (h : Sts w g n k P) (hu : Upd (fun _ => False) w w') : Sts w' g n k P := by
  obtain ⟨⟨cur, hc⟩, hp⟩ := h
  have hg : g < w.heap.size := (Array.getElem?_eq_some_iff.1 hc).1
  refine ⟨⟨cur, (hu.block g hg (fun h => h)).trans hc⟩, fun j hj => ?_⟩
  obtain ⟨v, h0, h1⟩ := hp j hj
  exact ⟨v, (hu.cell (p := ⟨g, _, none⟩) hg (fun h => h)).trans h0, fun hk => ⟨(h1 hk).1.upd hu (fun _ _ _ _ _ _ h => h), (h1 hk).2⟩⟩
theorem Sts.lt {w : World} {g n k : Nat} {P : List PlM} (h : Sts w g n k P) : g < w.heap.size := by
  obtain ⟨⟨cur, hc⟩, hp⟩ := h
  exact (Array.getElem?_eq_some_iff.1 hc).1
theorem Sts.frozen {w : World} {g n k : Nat} {P : List PlM} (h : Sts w g n k P) (q : Nat) : w.frozen? ⟨g, q, none⟩ = false := by
  obtain ⟨⟨cur, hc⟩, hp⟩ := h
  simp [World.frozen?, hc]
theorem Sts.set {w : World} {g n k : Nat} {P : List PlM} (h : Sts w g n k P) (hk : k < n) (v : Value) (hv : Ints w v (P.getD k default).st) (ha : Away v g) : Sts (w.setCell ⟨g, k, none⟩ v) g n (k + 1) P := by
  obtain ⟨⟨cur, hc⟩, hp⟩ := h
  have hg : g < w.heap.size := (Array.getElem?_eq_some_iff.1 hc).1
  have hu : Upd (fun k => k = g) w (w.setCell ⟨g, k, none⟩ v) := Upd.setCell (S := fun k => k = g) w (.inl rfl) _
  refine ⟨by simp [World.setCell, Array.getElem?_modify, hc], fun j hj => ?_⟩
  obtain ⟨u, h0, h1⟩ := hp j hj
  by_cases hjk : j = k
  · subst hjk
    exact ⟨v, sc_same h0, fun _ => ⟨hv.keep hu ha, ha⟩⟩
  · refine ⟨u, (sc_other (by simp <;> omega)).trans h0, fun hlt => ?_⟩
    have := h1 (by omega)
    exact ⟨this.1.keep hu this.2, this.2⟩
theorem Sts.made {w : World} {g n : Nat} (P : List PlM) (h : w.ownsRow 0 27 1 (.slice (some ⟨g, 0, none⟩) n n) n (madeCells #[.slice none 0 0] n).toList) : Sts w g n 0 P := by
  have hcell := h.cells (g := g) rfl
  obtain ⟨hl, h⟩ := h
  rcases h with ⟨h, _⟩ | ⟨g', cap', cur, he, hb, hg, -⟩
  · simp at h
  · simp at he
    obtain ⟨rfl, rfl⟩ := he
    refine ⟨⟨cur, hg⟩, fun j hj => ?_⟩
    have := hcell j _ (List.getElem?_eq_getElem (by simpa [madeCells] using hj))
    rw [addr_add, Nat.zero_add] at this
    exact ⟨_, this, fun h => by omega⟩
theorem stInfo : (Try.prog.info? 27).map (fun i => (i.zero, i.size, i.bytes)) = some (some (.slice none 0 0), 1, 24) := by kernel_rfl

set_option maxRecDepth 100000 in
set_option maxHeartbeats 8000000 in
theorem vStates (w : World) (v : Value) (I : ImgM) (hI : Img w v I) (f rm rp : Nat) (hv : verifyP I f = some (rm, rp, 0)) (m : Nat) (hm : m < I.methods.length) (P : List PlM) (pc : Nat) (hp : methP I m f = some (P, pc, 0)) (hl : P.length ≤ 1000) :
    Calls Try.prog 8 #[v, .int .i64 m] w fun e w' => ∃ g, e = .returned (.tuple #[.slice (some ⟨g, 0, none⟩) P.length P.length, .bool true]) ∧ Sts w' g P.length P.length P ∧ Upd (fun _ => False) w w' := by
  obtain ⟨z0, hz, hz0, hz1, hz2⟩ := info_parts stInfo
  have HIM := Lib.hid hI
  have HV := Lib.hid hv
  have HM := Lib.hid hm
  have HP := Lib.hid hp
  obtain ⟨fv, iv', mv, xv, rfl, hf, hi, hme, hx, hsz⟩ := hI
  obtain ⟨fa, fc, rfl, -, -⟩ := hf.slice
  obtain ⟨ia, ic, rfl, -, -⟩ := hi.slice
  obtain ⟨ma, mc, rfl, hm1, hm2⟩ := hme.slice
  obtain ⟨xa, xc, rfl, -, -⟩ := hx.slice
  have HA := Lib.hid (Upd.alloc (fun _ => False) w (.cells #[.string I.name, .slice fa I.fields.length fc, .slice ia I.imports.length ic, .slice ma I.methods.length mc, .slice xa I.exports.length xc] 31))
  clear hf hi hme hx hsz hv hm hp hm1 hm2
  go_enter Try.func8, Try.ntmps8
  go_wp2_with fail
  refine (vPlaces _ _ I (HIM.out.later (lbBelow HA.out)) f rm rp HV.out m HM.out P pc HP.out).mono ?_
  rintro e w1 ⟨g, rfl, hpl, hu1⟩
  have HPL := Lib.hid hpl
  have HU1 := Lib.hid (HA.out.trans hu1 (fun _ h _ => h))
  clear hpl hu1
  go_wp2_with ((refine wpList_make_full w1 rfl _ _ 35 rfl 0 27 z0 (.slice none 0 0) 1 Try.underlying35 hz hz0 hz1 .i64 .i64 (P.length : Int) (P.length : Int) P.length rfl rfl rfl rfl (by rw [hz2]; omega) (by unfold maxLen; omega) (Nat.zero_le _) ?_))
  intro w2 ho hg
  have HS2 := Lib.hid (Sts.made P ho)
  have HU12 := Lib.hid (Upd.grown (S := fun _ => False) hg (fun k hk => by cases hk))
  have HU2 := Lib.hid (HU1.out.trans HU12.out (fun _ h _ => h))
  have HP2 := Lib.hid (HPL.out.upd HU12.out)
  have HGW : Hid (w.heap.size ≤ w1.heap.size) := Lib.hid HU1.out.size
  have HGG : Hid (g < w1.heap.size) := Lib.hid HPL.out.lt
  have HU22 : Hid (Upd (fun k => k = w1.heap.size) w2 w2) := Lib.hid (Upd.refl _ _)
  have HB : Hid (∀ w', Upd (fun k => k = w1.heap.size) w2 w' → Below w1.heap.size w1 w') := Lib.hid (fun w' hu => ((HU12.out.mono (T := fun k => k = w1.heap.size) (fun _ h _ => h.elim)).trans hu (fun _ h _ => h)).below (Nat.le_refl _) (fun k hk => by omega))
  clear ho hg
  go_wp2_with fail
  go_loopw [24, 9, 10] (fun ix _ _ wr => ∃ k : Nat, k ≤ P.length ∧ ix = .int .i64 k ∧ Hid (Upd (fun k => k = w1.heap.size) w2 wr) ∧ Hid (Sts wr w1.heap.size P.length k P)) (fun ix _ _ _ => P.length - (intOf ix).toNat)
  case atStart => exact ⟨0, Nat.zero_le _, rfl, HU22, HS2⟩
  case round =>
    obtain ⟨k, hk, rfl, HU, HS⟩ := hrel
    have HUr := Lib.hid (HU2.out.trans HU.out (fun i h hlt => by have := HGW.out; omega))
    by_cases hlt : k < P.length
    · have HBw := Lib.hid (HB.out _ HU.out)
      obtain ⟨pv, p0, p1, p2, hpv, hpa, hpl⟩ := HPL.out.2 k hlt
      obtain ⟨va, vc, rfl, -, -⟩ := hpv.slice
      have q0 := (HBw.out.cell (p := ⟨g, k * 3, none⟩) HGG.out).trans p0
      have q1 := (HBw.out.cell (p := ⟨g, k * 3 + 1, none⟩) HGG.out).trans p1
      have q2 := (HBw.out.cell (p := ⟨g, k * 3 + 2, none⟩) HGG.out).trans p2
      have HV1 := Lib.hid (hpv.later HBw.out)
      have HLT := Lib.hid hlt
      have HP8 := Lib.hid hpl
      have hi1 : (0 : Int) ≤ (k : Int) := Int.natCast_nonneg _
      have hi2 : (k : Int) < (P.length : Int) := by omega
      have HS' := Lib.hid (show ∀ v r, Ints r v (P.getD k default).st → Ints r v (P.getD k default).st from fun _ _ h => h)
      have HSET := Lib.hid (fun (w' : World) (h : Sts w' w1.heap.size P.length k P) (v : Value) (hv : Ints w' v (P.getD k default).st) (ha : Away v w1.heap.size) => h.set hlt v hv ha)
      clear p0 p1 p2 hpv hpa hpl HS'
      generalize P.getD k default = q at *
      have HA4 := Lib.hid (Upd.alloc (fun _ => False) wr (.cells #[.slice va q.st.length vc, .bool q.on, .bool q.td] 54))
      clear hlt
      go_wp2_with fail
      refine (vClone _ _ q.st (HV1.out.later (lbBelow HA4.out)) (by have := HP8.out; omega)).mono ?_
      rintro e w4 ⟨r, rfl, hr, hu4, hn4⟩
      obtain ⟨ra, rc, rfl, -, -⟩ := hr.slice
      have HU4 := Lib.hid (HA4.out.trans hu4 (fun _ h _ => h))
      have HS4 := Lib.hid (HS.out.upd HU4.out)
      have hz := HS4.out.frozen k
      obtain ⟨u, hcu, -⟩ := HS4.out.2 k HLT.out
      have HS5 := Lib.hid (HSET.out w4 HS4.out _ hr (hn4.away (by have h1 := HS.out.lt; simp; omega)))
      have HU5 := Lib.hid ((HU.out.trans HU4.out (fun _ h _ => h.elim)).trans (Upd.setCell (S := fun k => k = w1.heap.size) w4 (p := ⟨w1.heap.size, k, none⟩) (.inl rfl) (.slice ra q.st.length rc)) (fun _ h _ => h))
      clear hr hu4 hn4 q0 q1 q2
      go_wp2_with fail
      go_roundw
      case rel => exact ⟨k + 1, by omega, by go_num, HU5, HS5⟩
      case measure => simp [intOf]; omega
    · obtain rfl : k = P.length := by omega
      go_wp2_with fail
      go_ret2
      exact ⟨_, rfl, HS.out, HUr.out⟩

def hgt (p : PlM) : Int := if p.on = true then (p.st.length : Int) else -1
set_option maxRecDepth 100000 in
set_option maxHeartbeats 8000000 in
theorem vHeight (w : World) (v : Value) (I : ImgM) (hI : Img w v I) (f rm rp : Nat) (hv : verifyP I f = some (rm, rp, 0)) (m : Nat) (hm : m < I.methods.length) (P : List PlM) (pc : Nat) (hp : methP I m f = some (P, pc, 0)) (hl : P.length ≤ 1000) (q : Nat) (hq : q < P.length) :
    Calls Try.prog 10 #[v, .int .i64 m, .int .i64 q] w fun e w' => e = .returned (.int .i64 (hgt (P.getD q default))) ∧ Upd (fun _ => False) w w' := by
  obtain ⟨x, hx0⟩ : ∃ x, x = P.getD q default := ⟨_, rfl⟩
  rw [← hx0]
  have HX0 := Lib.hid hx0
  clear hx0
  have HIM := Lib.hid hI
  have HV := Lib.hid hv
  have HM := Lib.hid hm
  have HP := Lib.hid hp
  obtain ⟨fv, iv', mv, xv, rfl, hf, hi, hme, hx, hsz⟩ := hI
  obtain ⟨fa, fc, rfl, -, -⟩ := hf.slice
  obtain ⟨ia, ic, rfl, -, -⟩ := hi.slice
  obtain ⟨ma, mc, rfl, hm1, hm2⟩ := hme.slice
  obtain ⟨xa, xc, rfl, -, -⟩ := hx.slice
  have HA := Lib.hid (Upd.alloc (fun _ => False) w (.cells #[.string I.name, .slice fa I.fields.length fc, .slice ia I.imports.length ic, .slice ma I.methods.length mc, .slice xa I.exports.length xc] 31))
  have hq1 : ¬ ((q : Int) < 0) := by omega
  have hq2 : ¬ ((q : Int) ≥ (P.length : Int)) := by omega
  have hq3 : (0 : Int) ≤ (q : Int) := by omega
  have hq4 : (q : Int) < (P.length : Int) := by omega
  clear hf hi hme hx hsz hv hm hp hm1 hm2
  go_enter Try.func10, Try.ntmps10
  go_wp2_with fail
  refine (vPlaces _ _ I (HIM.out.later (lbBelow HA.out)) f rm rp HV.out m HM.out P pc HP.out).mono ?_
  rintro e w1 ⟨g, rfl, hpl, hu1⟩
  have hpx := hpl.2 q hq
  rw [← HX0.out] at hpx
  obtain ⟨pv, p0, p1, p2, hpv, hpa, hpl8⟩ := hpx
  obtain ⟨va, vc, rfl, -, -⟩ := hpv.slice
  have HU1 := Lib.hid (HA.out.trans hu1 (fun _ h _ => h))
  clear hpl hu1 hpv hpa hpl8 hq
  cases hon : x.on with
  | true =>
    have HON := Lib.hid hon
    rw [hon] at p1
    clear hon
    go_wp2_with fail
    go_ret
    exact ⟨by rw [show hgt x = (x.st.length : Int) by simp [hgt, HON.out]]; rfl, HU1.out⟩
  | false =>
    have HON := Lib.hid hon
    rw [hon] at p1
    clear hon
    go_wp2_with fail
    go_ret
    exact ⟨by rw [show hgt x = -1 by simp [hgt, HON.out]]; rfl, HU1.out⟩
end Go.Proofs.Ytebgmpggedeplaa

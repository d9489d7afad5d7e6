/- Package verify: a step. -/
import Derived.Test.YtebgmpggedeplaaVf
import Derived.Deep.RegionHeld3
namespace Go.Proofs.Ytebgmpggedeplaa
open Go.RowKit Go.Lib Go.ChangeShapes Go.WideShapes
set_option linter.unusedVariables false
set_option linter.unusedSimpArgs false

theorem gives_len (B : BodyM) (i : InsM) (T : List Int) : (givesP B i T).length ≤ 2 := by
  have h1 : ∀ k, (oneP k).length ≤ 2 := fun k => by unfold oneP; split <;> simp
  have h2 : ∀ {c : Prop} [Decidable c] {a b : List Int}, a.length ≤ 2 → b.length ≤ 2 → (if c then a else b).length ≤ 2 := by
    intro c _ a b ha hb
    split <;> assumption
  unfold givesP
  repeat' (first | exact h1 _ | apply h2 | (simp; done))
theorem asks22 {B : BodyM} {i : InsM} (h : i.op = 22) : (asksP B i).length = 3 := by unfold asksP; simp only [h]; rfl
theorem asks30 {B : BodyM} {i : InsM} (h : i.op = 30) : (asksP B i).length = 3 := by unfold asksP; simp only [h]; rfl
theorem asks36 {B : BodyM} {i : InsM} (h : i.op = 36) : (asksP B i).length = 3 := by unfold asksP; simp only [h]; rfl
theorem asks31 {B : BodyM} {i : InsM} (h : i.op = 31) : (asksP B i).length = 5 := by unfold asksP; simp only [h]; rfl
theorem ints_drop {w : World} {a : Addr} {n c : Nat} {L : List Int} (h : Ints w (.slice (some a) n c) L) {k : Nat} (hk : k ≤ L.length) : Ints w (.slice (some (a.add k)) (n - k) (c - k)) (L.drop k) := by
  obtain ⟨⟨a', c', he, h1, h2, h3⟩, hw⟩ := h
  simp at he
  obtain ⟨rfl, rfl, rfl⟩ := he
  refine ⟨⟨_, c - k, by rw [List.length_drop], by rw [List.length_drop]; omega, by omega, ?_⟩, fun n hn => hw n (List.mem_of_mem_drop hn)⟩
  rcases h3 with h3 | ⟨g', off', e, h4⟩
  · left; rw [List.length_drop]; omega
  · simp at e
    subst e
    rw [List.length_drop]
    refine .inr ⟨g', off' + k, by rw [addr_add], fun i hi j hj => ?_⟩
    have := h4 (k + i) (by omega) j hj
    rw [show off' + k + i * 1 + j = off' + (k + i) * 1 + j by omega, this]
    simp [List.getD]

/-- two boxes: a body's, and an instruction's behind it -/
theorem boxes {w w' : World} {x0 x1 x2 x3 x4 x5 x6 x7 y0 y1 y2 : Value} {t s : TypeId} (hu : Upd (fun _ => False) ((w.alloc (.cells #[x0, x1, x2, x3, x4, x5, x6, x7] t)).alloc (.cells #[y0, y1, y2] s)) w') :
    w'.cell? ⟨w.heap.size, 0, none⟩ = some x0 ∧ w'.cell? ⟨w.heap.size, 1, none⟩ = some x1 ∧ w'.cell? ⟨w.heap.size, 2, none⟩ = some x2 ∧ w'.cell? ⟨w.heap.size, 3, none⟩ = some x3 ∧ w'.cell? ⟨w.heap.size, 4, none⟩ = some x4 ∧ w'.cell? ⟨w.heap.size, 5, none⟩ = some x5 ∧ w'.cell? ⟨w.heap.size, 6, none⟩ = some x6 ∧ w'.cell? ⟨w.heap.size, 7, none⟩ = some x7 ∧
    w'.cell? ⟨w.heap.size + 1, 0, none⟩ = some y0 ∧ w'.cell? ⟨w.heap.size + 1, 1, none⟩ = some y1 ∧ w'.cell? ⟨w.heap.size + 1, 2, none⟩ = some y2 := by
  have h0 : ∀ q, w'.cell? ⟨w.heap.size, q, none⟩ = (#[x0, x1, x2, x3, x4, x5, x6, x7] : Array Value)[q]? := fun q => by
    rw [hu.cell (p := ⟨w.heap.size, q, none⟩) (by simp; omega) (fun h => h), World.cell?_alloc_old _ _ _ (by simp), World.cell?_alloc_new]
  have h1 : ∀ q, w'.cell? ⟨w.heap.size + 1, q, none⟩ = (#[y0, y1, y2] : Array Value)[q]? := fun q => by
    rw [hu.cell (p := ⟨w.heap.size + 1, q, none⟩) (by simp) (fun h => h), show w.heap.size + 1 = (w.alloc (.cells #[x0, x1, x2, x3, x4, x5, x6, x7] t)).heap.size by simp, World.cell?_alloc_new]
  exact ⟨h0 0, h0 1, h0 2, h0 3, h0 4, h0 5, h0 6, h0 7, h1 0, h1 1, h1 2⟩


theorem step_eq {B : BodyM} {i : InsM} {st AL TT NL : List Int} {k : Nat} (hAL : AL = asksP B i) (hk : st.length - AL.length = k) (hlt : ¬ st.length < AL.length) (hT : TT = st.drop k) (hN : NL = st.take k ++ givesP B i TT) :
    stepP B i st = if 8 < NL.length then ([], 10) else if (allB suitB TT AL && alikeB i TT) = false then ([], 11) else if (allB keptB TT AL && !outB i TT) = false then ([], 12) else (NL, 0) := by
  subst hAL hk hT hN
  unfold stepP
  rw [if_neg hlt]

set_option maxRecDepth 100000 in
set_option maxHeartbeats 8000000 in
theorem vStepS (w : World) (v : Value) (B : BodyM) (h : Body w v B) (i : InsM) (h1 : 1 ≤ i.op) (h2 : i.op ≤ 39) (h0 : i.op ≠ 1 → 0 ≤ i.a) (ha : astrayB B i = false) (hw : wi64 i.a) (A0 : Addr) (n c : Nat) (st : List Int) (hs : Ints w (.slice (some A0) n c) st) (hlen : st.length ≤ 8) : Calls Try.prog 40 #[v, ins i.op i.a i.b, (.slice (some A0) n c)] w fun e w' => ∃ r, e = .returned (.tuple #[r, .int .i64 (stepP B i st).2]) ∧ Ints w' r (stepP B i st).1 ∧ Upd (fun _ => False) w w' ∧ Newer w.heap.size r := by
  obtain ⟨op, ia, ib⟩ := i
  have HB := Lib.hid h
  have HN1 := Lib.hid h1
  have HN2 := Lib.hid h2
  have HN0 := Lib.hid h0
  have HNA := Lib.hid ha
  have HNW := Lib.hid hw
  obtain ⟨fa, fc, ia', ic, ma, mc, xa, xc, la, lc, ca, cc, rfl, hf, hi, hm, hl, hc, hr⟩ := h.open
  have HA := Lib.hid ((Upd.alloc (fun _ => False) w (.cells #[.string B.img.name, .slice fa B.img.fields.length fc, .slice ia' B.img.imports.length ic, .slice ma B.img.methods.length mc, .slice xa B.img.exports.length xc, .slice la B.locals.length lc, .int .i64 B.res, .slice ca B.code.length cc] 67)).trans (Upd.alloc (fun _ => False) _ (.cells #[.int .i64 op, .int .i64 ia, .int .i64 ib] 34)) (fun _ h _ => h))
  have HS := Lib.hid hs
  obtain ⟨a', c', he, hn1, hn2⟩ := hs.slice
  simp only [Value.slice.injEq] at he
  obtain ⟨-, hn, hcc⟩ := he
  subst hcc
  unfold maxLen at hn2
  have HSL := Lib.hid hlen
  clear h h1 h2 h0 ha hw hf hi hm hl hc hr hs a'
  subst hn
  go_enter Try.func40, Try.ntmps40
  go_wp2_with fail
  refine (vAsks _ _ B (HB.out.later (lbBelow HA.out)) ⟨op, ia, ib⟩ HN1.out HN2.out HN0.out HNA.out).mono ?_
  rintro e w1 ⟨r, rfl, hr, hu⟩
  obtain ⟨ra, rc, rfl, hq1, hq2⟩ := hr.slice
  have HR := Lib.hid hr
  have HX1 := Lib.hid hu
  have HU1 := Lib.hid (HA.out.trans hu (fun _ h _ => h))
  have HBX := Lib.hid (fun (w' : World) (h : Upd (fun _ => False) ((w.alloc (.cells #[.string B.img.name, .slice fa B.img.fields.length fc, .slice ia' B.img.imports.length ic, .slice ma B.img.methods.length mc, .slice xa B.img.exports.length xc, .slice la B.locals.length lc, .int .i64 B.res, .slice ca B.code.length cc] 67)).alloc (.cells #[.int .i64 op, .int .i64 ia, .int .i64 ib] 34)) w') => boxes h)
  have hb := boxes hu
  clear hr hu
  obtain ⟨b0, b1, b2, b3, b4, b5, b6, b7, i0, i1, i2⟩ := hb
  obtain ⟨AL, hAL⟩ : ∃ AL, AL = asksP B ⟨op, ia, ib⟩ := ⟨_, rfl⟩
  rw [← hAL] at HR hq1 ⊢
  unfold maxLen at hq2
  have hwr : IntKind.i64.wrap ((st.length : Int) - (AL.length : Int)) = (st.length : Int) - (AL.length : Int) := IntWalk.i64_in _ (by omega)
  have HAL := Lib.hid hAL
  clear hAL
  by_cases hlt : st.length < AL.length
  · have HF := Lib.hid (show stepP B ⟨op, ia, ib⟩ st = ([], 10) by unfold stepP; rw [← HAL.out, if_pos hlt])
    have hc : (st.length : Int) - (AL.length : Int) < 0 := by omega
    go_wp2_with fail
    go_ret2
    exact ⟨.slice none 0 0, by rw [HF.out]; rfl, by rw [HF.out]; exact Ints.nil _, HU1.out, Newer.nil _ _ _⟩
  · obtain ⟨k, hk⟩ : ∃ k : Nat, st.length = AL.length + k := ⟨st.length - AL.length, by omega⟩
    have hke : (st.length : Int) - (AL.length : Int) = (k : Int) := by omega
    rw [hke] at hwr
    have hk1 : k ≤ st.length := by omega
    have hk0 : ¬ ((k : Int) < 0) := by omega
    have hk2 : k ≤ c := by omega
    have HKE := Lib.hid hk
    have HCUT : Hid (∀ w', Upd (fun _ => False) w w' → Ints w' (.slice (some A0) k c) (st.take k)) := Lib.hid (fun w' hu => ints_take (HS.out.later (lbBelow hu)) (by omega))
    have HXD := Lib.hid (HX1.out.trans (Upd.drew (fun _ => False) w1) (fun _ h _ => h))
    have HUD := Lib.hid (HU1.out.trans (Upd.drew (fun _ => False) w1) (fun _ h _ => h))
    obtain ⟨TT, hTT⟩ : ∃ TT, TT = st.drop k := ⟨_, rfl⟩
    obtain ⟨NL, hNL⟩ : ∃ NL, NL = st.take k ++ givesP B ⟨op, ia, ib⟩ TT := ⟨_, rfl⟩
    have HNL := Lib.hid hNL
    have HTT := Lib.hid hTT
    have HTL : Hid (TT.length = (asksP B ⟨op, ia, ib⟩).length) := Lib.hid (by rw [hTT, List.length_drop, ← HAL.out]; omega)
    have HST := Lib.hid (step_eq HAL.out (show st.length - AL.length = k by omega) hlt hTT hNL)
    have HT1 : Hid (Ints w1.drew (.slice (some (A0.add k)) (st.length - k) (c - k)) TT) := Lib.hid (by rw [hTT]; exact ints_drop (HS.out.later (lbBelow HUD.out)) hk1)
    have HT0 : Hid (c = k → Ints w1.drew (.slice (some A0) 0 0) TT) := Lib.hid (fun e => by
      have h0 : TT = [] := by rw [hTT]; exact List.drop_eq_nil_of_le (by omega)
      rw [h0]
      exact ⟨⟨some A0, 0, by simp, by simp, by unfold maxLen; omega, .inl rfl⟩, by simp⟩)
    have HKS : Hid (c = k → k = st.length ∧ c = st.length) := Lib.hid (fun e => ⟨by omega, by omega⟩)
    clear hk hlt hTT hNL
    by_cases hck : c = k
    · have HT := Lib.hid (HT0.out hck)
      obtain ⟨e1, e2⟩ := HKS.out hck
      clear HT0 HT1 HKS hck
      subst e1 e2
      clear hn1 hk1 hk2
      go_wp2_with fail
      go_region_held3 (fun w' => w'.cell? ⟨w.heap.size, 0, none⟩ = some (.string B.img.name) ∧ w'.cell? ⟨w.heap.size, 1, none⟩ = some (.slice fa B.img.fields.length fc) ∧ w'.cell? ⟨w.heap.size, 2, none⟩ = some (.slice ia' B.img.imports.length ic) ∧ w'.cell? ⟨w.heap.size, 3, none⟩ = some (.slice ma B.img.methods.length mc) ∧ w'.cell? ⟨w.heap.size, 4, none⟩ = some (.slice xa B.img.exports.length xc) ∧ w'.cell? ⟨w.heap.size, 5, none⟩ = some (.slice la B.locals.length lc) ∧ w'.cell? ⟨w.heap.size, 6, none⟩ = some (.int .i64 B.res) ∧ w'.cell? ⟨w.heap.size, 7, none⟩ = some (.slice ca B.code.length cc) ∧ w'.cell? ⟨w.heap.size + 1, 0, none⟩ = some (.int .i64 op) ∧ w'.cell? ⟨w.heap.size + 1, 1, none⟩ = some (.int .i64 ia) ∧ w'.cell? ⟨w.heap.size + 1, 2, none⟩ = some (.int .i64 ib)) (first
        | exact HBX.out _ HX1.out
        | exact HBX.out _ HX2.out
        | exact HBX.out _ (HX2.out.trans (Upd.alloc (fun _ => False) _ _) (fun _ h _ => h))
        | exact HBX.out _ HX3.out
        | exact HBX.out _ HXD.out) ((first
        | (go_at_call 48; (refine (vGives w1.drew _ B (HB.out.later (lbBelow HUD.out)) ⟨op, ia, ib⟩ HN1.out HN2.out HN0.out HNA.out HNW.out _ TT HT.out HTL.out).mono ?_); rintro e w2 ⟨r2, rfl, hr2, hu2⟩; obtain ⟨ga, gc, rfl, -, -⟩ := hr2.slice; have HG2 := Lib.hid hr2; have HX2 := Lib.hid (HXD.out.trans hu2 (fun _ h _ => h)); have HD2 := Lib.hid hu2; clear hr2 hu2)
        | (go_at_call 37; (refine (vConcat (w2.alloc _) w2.heap.size 0 _ _ (st.take st.length) (givesP B ⟨op, ia, ib⟩ TT) ((World.cell?_alloc_new _ _ _ _).trans rfl) ((World.cell?_alloc_new _ _ _ _).trans rfl) (HCUT.out _ (HA.out.trans (HX2.out.trans (Upd.alloc (fun _ => False) _ _) (fun _ h _ => h)) (fun _ h _ => h))) (HG2.out.later (lbBelow (Upd.alloc (fun _ => False) _ _))) (by have := gives_len B ⟨op, ia, ib⟩ TT; have := HSL.out; simp only [List.length_take]; omega)).mono ?_); rintro e w3 ⟨r3, rfl, hr3, hu3, hn3⟩; rw [← HNL.out] at hr3; obtain ⟨na, nc, rfl, -, hn32⟩ := hr3.slice; have HR3 := Lib.hid hr3; have HX3 := Lib.hid (HX2.out.trans ((Upd.alloc (fun _ => False) w2 _).trans hu3 (fun _ h _ => h)) (fun _ h _ => h)); have HD3 := Lib.hid (HD2.out.trans ((Upd.alloc (fun _ => False) w2 _).trans hu3 (fun _ h _ => h)) (fun _ h _ => h)); have HN3 := Lib.hid (hn3.le (Nat.le_trans (HA.out.trans HX2.out (fun _ h _ => h)).size (by simp))); clear hr3 hu3 hn3)))
      all_goals
        have HT3 := Lib.hid (HT.out.later (lbBelow HD3.out))
        have HE3 := Lib.hid ((Upd.drew (fun _ => False) w1).trans HD3.out (fun _ h _ => h))
        have HR3A := Lib.hid (HR.out.later (lbBelow HE3.out))
        have HU3 := Lib.hid (HA.out.trans HX3.out (fun _ h _ => h))
        by_cases h8 : 8 < NL.length
        · have hc8 : (8 : Int) < (NL.length : Int) := by omega
          have HF := Lib.hid (show stepP B ⟨op, ia, ib⟩ st = ([], 10) by rw [HST.out, if_pos h8])
          clear h8
          go_wp2_with fail
          go_ret2
          exact ⟨.slice none 0 0, by rw [HF.out]; rfl, by rw [HF.out]; exact Ints.nil _, HU3.out, Newer.nil _ _ _⟩
        · have hc8 : ¬ ((8 : Int) < (NL.length : Int)) := by omega
          have HN8 := Lib.hid h8
          clear h8
          go_wp2_with fail
          refine (vEqSuits _ _ _ TT AL HT3.out HR3A.out).mono ?_
          rintro e w4 ⟨rfl, hu4⟩
          have HD4 := Lib.hid (HD3.out.trans hu4 (fun _ h _ => h))
          have HV4 := Lib.hid hu4
          have HX4 := Lib.hid (HX3.out.trans hu4 (fun _ h _ => h))
          have HU4 := Lib.hid (HA.out.trans HX4.out (fun _ h _ => h))
          clear hu4
          cases hs : allB suitB TT AL with
          | false =>
            have HF := Lib.hid (show stepP B ⟨op, ia, ib⟩ st = ([], 11) by rw [HST.out, if_neg HN8.out, hs]; rfl)
            clear hs
            go_wp2_with fail
            go_ret2
            exact ⟨.slice none 0 0, by rw [HF.out]; rfl, by rw [HF.out]; exact Ints.nil _, HU4.out, Newer.nil _ _ _⟩
          | true =>
            have HS4 := Lib.hid hs
            have HT4 := Lib.hid (HT.out.later (lbBelow HD4.out))
            obtain ⟨-, -, -, -, -, -, -, -, j0, j1, j2⟩ := HBX.out _ HX4.out
            clear hs
            go_wp2_with fail
            refine (vAlike ⟨op, ia, ib⟩ _ _ TT HT4.out (fun h => HTL.out.trans (asks22 h))).mono ?_
            rintro e w5 ⟨rfl, hu5⟩
            have HD5 := Lib.hid (HD4.out.trans hu5 (fun _ h _ => h))
            have HV5 := Lib.hid (HV4.out.trans hu5 (fun _ h _ => h))
            have HE5 := Lib.hid ((Upd.drew (fun _ => False) w1).trans HD5.out (fun _ h _ => h))
            have HX5 := Lib.hid (HX4.out.trans hu5 (fun _ h _ => h))
            have HU5 := Lib.hid (HA.out.trans HX5.out (fun _ h _ => h))
            clear hu5 j0 j1 j2
            cases hs : alikeB ⟨op, ia, ib⟩ TT with
            | false =>
              have HF := Lib.hid (show stepP B ⟨op, ia, ib⟩ st = ([], 11) by rw [HST.out, if_neg HN8.out, HS4.out, hs]; rfl)
              clear hs
              go_wp2_with fail
              go_ret2
              exact ⟨.slice none 0 0, by rw [HF.out]; rfl, by rw [HF.out]; exact Ints.nil _, HU5.out, Newer.nil _ _ _⟩
            | true =>
              have HS5 := Lib.hid hs
              have HT5 := Lib.hid (HT.out.later (lbBelow HD5.out))
              have HR5 := Lib.hid (HR.out.later (lbBelow HE5.out))
              clear hs
              go_wp2_with fail
              refine (vEqKept _ _ _ TT AL HT5.out HR5.out).mono ?_
              rintro e w6 ⟨rfl, hu6⟩
              have HD6 := Lib.hid (HD5.out.trans hu6 (fun _ h _ => h))
              have HV6 := Lib.hid (HV5.out.trans hu6 (fun _ h _ => h))
              have HX6 := Lib.hid (HX5.out.trans hu6 (fun _ h _ => h))
              have HU6 := Lib.hid (HA.out.trans HX6.out (fun _ h _ => h))
              clear hu6
              cases hs : allB keptB TT AL with
              | false =>
                have HF := Lib.hid (show stepP B ⟨op, ia, ib⟩ st = ([], 12) by rw [HST.out, if_neg HN8.out, HS4.out, HS5.out, hs]; rfl)
                clear hs
                go_wp2_with fail
                go_ret2
                exact ⟨.slice none 0 0, by rw [HF.out]; rfl, by rw [HF.out]; exact Ints.nil _, HU6.out, Newer.nil _ _ _⟩
              | true =>
                have HS6 := Lib.hid hs
                have HT6 := Lib.hid (HT.out.later (lbBelow HD6.out))
                obtain ⟨-, -, -, -, -, -, -, -, j0, j1, j2⟩ := HBX.out _ HX6.out
                clear hs
                go_wp2_with fail
                refine (vLetsOut ⟨op, ia, ib⟩ _ _ TT HT6.out (fun h => HTL.out.trans (by rcases h with h | h | h; exact asks22 h; exact asks30 h; exact asks36 h)) (fun h => HTL.out.trans (asks31 h))).mono ?_
                rintro e w7 ⟨rfl, hu7⟩
                have HV7 := Lib.hid (HV6.out.trans hu7 (fun _ h _ => h))
                have HX7 := Lib.hid (HX6.out.trans hu7 (fun _ h _ => h))
                have HU7 := Lib.hid (HA.out.trans HX7.out (fun _ h _ => h))
                clear hu7 j0 j1 j2
                cases hs : outB ⟨op, ia, ib⟩ TT with
                | true =>
                  have HF := Lib.hid (show stepP B ⟨op, ia, ib⟩ st = ([], 12) by rw [HST.out, if_neg HN8.out, HS4.out, HS5.out, HS6.out, hs]; rfl)
                  clear hs
                  go_wp2_with fail
                  go_ret2
                  exact ⟨.slice none 0 0, by rw [HF.out]; rfl, by rw [HF.out]; exact Ints.nil _, HU7.out, Newer.nil _ _ _⟩
                | false =>
                  have HF := Lib.hid (show stepP B ⟨op, ia, ib⟩ st = (NL, 0) by rw [HST.out, if_neg HN8.out, HS4.out, HS5.out, HS6.out, hs]; rfl)
                  clear hs
                  go_wp2_with fail
                  go_ret2
                  exact ⟨.slice na NL.length nc, by rw [HF.out]; rfl, by rw [HF.out]; exact HR3.out.later (lbBelow HV7.out), HU7.out, HN3.out⟩
    · have HT := HT1
      clear HT0 HT1 HKS
      go_wp2_with fail
      go_region_held3 (fun w' => w'.cell? ⟨w.heap.size, 0, none⟩ = some (.string B.img.name) ∧ w'.cell? ⟨w.heap.size, 1, none⟩ = some (.slice fa B.img.fields.length fc) ∧ w'.cell? ⟨w.heap.size, 2, none⟩ = some (.slice ia' B.img.imports.length ic) ∧ w'.cell? ⟨w.heap.size, 3, none⟩ = some (.slice ma B.img.methods.length mc) ∧ w'.cell? ⟨w.heap.size, 4, none⟩ = some (.slice xa B.img.exports.length xc) ∧ w'.cell? ⟨w.heap.size, 5, none⟩ = some (.slice la B.locals.length lc) ∧ w'.cell? ⟨w.heap.size, 6, none⟩ = some (.int .i64 B.res) ∧ w'.cell? ⟨w.heap.size, 7, none⟩ = some (.slice ca B.code.length cc) ∧ w'.cell? ⟨w.heap.size + 1, 0, none⟩ = some (.int .i64 op) ∧ w'.cell? ⟨w.heap.size + 1, 1, none⟩ = some (.int .i64 ia) ∧ w'.cell? ⟨w.heap.size + 1, 2, none⟩ = some (.int .i64 ib)) (first
        | exact HBX.out _ HX1.out
        | exact HBX.out _ HX2.out
        | exact HBX.out _ (HX2.out.trans (Upd.alloc (fun _ => False) _ _) (fun _ h _ => h))
        | exact HBX.out _ HX3.out
        | exact HBX.out _ HXD.out) ((first
        | (go_at_call 48; (refine (vGives w1.drew _ B (HB.out.later (lbBelow HUD.out)) ⟨op, ia, ib⟩ HN1.out HN2.out HN0.out HNA.out HNW.out _ TT HT.out HTL.out).mono ?_); rintro e w2 ⟨r2, rfl, hr2, hu2⟩; obtain ⟨ga, gc, rfl, -, -⟩ := hr2.slice; have HG2 := Lib.hid hr2; have HX2 := Lib.hid (HXD.out.trans hu2 (fun _ h _ => h)); have HD2 := Lib.hid hu2; clear hr2 hu2)
        | (go_at_call 37; (refine (vConcat (w2.alloc _) w2.heap.size 0 _ _ (st.take k) (givesP B ⟨op, ia, ib⟩ TT) ((World.cell?_alloc_new _ _ _ _).trans rfl) ((World.cell?_alloc_new _ _ _ _).trans rfl) (HCUT.out _ (HA.out.trans (HX2.out.trans (Upd.alloc (fun _ => False) _ _) (fun _ h _ => h)) (fun _ h _ => h))) (HG2.out.later (lbBelow (Upd.alloc (fun _ => False) _ _))) (by have := gives_len B ⟨op, ia, ib⟩ TT; have := HSL.out; simp only [List.length_take]; omega)).mono ?_); rintro e w3 ⟨r3, rfl, hr3, hu3, hn3⟩; rw [← HNL.out] at hr3; obtain ⟨na, nc, rfl, -, hn32⟩ := hr3.slice; have HR3 := Lib.hid hr3; have HX3 := Lib.hid (HX2.out.trans ((Upd.alloc (fun _ => False) w2 _).trans hu3 (fun _ h _ => h)) (fun _ h _ => h)); have HD3 := Lib.hid (HD2.out.trans ((Upd.alloc (fun _ => False) w2 _).trans hu3 (fun _ h _ => h)) (fun _ h _ => h)); have HN3 := Lib.hid (hn3.le (Nat.le_trans (HA.out.trans HX2.out (fun _ h _ => h)).size (by simp))); clear hr3 hu3 hn3)))
      all_goals
        have HT3 := Lib.hid (HT.out.later (lbBelow HD3.out))
        have HE3 := Lib.hid ((Upd.drew (fun _ => False) w1).trans HD3.out (fun _ h _ => h))
        have HR3A := Lib.hid (HR.out.later (lbBelow HE3.out))
        have HU3 := Lib.hid (HA.out.trans HX3.out (fun _ h _ => h))
        by_cases h8 : 8 < NL.length
        · have hc8 : (8 : Int) < (NL.length : Int) := by omega
          have HF := Lib.hid (show stepP B ⟨op, ia, ib⟩ st = ([], 10) by rw [HST.out, if_pos h8])
          clear h8
          go_wp2_with fail
          go_ret2
          exact ⟨.slice none 0 0, by rw [HF.out]; rfl, by rw [HF.out]; exact Ints.nil _, HU3.out, Newer.nil _ _ _⟩
        · have hc8 : ¬ ((8 : Int) < (NL.length : Int)) := by omega
          have HN8 := Lib.hid h8
          clear h8
          go_wp2_with fail
          refine (vEqSuits _ _ _ TT AL HT3.out HR3A.out).mono ?_
          rintro e w4 ⟨rfl, hu4⟩
          have HD4 := Lib.hid (HD3.out.trans hu4 (fun _ h _ => h))
          have HV4 := Lib.hid hu4
          have HX4 := Lib.hid (HX3.out.trans hu4 (fun _ h _ => h))
          have HU4 := Lib.hid (HA.out.trans HX4.out (fun _ h _ => h))
          clear hu4
          cases hs : allB suitB TT AL with
          | false =>
            have HF := Lib.hid (show stepP B ⟨op, ia, ib⟩ st = ([], 11) by rw [HST.out, if_neg HN8.out, hs]; rfl)
            clear hs
            go_wp2_with fail
            go_ret2
            exact ⟨.slice none 0 0, by rw [HF.out]; rfl, by rw [HF.out]; exact Ints.nil _, HU4.out, Newer.nil _ _ _⟩
          | true =>
            have HS4 := Lib.hid hs
            have HT4 := Lib.hid (HT.out.later (lbBelow HD4.out))
            obtain ⟨-, -, -, -, -, -, -, -, j0, j1, j2⟩ := HBX.out _ HX4.out
            clear hs
            go_wp2_with fail
            refine (vAlike ⟨op, ia, ib⟩ _ _ TT HT4.out (fun h => HTL.out.trans (asks22 h))).mono ?_
            rintro e w5 ⟨rfl, hu5⟩
            have HD5 := Lib.hid (HD4.out.trans hu5 (fun _ h _ => h))
            have HV5 := Lib.hid (HV4.out.trans hu5 (fun _ h _ => h))
            have HE5 := Lib.hid ((Upd.drew (fun _ => False) w1).trans HD5.out (fun _ h _ => h))
            have HX5 := Lib.hid (HX4.out.trans hu5 (fun _ h _ => h))
            have HU5 := Lib.hid (HA.out.trans HX5.out (fun _ h _ => h))
            clear hu5 j0 j1 j2
            cases hs : alikeB ⟨op, ia, ib⟩ TT with
            | false =>
              have HF := Lib.hid (show stepP B ⟨op, ia, ib⟩ st = ([], 11) by rw [HST.out, if_neg HN8.out, HS4.out, hs]; rfl)
              clear hs
              go_wp2_with fail
              go_ret2
              exact ⟨.slice none 0 0, by rw [HF.out]; rfl, by rw [HF.out]; exact Ints.nil _, HU5.out, Newer.nil _ _ _⟩
            | true =>
              have HS5 := Lib.hid hs
              have HT5 := Lib.hid (HT.out.later (lbBelow HD5.out))
              have HR5 := Lib.hid (HR.out.later (lbBelow HE5.out))
              clear hs
              go_wp2_with fail
              refine (vEqKept _ _ _ TT AL HT5.out HR5.out).mono ?_
              rintro e w6 ⟨rfl, hu6⟩
              have HD6 := Lib.hid (HD5.out.trans hu6 (fun _ h _ => h))
              have HV6 := Lib.hid (HV5.out.trans hu6 (fun _ h _ => h))
              have HX6 := Lib.hid (HX5.out.trans hu6 (fun _ h _ => h))
              have HU6 := Lib.hid (HA.out.trans HX6.out (fun _ h _ => h))
              clear hu6
              cases hs : allB keptB TT AL with
              | false =>
                have HF := Lib.hid (show stepP B ⟨op, ia, ib⟩ st = ([], 12) by rw [HST.out, if_neg HN8.out, HS4.out, HS5.out, hs]; rfl)
                clear hs
                go_wp2_with fail
                go_ret2
                exact ⟨.slice none 0 0, by rw [HF.out]; rfl, by rw [HF.out]; exact Ints.nil _, HU6.out, Newer.nil _ _ _⟩
              | true =>
                have HS6 := Lib.hid hs
                have HT6 := Lib.hid (HT.out.later (lbBelow HD6.out))
                obtain ⟨-, -, -, -, -, -, -, -, j0, j1, j2⟩ := HBX.out _ HX6.out
                clear hs
                go_wp2_with fail
                refine (vLetsOut ⟨op, ia, ib⟩ _ _ TT HT6.out (fun h => HTL.out.trans (by rcases h with h | h | h; exact asks22 h; exact asks30 h; exact asks36 h)) (fun h => HTL.out.trans (asks31 h))).mono ?_
                rintro e w7 ⟨rfl, hu7⟩
                have HV7 := Lib.hid (HV6.out.trans hu7 (fun _ h _ => h))
                have HX7 := Lib.hid (HX6.out.trans hu7 (fun _ h _ => h))
                have HU7 := Lib.hid (HA.out.trans HX7.out (fun _ h _ => h))
                clear hu7 j0 j1 j2
                cases hs : outB ⟨op, ia, ib⟩ TT with
                | true =>
                  have HF := Lib.hid (show stepP B ⟨op, ia, ib⟩ st = ([], 12) by rw [HST.out, if_neg HN8.out, HS4.out, HS5.out, HS6.out, hs]; rfl)
                  clear hs
                  go_wp2_with fail
                  go_ret2
                  exact ⟨.slice none 0 0, by rw [HF.out]; rfl, by rw [HF.out]; exact Ints.nil _, HU7.out, Newer.nil _ _ _⟩
                | false =>
                  have HF := Lib.hid (show stepP B ⟨op, ia, ib⟩ st = (NL, 0) by rw [HST.out, if_neg HN8.out, HS4.out, HS5.out, HS6.out, hs]; rfl)
                  clear hs
                  go_wp2_with fail
                  go_ret2
                  exact ⟨.slice na NL.length nc, by rw [HF.out]; rfl, by rw [HF.out]; exact HR3.out.later (lbBelow HV7.out), HU7.out, HN3.out⟩


set_option maxRecDepth 100000 in
set_option maxHeartbeats 8000000 in
theorem vStepN (w : World) (v : Value) (B : BodyM) (h : Body w v B) (i : InsM) (h1 : 1 ≤ i.op) (h2 : i.op ≤ 39) (h0 : i.op ≠ 1 → 0 ≤ i.a) (ha : astrayB B i = false) (hw : wi64 i.a) (c : Nat) (hcm : c ≤ maxLen) : Calls Try.prog 40 #[v, ins i.op i.a i.b, (.slice none 0 c)] w fun e w' => ∃ r, e = .returned (.tuple #[r, .int .i64 (stepP B i []).2]) ∧ Ints w' r (stepP B i []).1 ∧ Upd (fun _ => False) w w' ∧ Newer w.heap.size r := by
  obtain ⟨op, ia, ib⟩ := i
  have HB := Lib.hid h
  have HN1 := Lib.hid h1
  have HN2 := Lib.hid h2
  have HN0 := Lib.hid h0
  have HNA := Lib.hid ha
  have HNW := Lib.hid hw
  obtain ⟨fa, fc, ia', ic, ma, mc, xa, xc, la, lc, ca, cc, rfl, hf, hi, hm, hl, hc, hr⟩ := h.open
  have HA := Lib.hid ((Upd.alloc (fun _ => False) w (.cells #[.string B.img.name, .slice fa B.img.fields.length fc, .slice ia' B.img.imports.length ic, .slice ma B.img.methods.length mc, .slice xa B.img.exports.length xc, .slice la B.locals.length lc, .int .i64 B.res, .slice ca B.code.length cc] 67)).trans (Upd.alloc (fun _ => False) _ (.cells #[.int .i64 op, .int .i64 ia, .int .i64 ib] 34)) (fun _ h _ => h))
  have HCM := Lib.hid hcm
  unfold maxLen at hcm
  clear h h1 h2 h0 ha hw hf hi hm hl hc hr
  go_enter Try.func40, Try.ntmps40
  go_wp2_with fail
  refine (vAsks _ _ B (HB.out.later (lbBelow HA.out)) ⟨op, ia, ib⟩ HN1.out HN2.out HN0.out HNA.out).mono ?_
  rintro e w1 ⟨r, rfl, hr, hu⟩
  obtain ⟨ra, rc, rfl, hq1, hq2⟩ := hr.slice
  have HR := Lib.hid hr
  have HX1 := Lib.hid hu
  have HU1 := Lib.hid (HA.out.trans hu (fun _ h _ => h))
  have HBX := Lib.hid (fun (w' : World) (h : Upd (fun _ => False) ((w.alloc (.cells #[.string B.img.name, .slice fa B.img.fields.length fc, .slice ia' B.img.imports.length ic, .slice ma B.img.methods.length mc, .slice xa B.img.exports.length xc, .slice la B.locals.length lc, .int .i64 B.res, .slice ca B.code.length cc] 67)).alloc (.cells #[.int .i64 op, .int .i64 ia, .int .i64 ib] 34)) w') => boxes h)
  have hb := boxes hu
  clear hr hu
  obtain ⟨b0, b1, b2, b3, b4, b5, b6, b7, i0, i1, i2⟩ := hb
  obtain ⟨AL, hAL⟩ : ∃ AL, AL = asksP B ⟨op, ia, ib⟩ := ⟨_, rfl⟩
  rw [← hAL] at HR hq1 ⊢
  unfold maxLen at hq2
  have hwr : IntKind.i64.wrap (-(AL.length : Int)) = -(AL.length : Int) := IntWalk.i64_in _ (by omega)
  have HAL := Lib.hid hAL
  clear hAL
  by_cases hlt : 0 < AL.length
  · have HF := Lib.hid (show stepP B ⟨op, ia, ib⟩ [] = ([], 10) by unfold stepP; rw [← HAL.out, if_pos (by simpa using hlt)])
    have hc : -(AL.length : Int) < 0 := by omega
    go_wp2_with fail
    go_ret2
    exact ⟨.slice none 0 0, by rw [HF.out]; rfl, by rw [HF.out]; exact Ints.nil _, HU1.out, Newer.nil _ _ _⟩
  · obtain rfl : AL = [] := List.eq_nil_of_length_eq_zero (by omega)
    have HCUT : Hid (∀ w', Upd (fun _ => False) w w' → Ints w' (.slice none 0 c) []) := Lib.hid (fun w' hu => ⟨⟨none, c, rfl, Nat.zero_le _, HCM.out, .inl rfl⟩, by simp⟩)
    have HXD := Lib.hid (HX1.out.trans (Upd.drew (fun _ => False) w1) (fun _ h _ => h))
    have HUD := Lib.hid (HU1.out.trans (Upd.drew (fun _ => False) w1) (fun _ h _ => h))
    obtain ⟨TT, hTT⟩ : ∃ TT : List Int, TT = [] := ⟨_, rfl⟩
    obtain ⟨NL, hNL⟩ : ∃ NL, NL = [] ++ givesP B ⟨op, ia, ib⟩ TT := ⟨_, rfl⟩
    have HNL := Lib.hid hNL
    have HTL : Hid (TT.length = (asksP B ⟨op, ia, ib⟩).length) := Lib.hid (by rw [hTT, ← HAL.out])
    have HST := Lib.hid (step_eq (st := []) (AL := []) (TT := TT) (NL := NL) (k := 0) HAL.out (by simp) (by simp) (by rw [hTT]; rfl) (by rw [hNL]; rfl))
    have HT : Hid (Ints w1.drew (.slice none 0 c) TT) := Lib.hid (by rw [hTT]; exact ⟨⟨none, c, rfl, Nat.zero_le _, HCM.out, .inl rfl⟩, by simp⟩)
    clear hTT hNL hlt hwr
    go_wp2_with fail
    go_region_held3 (fun w' => w'.cell? ⟨w.heap.size, 0, none⟩ = some (.string B.img.name) ∧ w'.cell? ⟨w.heap.size, 1, none⟩ = some (.slice fa B.img.fields.length fc) ∧ w'.cell? ⟨w.heap.size, 2, none⟩ = some (.slice ia' B.img.imports.length ic) ∧ w'.cell? ⟨w.heap.size, 3, none⟩ = some (.slice ma B.img.methods.length mc) ∧ w'.cell? ⟨w.heap.size, 4, none⟩ = some (.slice xa B.img.exports.length xc) ∧ w'.cell? ⟨w.heap.size, 5, none⟩ = some (.slice la B.locals.length lc) ∧ w'.cell? ⟨w.heap.size, 6, none⟩ = some (.int .i64 B.res) ∧ w'.cell? ⟨w.heap.size, 7, none⟩ = some (.slice ca B.code.length cc) ∧ w'.cell? ⟨w.heap.size + 1, 0, none⟩ = some (.int .i64 op) ∧ w'.cell? ⟨w.heap.size + 1, 1, none⟩ = some (.int .i64 ia) ∧ w'.cell? ⟨w.heap.size + 1, 2, none⟩ = some (.int .i64 ib)) (first
      | exact HBX.out _ HX1.out
      | exact HBX.out _ HX2.out
      | exact HBX.out _ (HX2.out.trans (Upd.alloc (fun _ => False) _ _) (fun _ h _ => h))
      | exact HBX.out _ HX3.out
      | exact HBX.out _ HXD.out) ((first
      | (go_at_call 48; (refine (vGives w1.drew _ B (HB.out.later (lbBelow HUD.out)) ⟨op, ia, ib⟩ HN1.out HN2.out HN0.out HNA.out HNW.out _ TT HT.out HTL.out).mono ?_); rintro e w2 ⟨r2, rfl, hr2, hu2⟩; obtain ⟨ga, gc, rfl, -, -⟩ := hr2.slice; have HG2 := Lib.hid hr2; have HX2 := Lib.hid (HXD.out.trans hu2 (fun _ h _ => h)); have HD2 := Lib.hid hu2; clear hr2 hu2)
      | (go_at_call 37; (refine (vConcat (w2.alloc _) w2.heap.size 0 _ _ [] (givesP B ⟨op, ia, ib⟩ TT) ((World.cell?_alloc_new _ _ _ _).trans rfl) ((World.cell?_alloc_new _ _ _ _).trans rfl) (HCUT.out _ (HA.out.trans (HX2.out.trans (Upd.alloc (fun _ => False) _ _) (fun _ h _ => h)) (fun _ h _ => h))) (HG2.out.later (lbBelow (Upd.alloc (fun _ => False) _ _))) (by have := gives_len B ⟨op, ia, ib⟩ TT; simp only [List.length_nil]; omega)).mono ?_); rintro e w3 ⟨r3, rfl, hr3, hu3, hn3⟩; rw [← HNL.out] at hr3; obtain ⟨na, nc, rfl, -, hn32⟩ := hr3.slice; have HR3 := Lib.hid hr3; have HX3 := Lib.hid (HX2.out.trans ((Upd.alloc (fun _ => False) w2 _).trans hu3 (fun _ h _ => h)) (fun _ h _ => h)); have HD3 := Lib.hid (HD2.out.trans ((Upd.alloc (fun _ => False) w2 _).trans hu3 (fun _ h _ => h)) (fun _ h _ => h)); have HN3 := Lib.hid (hn3.le (Nat.le_trans (HA.out.trans HX2.out (fun _ h _ => h)).size (by simp))); clear hr3 hu3 hn3)))
    all_goals
      have HT3 := Lib.hid (HT.out.later (lbBelow HD3.out))
      have HE3 := Lib.hid ((Upd.drew (fun _ => False) w1).trans HD3.out (fun _ h _ => h))
      have HR3A := Lib.hid (HR.out.later (lbBelow HE3.out))
      have HU3 := Lib.hid (HA.out.trans HX3.out (fun _ h _ => h))
      by_cases h8 : 8 < NL.length
      · have hc8 : (8 : Int) < (NL.length : Int) := by omega
        have HF := Lib.hid (show stepP B ⟨op, ia, ib⟩ [] = ([], 10) by rw [HST.out, if_pos h8])
        clear h8
        go_wp2_with fail
        go_ret2
        exact ⟨.slice none 0 0, by rw [HF.out]; rfl, by rw [HF.out]; exact Ints.nil _, HU3.out, Newer.nil _ _ _⟩
      · have hc8 : ¬ ((8 : Int) < (NL.length : Int)) := by omega
        have HN8 := Lib.hid h8
        clear h8
        go_wp2_with fail
        refine (vEqSuits _ _ _ TT [] HT3.out HR3A.out).mono ?_
        rintro e w4 ⟨rfl, hu4⟩
        have HD4 := Lib.hid (HD3.out.trans hu4 (fun _ h _ => h))
        have HV4 := Lib.hid hu4
        have HX4 := Lib.hid (HX3.out.trans hu4 (fun _ h _ => h))
        have HU4 := Lib.hid (HA.out.trans HX4.out (fun _ h _ => h))
        clear hu4
        cases hs : allB suitB TT [] with
        | false =>
          have HF := Lib.hid (show stepP B ⟨op, ia, ib⟩ [] = ([], 11) by rw [HST.out, if_neg HN8.out, hs]; rfl)
          clear hs
          go_wp2_with fail
          go_ret2
          exact ⟨.slice none 0 0, by rw [HF.out]; rfl, by rw [HF.out]; exact Ints.nil _, HU4.out, Newer.nil _ _ _⟩
        | true =>
          have HS4 := Lib.hid hs
          have HT4 := Lib.hid (HT.out.later (lbBelow HD4.out))
          obtain ⟨-, -, -, -, -, -, -, -, j0, j1, j2⟩ := HBX.out _ HX4.out
          clear hs
          go_wp2_with fail
          refine (vAlike ⟨op, ia, ib⟩ _ _ TT HT4.out (fun h => HTL.out.trans (asks22 h))).mono ?_
          rintro e w5 ⟨rfl, hu5⟩
          have HD5 := Lib.hid (HD4.out.trans hu5 (fun _ h _ => h))
          have HV5 := Lib.hid (HV4.out.trans hu5 (fun _ h _ => h))
          have HE5 := Lib.hid ((Upd.drew (fun _ => False) w1).trans HD5.out (fun _ h _ => h))
          have HX5 := Lib.hid (HX4.out.trans hu5 (fun _ h _ => h))
          have HU5 := Lib.hid (HA.out.trans HX5.out (fun _ h _ => h))
          clear hu5 j0 j1 j2
          cases hs : alikeB ⟨op, ia, ib⟩ TT with
          | false =>
            have HF := Lib.hid (show stepP B ⟨op, ia, ib⟩ [] = ([], 11) by rw [HST.out, if_neg HN8.out, HS4.out, hs]; rfl)
            clear hs
            go_wp2_with fail
            go_ret2
            exact ⟨.slice none 0 0, by rw [HF.out]; rfl, by rw [HF.out]; exact Ints.nil _, HU5.out, Newer.nil _ _ _⟩
          | true =>
            have HS5 := Lib.hid hs
            have HT5 := Lib.hid (HT.out.later (lbBelow HD5.out))
            have HR5 := Lib.hid (HR.out.later (lbBelow HE5.out))
            clear hs
            go_wp2_with fail
            refine (vEqKept _ _ _ TT [] HT5.out HR5.out).mono ?_
            rintro e w6 ⟨rfl, hu6⟩
            have HD6 := Lib.hid (HD5.out.trans hu6 (fun _ h _ => h))
            have HV6 := Lib.hid (HV5.out.trans hu6 (fun _ h _ => h))
            have HX6 := Lib.hid (HX5.out.trans hu6 (fun _ h _ => h))
            have HU6 := Lib.hid (HA.out.trans HX6.out (fun _ h _ => h))
            clear hu6
            cases hs : allB keptB TT [] with
            | false =>
              have HF := Lib.hid (show stepP B ⟨op, ia, ib⟩ [] = ([], 12) by rw [HST.out, if_neg HN8.out, HS4.out, HS5.out, hs]; rfl)
              clear hs
              go_wp2_with fail
              go_ret2
              exact ⟨.slice none 0 0, by rw [HF.out]; rfl, by rw [HF.out]; exact Ints.nil _, HU6.out, Newer.nil _ _ _⟩
            | true =>
              have HS6 := Lib.hid hs
              have HT6 := Lib.hid (HT.out.later (lbBelow HD6.out))
              obtain ⟨-, -, -, -, -, -, -, -, j0, j1, j2⟩ := HBX.out _ HX6.out
              clear hs
              go_wp2_with fail
              refine (vLetsOut ⟨op, ia, ib⟩ _ _ TT HT6.out (fun h => HTL.out.trans (by rcases h with h | h | h; exact asks22 h; exact asks30 h; exact asks36 h)) (fun h => HTL.out.trans (asks31 h))).mono ?_
              rintro e w7 ⟨rfl, hu7⟩
              have HV7 := Lib.hid (HV6.out.trans hu7 (fun _ h _ => h))
              have HX7 := Lib.hid (HX6.out.trans hu7 (fun _ h _ => h))
              have HU7 := Lib.hid (HA.out.trans HX7.out (fun _ h _ => h))
              clear hu7 j0 j1 j2
              cases hs : outB ⟨op, ia, ib⟩ TT with
              | true =>
                have HF := Lib.hid (show stepP B ⟨op, ia, ib⟩ [] = ([], 12) by rw [HST.out, if_neg HN8.out, HS4.out, HS5.out, HS6.out, hs]; rfl)
                clear hs
                go_wp2_with fail
                go_ret2
                exact ⟨.slice none 0 0, by rw [HF.out]; rfl, by rw [HF.out]; exact Ints.nil _, HU7.out, Newer.nil _ _ _⟩
              | false =>
                have HF := Lib.hid (show stepP B ⟨op, ia, ib⟩ [] = (NL, 0) by rw [HST.out, if_neg HN8.out, HS4.out, HS5.out, HS6.out, hs]; rfl)
                clear hs
                go_wp2_with fail
                go_ret2
                exact ⟨.slice na NL.length nc, by rw [HF.out]; rfl, by rw [HF.out]; exact HR3.out.later (lbBelow HV7.out), HU7.out, HN3.out⟩
end Go.Proofs.Ytebgmpggedeplaa

/- Package verify: what an instruction asks for and gives. -/
import Derived.Test.YtebgmpggedeplaaVd
namespace Go.Proofs.Ytebgmpggedeplaa
open Go.RowKit Go.Lib Go.ChangeShapes Go.WideShapes
set_option linter.unusedVariables false
set_option linter.unusedSimpArgs false

theorem astray_no {B : BodyM} {i : InsM} (h : astrayB B i = false) : (i.op = 2 ∨ i.op = 3 → i.a < B.locals.length) ∧ (i.op = 23 ∨ i.op = 24 → i.a < B.code.length) ∧ (i.op = 33 ∨ i.op = 34 → i.a < B.img.fields.length) ∧ (i.op = 37 → i.a < B.img.methods.length) ∧ (i.op = 38 → i.a < B.img.imports.length) := by
  unfold astrayB at h
  refine ⟨?_, ?_, ?_, ?_, ?_⟩
  · rintro (e | e) <;> (rw [e] at h; simpa using h)
  · rintro (e | e) <;> (rw [e] at h; simpa using h)
  · rintro (e | e) <;> (rw [e] at h; simpa using h)
  · rintro e; rw [e] at h; simpa using h
  · rintro e; rw [e] at h; simpa using h

set_option maxRecDepth 100000 in
set_option maxHeartbeats 4000000 in
theorem vAsks (w : World) (v : Value) (B : BodyM) (h : Body w v B) (i : InsM) (h1 : 1 ≤ i.op) (h2 : i.op ≤ 39) (h0 : i.op ≠ 1 → 0 ≤ i.a) (ha : astrayB B i = false) : Calls Try.prog 47 #[v, ins i.op i.a i.b] w fun e w' => ∃ r, e = .returned r ∧ Ints w' r (asksP B i) ∧ Upd (fun _ => False) w w' := by
  have hn := astray_no ha
  obtain ⟨op, ia, ib⟩ := i
  obtain ⟨fa, fc, ia', ic, ma, mc, xa, xc, la, lc, ca, cc, rfl, hf, hi, hm, hl, hc, hr⟩ := h.open
  have HA := Lib.hid ((Upd.alloc (fun _ => False) w (.cells #[.string B.img.name, .slice fa B.img.fields.length fc, .slice ia' B.img.imports.length ic, .slice ma B.img.methods.length mc, .slice xa B.img.exports.length xc, .slice la B.locals.length lc, .int .i64 B.res, .slice ca B.code.length cc] 67)).trans (Upd.alloc (fun _ => False) _ (.cells #[.int .i64 op, .int .i64 ia, .int .i64 ib] 34)) (fun _ h _ => h))
  simp only at hn h1 h2 h0
  clear ha
  cases q3 : op == 3 with
  | true =>
    obtain rfl : op = 3 := by simpa using q3
    have h0 := h0 (by omega)
    obtain ⟨k, rfl⟩ : ∃ k : Nat, ia = k := ⟨ia.toNat, by omega⟩
    have hk : k < B.locals.length := by have := hn.1 (.inr rfl); omega
    obtain ⟨g, off, rfl, hcell, hwi⟩ := (hl.later (lbBelow HA.out)).at hk
    have HP := Lib.hid (show asksP B ⟨3, k, ib⟩ = oneP (B.locals.getD k 0) by simp [asksP])
    obtain ⟨-, -, -, hl2⟩ := hl.slice
    generalize B.locals.getD k 0 = n at *
    have HW := Lib.hid hwi
    have hk1 : (k : Int) < (B.locals.length : Int) := by omega
    have hk0 : (0 : Int) ≤ (k : Int) := by omega
    clear h hn h1 h2 h0 hf hi hm hl hc hr q3 hwi
    go_enter Try.func47, Try.ntmps47
    go_wp2_with fail
    refine (vOne _ _ HW.out).mono ?_
    rintro e w1 ⟨r, rfl, hr, hu, -⟩
    have HR := Lib.hid hr
    have HU := Lib.hid (HA.out.trans hu (fun _ h _ => h))
    clear hr hu hcell
    go_wp2_with fail
    go_ret
    exact ⟨_, rfl, by rw [HP.out]; exact HR.out, HU.out⟩
  | false =>
  cases q34 : op == 34 with
  | true =>
    obtain rfl : op = 34 := by simpa using q34
    have h0 := h0 (by omega)
    obtain ⟨k, rfl⟩ : ∃ k : Nat, ia = k := ⟨ia.toNat, by omega⟩
    have hk : k < B.img.fields.length := by have := hn.2.2.1 (.inr rfl); omega
    obtain ⟨g, off, rfl, hcell, hwi⟩ := (hf.later (lbBelow HA.out)).at hk
    have HP := Lib.hid (show asksP B ⟨34, k, ib⟩ = oneP (B.img.fields.getD k 0) by simp [asksP])
    generalize B.img.fields.getD k 0 = n at *
    have HW := Lib.hid hwi
    have hk1 : (k : Int) < (B.img.fields.length : Int) := by omega
    have hk0 : (0 : Int) ≤ (k : Int) := by omega
    clear h hn h1 h2 h0 hf hi hm hl hc hr q3 q34 hwi
    go_enter Try.func47, Try.ntmps47
    go_wp2_with fail
    refine (vOne _ _ HW.out).mono ?_
    rintro e w1 ⟨r, rfl, hr, hu, -⟩
    have HR := Lib.hid hr
    have HU := Lib.hid (HA.out.trans hu (fun _ h _ => h))
    clear hr hu hcell
    go_wp2_with fail
    go_ret
    exact ⟨_, rfl, by rw [HP.out]; exact HR.out, HU.out⟩
  | false =>
  cases q37 : op == 37 with
  | true =>
    obtain rfl : op = 37 := by simpa using q37
    have h0 := h0 (by omega)
    obtain ⟨k, rfl⟩ : ∃ k : Nat, ia = k := ⟨ia.toNat, by omega⟩
    have hk : k < B.img.methods.length := by have := hn.2.2.2.1 rfl; omega
    obtain ⟨g, off, pv, qv, rv, rfl, e0, e1, -, -, hp, -, -, -⟩ := (hm.later (lbBelow HA.out)).at hk
    have HP := Lib.hid (show asksP B ⟨37, k, ib⟩ = (B.img.methods.getD k default).params by simp [asksP])
    generalize B.img.methods.getD k default = n at *
    have HI := Lib.hid hp
    obtain ⟨pa, pc, rfl, -, -⟩ := hp.slice
    have hk1 : (k : Int) < (B.img.methods.length : Int) := by omega
    have hk0 : (0 : Int) ≤ (k : Int) := by omega
    clear h hn h1 h2 h0 hf hi hm hl hc hr q3 q34 q37 hp e1
    go_enter Try.func47, Try.ntmps47
    go_wp2_with fail
    go_ret
    exact ⟨_, rfl, by rw [HP.out]; exact HI.out, HA.out⟩
  | false =>
  cases q38 : op == 38 with
  | true =>
    obtain rfl : op = 38 := by simpa using q38
    have h0 := h0 (by omega)
    obtain ⟨k, rfl⟩ : ∃ k : Nat, ia = k := ⟨ia.toNat, by omega⟩
    have hk : k < B.img.imports.length := by have := hn.2.2.2.2 rfl; omega
    obtain ⟨g, off, pv, rfl, -, -, e2, -, hp, -⟩ := (hi.later (lbBelow HA.out)).at hk
    have HP := Lib.hid (show asksP B ⟨38, k, ib⟩ = (B.img.imports.getD k default).params by simp [asksP])
    generalize B.img.imports.getD k default = n at *
    have HI := Lib.hid hp
    obtain ⟨pa, pc, rfl, -, -⟩ := hp.slice
    have hk1 : (k : Int) < (B.img.imports.length : Int) := by omega
    have hk0 : (0 : Int) ≤ (k : Int) := by omega
    clear h hn h1 h2 h0 hf hi hm hl hc hr q3 q34 q37 q38 hp
    go_enter Try.func47, Try.ntmps47
    go_wp2_with fail
    go_ret
    exact ⟨_, rfl, by rw [HP.out]; exact HI.out, HA.out⟩
  | false =>
  cases q39 : op == 39 with
  | true =>
    obtain rfl : op = 39 := by simpa using q39
    have HP := Lib.hid (show asksP B ⟨39, ia, ib⟩ = oneP B.res by simp [asksP])
    have HW := Lib.hid hr
    clear h hn h1 h2 h0 hf hi hm hl hc hr q3 q34 q37 q38 q39
    go_enter Try.func47, Try.ntmps47
    go_wp2_with fail
    refine (vOne _ _ HW.out).mono ?_
    rintro e w1 ⟨r, rfl, hr, hu, -⟩
    have HR := Lib.hid hr
    have HU := Lib.hid (HA.out.trans hu (fun _ h _ => h))
    clear hr hu
    go_wp2_with fail
    go_ret
    exact ⟨_, rfl, by rw [HP.out]; exact HR.out, HU.out⟩
  | false =>
    have HP := Lib.hid (show asksP B ⟨op, ia, ib⟩ = asks0 op by simp [asksP, q3, q34, q37, q38, q39])
    have H1 := Lib.hid h1
    have H2 := Lib.hid h2
    clear h hn h1 h2 h0 hf hi hm hl hc hr
    go_enter Try.func47, Try.ntmps47
    go_wp2_with fail
    refine (vAsks0 _ _ H1.out H2.out).mono ?_
    rintro e w1 ⟨r, rfl, hr, hu⟩
    have HR := Lib.hid hr
    have HU := Lib.hid (HA.out.trans hu (fun _ h _ => h))
    clear hr hu
    go_wp2_with fail
    go_ret
    exact ⟨_, rfl, by rw [HP.out]; exact HR.out, HU.out⟩
end Go.Proofs.Ytebgmpggedeplaa

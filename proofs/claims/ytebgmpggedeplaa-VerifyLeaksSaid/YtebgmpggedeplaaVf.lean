/- Package verify: what an instruction gives. -/
import Derived.Test.YtebgmpggedeplaaVe
import Derived.Deep.RegionWith
namespace Go.Proofs.Ytebgmpggedeplaa
open Go.RowKit Go.Lib Go.ChangeShapes Go.WideShapes
set_option linter.unusedVariables false
set_option linter.unusedSimpArgs false

theorem asks_len {B : BodyM} {i : InsM} {n : Nat} (T : List Int) (h : T.length = (asksP B i).length) (h3 : i.op ≠ 3) (h34 : i.op ≠ 34) (h37 : i.op ≠ 37) (h38 : i.op ≠ 38) (h39 : i.op ≠ 39) (hn : (asks0 i.op).length = n) : T.length = n := by
  rw [h]
  unfold asksP
  simp [h3, h34, h37, h38, h39, hn]
theorem ints_lit' (w : World) (e : TypeId) (fr : Nat × Nat) (C : Array Value) (L : List Int) (n g : Nat) (hg : g = w.heap.size) (hC : C.toList = lv L) (hn : L.length = n) (h : ∀ y ∈ L, wi64 y) (hm : n ≤ maxLen) :
    Ints (w.alloc (.cells C e fr)) (.slice (some ⟨g, 0, none⟩) n n) L := by
  subst hg; exact ints_lit w e fr C L n hC hn h hm
theorem one_wi {k : Int} (h : wi64 k) : ∀ y ∈ [k], wi64 y := by simpa using h

set_option maxRecDepth 100000 in
set_option maxHeartbeats 8000000 in
theorem vGivesA (w : World) (v : Value) (B : BodyM) (h : Body w v B) (op ia ib : Int) (hop : op = 1 ∨ op = 17 ∨ op = 18 ∨ op = 26 ∨ op = 28) (h0 : op ≠ 1 → 0 ≤ ia) (ha : astrayB B ⟨op, ia, ib⟩ = false) (hw : wi64 ia) (u : Value) (T : List Int) (ht : Ints w u T) (hT : T.length = (asksP B ⟨op, ia, ib⟩).length) : Calls Try.prog 48 #[v, ins op ia ib, u] w fun e w' => ∃ r, e = .returned r ∧ Ints w' r (givesP B ⟨op, ia, ib⟩ T) ∧ Upd (fun _ => False) w w' := by
  have hn := astray_no ha
  obtain ⟨fa, fc, ia', ic, ma, mc, xa, xc, la, lc, ca, cc, rfl, hf, hi, hm, hl, hc, hr⟩ := h.open
  have HA := Lib.hid ((Upd.alloc (fun _ => False) w (.cells #[.string B.img.name, .slice fa B.img.fields.length fc, .slice ia' B.img.imports.length ic, .slice ma B.img.methods.length mc, .slice xa B.img.exports.length xc, .slice la B.locals.length lc, .int .i64 B.res, .slice ca B.code.length cc] 67)).trans (Upd.alloc (fun _ => False) _ (.cells #[.int .i64 op, .int .i64 ia, .int .i64 ib] 34)) (fun _ h _ => h))
  have HT := Lib.hid (ht.later (lbBelow HA.out))
  have HWI := Lib.hid hw
  have HTL := Lib.hid hT
  have HTW := Lib.hid ht.2
  obtain ⟨ua, uc, rfl, -, -⟩ := ht.slice
  simp only at hn
  clear h ha hw ht hT
  rcases hop with rfl | rfl | rfl | rfl | rfl
  all_goals
    clear hn h0 hf hi hm hl hc hr
    have HP := Lib.hid (show ∀ k, givesP B ⟨k, ia, ib⟩ T = oneP 1 ∨ k ≠ 1 ∧ k ≠ 17 ∧ k ≠ 18 ∧ k ≠ 26 ∧ k ≠ 28 from fun k => by
      by_cases h : k = 1 ∨ k = 17 ∨ k = 18 ∨ k = 26 ∨ k = 28
      · left; rcases h with rfl | rfl | rfl | rfl | rfl <;> rfl
      · right; omega)
    have HW : Hid (wi64 1) := Lib.hid (wi_small (by omega) (by omega))
    go_enter Try.func48, Try.ntmps48
    go_wp2_with fail
    refine (vOne _ _ HW.out).mono ?_
    rintro e w1 ⟨r, rfl, hr, hu, -⟩
    have HR := Lib.hid hr
    have HU := Lib.hid (HA.out.trans hu (fun _ h _ => h))
    clear hr hu
    go_wp2_with fail
    go_ret
    exact ⟨_, rfl, by exact HR.out, HU.out⟩

set_option maxRecDepth 100000 in
set_option maxHeartbeats 8000000 in
theorem vGivesLoad (w : World) (v : Value) (B : BodyM) (h : Body w v B) (op ia ib : Int) (hop : op = 2) (h0 : op ≠ 1 → 0 ≤ ia) (ha : astrayB B ⟨op, ia, ib⟩ = false) (hw : wi64 ia) (u : Value) (T : List Int) (ht : Ints w u T) (hT : T.length = (asksP B ⟨op, ia, ib⟩).length) : Calls Try.prog 48 #[v, ins op ia ib, u] w fun e w' => ∃ r, e = .returned r ∧ Ints w' r (givesP B ⟨op, ia, ib⟩ T) ∧ Upd (fun _ => False) w w' := by
  have hn := astray_no ha
  obtain ⟨fa, fc, ia', ic, ma, mc, xa, xc, la, lc, ca, cc, rfl, hf, hi, hm, hl, hc, hr⟩ := h.open
  have HA := Lib.hid ((Upd.alloc (fun _ => False) w (.cells #[.string B.img.name, .slice fa B.img.fields.length fc, .slice ia' B.img.imports.length ic, .slice ma B.img.methods.length mc, .slice xa B.img.exports.length xc, .slice la B.locals.length lc, .int .i64 B.res, .slice ca B.code.length cc] 67)).trans (Upd.alloc (fun _ => False) _ (.cells #[.int .i64 op, .int .i64 ia, .int .i64 ib] 34)) (fun _ h _ => h))
  have HT := Lib.hid (ht.later (lbBelow HA.out))
  have HWI := Lib.hid hw
  have HTL := Lib.hid hT
  have HTW := Lib.hid ht.2
  obtain ⟨ua, uc, rfl, -, -⟩ := ht.slice
  simp only at hn
  clear h ha hw ht hT
  rcases hop with rfl
  all_goals
    have h0 := h0 (by omega)
    obtain ⟨k, rfl⟩ : ∃ k : Nat, ia = k := ⟨ia.toNat, by omega⟩
    have hk : k < B.locals.length := by have := hn.1 (.inl rfl); omega
    obtain ⟨g, off, rfl, hcell, hwi⟩ := (hl.later (lbBelow HA.out)).at hk
    have HP := Lib.hid (show givesP B ⟨2, k, ib⟩ T = oneP (B.locals.getD k 0) by simp [givesP])
    generalize B.locals.getD k 0 = n at *
    have HW := Lib.hid hwi
    have hk1 : (k : Int) < (B.locals.length : Int) := by omega
    have hk0 : (0 : Int) ≤ (k : Int) := by omega
    clear hn h0 hf hi hm hl hc hr
    clear hwi
    go_enter Try.func48, Try.ntmps48
    go_wp2_with fail
    refine (vOne _ _ HW.out).mono ?_
    rintro e w1 ⟨r, rfl, hr, hu, -⟩
    have HR := Lib.hid hr
    have HU := Lib.hid (HA.out.trans hu (fun _ h _ => h))
    clear hr hu
    go_wp2_with fail
    go_ret
    exact ⟨_, rfl, by rw [HP.out]; exact HR.out, HU.out⟩

set_option maxRecDepth 100000 in
set_option maxHeartbeats 8000000 in
theorem vGivesGetF (w : World) (v : Value) (B : BodyM) (h : Body w v B) (op ia ib : Int) (hop : op = 33) (h0 : op ≠ 1 → 0 ≤ ia) (ha : astrayB B ⟨op, ia, ib⟩ = false) (hw : wi64 ia) (u : Value) (T : List Int) (ht : Ints w u T) (hT : T.length = (asksP B ⟨op, ia, ib⟩).length) : Calls Try.prog 48 #[v, ins op ia ib, u] w fun e w' => ∃ r, e = .returned r ∧ Ints w' r (givesP B ⟨op, ia, ib⟩ T) ∧ Upd (fun _ => False) w w' := by
  have hn := astray_no ha
  obtain ⟨fa, fc, ia', ic, ma, mc, xa, xc, la, lc, ca, cc, rfl, hf, hi, hm, hl, hc, hr⟩ := h.open
  have HA := Lib.hid ((Upd.alloc (fun _ => False) w (.cells #[.string B.img.name, .slice fa B.img.fields.length fc, .slice ia' B.img.imports.length ic, .slice ma B.img.methods.length mc, .slice xa B.img.exports.length xc, .slice la B.locals.length lc, .int .i64 B.res, .slice ca B.code.length cc] 67)).trans (Upd.alloc (fun _ => False) _ (.cells #[.int .i64 op, .int .i64 ia, .int .i64 ib] 34)) (fun _ h _ => h))
  have HT := Lib.hid (ht.later (lbBelow HA.out))
  have HWI := Lib.hid hw
  have HTL := Lib.hid hT
  have HTW := Lib.hid ht.2
  obtain ⟨ua, uc, rfl, -, -⟩ := ht.slice
  simp only at hn
  clear h ha hw ht hT
  rcases hop with rfl
  all_goals
    have h0 := h0 (by omega)
    obtain ⟨k, rfl⟩ : ∃ k : Nat, ia = k := ⟨ia.toNat, by omega⟩
    have hk : k < B.img.fields.length := by have := hn.2.2.1 (.inl rfl); omega
    obtain ⟨g, off, rfl, hcell, hwi⟩ := (hf.later (lbBelow HA.out)).at hk
    have HP := Lib.hid (show givesP B ⟨33, k, ib⟩ T = oneP (B.img.fields.getD k 0) by simp [givesP, twoB])
    generalize B.img.fields.getD k 0 = n at *
    have HW := Lib.hid hwi
    have hk1 : (k : Int) < (B.img.fields.length : Int) := by omega
    have hk0 : (0 : Int) ≤ (k : Int) := by omega
    clear hn h0 hf hi hm hl hc hr
    clear hwi
    go_enter Try.func48, Try.ntmps48
    go_wp2_with fail
    refine (vOne _ _ HW.out).mono ?_
    rintro e w1 ⟨r, rfl, hr, hu, -⟩
    have HR := Lib.hid hr
    have HU := Lib.hid (HA.out.trans hu (fun _ h _ => h))
    clear hr hu
    go_wp2_with fail
    go_ret
    exact ⟨_, rfl, by rw [HP.out]; exact HR.out, HU.out⟩

set_option maxRecDepth 100000 in
set_option maxHeartbeats 8000000 in
theorem vGivesCall (w : World) (v : Value) (B : BodyM) (h : Body w v B) (op ia ib : Int) (hop : op = 37) (h0 : op ≠ 1 → 0 ≤ ia) (ha : astrayB B ⟨op, ia, ib⟩ = false) (hw : wi64 ia) (u : Value) (T : List Int) (ht : Ints w u T) (hT : T.length = (asksP B ⟨op, ia, ib⟩).length) : Calls Try.prog 48 #[v, ins op ia ib, u] w fun e w' => ∃ r, e = .returned r ∧ Ints w' r (givesP B ⟨op, ia, ib⟩ T) ∧ Upd (fun _ => False) w w' := by
  have hn := astray_no ha
  obtain ⟨fa, fc, ia', ic, ma, mc, xa, xc, la, lc, ca, cc, rfl, hf, hi, hm, hl, hc, hr⟩ := h.open
  have HA := Lib.hid ((Upd.alloc (fun _ => False) w (.cells #[.string B.img.name, .slice fa B.img.fields.length fc, .slice ia' B.img.imports.length ic, .slice ma B.img.methods.length mc, .slice xa B.img.exports.length xc, .slice la B.locals.length lc, .int .i64 B.res, .slice ca B.code.length cc] 67)).trans (Upd.alloc (fun _ => False) _ (.cells #[.int .i64 op, .int .i64 ia, .int .i64 ib] 34)) (fun _ h _ => h))
  have HT := Lib.hid (ht.later (lbBelow HA.out))
  have HWI := Lib.hid hw
  have HTL := Lib.hid hT
  have HTW := Lib.hid ht.2
  obtain ⟨ua, uc, rfl, -, -⟩ := ht.slice
  simp only at hn
  clear h ha hw ht hT
  rcases hop with rfl
  all_goals
    have h0 := h0 (by omega)
    obtain ⟨k, rfl⟩ : ∃ k : Nat, ia = k := ⟨ia.toNat, by omega⟩
    have hk : k < B.img.methods.length := by have := hn.2.2.2.1 rfl; omega
    obtain ⟨g, off, pv, qv, rv, rfl, -, e1, -, -, -, -, -, hwi⟩ := (hm.later (lbBelow HA.out)).at hk
    have HP := Lib.hid (show givesP B ⟨37, k, ib⟩ T = oneP (B.img.methods.getD k default).res by simp [givesP, twoB])
    generalize B.img.methods.getD k default = n at *
    have HW := Lib.hid hwi
    have hk1 : (k : Int) < (B.img.methods.length : Int) := by omega
    have hk0 : (0 : Int) ≤ (k : Int) := by omega
    clear hn h0 hf hi hm hl hc hr
    clear hwi
    go_enter Try.func48, Try.ntmps48
    go_wp2_with fail
    refine (vOne _ _ HW.out).mono ?_
    rintro e w1 ⟨r, rfl, hr, hu, -⟩
    have HR := Lib.hid hr
    have HU := Lib.hid (HA.out.trans hu (fun _ h _ => h))
    clear hr hu
    go_wp2_with fail
    go_ret
    exact ⟨_, rfl, by rw [HP.out]; exact HR.out, HU.out⟩

set_option maxRecDepth 100000 in
set_option maxHeartbeats 8000000 in
theorem vGivesCallX (w : World) (v : Value) (B : BodyM) (h : Body w v B) (op ia ib : Int) (hop : op = 38) (h0 : op ≠ 1 → 0 ≤ ia) (ha : astrayB B ⟨op, ia, ib⟩ = false) (hw : wi64 ia) (u : Value) (T : List Int) (ht : Ints w u T) (hT : T.length = (asksP B ⟨op, ia, ib⟩).length) : Calls Try.prog 48 #[v, ins op ia ib, u] w fun e w' => ∃ r, e = .returned r ∧ Ints w' r (givesP B ⟨op, ia, ib⟩ T) ∧ Upd (fun _ => False) w w' := by
  have hn := astray_no ha
  obtain ⟨fa, fc, ia', ic, ma, mc, xa, xc, la, lc, ca, cc, rfl, hf, hi, hm, hl, hc, hr⟩ := h.open
  have HA := Lib.hid ((Upd.alloc (fun _ => False) w (.cells #[.string B.img.name, .slice fa B.img.fields.length fc, .slice ia' B.img.imports.length ic, .slice ma B.img.methods.length mc, .slice xa B.img.exports.length xc, .slice la B.locals.length lc, .int .i64 B.res, .slice ca B.code.length cc] 67)).trans (Upd.alloc (fun _ => False) _ (.cells #[.int .i64 op, .int .i64 ia, .int .i64 ib] 34)) (fun _ h _ => h))
  have HT := Lib.hid (ht.later (lbBelow HA.out))
  have HWI := Lib.hid hw
  have HTL := Lib.hid hT
  have HTW := Lib.hid ht.2
  obtain ⟨ua, uc, rfl, -, -⟩ := ht.slice
  simp only at hn
  clear h ha hw ht hT
  rcases hop with rfl
  all_goals
    have h0 := h0 (by omega)
    obtain ⟨k, rfl⟩ : ∃ k : Nat, ia = k := ⟨ia.toNat, by omega⟩
    have hk : k < B.img.imports.length := by have := hn.2.2.2.2 rfl; omega
    obtain ⟨g, off, pv, rfl, -, -, -, e3, -, -, hwi, -⟩ := (hi.later (lbBelow HA.out)).at hk
    have HP := Lib.hid (show givesP B ⟨38, k, ib⟩ T = oneP (B.img.imports.getD k default).res by simp [givesP, twoB])
    generalize B.img.imports.getD k default = n at *
    have HW := Lib.hid hwi
    have hk1 : (k : Int) < (B.img.imports.length : Int) := by omega
    have hk0 : (0 : Int) ≤ (k : Int) := by omega
    clear hn h0 hf hi hm hl hc hr
    clear hwi
    go_enter Try.func48, Try.ntmps48
    go_wp2_with fail
    refine (vOne _ _ HW.out).mono ?_
    rintro e w1 ⟨r, rfl, hr, hu, -⟩
    have HR := Lib.hid hr
    have HU := Lib.hid (HA.out.trans hu (fun _ h _ => h))
    clear hr hu
    go_wp2_with fail
    go_ret
    exact ⟨_, rfl, by rw [HP.out]; exact HR.out, HU.out⟩

set_option maxRecDepth 100000 in
set_option maxHeartbeats 8000000 in
theorem vGivesNew (w : World) (v : Value) (B : BodyM) (h : Body w v B) (op ia ib : Int) (hop : op = 25 ∨ op = 27) (h0 : op ≠ 1 → 0 ≤ ia) (ha : astrayB B ⟨op, ia, ib⟩ = false) (hw : wi64 ia) (u : Value) (T : List Int) (ht : Ints w u T) (hT : T.length = (asksP B ⟨op, ia, ib⟩).length) : Calls Try.prog 48 #[v, ins op ia ib, u] w fun e w' => ∃ r, e = .returned r ∧ Ints w' r (givesP B ⟨op, ia, ib⟩ T) ∧ Upd (fun _ => False) w w' := by
  have hn := astray_no ha
  obtain ⟨fa, fc, ia', ic, ma, mc, xa, xc, la, lc, ca, cc, rfl, hf, hi, hm, hl, hc, hr⟩ := h.open
  have HA := Lib.hid ((Upd.alloc (fun _ => False) w (.cells #[.string B.img.name, .slice fa B.img.fields.length fc, .slice ia' B.img.imports.length ic, .slice ma B.img.methods.length mc, .slice xa B.img.exports.length xc, .slice la B.locals.length lc, .int .i64 B.res, .slice ca B.code.length cc] 67)).trans (Upd.alloc (fun _ => False) _ (.cells #[.int .i64 op, .int .i64 ia, .int .i64 ib] 34)) (fun _ h _ => h))
  have HT := Lib.hid (ht.later (lbBelow HA.out))
  have HWI := Lib.hid hw
  have HTL := Lib.hid hT
  have HTW := Lib.hid ht.2
  obtain ⟨ua, uc, rfl, -, -⟩ := ht.slice
  simp only at hn
  clear h ha hw ht hT
  rcases hop with rfl | rfl
  all_goals
    clear hn h0 hf hi hm hl hc hr
    have HP := Lib.hid (And.intro (show givesP B ⟨25, ia, ib⟩ T = oneP ia from rfl) (show givesP B ⟨27, ia, ib⟩ T = oneP ia from rfl))
    have HW := HWI
    go_enter Try.func48, Try.ntmps48
    go_wp2_with fail
    refine (vOne _ _ HW.out).mono ?_
    rintro e w1 ⟨r, rfl, hr, hu, -⟩
    have HR := Lib.hid hr
    have HU := Lib.hid (HA.out.trans hu (fun _ h _ => h))
    clear hr hu
    go_wp2_with fail
    go_ret
    exact ⟨_, rfl, by first | rw [HP.out.1]; exact HR.out | rw [HP.out.2]; exact HR.out, HU.out⟩

set_option maxRecDepth 100000 in
set_option maxHeartbeats 8000000 in
theorem vGivesBuf (w : World) (v : Value) (B : BodyM) (h : Body w v B) (op ia ib : Int) (hop : op = 35) (h0 : op ≠ 1 → 0 ≤ ia) (ha : astrayB B ⟨op, ia, ib⟩ = false) (hw : wi64 ia) (u : Value) (T : List Int) (ht : Ints w u T) (hT : T.length = (asksP B ⟨op, ia, ib⟩).length) : Calls Try.prog 48 #[v, ins op ia ib, u] w fun e w' => ∃ r, e = .returned r ∧ Ints w' r (givesP B ⟨op, ia, ib⟩ T) ∧ Upd (fun _ => False) w w' := by
  have hn := astray_no ha
  obtain ⟨fa, fc, ia', ic, ma, mc, xa, xc, la, lc, ca, cc, rfl, hf, hi, hm, hl, hc, hr⟩ := h.open
  have HA := Lib.hid ((Upd.alloc (fun _ => False) w (.cells #[.string B.img.name, .slice fa B.img.fields.length fc, .slice ia' B.img.imports.length ic, .slice ma B.img.methods.length mc, .slice xa B.img.exports.length xc, .slice la B.locals.length lc, .int .i64 B.res, .slice ca B.code.length cc] 67)).trans (Upd.alloc (fun _ => False) _ (.cells #[.int .i64 op, .int .i64 ia, .int .i64 ib] 34)) (fun _ h _ => h))
  have HT := Lib.hid (ht.later (lbBelow HA.out))
  have HWI := Lib.hid hw
  have HTL := Lib.hid hT
  have HTW := Lib.hid ht.2
  obtain ⟨ua, uc, rfl, -, -⟩ := ht.slice
  simp only at hn
  clear h ha hw ht hT
  rcases hop with rfl
  all_goals
    clear hn h0 hf hi hm hl hc hr
    have HP := Lib.hid (show givesP B ⟨35, ia, ib⟩ T = oneP (bufV ia) from rfl)
    have HW := Lib.hid (bufV_wi ia)
    go_enter Try.func48, Try.ntmps48
    go_wp2_with (with_reducible refine (vBuffer _ _).mono ?_; rintro e _ ⟨rfl, rfl⟩)
    refine (vOne _ _ HW.out).mono ?_
    rintro e w1 ⟨r, rfl, hr, hu, -⟩
    have HR := Lib.hid hr
    have HU := Lib.hid (HA.out.trans hu (fun _ h _ => h))
    clear hr hu
    go_wp2_with fail
    go_ret
    exact ⟨_, rfl, by rw [HP.out]; exact HR.out, HU.out⟩

set_option maxRecDepth 100000 in
set_option maxHeartbeats 8000000 in
theorem vGivesNil (w : World) (v : Value) (B : BodyM) (h : Body w v B) (op ia ib : Int) (hop : op = 3 ∨ op = 4 ∨ op = 23 ∨ op = 24 ∨ op = 30 ∨ op = 31 ∨ op = 34 ∨ op = 36 ∨ op = 39) (h0 : op ≠ 1 → 0 ≤ ia) (ha : astrayB B ⟨op, ia, ib⟩ = false) (hw : wi64 ia) (u : Value) (T : List Int) (ht : Ints w u T) (hT : T.length = (asksP B ⟨op, ia, ib⟩).length) : Calls Try.prog 48 #[v, ins op ia ib, u] w fun e w' => ∃ r, e = .returned r ∧ Ints w' r (givesP B ⟨op, ia, ib⟩ T) ∧ Upd (fun _ => False) w w' := by
  have hn := astray_no ha
  obtain ⟨fa, fc, ia', ic, ma, mc, xa, xc, la, lc, ca, cc, rfl, hf, hi, hm, hl, hc, hr⟩ := h.open
  have HA := Lib.hid ((Upd.alloc (fun _ => False) w (.cells #[.string B.img.name, .slice fa B.img.fields.length fc, .slice ia' B.img.imports.length ic, .slice ma B.img.methods.length mc, .slice xa B.img.exports.length xc, .slice la B.locals.length lc, .int .i64 B.res, .slice ca B.code.length cc] 67)).trans (Upd.alloc (fun _ => False) _ (.cells #[.int .i64 op, .int .i64 ia, .int .i64 ib] 34)) (fun _ h _ => h))
  have HT := Lib.hid (ht.later (lbBelow HA.out))
  have HWI := Lib.hid hw
  have HTL := Lib.hid hT
  have HTW := Lib.hid ht.2
  obtain ⟨ua, uc, rfl, -, -⟩ := ht.slice
  simp only at hn
  clear h ha hw ht hT
  rcases hop with rfl | rfl | rfl | rfl | rfl | rfl | rfl | rfl | rfl
  all_goals
    clear hn h0 hf hi hm hl hc hr
    go_enter Try.func48, Try.ntmps48
    go_wp2_with fail
    go_ret
    exact ⟨_, rfl, Ints.nil _, HA.out⟩

set_option maxRecDepth 100000 in
set_option maxHeartbeats 8000000 in
theorem vGivesNeg (w : World) (v : Value) (B : BodyM) (h : Body w v B) (op ia ib : Int) (hop : op = 15 ∨ op = 16) (h0 : op ≠ 1 → 0 ≤ ia) (ha : astrayB B ⟨op, ia, ib⟩ = false) (hw : wi64 ia) (u : Value) (T : List Int) (ht : Ints w u T) (hT : T.length = (asksP B ⟨op, ia, ib⟩).length) : Calls Try.prog 48 #[v, ins op ia ib, u] w fun e w' => ∃ r, e = .returned r ∧ Ints w' r (givesP B ⟨op, ia, ib⟩ T) ∧ Upd (fun _ => False) w w' := by
  have hn := astray_no ha
  obtain ⟨fa, fc, ia', ic, ma, mc, xa, xc, la, lc, ca, cc, rfl, hf, hi, hm, hl, hc, hr⟩ := h.open
  have HA := Lib.hid ((Upd.alloc (fun _ => False) w (.cells #[.string B.img.name, .slice fa B.img.fields.length fc, .slice ia' B.img.imports.length ic, .slice ma B.img.methods.length mc, .slice xa B.img.exports.length xc, .slice la B.locals.length lc, .int .i64 B.res, .slice ca B.code.length cc] 67)).trans (Upd.alloc (fun _ => False) _ (.cells #[.int .i64 op, .int .i64 ia, .int .i64 ib] 34)) (fun _ h _ => h))
  have HT := Lib.hid (ht.later (lbBelow HA.out))
  have HWI := Lib.hid hw
  have HTL := Lib.hid hT
  have HTW := Lib.hid ht.2
  obtain ⟨ua, uc, rfl, -, -⟩ := ht.slice
  simp only at hn
  clear h ha hw ht hT
  rcases hop with rfl | rfl
  all_goals
    have hlen : T.length = 1 := asks_len T HTL.out (by simp) (by simp) (by simp) (by simp) (by simp) (by rfl)
    obtain ⟨g, off, c, hv, hc0, hc1, hc2⟩ := HT.out.cells hlen (by omega)
    simp only [Value.slice.injEq] at hv
    obtain ⟨rfl, hv2, rfl⟩ := hv
    have HP := Lib.hid (And.intro (show givesP B ⟨15, ia, ib⟩ T = [atI T 0] from rfl) (show givesP B ⟨16, ia, ib⟩ T = [atI T 0] from rfl))
    have HW : Hid (wi64 (atI T 0)) := Lib.hid (HTW.out _ (by unfold atI; exact mem_getD0 (by omega)))
    generalize atI T 0 = a at *
    have H1 := Lib.hid hlen
    rw [hlen]
    clear hn h0 hf hi hm hl hc hr
    clear hc1 hc2 hlen hv2
    go_enter Try.func48, Try.ntmps48
    go_wp2_with fail
    go_ret
    exact ⟨_, rfl, by (first | rw [HP.out.1] | rw [HP.out.2]); exact ints_lit' _ _ _ _ [_] 1 _ (by simp) rfl rfl (one_wi HW.out) (by unfold maxLen; omega), (HA.out.trans (Upd.alloc (fun _ => False) _ _) (fun _ h _ => h))⟩

set_option maxRecDepth 100000 in
set_option maxHeartbeats 8000000 in
theorem vGivesPick (w : World) (v : Value) (B : BodyM) (h : Body w v B) (op ia ib : Int) (hop : op = 22) (h0 : op ≠ 1 → 0 ≤ ia) (ha : astrayB B ⟨op, ia, ib⟩ = false) (hw : wi64 ia) (u : Value) (T : List Int) (ht : Ints w u T) (hT : T.length = (asksP B ⟨op, ia, ib⟩).length) : Calls Try.prog 48 #[v, ins op ia ib, u] w fun e w' => ∃ r, e = .returned r ∧ Ints w' r (givesP B ⟨op, ia, ib⟩ T) ∧ Upd (fun _ => False) w w' := by
  have hn := astray_no ha
  obtain ⟨fa, fc, ia', ic, ma, mc, xa, xc, la, lc, ca, cc, rfl, hf, hi, hm, hl, hc, hr⟩ := h.open
  have HA := Lib.hid ((Upd.alloc (fun _ => False) w (.cells #[.string B.img.name, .slice fa B.img.fields.length fc, .slice ia' B.img.imports.length ic, .slice ma B.img.methods.length mc, .slice xa B.img.exports.length xc, .slice la B.locals.length lc, .int .i64 B.res, .slice ca B.code.length cc] 67)).trans (Upd.alloc (fun _ => False) _ (.cells #[.int .i64 op, .int .i64 ia, .int .i64 ib] 34)) (fun _ h _ => h))
  have HT := Lib.hid (ht.later (lbBelow HA.out))
  have HWI := Lib.hid hw
  have HTL := Lib.hid hT
  have HTW := Lib.hid ht.2
  obtain ⟨ua, uc, rfl, -, -⟩ := ht.slice
  simp only at hn
  clear h ha hw ht hT
  rcases hop with rfl
  all_goals
    have hlen : T.length = 3 := asks_len T HTL.out (by simp) (by simp) (by simp) (by simp) (by simp) (by rfl)
    obtain ⟨g, off, c, hv, hc0, hc1, hc2⟩ := HT.out.cells hlen (by omega)
    simp only [Value.slice.injEq] at hv
    obtain ⟨rfl, hv2, rfl⟩ := hv
    have HP := Lib.hid (show givesP B ⟨22, ia, ib⟩ T = [pickedV T] from rfl)
    have HL3 := Lib.hid hlen
    have HW : Hid (wi64 (pickedV T)) := Lib.hid (by
      unfold pickedV; split
      · exact bothV_wi _ _
      · exact joinV_wi (HTW.out _ (by unfold atI; exact mem_getD0 (by omega))) (HTW.out _ (by unfold atI; exact mem_getD0 (by omega))))
    clear hn h0 hf hi hm hl hc hr
    clear hc0 hc1 hc2 hlen hv2
    go_enter Try.func48, Try.ntmps48
    go_wp2_with fail
    refine (vPicked _ _ T HT.out HL3.out).mono ?_
    rintro e w1 ⟨rfl, hu⟩
    have HU := Lib.hid (HA.out.trans hu (fun _ h _ => h))
    clear hu
    go_wp2_with fail
    go_ret
    exact ⟨_, rfl, by rw [HP.out]; exact ints_lit' _ _ _ _ [_] 1 _ (by simp) rfl rfl (one_wi HW.out) (by unfold maxLen; omega), (HU.out.trans (Upd.alloc (fun _ => False) _ _) (fun _ h _ => h))⟩

set_option maxRecDepth 100000 in
set_option maxHeartbeats 8000000 in
theorem vGivesGet (w : World) (v : Value) (B : BodyM) (h : Body w v B) (op ia ib : Int) (hop : op = 29) (h0 : op ≠ 1 → 0 ≤ ia) (ha : astrayB B ⟨op, ia, ib⟩ = false) (hw : wi64 ia) (u : Value) (T : List Int) (ht : Ints w u T) (hT : T.length = (asksP B ⟨op, ia, ib⟩).length) : Calls Try.prog 48 #[v, ins op ia ib, u] w fun e w' => ∃ r, e = .returned r ∧ Ints w' r (givesP B ⟨op, ia, ib⟩ T) ∧ Upd (fun _ => False) w w' := by
  have hn := astray_no ha
  obtain ⟨fa, fc, ia', ic, ma, mc, xa, xc, la, lc, ca, cc, rfl, hf, hi, hm, hl, hc, hr⟩ := h.open
  have HA := Lib.hid ((Upd.alloc (fun _ => False) w (.cells #[.string B.img.name, .slice fa B.img.fields.length fc, .slice ia' B.img.imports.length ic, .slice ma B.img.methods.length mc, .slice xa B.img.exports.length xc, .slice la B.locals.length lc, .int .i64 B.res, .slice ca B.code.length cc] 67)).trans (Upd.alloc (fun _ => False) _ (.cells #[.int .i64 op, .int .i64 ia, .int .i64 ib] 34)) (fun _ h _ => h))
  have HT := Lib.hid (ht.later (lbBelow HA.out))
  have HWI := Lib.hid hw
  have HTL := Lib.hid hT
  have HTW := Lib.hid ht.2
  obtain ⟨ua, uc, rfl, -, -⟩ := ht.slice
  simp only at hn
  clear h ha hw ht hT
  rcases hop with rfl
  all_goals
    have hlen : T.length = 2 := asks_len T HTL.out (by simp) (by simp) (by simp) (by simp) (by simp) (by rfl)
    obtain ⟨g, off, c, hv, hc0, hc1, hc2⟩ := HT.out.cells hlen (by omega)
    simp only [Value.slice.injEq] at hv
    obtain ⟨rfl, hv2, rfl⟩ := hv
    have HP := Lib.hid (show givesP B ⟨29, ia, ib⟩ T = [ofV (atI T 0)] from rfl)
    generalize atI T 0 = a at *
    rw [hlen]
    clear hn h0 hf hi hm hl hc hr
    clear hc1 hc2 hlen hv2
    go_enter Try.func48, Try.ntmps48
    go_wp2_with (with_reducible refine (lOf _ _).mono ?_; rintro e _ ⟨rfl, rfl⟩)
    go_ret
    exact ⟨_, rfl, by rw [HP.out]; exact ints_lit' _ _ _ _ [_] 1 _ (by simp) rfl rfl (one_wi (ofV_wi _)) (by unfold maxLen; omega), (HA.out.trans (Upd.alloc (fun _ => False) _ _) (fun _ h _ => h))⟩

set_option maxRecDepth 100000 in
set_option maxHeartbeats 8000000 in
theorem vGivesDup (w : World) (v : Value) (B : BodyM) (h : Body w v B) (op ia ib : Int) (hop : op = 5) (h0 : op ≠ 1 → 0 ≤ ia) (ha : astrayB B ⟨op, ia, ib⟩ = false) (hw : wi64 ia) (u : Value) (T : List Int) (ht : Ints w u T) (hT : T.length = (asksP B ⟨op, ia, ib⟩).length) : Calls Try.prog 48 #[v, ins op ia ib, u] w fun e w' => ∃ r, e = .returned r ∧ Ints w' r (givesP B ⟨op, ia, ib⟩ T) ∧ Upd (fun _ => False) w w' := by
  have hn := astray_no ha
  obtain ⟨fa, fc, ia', ic, ma, mc, xa, xc, la, lc, ca, cc, rfl, hf, hi, hm, hl, hc, hr⟩ := h.open
  have HA := Lib.hid ((Upd.alloc (fun _ => False) w (.cells #[.string B.img.name, .slice fa B.img.fields.length fc, .slice ia' B.img.imports.length ic, .slice ma B.img.methods.length mc, .slice xa B.img.exports.length xc, .slice la B.locals.length lc, .int .i64 B.res, .slice ca B.code.length cc] 67)).trans (Upd.alloc (fun _ => False) _ (.cells #[.int .i64 op, .int .i64 ia, .int .i64 ib] 34)) (fun _ h _ => h))
  have HT := Lib.hid (ht.later (lbBelow HA.out))
  have HWI := Lib.hid hw
  have HTL := Lib.hid hT
  have HTW := Lib.hid ht.2
  obtain ⟨ua, uc, rfl, -, -⟩ := ht.slice
  simp only at hn
  clear h ha hw ht hT
  rcases hop with rfl
  all_goals
    have hlen : T.length = 1 := asks_len T HTL.out (by simp) (by simp) (by simp) (by simp) (by simp) (by rfl)
    obtain ⟨g, off, c, hv, hc0, hc1, hc2⟩ := HT.out.cells hlen (by omega)
    simp only [Value.slice.injEq] at hv
    obtain ⟨rfl, hv2, rfl⟩ := hv
    have HP := Lib.hid (show givesP B ⟨5, ia, ib⟩ T = [atI T 0, atI T 0] from rfl)
    have HW : Hid (wi64 (atI T 0)) := Lib.hid (HTW.out _ (by unfold atI; exact mem_getD0 (by omega)))
    generalize atI T 0 = a at *
    rw [hlen]
    clear hn h0 hf hi hm hl hc hr
    clear hc1 hc2 hlen hv2
    go_enter Try.func48, Try.ntmps48
    go_wp2_with fail
    go_region
    all_goals
    go_wp2_with fail
    go_ret
    exact ⟨_, rfl, by rw [HP.out]; exact ints_lit' _ _ _ _ [_, _] 2 _ (by simp) rfl rfl (by simpa using HW.out) (by unfold maxLen; omega), (HA.out.trans ((lbDrewN (fun _ => False) _ _).trans (Upd.alloc (fun _ => False) _ _) (fun _ h _ => h)) (fun _ h _ => h))⟩

set_option maxRecDepth 100000 in
set_option maxHeartbeats 8000000 in
theorem vGivesTwo (w : World) (v : Value) (B : BodyM) (h : Body w v B) (op ia ib : Int) (hop : op = 6 ∨ op = 7 ∨ op = 8 ∨ op = 9 ∨ op = 10 ∨ op = 11 ∨ op = 12 ∨ op = 13 ∨ op = 14 ∨ op = 19 ∨ op = 20 ∨ op = 21) (h0 : op ≠ 1 → 0 ≤ ia) (ha : astrayB B ⟨op, ia, ib⟩ = false) (hw : wi64 ia) (u : Value) (T : List Int) (ht : Ints w u T) (hT : T.length = (asksP B ⟨op, ia, ib⟩).length) : Calls Try.prog 48 #[v, ins op ia ib, u] w fun e w' => ∃ r, e = .returned r ∧ Ints w' r (givesP B ⟨op, ia, ib⟩ T) ∧ Upd (fun _ => False) w w' := by
  have hn := astray_no ha
  obtain ⟨fa, fc, ia', ic, ma, mc, xa, xc, la, lc, ca, cc, rfl, hf, hi, hm, hl, hc, hr⟩ := h.open
  have HA := Lib.hid ((Upd.alloc (fun _ => False) w (.cells #[.string B.img.name, .slice fa B.img.fields.length fc, .slice ia' B.img.imports.length ic, .slice ma B.img.methods.length mc, .slice xa B.img.exports.length xc, .slice la B.locals.length lc, .int .i64 B.res, .slice ca B.code.length cc] 67)).trans (Upd.alloc (fun _ => False) _ (.cells #[.int .i64 op, .int .i64 ia, .int .i64 ib] 34)) (fun _ h _ => h))
  have HT := Lib.hid (ht.later (lbBelow HA.out))
  have HWI := Lib.hid hw
  have HTL := Lib.hid hT
  have HTW := Lib.hid ht.2
  obtain ⟨ua, uc, rfl, -, -⟩ := ht.slice
  simp only at hn
  clear h ha hw ht hT
  rcases hop with rfl | rfl | rfl | rfl | rfl | rfl | rfl | rfl | rfl | rfl | rfl | rfl
  all_goals
    have hlen : T.length = 2 := asks_len T HTL.out (by simp) (by simp) (by simp) (by simp) (by simp) (by rfl)
    obtain ⟨g, off, c, hv, hc0, hc1, hc2⟩ := HT.out.cells hlen (by omega)
    simp only [Value.slice.injEq] at hv
    obtain ⟨rfl, hv2, rfl⟩ := hv
    have HP := Lib.hid (show ∀ k, twoB k = true → givesP B ⟨k, ia, ib⟩ T = [bothV (atI T 0) (atI T 1)] from fun k hk => by
      have h1 : k ≠ 1 ∧ k ≠ 17 ∧ k ≠ 18 ∧ k ≠ 26 ∧ k ≠ 28 ∧ k ≠ 2 ∧ k ≠ 5 := by simp [twoB] at hk; omega
      simp [givesP, hk, h1])
    replace hc1 := hc1 (by omega)
    generalize atI T 0 = a at *
    generalize atI T 1 = b at *
    rw [hlen]
    clear hn h0 hf hi hm hl hc hr
    clear hc2 hlen hv2
    go_enter Try.func48, Try.ntmps48
    go_wp2_with fail
    go_region_with ((first | (go_at_call 57; (with_reducible refine (lBoth _ _ _).mono ?_); rintro e _ ⟨rfl, rfl⟩)))
    all_goals
    go_wp2_with fail
    go_ret
    exact ⟨_, rfl, by rw [HP.out _ (by decide)]; exact ints_lit' _ _ _ _ [_] 1 _ (by simp) rfl rfl (one_wi (bothV_wi _ _)) (by unfold maxLen; omega), (HA.out.trans ((lbDrewN (fun _ => False) _ _).trans (Upd.alloc (fun _ => False) _ _) (fun _ h _ => h)) (fun _ h _ => h))⟩

set_option maxRecDepth 100000 in
set_option maxHeartbeats 8000000 in
theorem vGivesSame (w : World) (v : Value) (B : BodyM) (h : Body w v B) (op ia ib : Int) (hop : op = 32) (h0 : op ≠ 1 → 0 ≤ ia) (ha : astrayB B ⟨op, ia, ib⟩ = false) (hw : wi64 ia) (u : Value) (T : List Int) (ht : Ints w u T) (hT : T.length = (asksP B ⟨op, ia, ib⟩).length) : Calls Try.prog 48 #[v, ins op ia ib, u] w fun e w' => ∃ r, e = .returned r ∧ Ints w' r (givesP B ⟨op, ia, ib⟩ T) ∧ Upd (fun _ => False) w w' := by
  have hn := astray_no ha
  obtain ⟨fa, fc, ia', ic, ma, mc, xa, xc, la, lc, ca, cc, rfl, hf, hi, hm, hl, hc, hr⟩ := h.open
  have HA := Lib.hid ((Upd.alloc (fun _ => False) w (.cells #[.string B.img.name, .slice fa B.img.fields.length fc, .slice ia' B.img.imports.length ic, .slice ma B.img.methods.length mc, .slice xa B.img.exports.length xc, .slice la B.locals.length lc, .int .i64 B.res, .slice ca B.code.length cc] 67)).trans (Upd.alloc (fun _ => False) _ (.cells #[.int .i64 op, .int .i64 ia, .int .i64 ib] 34)) (fun _ h _ => h))
  have HT := Lib.hid (ht.later (lbBelow HA.out))
  have HWI := Lib.hid hw
  have HTL := Lib.hid hT
  have HTW := Lib.hid ht.2
  obtain ⟨ua, uc, rfl, -, -⟩ := ht.slice
  simp only at hn
  clear h ha hw ht hT
  rcases hop with rfl
  all_goals
    have hlen : T.length = 5 := asks_len T HTL.out (by simp) (by simp) (by simp) (by simp) (by simp) (by rfl)
    obtain ⟨g, off, c, hv, hc0, hc1, hc2⟩ := HT.out.cells hlen (by omega)
    simp only [Value.slice.injEq] at hv
    obtain ⟨rfl, hv2, rfl⟩ := hv
    have HP := Lib.hid (show givesP B ⟨32, ia, ib⟩ T = [bothV (ofV (atI T 0)) (ofV (atI T 2))] from rfl)
    replace hc2 := hc2 (by omega)
    generalize atI T 0 = a at *
    generalize atI T 2 = b at *
    rw [hlen]
    clear hn h0 hf hi hm hl hc hr
    clear hc1 hlen hv2
    go_enter Try.func48, Try.ntmps48
    go_wp2_with fail
    go_region_with ((first | (go_at_call 57; (with_reducible refine (lBoth _ _ _).mono ?_); rintro e _ ⟨rfl, rfl⟩) | (go_at_call 59; (with_reducible refine (lOf _ _).mono ?_); rintro e _ ⟨rfl, rfl⟩)))
    all_goals
    go_wp2_with fail
    go_ret
    exact ⟨_, rfl, by rw [HP.out]; exact ints_lit' _ _ _ _ [_] 1 _ (by simp) rfl rfl (one_wi (bothV_wi _ _)) (by unfold maxLen; omega), (HA.out.trans ((lbDrewN (fun _ => False) _ _).trans (Upd.alloc (fun _ => False) _ _) (fun _ h _ => h)) (fun _ h _ => h))⟩

theorem vGives (w : World) (v : Value) (B : BodyM) (h : Body w v B) (i : InsM) (h1 : 1 ≤ i.op) (h2 : i.op ≤ 39) (h0 : i.op ≠ 1 → 0 ≤ i.a) (ha : astrayB B i = false) (hw : wi64 i.a) (u : Value) (T : List Int) (ht : Ints w u T) (hT : T.length = (asksP B i).length) : Calls Try.prog 48 #[v, ins i.op i.a i.b, u] w fun e w' => ∃ r, e = .returned r ∧ Ints w' r (givesP B i T) ∧ Upd (fun _ => False) w w' := by
  obtain ⟨op, ia, ib⟩ := i
  simp only at h1 h2 h0 hw
  have := ops39 h1 h2
  by_cases qA : op = 1 ∨ op = 17 ∨ op = 18 ∨ op = 26 ∨ op = 28
  · exact vGivesA w v B h op ia ib qA h0 ha hw u T ht hT
  by_cases qL : op = 2
  · exact vGivesLoad w v B h op ia ib qL h0 ha hw u T ht hT
  by_cases qF : op = 33
  · exact vGivesGetF w v B h op ia ib qF h0 ha hw u T ht hT
  by_cases qC : op = 37
  · exact vGivesCall w v B h op ia ib qC h0 ha hw u T ht hT
  by_cases qX : op = 38
  · exact vGivesCallX w v B h op ia ib qX h0 ha hw u T ht hT
  by_cases qN : op = 25 ∨ op = 27
  · exact vGivesNew w v B h op ia ib qN h0 ha hw u T ht hT
  by_cases qB : op = 35
  · exact vGivesBuf w v B h op ia ib qB h0 ha hw u T ht hT
  by_cases qG : op = 15 ∨ op = 16
  · exact vGivesNeg w v B h op ia ib qG h0 ha hw u T ht hT
  by_cases qP : op = 22
  · exact vGivesPick w v B h op ia ib qP h0 ha hw u T ht hT
  by_cases qE : op = 29
  · exact vGivesGet w v B h op ia ib qE h0 ha hw u T ht hT
  by_cases qD : op = 5
  · exact vGivesDup w v B h op ia ib qD h0 ha hw u T ht hT
  by_cases qS : op = 32
  · exact vGivesSame w v B h op ia ib qS h0 ha hw u T ht hT
  by_cases qT : op = 6 ∨ op = 7 ∨ op = 8 ∨ op = 9 ∨ op = 10 ∨ op = 11 ∨ op = 12 ∨ op = 13 ∨ op = 14 ∨ op = 19 ∨ op = 20 ∨ op = 21
  · exact vGivesTwo w v B h op ia ib qT h0 ha hw u T ht hT
  · exact vGivesNil w v B h op ia ib (by omega) h0 ha hw u T ht hT
end Go.Proofs.Ytebgmpggedeplaa

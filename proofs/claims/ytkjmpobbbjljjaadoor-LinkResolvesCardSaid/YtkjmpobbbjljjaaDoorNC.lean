/- Package link: at of images, imports, methods; fits. -/
import Derived.Test.YtkjmpobbbjljjaaDoorNB
namespace Go.Proofs.YtkjmpobbbjljjaaDoor
open Go.RowKit Go.Lib
set_option linter.unusedVariables false
set_option linter.unusedSimpArgs false

set_option maxRecDepth 100000 in
set_option maxHeartbeats 4000000 in
theorem nAtImg (w : World) (v : Value) (L : List PIm) (h : Imgs w v L) (n : Int) : Calls Tryd.prog 14 #[v, .int .i64 n] w fun e w' => e = .returned (.tuple #[pv (atQ pim0 L n).1, .bool (atQ pim0 L n).2]) ∧ IsP w' (atQ pim0 L n).1 ∧ Upd (fun _ => False) w w' := by
  have HL := Lib.hid h
  obtain ⟨a, c, rfl, h1, h2⟩ := h.slice
  by_cases hn : 0 ≤ n ∧ n < (L.length : Int)
  · obtain ⟨k, rfl⟩ : ∃ k : Nat, n = (k : Int) := ⟨n.toNat, by omega⟩
    obtain ⟨g, off, rfl, c0, c1, c2, c3, c4, h5⟩ := h.at (k := k) (by omega)
    obtain ⟨hn1, hn2⟩ := hn
    have hg := World.block_lt_of_cell? _ _ c0
    dsimp only at hg
    rw [atQ_yes (by omega)]
    generalize L.getD k pim0 = p at *
    have hn3 : k < L.length := by omega
    have H5 := Lib.hid h5
    obtain ⟨I, f, i, m, x⟩ := p
    unfold IsP at h5
    dsimp only at h5 c0 c1 c2 c3 c4
    obtain ⟨g1, g2, g3, g4, -⟩ := h5
    obtain ⟨fa, fc, rfl, -⟩ := g1.slice
    obtain ⟨ia, ic, rfl, -⟩ := g2.slice
    obtain ⟨ma, mc, rfl, -⟩ := g3.slice
    obtain ⟨xa, xc, rfl, -⟩ := g4.slice
    clear h g1 g2 g3 g4
    have HU := Lib.hid (Upd.alloc (fun _ => False) w (.cells #[.string I.name, .slice fa I.fields.length fc, .slice ia I.imports.length ic, .slice ma I.methods.length mc, .slice xa I.exports.length xc] 26))
    unfold pv
    dsimp only
    go_enter Tryd.func14, Tryd.ntmps14
    go_wp2_with fail
    refine bodyPost_ret (v := .tuple #[.agg #[.string I.name, .slice fa I.fields.length fc, .slice ia I.imports.length ic, .slice ma I.methods.length mc, .slice xa I.exports.length xc], .bool true]) (by simp only [results, Tryd.f14]; simp [go_sem]) rfl ?_
    exact ⟨rfl, H5.out.later (upd_below HU.out), HU.out⟩
  · rw [atQ_no hn]
    clear h
    have HU := Lib.hid (Upd.alloc (fun _ => False) w (.cells #[.string { data := #[] }, .slice none 0 0, .slice none 0 0, .slice none 0 0, .slice none 0 0] 26))
    have HU2 := Lib.hid ((Upd.alloc (fun _ => False) w (.cells #[.string { data := #[] }, .slice none 0 0, .slice none 0 0, .slice none 0 0, .slice none 0 0] 26)).trans (Upd.alloc (fun _ => False) _ (.cells #[.string { data := #[] }, .slice none 0 0, .slice none 0 0, .slice none 0 0, .slice none 0 0] 26)) (fun _ h _ => h))
    have HZ := Lib.hid (fun u => isP_zero u)
    unfold pv pim0
    dsimp only
    by_cases h0 : n < 0
    · go_enter Tryd.func14, Tryd.ntmps14
      go_wp2_with fail
      refine bodyPost_ret (v := .tuple #[.agg #[.string { data := #[] }, .slice none 0 0, .slice none 0 0, .slice none 0 0, .slice none 0 0], .bool false]) (by simp only [results, Tryd.f14]; simp [go_sem]) rfl ?_
      exact ⟨rfl, HZ.out _, HU2.out⟩
    · have h3 : (L.length : Int) ≤ n := by omega
      go_enter Tryd.func14, Tryd.ntmps14
      go_wp2_with fail
      refine bodyPost_ret (v := .tuple #[.agg #[.string { data := #[] }, .slice none 0 0, .slice none 0 0, .slice none 0 0, .slice none 0 0], .bool false]) (by simp only [results, Tryd.f14]; simp [go_sem]) rfl ?_
      exact ⟨rfl, HZ.out _, HU2.out⟩
set_option maxRecDepth 100000 in
set_option maxHeartbeats 4000000 in
theorem nAtImp (w : World) (v : Value) (L : List ImpM) (h : Imps w v L) (n : Int) : Calls Tryd.prog 15 #[v, .int .i64 n] w fun e w' => ∃ u, e = .returned (.tuple #[u, .bool (atQ default L n).2]) ∧ Imp w' u (atQ default L n).1 ∧ Upd (fun _ => False) w w' := by
  have HL := Lib.hid h
  obtain ⟨a, c, rfl, h1, h2⟩ := h.slice
  by_cases hn : 0 ≤ n ∧ n < (L.length : Int)
  · obtain ⟨k, rfl⟩ : ∃ k : Nat, n = (k : Int) := ⟨n.toNat, by omega⟩
    obtain ⟨g, off, p, rfl, c0, c1, c2, c3, h5, h6⟩ := h.at (k := k) (by omega)
    obtain ⟨hn1, hn2⟩ := hn
    have hg := World.block_lt_of_cell? _ _ c0
    dsimp only at hg
    rw [atQ_yes (by omega)]
    generalize L.getD k default = m at *
    have hn3 : k < L.length := by omega
    have H5 := Lib.hid h5
    have H6 := Lib.hid h6
    obtain ⟨fa, fc, rfl, -⟩ := h5.slice
    clear h h5 h6
    have HU := Lib.hid (Upd.alloc (fun _ => False) w (.cells #[.string m.name, .int .i64 m.exp, .slice fa m.params.length fc, .int .i64 m.res] 41))
    go_enter Tryd.func15, Tryd.ntmps15
    go_wp2_with fail
    refine bodyPost_ret (v := .tuple #[.agg #[.string m.name, .int .i64 m.exp, .slice fa m.params.length fc, .int .i64 m.res], .bool true]) (by simp only [results, Tryd.f15]; simp [go_sem]) rfl ?_
    exact ⟨_, rfl, ⟨_, rfl, H5.out.later (upd_below HU.out), H6.out⟩, HU.out⟩
  · rw [atQ_no hn]
    clear h
    have HU2 := Lib.hid ((Upd.alloc (fun _ => False) w (.cells #[.string { data := #[] }, .int .i64 0, .slice none 0 0, .int .i64 0] 41)).trans (Upd.alloc (fun _ => False) _ (.cells #[.string { data := #[] }, .int .i64 0, .slice none 0 0, .int .i64 0] 41)) (fun _ h _ => h))
    have HZ : Hid (∀ u, Imp u (imp4 { data := #[] } 0 (.slice none 0 0) 0) default) := Lib.hid fun u => ⟨_, rfl, ⟨Sl.nil _ _ _, by simp [default]⟩, by simp [default, wi64], by simp [default, wi64], by show (0 : Nat) ≤ maxLen; omega⟩
    by_cases h0 : n < 0
    · go_enter Tryd.func15, Tryd.ntmps15
      go_wp2_with fail
      refine bodyPost_ret (v := .tuple #[.agg #[.string { data := #[] }, .int .i64 0, .slice none 0 0, .int .i64 0], .bool false]) (by simp only [results, Tryd.f15]; simp [go_sem]) rfl ?_
      exact ⟨_, rfl, HZ.out _, HU2.out⟩
    · have h3 : (L.length : Int) ≤ n := by omega
      go_enter Tryd.func15, Tryd.ntmps15
      go_wp2_with fail
      refine bodyPost_ret (v := .tuple #[.agg #[.string { data := #[] }, .int .i64 0, .slice none 0 0, .int .i64 0], .bool false]) (by simp only [results, Tryd.f15]; simp [go_sem]) rfl ?_
      exact ⟨_, rfl, HZ.out _, HU2.out⟩
set_option maxRecDepth 100000 in
set_option maxHeartbeats 4000000 in
theorem nAtMet (w : World) (v : Value) (L : List MetM) (h : Mets w v L) (n : Int) : Calls Tryd.prog 17 #[v, .int .i64 n] w fun e w' => ∃ u, e = .returned (.tuple #[u, .bool (atQ default L n).2]) ∧ Met w' u (atQ default L n).1 ∧ Upd (fun _ => False) w w' := by
  have HL := Lib.hid h
  obtain ⟨a, c, rfl, h1, h2⟩ := h.slice
  by_cases hn : 0 ≤ n ∧ n < (L.length : Int)
  · obtain ⟨k, rfl⟩ : ∃ k : Nat, n = (k : Int) := ⟨n.toNat, by omega⟩
    obtain ⟨g, off, p, q, r, rfl, c0, c1, c2, c3, h5, h6, h7, h8⟩ := h.at (k := k) (by omega)
    obtain ⟨hn1, hn2⟩ := hn
    have hg := World.block_lt_of_cell? _ _ c0
    dsimp only at hg
    rw [atQ_yes (by omega)]
    generalize L.getD k default = m at *
    have hn3 : k < L.length := by omega
    have H5 := Lib.hid h5
    have H6 := Lib.hid h6
    have H7 := Lib.hid h7
    have H8 := Lib.hid h8
    obtain ⟨pa, pc, rfl, -⟩ := h5.slice
    obtain ⟨qa, qc, rfl, -⟩ := h6.slice
    obtain ⟨ra, rc, rfl, -⟩ := h7.slice
    clear h h5 h6 h7 h8
    have HU := Lib.hid (Upd.alloc (fun _ => False) w (.cells #[.slice pa m.params.length pc, .int .i64 m.res, .slice qa m.locals.length qc, .slice ra m.code.length rc] 33))
    go_enter Tryd.func17, Tryd.ntmps17
    go_wp2_with fail
    refine bodyPost_ret (v := .tuple #[.agg #[.slice pa m.params.length pc, .int .i64 m.res, .slice qa m.locals.length qc, .slice ra m.code.length rc], .bool true]) (by simp only [results, Tryd.f17]; simp [go_sem]) rfl ?_
    exact ⟨_, rfl, ⟨_, _, _, rfl, H5.out.later (upd_below HU.out), H6.out.later (upd_below HU.out), H7.out.later (upd_below HU.out), H8.out⟩, HU.out⟩
  · rw [atQ_no hn]
    clear h
    have HU2 := Lib.hid ((Upd.alloc (fun _ => False) w (.cells #[.slice none 0 0, .int .i64 0, .slice none 0 0, .slice none 0 0] 33)).trans (Upd.alloc (fun _ => False) _ (.cells #[.slice none 0 0, .int .i64 0, .slice none 0 0, .slice none 0 0] 33)) (fun _ h _ => h))
    have HZ : Hid (∀ u, Met u (met4 (.slice none 0 0) 0 (.slice none 0 0) (.slice none 0 0)) default) := Lib.hid fun u => ⟨_, _, _, rfl, ⟨Sl.nil _ _ _, by simp [default]⟩, ⟨Sl.nil _ _ _, by simp [default]⟩, ⟨Sl.nil _ _ _, by simp [default]⟩, by simp [default, wi64]⟩
    by_cases h0 : n < 0
    · go_enter Tryd.func17, Tryd.ntmps17
      go_wp2_with fail
      refine bodyPost_ret (v := .tuple #[.agg #[.slice none 0 0, .int .i64 0, .slice none 0 0, .slice none 0 0], .bool false]) (by simp only [results, Tryd.f17]; simp [go_sem]) rfl ?_
      exact ⟨_, rfl, HZ.out _, HU2.out⟩
    · have h3 : (L.length : Int) ≤ n := by omega
      go_enter Tryd.func17, Tryd.ntmps17
      go_wp2_with fail
      refine bodyPost_ret (v := .tuple #[.agg #[.slice none 0 0, .int .i64 0, .slice none 0 0, .slice none 0 0], .bool false]) (by simp only [results, Tryd.f17]; simp [go_sem]) rfl ?_
      exact ⟨_, rfl, HZ.out _, HU2.out⟩
theorem cell_two (w : World) (A B : Array Value) (e1 e2 : TypeId) (j : Nat) (x : Value) (h : A[j]? = some x) : ((w.alloc (.cells A e1)).alloc (.cells B e2)).cell? ⟨w.heap.size, j, none⟩ = some x := by
  rw [(Upd.alloc (fun _ => False) (w.alloc (.cells A e1)) (.cells B e2)).cell (p := ⟨w.heap.size, j, none⟩) (by show w.heap.size < (w.heap.push _).size; simp) id, World.cell?_alloc_new]
  exact h
theorem cell_three (w : World) (A B : Array Value) (e1 e2 : TypeId) (j : Nat) (x : Value) (h : B[j]? = some x) : ((w.alloc (.cells A e1)).alloc (.cells B e2)).cell? ⟨w.heap.size + 1, j, none⟩ = some x := by
  have e : w.heap.size + 1 = (w.alloc (.cells A e1)).heap.size := by show _ = (w.heap.push _).size; simp
  rw [e, World.cell?_alloc_new]
  exact h
theorem size_two (w : World) (a b : Obj) : ((w.alloc a).alloc b).heap.size = w.heap.size + 2 := by
  show ((w.heap.push a).push b).size = _
  simp
set_option maxRecDepth 100000 in
set_option maxHeartbeats 4000000 in
theorem nFits (w : World) (u v : Value) (I : ImpM) (M : MetM) (hu : Imp w u I) (hv : Met w v M) : Calls Tryd.prog 18 #[u, v] w fun e w' => e = .returned (.bool (allB eqB I.params M.params && I.res == M.res)) ∧ Upd (fun _ => False) w w' := by
  obtain ⟨p, rfl, h1, h2, h3, h4⟩ := hu
  obtain ⟨q, l, c, rfl, g1, g2, g3, g4⟩ := hv
  obtain ⟨pa, pc, rfl, -⟩ := h1.slice
  obtain ⟨qa, qc, rfl, -⟩ := g1.slice
  obtain ⟨la, lc, rfl, -⟩ := g2.slice
  obtain ⟨ca, cc, rfl, -⟩ := g3.slice
  have hu1 := Upd.alloc (fun _ => False) w (.cells #[.string I.name, .int .i64 I.exp, .slice pa I.params.length pc, .int .i64 I.res] 41)
  have hu2 := Upd.alloc (fun _ => False) (w.alloc (.cells #[.string I.name, .int .i64 I.exp, .slice pa I.params.length pc, .int .i64 I.res] 41)) (.cells #[.slice qa M.params.length qc, .int .i64 M.res, .slice la M.locals.length lc, .slice ca M.code.length cc] 33)
  have HU := Lib.hid (hu1.trans hu2 (fun _ h _ => h))
  have H1 := Lib.hid (h1.later (upd_below HU.out))
  have G1 := Lib.hid (g1.later (upd_below HU.out))
  clear h1 h2 h3 h4 g1 g2 g3 g4 hu1 hu2
  obtain ⟨b, hb⟩ : ∃ b, allB eqB I.params M.params = b := ⟨_, rfl⟩
  obtain ⟨r, hr⟩ : ∃ r, (I.res == M.res) = r := ⟨_, rfl⟩
  rw [hb, hr]
  have HB := Lib.hid hb
  clear hb
  go_enter Tryd.func18, Tryd.ntmps18
  go_wp2_with fail
  refine (vEqual _ _ _ _ _ H1.out G1.out).mono ?_
  rintro e w2 ⟨rfl, hu⟩
  have HU2 := Lib.hid (HU.out.trans hu (fun _ h _ => h))
  have f3 : w2.cell? ⟨w.heap.size, 3, none⟩ = some (.int .i64 I.res) := by
    rw [hu.cell (p := ⟨w.heap.size, 3, none⟩) (by rw [size_two]; show w.heap.size < _; omega) id]
    exact cell_two _ _ _ _ _ _ _ rfl
  have m1 : w2.cell? ⟨w.heap.size + 1, 1, none⟩ = some (.int .i64 M.res) := by
    rw [hu.cell (p := ⟨w.heap.size + 1, 1, none⟩) (by rw [size_two]; show w.heap.size + 1 < _; omega) id]
    exact cell_three _ _ _ _ _ _ _ rfl
  rw [HB.out]
  clear hu
  cases b <;> cases r <;>
  · go_wp2_with fail
    go_ret
    exact ⟨rfl, HU2.out⟩
end Go.Proofs.YtkjmpobbbjljjaaDoor

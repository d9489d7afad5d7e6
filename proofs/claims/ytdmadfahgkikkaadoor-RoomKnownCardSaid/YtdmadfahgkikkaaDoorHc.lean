/- Package heap: what is used; an array's copy; an array that is told. -/
import Derived.Test.YtdmadfahgkikkaaDoorHb
import Derived.LoopTactic
namespace Go.Proofs.YtdmadfahgkikkaaDoor
open Go.RowKit Go.ChangeShapes Go.WideShapes Go.Deep
set_option linter.unusedVariables false
set_option linter.unusedSimpArgs false

theorem hpS {S : Nat → Prop} {w w' : World} {p : Addr} {u : Value} (h : Upd S w w') (hp : S p.block) : Upd S w (w'.setCell p u) := h.trans (Upd.setCell (S := S) w' (.inl hp) u) (fun _ h _ => h)
theorem hpTop (w : World) (o : Obj) (k : Nat) (h : k = w.heap.size) : (w.alloc o).heap[k]? = some o := by
  subst h
  show (w.heap.push o)[w.heap.size]? = _
  simp
theorem hpNew {w w1 w2 w' : World} {v : Value} {ys : List Int} {S : Nat → Prop} (hu : Upd (fun _ => False) w w1) (h : New w1 v ys w2) (hs : Upd S w2 w') (hS : ∀ k, S k → w.heap.size ≤ k) (hS2 : ∀ k, S k → k < w1.heap.size) : New w v ys w' :=
  ⟨ownsRow_upd h.1 hs (fun k hk hk' => by have := h.2.2 k hk; have := hS2 k hk'; omega), (hu.trans h.2.1 (fun _ h _ => h)).trans hs (fun k hk hl => by have := hS k hk; omega), fun k hk => Nat.le_trans hu.size (h.2.2 k hk)⟩
theorem five {w : World} {g : Nat} {v0 v1 v2 v3 v4 : Value} {t : TypeId} (h : w.heap[g]? = some (.cells #[v0, v1, v2, v3, v4] t (0, 0))) :
    w.cell? ⟨g, 0, none⟩ = some v0 ∧ w.cell? ⟨g, 1, none⟩ = some v1 ∧ w.cell? ⟨g, 2, none⟩ = some v2 ∧ w.cell? ⟨g, 3, none⟩ = some v3 ∧ w.cell? ⟨g, 4, none⟩ = some v4 ∧ ∀ q, w.frozen? ⟨g, q, none⟩ = false := by
  refine ⟨?_, ?_, ?_, ?_, ?_, fun q => by simp [World.frozen?, h]⟩ <;> simp [World.cell?, h]
theorem hClone (a : ArrM) (d : Value) (w : World) (h : Vw w d a.data) (hl : a.data.length ≤ 64) : Calls Tryd.prog 52 #[aval a d] w fun e w' => ∃ d', e = .returned (aval a d') ∧ New w d' a.data w' := by
  obtain ⟨da, dc, rfl, -, -⟩ := h.slice
  obtain ⟨own1, lab1, life1, sh1, ys⟩ := a
  simp only [aval] at h hl ⊢
  generalize hn : ys.length = n at *
  have HN := Lib.hid hn
  clear hn
  obtain ⟨w1, hw1⟩ : ∃ w1, w1 = (w.alloc (.cells #[.int .i64 own1, .int .i64 lab1, .int .i64 life1, .bool sh1, .slice da n dc] 50)).alloc (.cells #[.int .i64 0, .int .i64 0, .int .i64 0, .bool false, .slice none 0 0] 50) := ⟨_, rfl⟩
  have hu1 : Upd (fun _ => False) w w1 := by rw [hw1]; exact (Upd.alloc _ _ _).trans (Upd.alloc _ _ _) (fun _ h _ => h)
  have HV := Lib.hid (h.upd hu1 (fun _ _ h => h))
  have hsz : w1.heap.size = w.heap.size + 2 := by rw [hw1]; simp
  have hx : w1.heap[w.heap.size]? = some (.cells #[.int .i64 own1, .int .i64 lab1, .int .i64 life1, .bool sh1, .slice da n dc] 50 (0, 0)) := by
    rw [hw1]
    exact hpBlk (S := fun _ => False) (Upd.alloc _ _ _) (hpTop w _ _ rfl) (fun h => h)
  have hy : w1.heap[w.heap.size + 1]? = some (.cells #[.int .i64 0, .int .i64 0, .int .i64 0, .bool false, .slice none 0 0] 50 (0, 0)) := by
    rw [hw1]
    exact hpTop _ _ _ (by simp)
  have HX := Lib.hid hx
  have HY := Lib.hid hy
  have HU := Lib.hid hu1
  have HZ := Lib.hid hsz
  have HW := Lib.hid hw1
  clear hx hy hu1 hsz hw1 h
  go_enter Tryd.func52, Tryd.ntmps52
  go_wp2_with fail
  rw [← HW.out]
  refine (clone w1 _ ys HV.out (by rw [HN.out]; omega)).mono ?_
  rintro e w2 ⟨v', rfl, hnew⟩
  have hx := hpBlk hnew.2.1 HX.out (fun h => h)
  have hy := hpBlk hnew.2.1 HY.out (fun h => h)
  obtain ⟨c0, c1, c2, c3, c4, cf⟩ := five hx
  obtain ⟨e0, e1, e2, e3, e4, ef⟩ := five hy
  have HE := Lib.hid hnew
  have HY2 := Lib.hid hy
  obtain ⟨va, vc, rfl⟩ := ownsRow_slice hnew.1
  clear hx hy hnew
  have f0 := cf 0; have f1 := cf 1; have f2 := cf 2; have f3 := cf 3; have f4 := cf 4
  have g0 := ef 0; have g1 := ef 1; have g2 := ef 2; have g3 := ef 3; have g4 := ef 4
  clear cf ef
  go_wp2_with fail
  refine bodyPost_ret (v := aval ⟨own1, lab1, life1, sh1, ys⟩ (.slice va ys.length vc)) (by simp only [results, Tryd.f52]; simp [go_sem, aval, c0, c1, c2, c3, c4, e0, e1, e2, e3, e4, f0, f1, f2, f3, f4, g0, g1, g2, g3, g4]) rfl ?_
  clear c0 c1 c2 c3 c4 e0 e1 e2 e3 e4 f0 f1 f2 f3 f4 g0 g1 g2 g3 g4
  have hZ := HZ.out
  refine ⟨_, rfl, hpNew HU.out HE.out (S := fun k => k = w.heap.size ∨ k = w.heap.size + 1) ?_ (fun k hk => by omega) (fun k hk => by omega)⟩
  iterate 6 refine hpS ?_ (by simp)
  exact Upd.refl _ _
def zarr : Value := .agg #[.int .i64 0, .int .i64 0, .int .i64 0, .bool false, .slice none 0 0]
section
variable {F : Nat → Prop} {w : World} {b : Nat} {sz : Int} {av : Value} {R : List (ArrM × Value)}
theorem hArray_no (h : Hp 122 F w b sz av R) (ref : Int) (hr : hasB R.length ref = false) : Calls Tryd.prog 17 #[.pointer (some ⟨b, 0, none⟩), .int .i64 ref] w fun e w' => e = .returned (.tuple #[zarr, .bool false]) ∧ Upd (fun _ => False) w w' := by
  have HR := Lib.hid hr
  clear hr
  have hu := Upd.alloc (fun _ => False) w (.cells #[.int .i64 0, .int .i64 0, .int .i64 0, .bool false, .slice none 0 0] 50)
  obtain ⟨w1, hw1⟩ : ∃ w1, w1 = w.alloc (.cells #[.int .i64 0, .int .i64 0, .int .i64 0, .bool false, .slice none 0 0] 50) := ⟨_, rfl⟩
  have hx : w1.heap[w.heap.size]? = some (.cells #[.int .i64 0, .int .i64 0, .int .i64 0, .bool false, .slice none 0 0] 50 (0, 0)) := by
    rw [hw1]; exact hpTop _ _ _ rfl
  rw [← hw1] at hu
  have H1 := Lib.hid (h.upd hu (fun _ _ h => h))
  have HU := Lib.hid hu
  have HW := Lib.hid hw1
  clear hu h hw1
  go_enter Tryd.func17, Tryd.ntmps17
  go_wp2_with fail
  rw [← HW.out]
  refine (hHas H1.out ref).mono ?_
  rw [HR.out]
  rintro e w2 ⟨rfl, rfl⟩
  obtain ⟨c0, c1, c2, c3, c4, cf⟩ := five hx
  have f0 := cf 0; have f1 := cf 1; have f2 := cf 2; have f3 := cf 3; have f4 := cf 4
  clear cf hx
  go_wp2_with fail
  refine bodyPost_ret (v := .tuple #[zarr, .bool false]) (by simp only [results, Tryd.f17]; simp [go_sem, zarr, c0, c1, c2, c3, c4, f0, f1, f2, f3, f4]) rfl ?_
  clear c0 c1 c2 c3 c4 f0 f1 f2 f3 f4
  have hs : Upd (fun k => k = w.heap.size) w1 (((((w1.setCell ⟨w.heap.size, 0, none⟩ (.int .i64 0)).setCell ⟨w.heap.size, 1, none⟩ (.int .i64 0)).setCell ⟨w.heap.size, 2, none⟩ (.int .i64 0)).setCell ⟨w.heap.size, 3, none⟩ (.bool false)).setCell ⟨w.heap.size, 4, none⟩ (.slice none 0 0)) := by
    iterate 5 refine hpS ?_ (by simp)
    exact Upd.refl _ _
  exact ⟨rfl, HU.out.trans hs (fun k hk hl => by omega)⟩
theorem hArray (h : Hp 122 F w b sz av R) {i : Nat} (hi : i < R.length) (hl : R.length ≤ 1000) : Calls Tryd.prog 17 #[.pointer (some ⟨b, 0, none⟩), .int .i64 ((i : Int) + 1)] w fun e w' => ∃ d, e = .returned (.tuple #[aval R[i].1 d, .bool true]) ∧ New w d R[i].1.data w' := by
  have HR := Lib.hid (hasB_of hi)
  have hu := Upd.alloc (fun _ => False) w (.cells #[.int .i64 0, .int .i64 0, .int .i64 0, .bool false, .slice none 0 0] 50)
  obtain ⟨w1, hw1⟩ : ∃ w1, w1 = w.alloc (.cells #[.int .i64 0, .int .i64 0, .int .i64 0, .bool false, .slice none 0 0] 50) := ⟨_, rfl⟩
  have hx : w1.heap[w.heap.size]? = some (.cells #[.int .i64 0, .int .i64 0, .int .i64 0, .bool false, .slice none 0 0] 50 (0, 0)) := by
    rw [hw1]; exact hpTop _ _ _ rfl
  have hsz : w1.heap.size = w.heap.size + 1 := by rw [hw1]; simp
  rw [← hw1] at hu
  have H1 := Lib.hid (h.upd hu (fun _ _ h => h))
  have HU := Lib.hid hu
  have HW := Lib.hid hw1
  have HX := Lib.hid hx
  have HZ := Lib.hid hsz
  clear hu h hw1 hx hsz
  have HH := Lib.hid (hHas H1.out ((i : Int) + 1))
  obtain ⟨h0, h1, h2⟩ := H1.out.bx
  have hm := H1.out.dat _ (List.getElem_mem hi)
  have HV := Lib.hid (show Vw w1 R[i].2 R[i].1.data from hm.vw)
  have HL := Lib.hid (show R[i].1.data.length ≤ 64 from hm.len)
  obtain ⟨g, c, rfl, k0, k1, k2, k3, k4, k5⟩ := H1.out.at hi
  obtain ⟨da, dc, hd, -, -⟩ := H1.out.dslice hi
  rw [hd] at k4
  have HC := Lib.hid (show Calls Tryd.prog 52 #[.agg #[.int .i64 R[i].1.own, .int .i64 R[i].1.lab, .int .i64 R[i].1.life, .bool R[i].1.sh, .slice da R[i].1.data.length dc]] w1 fun e w' => ∃ d', e = .returned (aval R[i].1 d') ∧ New w1 d' R[i].1.data w' by rw [← hd]; exact hClone R[i].1 R[i].2 w1 HV.out HL.out)
  clear hd hm
  generalize R[i].1 = a at *
  generalize hn : a.data.length = n at *
  clear hn
  go_enter Tryd.func17, Tryd.ntmps17
  go_wp2_with fail
  rw [← HW.out]
  refine HH.out.mono ?_
  rw [HR.out]
  rintro e w2 ⟨rfl, rfl⟩
  go_wp2_with fail
  refine HC.out.mono ?_
  rintro e w2 ⟨d', rfl, hnew⟩
  obtain ⟨va, vc, rfl⟩ := ownsRow_slice hnew.1
  have hx := hpBlk hnew.2.1 HX.out (fun h => h)
  obtain ⟨c0, c1, c2, c3, c4, cf⟩ := five hx
  have f0 := cf 0; have f1 := cf 1; have f2 := cf 2; have f3 := cf 3; have f4 := cf 4
  have HE := Lib.hid hnew
  clear cf hx hnew h0 h1 h2 k0 k1 k2 k3 k4 k5
  obtain ⟨own1, lab1, life1, sh1, ys⟩ := a
  simp only [aval]
  go_wp2_with fail
  refine bodyPost_ret (v := .tuple #[aval ⟨own1, lab1, life1, sh1, ys⟩ (.slice va ys.length vc), .bool true]) (by simp only [results, Tryd.f17]; simp [go_sem, aval, c0, c1, c2, c3, c4, f0, f1, f2, f3, f4]) rfl ?_
  clear c0 c1 c2 c3 c4 f0 f1 f2 f3 f4
  have hZ := HZ.out
  refine ⟨_, rfl, hpNew HU.out HE.out (S := fun k => k = w.heap.size) ?_ (fun k hk => by omega) (fun k hk => by omega)⟩
  iterate 5 refine hpS ?_ (by simp)
  exact Upd.refl _ _
end
end Go.Proofs.YtdmadfahgkikkaaDoor

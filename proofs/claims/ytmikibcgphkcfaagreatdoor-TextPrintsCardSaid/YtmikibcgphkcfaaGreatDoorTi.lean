/- Package text: what an import's, a method's, an instruction's line tells. Package text: an instruction's line. Made by mkti.py. -/
import Derived.Test.YtmikibcgphkcfaaGreatDoorTf
namespace Go.Proofs.YtmikibcgphkcfaaGreatDoor
section
open Go.RowKit Go.Lib
set_option linter.unusedVariables false
set_option linter.unusedSimpArgs false

theorem tTop (w : World) (o : Obj) (k : Nat) (h : k = w.heap.size) : (w.alloc o).heap[k]? = some o := by
  subst h
  show (w.heap.push o)[w.heap.size]? = _
  simp
theorem tBlk {S : Nat → Prop} {w w' : World} {k : Nat} {o : Obj} (hu : Upd S w w') (h : w.heap[k]? = some o) (hS : ¬ S k) : w'.heap[k]? = some o := (hu.block k (Array.getElem?_eq_some_iff.1 h).1 hS).trans h
theorem tCell {w : World} {g : Nat} {C : Array Value} {t : TypeId} (h : w.heap[g]? = some (.cells C t (0, 0))) (i : Nat) : w.cell? ⟨g, i, none⟩ = C[i]? ∧ w.frozen? ⟨g, i, none⟩ = false := by
  refine ⟨by simp [World.cell?, h], by simp [World.frozen?, h]⟩
theorem tPut {w : World} {g : Nat} {C : Array Value} {t : TypeId} (h : w.heap[g]? = some (.cells C t (0, 0))) (i : Nat) (u : Value) : (w.setCell ⟨g, i, none⟩ u).heap[g]? = some (.cells (C.setIfInBounds i u) t (0, 0)) := by
  simp [World.setCell, Array.getElem?_modify, h]
theorem tOff {w : World} {g k : Nat} (i : Nat) (u : Value) (h : k ≠ g) : (w.setCell ⟨g, i, none⟩ u).heap[k]? = w.heap[k]? := by
  simp [World.setCell, Array.getElem?_modify, Ne.symm h]
def impW (x : Ws) : ImpM × Ws := (⟨bs (nameW x).1, (numW (nameW x).2).1, (kindsW 4 (resW (numW (nameW x).2).2).2).1, (resW (numW (nameW x).2).2).1⟩, (kindsW 4 (resW (numW (nameW x).2).2).2).2)
def metW (x : Ws) : MetM × Ws := (⟨(kindsW 4 (resW x).2).1, (resW x).1, [], []⟩, (kindsW 4 (resW x).2).2)
theorem nameW_len (x : Ws) : (nameW x).2.1.length ≤ x.1.length := by
  unfold nameW
  split <;> exact next_rest _
theorem numW_len (x : Ws) : (numW x).2.1.length ≤ x.1.length := next_rest _
theorem resW_len (x : Ws) : (resW x).2.1.length ≤ x.1.length := next_rest _
abbrev zImp : Array Value := #[.string { data := #[] }, .int .i64 0, .slice none 0 0, .int .i64 0]
abbrev zMet : Array Value := #[.slice none 0 0, .int .i64 0, .slice none 0 0, .slice none 0 0]
/-- a list that was taken: an own row, new; the words behind it -/
structure KdU (w wr : World) (b : Nat) (v : Value) (L : List Int) (x : Ws) : Prop where
  row : Row wr 3 1 intC v L
  wb : Wb wr b x.1 x.2
  up : Upd (fun k => k = b) w wr
  new : ∀ k, v.ownBlock = some k → w.heap.size ≤ k
  len : L.length ≤ 11
theorem tSet {S : Nat → Prop} {w w' : World} {p : Addr} {u : Value} (h : Upd S w w') (hp : S p.block) : Upd S w (w'.setCell p u) := h.trans (Upd.setCell (S := S) w' (.inl hp) u) (fun _ h _ => h)
theorem Upd.olds {S : Nat → Prop} {w w' : World} (h : Upd (fun k => S k ∨ w.heap.size ≤ k) w w') : Upd S w w' := h.mono (fun i hi hl => by
  rcases hi with hi | hi
  · exact hi
  · omega)
section
variable {w : World} {b : Nat} {l : By} {bad : Bool}
set_option maxHeartbeats 4000000 in
theorem tImported (hw : Wb w b l bad) (hl : l.length ≤ maxLen) : Calls Tryz.prog 88 #[.pointer (some ⟨b, 0, none⟩)] w fun e w' => ∃ r, e = .returned (.agg #[.string (impW (l, bad)).1.name, .int .i64 (impW (l, bad)).1.exp, r, .int .i64 (impW (l, bad)).1.res]) ∧ KdU w w' b r (impW (l, bad)).1.params (impW (l, bad)).2 := by
  have hbl : b < w.heap.size := hw.lt
  obtain ⟨w1, hw1⟩ : ∃ w1, w1 = (w.alloc (.cells zImp 43)).alloc (.cells zImp 43) := ⟨_, rfl⟩
  have hu1 : Upd (fun _ => False) w w1 := by rw [hw1]; exact (Upd.alloc _ _ _).trans (Upd.alloc _ _ _) (fun _ h _ => h)
  have HX1 : Hid (w1.heap[w.heap.size]? = some (.cells zImp 43 (0, 0))) := Lib.hid (by
    rw [hw1]; exact tBlk (S := fun _ => False) (Upd.alloc _ _ _) (tTop w _ _ rfl) (fun h => h))
  have HY1 : Hid (w1.heap[w.heap.size + 1]? = some (.cells zImp 43 (0, 0))) := Lib.hid (by rw [hw1]; exact tTop _ _ _ (by simp))
  have HW1 := Lib.hid hw1
  have HU1 := Lib.hid (hu1.mono (T := fun k => k = b ∨ w.heap.size ≤ k) (fun _ h _ => h.elim))
  have HSZ1 : Hid (w1.heap.size = w.heap.size + 2) := Lib.hid (by rw [hw1]; simp)
  have HB1 := Lib.hid (hw.upd hu1 (fun h => h))
  have HL1 := Lib.hid hl
  obtain ⟨A, hA⟩ : ∃ A, A = nameW (l, bad) := ⟨_, rfl⟩
  have HA := Lib.hid hA
  have HLEA : Hid (A.2.1.length ≤ maxLen) := Lib.hid (by have h1 := nameW_len (l, bad); rw [← hA] at h1; exact Nat.le_trans h1 hl)
  obtain ⟨C, hC⟩ : ∃ C, C = numW A.2 := ⟨_, rfl⟩
  have HC := Lib.hid hC
  have HLEC : Hid (C.2.1.length ≤ maxLen) := Lib.hid (by have h1 := numW_len A.2; rw [← hC] at h1; exact Nat.le_trans h1 HLEA.out)
  obtain ⟨D, hD⟩ : ∃ D, D = resW C.2 := ⟨_, rfl⟩
  have HD := Lib.hid hD
  have HLED : Hid (D.2.1.length ≤ maxLen) := Lib.hid (by have h1 := resW_len C.2; rw [← hD] at h1; exact Nat.le_trans h1 HLEC.out)
  obtain ⟨E, hE⟩ : ∃ E, E = kindsW 4 D.2 := ⟨_, rfl⟩
  have HE := Lib.hid hE
  obtain ⟨R, hR⟩ : ∃ R, R = impW (l, bad) := ⟨_, rfl⟩
  have HR : Hid (R = ((⟨bs A.1, C.1, E.1, D.1⟩ : ImpM), E.2)) := Lib.hid (by rw [hR]; unfold impW; rw [← hA, ← hC, ← hD, ← hE])
  rw [← hR]
  clear hw hl hu1 hw1 hR hE hA hC hD
  go_enter Tryz.func88, Tryz.ntmps88
  go_wp2_with fail
  rw [← HW1.out]
  refine (tName HB1.out HL1.out).mono ?_
  rw [← HA.out]
  rintro e w2 ⟨rfl, hwb, hu⟩
  have HB2 := Lib.hid hwb
  have HY2 := Lib.hid (tBlk hu HY1.out (by omega))
  have HX2 := Lib.hid (tBlk hu HX1.out (by omega))
  have HU2 := Lib.hid (HU1.out.trans (hu.mono (T := fun k => k = b ∨ w.heap.size ≤ k) (fun _ h _ => .inl h)) (fun _ h _ => h))
  have HSZ2 : Hid (w.heap.size + 2 ≤ w2.heap.size) := Lib.hid (by have := hu.size; have := HSZ1.out; omega)
  obtain ⟨y0, f0⟩ := tCell HY2.out 0
  simp at y0
  obtain ⟨w3, hw3⟩ : ∃ w3, w3 = w2.setCell ⟨w.heap.size + 1, 0, none⟩ (.string (bs A.1)) := ⟨_, rfl⟩
  have hus : Upd (fun k => k = w.heap.size + 1) w2 w3 := by rw [hw3]; exact Upd.setCell (S := fun k => k = w.heap.size + 1) w2 (p := ⟨w.heap.size + 1, 0, none⟩) (.inl rfl) _
  have HB3 := Lib.hid (HB2.out.upd hus (by omega))
  have HY3 : Hid (w3.heap[w.heap.size + 1]? = some (.cells #[.string (bs A.1), .int .i64 0, .slice none 0 0, .int .i64 0] 43 (0, 0))) := Lib.hid (by rw [hw3]; exact tPut HY2.out 0 _)
  have HX3 := Lib.hid (tBlk hus HX2.out (by omega))
  have HU3 := Lib.hid (HU2.out.trans (hus.mono (T := fun k => k = b ∨ w.heap.size ≤ k) (fun k h _ => .inr (by omega))) (fun _ h _ => h))
  have HSZ3 : Hid (w.heap.size + 2 ≤ w3.heap.size) := Lib.hid (by have := hus.size; have := HSZ2.out; omega)
  have HW3 := Lib.hid hw3
  clear hwb hu hus hw3
  go_wp2_with fail
  rw [← HW3.out]
  clear f0 y0
  refine (tNum HB3.out HLEA.out).mono ?_
  rw [← HC.out]
  rintro e w4 ⟨rfl, hwb, hu⟩
  have HB4 := Lib.hid hwb
  have HY4 := Lib.hid (tBlk hu HY3.out (by omega))
  have HX4 := Lib.hid (tBlk hu HX3.out (by omega))
  have HU4 := Lib.hid (HU3.out.trans (hu.mono (T := fun k => k = b ∨ w.heap.size ≤ k) (fun _ h _ => .inl h)) (fun _ h _ => h))
  have HSZ4 : Hid (w.heap.size + 2 ≤ w4.heap.size) := Lib.hid (by have := hu.size; have := HSZ3.out; omega)
  obtain ⟨y0, f0⟩ := tCell HY4.out 1
  simp at y0
  obtain ⟨w5, hw5⟩ : ∃ w5, w5 = w4.setCell ⟨w.heap.size + 1, 1, none⟩ (.int .i64 C.1) := ⟨_, rfl⟩
  have hus : Upd (fun k => k = w.heap.size + 1) w4 w5 := by rw [hw5]; exact Upd.setCell (S := fun k => k = w.heap.size + 1) w4 (p := ⟨w.heap.size + 1, 1, none⟩) (.inl rfl) _
  have HB5 := Lib.hid (HB4.out.upd hus (by omega))
  have HY5 : Hid (w5.heap[w.heap.size + 1]? = some (.cells #[.string (bs A.1), .int .i64 C.1, .slice none 0 0, .int .i64 0] 43 (0, 0))) := Lib.hid (by rw [hw5]; exact tPut HY4.out 1 _)
  have HX5 := Lib.hid (tBlk hus HX4.out (by omega))
  have HU5 := Lib.hid (HU4.out.trans (hus.mono (T := fun k => k = b ∨ w.heap.size ≤ k) (fun k h _ => .inr (by omega))) (fun _ h _ => h))
  have HSZ5 : Hid (w.heap.size + 2 ≤ w5.heap.size) := Lib.hid (by have := hus.size; have := HSZ4.out; omega)
  have HW5 := Lib.hid hw5
  clear hwb hu hus hw5
  go_wp2_with fail
  rw [← HW5.out]
  clear f0 y0
  refine (tRes HB5.out HLEC.out).mono ?_
  rw [← HD.out]
  rintro e w6 ⟨rfl, hwb, hu⟩
  have HB6 := Lib.hid hwb
  have HY6 := Lib.hid (tBlk hu HY5.out (by omega))
  have HX6 := Lib.hid (tBlk hu HX5.out (by omega))
  have HU6 := Lib.hid (HU5.out.trans (hu.mono (T := fun k => k = b ∨ w.heap.size ≤ k) (fun _ h _ => .inl h)) (fun _ h _ => h))
  have HSZ6 : Hid (w.heap.size + 2 ≤ w6.heap.size) := Lib.hid (by have := hu.size; have := HSZ5.out; omega)
  obtain ⟨y0, f0⟩ := tCell HY6.out 3
  simp at y0
  obtain ⟨w7, hw7⟩ : ∃ w7, w7 = w6.setCell ⟨w.heap.size + 1, 3, none⟩ (.int .i64 D.1) := ⟨_, rfl⟩
  have hus : Upd (fun k => k = w.heap.size + 1) w6 w7 := by rw [hw7]; exact Upd.setCell (S := fun k => k = w.heap.size + 1) w6 (p := ⟨w.heap.size + 1, 3, none⟩) (.inl rfl) _
  have HB7 := Lib.hid (HB6.out.upd hus (by omega))
  have HY7 : Hid (w7.heap[w.heap.size + 1]? = some (.cells #[.string (bs A.1), .int .i64 C.1, .slice none 0 0, .int .i64 D.1] 43 (0, 0))) := Lib.hid (by rw [hw7]; exact tPut HY6.out 3 _)
  have HX7 := Lib.hid (tBlk hus HX6.out (by omega))
  have HU7 := Lib.hid (HU6.out.trans (hus.mono (T := fun k => k = b ∨ w.heap.size ≤ k) (fun k h _ => .inr (by omega))) (fun _ h _ => h))
  have HSZ7 : Hid (w.heap.size + 2 ≤ w7.heap.size) := Lib.hid (by have := hus.size; have := HSZ6.out; omega)
  have HW7 := Lib.hid hw7
  clear hwb hu hus hw7
  go_wp2_with fail
  rw [← HW7.out]
  clear f0 y0
  refine (tKinds HB7.out HLED.out 4 (by omega)).mono ?_
  rw [← HE.out]
  rintro e w8 ⟨r, rfl, hk⟩
  obtain ⟨ra, rc, rfl⟩ := ownsRow_slice hk.row
  have HK := Lib.hid hk
  have hy := tBlk hk.up HY7.out (by omega)
  have hx := tBlk hk.up HX7.out (by omega)
  have HU8 := Lib.hid (HU7.out.trans (hk.up.mono (T := fun k => k = b ∨ w.heap.size ≤ k) (fun _ h _ => .inl h)) (fun _ h _ => h))
  have HNW : Hid (∀ k, (Value.slice ra E.1.length rc).ownBlock = some k → w.heap.size + 2 ≤ k) := Lib.hid (fun k h => by have := hk.new k h; have := HSZ7.out; omega)
  obtain ⟨y0, g0⟩ := tCell hy 0
  obtain ⟨y1, g1⟩ := tCell hy 1
  obtain ⟨y2, g2⟩ := tCell hy 2
  obtain ⟨y3, g3⟩ := tCell hy 3
  obtain ⟨x0, f0⟩ := tCell hx 0
  obtain ⟨x1, f1⟩ := tCell hx 1
  obtain ⟨x2, f2⟩ := tCell hx 2
  obtain ⟨x3, f3⟩ := tCell hx 3
  simp at y0 y1 y2 y3 x0 x1 x2 x3
  clear hk hx hy
  go_wp2_with fail
  refine bodyPost_ret (v := .agg #[.string (bs A.1), .int .i64 C.1, .slice ra E.1.length rc, .int .i64 D.1]) (by simp only [results, Tryz.f88]; simp [go_sem, x0, x1, x2, x3, f0, f1, f2, f3, y0, y1, y2, y3, g0, g1, g2, g3]) rfl ?_
  clear x0 x1 x2 x3 f0 f1 f2 f3 y0 y1 y2 y3 g0 g1 g2 g3
  rw [HR.out]
  refine ⟨_, rfl, ?_⟩
  obtain ⟨wz, hwz, huz⟩ : ∃ wz, wz = ((((w8.setCell ⟨w.heap.size + 1, 2, none⟩ (.slice ra E.1.length rc)).setCell ⟨w.heap.size, 0, none⟩ (.string (bs A.1))).setCell ⟨w.heap.size, 1, none⟩ (.int .i64 C.1)).setCell ⟨w.heap.size, 2, none⟩ (.slice ra E.1.length rc)).setCell ⟨w.heap.size, 3, none⟩ (.int .i64 D.1) ∧ Upd (fun k => k = w.heap.size ∨ k = w.heap.size + 1) w8 wz := by
    refine ⟨_, rfl, ?_⟩
    iterate 5 refine tSet ?_ (by simp)
    exact Upd.refl _ _
  rw [← hwz]
  exact ⟨HK.out.row.upd huz (fun k hk h => by have := HNW.out k hk; omega), HK.out.wb.upd huz (by omega), Upd.olds (HU8.out.trans (huz.mono (T := fun k => k = b ∨ w.heap.size ≤ k) (fun k h _ => .inr (by omega))) (fun _ h _ => h)), fun k hk => by have := HNW.out k hk; omega, HK.out.len⟩
set_option maxHeartbeats 4000000 in
theorem tMethod (hw : Wb w b l bad) (hl : l.length ≤ maxLen) : Calls Tryz.prog 90 #[.pointer (some ⟨b, 0, none⟩)] w fun e w' => ∃ r, e = .returned (.agg #[r, .int .i64 (metW (l, bad)).1.res, .slice none 0 0, .slice none 0 0]) ∧ KdU w w' b r (metW (l, bad)).1.params (metW (l, bad)).2 := by
  have hbl : b < w.heap.size := hw.lt
  obtain ⟨w1, hw1⟩ : ∃ w1, w1 = (w.alloc (.cells zMet 39)).alloc (.cells zMet 39) := ⟨_, rfl⟩
  have hu1 : Upd (fun _ => False) w w1 := by rw [hw1]; exact (Upd.alloc _ _ _).trans (Upd.alloc _ _ _) (fun _ h _ => h)
  have HX1 : Hid (w1.heap[w.heap.size]? = some (.cells zMet 39 (0, 0))) := Lib.hid (by
    rw [hw1]; exact tBlk (S := fun _ => False) (Upd.alloc _ _ _) (tTop w _ _ rfl) (fun h => h))
  have HY1 : Hid (w1.heap[w.heap.size + 1]? = some (.cells zMet 39 (0, 0))) := Lib.hid (by rw [hw1]; exact tTop _ _ _ (by simp))
  have HW1 := Lib.hid hw1
  have HU1 := Lib.hid (hu1.mono (T := fun k => k = b ∨ w.heap.size ≤ k) (fun _ h _ => h.elim))
  have HSZ1 : Hid (w1.heap.size = w.heap.size + 2) := Lib.hid (by rw [hw1]; simp)
  have HB1 := Lib.hid (hw.upd hu1 (fun h => h))
  have HL1 := Lib.hid hl
  obtain ⟨D, hD⟩ : ∃ D, D = resW (l, bad) := ⟨_, rfl⟩
  have HD := Lib.hid hD
  have HLED : Hid (D.2.1.length ≤ maxLen) := Lib.hid (by have h1 := resW_len (l, bad); rw [← hD] at h1; exact Nat.le_trans h1 hl)
  obtain ⟨E, hE⟩ : ∃ E, E = kindsW 4 D.2 := ⟨_, rfl⟩
  have HE := Lib.hid hE
  obtain ⟨R, hR⟩ : ∃ R, R = metW (l, bad) := ⟨_, rfl⟩
  have HR : Hid (R = ((⟨E.1, D.1, [], []⟩ : MetM), E.2)) := Lib.hid (by rw [hR]; unfold metW; rw [← hD, ← hE])
  rw [← hR]
  clear hw hl hu1 hw1 hR hE hD
  go_enter Tryz.func90, Tryz.ntmps90
  go_wp2_with fail
  rw [← HW1.out]
  refine (tRes HB1.out HL1.out).mono ?_
  rw [← HD.out]
  rintro e w2 ⟨rfl, hwb, hu⟩
  have HB2 := Lib.hid hwb
  have HY2 := Lib.hid (tBlk hu HY1.out (by omega))
  have HX2 := Lib.hid (tBlk hu HX1.out (by omega))
  have HU2 := Lib.hid (HU1.out.trans (hu.mono (T := fun k => k = b ∨ w.heap.size ≤ k) (fun _ h _ => .inl h)) (fun _ h _ => h))
  have HSZ2 : Hid (w.heap.size + 2 ≤ w2.heap.size) := Lib.hid (by have := hu.size; have := HSZ1.out; omega)
  obtain ⟨y0, f0⟩ := tCell HY2.out 1
  simp at y0
  obtain ⟨w3, hw3⟩ : ∃ w3, w3 = w2.setCell ⟨w.heap.size + 1, 1, none⟩ (.int .i64 D.1) := ⟨_, rfl⟩
  have hus : Upd (fun k => k = w.heap.size + 1) w2 w3 := by rw [hw3]; exact Upd.setCell (S := fun k => k = w.heap.size + 1) w2 (p := ⟨w.heap.size + 1, 1, none⟩) (.inl rfl) _
  have HB3 := Lib.hid (HB2.out.upd hus (by omega))
  have HY3 : Hid (w3.heap[w.heap.size + 1]? = some (.cells #[.slice none 0 0, .int .i64 D.1, .slice none 0 0, .slice none 0 0] 39 (0, 0))) := Lib.hid (by rw [hw3]; exact tPut HY2.out 1 _)
  have HX3 := Lib.hid (tBlk hus HX2.out (by omega))
  have HU3 := Lib.hid (HU2.out.trans (hus.mono (T := fun k => k = b ∨ w.heap.size ≤ k) (fun k h _ => .inr (by omega))) (fun _ h _ => h))
  have HSZ3 : Hid (w.heap.size + 2 ≤ w3.heap.size) := Lib.hid (by have := hus.size; have := HSZ2.out; omega)
  have HW3 := Lib.hid hw3
  clear hwb hu hus hw3
  go_wp2_with fail
  rw [← HW3.out]
  clear f0 y0
  refine (tKinds HB3.out HLED.out 4 (by omega)).mono ?_
  rw [← HE.out]
  rintro e w4 ⟨r, rfl, hk⟩
  obtain ⟨ra, rc, rfl⟩ := ownsRow_slice hk.row
  have HK := Lib.hid hk
  have hy := tBlk hk.up HY3.out (by omega)
  have hx := tBlk hk.up HX3.out (by omega)
  have HU4 := Lib.hid (HU3.out.trans (hk.up.mono (T := fun k => k = b ∨ w.heap.size ≤ k) (fun _ h _ => .inl h)) (fun _ h _ => h))
  have HNW : Hid (∀ k, (Value.slice ra E.1.length rc).ownBlock = some k → w.heap.size + 2 ≤ k) := Lib.hid (fun k h => by have := hk.new k h; have := HSZ3.out; omega)
  obtain ⟨y0, g0⟩ := tCell hy 0
  obtain ⟨y1, g1⟩ := tCell hy 1
  obtain ⟨y2, g2⟩ := tCell hy 2
  obtain ⟨y3, g3⟩ := tCell hy 3
  obtain ⟨x0, f0⟩ := tCell hx 0
  obtain ⟨x1, f1⟩ := tCell hx 1
  obtain ⟨x2, f2⟩ := tCell hx 2
  obtain ⟨x3, f3⟩ := tCell hx 3
  simp at y0 y1 y2 y3 x0 x1 x2 x3
  clear hk hx hy
  go_wp2_with fail
  refine bodyPost_ret (v := .agg #[.slice ra E.1.length rc, .int .i64 D.1, .slice none 0 0, .slice none 0 0]) (by simp only [results, Tryz.f90]; simp [go_sem, x0, x1, x2, x3, f0, f1, f2, f3, y0, y1, y2, y3, g0, g1, g2, g3]) rfl ?_
  clear x0 x1 x2 x3 f0 f1 f2 f3 y0 y1 y2 y3 g0 g1 g2 g3
  rw [HR.out]
  refine ⟨_, rfl, ?_⟩
  obtain ⟨wz, hwz, huz⟩ : ∃ wz, wz = ((((w4.setCell ⟨w.heap.size + 1, 0, none⟩ (.slice ra E.1.length rc)).setCell ⟨w.heap.size, 0, none⟩ (.slice ra E.1.length rc)).setCell ⟨w.heap.size, 1, none⟩ (.int .i64 D.1)).setCell ⟨w.heap.size, 2, none⟩ (.slice none 0 0)).setCell ⟨w.heap.size, 3, none⟩ (.slice none 0 0) ∧ Upd (fun k => k = w.heap.size ∨ k = w.heap.size + 1) w4 wz := by
    refine ⟨_, rfl, ?_⟩
    iterate 5 refine tSet ?_ (by simp)
    exact Upd.refl _ _
  rw [← hwz]
  exact ⟨HK.out.row.upd huz (fun k hk h => by have := HNW.out k hk; omega), HK.out.wb.upd huz (by omega), Upd.olds (HU4.out.trans (huz.mono (T := fun k => k = b ∨ w.heap.size ≤ k) (fun k h _ => .inr (by omega))) (fun _ h _ => h)), fun k hk => by have := HNW.out k hk; omega, HK.out.len⟩
end
end

section
open Go.RowKit Go.Lib
set_option linter.unusedVariables false
set_option linter.unusedSimpArgs false

def insBad (op : Int) (x : Ws) : Ws := (x.1, x.2 || !(op != 0))
def insW (op : Int) (x : Ws) : InsM × Ws := match decide (0 < opsB op) with
  | false => (⟨op, 0, 0⟩, insBad op x)
  | true => match decide (1 < opsB op) with
    | false => (⟨op, (numW (insBad op x)).1, 0⟩, (numW (insBad op x)).2)
    | true => (⟨op, (numW (insBad op x)).1, (numW (numW (insBad op x)).2).1⟩, (numW (numW (insBad op x)).2).2)
section
variable {w : World} {b : Nat} {l : By} {bad : Bool}
set_option maxHeartbeats 4000000 in
theorem tInstr0 (hw : Wb w b l bad) (hl : l.length ≤ maxLen) (op : Int) (hop : opsB op = 0) : Calls Tryz.prog 96 #[.pointer (some ⟨b, 0, none⟩), .int .i64 op] w fun e w' => e = .returned (.agg #[.int .i64 (insW op (l, bad)).1.op, .int .i64 (insW op (l, bad)).1.a, .int .i64 (insW op (l, bad)).1.b]) ∧ Wb w' b (insW op (l, bad)).2.1 (insW op (l, bad)).2.2 ∧ Upd (fun k => k = b) w w' := by
  have hbl : b < w.heap.size := hw.lt
  obtain ⟨w1, hw1⟩ : ∃ w1, w1 = w.alloc (.cells #[.int .i64 0, .int .i64 0, .int .i64 0] 41) := ⟨_, rfl⟩
  have hu1 : Upd (fun _ => False) w w1 := by rw [hw1]; exact Upd.alloc _ _ _
  have HX1 : Hid (w1.heap[w.heap.size]? = some (.cells #[.int .i64 0, .int .i64 0, .int .i64 0] 41 (0, 0))) := Lib.hid (by rw [hw1]; exact tTop _ _ _ rfl)
  have HW1 := Lib.hid hw1
  have HU1 := Lib.hid (hu1.mono (T := fun k => k = b ∨ w.heap.size ≤ k) (fun _ h _ => h.elim))
  have HSZ1 : Hid (w1.heap.size = w.heap.size + 1) := Lib.hid (by rw [hw1]; simp)
  have HB1 := Lib.hid (hw.upd hu1 (fun h => h))
  obtain ⟨bad2, hbad2⟩ : ∃ q, q = (bad || !(op != 0)) := ⟨_, rfl⟩
  have HBD := Lib.hid hbad2
  have HL0 : Hid ((l, bad2).1.length ≤ maxLen) := Lib.hid hl
  have HOP := Lib.hid (fun w => cOperands op w)
  rw [hop] at HOP
  obtain ⟨R, hR⟩ : ∃ R, R = insW op (l, bad) := ⟨_, rfl⟩
  have hib : insBad op (l, bad) = (l, bad2) := by unfold insBad; rw [hbad2]
  have HR : Hid (R = ((⟨op, 0, 0⟩ : InsM), (l, bad2))) := Lib.hid (by
    rw [hR]
    unfold insW
    rw [show decide (0 < opsB op) = false by rw [hop]; rfl, show decide (1 < opsB op) = false by rw [hop]; rfl, hib])
  rw [← hR]
  clear hw hl hu1 hw1 hR hib hop
  go_enter Tryz.func96, Tryz.ntmps96
  go_wp2_with fail
  rw [← HW1.out]
  refine (tNeed l bad (op != 0) b w1 HB1.out).mono ?_
  rw [← HBD.out]
  rintro e w2 ⟨rfl, hwb, hu⟩
  have HX2 := Lib.hid (tBlk hu HX1.out (by omega))
  have hS2 : w.heap.size + 1 ≤ w2.heap.size := by have := hu.size; have := HSZ1.out; omega
  obtain ⟨Y, hY⟩ : ∃ Y, Y = w2.heap.size := ⟨_, rfl⟩
  obtain ⟨w3, hw3⟩ : ∃ w3, w3 = w2.alloc (.cells #[.int .i64 op, .int .i64 0, .int .i64 0] 41) := ⟨_, rfl⟩
  have hu3 : Upd (fun _ => False) w2 w3 := by rw [hw3]; exact Upd.alloc _ _ _
  have HX3 := Lib.hid (tBlk hu3 HX2.out (fun h => h))
  have HY3 : Hid (w3.heap[Y]? = some (.cells #[.int .i64 op, .int .i64 0, .int .i64 0] 41 (0, 0))) := Lib.hid (by rw [hw3]; exact tTop _ _ _ hY)
  have HB3 := Lib.hid (hwb.upd hu3 (fun h => h))
  have HU3 := Lib.hid ((HU1.out.trans (hu.mono (T := fun k => k = b ∨ w.heap.size ≤ k) (fun _ h _ => .inl h)) (fun _ h _ => h)).trans (hu3.mono (T := fun k => k = b ∨ w.heap.size ≤ k) (fun _ h _ => h.elim)) (fun _ h _ => h))
  have hYb : w.heap.size < Y := by omega
  have HW3 := Lib.hid hw3
  have HYE := Lib.hid hY
  clear hwb hu hu3 hw3 hY hS2
  go_wp2_with fail
  rw [← HW3.out, ← HYE.out]
  refine (HOP.out w3).mono ?_
  rintro e wq ⟨rfl, hq⟩
  subst wq
  obtain ⟨y0, g0⟩ := tCell HY3.out 0
  obtain ⟨y1, g1⟩ := tCell HY3.out 1
  obtain ⟨y2, g2⟩ := tCell HY3.out 2
  obtain ⟨x0, f0⟩ := tCell HX3.out 0
  obtain ⟨x1, f1⟩ := tCell HX3.out 1
  obtain ⟨x2, f2⟩ := tCell HX3.out 2
  simp at y0 y1 y2 x0 x1 x2
  go_wp2_with fail
  refine bodyPost_ret (v := .agg #[.int .i64 op, .int .i64 0, .int .i64 0]) (by simp only [results, Tryz.f96]; simp [go_sem, x0, x1, x2, f0, f1, f2, y0, y1, y2, g0, g1, g2]) rfl ?_
  clear x0 x1 x2 f0 f1 f2 y0 y1 y2 g0 g1 g2
  rw [HR.out]
  refine ⟨rfl, ?_⟩
  
  obtain ⟨wz, hwz, huz⟩ : ∃ wz, wz = ((w3.setCell ⟨w.heap.size, 0, none⟩ (.int .i64 op)).setCell ⟨w.heap.size, 1, none⟩ (.int .i64 0)).setCell ⟨w.heap.size, 2, none⟩ (.int .i64 0) ∧ Upd (fun k => k = w.heap.size) w3 wz := by
    refine ⟨_, rfl, ?_⟩
    iterate 3 refine tSet ?_ (by simp)
    exact Upd.refl _ _
  rw [← hwz]
  exact ⟨HB3.out.upd huz (by omega), Upd.olds (HU3.out.trans (huz.mono (T := fun k => k = b ∨ w.heap.size ≤ k) (fun k h _ => .inr (by omega))) (fun _ h _ => h))⟩
set_option maxHeartbeats 4000000 in
theorem tInstr1 (hw : Wb w b l bad) (hl : l.length ≤ maxLen) (op : Int) (hop : opsB op = 1) : Calls Tryz.prog 96 #[.pointer (some ⟨b, 0, none⟩), .int .i64 op] w fun e w' => e = .returned (.agg #[.int .i64 (insW op (l, bad)).1.op, .int .i64 (insW op (l, bad)).1.a, .int .i64 (insW op (l, bad)).1.b]) ∧ Wb w' b (insW op (l, bad)).2.1 (insW op (l, bad)).2.2 ∧ Upd (fun k => k = b) w w' := by
  have hbl : b < w.heap.size := hw.lt
  obtain ⟨w1, hw1⟩ : ∃ w1, w1 = w.alloc (.cells #[.int .i64 0, .int .i64 0, .int .i64 0] 41) := ⟨_, rfl⟩
  have hu1 : Upd (fun _ => False) w w1 := by rw [hw1]; exact Upd.alloc _ _ _
  have HX1 : Hid (w1.heap[w.heap.size]? = some (.cells #[.int .i64 0, .int .i64 0, .int .i64 0] 41 (0, 0))) := Lib.hid (by rw [hw1]; exact tTop _ _ _ rfl)
  have HW1 := Lib.hid hw1
  have HU1 := Lib.hid (hu1.mono (T := fun k => k = b ∨ w.heap.size ≤ k) (fun _ h _ => h.elim))
  have HSZ1 : Hid (w1.heap.size = w.heap.size + 1) := Lib.hid (by rw [hw1]; simp)
  have HB1 := Lib.hid (hw.upd hu1 (fun h => h))
  obtain ⟨bad2, hbad2⟩ : ∃ q, q = (bad || !(op != 0)) := ⟨_, rfl⟩
  have HBD := Lib.hid hbad2
  have HL0 : Hid ((l, bad2).1.length ≤ maxLen) := Lib.hid hl
  have HOP := Lib.hid (fun w => cOperands op w)
  rw [hop] at HOP
  obtain ⟨R, hR⟩ : ∃ R, R = insW op (l, bad) := ⟨_, rfl⟩
  have hib : insBad op (l, bad) = (l, bad2) := by unfold insBad; rw [hbad2]
  obtain ⟨A, hA⟩ : ∃ A, A = numW (l, bad2) := ⟨_, rfl⟩
  have HA := Lib.hid hA
  have HLA : Hid (A.2.1.length ≤ maxLen) := Lib.hid (by have h1 := numW_len (l, bad2); rw [← hA] at h1; exact Nat.le_trans h1 hl)
  have HR : Hid (R = ((⟨op, A.1, 0⟩ : InsM), A.2)) := Lib.hid (by
    rw [hR]
    unfold insW
    rw [show decide (0 < opsB op) = true by rw [hop]; rfl, show decide (1 < opsB op) = false by rw [hop]; rfl, hib, ← hA])
  rw [← hR]
  clear hw hl hu1 hw1 hR hib hop hA
  go_enter Tryz.func96, Tryz.ntmps96
  go_wp2_with fail
  rw [← HW1.out]
  refine (tNeed l bad (op != 0) b w1 HB1.out).mono ?_
  rw [← HBD.out]
  rintro e w2 ⟨rfl, hwb, hu⟩
  have HX2 := Lib.hid (tBlk hu HX1.out (by omega))
  have hS2 : w.heap.size + 1 ≤ w2.heap.size := by have := hu.size; have := HSZ1.out; omega
  obtain ⟨Y, hY⟩ : ∃ Y, Y = w2.heap.size := ⟨_, rfl⟩
  obtain ⟨w3, hw3⟩ : ∃ w3, w3 = w2.alloc (.cells #[.int .i64 op, .int .i64 0, .int .i64 0] 41) := ⟨_, rfl⟩
  have hu3 : Upd (fun _ => False) w2 w3 := by rw [hw3]; exact Upd.alloc _ _ _
  have HX3 := Lib.hid (tBlk hu3 HX2.out (fun h => h))
  have HY3 : Hid (w3.heap[Y]? = some (.cells #[.int .i64 op, .int .i64 0, .int .i64 0] 41 (0, 0))) := Lib.hid (by rw [hw3]; exact tTop _ _ _ hY)
  have HB3 := Lib.hid (hwb.upd hu3 (fun h => h))
  have HU3 := Lib.hid ((HU1.out.trans (hu.mono (T := fun k => k = b ∨ w.heap.size ≤ k) (fun _ h _ => .inl h)) (fun _ h _ => h)).trans (hu3.mono (T := fun k => k = b ∨ w.heap.size ≤ k) (fun _ h _ => h.elim)) (fun _ h _ => h))
  have hYb : w.heap.size < Y := by omega
  have HW3 := Lib.hid hw3
  have HYE := Lib.hid hY
  clear hwb hu hu3 hw3 hY hS2
  go_wp2_with fail
  rw [← HW3.out, ← HYE.out]
  refine (HOP.out w3).mono ?_
  rintro e wq ⟨rfl, hq⟩
  subst wq
  go_wp2_with fail
  
  refine (tNum HB3.out HL0.out).mono ?_
  rw [← HA.out]
  rintro e w4 ⟨rfl, hwb, hu⟩
  have HB4 := Lib.hid hwb
  have HY4 := Lib.hid (tBlk hu HY3.out (by omega))
  have HX4 := Lib.hid (tBlk hu HX3.out (by omega))
  have HU4 := Lib.hid (HU3.out.trans (hu.mono (T := fun k => k = b ∨ w.heap.size ≤ k) (fun _ h _ => .inl h)) (fun _ h _ => h))
  obtain ⟨y0, f0⟩ := tCell HY4.out 1
  simp at y0
  obtain ⟨w5, hw5⟩ : ∃ w5, w5 = w4.setCell ⟨Y, 1, none⟩ (.int .i64 A.1) := ⟨_, rfl⟩
  have hus : Upd (fun k => k = Y) w4 w5 := by rw [hw5]; exact Upd.setCell (S := fun k => k = Y) w4 (p := ⟨Y, 1, none⟩) (.inl rfl) _
  have HB5 := Lib.hid (HB4.out.upd hus (by omega))
  have HY5 : Hid (w5.heap[Y]? = some (.cells #[.int .i64 op, .int .i64 A.1, .int .i64 0] 41 (0, 0))) := Lib.hid (by rw [hw5]; exact tPut HY4.out 1 _)
  have HX5 := Lib.hid (tBlk hus HX4.out (by omega))
  have HU5 := Lib.hid (HU4.out.trans (hus.mono (T := fun k => k = b ∨ w.heap.size ≤ k) (fun k h _ => .inr (by omega))) (fun _ h _ => h))
  have HW5 := Lib.hid hw5
  clear hwb hu hus hw5
  clear y0 f0
  obtain ⟨y0, g0⟩ := tCell HY4.out 0
  obtain ⟨y1, g1⟩ := tCell HY4.out 1
  obtain ⟨y2, g2⟩ := tCell HY4.out 2
  obtain ⟨x0, f0⟩ := tCell HX4.out 0
  obtain ⟨x1, f1⟩ := tCell HX4.out 1
  obtain ⟨x2, f2⟩ := tCell HX4.out 2
  simp at y0 y1 y2 x0 x1 x2
  go_wp2_with fail
  refine bodyPost_ret (v := .agg #[.int .i64 op, .int .i64 A.1, .int .i64 0]) (by simp only [results, Tryz.f96]; simp [go_sem, x0, x1, x2, f0, f1, f2, y0, y1, y2, g0, g1, g2]) rfl ?_
  clear x0 x1 x2 f0 f1 f2 y0 y1 y2 g0 g1 g2
  rw [HR.out]
  refine ⟨rfl, ?_⟩
  rw [← HW5.out]
  obtain ⟨wz, hwz, huz⟩ : ∃ wz, wz = ((w5.setCell ⟨w.heap.size, 0, none⟩ (.int .i64 op)).setCell ⟨w.heap.size, 1, none⟩ (.int .i64 A.1)).setCell ⟨w.heap.size, 2, none⟩ (.int .i64 0) ∧ Upd (fun k => k = w.heap.size) w5 wz := by
    refine ⟨_, rfl, ?_⟩
    iterate 3 refine tSet ?_ (by simp)
    exact Upd.refl _ _
  rw [← hwz]
  exact ⟨HB5.out.upd huz (by omega), Upd.olds (HU5.out.trans (huz.mono (T := fun k => k = b ∨ w.heap.size ≤ k) (fun k h _ => .inr (by omega))) (fun _ h _ => h))⟩
set_option maxHeartbeats 4000000 in
theorem tInstr2 (hw : Wb w b l bad) (hl : l.length ≤ maxLen) (op : Int) (hop : opsB op = 2) : Calls Tryz.prog 96 #[.pointer (some ⟨b, 0, none⟩), .int .i64 op] w fun e w' => e = .returned (.agg #[.int .i64 (insW op (l, bad)).1.op, .int .i64 (insW op (l, bad)).1.a, .int .i64 (insW op (l, bad)).1.b]) ∧ Wb w' b (insW op (l, bad)).2.1 (insW op (l, bad)).2.2 ∧ Upd (fun k => k = b) w w' := by
  have hbl : b < w.heap.size := hw.lt
  obtain ⟨w1, hw1⟩ : ∃ w1, w1 = w.alloc (.cells #[.int .i64 0, .int .i64 0, .int .i64 0] 41) := ⟨_, rfl⟩
  have hu1 : Upd (fun _ => False) w w1 := by rw [hw1]; exact Upd.alloc _ _ _
  have HX1 : Hid (w1.heap[w.heap.size]? = some (.cells #[.int .i64 0, .int .i64 0, .int .i64 0] 41 (0, 0))) := Lib.hid (by rw [hw1]; exact tTop _ _ _ rfl)
  have HW1 := Lib.hid hw1
  have HU1 := Lib.hid (hu1.mono (T := fun k => k = b ∨ w.heap.size ≤ k) (fun _ h _ => h.elim))
  have HSZ1 : Hid (w1.heap.size = w.heap.size + 1) := Lib.hid (by rw [hw1]; simp)
  have HB1 := Lib.hid (hw.upd hu1 (fun h => h))
  obtain ⟨bad2, hbad2⟩ : ∃ q, q = (bad || !(op != 0)) := ⟨_, rfl⟩
  have HBD := Lib.hid hbad2
  have HL0 : Hid ((l, bad2).1.length ≤ maxLen) := Lib.hid hl
  have HOP := Lib.hid (fun w => cOperands op w)
  rw [hop] at HOP
  obtain ⟨R, hR⟩ : ∃ R, R = insW op (l, bad) := ⟨_, rfl⟩
  have hib : insBad op (l, bad) = (l, bad2) := by unfold insBad; rw [hbad2]
  obtain ⟨A, hA⟩ : ∃ A, A = numW (l, bad2) := ⟨_, rfl⟩
  have HA := Lib.hid hA
  have HLA : Hid (A.2.1.length ≤ maxLen) := Lib.hid (by have h1 := numW_len (l, bad2); rw [← hA] at h1; exact Nat.le_trans h1 hl)
  obtain ⟨C, hC⟩ : ∃ C, C = numW A.2 := ⟨_, rfl⟩
  have HC := Lib.hid hC
  have HLC : Hid (C.2.1.length ≤ maxLen) := Lib.hid (by have h1 := numW_len A.2; rw [← hC] at h1; exact Nat.le_trans h1 HLA.out)
  have HR : Hid (R = ((⟨op, A.1, C.1⟩ : InsM), C.2)) := Lib.hid (by
    rw [hR]
    unfold insW
    rw [show decide (0 < opsB op) = true by rw [hop]; rfl, show decide (1 < opsB op) = true by rw [hop]; rfl, hib, ← hA, ← hC])
  rw [← hR]
  clear hw hl hu1 hw1 hR hib hop hA hC
  go_enter Tryz.func96, Tryz.ntmps96
  go_wp2_with fail
  rw [← HW1.out]
  refine (tNeed l bad (op != 0) b w1 HB1.out).mono ?_
  rw [← HBD.out]
  rintro e w2 ⟨rfl, hwb, hu⟩
  have HX2 := Lib.hid (tBlk hu HX1.out (by omega))
  have hS2 : w.heap.size + 1 ≤ w2.heap.size := by have := hu.size; have := HSZ1.out; omega
  obtain ⟨Y, hY⟩ : ∃ Y, Y = w2.heap.size := ⟨_, rfl⟩
  obtain ⟨w3, hw3⟩ : ∃ w3, w3 = w2.alloc (.cells #[.int .i64 op, .int .i64 0, .int .i64 0] 41) := ⟨_, rfl⟩
  have hu3 : Upd (fun _ => False) w2 w3 := by rw [hw3]; exact Upd.alloc _ _ _
  have HX3 := Lib.hid (tBlk hu3 HX2.out (fun h => h))
  have HY3 : Hid (w3.heap[Y]? = some (.cells #[.int .i64 op, .int .i64 0, .int .i64 0] 41 (0, 0))) := Lib.hid (by rw [hw3]; exact tTop _ _ _ hY)
  have HB3 := Lib.hid (hwb.upd hu3 (fun h => h))
  have HU3 := Lib.hid ((HU1.out.trans (hu.mono (T := fun k => k = b ∨ w.heap.size ≤ k) (fun _ h _ => .inl h)) (fun _ h _ => h)).trans (hu3.mono (T := fun k => k = b ∨ w.heap.size ≤ k) (fun _ h _ => h.elim)) (fun _ h _ => h))
  have hYb : w.heap.size < Y := by omega
  have HW3 := Lib.hid hw3
  have HYE := Lib.hid hY
  clear hwb hu hu3 hw3 hY hS2
  go_wp2_with fail
  rw [← HW3.out, ← HYE.out]
  refine (HOP.out w3).mono ?_
  rintro e wq ⟨rfl, hq⟩
  subst wq
  go_wp2_with fail
  
  refine (tNum HB3.out HL0.out).mono ?_
  rw [← HA.out]
  rintro e w4 ⟨rfl, hwb, hu⟩
  have HB4 := Lib.hid hwb
  have HY4 := Lib.hid (tBlk hu HY3.out (by omega))
  have HX4 := Lib.hid (tBlk hu HX3.out (by omega))
  have HU4 := Lib.hid (HU3.out.trans (hu.mono (T := fun k => k = b ∨ w.heap.size ≤ k) (fun _ h _ => .inl h)) (fun _ h _ => h))
  obtain ⟨y0, f0⟩ := tCell HY4.out 1
  simp at y0
  obtain ⟨w5, hw5⟩ : ∃ w5, w5 = w4.setCell ⟨Y, 1, none⟩ (.int .i64 A.1) := ⟨_, rfl⟩
  have hus : Upd (fun k => k = Y) w4 w5 := by rw [hw5]; exact Upd.setCell (S := fun k => k = Y) w4 (p := ⟨Y, 1, none⟩) (.inl rfl) _
  have HB5 := Lib.hid (HB4.out.upd hus (by omega))
  have HY5 : Hid (w5.heap[Y]? = some (.cells #[.int .i64 op, .int .i64 A.1, .int .i64 0] 41 (0, 0))) := Lib.hid (by rw [hw5]; exact tPut HY4.out 1 _)
  have HX5 := Lib.hid (tBlk hus HX4.out (by omega))
  have HU5 := Lib.hid (HU4.out.trans (hus.mono (T := fun k => k = b ∨ w.heap.size ≤ k) (fun k h _ => .inr (by omega))) (fun _ h _ => h))
  have HW5 := Lib.hid hw5
  clear hwb hu hus hw5
  go_wp2_with fail
  rw [← HW5.out]
  refine (tNum HB5.out HLA.out).mono ?_
  rw [← HC.out]
  rintro e w6 ⟨rfl, hwb, hu⟩
  have HB6 := Lib.hid hwb
  have HY6 := Lib.hid (tBlk hu HY5.out (by omega))
  have HX6 := Lib.hid (tBlk hu HX5.out (by omega))
  have HU6 := Lib.hid (HU5.out.trans (hu.mono (T := fun k => k = b ∨ w.heap.size ≤ k) (fun _ h _ => .inl h)) (fun _ h _ => h))
  obtain ⟨y0, f0⟩ := tCell HY6.out 2
  simp at y0
  obtain ⟨w7, hw7⟩ : ∃ w7, w7 = w6.setCell ⟨Y, 2, none⟩ (.int .i64 C.1) := ⟨_, rfl⟩
  have hus : Upd (fun k => k = Y) w6 w7 := by rw [hw7]; exact Upd.setCell (S := fun k => k = Y) w6 (p := ⟨Y, 2, none⟩) (.inl rfl) _
  have HB7 := Lib.hid (HB6.out.upd hus (by omega))
  have HY7 : Hid (w7.heap[Y]? = some (.cells #[.int .i64 op, .int .i64 A.1, .int .i64 C.1] 41 (0, 0))) := Lib.hid (by rw [hw7]; exact tPut HY6.out 2 _)
  have HX7 := Lib.hid (tBlk hus HX6.out (by omega))
  have HU7 := Lib.hid (HU6.out.trans (hus.mono (T := fun k => k = b ∨ w.heap.size ≤ k) (fun k h _ => .inr (by omega))) (fun _ h _ => h))
  have HW7 := Lib.hid hw7
  clear hwb hu hus hw7
  clear y0 f0
  obtain ⟨y0, g0⟩ := tCell HY6.out 0
  obtain ⟨y1, g1⟩ := tCell HY6.out 1
  obtain ⟨y2, g2⟩ := tCell HY6.out 2
  obtain ⟨x0, f0⟩ := tCell HX6.out 0
  obtain ⟨x1, f1⟩ := tCell HX6.out 1
  obtain ⟨x2, f2⟩ := tCell HX6.out 2
  simp at y0 y1 y2 x0 x1 x2
  go_wp2_with fail
  refine bodyPost_ret (v := .agg #[.int .i64 op, .int .i64 A.1, .int .i64 C.1]) (by simp only [results, Tryz.f96]; simp [go_sem, x0, x1, x2, f0, f1, f2, y0, y1, y2, g0, g1, g2]) rfl ?_
  clear x0 x1 x2 f0 f1 f2 y0 y1 y2 g0 g1 g2
  rw [HR.out]
  refine ⟨rfl, ?_⟩
  rw [← HW7.out]
  obtain ⟨wz, hwz, huz⟩ : ∃ wz, wz = ((w7.setCell ⟨w.heap.size, 0, none⟩ (.int .i64 op)).setCell ⟨w.heap.size, 1, none⟩ (.int .i64 A.1)).setCell ⟨w.heap.size, 2, none⟩ (.int .i64 C.1) ∧ Upd (fun k => k = w.heap.size) w7 wz := by
    refine ⟨_, rfl, ?_⟩
    iterate 3 refine tSet ?_ (by simp)
    exact Upd.refl _ _
  rw [← hwz]
  exact ⟨HB7.out.upd huz (by omega), Upd.olds (HU7.out.trans (huz.mono (T := fun k => k = b ∨ w.heap.size ≤ k) (fun k h _ => .inr (by omega))) (fun _ h _ => h))⟩
theorem tInstr (hw : Wb w b l bad) (hl : l.length ≤ maxLen) (op : Int) : Calls Tryz.prog 96 #[.pointer (some ⟨b, 0, none⟩), .int .i64 op] w fun e w' => e = .returned (.agg #[.int .i64 (insW op (l, bad)).1.op, .int .i64 (insW op (l, bad)).1.a, .int .i64 (insW op (l, bad)).1.b]) ∧ Wb w' b (insW op (l, bad)).2.1 (insW op (l, bad)).2.2 ∧ Upd (fun k => k = b) w w' := by
  rcases ops3 op with h | h | h
  · exact tInstr0 hw hl op h
  · exact tInstr1 hw hl op h
  · exact tInstr2 hw hl op h
end
end
end Go.Proofs.YtmikibcgphkcfaaGreatDoor

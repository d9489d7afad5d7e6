/- Package image's Read: an import, a method, taken. -/
import Derived.Test.YthnjlopfmakdmaaDoorIt
import Derived.Test.YthnjlopfmakdmaaDoorCk
namespace Go.Proofs.YthnjlopfmakdmaaDoor
open Go.RowKit Go.Lib
set_option linter.unusedVariables false

/-- four cells in a block -/
def Is4 (t : TypeId) (w : World) (b : Nat) (x y z u : Value) : Prop := w.heap[b]? = some (.cells #[x, y, z, u] t (0, 0))
section
variable {t : TypeId} {w w' : World} {b : Nat} {x y z u : Value}
theorem is4_new (t : TypeId) (w : World) (x y z u : Value) : Is4 t (w.alloc (.cells #[x, y, z, u] t)) w.heap.size x y z u := by
  show (w.heap.push _)[w.heap.size]? = _
  simp
theorem Is4.c0 (h : Is4 t w b x y z u) : w.cell? ⟨b, 0, none⟩ = some x := by unfold Is4 at h; simp [World.cell?, h]
theorem Is4.c1 (h : Is4 t w b x y z u) : w.cell? ⟨b, 1, none⟩ = some y := by unfold Is4 at h; simp [World.cell?, h]
theorem Is4.c2 (h : Is4 t w b x y z u) : w.cell? ⟨b, 2, none⟩ = some z := by unfold Is4 at h; simp [World.cell?, h]
theorem Is4.c3 (h : Is4 t w b x y z u) : w.cell? ⟨b, 3, none⟩ = some u := by unfold Is4 at h; simp [World.cell?, h]
theorem Is4.fr (h : Is4 t w b x y z u) (o : Nat) : w.frozen? ⟨b, o, none⟩ = false := by unfold Is4 at h; simp [World.frozen?, h]
theorem Is4.lt (h : Is4 t w b x y z u) : b < w.heap.size := (Array.getElem?_eq_some_iff.1 h).1
theorem Is4.upd {S : Nat → Prop} (h : Is4 t w b x y z u) (hu : Upd S w w') (hS : ¬ S b) : Is4 t w' b x y z u := (hu.block b h.lt hS).trans h
theorem Is4.set0 (h : Is4 t w b x y z u) (v : Value) : Is4 t (w.setCell ⟨b, 0, none⟩ v) b v y z u := by unfold Is4 at *; simp [World.setCell, Array.getElem?_modify, h]
theorem Is4.set1 (h : Is4 t w b x y z u) (v : Value) : Is4 t (w.setCell ⟨b, 1, none⟩ v) b x v z u := by unfold Is4 at *; simp [World.setCell, Array.getElem?_modify, h]
theorem Is4.set2 (h : Is4 t w b x y z u) (v : Value) : Is4 t (w.setCell ⟨b, 2, none⟩ v) b x y v u := by unfold Is4 at *; simp [World.setCell, Array.getElem?_modify, h]
theorem Is4.set3 (h : Is4 t w b x y z u) (v : Value) : Is4 t (w.setCell ⟨b, 3, none⟩ v) b x y z v := by unfold Is4 at *; simp [World.setCell, Array.getElem?_modify, h]
end

/-- four stores into a block -/
theorem fin4 {t : TypeId} {w : World} {b : Nat} {x y z u : Value} (h : Is4 t w b x y z u) (u0 u1 u2 u3 : Value) :
    Is4 t ((((w.setCell ⟨b, 0, none⟩ u0).setCell ⟨b, 1, none⟩ u1).setCell ⟨b, 2, none⟩ u2).setCell ⟨b, 3, none⟩ u3) b u0 u1 u2 u3 ∧ Upd (fun k => k = b) w ((((w.setCell ⟨b, 0, none⟩ u0).setCell ⟨b, 1, none⟩ u1).setCell ⟨b, 2, none⟩ u2).setCell ⟨b, 3, none⟩ u3) :=
  ⟨(((h.set0 u0).set1 u1).set2 u2).set3 u3, (((Upd.setCell (S := fun k => k = b) w (.inl rfl) _).trans (Upd.setCell (S := fun k => k = b) _ (.inl rfl) _) (fun _ h _ => h)).trans (Upd.setCell (S := fun k => k = b) _ (.inl rfl) _) (fun _ h _ => h)).trans (Upd.setCell (S := fun k => k = b) _ (.inl rfl) _) (fun _ h _ => h)⟩
/-- an import, taken; whether it lacks then; what is left -/
def impP (lk : Bool) (ys : List Int) : ImpM × Bool × List Int :=
  let a := shortP lk ys
  let b := takeP 1 a.2.1 a.2.2
  let c := shortP b.2.1 b.2.2
  let d := takeP 1 c.2.1 c.2.2
  (⟨strOfNums a.1, beN b.1, c.1, beN d.1⟩, d.2)

set_option maxRecDepth 100000 in
set_option maxHeartbeats 2000000 in
theorem cTakeImport (W w : World) (b : Nat) (V : Value) (lk : Bool) (ys : List Int) (h : RdW 136 W w b V lk ys) :
    Calls Tryd.prog 104 #[.pointer (some ⟨b, 0, none⟩)] w fun e w' => ∃ r, e = .returned (imp4 (impP lk ys).1.name (impP lk ys).1.exp r (impP lk ys).1.res) ∧ RdW 136 W w' b V (impP lk ys).2.1 (impP lk ys).2.2 ∧ Upd (fun k => k = b) w w' ∧ NRow w' r (impP lk ys).1.params ∧ (∀ k, r.ownBlock = some k → w.heap.size ≤ k) ∧ (0 ≤ (impP lk ys).1.exp ∧ (impP lk ys).1.exp ≤ 255) ∧ (0 ≤ (impP lk ys).1.res ∧ (impP lk ys).1.res ≤ 255) ∧ (impP lk ys).1.name.size ≤ 255 := by
  have HA := Lib.hid ((Upd.alloc (fun _ => False) w (.cells #[.string { data := #[] }, .int .i64 0, .slice none 0 0, .int .i64 0] 65)).trans (Upd.alloc (fun _ => False) _ (.cells #[.string { data := #[] }, .int .i64 0, .slice none 0 0, .int .i64 0] 65)) (fun _ h _ => h))
  have HI := Lib.hid (is4_new 65 (w.alloc (.cells #[.string { data := #[] }, .int .i64 0, .slice none 0 0, .int .i64 0] 65)) (.string { data := #[] }) (.int .i64 0) (.slice none 0 0) (.int .i64 0))
  rw [show (w.alloc (.cells #[.string { data := #[] }, .int .i64 0, .slice none 0 0, .int .i64 0] 65)).heap.size = w.heap.size + 1 by simp] at HI
  have HJ := Lib.hid ((is4_new 65 w (.string { data := #[] }) (.int .i64 0) (.slice none 0 0) (.int .i64 0)).upd (Upd.alloc (fun _ => False) _ (.cells #[.string { data := #[] }, .int .i64 0, .slice none 0 0, .int .i64 0] 65)) (fun h => h))
  have HH := Lib.hid (h.mono HA.out)
  have hbw : b < w.heap.size := Nat.lt_of_lt_of_le h.lt h.size
  have hW := h.size
  have HLn := Lib.hid (show (shortP lk ys).1.length ≤ 255 by obtain ⟨_, v, h1, _⟩ := h; exact shortP_len h1.vw.1)
  clear h
  go_enter Tryd.func104, Tryd.ntmps104
  go_wp2_with fail
  refine (eShort HH.out).mono ?_
  rintro e w1 ⟨r, rfl, k1, k2, k3, -, k5⟩
  have hs := str3 (vw_of_row k3 k5)
  obtain ⟨ra, rc, rfl⟩ := ownsRow_slice k3
  have I1 := Lib.hid (HI.out.upd k2 (fun h => by omega))
  have J1 := Lib.hid (HJ.out.upd k2 (fun h => by omega))
  have K1 := Lib.hid k1
  have U1 := Lib.hid ((HA.out.mono (T := fun k => k = b) (fun _ h _ => h.elim)).trans k2 (fun _ h _ => h))
  obtain ⟨nm, hnm⟩ : ∃ nm, nm = strOfNums (shortP lk ys).1 := ⟨_, rfl⟩
  rw [← hnm] at hs
  have HNM := Lib.hid hnm
  have i0 := I1.out.c0
  have f0 := I1.out.fr 0
  clear k1 k2 k3 k5 hnm
  go_wp2_with fail
  have I2 := Lib.hid (I1.out.set0 (.string nm))
  have hu := Upd.setCell (S := fun k => k = w.heap.size + 1) w1 (p := ⟨w.heap.size + 1, 0, none⟩) (.inl rfl) (.string nm)
  have J2 := Lib.hid (J1.out.upd hu (fun h => by omega))
  have K2 := Lib.hid (K1.out.step hu (fun k hk => by omega))
  have U2 := Lib.hid (U1.out.trans hu (fun i hi hlt => by omega))
  clear hu i0 f0 hs
  refine (eU8 K2.out).mono ?_
  rintro e w2 ⟨rfl, k1, k2, hb1, hb2⟩
  have I3 := Lib.hid (I2.out.upd k2 (fun h => by omega))
  have J3 := Lib.hid (J2.out.upd k2 (fun h => by omega))
  have K3 := Lib.hid k1
  have U3 := Lib.hid (U2.out.trans k2 (fun _ h _ => h))
  obtain ⟨n1, hn1⟩ : ∃ n, n = beN (takeP 1 (shortP lk ys).2.1 (shortP lk ys).2.2).1 := ⟨_, rfl⟩
  rw [← hn1] at hb1 hb2 ⊢
  have HN1 := Lib.hid hn1
  have i1 := I3.out.c1
  have f1 := I3.out.fr 1
  clear k1 k2 hn1
  go_wp2_with fail
  have I4 := Lib.hid (I3.out.set1 (.int .i64 n1))
  have hu := Upd.setCell (S := fun k => k = w.heap.size + 1) w2 (p := ⟨w.heap.size + 1, 1, none⟩) (.inl rfl) (.int .i64 n1)
  have J4 := Lib.hid (J3.out.upd hu (fun h => by omega))
  have K4 := Lib.hid (K3.out.step hu (fun k hk => by omega))
  have U4 := Lib.hid (U3.out.trans hu (fun i hi hlt => by omega))
  clear hu i1 f1
  refine (cTakeNumbers _ _ _ _ _ _ K4.out).mono ?_
  rintro e w3 ⟨r, rfl, k1, k2, k3, k4⟩
  obtain ⟨pa, pc, rfl⟩ := ownsRow_slice k3.1
  have I5 := Lib.hid (I4.out.upd k2 (fun h => by omega))
  have J5 := Lib.hid (J4.out.upd k2 (fun h => by omega))
  have K5 := Lib.hid k1
  have U5 := Lib.hid (U4.out.trans k2 (fun _ h _ => h))
  have P5 := Lib.hid k3
  have F5 := Lib.hid k4
  have i2 := I5.out.c2
  have f2 := I5.out.fr 2
  clear k1 k2 k3 k4
  go_wp2_with fail
  have I6 := Lib.hid (I5.out.set2 (.slice pa (impP lk ys).1.params.length pc))
  have hu := Upd.setCell (S := fun k => k = w.heap.size + 1) w3 (p := ⟨w.heap.size + 1, 2, none⟩) (.inl rfl) (.slice pa (impP lk ys).1.params.length pc)
  have J6 := Lib.hid (J5.out.upd hu (fun h => by omega))
  have K6 := Lib.hid (K5.out.step hu (fun k hk => by omega))
  have U6 := Lib.hid (U5.out.trans hu (fun i hi hlt => by omega))
  have hne := row_blk P5.out.1 I5.out (by decide)
  have P6 := Lib.hid (P5.out.upd hu (fun k hk hk2 => hne (by rw [hk, hk2])))
  clear hu i2 f2 hne
  refine (eU8 K6.out).mono ?_
  rintro e w4 ⟨rfl, k1, k2, hb3, hb4⟩
  have I7 := Lib.hid (I6.out.upd k2 (fun h => by omega))
  have J7 := Lib.hid (J6.out.upd k2 (fun h => by omega))
  have K7 := Lib.hid k1
  have U7 := Lib.hid (U6.out.trans k2 (fun _ h _ => h))
  have hle := U4.out.size
  have P7 := Lib.hid (P6.out.upd k2 (fun k hk hk2 => by have := F5.out k hk; omega))
  obtain ⟨n2, hn2⟩ : ∃ n, n = beN (takeP 1 (shortP (takeP 1 (shortP lk ys).2.1 (shortP lk ys).2.2).2.1 (takeP 1 (shortP lk ys).2.1 (shortP lk ys).2.2).2.2).2.1 (shortP (takeP 1 (shortP lk ys).2.1 (shortP lk ys).2.2).2.1 (takeP 1 (shortP lk ys).2.1 (shortP lk ys).2.2).2.2).2.2).1 := ⟨_, rfl⟩
  rw [← hn2] at hb3 hb4 ⊢
  have HN2 := Lib.hid hn2
  have i0 := I7.out.c0
  have i1 := I7.out.c1
  have i2 := I7.out.c2
  have i3 := I7.out.c3
  have f3 := I7.out.fr 3
  have j0 := J7.out.c0
  have j1 := J7.out.c1
  have j2 := J7.out.c2
  have j3 := J7.out.c3
  have g0 := J7.out.fr 0
  have g1 := J7.out.fr 1
  have g2 := J7.out.fr 2
  have g3 := J7.out.fr 3
  clear k1 k2 hn2
  go_wp2_with fail
  have hu := Upd.setCell (S := fun k => k = w.heap.size + 1) w4 (p := ⟨w.heap.size + 1, 3, none⟩) (.inl rfl) (.int .i64 n2)
  have J8 := J7.out.upd hu (fun h => by omega)
  have K8 := K7.out.step hu (fun k hk => by omega)
  have U8 := U7.out.trans hu (fun i hi hlt => by omega)
  have hne := row_blk P7.out.1 (I7.out) (by decide)
  have P8 := P7.out.upd hu (fun k hk hk2 => hne (by rw [hk, hk2]))
  obtain ⟨J9, V9⟩ := fin4 J8 (.string nm) (.int .i64 n1) (.slice pa (impP lk ys).1.params.length pc) (.int .i64 n2)
  have K9 := K8.step V9 (fun k hk => by omega)
  have U9 := U8.trans V9 (fun i hi hlt => by omega)
  have hne2 := row_blk P8.1 J8 (by decide)
  have P9 := P8.upd V9 (fun k hk hk2 => hne2 (by rw [hk, hk2]))
  have j0 := J9.c0
  have j1 := J9.c1
  have j2 := J9.c2
  have j3 := J9.c3
  refine bodyPost_ret (v := imp4 nm n1 (.slice pa (impP lk ys).1.params.length pc) n2) (by simp only [results, Tryd.f104]; simp [go_sem, j0, j1, j2, j3]) rfl ?_
  refine ⟨_, ?_, K9, U9, P9, ?_, ?_, ?_, ?_⟩
  · rw [HNM.out, HN1.out, HN2.out]; rfl
  · intro k hk
    have := F5.out k hk
    have := U4.out.size
    omega
  · rw [show (impP lk ys).1.exp = n1 from HN1.out.symm]; exact ⟨hb1, hb2⟩
  · rw [show (impP lk ys).1.res = n2 from HN2.out.symm]; exact ⟨hb3, hb4⟩
  · show (strOfNums (shortP lk ys).1).size ≤ 255
    rw [strOfNums_size]
    exact HLn.out
end Go.Proofs.YthnjlopfmakdmaaDoor

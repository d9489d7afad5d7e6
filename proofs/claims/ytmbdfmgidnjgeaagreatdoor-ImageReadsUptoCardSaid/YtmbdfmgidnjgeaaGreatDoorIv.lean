/- Package image's Read: an import, a method, taken. Package image's Read: a method, taken. -/
import Derived.Test.YtmbdfmgidnjgeaaGreatDoorIt
import Derived.Test.YtmbdfmgidnjgeaaGreatDoorCk
namespace Go.Proofs.YtmbdfmgidnjgeaaGreatDoor
section
open Go.RowKit Go.Lib
set_option linter.unusedVariables false

/-- four cells in a block -/
def Is4 (t : TypeId) (w : World) (b : Nat) (x y z u : Value) : Prop := w.heap[b]? = some (.cells #[x, y, z, u] t (0, 0))
section
variable {t : TypeId} {w w' : World} {b : Nat} {x y z u : Value}
theorem is4_new (t : TypeId) (w : World) (x y z u : Value) : Is4 t (w.alloc (.cells #[x, y, z, u] t)) w.heap.size x y z u := by
  show (w.heap.push _)[w.heap.size]? = _
  simp
theorem Is4.c0 (h : Is4 t w b x y z u) : w.cell? ⟨b, 0, none⟩ = some x := by unfold Is4 at h; simp [World.cell?, h]
theorem Is4.c1 (h : Is4 t w b x y z u) : w.cell? ⟨b, 1, none⟩ = some y := by unfold Is4 at h; simp [World.cell?, h]
theorem Is4.c2 (h : Is4 t w b x y z u) : w.cell? ⟨b, 2, none⟩ = some z := by unfold Is4 at h; simp [World.cell?, h]
theorem Is4.c3 (h : Is4 t w b x y z u) : w.cell? ⟨b, 3, none⟩ = some u := by unfold Is4 at h; simp [World.cell?, h]
theorem Is4.fr (h : Is4 t w b x y z u) (o : Nat) : w.frozen? ⟨b, o, none⟩ = false := by unfold Is4 at h; simp [World.frozen?, h]
theorem Is4.lt (h : Is4 t w b x y z u) : b < w.heap.size := (Array.getElem?_eq_some_iff.1 h).1
theorem Is4.upd {S : Nat → Prop} (h : Is4 t w b x y z u) (hu : Upd S w w') (hS : ¬ S b) : Is4 t w' b x y z u := (hu.block b h.lt hS).trans h
theorem Is4.set0 (h : Is4 t w b x y z u) (v : Value) : Is4 t (w.setCell ⟨b, 0, none⟩ v) b v y z u := by unfold Is4 at *; simp [World.setCell, Array.getElem?_modify, h]
theorem Is4.set1 (h : Is4 t w b x y z u) (v : Value) : Is4 t (w.setCell ⟨b, 1, none⟩ v) b x v z u := by unfold Is4 at *; simp [World.setCell, Array.getElem?_modify, h]
theorem Is4.set2 (h : Is4 t w b x y z u) (v : Value) : Is4 t (w.setCell ⟨b, 2, none⟩ v) b x y v u := by unfold Is4 at *; simp [World.setCell, Array.getElem?_modify, h]
theorem Is4.set3 (h : Is4 t w b x y z u) (v : Value) : Is4 t (w.setCell ⟨b, 3, none⟩ v) b x y z v := by unfold Is4 at *; simp [World.setCell, Array.getElem?_modify, h]
end

/-- four stores into a block -/
theorem fin4 {t : TypeId} {w : World} {b : Nat} {x y z u : Value} (h : Is4 t w b x y z u) (u0 u1 u2 u3 : Value) :
    Is4 t ((((w.setCell ⟨b, 0, none⟩ u0).setCell ⟨b, 1, none⟩ u1).setCell ⟨b, 2, none⟩ u2).setCell ⟨b, 3, none⟩ u3) b u0 u1 u2 u3 ∧ Upd (fun k => k = b) w ((((w.setCell ⟨b, 0, none⟩ u0).setCell ⟨b, 1, none⟩ u1).setCell ⟨b, 2, none⟩ u2).setCell ⟨b, 3, none⟩ u3) :=
  ⟨(((h.set0 u0).set1 u1).set2 u2).set3 u3, (((Upd.setCell (S := fun k => k = b) w (.inl rfl) _).trans (Upd.setCell (S := fun k => k = b) _ (.inl rfl) _) (fun _ h _ => h)).trans (Upd.setCell (S := fun k => k = b) _ (.inl rfl) _) (fun _ h _ => h)).trans (Upd.setCell (S := fun k => k = b) _ (.inl rfl) _) (fun _ h _ => h)⟩
/-- an import, taken; whether it lacks then; what is left -/
def impP (lk : Bool) (ys : List Int) : ImpM × Bool × List Int :=
  let a := shortP lk ys
  let b := takeP 1 a.2.1 a.2.2
  let c := shortP b.2.1 b.2.2
  let d := takeP 1 c.2.1 c.2.2
  (⟨strOfNums a.1, beN b.1, c.1, beN d.1⟩, d.2)

set_option maxRecDepth 100000 in
set_option maxHeartbeats 2000000 in
theorem cTakeImport (W w : World) (b : Nat) (V : Value) (lk : Bool) (ys : List Int) (h : RdW 88 W w b V lk ys) :
    Calls Tryz.prog 50 #[.pointer (some ⟨b, 0, none⟩)] w fun e w' => ∃ r, e = .returned (imp4 (impP lk ys).1.name (impP lk ys).1.exp r (impP lk ys).1.res) ∧ RdW 88 W w' b V (impP lk ys).2.1 (impP lk ys).2.2 ∧ Upd (fun k => k = b) w w' ∧ NRow w' r (impP lk ys).1.params ∧ (∀ k, r.ownBlock = some k → w.heap.size ≤ k) ∧ (0 ≤ (impP lk ys).1.exp ∧ (impP lk ys).1.exp ≤ 255) ∧ (0 ≤ (impP lk ys).1.res ∧ (impP lk ys).1.res ≤ 255) ∧ (impP lk ys).1.name.size ≤ 255 := by
  have HA := Lib.hid ((Upd.alloc (fun _ => False) w (.cells #[.string { data := #[] }, .int .i64 0, .slice none 0 0, .int .i64 0] 49)).trans (Upd.alloc (fun _ => False) _ (.cells #[.string { data := #[] }, .int .i64 0, .slice none 0 0, .int .i64 0] 49)) (fun _ h _ => h))
  have HI := Lib.hid (is4_new 49 (w.alloc (.cells #[.string { data := #[] }, .int .i64 0, .slice none 0 0, .int .i64 0] 49)) (.string { data := #[] }) (.int .i64 0) (.slice none 0 0) (.int .i64 0))
  rw [show (w.alloc (.cells #[.string { data := #[] }, .int .i64 0, .slice none 0 0, .int .i64 0] 49)).heap.size = w.heap.size + 1 by simp] at HI
  have HJ := Lib.hid ((is4_new 49 w (.string { data := #[] }) (.int .i64 0) (.slice none 0 0) (.int .i64 0)).upd (Upd.alloc (fun _ => False) _ (.cells #[.string { data := #[] }, .int .i64 0, .slice none 0 0, .int .i64 0] 49)) (fun h => h))
  have HH := Lib.hid (h.mono HA.out)
  have hbw : b < w.heap.size := Nat.lt_of_lt_of_le h.lt h.size
  have hW := h.size
  have HLn := Lib.hid (show (shortP lk ys).1.length ≤ 255 by obtain ⟨_, v, h1, _⟩ := h; exact shortP_len h1.vw.1)
  clear h
  go_enter Tryz.func50, Tryz.ntmps50
  go_wp2_with fail
  refine (eShort HH.out).mono ?_
  rintro e w1 ⟨r, rfl, k1, k2, k3, -, k5⟩
  have hs := str3 (vw_of_row k3 k5)
  obtain ⟨ra, rc, rfl⟩ := ownsRow_slice k3
  have I1 := Lib.hid (HI.out.upd k2 (fun h => by omega))
  have J1 := Lib.hid (HJ.out.upd k2 (fun h => by omega))
  have K1 := Lib.hid k1
  have U1 := Lib.hid ((HA.out.mono (T := fun k => k = b) (fun _ h _ => h.elim)).trans k2 (fun _ h _ => h))
  obtain ⟨nm, hnm⟩ : ∃ nm, nm = strOfNums (shortP lk ys).1 := ⟨_, rfl⟩
  rw [← hnm] at hs
  have HNM := Lib.hid hnm
  have i0 := I1.out.c0
  have f0 := I1.out.fr 0
  clear k1 k2 k3 k5 hnm
  go_wp2_with fail
  have I2 := Lib.hid (I1.out.set0 (.string nm))
  have hu := Upd.setCell (S := fun k => k = w.heap.size + 1) w1 (p := ⟨w.heap.size + 1, 0, none⟩) (.inl rfl) (.string nm)
  have J2 := Lib.hid (J1.out.upd hu (fun h => by omega))
  have K2 := Lib.hid (K1.out.step hu (fun k hk => by omega))
  have U2 := Lib.hid (U1.out.trans hu (fun i hi hlt => by omega))
  clear hu i0 f0 hs
  refine (eU8 K2.out).mono ?_
  rintro e w2 ⟨rfl, k1, k2, hb1, hb2⟩
  have I3 := Lib.hid (I2.out.upd k2 (fun h => by omega))
  have J3 := Lib.hid (J2.out.upd k2 (fun h => by omega))
  have K3 := Lib.hid k1
  have U3 := Lib.hid (U2.out.trans k2 (fun _ h _ => h))
  obtain ⟨n1, hn1⟩ : ∃ n, n = beN (takeP 1 (shortP lk ys).2.1 (shortP lk ys).2.2).1 := ⟨_, rfl⟩
  rw [← hn1] at hb1 hb2 ⊢
  have HN1 := Lib.hid hn1
  have i1 := I3.out.c1
  have f1 := I3.out.fr 1
  clear k1 k2 hn1
  go_wp2_with fail
  have I4 := Lib.hid (I3.out.set1 (.int .i64 n1))
  have hu := Upd.setCell (S := fun k => k = w.heap.size + 1) w2 (p := ⟨w.heap.size + 1, 1, none⟩) (.inl rfl) (.int .i64 n1)
  have J4 := Lib.hid (J3.out.upd hu (fun h => by omega))
  have K4 := Lib.hid (K3.out.step hu (fun k hk => by omega))
  have U4 := Lib.hid (U3.out.trans hu (fun i hi hlt => by omega))
  clear hu i1 f1
  refine (cTakeNumbers _ _ _ _ _ _ K4.out).mono ?_
  rintro e w3 ⟨r, rfl, k1, k2, k3, k4⟩
  obtain ⟨pa, pc, rfl⟩ := ownsRow_slice k3.1
  have I5 := Lib.hid (I4.out.upd k2 (fun h => by omega))
  have J5 := Lib.hid (J4.out.upd k2 (fun h => by omega))
  have K5 := Lib.hid k1
  have U5 := Lib.hid (U4.out.trans k2 (fun _ h _ => h))
  have P5 := Lib.hid k3
  have F5 := Lib.hid k4
  have i2 := I5.out.c2
  have f2 := I5.out.fr 2
  clear k1 k2 k3 k4
  go_wp2_with fail
  have I6 := Lib.hid (I5.out.set2 (.slice pa (impP lk ys).1.params.length pc))
  have hu := Upd.setCell (S := fun k => k = w.heap.size + 1) w3 (p := ⟨w.heap.size + 1, 2, none⟩) (.inl rfl) (.slice pa (impP lk ys).1.params.length pc)
  have J6 := Lib.hid (J5.out.upd hu (fun h => by omega))
  have K6 := Lib.hid (K5.out.step hu (fun k hk => by omega))
  have U6 := Lib.hid (U5.out.trans hu (fun i hi hlt => by omega))
  have hne := row_blk P5.out.1 I5.out (by decide)
  have P6 := Lib.hid (P5.out.upd hu (fun k hk hk2 => hne (by rw [hk, hk2])))
  clear hu i2 f2 hne
  refine (eU8 K6.out).mono ?_
  rintro e w4 ⟨rfl, k1, k2, hb3, hb4⟩
  have I7 := Lib.hid (I6.out.upd k2 (fun h => by omega))
  have J7 := Lib.hid (J6.out.upd k2 (fun h => by omega))
  have K7 := Lib.hid k1
  have U7 := Lib.hid (U6.out.trans k2 (fun _ h _ => h))
  have hle := U4.out.size
  have P7 := Lib.hid (P6.out.upd k2 (fun k hk hk2 => by have := F5.out k hk; omega))
  obtain ⟨n2, hn2⟩ : ∃ n, n = beN (takeP 1 (shortP (takeP 1 (shortP lk ys).2.1 (shortP lk ys).2.2).2.1 (takeP 1 (shortP lk ys).2.1 (shortP lk ys).2.2).2.2).2.1 (shortP (takeP 1 (shortP lk ys).2.1 (shortP lk ys).2.2).2.1 (takeP 1 (shortP lk ys).2.1 (shortP lk ys).2.2).2.2).2.2).1 := ⟨_, rfl⟩
  rw [← hn2] at hb3 hb4 ⊢
  have HN2 := Lib.hid hn2
  have i0 := I7.out.c0
  have i1 := I7.out.c1
  have i2 := I7.out.c2
  have i3 := I7.out.c3
  have f3 := I7.out.fr 3
  have j0 := J7.out.c0
  have j1 := J7.out.c1
  have j2 := J7.out.c2
  have j3 := J7.out.c3
  have g0 := J7.out.fr 0
  have g1 := J7.out.fr 1
  have g2 := J7.out.fr 2
  have g3 := J7.out.fr 3
  clear k1 k2 hn2
  go_wp2_with fail
  have hu := Upd.setCell (S := fun k => k = w.heap.size + 1) w4 (p := ⟨w.heap.size + 1, 3, none⟩) (.inl rfl) (.int .i64 n2)
  have J8 := J7.out.upd hu (fun h => by omega)
  have K8 := K7.out.step hu (fun k hk => by omega)
  have U8 := U7.out.trans hu (fun i hi hlt => by omega)
  have hne := row_blk P7.out.1 (I7.out) (by decide)
  have P8 := P7.out.upd hu (fun k hk hk2 => hne (by rw [hk, hk2]))
  obtain ⟨J9, V9⟩ := fin4 J8 (.string nm) (.int .i64 n1) (.slice pa (impP lk ys).1.params.length pc) (.int .i64 n2)
  have K9 := K8.step V9 (fun k hk => by omega)
  have U9 := U8.trans V9 (fun i hi hlt => by omega)
  have hne2 := row_blk P8.1 J8 (by decide)
  have P9 := P8.upd V9 (fun k hk hk2 => hne2 (by rw [hk, hk2]))
  have j0 := J9.c0
  have j1 := J9.c1
  have j2 := J9.c2
  have j3 := J9.c3
  refine bodyPost_ret (v := imp4 nm n1 (.slice pa (impP lk ys).1.params.length pc) n2) (by simp only [results, Tryz.f50]; simp [go_sem, j0, j1, j2, j3]) rfl ?_
  refine ⟨_, ?_, K9, U9, P9, ?_, ?_, ?_, ?_⟩
  · rw [HNM.out, HN1.out, HN2.out]; rfl
  · intro k hk
    have := F5.out k hk
    have := U4.out.size
    omega
  · rw [show (impP lk ys).1.exp = n1 from HN1.out.symm]; exact ⟨hb1, hb2⟩
  · rw [show (impP lk ys).1.res = n2 from HN2.out.symm]; exact ⟨hb3, hb4⟩
  · show (strOfNums (shortP lk ys).1).size ≤ 255
    rw [strOfNums_size]
    exact HLn.out
end

section
open Go.RowKit Go.Lib
set_option linter.unusedVariables false

/-- may it be an instruction? -/
def insR (i : InsM) : Bool := rightB i.op i.a i.b
theorem insR_wi {i : InsM} (h : insR i = true) : wi64 i.op ∧ wi64 i.a ∧ wi64 i.b := by
  unfold insR at h
  have h1 := (right_iff _ _ _).1 h
  obtain ⟨h1, h2, h3, h4, h5⟩ := h1
  have l : -2147483648 ≤ lowB i.op := by unfold lowB; repeat' split; all_goals omega
  have u : highB i.op ≤ 2147483647 := by unfold highB; repeat' split; all_goals omega
  unfold wi64
  omega
theorem flat_get {α : Type} [Inhabited α] (f : α → List Value) (sz : Nat) (d : Value) (hf : ∀ x, (f x).length = sz) : ∀ (L : List α) (i j : Nat), i < L.length → j < sz → (L.flatMap f).getD (i * sz + j) d = (f (L.getD i default)).getD j d
  | [], i, j, hi, _ => by simp at hi
  | x :: r, 0, j, _, hj => by
    simp [List.getD, List.getElem?_append, hf, hj]
  | x :: r, i + 1, j, hi, hj => by
    have := flat_get f sz d hf r i j (by simpa using hi) hj
    rw [List.flatMap_cons, List.getD_eq_getElem?_getD, List.getElem?_append_right (by rw [hf, Nat.add_mul]; omega), hf, show (i + 1) * sz + j - sz = i * sz + j by rw [Nat.add_mul]; omega, ← List.getD_eq_getElem?_getD, this]
    simp [List.getD]
def icl (i : InsM) : List Value := [.int .i64 i.op, .int .i64 i.a, .int .i64 i.b]
/-- own instructions -/
def IRow (w : World) (v : Value) (L : List InsM) : Prop := w.ownsRow 0 55 3 v L.length (L.flatMap icl) ∧ ∀ i ∈ L, insR i = true
theorem IRow.inss {w : World} {v : Value} {L : List InsM} (h : IRow w v L) : Inss w v L := by
  refine ⟨(Sl.own h.1).congr (fun i hi j hj => ?_), fun x hx => insR_wi (h.2 x hx)⟩
  rw [flat_get icl 3 _ (fun _ => rfl) L i j hi hj]
  unfold insF icl
  match j, hj with
  | 0, _ => rfl
  | 1, _ => rfl
  | 2, _ => rfl
theorem IRow.upd {w w' : World} {v : Value} {L : List InsM} {S : Nat → Prop} (h : IRow w v L) (hu : Upd S w w') (hS : ∀ k, v.ownBlock = some k → ¬ S k) : IRow w' v L := ⟨ownsRow_upd h.1 hu hS, h.2⟩

/-- so many instructions, taken: the error, or 0; they; whether it lacks; what is left -/
def codeGo : Nat → Bool → List Int → Int × List InsM × Bool × List Int
  | 0, lk, ys => (0, [], lk, ys)
  | n + 1, lk, ys => if errI lk ys = 0 then ((codeGo n false (restI lk ys).2.2.2).1, ⟨opI lk ys, (restI lk ys).1, (restI lk ys).2.1⟩ :: (codeGo n false (restI lk ys).2.2.2).2.1, (codeGo n false (restI lk ys).2.2.2).2.2) else (errI lk ys, [], lk, ys)
/-- some are taken already -/
def pre {α β : Type} (L : List α) (r : Int × List α × β) : Int × List α × β := (r.1, L ++ r.2.1, r.2.2)
theorem pre_nil {α β : Type} (r : Int × List α × β) : pre [] r = r := rfl
theorem codeGo_step {n : Nat} {lk : Bool} {ys : List Int} (L : List InsM) (h : errI lk ys = 0) : pre L (codeGo (n + 1) lk ys) = pre (L ++ [⟨opI lk ys, (restI lk ys).1, (restI lk ys).2.1⟩]) (codeGo n false (restI lk ys).2.2.2) := by
  unfold pre
  rw [codeGo, if_pos h]
  simp
theorem codeGo_err {n : Nat} {lk : Bool} {ys : List Int} (L : List InsM) (h : errI lk ys ≠ 0) : (pre L (codeGo (n + 1) lk ys)).1 = errI lk ys := by
  unfold pre
  rw [codeGo, if_neg h]
/-- a method, taken -/
def metP (lk : Bool) (ys : List Int) : Int × MetM × Bool × List Int :=
  let a := shortP lk ys
  let b := takeP 1 a.2.1 a.2.2
  let c := shortP b.2.1 b.2.2
  let d := takeP 1 c.2.1 c.2.2
  let g := codeGo (beN d.1).toNat d.2.1 d.2.2
  (g.1, ⟨a.1, beN b.1, c.1, g.2.1⟩, g.2.2)
theorem err_right {lk : Bool} {ys : List Int} (h : errI lk ys = 0) : rightB (opI lk ys) (restI lk ys).1 (restI lk ys).2.1 = true := by
  unfold errI at h
  split at h
  · omega
  · split at h
    · split at h
      · assumption
      · omega
    · omega
/-- an instruction read beside what was turned -/
theorem eRead {W w : World} {b : Nat} {V : Value} {lk : Bool} {ys : List Int} (h : RdW 88 W w b V lk ys) :
    Calls Tryz.prog 86 #[.pointer (some ⟨b, 0, none⟩)] w fun e w' =>
      (errI lk ys ≠ 0 ∧ e = .returned (.tuple #[ins 0 0 0, .int .i64 (errI lk ys)]) ∧ Upd (fun _ => False) w w') ∨
      (errI lk ys = 0 ∧ e = .returned (.tuple #[ins (opI lk ys) (restI lk ys).1 (restI lk ys).2.1, .int .i64 0]) ∧ RdW 88 W w' b V false (restI lk ys).2.2.2 ∧ Upd (fun k => k = b) w w') := by
  obtain ⟨h0, v, h1, h2, h3⟩ := h
  refine (cRead w b v lk ys h1).mono fun e w' k => ?_
  rcases k with k | ⟨k1, k2, v', k3, k4, k5⟩
  · exact .inl k
  · exact .inr ⟨k1, k2, RdW.call h0 h2 h3 k3 k4 k5, k4⟩

/-- two boxes of four cells at the head of new memory, a reader of old, and what was turned of old memory: the reader alone -/
structure MB (tr t : TypeId) (W w wr : World) (b : Nat) (V : Value) (lk : Bool) (ys : List Int) (x0 y0 z0 u0 x y z u : Value) : Prop where
  I : Is4 t wr (w.heap.size + 1) x y z u
  J : Is4 t wr w.heap.size x0 y0 z0 u0
  K : RdW tr W wr b V lk ys
  U : Upd (fun k => k = b) w wr
  bl : b < w.heap.size
  Wl : W.heap.size ≤ w.heap.size
section
variable {tr t : TypeId} {W w wr w' : World} {b : Nat} {V : Value} {lk lk' : Bool} {ys ys' : List Int} {x0 y0 z0 u0 x y z u : Value}
theorem MB.start (h : RdW tr W w b V lk ys) : MB tr t W w ((w.alloc (.cells #[x0, y0, z0, u0] t)).alloc (.cells #[x0, y0, z0, u0] t)) b V lk ys x0 y0 z0 u0 x0 y0 z0 u0 := by
  have HA := (Upd.alloc (fun _ => False) w (.cells #[x0, y0, z0, u0] t)).trans (Upd.alloc (fun _ => False) _ (.cells #[x0, y0, z0, u0] t)) (fun _ h _ => h)
  have HI := is4_new t (w.alloc (.cells #[x0, y0, z0, u0] t)) x0 y0 z0 u0
  rw [show (w.alloc (.cells #[x0, y0, z0, u0] t)).heap.size = w.heap.size + 1 by simp] at HI
  exact ⟨HI, (is4_new t w x0 y0 z0 u0).upd (Upd.alloc (fun _ => False) _ _) (fun h => h), h.mono HA, HA.mono (fun _ h _ => h.elim), Nat.lt_of_lt_of_le h.lt h.size, h.size⟩
theorem MB.rd (h : MB tr t W w wr b V lk ys x0 y0 z0 u0 x y z u) (k1 : RdW tr W w' b V lk' ys') (k2 : Upd (fun k => k = b) wr w') : MB tr t W w w' b V lk' ys' x0 y0 z0 u0 x y z u :=
  ⟨h.I.upd k2 (fun e => by have := h.bl; omega), h.J.upd k2 (fun e => by have := h.bl; omega), k1, h.U.trans k2 (fun _ h _ => h), h.bl, h.Wl⟩
theorem MB.step {T : Nat → Prop} (h : MB tr t W w wr b V lk ys x0 y0 z0 u0 x y z u) (hu : Upd T wr w') (hT : ∀ k, T k → w.heap.size + 2 ≤ k) : MB tr t W w w' b V lk ys x0 y0 z0 u0 x y z u :=
  ⟨h.I.upd hu (fun e => by have := hT _ e; omega), h.J.upd hu (fun e => by have := hT _ e; omega), h.K.step hu (fun k hk => by have := hT k hk; have := h.Wl; omega), h.U.trans hu (fun i hi hlt => by have := hT i hi; omega), h.bl, h.Wl⟩
theorem MB.mono (h : MB tr t W w wr b V lk ys x0 y0 z0 u0 x y z u) (hu : Upd (fun _ => False) wr w') : MB tr t W w w' b V lk ys x0 y0 z0 u0 x y z u := h.step hu (fun _ h => h.elim)
theorem box_upd (wr : World) (n j : Nat) (v : Value) : Upd (fun k => k = n) wr (wr.setCell ⟨n, j, none⟩ v) := Upd.setCell (S := fun k => k = n) wr (p := ⟨n, j, none⟩) (.inl rfl) v
theorem MB.boxed (h : MB tr t W w wr b V lk ys x0 y0 z0 u0 x y z u) {x' y' z' u' : Value} (hI : Is4 t w' (w.heap.size + 1) x' y' z' u') (hu : Upd (fun k => k = w.heap.size + 1) wr w') : MB tr t W w w' b V lk ys x0 y0 z0 u0 x' y' z' u' :=
  ⟨hI, h.J.upd hu (fun e => by omega), h.K.step hu (fun k hk => by have := h.Wl; omega), h.U.trans hu (fun i hi hlt => by omega), h.bl, h.Wl⟩
theorem MB.set0 (h : MB tr t W w wr b V lk ys x0 y0 z0 u0 x y z u) (v : Value) : MB tr t W w (wr.setCell ⟨w.heap.size + 1, 0, none⟩ v) b V lk ys x0 y0 z0 u0 v y z u := h.boxed (h.I.set0 v) (box_upd _ _ _ _)
theorem MB.set1 (h : MB tr t W w wr b V lk ys x0 y0 z0 u0 x y z u) (v : Value) : MB tr t W w (wr.setCell ⟨w.heap.size + 1, 1, none⟩ v) b V lk ys x0 y0 z0 u0 x v z u := h.boxed (h.I.set1 v) (box_upd _ _ _ _)
theorem MB.set2 (h : MB tr t W w wr b V lk ys x0 y0 z0 u0 x y z u) (v : Value) : MB tr t W w (wr.setCell ⟨w.heap.size + 1, 2, none⟩ v) b V lk ys x0 y0 z0 u0 x y v u := h.boxed (h.I.set2 v) (box_upd _ _ _ _)
theorem MB.set3 (h : MB tr t W w wr b V lk ys x0 y0 z0 u0 x y z u) (v : Value) : MB tr t W w (wr.setCell ⟨w.heap.size + 1, 3, none⟩ v) b V lk ys x0 y0 z0 u0 x y z v := h.boxed (h.I.set3 v) (box_upd _ _ _ _)
/-- the result's box -/
theorem MB.fin (h : MB tr t W w wr b V lk ys x0 y0 z0 u0 x y z u) (v0 v1 v2 v3 : Value) : MB tr t W w ((((wr.setCell ⟨w.heap.size, 0, none⟩ v0).setCell ⟨w.heap.size, 1, none⟩ v1).setCell ⟨w.heap.size, 2, none⟩ v2).setCell ⟨w.heap.size, 3, none⟩ v3) b V lk ys v0 v1 v2 v3 x y z u ∧ Upd (fun k => k = w.heap.size) wr ((((wr.setCell ⟨w.heap.size, 0, none⟩ v0).setCell ⟨w.heap.size, 1, none⟩ v1).setCell ⟨w.heap.size, 2, none⟩ v2).setCell ⟨w.heap.size, 3, none⟩ v3) := by
  obtain ⟨h1, h2⟩ := fin4 h.J v0 v1 v2 v3
  exact ⟨⟨h.I.upd h2 (fun e => by omega), h1, h.K.step h2 (fun k hk => by have := h.Wl; omega), h.U.trans h2 (fun i hi hlt => by omega), h.bl, h.Wl⟩, h2⟩
theorem MB.size (h : MB tr t W w wr b V lk ys x0 y0 z0 u0 x y z u) : w.heap.size + 2 ≤ wr.heap.size := h.I.lt
end
/-- numbers in new memory, behind the boxes -/
structure NNew (w wr : World) (v : Value) (L : List Int) : Prop where
  row : NRow wr v L
  new : ∀ k, v.ownBlock = some k → w.heap.size + 2 ≤ k
theorem NNew.stay {w wr w' : World} {v : Value} {L : List Int} {T : Nat → Prop} (h : NNew w wr v L) (hu : Upd T wr w') (hT : ∀ k, T k → k < w.heap.size + 2) : NNew w w' v L :=
  ⟨h.row.upd hu (fun k hk hTk => by have := h.new k hk; have := hT k hTk; omega), h.new⟩
theorem NNew.mono {w wr w' : World} {v : Value} {L : List Int} (h : NNew w wr v L) (hu : Upd (fun _ => False) wr w') : NNew w w' v L := h.stay hu (fun _ h => h.elim)
theorem NNew.apart {w wr w' : World} {v v' : Value} {L : List Int} {base : Nat} {e : TypeId} {sz n : Nat} {xs : List Value} (h : NNew w wr v L) (hr : wr.ownsRow base e sz v' n xs) (he : 3 ≠ e) (hu : Upd (fun k => v'.ownBlock = some k) wr w') : NNew w w' v L :=
  ⟨h.row.upd hu (fun k hk => row_ne h.row.1 hr he k hk), h.new⟩

/-- what a method's taking answers -/
structure MetAns (W w : World) (b : Nat) (V : Value) (m : MetM) (lk : Bool) (ys : List Int) (x : Value) (w' : World) : Prop where
  rd : RdW 88 W w' b V lk ys
  upd : Upd (fun k => k = b) w w'
  ex : ∃ p q r, x = met4 p m.res q r ∧ NRow w' p m.params ∧ NRow w' q m.locals ∧ IRow w' r m.code ∧ (∀ k, p.ownBlock = some k → w.heap.size ≤ k) ∧ (∀ k, q.ownBlock = some k → w.heap.size ≤ k) ∧ (∀ k, r.ownBlock = some k → w.heap.size ≤ k)
  res : 0 ≤ m.res ∧ m.res ≤ 255

set_option maxRecDepth 100000 in
set_option maxHeartbeats 4000000 in
theorem cTakeMethod (W w : World) (b : Nat) (V : Value) (lk : Bool) (ys : List Int) (h : RdW 88 W w b V lk ys) :
    Calls Tryz.prog 51 #[.pointer (some ⟨b, 0, none⟩)] w fun e w' =>
      ((metP lk ys).1 ≠ 0 ∧ e = .returned (.tuple #[met4 (.slice none 0 0) 0 (.slice none 0 0) (.slice none 0 0), .int .i64 (metP lk ys).1]) ∧ Upd (fun k => k = b) w w') ∨
      ((metP lk ys).1 = 0 ∧ ∃ x, e = .returned (.tuple #[x, .int .i64 0]) ∧ MetAns W w b V (metP lk ys).2.1 (metP lk ys).2.2.1 (metP lk ys).2.2.2 x w') := by
  obtain ⟨i0, hi, hz0, hz1, hz2⟩ := info_parts infoIns
  obtain ⟨A, hA⟩ : ∃ A, A = shortP lk ys := ⟨_, rfl⟩
  obtain ⟨B, hB⟩ : ∃ B, B = takeP 1 A.2.1 A.2.2 := ⟨_, rfl⟩
  obtain ⟨C, hC⟩ : ∃ C, C = shortP B.2.1 B.2.2 := ⟨_, rfl⟩
  obtain ⟨D, hD⟩ : ∃ D, D = takeP 1 C.2.1 C.2.2 := ⟨_, rfl⟩
  have HP := Lib.hid (show metP lk ys = ((codeGo (beN D.1).toNat D.2.1 D.2.2).1, ⟨A.1, beN B.1, C.1, (codeGo (beN D.1).toNat D.2.1 D.2.2).2.1⟩, (codeGo (beN D.1).toNat D.2.1 D.2.2).2.2) by rw [hD, hC, hB, hA]; rfl)
  have HEA := Lib.hid hA
  have HEB := Lib.hid hB
  have HEC := Lib.hid hC
  have HED := Lib.hid hD
  have H0 := Lib.hid (MB.start (t := 52) (x0 := .slice none 0 0) (y0 := .int .i64 0) (z0 := .slice none 0 0) (u0 := .slice none 0 0) h)
  clear h hA hB hC hD
  go_enter Tryz.func51, Tryz.ntmps51
  go_wp2_with fail
  refine (cTakeNumbers _ _ _ _ _ _ H0.out.K).mono ?_
  rw [← HEA.out]
  rintro e w1 ⟨p, rfl, k1, k2, k3, k4⟩
  obtain ⟨pa, pc, rfl⟩ := ownsRow_slice k3.1
  have H1 := Lib.hid (H0.out.rd k1 k2)
  have P1 : Hid (NNew w w1 (.slice pa A.1.length pc) A.1) := Lib.hid ⟨k3, fun k hk => by have := k4 k hk; simp at this; omega⟩
  have c0 := H1.out.I.c0
  have f0 := H1.out.I.fr 0
  clear k1 k2 k3 k4
  go_wp2_with fail
  have H2 := Lib.hid (H1.out.set0 (.slice pa A.1.length pc))
  have P2 := Lib.hid (P1.out.stay (box_upd w1 (w.heap.size + 1) 0 (.slice pa A.1.length pc)) (fun k hk => by omega))
  clear c0 f0
  refine (eU8 H2.out.K).mono ?_
  rw [← HEB.out]
  rintro e w2 ⟨rfl, k1, k2, hb1, hb2⟩
  have H3 := Lib.hid (H2.out.rd k1 k2)
  have hbl := H2.out.bl
  have P3 := Lib.hid (P2.out.stay k2 (fun k hk => by omega))
  have HB1 := Lib.hid hb1
  have HB2 := Lib.hid hb2
  have c1 := H3.out.I.c1
  have f1 := H3.out.I.fr 1
  clear k1 k2 hb1 hb2
  go_wp2_with fail
  have H4 := Lib.hid (H3.out.set1 (.int .i64 (beN B.1)))
  have P4 := Lib.hid (P3.out.stay (box_upd w2 (w.heap.size + 1) 1 (.int .i64 (beN B.1))) (fun k hk => by omega))
  clear c1 f1
  refine (cTakeNumbers _ _ _ _ _ _ H4.out.K).mono ?_
  rw [← HEC.out]
  rintro e w3 ⟨q, rfl, k1, k2, k3, k4⟩
  obtain ⟨qa, qc, rfl⟩ := ownsRow_slice k3.1
  have H5 := Lib.hid (H4.out.rd k1 k2)
  have P5 := Lib.hid (P4.out.stay k2 (fun k hk => by omega))
  have hs4 := H4.out.size
  have Q5 : Hid (NNew w w3 (.slice qa C.1.length qc) C.1) := Lib.hid ⟨k3, fun k hk => by have := k4 k hk; omega⟩
  have c2 := H5.out.I.c2
  have f2 := H5.out.I.fr 2
  clear k1 k2 k3 k4
  go_wp2_with fail
  have H6 := Lib.hid (H5.out.set2 (.slice qa C.1.length qc))
  have P6 := Lib.hid (P5.out.stay (box_upd w3 (w.heap.size + 1) 2 (.slice qa C.1.length qc)) (fun k hk => by omega))
  have Q6 := Lib.hid (Q5.out.stay (box_upd w3 (w.heap.size + 1) 2 (.slice qa C.1.length qc)) (fun k hk => by omega))
  clear c2 f2
  refine (eU8 H6.out.K).mono ?_
  rw [← HED.out]
  rintro e w4 ⟨rfl, k1, k2, hb3, hb4⟩
  have H7 := Lib.hid (H6.out.rd k1 k2)
  have P7 := Lib.hid (P6.out.stay k2 (fun k hk => by omega))
  have Q7 := Lib.hid (Q6.out.stay k2 (fun k hk => by omega))
  obtain ⟨N, hN⟩ : ∃ N : Nat, beN D.1 = N := ⟨(beN D.1).toNat, by omega⟩
  rw [hN] at hb4 ⊢
  have HP2 : Hid (metP lk ys = ((pre [] (codeGo N D.2.1 D.2.2)).1, ⟨A.1, beN B.1, C.1, (pre [] (codeGo N D.2.1 D.2.2)).2.1⟩, (pre [] (codeGo N D.2.1 D.2.2)).2.2)) := Lib.hid (by rw [pre_nil, HP.out, hN]; rfl)
  have HNL := Lib.hid (show N ≤ 255 by omega)
  have R7 : Hid (IRow w4 (.slice none 0 0) []) := Lib.hid ⟨World.ownsRow_nil _ _ _ _, by simp⟩
  have F7 : Hid (∀ k, (Value.slice none 0 0).ownBlock = some k → w.heap.size + 2 ≤ k) := Lib.hid (by simp [Value.ownBlock])
  clear k1 k2 hb3 hb4 hN HP H0 H1 H2 H3 H4 H5 H6 P1 P2 P3 P4 P5 P6 Q5 Q6 hs4
  go_wp2_with fail
  have HL0 : Hid (([] : List InsM).length = 0) := Lib.hid rfl
  go_loopw [19, 5, 6] (fun i _ _ wr => ∃ (k m : Nat) (lk' : Bool) (ys' : List Int) (L : List InsM) (ra : Option Addr) (rc : Nat), k + m ≤ N ∧ N ≤ k + m ∧ i = .int .i64 k ∧ Hid (L.length = k) ∧
    Hid (MB 88 52 W w wr b V lk' ys' (.slice none 0 0) (.int .i64 0) (.slice none 0 0) (.slice none 0 0) (.slice pa A.1.length pc) (.int .i64 (beN B.1)) (.slice qa C.1.length qc) (.slice ra k rc)) ∧
    Hid (NNew w wr (.slice pa A.1.length pc) A.1) ∧ Hid (NNew w wr (.slice qa C.1.length qc) C.1) ∧ Hid (IRow wr (.slice ra k rc) L) ∧ Hid (∀ k', (Value.slice ra k rc).ownBlock = some k' → w.heap.size + 2 ≤ k') ∧
    Hid (metP lk ys = ((pre L (codeGo m lk' ys')).1, ⟨A.1, beN B.1, C.1, (pre L (codeGo m lk' ys')).2.1⟩, (pre L (codeGo m lk' ys')).2.2))) (fun i _ _ _ => N - (intOf i).toNat)
  case atStart => exact ⟨0, N, D.2.1, D.2.2, [], none, 0, by omega, by omega, rfl, HL0, H7, P7, Q7, R7, F7, HP2⟩
  case round =>
    obtain ⟨k, m, lk', ys', L, ra, rc, hm1, hm2, rfl, HLL, HM, HPV, HQV, HR, HF, HPP⟩ := hrel
    by_cases hlt : k < N
    · obtain ⟨m', rfl⟩ : ∃ m', m = m' + 1 := ⟨m - 1, by omega⟩
      go_wp2_with fail
      refine (eRead HM.out.K).mono ?_
      rintro e w5 (⟨he, rfl, hu⟩ | ⟨he, rfl, k1, k2⟩)
      · have HE := Lib.hid (show (metP lk ys).1 = errI lk' ys' by rw [HPP.out]; exact codeGo_err L he)
        have hb : (errI lk' ys' == 0) = false := beq_eq_false_iff_ne.2 he
        have hb' : (errI lk' ys' != 0) = true := by simp [bne, hb]
        have HNE := Lib.hid he
        have H8 := Lib.hid (HM.out.mono hu)
        have H9 := Lib.hid (H8.out.mono (Upd.alloc _ w5 (.cells #[.int .i64 0, .int .i64 0, .int .i64 0] 55)))
        have j0 := H9.out.J.c0
        have j1 := H9.out.J.c1
        have j2 := H9.out.J.c2
        have j3 := H9.out.J.c3
        have g0 := H9.out.J.fr 0
        have g1 := H9.out.J.fr 1
        have g2 := H9.out.J.fr 2
        have g3 := H9.out.J.fr 3
        clear he hu
        go_wp2_with fail
        obtain ⟨HF1, HF2⟩ := H9.out.fin (.slice none 0 0) (.int .i64 0) (.slice none 0 0) (.slice none 0 0)
        have j0 := HF1.J.c0
        have j1 := HF1.J.c1
        have j2 := HF1.J.c2
        have j3 := HF1.J.c3
        refine bodyPost_ret (v := .tuple #[met4 (.slice none 0 0) 0 (.slice none 0 0) (.slice none 0 0), .int .i64 (errI lk' ys')]) (by simp only [results, Tryz.f51]; simp [go_sem, j0, j1, j2, j3]) rfl ?_
        exact .inl ⟨by rw [HE.out]; exact HNE.out, by rw [HE.out], HF1.U⟩
      · have HE := Lib.hid he
        have HM5 := Lib.hid (HM.out.rd k1 k2)
        have hbl := HM.out.bl
        have HP5 := Lib.hid (HPV.out.stay k2 (fun k hk => by omega))
        have HQ5 := Lib.hid (HQV.out.stay k2 (fun k hk => by omega))
        have HR5 := Lib.hid (HR.out.upd k2 (fun k hk hk2 => by have := HF.out k hk; omega))
        obtain ⟨n, hn⟩ : ∃ n : InsM, n = ⟨opI lk' ys', (restI lk' ys').1, (restI lk' ys').2.1⟩ := ⟨_, rfl⟩
        have HN := Lib.hid hn
        have HNR := Lib.hid (show insR n = true by rw [hn]; exact err_right he)
        rw [show ins (opI lk' ys') (restI lk' ys').1 (restI lk' ys').2.1 = ins n.op n.a n.b by rw [hn]]
        have HPS := Lib.hid (codeGo_step (n := m') L he)
        rw [← hn] at HPS
        have ha := Upd.alloc (fun _ => False) w5 (.cells #[.int .i64 n.op, .int .i64 n.a, .int .i64 n.b] 55)
        have HM6 := Lib.hid (HM5.out.mono ha)
        have HP6 := Lib.hid (HP5.out.mono ha)
        have HQ6 := Lib.hid (HQ5.out.mono ha)
        have hr6 := HR5.out.upd ha (fun _ _ h => h)
        have HR6 := Lib.hid hr6
        have hown := hr6.1
        rw [HLL.out] at hown
        have HOWN := Lib.hid hown
        have c3 := HM5.out.I.c3
        have c3' := HM6.out.I.c3
        have hNL := HNL.out
        have hlt5 := HM5.out.size
        have HSRC := Lib.hid (srcAt (w5.alloc (.cells #[.int .i64 n.op, .int .i64 n.a, .int .i64 n.b] 55)) 55 #[.int .i64 n.op, .int .i64 n.a, .int .i64 n.b] (icl n) rfl 3 (by simp [icl, Value.oneCell']) 1 1 (w5.heap.size + 1) (by simp) rfl)
        clear he k1 k2 hn ha hr6 hown
        go_wp2_with (at_builtin; go_loud (refine wpList_append_mine _ rfl _ _ 50 rfl 0 55 i0 (.agg #[.int .i64 0, .int .i64 0, .int .i64 0]) 3 24 Tryz.underlying50 hi hz0 hz1 hz2 rfl (by decide) (.slice ra k rc) k (L.flatMap icl) rfl (HOWN.out.alloc _) 1 (icl n) HSRC.out (by unfold maxLen; omega) (by omega) (Nat.zero_le _) ?_))
        intro v' w7 ho hg hf
        have hu7 := Upd.row (Upd.alloc _ (w5.alloc (.cells #[.int .i64 n.op, .int .i64 n.a, .int .i64 n.b] 55)) _) hg
        obtain ⟨va, vc, rfl⟩ := ownsRow_slice ho
        have hF7 : ∀ j, (Value.slice va (k + 1) vc).ownBlock = some j → w.heap.size + 2 ≤ j := fun j hj => by
          rcases hf j hj with h | h
          · exact HF.out j h
          · simp at h; omega
        have HM7 := Lib.hid (HM6.out.step hu7 (fun j hj => HF.out j hj))
        have HP7 := Lib.hid (HP6.out.apart HOWN.out (by decide) hu7)
        have HQ7 := Lib.hid (HQ6.out.apart HOWN.out (by decide) hu7)
        have hR7 : IRow w7 (.slice va (k + 1) vc) (L ++ [n]) := ⟨by
          rw [List.length_append, HLL.out, List.flatMap_append]
          simpa using ho, fun i hi => by
          rcases List.mem_append.1 hi with h | h
          · exact HR.out.2 i h
          · simp at h; rw [h]; exact HNR.out⟩
        have HR8 := Lib.hid (hR7.upd (box_upd w7 (w.heap.size + 1) 3 (.slice va (k + 1) vc)) (fun j hj hj2 => by have := hF7 j hj; omega))
        have HM8 := Lib.hid (HM7.out.set3 (.slice va (k + 1) vc))
        have HP8 := Lib.hid (HP7.out.stay (box_upd w7 (w.heap.size + 1) 3 (.slice va (k + 1) vc)) (fun j hj => by omega))
        have HQ8 := Lib.hid (HQ7.out.stay (box_upd w7 (w.heap.size + 1) 3 (.slice va (k + 1) vc)) (fun j hj => by omega))
        have HF8 := Lib.hid hF7
        have HL8 : Hid ((L ++ [n]).length = k + 1) := Lib.hid (by rw [List.length_append, HLL.out]; rfl)
        have HPP8 : Hid (metP lk ys = ((pre (L ++ [n]) (codeGo m' false (restI lk' ys').2.2.2)).1, ⟨A.1, beN B.1, C.1, (pre (L ++ [n]) (codeGo m' false (restI lk' ys').2.2.2)).2.1⟩, (pre (L ++ [n]) (codeGo m' false (restI lk' ys').2.2.2)).2.2)) := Lib.hid (by rw [HPP.out, HPS.out])
        have c3 := HM7.out.I.c3
        have f3 := HM7.out.I.fr 3
        clear ho hg hf hu7 hF7 hR7 c3'
        go_wp2_with fail
        go_roundw
        case rel => exact ⟨k + 1, m', _, _, _, va, vc, by omega, by omega, by go_num, HL8, HM8, HP8, HQ8, HR8, HF8, HPP8⟩
        case measure => simp [intOf]; omega
    · obtain rfl : m = 0 := by omega
      have i0 := HM.out.I.c0
      have i1 := HM.out.I.c1
      have i2 := HM.out.I.c2
      have i3 := HM.out.I.c3
      have j0 := HM.out.J.c0
      have j1 := HM.out.J.c1
      have j2 := HM.out.J.c2
      have j3 := HM.out.J.c3
      have g0 := HM.out.J.fr 0
      have g1 := HM.out.J.fr 1
      have g2 := HM.out.J.fr 2
      have g3 := HM.out.J.fr 3
      go_wp2_with fail
      obtain ⟨HF1, HF2⟩ := HM.out.fin (.slice pa A.1.length pc) (.int .i64 (beN B.1)) (.slice qa C.1.length qc) (.slice ra k rc)
      have j0 := HF1.J.c0
      have j1 := HF1.J.c1
      have j2 := HF1.J.c2
      have j3 := HF1.J.c3
      refine bodyPost_ret (v := .tuple #[met4 (.slice pa A.1.length pc) (beN B.1) (.slice qa C.1.length qc) (.slice ra k rc), .int .i64 0]) (by simp only [results, Tryz.f51]; simp [go_sem, j0, j1, j2, j3]) rfl ?_
      have e1 : metP lk ys = (0, ⟨A.1, beN B.1, C.1, L⟩, lk', ys') := by rw [HPP.out]; simp [pre, codeGo]
      refine .inr ⟨by rw [e1], _, rfl, ?_⟩
      rw [e1]
      have P9 := HPV.out.stay HF2 (fun j hj => by omega)
      have Q9 := HQV.out.stay HF2 (fun j hj => by omega)
      have R9 := HR.out.upd HF2 (fun j hj hj2 => by have := HF.out j hj; omega)
      exact ⟨HF1.K, HF1.U, ⟨_, _, _, rfl, P9.row, Q9.row, R9, fun j hj => by have := P9.new j hj; omega, fun j hj => by have := Q9.new j hj; omega, fun j hj => by have := HF.out j hj; omega⟩, HB1.out, HB2.out⟩
end
end Go.Proofs.YtmbdfmgidnjgeaaGreatDoor

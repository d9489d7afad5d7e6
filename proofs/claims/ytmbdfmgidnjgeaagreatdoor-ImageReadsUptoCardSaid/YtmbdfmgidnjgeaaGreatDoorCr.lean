/- Reading an instruction: a contract for each call. -/
import Derived.Test.YtmbdfmgidnjgeaaGreatDoorCd
import Derived.Test.YtmbdfmgidnjgeaaGreatDoorRref
import Derived.Outline
namespace Go.Proofs.YtmbdfmgidnjgeaaGreatDoor
open Go.RowKit
set_option linter.unusedVariables false

/-- three cells in a block -/
def Is3 (t : TypeId) (w : World) (b : Nat) (x y z : Value) : Prop := w.heap[b]? = some (.cells #[x, y, z] t (0, 0))
theorem is3_new (t : TypeId) (w : World) (x y z : Value) : Is3 t (w.alloc (.cells #[x, y, z] t)) w.heap.size x y z := by
  unfold Is3
  show (w.heap.push _)[w.heap.size]? = _
  simp
theorem Is3.c0 {t : TypeId} {w : World} {b : Nat} {x y z : Value} (h : Is3 t w b x y z) : w.cell? ⟨b, 0, none⟩ = some x := by unfold Is3 at h; simp [World.cell?, h]
theorem Is3.c1 {t : TypeId} {w : World} {b : Nat} {x y z : Value} (h : Is3 t w b x y z) : w.cell? ⟨b, 1, none⟩ = some y := by unfold Is3 at h; simp [World.cell?, h]
theorem Is3.c2 {t : TypeId} {w : World} {b : Nat} {x y z : Value} (h : Is3 t w b x y z) : w.cell? ⟨b, 2, none⟩ = some z := by unfold Is3 at h; simp [World.cell?, h]
theorem Is3.fr {t : TypeId} {w : World} {b : Nat} {x y z : Value} (h : Is3 t w b x y z) (o : Nat) : w.frozen? ⟨b, o, none⟩ = false := by unfold Is3 at h; simp [World.frozen?, h]
theorem Is3.lt {t : TypeId} {w : World} {b : Nat} {x y z : Value} (h : Is3 t w b x y z) : b < w.heap.size := (Array.getElem?_eq_some_iff.1 h).1
theorem Is3.upd {t : TypeId} {w w' : World} {b : Nat} {x y z : Value} {S : Nat → Prop} (h : Is3 t w b x y z) (hu : Upd S w w') (hS : ¬ S b) : Is3 t w' b x y z := (hu.block b h.lt hS).trans h
theorem Is3.set0 {t : TypeId} {w : World} {b : Nat} {x y z : Value} (h : Is3 t w b x y z) (u : Value) : Is3 t (w.setCell ⟨b, 0, none⟩ u) b u y z := by unfold Is3 at *; simp [World.setCell, Array.getElem?_modify, h]
theorem Is3.set1 {t : TypeId} {w : World} {b : Nat} {x y z : Value} (h : Is3 t w b x y z) (u : Value) : Is3 t (w.setCell ⟨b, 1, none⟩ u) b x u z := by unfold Is3 at *; simp [World.setCell, Array.getElem?_modify, h]
theorem Is3.set2 {t : TypeId} {w : World} {b : Nat} {x y z : Value} (h : Is3 t w b x y z) (u : Value) : Is3 t (w.setCell ⟨b, 2, none⟩ u) b x y u := by unfold Is3 at *; simp [World.setCell, Array.getElem?_modify, h]

theorem fin3 {t : TypeId} {w : World} {b : Nat} {x y z : Value} (h : Is3 t w b x y z) (u0 u1 u2 : Value) :
    Is3 t (((w.setCell ⟨b, 0, none⟩ u0).setCell ⟨b, 1, none⟩ u1).setCell ⟨b, 2, none⟩ u2) b u0 u1 u2 ∧ Upd (fun k => k = b) w (((w.setCell ⟨b, 0, none⟩ u0).setCell ⟨b, 1, none⟩ u1).setCell ⟨b, 2, none⟩ u2) :=
  ⟨((h.set0 u0).set1 u1).set2 u2, ((Upd.setCell (S := fun k => k = b) w (.inl rfl) _).trans (Upd.setCell (S := fun k => k = b) _ (.inl rfl) _) (fun _ h _ => h)).trans (Upd.setCell (S := fun k => k = b) _ (.inl rfl) _) (fun _ h _ => h)⟩
/-- what one byte each holds of the operands -/
def tailI (op : Int) (lk : Bool) (ys : List Int) : Int × Int × Bool × List Int :=
  if opsB op = 2 then (beN (takeP 1 lk ys).1, beN (takeP 1 (takeP 1 lk ys).2.1 (takeP 1 lk ys).2.2).1, (takeP 1 (takeP 1 lk ys).2.1 (takeP 1 lk ys).2.2).2.1, (takeP 1 (takeP 1 lk ys).2.1 (takeP 1 lk ys).2.2).2.2)
  else if opsB op = 1 then (beN (takeP 1 lk ys).1, 0, (takeP 1 lk ys).2.1, (takeP 1 lk ys).2.2) else (0, 0, lk, ys)
/-- the operands: A, B, whether the reader lacks then, what is left -/
def argI (op : Int) (lk : Bool) (ys : List Int) : Int × Int × Bool × List Int :=
  if op = 1 then (sgn (beN (takeP 4 lk ys).1), 0, (takeP 4 lk ys).2.1, (takeP 4 lk ys).2.2)
  else if op = 23 ∨ op = 24 then (beN (takeP 2 lk ys).1, 0, (takeP 2 lk ys).2.1, (takeP 2 lk ys).2.2) else tailI op lk ys
def opI (lk : Bool) (ys : List Int) : Int := beN (takeP 1 lk ys).1
/-- behind the first byte -/
def restI (lk : Bool) (ys : List Int) : Int × Int × Bool × List Int := argI (opI lk ys) (takeP 1 lk ys).2.1 (takeP 1 lk ys).2.2

/-- a reader and three cells beside it, turned -/
structure Two3 (t : TypeId) (w : World) (b bi : Nat) (v : Value) (lk : Bool) (ys : List Int) (x y z : Value) (w' : World) : Prop where
  ex : ∃ v', Rd t w' b v' lk ys ∧ (∀ k, v'.ownBlock = some k → v.ownBlock = some k)
  is : Is3 55 w' bi x y z
  upd : Upd (fun k => k = b ∨ k = bi) w w'

set_option maxHeartbeats 1000000 in
theorem cTakeBytes (w : World) (b bi : Nat) (v : Value) (op : Int) (lk : Bool) (ys : List Int) (h : Rd 88 w b v lk ys) (hi : Is3 55 w bi (.int .i64 op) (.int .i64 0) (.int .i64 0)) (hne : ¬ fp b v bi) :
    Calls Tryz.prog 106 #[.pointer (some ⟨b, 0, none⟩), .pointer (some ⟨bi, 0, none⟩)] w fun e w' => e = .returned (.tuple #[]) ∧
      Two3 88 w b bi v (tailI op lk ys).2.2.1 (tailI op lk ys).2.2.2 (.int .i64 op) (.int .i64 (tailI op lk ys).1) (.int .i64 (tailI op lk ys).2.1) w' := by
  have hc0 := hi.c0
  have hc1 := hi.c1
  have hc2 := hi.c2
  have H := Lib.hid h
  have HI := Lib.hid hi
  have HNE := Lib.hid hne
  clear h hi hne
  rcases ops3 op with ho | ho | ho
  · have HT := Lib.hid (show tailI op lk ys = (0, 0, lk, ys) by simp [tailI, ho])
    go_enter Tryz.func106, Tryz.ntmps106
    go_wp2_with fail
    refine (cOperands _ _).mono ?_
    rw [ho]
    rintro e w' ⟨rfl, rfl⟩
    go_wp2_with fail
    go_end0
    exact ⟨rfl, by rw [HT.out]; exact ⟨⟨v, H.out, fun _ h => h⟩, HI.out, Upd.refl _ _⟩⟩
  · have HT := Lib.hid (show tailI op lk ys = (beN (takeP 1 lk ys).1, 0, (takeP 1 lk ys).2.1, (takeP 1 lk ys).2.2) by simp [tailI, ho])
    go_enter Tryz.func106, Tryz.ntmps106
    go_wp2_with fail
    refine (cOperands _ _).mono ?_
    rw [ho]
    rintro e w' ⟨rfl, rfl⟩
    go_wp2_with fail
    refine (rU8 _ b v lk ys H.out).mono ?_
    rintro e w2 ⟨rfl, v2, g1, g2, g3⟩
    have hi2 := HI.out.upd g2 (fun e => HNE.out (.inl e))
    have hd1 := hi2.c1
    have hf1 := hi2.fr 1
    have G1 := Lib.hid g1
    have G2 := Lib.hid g2
    have G3 := Lib.hid g3
    have HI2 := Lib.hid hi2
    clear g1 g2 g3 hi2
    go_wp2_with fail
    go_end0
    refine ⟨rfl, ?_⟩
    rw [HT.out]
    have hu := Upd.setCell (S := fun k => k = bi) w2 (p := ⟨bi, 1, none⟩) (.inl rfl) (.int .i64 (beN (takeP 1 lk ys).1))
    exact ⟨⟨v2, G1.out.upd hu (fun k hk e => by subst e; rcases hk with hk | hk; exact HNE.out (.inl hk); exact HNE.out (.inr (G3.out _ hk))), G3.out⟩, HI2.out.set1 _,
      (G2.out.mono (fun _ h _ => .inl h)).trans hu (fun _ h _ => .inr h)⟩
  · have HT := Lib.hid (show tailI op lk ys = (beN (takeP 1 lk ys).1, beN (takeP 1 (takeP 1 lk ys).2.1 (takeP 1 lk ys).2.2).1, (takeP 1 (takeP 1 lk ys).2.1 (takeP 1 lk ys).2.2).2.1, (takeP 1 (takeP 1 lk ys).2.1 (takeP 1 lk ys).2.2).2.2) by simp [tailI, ho])
    go_enter Tryz.func106, Tryz.ntmps106
    go_wp2_with fail
    refine (cOperands _ _).mono ?_
    rw [ho]
    rintro e w' ⟨rfl, rfl⟩
    go_wp2_with fail
    refine (rU8 _ b v lk ys H.out).mono ?_
    rintro e w2 ⟨rfl, v2, g1, g2, g3⟩
    have hi2 := HI.out.upd g2 (fun e => HNE.out (.inl e))
    have hd1 := hi2.c1
    have hf1 := hi2.fr 1
    have hu := Upd.setCell (S := fun k => k = bi) w2 (p := ⟨bi, 1, none⟩) (.inl rfl) (.int .i64 (beN (takeP 1 lk ys).1))
    have HR3 := Lib.hid (g1.upd hu (fun k hk e => by subst e; rcases hk with hk | hk; exact HNE.out (.inl hk); exact HNE.out (.inr (g3 _ hk))))
    have HI3 := Lib.hid (hi2.set1 (.int .i64 (beN (takeP 1 lk ys).1)))
    have HU3 := Lib.hid ((g2.mono (T := fun k => k = b ∨ k = bi) (fun _ h _ => .inl h)).trans hu (fun _ h _ => .inr h))
    have G3 := Lib.hid g3
    clear g1 g2 g3 hi2 hu
    go_wp2_with fail
    refine (rU8 _ b v2 _ _ HR3.out).mono ?_
    rintro e w4 ⟨rfl, v4, g1, g2, g4⟩
    have hi4 := HI3.out.upd g2 (fun e => HNE.out (.inl e))
    have hd2 := hi4.c2
    have hf2 := hi4.fr 2
    have G1 := Lib.hid g1
    have G2 := Lib.hid g2
    have G4 := Lib.hid g4
    have HI4 := Lib.hid hi4
    clear g1 g2 g4 hi4
    go_wp2_with fail
    go_end0
    refine ⟨rfl, ?_⟩
    rw [HT.out]
    have hu := Upd.setCell (S := fun k => k = bi) w4 (p := ⟨bi, 2, none⟩) (.inl rfl) (.int .i64 (beN (takeP 1 (takeP 1 lk ys).2.1 (takeP 1 lk ys).2.2).1))
    exact ⟨⟨v4, G1.out.upd hu (fun k hk e => by subst e; rcases hk with hk | hk; exact HNE.out (.inl hk); exact HNE.out (.inr (G3.out _ (G4.out _ hk)))), fun k hk => G3.out _ (G4.out _ hk)⟩, HI4.out.set2 _,
      (HU3.out.trans G2.out (fun _ h _ => .inl h)).trans hu (fun _ h _ => .inr h)⟩

set_option maxHeartbeats 1000000 in
theorem cTake (w : World) (b : Nat) (v : Value) (lk : Bool) (ys : List Int) (h : Rd 88 w b v lk ys) :
    Calls Tryz.prog 97 #[.pointer (some ⟨b, 0, none⟩)] w fun e w' => e = .returned (ins (opI lk ys) (restI lk ys).1 (restI lk ys).2.1) ∧
      ∃ v', Rd 88 w' b v' (restI lk ys).2.2.1 (restI lk ys).2.2.2 ∧ Upd (fun k => k = b) w w' ∧ (∀ k, v'.ownBlock = some k → v.ownBlock = some k) := by
  have H := Lib.hid h
  clear h
  go_enter Tryz.func97, Tryz.ntmps97
  go_wp2_with fail
  have HA := Lib.hid (Upd.alloc (fun _ => False) w (.cells #[.int .i64 0, .int .i64 0, .int .i64 0] 55))
  have HR := Lib.hid (show Is3 55 (w.alloc (.cells #[.int .i64 0, .int .i64 0, .int .i64 0] 55)) w.heap.size (.int .i64 0) (.int .i64 0) (.int .i64 0) from is3_new _ _ _ _ _)
  refine (rU8 _ b v lk ys (H.out.upd HA.out (fun _ _ h => h))).mono ?_
  rintro e w2 ⟨rfl, v2, g1, g2, g3⟩
  have G1 := Lib.hid g1
  have G2 := Lib.hid g2
  have G3 := Lib.hid g3
  have HB := Lib.hid (HR.out.upd g2 (fun e => by have := H.out.lt; omega))
  clear g1 g2 g3 HR
  have HA3 := Lib.hid (Upd.alloc (fun _ => False) w2 (.cells #[.int .i64 (opI lk ys), .int .i64 0, .int .i64 0] 55))
  have HR3 := Lib.hid (G1.out.upd HA3.out (fun _ _ h => h))
  have HB3 := Lib.hid (HB.out.upd HA3.out (fun h => h))
  have HI3 := Lib.hid (is3_new 55 w2 (.int .i64 (opI lk ys)) (.int .i64 0) (.int .i64 0))
  have HN := Lib.hid (show ¬ fp b v2 w2.heap.size from fun hf => by
    rcases hf with hf | hf
    · have := G1.out.lt; omega
    · have := G1.out.inn _ hf; omega)
  have hlt2 : w.heap.size < w2.heap.size := HB.out.lt
  have hltb : b < w.heap.size := H.out.lt
  rw [show beN (takeP 1 lk ys).1 = opI lk ys from rfl]
  have HRI := Lib.hid (show restI lk ys = argI (opI lk ys) (takeP 1 lk ys).2.1 (takeP 1 lk ys).2.2 from rfl)
  generalize hop : opI lk ys = op at *
  have HOP := Lib.hid hop
  generalize (takeP 1 lk ys).2.1 = lk1 at *
  generalize (takeP 1 lk ys).2.2 = ys1 at *
  clear hop HB
  by_cases h1 : op = 1
  · subst h1
    have HT := Lib.hid (show argI 1 lk1 ys1 = (sgn (beN (takeP 4 lk1 ys1).1), 0, (takeP 4 lk1 ys1).2.1, (takeP 4 lk1 ys1).2.2) by simp [argI])
    go_wp2_with fail
    refine (rS32 _ b v2 _ _ HR3.out).mono ?_
    rintro e w4 ⟨rfl, v4, k1, k2, k3⟩
    have K1 := Lib.hid k1
    have K2 := Lib.hid k2
    have K3 := Lib.hid k3
    have hb4 := HB3.out.upd k2 (fun e => by omega)
    have hi4 := HI3.out.upd k2 (fun e => by omega)
    have e0 := hb4.fr 0
    have e1 := hb4.fr 1
    have e2 := hb4.fr 2
    have e3 := hi4.c0
    have e4 := hi4.c2
    have e5 := hi4.fr 1
    have e6 := hi4.c1
    have e7 := hb4.c0
    have e8 := hb4.c1
    have e9 := hb4.c2
    have z0 := Upd.setCell (S := fun k => k = w2.heap.size) w4 (p := ⟨w2.heap.size, 1, none⟩) (.inl rfl) (.int .i64 (sgn (beN (takeP 4 lk1 ys1).1)))
    have HZ0 := Lib.hid z0
    have HB4 := Lib.hid (hb4.upd z0 (fun e => by omega))
    clear k1 k2 k3 hi4 hb4 z0
    go_wp2_with fail
    obtain ⟨z1, z2⟩ := fin3 HB4.out (.int .i64 1) (.int .i64 (sgn (beN (takeP 4 lk1 ys1).1))) (.int .i64 0)
    have y0 := z1.c0
    have y1 := z1.c1
    have y2 := z1.c2
    refine bodyPost_ret (v := ins 1 (sgn (beN (takeP 4 lk1 ys1).1)) 0) (by simp [results, Tryz.f97, go_sem, y0, y1, y2]) rfl ⟨by rw [HOP.out, HRI.out, HT.out], v4, ?_, ?_, fun k hk => G3.out k (K3.out k hk)⟩
    · rw [HRI.out, HT.out]
      exact (K1.out.upd HZ0.out (fun k hk e => by
        subst e
        rcases hk with hk | hk
        · omega
        · exact HN.out (.inr (K3.out _ hk)))).upd z2 (fun k hk e => by
        subst e
        rcases hk with hk | hk
        · omega
        · have := H.out.inn _ (G3.out _ (K3.out _ hk)); omega)
    · exact ((((HA.out.mono (fun _ h _ => h.elim)).trans G2.out (fun _ h _ => h)).trans ((HA3.out.mono (fun _ h _ => h.elim)).trans K2.out (fun _ h _ => h)) (fun _ h _ => h)).trans HZ0.out (fun i hi hlt => by omega)).trans z2 (fun i hi hlt => by omega)
  · by_cases h2 : op = 23 ∨ op = 24
    · have HT := Lib.hid (show argI op lk1 ys1 = (beN (takeP 2 lk1 ys1).1, 0, (takeP 2 lk1 ys1).2.1, (takeP 2 lk1 ys1).2.2) by simp [argI, h1, h2])
      have hb1 : (op == 1) = false := by simpa using h1
      have hb2 : (op == 23) = true ∨ (op == 24) = true := by simpa using h2
      clear h1 h2
      rcases hb2 with hb2 | hb2
      all_goals
        go_wp2_with fail
        refine (rU16 _ b v2 _ _ HR3.out).mono ?_
        rintro e w4 ⟨rfl, v4, k1, k2, k3⟩
        have K1 := Lib.hid k1
        have K2 := Lib.hid k2
        have K3 := Lib.hid k3
        have hb4 := HB3.out.upd k2 (fun e => by omega)
        have hi4 := HI3.out.upd k2 (fun e => by omega)
        have e0 := hb4.fr 0
        have e1 := hb4.fr 1
        have e2 := hb4.fr 2
        have e3 := hi4.c0
        have e4 := hi4.c2
        have e5 := hi4.fr 1
        have e6 := hi4.c1
        have e7 := hb4.c0
        have e8 := hb4.c1
        have e9 := hb4.c2
        have z0 := Upd.setCell (S := fun k => k = w2.heap.size) w4 (p := ⟨w2.heap.size, 1, none⟩) (.inl rfl) (.int .i64 (beN (takeP 2 lk1 ys1).1))
        have HZ0 := Lib.hid z0
        have HB4 := Lib.hid (hb4.upd z0 (fun e => by omega))
        clear k1 k2 k3 hi4 hb4 z0
        go_wp2_with fail
        obtain ⟨z1, z2⟩ := fin3 HB4.out (.int .i64 op) (.int .i64 (beN (takeP 2 lk1 ys1).1)) (.int .i64 0)
        have y0 := z1.c0
        have y1 := z1.c1
        have y2 := z1.c2
        refine bodyPost_ret (v := ins op (beN (takeP 2 lk1 ys1).1) 0) (by simp [results, Tryz.f97, go_sem, y0, y1, y2]) rfl ⟨by rw [HOP.out, HRI.out, HT.out], v4, ?_, ?_, fun k hk => G3.out k (K3.out k hk)⟩
        · rw [HRI.out, HT.out]
          exact (K1.out.upd HZ0.out (fun k hk e => by
            subst e
            rcases hk with hk | hk
            · omega
            · exact HN.out (.inr (K3.out _ hk)))).upd z2 (fun k hk e => by
            subst e
            rcases hk with hk | hk
            · omega
            · have := H.out.inn _ (G3.out _ (K3.out _ hk)); omega)
        · exact ((((HA.out.mono (fun _ h _ => h.elim)).trans G2.out (fun _ h _ => h)).trans ((HA3.out.mono (fun _ h _ => h.elim)).trans K2.out (fun _ h _ => h)) (fun _ h _ => h)).trans HZ0.out (fun i hi hlt => by omega)).trans z2 (fun i hi hlt => by omega)
    · have HT := Lib.hid (show argI op lk1 ys1 = tailI op lk1 ys1 by simp [argI, h1, h2])
      have hb1 : (op == 1) = false := by simpa using h1
      have hb2 : (op == 23) = false := by simp at h2; simpa using h2.1
      have hb3 : (op == 24) = false := by simp at h2; simpa using h2.2
      clear h1 h2
      go_wp2_with fail
      refine (cTakeBytes _ b w2.heap.size v2 op _ _ HR3.out HI3.out HN.out).mono ?_
      rintro e w4 ⟨rfl, ⟨v4, k1, k3⟩, hi4, k2⟩
      have K1 := Lib.hid k1
      have K2 := Lib.hid k2
      have K3 := Lib.hid k3
      have hb4 := HB3.out.upd k2 (fun e => by rcases e with e | e <;> omega)
      have e0 := hb4.fr 0
      have e1 := hb4.fr 1
      have e2 := hb4.fr 2
      have e3 := hi4.c0
      have e4 := hi4.c2
      have e6 := hi4.c1
      have e7 := hb4.c0
      have e8 := hb4.c1
      have e9 := hb4.c2
      have HB4 := Lib.hid hb4
      clear k1 k2 k3 hi4 hb4
      go_wp2_with fail
      obtain ⟨z1, z2⟩ := fin3 HB4.out (.int .i64 op) (.int .i64 (tailI op lk1 ys1).1) (.int .i64 (tailI op lk1 ys1).2.1)
      have y0 := z1.c0
      have y1 := z1.c1
      have y2 := z1.c2
      refine bodyPost_ret (v := ins op (tailI op lk1 ys1).1 (tailI op lk1 ys1).2.1) (by simp [results, Tryz.f97, go_sem, y0, y1, y2]) rfl ⟨by rw [HOP.out, HRI.out, HT.out], v4, ?_, ?_, fun k hk => G3.out k (K3.out k hk)⟩
      · rw [HRI.out, HT.out]
        exact K1.out.upd z2 (fun k hk e => by
          subst e
          rcases hk with hk | hk
          · omega
          · have := H.out.inn _ (G3.out _ (K3.out _ hk)); omega)
      · exact ((((HA.out.mono (fun _ h _ => h.elim)).trans G2.out (fun _ h _ => h)).trans (HA3.out.mono (fun _ h _ => h.elim)) (fun _ h _ => h)).trans K2.out (fun i hi hlt => by omega)).trans z2 (fun i hi hlt => by omega)

/-- what Read answers beside the instruction -/
def errI (lk : Bool) (ys : List Int) : Int :=
  if (restI lk ys).2.2.1 = true then 7 else if 1 ≤ opI lk ys ∧ opI lk ys ≤ 39 then (if rightB (opI lk ys) (restI lk ys).1 (restI lk ys).2.1 = true then 0 else 9) else 8
/-- a copy of a Reader, in new memory -/
theorem rd_copy {t : TypeId} {w : World} {b : Nat} {v : Value} {lk : Bool} {ys : List Int} (h : Rd t w b v lk ys) (u : World) (hu : Upd (fun _ => False) w u) : Rd t (u.alloc (.cells #[v, .bool lk] t)) u.heap.size v lk ys := by
  have ha := Upd.alloc (fun _ => False) u (.cells #[v, .bool lk] t)
  refine ⟨?_, (h.vw.upd hu (fun _ _ h => h)).upd ha (fun _ _ h => h), ?_, h.small, h.lacks, fun k hk => by have := h.inn k hk; have := hu.size; simp; omega⟩
  · show (u.heap.push _)[u.heap.size]? = _
    simp
  · intro e
    have := h.inn _ e
    have := hu.size
    omega

/-- a Reader's two cells set to another's -/
theorem rd_store {t : TypeId} {w : World} {b bt : Nat} {v v' : Value} {lk lk' : Bool} {ys ys' : List Int} (h : Rd t w b v lk ys) (k : Rd t w bt v' lk' ys') (ho : ∀ i, v'.ownBlock = some i → v.ownBlock = some i) :
    Rd t ((w.setCell ⟨b, 0, none⟩ v').setCell ⟨b, 1, none⟩ (.bool lk')) b v' lk' ys' ∧ Upd (fun i => i = b) w ((w.setCell ⟨b, 0, none⟩ v').setCell ⟨b, 1, none⟩ (.bool lk')) := by
  have hu := (Upd.setCell (S := fun i => i = b) w (p := ⟨b, 0, none⟩) (.inl rfl) v').trans (Upd.setCell (S := fun i => i = b) _ (p := ⟨b, 1, none⟩) (.inl rfl) (.bool lk')) (fun _ h _ => h)
  have hne : v'.ownBlock ≠ some b := fun e => h.ne (ho _ e)
  refine ⟨⟨?_, k.vw.upd hu (fun i hi e => hne (by rw [hi, e])), hne, k.small, k.lacks, fun i hi => Nat.lt_of_lt_of_le (k.inn i hi) hu.size⟩, hu⟩
  have := h.blk
  simp [World.setCell, Array.getElem?_modify, this]

set_option maxHeartbeats 2000000 in
theorem cRead (w : World) (b : Nat) (v : Value) (lk : Bool) (ys : List Int) (h : Rd 88 w b v lk ys) :
    Calls Tryz.prog 86 #[.pointer (some ⟨b, 0, none⟩)] w fun e w' =>
      (errI lk ys ≠ 0 ∧ e = .returned (.tuple #[ins 0 0 0, .int .i64 (errI lk ys)]) ∧ Upd (fun _ => False) w w') ∨
      (errI lk ys = 0 ∧ e = .returned (.tuple #[ins (opI lk ys) (restI lk ys).1 (restI lk ys).2.1, .int .i64 0]) ∧ ∃ v', Rd 88 w' b v' false (restI lk ys).2.2.2 ∧ Upd (fun k => k = b) w w' ∧ (∀ k, v'.ownBlock = some k → v.ownBlock = some k)) := by
  obtain ⟨a, c, rfl, h1, h2⟩ := h.vw.slice
  have HA := Lib.hid (Upd.alloc (fun _ => False) w (.cells #[.int .i64 0, .int .i64 0, .int .i64 0] 55))
  have HR := Lib.hid (is3_new 55 w (.int .i64 0) (.int .i64 0) (.int .i64 0))
  have hA := h.upd HA.out (fun _ _ h => h)
  have hc0 := hA.cell0
  have hc1 := hA.cell1
  have HT := rd_copy h _ HA.out
  rw [show (w.alloc (.cells #[.int .i64 0, .int .i64 0, .int .i64 0] 55)).heap.size = w.heap.size + 1 by simp] at HT
  have H := Lib.hid h
  have hlt := h.lt
  have HTT := Lib.hid HT
  have HB := Lib.hid (HA.out.trans (Upd.alloc (fun _ => False) _ (.cells #[.slice a ys.length c, .bool lk] 88)) (fun _ h _ => h))
  have HR2 := Lib.hid (HR.out.upd (Upd.alloc (fun _ => False) _ (.cells #[.slice a ys.length c, .bool lk] 88)) (fun h => h))
  clear h hA HT HR HA
  go_enter Tryz.func86, Tryz.ntmps86
  go_wp2_with fail
  refine (cTake _ _ _ lk ys HTT.out).mono ?_
  rintro e w3 ⟨rfl, v3, g1, g2, g3⟩
  clear hc0 hc1
  have hsz : w.heap.size + 2 ≤ w3.heap.size := by have := g2.size; simp at this; omega
  have HA3 := Lib.hid (Upd.alloc (fun _ => False) w3 (.cells #[.int .i64 (opI lk ys), .int .i64 (restI lk ys).1, .int .i64 (restI lk ys).2.1] 55))
  have HI := Lib.hid (is3_new 55 w3 (.int .i64 (opI lk ys)) (.int .i64 (restI lk ys).1) (.int .i64 (restI lk ys).2.1))
  have HT4 := Lib.hid (g1.upd HA3.out (fun _ _ h => h))
  have HR4 := Lib.hid ((HR2.out.upd g2 (fun e => by omega)).upd HA3.out (fun h => h))
  have HU4 := Lib.hid ((HB.out.trans g2 (fun i hi hlt => by omega)).trans HA3.out (fun _ h _ => h))
  have HG3 := Lib.hid g3
  clear g1 g2 g3 HTT HR2 HB HA3
  have HE := Lib.hid (show errI lk ys = if (restI lk ys).2.2.1 = true then 7 else if 1 ≤ opI lk ys ∧ opI lk ys ≤ 39 then (if rightB (opI lk ys) (restI lk ys).1 (restI lk ys).2.1 = true then 0 else 9) else 8 from rfl)
  go_wp2_with fail
  refine (rLack _ _ _ _ _ HT4.out).mono ?_
  rintro e w5 ⟨rfl, rfl⟩
  by_cases hlk : (restI lk ys).2.2.1 = true
  · have HE7 := Lib.hid (show errI lk ys = 7 by rw [HE.out, if_pos hlk])
    have e0 := HR4.out.fr 0
    have e1 := HR4.out.fr 1
    have e2 := HR4.out.fr 2
    have e7 := HR4.out.c0
    have e8 := HR4.out.c1
    have e9 := HR4.out.c2
    go_wp2_with fail
    obtain ⟨z1, z2⟩ := fin3 HR4.out (.int .i64 0) (.int .i64 0) (.int .i64 0)
    have y0 := z1.c0
    have y1 := z1.c1
    have y2 := z1.c2
    refine bodyPost_ret (v := .tuple #[ins 0 0 0, .int .i64 7]) (by simp [results, Tryz.f86, go_sem, y0, y1, y2]) rfl (.inl ⟨by rw [HE7.out]; decide, by rw [HE7.out], HU4.out.trans z2 (fun i hi hlt => by omega)⟩)
  · have hlk' : (restI lk ys).2.2.1 = false := by simpa using hlk
    have HLK := Lib.hid hlk'
    clear hlk
    by_cases hop : 1 ≤ opI lk ys ∧ opI lk ys ≤ 39
    · have HOP := Lib.hid (show decide (1 ≤ opI lk ys ∧ opI lk ys ≤ 39) = true by simpa using hop)
      cases hr : rightB (opI lk ys) (restI lk ys).1 (restI lk ys).2.1 with
      | false =>
        have HE9 := Lib.hid (show errI lk ys = 9 by rw [HE.out, if_neg (by rw [HLK.out]; decide), if_pos hop, if_neg (by rw [hr]; decide)])
        have HRR := Lib.hid hr
        have hi0 := HI.out.c0
        have hi1 := HI.out.c1
        have hi2 := HI.out.c2
        clear hr hop
        rw [hlk']
        go_wp2_with fail
        refine (cIsOp _ _).mono ?_
        rw [HOP.out]
        rintro e w5 ⟨rfl, rfl⟩
        go_wp2_with fail
        refine (cRight _ _ _ _).mono ?_
        rw [HRR.out]
        rintro e w6 ⟨rfl, hu⟩
        have HR6 := Lib.hid (HR4.out.upd hu (fun h => h))
        have HU6 := Lib.hid (HU4.out.trans hu (fun _ h _ => h))
        have e0 := HR6.out.fr 0
        have e1 := HR6.out.fr 1
        have e2 := HR6.out.fr 2
        have e7 := HR6.out.c0
        have e8 := HR6.out.c1
        have e9 := HR6.out.c2
        clear hu hi0 hi1 hi2
        go_wp2_with fail
        obtain ⟨z1, z2⟩ := fin3 HR6.out (.int .i64 0) (.int .i64 0) (.int .i64 0)
        have y0 := z1.c0
        have y1 := z1.c1
        have y2 := z1.c2
        refine bodyPost_ret (v := .tuple #[ins 0 0 0, .int .i64 9]) (by simp [results, Tryz.f86, go_sem, y0, y1, y2]) rfl (.inl ⟨by rw [HE9.out]; decide, by rw [HE9.out], HU6.out.trans z2 (fun i hi hlt => by omega)⟩)
      | true =>
        have HE0 := Lib.hid (show errI lk ys = 0 by rw [HE.out, if_neg (by rw [HLK.out]; decide), if_pos hop, if_pos hr])
        have HRR := Lib.hid hr
        have hi0 := HI.out.c0
        have hi1 := HI.out.c1
        have hi2 := HI.out.c2
        clear hr hop
        rw [hlk']
        go_wp2_with fail
        refine (cIsOp _ _).mono ?_
        rw [HOP.out]
        rintro e w5 ⟨rfl, rfl⟩
        go_wp2_with fail
        refine (cRight _ _ _ _).mono ?_
        rw [HRR.out]
        rintro e w6 ⟨rfl, hu⟩
        have HR6 := Lib.hid (HR4.out.upd hu (fun h => h))
        have HU6 := Lib.hid (HU4.out.trans hu (fun _ h _ => h))
        have HI6 := Lib.hid (HI.out.upd hu (fun h => h))
        have ht6 := HT4.out.upd hu (fun _ _ h => h)
        rw [hlk'] at ht6
        have HT6 := Lib.hid ht6
        obtain ⟨a6, c6, rfl, hl1, hl2⟩ := ht6.vw.slice
        have t0 := ht6.cell0
        have t1 := ht6.cell1
        have HB6 := Lib.hid (H.out.upd HU6.out (fun _ _ h => h))
        have b0 := HB6.out.cell0
        have b1 := HB6.out.cell1
        have bf0 := HB6.out.free 0
        have bf1 := HB6.out.free 1
        have e0 := HR6.out.fr 0
        have e1 := HR6.out.fr 1
        have e2 := HR6.out.fr 2
        have e7 := HR6.out.c0
        have e8 := HR6.out.c1
        have e9 := HR6.out.c2
        have i0 := HI6.out.c0
        have i1 := HI6.out.c1
        have i2 := HI6.out.c2
        clear hu hi0 hi1 hi2 ht6
        have hn1 : b ≠ w.heap.size := by omega
        have hn2 : b ≠ w3.heap.size := by omega
        have hn3 : w.heap.size ≠ w3.heap.size := by omega
        go_wp2_with fail
        obtain ⟨r1, r2⟩ := rd_store HB6.out HT6.out HG3.out
        obtain ⟨z1, z2⟩ := fin3 (HR6.out.upd r2 (fun e => by omega)) (.int .i64 (opI lk ys)) (.int .i64 (restI lk ys).1) (.int .i64 (restI lk ys).2.1)
        have y0 := z1.c0
        have y1 := z1.c1
        have y2 := z1.c2
        refine bodyPost_ret (v := .tuple #[ins (opI lk ys) (restI lk ys).1 (restI lk ys).2.1, .int .i64 0]) (by simp [results, Tryz.f86, go_sem, y0, y1, y2]) rfl (.inr ⟨HE0.out, rfl, _, r1.upd z2 (fun k hk e => ?_), ?_, HG3.out⟩)
        · subst e
          rcases hk with hk | hk
          · omega
          · have := H.out.inn _ (HG3.out _ hk); omega
        · exact ((HU6.out.mono (fun _ h _ => h.elim)).trans r2 (fun _ h _ => h)).trans z2 (fun i hi hlt => by omega)
    · have HOP := Lib.hid (show decide (1 ≤ opI lk ys ∧ opI lk ys ≤ 39) = false by simpa using hop)
      have HE8 := Lib.hid (show errI lk ys = 8 by rw [HE.out, if_neg (by rw [HLK.out]; decide), if_neg hop])
      have e0 := HR4.out.fr 0
      have e1 := HR4.out.fr 1
      have e2 := HR4.out.fr 2
      have e7 := HR4.out.c0
      have e8 := HR4.out.c1
      have e9 := HR4.out.c2
      have hi0 := HI.out.c0
      clear hop
      rw [hlk']
      go_wp2_with fail
      refine (cIsOp _ _).mono ?_
      rw [HOP.out]
      rintro e w5 ⟨rfl, rfl⟩
      go_wp2_with fail
      obtain ⟨z1, z2⟩ := fin3 HR4.out (.int .i64 0) (.int .i64 0) (.int .i64 0)
      have y0 := z1.c0
      have y1 := z1.c1
      have y2 := z1.c2
      refine bodyPost_ret (v := .tuple #[ins 0 0 0, .int .i64 8]) (by simp [results, Tryz.f86, go_sem, y0, y1, y2]) rfl (.inl ⟨by rw [HE8.out]; decide, by rw [HE8.out], HU4.out.trans z2 (fun i hi hlt => by omega)⟩)
end Go.Proofs.YtmbdfmgidnjgeaaGreatDoor

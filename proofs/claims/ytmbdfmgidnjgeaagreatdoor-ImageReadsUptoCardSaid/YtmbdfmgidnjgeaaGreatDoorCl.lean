/- Laying an instruction: a contract for each Lay. -/
import Derived.Test.YtmbdfmgidnjgeaaGreatDoorCd
import Derived.Test.YtmbdfmgidnjgeaaGreatDoorWref
namespace Go.Proofs.YtmbdfmgidnjgeaaGreatDoor
open Go.RowKit
set_option linter.unusedVariables false

theorem wr_inn {t : TypeId} {w : World} {b : Nat} {v : Value} {xs : List Int} (h : Wr t w b v xs) : ∀ k, fp b v k → k < w.heap.size := by
  intro k hk
  rcases hk with rfl | hk
  · exact h.lt
  · exact (h.own.lt k hk).2
theorem Laid.pre {t : TypeId} {w wa w' : World} {b : Nat} {v : Value} {zs : List Int} (hu : Upd (fun _ => False) w wa) (h : Laid t wa b v zs w') : Laid t w b v zs w' := by
  obtain ⟨v', h1, h2, h3⟩ := h
  exact ⟨v', h1, (hu.mono (fun _ h _ => h.elim)).trans h2 (fun _ h _ => h), fun k hk => (h3 k hk).imp id (Nat.le_trans hu.size)⟩
theorem Laid.same {t : TypeId} {w : World} {b : Nat} {v : Value} {xs : List Int} (h : Wr t w b v xs) : Laid t w b v xs w := ⟨v, h, Upd.refl _ _, fun k hk => .inl hk⟩
/-- one more call behind one that has laid -/
theorem Laid.then {t : TypeId} {w w1 w2 : World} {b : Nat} {v v1 : Value} {ys zs : List Int} (h1 : Wr t w1 b v1 ys) (h2 : Upd (fp b v) w w1) (h3 : ∀ k, v1.ownBlock = some k → v.ownBlock = some k ∨ w.heap.size ≤ k) (k : Laid t w1 b v1 zs w2) : Laid t w b v zs w2 :=
  Laid.trans (ys := ys) ⟨v1, h1, h2, h3⟩ fun v' hv' => by
    have : v' = v1 := by have e1 := hv'.blk; rw [h1.blk] at e1; simpa using e1.symm
    subst this
    exact k
/-- the footprint, and what is beyond the world where the call began -/
theorem fp_then {w : World} {b : Nat} {v v1 : Value} {n : Nat} (hw : ∀ k, fp b v k → k < n) (hn : n < w.heap.size) (h3 : ∀ k, v1.ownBlock = some k → v.ownBlock = some k ∨ w.heap.size ≤ k) : ¬ fp b v1 n := by
  intro hf
  rcases hf with rfl | hf
  · have := hw _ (.inl rfl); omega
  · rcases h3 _ hf with h | h
    · have := hw _ (.inr h); omega
    · omega

/-- the operands that are laid in one byte each -/
def tailB (op a b : Int) : List Int := if opsB op = 2 then [a % 256, b % 256] else if opsB op = 1 then [a % 256] else []
/-- the bytes of an instruction -/
def layB (op a b : Int) : List Int :=
  op % 256 :: (if op = 1 then [a / 16777216 % 256, a / 65536 % 256, a / 256 % 256, a % 256] else if op = 23 ∨ op = 24 then [a / 256 % 256, a % 256] else tailB op a b)
theorem lay_len (op a b : Int) : (layB op a b).length ≤ 5 := by
  unfold layB tailB
  repeat' split
  all_goals simp

set_option maxHeartbeats 1000000 in
theorem cLayBytes (op a b : Int) (w : World) (p : Nat) (v : Value) (xs : List Int) (h : Wr 118 w p v xs) (hn : xs.length ≤ 1099511627000) :
    Calls Tryz.prog 103 #[.pointer (some ⟨p, 0, none⟩), ins op a b] w fun e w' => e = .returned (.tuple #[]) ∧ Laid 118 w p v (xs ++ tailB op a b) w' := by
  have HA := Lib.hid (Upd.alloc (fun _ => False) w (.cells #[.int .i64 op, .int .i64 a, .int .i64 b] 55))
  have HW1 := Lib.hid (h.upd HA.out (fun _ _ h => h))
  have HI := Lib.hid (wr_inn h)
  clear h
  rcases ops3 op with ho | ho | ho
  · have HT := Lib.hid (show tailB op a b = [] by simp [tailB, ho])
    go_enter Tryz.func103, Tryz.ntmps103
    go_wp2_with fail
    refine (cOperands _ _).mono ?_
    rw [ho]
    rintro e w' ⟨rfl, rfl⟩
    go_wp2_with fail
    go_end0
    exact ⟨rfl, by rw [HT.out, List.append_nil]; exact (Laid.same HW1.out).pre HA.out⟩
  · have HT := Lib.hid (show tailB op a b = [a % 256] by simp [tailB, ho])
    go_enter Tryz.func103, Tryz.ntmps103
    go_wp2_with fail
    refine (cOperands _ _).mono ?_
    rw [ho]
    rintro e w' ⟨rfl, rfl⟩
    go_wp2_with fail
    refine (wU8 _ p v xs a HW1.out (by omega)).mono ?_
    rintro e w2 ⟨rfl, hL⟩
    have HL := Lib.hid hL
    clear hL
    go_wp2_with fail
    go_end0
    exact ⟨rfl, by rw [HT.out]; exact HL.out.pre HA.out⟩
  · have HT := Lib.hid (show tailB op a b = [a % 256, b % 256] by simp [tailB, ho])
    go_enter Tryz.func103, Tryz.ntmps103
    go_wp2_with fail
    refine (cOperands _ _).mono ?_
    rw [ho]
    rintro e w' ⟨rfl, rfl⟩
    go_wp2_with fail
    refine (wU8 _ p v xs a HW1.out (by omega)).mono ?_
    rintro e w2 ⟨rfl, v2, g1, g2, g3⟩
    obtain ⟨hc0, hc1, hc2⟩ := ins_cells g2 (fun hf => by have := HI.out _ hf; omega)
    have G1 := Lib.hid g1
    have G2 := Lib.hid g2
    have G3 := Lib.hid g3
    clear g1 g2 g3
    go_wp2_with fail
    refine (wU8 _ p v2 _ b G1.out (by simp; omega)).mono ?_
    rintro e w3 ⟨rfl, hL⟩
    have HL := Lib.hid hL
    clear hL
    go_wp2_with fail
    go_end0
    exact ⟨rfl, by rw [HT.out]; exact (Laid.then G1.out G2.out G3.out (by simpa using HL.out)).pre HA.out⟩

set_option maxHeartbeats 1000000 in
/-- of what is not right nothing is laid -/
theorem cLay_no (op a b : Int) (w : World) (q : Option Addr) (hr : q = none ∨ rightB op a b = false) :
    Calls Tryz.prog 92 #[.pointer q, ins op a b] w fun e w' => e = .returned (.int .i64 1) ∧ Upd (fun _ => False) w w' := by
  have HA := Lib.hid (Upd.alloc (fun _ => False) w (.cells #[.int .i64 op, .int .i64 a, .int .i64 b] 55))
  cases q with
  | none =>
    go_enter Tryz.func92, Tryz.ntmps92
    go_wp2_with fail
    go_ret
    exact ⟨rfl, HA.out⟩
  | some q =>
    have HR := Lib.hid (show rightB op a b = false by rcases hr with h | h; (cases h); exact h)
    clear hr
    go_enter Tryz.func92, Tryz.ntmps92
    go_wp2_with fail
    refine (cRight _ _ _ _).mono ?_
    rw [HR.out]
    rintro e w2 ⟨rfl, hu⟩
    have HU := Lib.hid (HA.out.trans hu (fun _ h _ => h))
    clear hu
    go_wp2_with fail
    go_ret
    exact ⟨rfl, HU.out⟩

set_option maxHeartbeats 1000000 in
theorem cLay (op a b : Int) (w : World) (p : Nat) (v : Value) (xs : List Int) (h : Wr 118 w p v xs) (hn : xs.length ≤ 1099511620000) (hr : rightB op a b = true) :
    Calls Tryz.prog 92 #[.pointer (some ⟨p, 0, none⟩), ins op a b] w fun e w' => e = .returned (.int .i64 0) ∧ Laid 118 w p v (xs ++ layB op a b) w' := by
  have HA := Lib.hid (Upd.alloc (fun _ => False) w (.cells #[.int .i64 op, .int .i64 a, .int .i64 b] 55))
  have HW1 := Lib.hid (h.upd HA.out (fun _ _ h => h))
  have HI := Lib.hid (wr_inn h)
  clear h
  go_enter Tryz.func92, Tryz.ntmps92
  go_wp2_with fail
  refine (cRight _ _ _ _).mono ?_
  rw [hr]
  rintro e w2 ⟨rfl, hu⟩
  obtain ⟨hc0, hc1, hc2⟩ := ins_cells hu (fun h => h)
  have HU2 := Lib.hid (HA.out.trans hu (fun _ h _ => h))
  have HW2 := Lib.hid (HW1.out.upd hu (fun _ _ h => h))
  have hlt2 : w.heap.size < w2.heap.size := by have := hu.size; simp at this; omega
  clear hu
  go_wp2_with fail
  refine (wU8 _ p v xs op HW2.out (by omega)).mono ?_
  rintro e w3 ⟨rfl, v3, g1, g2, g3⟩
  have hd0 := (g2.cell (p := ⟨w.heap.size, 0, none⟩) hlt2 (fun hf => absurd (HI.out _ hf) (Nat.lt_irrefl _))).trans hc0
  have hd1 := (g2.cell (p := ⟨w.heap.size, 1, none⟩) hlt2 (fun hf => absurd (HI.out _ hf) (Nat.lt_irrefl _))).trans hc1
  have hd2 := (g2.cell (p := ⟨w.heap.size, 2, none⟩) hlt2 (fun hf => absurd (HI.out _ hf) (Nat.lt_irrefl _))).trans hc2
  have G1 := Lib.hid g1
  have G2 := Lib.hid g2
  have G3 := Lib.hid g3
  clear g1 g2 g3 hc0 hc1 hc2
  by_cases h1 : op = 1
  · subst h1
    go_wp2_with fail
    refine (wS32 _ p v3 _ a G1.out (by simp; omega)).mono ?_
    rintro e w4 ⟨rfl, hL⟩
    have HL := Lib.hid hL
    clear hL
    go_wp2_with fail
    go_ret
    exact ⟨rfl, (Laid.then G1.out G2.out G3.out (by simpa [layB] using HL.out)).pre HU2.out⟩
  · by_cases h2 : op = 23 ∨ op = 24
    · have HT := Lib.hid (show layB op a b = [op % 256, a / 256 % 256, a % 256] by simp [layB, h1, h2])
      have hb1 : (op == 1) = false := by simpa using h1
      have hb2 : (op == 23) = true ∨ (op == 24) = true := by simpa using h2
      clear h1 h2
      rcases hb2 with hb2 | hb2
      all_goals
        go_wp2_with fail
        refine (wU16 _ p v3 _ a G1.out (by simp; omega)).mono ?_
        rintro e w4 ⟨rfl, hL⟩
        have HL := Lib.hid hL
        clear hL
        go_wp2_with fail
        go_ret
        exact ⟨rfl, (Laid.then G1.out G2.out G3.out (by rw [HT.out]; simpa using HL.out)).pre HU2.out⟩
    · have HT := Lib.hid (show layB op a b = op % 256 :: tailB op a b by simp [layB, h1, h2])
      have hb1 : (op == 1) = false := by simpa using h1
      have hb2 : (op == 23) = false := by simp at h2; simpa using h2.1
      have hb3 : (op == 24) = false := by simp at h2; simpa using h2.2
      clear h1 h2
      go_wp2_with fail
      refine (cLayBytes op a b _ p v3 _ G1.out (by simp; omega)).mono ?_
      rintro e w4 ⟨rfl, hL⟩
      have HL := Lib.hid hL
      clear hL
      go_wp2_with fail
      go_ret
      exact ⟨rfl, (Laid.then G1.out G2.out G3.out (by rw [HT.out]; simpa using HL.out)).pre HU2.out⟩
end Go.Proofs.YtmbdfmgidnjgeaaGreatDoor

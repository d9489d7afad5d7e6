/- Package verify's small calls: on kinds, on what is taken. -/
import Derived.Test.YtebgmpggedeplaaVa
import Derived.LoopTactic
namespace Go.Proofs.Ytebgmpggedeplaa
open Go.RowKit Go.Lib
set_option linter.unusedVariables false
set_option linter.unusedSimpArgs false

/-- lies in no block under N -/
def Newer (N : Nat) (v : Value) : Prop := ∀ b off s n c, v = .slice (some ⟨b, off, s⟩) n c → N ≤ b
theorem Newer.nil (N n c : Nat) : Newer N (.slice none n c) := by intro b off s n c h; simp at h
theorem Newer.new (w : World) (off n c : Nat) : Newer w.heap.size (.slice (some ⟨w.heap.size, off, none⟩) n c) := by intro b off s n c h; simp at h; omega
theorem Newer.le {N M : Nat} {v : Value} (h : Newer N v) (hm : M ≤ N) : Newer M v := fun b off s n c e => Nat.le_trans hm (h b off s n c e)
theorem Ints.upd {w w' : World} {v : Value} {L : List Int} {S : Nat → Prop} (h : Ints w v L) (hu : Upd S w w') (hS : ∀ b off s n c, v = .slice (some ⟨b, off, s⟩) n c → ¬ S b) : Ints w' v L := by
  obtain ⟨⟨a, c, rfl, h1, h2, h3⟩, hw⟩ := h
  refine ⟨⟨a, c, rfl, h1, h2, ?_⟩, hw⟩
  rcases h3 with h3 | ⟨g, off, rfl, h4⟩
  · exact .inl h3
  · refine .inr ⟨g, off, rfl, fun i hi j hj => ?_⟩
    have hc := h4 i hi j hj
    rw [hu.cell (p := ⟨g, off + i * 1 + j, none⟩) (World.block_lt_of_cell? w _ hc) (hS _ _ _ _ _ rfl)]
    exact hc
theorem Ints.nil (w : World) : Ints w (.slice none 0 0) [] := ⟨Sl.nil _ _ _, by simp⟩
/-- a literal -/
theorem ints_lit (w : World) (e : TypeId) (fr : Nat × Nat) (C : Array Value) (L : List Int) (n : Nat) (hC : C.toList = lv L) (hn : L.length = n) (h : ∀ y ∈ L, wi64 y) (hm : n ≤ maxLen) :
    Ints (w.alloc (.cells C e fr)) (.slice (some ⟨w.heap.size, 0, none⟩) n n) L := by
  subst hn
  have hs : C.size = L.length := by rw [← Array.length_toList, hC, lv_len]
  refine ⟨(Sl.lit w e fr C 1 L.length L.length (by omega) (Nat.le_refl _) hm).congr (fun i hi j hj => ?_), h⟩
  obtain rfl : j = 0 := by omega
  have : C = (lv L).toArray := by rw [← hC]
  subst this
  simp [lv, hi, List.getD]
theorem Ints.newer {w : World} {v : Value} {L : List Int} {N : Nat} (h : ORow w v L) (hf : ∀ k, v.ownBlock = some k → N ≤ k) : Newer N v := by
  intro b off s n c e
  subst e
  rcases h.1.2 with ⟨h, _⟩ | ⟨g, cap, cur, h, _⟩
  · simp at h
  · simp at h
    obtain ⟨⟨rfl, rfl, rfl⟩, _⟩ := h
    exact hf _ rfl
theorem wi_small {n : Int} (h1 : -9 ≤ n) (h2 : n ≤ 9) : wi64 n := ⟨by omega, by omega⟩
theorem bothV_wi (a b : Int) : wi64 (bothV a b) := by
  unfold bothV joinV
  split
  · exact wi_small (by omega) (by omega)
  · rename_i h
    simp only [Bool.or_eq_true, Bool.not_eq_true', not_or, Bool.not_eq_false, kI_iff] at h
    obtain ⟨h1, h2⟩ := h
    split
    · exact wi_small (by omega) (by omega)
    · split
      · exact wi_small (by omega) (by omega)
      · exact wi_small (by omega) (by omega)
theorem ofV_wi (a : Int) : wi64 (ofV a) := by
  unfold ofV; split
  · exact wi_small (by omega) (by omega)
  · split <;> exact wi_small (by omega) (by omega)
theorem bufV_wi (a : Int) : wi64 (bufV a) := by unfold bufV; split <;> exact wi_small (by omega) (by omega)

theorem vOne (k : Int) (w : World) (hk : wi64 k) : Calls Try.prog 55 #[.int .i64 k] w fun e w' => ∃ r, e = .returned r ∧ Ints w' r (oneP k) ∧ Upd (fun _ => False) w w' ∧ Newer w.heap.size r := by
  cases h0 : (k == 0) with
  | true =>
    have HF := Lib.hid (show oneP k = [] by simp [oneP, h0])
    go_enter Try.func55, Try.ntmps55
    go_wp2_with fail
    go_ret
    exact ⟨_, rfl, by rw [HF.out]; exact Ints.nil _, Upd.refl _ _, Newer.nil _ _ _⟩
  | false =>
    have HF := Lib.hid (show oneP k = [k] by simp [oneP, h0])
    have HK := Lib.hid hk
    clear hk
    go_enter Try.func55, Try.ntmps55
    go_wp2_with fail
    go_ret
    exact ⟨_, rfl, by rw [HF.out]; exact ints_lit _ _ _ _ [k] 1 rfl rfl (by simpa using HK.out) (by unfold maxLen; omega), Upd.alloc _ _ _, Newer.new _ _ _ _⟩

theorem vBuffer (k : Int) (w : World) : Calls Try.prog 60 #[.int .i64 k] w fun e w' => e = .returned (.int .i64 (bufV k)) ∧ w = w' := by
  cases h0 : (k == 1)
  all_goals
    go_enter Try.func60, Try.ntmps60
    go_wp2
    go_ret
    exact ⟨by simp [bufV, h0], rfl⟩

set_option maxHeartbeats 2000000 in
theorem vSuits (a b : Int) (w : World) : Calls Try.prog 50 #[.int .i64 a, .int .i64 b] w fun e w' => e = .returned (.bool (suitB a b)) ∧ w = w' := by
  cases h0 : (b == -1) <;> cases h1 : (b == -2) <;> cases h2 : fitB a b <;> cases h3 : kI a <;> cases h4 : kI b
  all_goals
    have HS := Lib.hid (show suitB a b = if (b == -1) then true else if (b == -2) then kA a else fitB a b || (kI a && kI b) from rfl)
    go_enter Try.func50, Try.ntmps50
    go_wp2_with (first | (with_reducible refine (lIsArr _ _).mono ?_; rintro e _ ⟨rfl, rfl⟩) | (with_reducible refine (lFits _ _ _).mono ?_; rintro e _ ⟨rfl, rfl⟩) | (with_reducible refine (lIsInt _ _).mono ?_; rintro e _ ⟨rfl, rfl⟩))
    go_ret
    exact ⟨by rw [HS.out]; simp [h0, h1, h2, h3, h4], rfl⟩

set_option maxHeartbeats 2000000 in
theorem vIsKept (a b : Int) (w : World) : Calls Try.prog 52 #[.int .i64 a, .int .i64 b] w fun e w' => e = .returned (.bool (keptB a b)) ∧ w = w' := by
  cases h0 : (b == 1) <;> cases h1 : (kS a)
  all_goals
    have h0' := h0
    first | (have h0'' : (b != 1) = false := by simp [bne, h0]) | (have h0'' : (b != 1) = true := by simp [bne, h0])
    go_enter Try.func52, Try.ntmps52
    go_wp2_with (first | (with_reducible refine (lIsSecret _ _).mono ?_; rintro e _ ⟨rfl, rfl⟩))
    go_ret
    exact ⟨by simp [keptB, h0'', h1], rfl⟩

/-- three, or more, that were taken -/
theorem Ints.three {w : World} {v : Value} {T : List Int} {k : Nat} (h : Ints w v T) (hk : k < T.length) : ∃ g off c, v = .slice (some ⟨g, off, none⟩) T.length c ∧ w.cell? ⟨g, off + k, none⟩ = some (.int .i64 (atI T k)) := by
  obtain ⟨a, c, rfl, h1, h2⟩ := h.slice
  obtain ⟨g, off, rfl, hc, _⟩ := h.at hk
  exact ⟨g, off, c, rfl, hc⟩
theorem Ints.cells {w : World} {v : Value} {T : List Int} {n : Nat} (h : Ints w v T) (hn : T.length = n) (h0 : 0 < n) : ∃ g off c, v = .slice (some ⟨g, off, none⟩) n c ∧ (w.cell? ⟨g, off, none⟩ = some (.int .i64 (atI T 0))) ∧ (1 < n → w.cell? ⟨g, off + 1, none⟩ = some (.int .i64 (atI T 1))) ∧ (2 < n → w.cell? ⟨g, off + 2, none⟩ = some (.int .i64 (atI T 2))) := by
  subst hn
  obtain ⟨a, c, rfl, h1, h2⟩ := h.slice
  obtain ⟨g, off, rfl, hc, _⟩ := h.at h0
  refine ⟨g, off, c, rfl, hc, fun hk => ?_, fun hk => ?_⟩
  · obtain ⟨g', off', e, hc', _⟩ := h.at hk
    simp at e
    obtain ⟨rfl, rfl⟩ := e
    exact hc'
  · obtain ⟨g', off', e, hc', _⟩ := h.at hk
    simp at e
    obtain ⟨rfl, rfl⟩ := e
    exact hc'
theorem quietJ (a b : Int) (w : World) : Calls Try.prog 46 #[.int .i64 a, .int .i64 b] w fun e w' => e = .returned (.tuple #[.int .i64 (joinV a b), .bool (joinB a b)]) ∧ w' = w := (lJoin a b w).mono fun _ _ h => ⟨h.1, h.2.symm⟩

set_option maxHeartbeats 2000000 in
theorem vPicked (w : World) (v : Value) (T : List Int) (h : Ints w v T) (hT : T.length = 3) : Calls Try.prog 58 #[v] w fun e w' => e = .returned (.int .i64 (pickedV T)) ∧ Upd (fun _ => False) w w' := by
  obtain ⟨g, off, c, rfl, hc0, hc1, hc2⟩ := h.cells hT (by omega)
  replace hc1 := hc1 (by omega)
  replace hc2 := hc2 (by omega)
  have HP := Lib.hid (show pickedV T = if kI (joinV (atI T 1) (atI T 2)) then bothV (atI T 0) (joinV (atI T 1) (atI T 2)) else joinV (atI T 1) (atI T 2) from rfl)
  generalize atI T 0 = a at *
  generalize atI T 1 = b at *
  generalize atI T 2 = d at *
  clear h hT
  cases hq : kI (joinV b d)
  all_goals
    have HQ := Lib.hid hq
    go_enter Try.func58, Try.ntmps58
    go_wp2_with fail
    go_quiet (exact Calls.quiet_of_same (quietJ _ _ _))
    go_wp2_with (first | (with_reducible refine (lIsInt _ _).mono ?_; rw [HQ.out]; rintro e _ ⟨rfl, rfl⟩) | (with_reducible refine (lBoth _ _ _).mono ?_; rintro e _ ⟨rfl, rfl⟩))
    go_ret
    exact ⟨by rw [HP.out, HQ.out]; rfl, lbDrewN _ _ _⟩

set_option maxHeartbeats 2000000 in
theorem vAlike (i : InsM) (w : World) (v : Value) (T : List Int) (h : Ints w v T) (hT : i.op = 22 → T.length = 3) : Calls Try.prog 51 #[ins i.op i.a i.b, v] w fun e w' => e = .returned (.bool (alikeB i T)) ∧ Upd (fun _ => False) w w' := by
  obtain ⟨op, ia, ib⟩ := i
  have HA := Lib.hid (Upd.alloc (fun _ => False) w (.cells #[.int .i64 op, .int .i64 ia, .int .i64 ib] 34))
  cases hq : (op == 22) with
  | true =>
    obtain rfl : op = 22 := by simpa using hq
    obtain ⟨g, off, c, rfl, hc0, hc1, hc2⟩ := h.cells (hT rfl) (by omega)
    replace hc1 := hc1 (by omega)
    replace hc2 := hc2 (by omega)
    have HP := Lib.hid (show alikeB ⟨22, ia, ib⟩ T = joinB (atI T 1) (atI T 2) from rfl)
    have hd1 := (HA.out.cell (p := ⟨g, off + 1, none⟩) (World.block_lt_of_cell? _ _ hc1) (fun h => h)).trans hc1
    have hd2 := (HA.out.cell (p := ⟨g, off + 2, none⟩) (World.block_lt_of_cell? _ _ hc2) (fun h => h)).trans hc2
    generalize atI T 0 = a at *
    generalize atI T 1 = b at *
    generalize atI T 2 = d at *
    clear h hT hq
    go_enter Try.func51, Try.ntmps51
    go_wp2_with fail
    go_quiet (exact Calls.quiet_of_same (quietJ _ _ _))
    go_wp2_with fail
    go_ret
    exact ⟨lbRet HP.out.symm, HA.out.trans (lbDrewN (fun _ => False) _ _) (fun _ h _ => h)⟩
  | false =>
    have HP := Lib.hid (show alikeB ⟨op, ia, ib⟩ T = true by simp [alikeB, hq])
    have hq' : (op != 22) = true := by simp [bne, hq]
    obtain ⟨a, c, rfl, -, -⟩ := h.slice
    clear h hT
    go_enter Try.func51, Try.ntmps51
    go_wp2_with fail
    go_ret
    exact ⟨lbRet HP.out.symm, HA.out⟩
set_option maxHeartbeats 4000000 in
theorem vLetsOut (i : InsM) (w : World) (v : Value) (T : List Int) (h : Ints w v T) (h3 : i.op = 22 ∨ i.op = 30 ∨ i.op = 36 → T.length = 3) (h5 : i.op = 31 → T.length = 5) : Calls Try.prog 53 #[ins i.op i.a i.b, v] w fun e w' => e = .returned (.bool (outB i T)) ∧ Upd (fun _ => False) w w' := by
  obtain ⟨op, ia, ib⟩ := i
  have HA := Lib.hid (Upd.alloc (fun _ => False) w (.cells #[.int .i64 op, .int .i64 ia, .int .i64 ib] 34))
  cases hq : (op == 22) with
  | true =>
    obtain rfl : op = 22 := by simpa using hq
    obtain ⟨g, off, c, rfl, hc0, hc1, hc2⟩ := h.cells (h3 (.inl rfl)) (by omega)
    replace hc1 := hc1 (by omega)
    have hd0 := (HA.out.cell (p := ⟨g, off, none⟩) (World.block_lt_of_cell? _ _ hc0) (fun h => h)).trans hc0
    have hd1 := (HA.out.cell (p := ⟨g, off + 1, none⟩) (World.block_lt_of_cell? _ _ hc1) (fun h => h)).trans hc1
    have HP := Lib.hid (show outB ⟨22, ia, ib⟩ T = (kA (atI T 1) && kS (atI T 0)) from rfl)
    generalize atI T 0 = a at *
    generalize atI T 1 = b at *
    clear h h3 h5 hq hc2
    cases hk : kA b
    all_goals
      have HK := Lib.hid hk
      go_enter Try.func53, Try.ntmps53
      go_wp2_with (first | (with_reducible refine (lIsArr _ _).mono ?_; rw [HK.out]; rintro e _ ⟨rfl, rfl⟩) | (with_reducible refine (lIsSecret _ _).mono ?_; rintro e _ ⟨rfl, rfl⟩))
      go_ret
      exact ⟨lbRet (by rw [HP.out, HK.out]; rfl), HA.out⟩
  | false =>
  cases hq2 : (op == 30) with
  | true =>
    obtain rfl : op = 30 := by simpa using hq2
    obtain ⟨g, off, c, rfl, hc0, hc1, hc2⟩ := h.cells (h3 (.inr (.inl rfl))) (by omega)
    replace hc2 := hc2 (by omega)
    have hd0 := (HA.out.cell (p := ⟨g, off, none⟩) (World.block_lt_of_cell? _ _ hc0) (fun h => h)).trans hc0
    have hd2 := (HA.out.cell (p := ⟨g, off + 2, none⟩) (World.block_lt_of_cell? _ _ hc2) (fun h => h)).trans hc2
    have HP := Lib.hid (show outB ⟨30, ia, ib⟩ T = !fitB (atI T 2) (ofV (atI T 0)) from rfl)
    generalize atI T 0 = a at *
    generalize atI T 2 = b at *
    clear h h3 h5 hq hq2 hc1
    go_enter Try.func53, Try.ntmps53
    go_wp2_with fail
    go_quiet (first | exact Calls.quiet_of_same ((lOf _ _).mono fun _ _ h => ⟨h.1, h.2.symm⟩) | exact Calls.quiet_of_same ((lFits _ _ _).mono fun _ _ h => ⟨h.1, h.2.symm⟩))
    go_wp2_with fail
    go_ret
    exact ⟨lbRet (by rw [HP.out]), HA.out.trans (lbDrewN (fun _ => False) _ _) (fun _ h _ => h)⟩
  | false =>
  cases hq3 : (op == 31) with
  | true =>
    obtain rfl : op = 31 := by simpa using hq3
    obtain ⟨g, off, c, rfl, hc0, hc1, hc2⟩ := h.cells (h5 rfl) (by omega)
    replace hc2 := hc2 (by omega)
    have hd0 := (HA.out.cell (p := ⟨g, off, none⟩) (World.block_lt_of_cell? _ _ hc0) (fun h => h)).trans hc0
    have hd2 := (HA.out.cell (p := ⟨g, off + 2, none⟩) (World.block_lt_of_cell? _ _ hc2) (fun h => h)).trans hc2
    have HP := Lib.hid (show outB ⟨31, ia, ib⟩ T = !fitB (ofV (atI T 2)) (ofV (atI T 0)) from rfl)
    generalize atI T 0 = a at *
    generalize atI T 2 = b at *
    clear h h3 h5 hq hq2 hq3 hc1
    go_enter Try.func53, Try.ntmps53
    go_wp2_with fail
    go_quiet (first | exact Calls.quiet_of_same ((lOf _ _).mono fun _ _ h => ⟨h.1, h.2.symm⟩) | exact Calls.quiet_of_same ((lFits _ _ _).mono fun _ _ h => ⟨h.1, h.2.symm⟩))
    go_wp2_with fail
    go_ret
    exact ⟨lbRet (by rw [HP.out]), HA.out.trans (lbDrewN (fun _ => False) _ _) (fun _ h _ => h)⟩
  | false =>
  cases hq4 : (op == 36) with
  | true =>
    obtain rfl : op = 36 := by simpa using hq4
    obtain ⟨g, off, c, rfl, hc0, hc1, hc2⟩ := h.cells (h3 (.inr (.inr rfl))) (by omega)
    have hd0 := (HA.out.cell (p := ⟨g, off, none⟩) (World.block_lt_of_cell? _ _ hc0) (fun h => h)).trans hc0
    have HP := Lib.hid (show outB ⟨36, ia, ib⟩ T = !fitB (ofV (atI T 0)) (ofV (bufV ia)) from rfl)
    generalize atI T 0 = a at *
    clear h h3 h5 hq hq2 hq3 hq4 hc1 hc2
    go_enter Try.func53, Try.ntmps53
    go_wp2_with fail
    go_quiet (first | exact Calls.quiet_of_same ((lOf _ _).mono fun _ _ h => ⟨h.1, h.2.symm⟩) | exact Calls.quiet_of_same ((lFits _ _ _).mono fun _ _ h => ⟨h.1, h.2.symm⟩) | exact Calls.quiet_of_same ((vBuffer _ _).mono fun _ _ h => ⟨h.1, h.2.symm⟩))
    go_wp2_with fail
    go_ret
    exact ⟨lbRet (by rw [HP.out]), HA.out.trans (lbDrewN (fun _ => False) _ _) (fun _ h _ => h)⟩
  | false =>
    have HP := Lib.hid (show outB ⟨op, ia, ib⟩ T = false by simp [outB, hq, hq2, hq3, hq4])
    obtain ⟨a, c, rfl, -, -⟩ := h.slice
    clear h h3 h5
    go_enter Try.func53, Try.ntmps53
    go_wp2_with fail
    go_ret
    exact ⟨lbRet HP.out.symm, HA.out⟩

/-- what an instruction asks for where that does not hang on what it names -/
theorem ops39 {op : Int} (h1 : 1 ≤ op) (h2 : op ≤ 39) : op = 1 ∨ op = 2 ∨ op = 3 ∨ op = 4 ∨ op = 5 ∨ op = 6 ∨ op = 7 ∨ op = 8 ∨ op = 9 ∨ op = 10 ∨ op = 11 ∨ op = 12 ∨ op = 13 ∨ op = 14 ∨ op = 15 ∨ op = 16 ∨ op = 17 ∨ op = 18 ∨ op = 19 ∨ op = 20 ∨ op = 21 ∨ op = 22 ∨ op = 23 ∨ op = 24 ∨ op = 25 ∨ op = 26 ∨ op = 27 ∨ op = 28 ∨ op = 29 ∨ op = 30 ∨ op = 31 ∨ op = 32 ∨ op = 33 ∨ op = 34 ∨ op = 35 ∨ op = 36 ∨ op = 37 ∨ op = 38 ∨ op = 39 := by omega
theorem small_wi {L : List Int} (h : L.all (fun n => decide (-9 ≤ n ∧ n ≤ 9)) = true) : ∀ y ∈ L, wi64 y := fun y hy => by
  have := List.all_eq_true.1 h y hy
  simp at this
  exact wi_small this.1 this.2
set_option maxHeartbeats 8000000 in
theorem vAsks0 (op : Int) (w : World) (h1 : 1 ≤ op) (h2 : op ≤ 39) : Calls Try.prog 56 #[.int .i64 op] w fun e w' => ∃ r, e = .returned r ∧ Ints w' r (asks0 op) ∧ Upd (fun _ => False) w w' := by
  rcases ops39 h1 h2 with rfl | rfl | rfl | rfl | rfl | rfl | rfl | rfl | rfl | rfl | rfl | rfl | rfl | rfl | rfl | rfl | rfl | rfl | rfl | rfl | rfl | rfl | rfl | rfl | rfl | rfl | rfl | rfl | rfl | rfl | rfl | rfl | rfl | rfl | rfl | rfl | rfl | rfl | rfl
  all_goals
    clear h1 h2
    go_enter Try.func56, Try.ntmps56
    go_wp2_with fail
    go_ret
    first
      | exact ⟨_, rfl, Ints.nil _, Upd.refl _ _⟩
      | exact ⟨_, rfl, ints_lit _ _ _ _ _ _ rfl rfl (small_wi (by decide)) (by unfold maxLen; omega), Upd.alloc _ _ _⟩
end Go.Proofs.Ytebgmpggedeplaa

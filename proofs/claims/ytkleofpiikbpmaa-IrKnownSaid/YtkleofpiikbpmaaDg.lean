/- Package ir: Check. -/
import Derived.Test.YtkleofpiikbpmaaDe
namespace Go.Proofs.Ytkleofpiikbpmaa
open Go.RowKit Go.ChangeShapes Go.WideShapes Go.Deep
set_option linter.unusedVariables false
set_option linter.unusedSimpArgs false
/-- a list of nodes -/
def Nds (w : World) (v : Value) (L : List Nd) : Prop := ∃ p : Nat → Value, Sl w v 1 L.length (fun i _ => p i) ∧ ∀ i, i < L.length → NdV w (p i) (L.getD i .nil)
theorem Nds.later {W w : World} {v : Value} {L : List Nd} (h : Nds W v L) (hb : Below W.heap.size W w) : Nds w v L := by
  obtain ⟨p, h1, h2⟩ := h
  exact ⟨p, h1.later hb, fun i hi => (h2 i hi).later hb⟩
theorem Nds.stay {w w' : World} {v : Value} {L : List Nd} (h : Nds w v L) (hu : Upd (fun _ => False) w w') : Nds w' v L := h.later (upd_below hu)
structure PrM where
  params : Int
  regs : Int
  nodes : List Nd
/-- a program's value -/
def Prg (w : World) (v : Value) (p : PrM) : Prop := ∃ s, v = .agg #[.int .i64 p.params, .int .i64 p.regs, s] ∧ Nds w s p.nodes ∧ wi64 p.params ∧ wi64 p.regs
def okAt (R : Int) (len : Nat) (k : Nat) (n : Nd) : Bool := isNodeP R n && belowP (len : Int) (nextP (k : Int) n)
def checkP (p : PrM) : Bool :=
  (decide (1 ≤ p.nodes.length) && decide (p.nodes.length ≤ 250)) && ((decide (0 ≤ p.regs) && decide (p.regs ≤ 40)) && ((decide (0 ≤ p.params) && decide (p.params ≤ min 4 p.regs)) &&
    (List.range p.nodes.length).all (fun k => okAt p.regs p.nodes.length k (p.nodes.getD k .nil))))
theorem checkP_false (P R : Int) (L : List Nd) (h : ¬ (1 ≤ L.length ∧ L.length ≤ 250 ∧ 0 ≤ R ∧ R ≤ 40 ∧ 0 ≤ P ∧ P ≤ min 4 R)) : checkP ⟨P, R, L⟩ = false := by
  cases hc : checkP ⟨P, R, L⟩
  · rfl
  · exfalso
    unfold checkP at hc
    simp only [Bool.and_eq_true, decide_eq_true_eq] at hc
    exact h ⟨hc.1.1, hc.1.2, hc.2.1.1, hc.2.1.2, hc.2.2.1.1, hc.2.2.1.2⟩
theorem checkP_all (P R : Int) (L : List Nd) (h : ((List.range L.length).all (fun k => okAt R L.length k (L.getD k .nil))) = false) : checkP ⟨P, R, L⟩ = false := by
  unfold checkP; dsimp only; rw [h]; simp
theorem check_no {R : Int} {L : List Nd} {k : Nat} (h : k < L.length) (hn : okAt R L.length k (L.getD k .nil) = false) : ((List.range L.length).all (fun k => okAt R L.length k (L.getD k .nil))) = false := by
  rw [List.all_eq_false]
  exact ⟨k, List.mem_range.2 h, by rw [hn]; decide⟩
theorem check_yes {R : Int} {L : List Nd} (h : ∀ k, k < L.length → okAt R L.length k (L.getD k .nil) = true) : ((List.range L.length).all (fun k => okAt R L.length k (L.getD k .nil))) = true := by
  rw [List.all_eq_true]
  intro x hx
  exact h x (List.mem_range.1 hx)
set_option maxRecDepth 20000 in
set_option maxHeartbeats 4000000 in
theorem irCheck (w : World) (v : Value) (p : PrM) (h : Prg w v p) : Calls Try.prog 12 #[v] w fun e_ w' => e_ = .returned (.bool (checkP p)) ∧ Upd (fun _ => False) w w' := by
  obtain ⟨P, R, L⟩ := p
  obtain ⟨s_, rfl, hN, hP, hR⟩ := h
  dsimp only at hN hP hR ⊢
  have HN := Lib.hid hN
  obtain ⟨pv, hsl, hnd⟩ := hN
  obtain ⟨sa, sc, rfl, hsn, hsm⟩ := hsl.slice
  unfold maxLen at hsm
  have HRR := Lib.hid hR
  clear hsl hnd hP hR
  obtain ⟨m, hm⟩ : ∃ m, (if R < 4 then R else 4) = m := ⟨_, rfl⟩
  have HC : Hid (min 4 R = m) := Lib.hid (by rw [← hm]; split <;> omega)
  by_cases c1 : 1 ≤ L.length
  case neg =>
    have d1 : decide ((L.length : Int) < 1) = true := decide_eq_true (by omega)
    have HX := Lib.hid c1
    clear c1
    go_enter Try.func12, Try.ntmps12
    go_wp2_with fail
    go_ret
    exact ⟨congrArg (fun b => Ending.returned (Value.bool b)) (checkP_false P R L (by have := HX.out; have := HC.out; omega)).symm, Upd.alloc _ _ _⟩
  have d1 : decide ((L.length : Int) < 1) = false := decide_eq_false (by omega)
  by_cases c2 : L.length ≤ 250
  case neg =>
    have d2 : decide (250 < (L.length : Int)) = true := decide_eq_true (by omega)
    have HX := Lib.hid c2
    clear c2
    go_enter Try.func12, Try.ntmps12
    go_wp2_with fail
    go_ret
    exact ⟨congrArg (fun b => Ending.returned (Value.bool b)) (checkP_false P R L (by have := HX.out; have := HC.out; omega)).symm, Upd.alloc _ _ _⟩
  have d2 : decide (250 < (L.length : Int)) = false := decide_eq_false (by omega)
  by_cases c3 : 0 ≤ R
  case neg =>
    have d3 : decide (R < 0) = true := decide_eq_true (by omega)
    have HX := Lib.hid c3
    clear c3
    go_enter Try.func12, Try.ntmps12
    go_wp2_with fail
    go_ret
    exact ⟨congrArg (fun b => Ending.returned (Value.bool b)) (checkP_false P R L (by have := HX.out; have := HC.out; omega)).symm, Upd.alloc _ _ _⟩
  have d3 : decide (R < 0) = false := decide_eq_false (by omega)
  by_cases c4 : R ≤ 40
  case neg =>
    have d4 : decide (40 < R) = true := decide_eq_true (by omega)
    have HX := Lib.hid c4
    clear c4
    go_enter Try.func12, Try.ntmps12
    go_wp2_with fail
    go_ret
    exact ⟨congrArg (fun b => Ending.returned (Value.bool b)) (checkP_false P R L (by have := HX.out; have := HC.out; omega)).symm, Upd.alloc _ _ _⟩
  have d4 : decide (40 < R) = false := decide_eq_false (by omega)
  by_cases c5 : 0 ≤ P
  case neg =>
    have d5 : decide (P < 0) = true := decide_eq_true (by omega)
    have HX := Lib.hid c5
    clear c5
    go_enter Try.func12, Try.ntmps12
    go_wp2_with fail
    go_ret
    exact ⟨congrArg (fun b => Ending.returned (Value.bool b)) (checkP_false P R L (by have := HX.out; have := HC.out; omega)).symm, Upd.alloc _ _ _⟩
  have d5 : decide (P < 0) = false := decide_eq_false (by omega)
  by_cases c6 : P ≤ m
  case neg =>
    have d6 : decide (m < P) = true := decide_eq_true (by omega)
    have HX := Lib.hid c6
    clear c6
    go_enter Try.func12, Try.ntmps12
    go_wp2_with fail
    go_ret
    exact ⟨congrArg (fun b => Ending.returned (Value.bool b)) (checkP_false P R L (by have := HX.out; have := HC.out; omega)).symm, Upd.alloc _ _ _⟩
  have d6 : decide (m < P) = false := decide_eq_false (by omega)
  have HCC := Lib.hid (And.intro c1 (And.intro c2 (And.intro c3 (And.intro c4 (And.intro c5 (show P ≤ min 4 R by have := HC.out; omega))))))
  clear c1 c3 c4 c5 c6 HC
  go_enter Try.func12, Try.ntmps12
  go_upto_region 10 with fail
  obtain ⟨W1, hW1⟩ : ∃ W1, w.alloc (.cells #[.int .i64 P, .int .i64 R, .slice sa L.length sc] 63) = W1 := ⟨_, rfl⟩
  have HU1 : Hid (Upd (fun _ => False) w W1) := Lib.hid (by rw [← hW1]; exact Upd.alloc _ _ _)
  have hx : W1.heap[w.heap.size]? = some (.cells #[.int .i64 P, .int .i64 R, .slice sa L.length sc] 63) := by rw [← hW1]; exact heap_topD w _
  rw [hW1]
  generalize w.heap.size = B at *
  have HB1 : Hid (W1.cell? ⟨B, 1, none⟩ = some (.int .i64 R)) := Lib.hid (by simp [World.cell?, hx])
  have HB2 : Hid (W1.cell? ⟨B, 2, none⟩ = some (.slice sa L.length sc)) := Lib.hid (by simp [World.cell?, hx])
  have k2 := HB2.out
  have HN1 := Lib.hid (HN.out.stay HU1.out)
  clear hx hW1 HN
  go_wp2_with fail
  clear k2
  go_loopw [34] (fun t wr => ∃ k : Nat, k ≤ L.length ∧ t = .int .i64 k ∧ Hid (Upd (fun _ => False) W1 wr) ∧ Hid (∀ j, j < k → okAt R L.length j (L.getD j .nil) = true)) (fun t _ => L.length - (intOf t).toNat)
  case atStart => exact ⟨0, by omega, rfl, Lib.hid (Upd.refl _ _), Lib.hid (fun j hj => absurd hj (Nat.not_lt_zero j))⟩
  case round =>
    obtain ⟨k, hk, rfl, HU, HT⟩ := hrel
    by_cases hlt : k < L.length
    · have hd : decide ((k : Int) < (L.length : Int)) = true := by simp; omega
      obtain ⟨pv, hsl, hnd⟩ := HN1.out.stay HU.out
      obtain ⟨g, off, ha, hcell⟩ := hsl.at hlt
      subst ha
      have hcl := hcell 0 (by omega)
      rw [Nat.mul_one, Nat.add_zero] at hcl
      have HV := Lib.hid (hnd k hlt)
      generalize pv k = vk at *
      obtain ⟨nk, hnk⟩ : ∃ nk, L.getD k .nil = nk := ⟨_, rfl⟩
      rw [hnk] at HV
      have HNK := Lib.hid hnk
      clear hcell hsl hnd hnk
      have hi2 : k < 9223372036854775807 := by omega
      have hw1 : IntKind.i64.wrap ((k : Int) + 1) = ((k + 1 : Nat) : Int) := i64_inD _ (by omega)
      have HLT := Lib.hid hlt
      go_upto_region 13 with fail
      have b1 : wr.drew.cell? ⟨B, 1, none⟩ = some (.int .i64 R) := by
        have := HB1.out
        rw [← HU.out.cell (World.block_lt_of_cell? _ _ this) (fun h => h)] at this
        simpa using this
      have b2 : wr.drew.cell? ⟨B, 2, none⟩ = some (.slice (some ⟨g, off, none⟩) L.length sc) := by
        have := HB2.out
        rw [← HU.out.cell (World.block_lt_of_cell? _ _ this) (fun h => h)] at this
        simpa using this
      have HUD := Lib.hid (HU.out.two (Upd.drew (fun _ => False) wr))
      have HVD := Lib.hid (HV.out.stay (Upd.drew (fun _ => False) wr))
      have hHeld : (fun w' : World => w'.cell? ⟨B, 1, none⟩ = some (.int .i64 R) ∧ w'.cell? ⟨B, 2, none⟩ = some (.slice (some ⟨g, off, none⟩) L.length sc)) wr.drew := ⟨b1, b2⟩
      clear b1 b2 hcl HV hd
      refine wp_region_last (S := (fun w' : World => w'.cell? ⟨B, 1, none⟩ = some (.int .i64 R) ∧ w'.cell? ⟨B, 2, none⟩ = some (.slice (some ⟨g, off, none⟩) L.length sc))) 14 _ (by kernel_rfl) (by kernel_rfl) rfl ?_
      change wpHL _ _ _ _ _ _ _ _ _ _ wr.drew
      generalize wr.drew = w2 at *
      refine wpHL_take (i := 0) (v := ?_) rfl (by kernel_rfl) (fun _ _ _ h => h) hHeld (Or.inl ⟨by rfl, ?_⟩) ?_
      rotate_left
      · (intro w hSw; obtain ⟨y0, y1⟩ := hSw; go_simp; try with_reducible rfl)
      try simp only [Act.put, List.getElem_toArray, List.getElem_cons_succ, List.getElem_cons_zero, List.setIfInBounds_toArray, List.set_cons_zero, List.set_cons_succ]
      refine wpHL_take (i := 1) (v := ?_) rfl (by kernel_rfl) (fun _ _ _ h => h) hHeld (Or.inl ⟨by rfl, ?_⟩) ?_
      rotate_left
      · (intro w hSw; obtain ⟨y0, y1⟩ := hSw; go_simp; try with_reducible rfl)
      try simp only [Act.put, List.getElem_toArray, List.getElem_cons_succ, List.getElem_cons_zero, List.setIfInBounds_toArray, List.set_cons_zero, List.set_cons_succ]
      refine wpHL_take (i := 2) (v := ?_) rfl (by kernel_rfl) (fun _ _ _ h => h) hHeld (Or.inl ⟨by rfl, ?_⟩) ?_
      rotate_left
      · (intro w hSw; obtain ⟨y0, y1⟩ := hSw; go_simp; try with_reducible rfl)
      try simp only [Act.put, List.getElem_toArray, List.getElem_cons_succ, List.getElem_cons_zero, List.setIfInBounds_toArray, List.set_cons_zero, List.set_cons_succ]
      obtain ⟨q1, hq1⟩ : ∃ q1, isNodeP R nk = q1 := ⟨_, rfl⟩
      have HQ1 := Lib.hid hq1
      clear hq1
      refine wpHL_step (i := 3) rfl (by kernel_rfl) (by decide) (fun K hK => ?_)
      have HKK := Lib.hid hK
      clear hK
      go_simp
      refine (irIsNode HVD.out R).mono ?_
      rw [HQ1.out]
      rintro e_ w3 ⟨rfl, hu⟩
      have HU3 := Lib.hid (HUD.out.two hu)
      have HV3 := Lib.hid (HVD.out.stay hu)
      have hHeld : (fun w' : World => w'.cell? ⟨B, 1, none⟩ = some (.int .i64 R) ∧ w'.cell? ⟨B, 2, none⟩ = some (.slice (some ⟨g, off, none⟩) L.length sc)) w3 := ⟨by rw [hu.cell (World.block_lt_of_cell? _ _ hHeld.1) (fun h => h)]; exact hHeld.1, by rw [hu.cell (World.block_lt_of_cell? _ _ hHeld.2) (fun h => h)]; exact hHeld.2⟩
      clear hu HVD HUD
      go_simp
      refine HKK.out _ _ hHeld ?_
      clear HKK
      try simp only [Act.put, List.getElem_toArray, List.getElem_cons_succ, List.getElem_cons_zero, List.setIfInBounds_toArray, List.set_cons_zero, List.set_cons_succ]
      cases q1
      · skip
        refine wpHL_take (i := 4) (v := ?_) rfl (by kernel_rfl) (fun _ _ _ h => h) hHeld (Or.inl ⟨by rfl, ?_⟩) ?_
        rotate_left
        · (intro w hSw; obtain ⟨y0, y1⟩ := hSw; go_simp; try with_reducible rfl)
        try simp only [Act.put, List.getElem_toArray, List.getElem_cons_succ, List.getElem_cons_zero, List.setIfInBounds_toArray, List.set_cons_zero, List.set_cons_succ]
        refine wpHL_take (i := 5) (v := ?_) rfl (by kernel_rfl) (fun _ _ _ h => h) hHeld (Or.inl ⟨by rfl, ?_⟩) ?_
        rotate_left
        · (intro w hSw; obtain ⟨y0, y1⟩ := hSw; go_simp; try with_reducible rfl)
        try simp only [Act.put, List.getElem_toArray, List.getElem_cons_succ, List.getElem_cons_zero, List.setIfInBounds_toArray, List.set_cons_zero, List.set_cons_succ]
        refine wpHL_take (i := 6) (v := undef) rfl (by kernel_rfl) (fun _ _ _ h => h) hHeld (Or.inr ⟨by rfl, rfl⟩) ?_
        try simp only [Act.put, List.getElem_toArray, List.getElem_cons_succ, List.getElem_cons_zero, List.setIfInBounds_toArray, List.set_cons_zero, List.set_cons_succ]
        refine wpHL_take (i := 7) (v := undef) rfl (by kernel_rfl) (fun _ _ _ h => h) hHeld (Or.inr ⟨by rfl, rfl⟩) ?_
        try simp only [Act.put, List.getElem_toArray, List.getElem_cons_succ, List.getElem_cons_zero, List.setIfInBounds_toArray, List.set_cons_zero, List.set_cons_succ]
        refine wpHL_take (i := 8) (v := undef) rfl (by kernel_rfl) (fun _ _ _ h => h) hHeld (Or.inr ⟨by rfl, rfl⟩) ?_
        try simp only [Act.put, List.getElem_toArray, List.getElem_cons_succ, List.getElem_cons_zero, List.setIfInBounds_toArray, List.set_cons_zero, List.set_cons_succ]
        refine wpHL_take (i := 9) (v := undef) rfl (by kernel_rfl) (fun _ _ _ h => h) hHeld (Or.inr ⟨by rfl, rfl⟩) ?_
        try simp only [Act.put, List.getElem_toArray, List.getElem_cons_succ, List.getElem_cons_zero, List.setIfInBounds_toArray, List.set_cons_zero, List.set_cons_succ]
        refine wpHL_take (i := 10) (v := undef) rfl (by kernel_rfl) (fun _ _ _ h => h) hHeld (Or.inr ⟨by rfl, rfl⟩) ?_
        try simp only [Act.put, List.getElem_toArray, List.getElem_cons_succ, List.getElem_cons_zero, List.setIfInBounds_toArray, List.set_cons_zero, List.set_cons_succ]
        refine wpHL_take (i := 11) (v := undef) rfl (by kernel_rfl) (fun _ _ _ h => h) hHeld (Or.inr ⟨by rfl, rfl⟩) ?_
        try simp only [Act.put, List.getElem_toArray, List.getElem_cons_succ, List.getElem_cons_zero, List.setIfInBounds_toArray, List.set_cons_zero, List.set_cons_succ]
        refine wpHL_take (i := 12) (v := undef) rfl (by kernel_rfl) (fun _ _ _ h => h) hHeld (Or.inr ⟨by rfl, rfl⟩) ?_
        try simp only [Act.put, List.getElem_toArray, List.getElem_cons_succ, List.getElem_cons_zero, List.setIfInBounds_toArray, List.set_cons_zero, List.set_cons_succ]
        refine wpHL_take (i := 13) (v := undef) rfl (by kernel_rfl) (fun _ _ _ h => h) hHeld (Or.inr ⟨by rfl, rfl⟩) ?_
        try simp only [Act.put, List.getElem_toArray, List.getElem_cons_succ, List.getElem_cons_zero, List.setIfInBounds_toArray, List.set_cons_zero, List.set_cons_succ]
        refine wpHL_last (by kernel_rfl) ?_
        go_wp2_with fail
        go_ret
        have hF := check_no (R := R) HLT.out (by rw [HNK.out]; unfold okAt; rw [HQ1.out]; rfl)
        refine ⟨?_, HU1.out.two HU3.out⟩
        exact congrArg (fun b => Ending.returned (Value.bool b)) (checkP_all P R L hF).symm
      · skip
        refine wpHL_take (i := 4) (v := ?_) rfl (by kernel_rfl) (fun _ _ _ h => h) hHeld (Or.inl ⟨by rfl, ?_⟩) ?_
        rotate_left
        · (intro w hSw; obtain ⟨y0, y1⟩ := hSw; go_simp; try with_reducible rfl)
        try simp only [Act.put, List.getElem_toArray, List.getElem_cons_succ, List.getElem_cons_zero, List.setIfInBounds_toArray, List.set_cons_zero, List.set_cons_succ]
        refine wpHL_take (i := 5) (v := ?_) rfl (by kernel_rfl) (fun _ _ _ h => h) hHeld (Or.inl ⟨by rfl, ?_⟩) ?_
        rotate_left
        · (intro w hSw; obtain ⟨y0, y1⟩ := hSw; go_simp; try with_reducible rfl)
        try simp only [Act.put, List.getElem_toArray, List.getElem_cons_succ, List.getElem_cons_zero, List.setIfInBounds_toArray, List.set_cons_zero, List.set_cons_succ]
        refine wpHL_take (i := 6) (v := ?_) rfl (by kernel_rfl) (fun _ _ _ h => h) hHeld (Or.inl ⟨by rfl, ?_⟩) ?_
        rotate_left
        · (intro w hSw; obtain ⟨y0, y1⟩ := hSw; go_simp; try with_reducible rfl)
        try simp only [Act.put, List.getElem_toArray, List.getElem_cons_succ, List.getElem_cons_zero, List.setIfInBounds_toArray, List.set_cons_zero, List.set_cons_succ]
        refine wpHL_take (i := 7) (v := ?_) rfl (by kernel_rfl) (fun _ _ _ h => h) hHeld (Or.inl ⟨by rfl, ?_⟩) ?_
        rotate_left
        · (intro w hSw; obtain ⟨y0, y1⟩ := hSw; go_simp; try with_reducible rfl)
        try simp only [Act.put, List.getElem_toArray, List.getElem_cons_succ, List.getElem_cons_zero, List.setIfInBounds_toArray, List.set_cons_zero, List.set_cons_succ]
        refine wpHL_take (i := 8) (v := ?_) rfl (by kernel_rfl) (fun _ _ _ h => h) hHeld (Or.inl ⟨by rfl, ?_⟩) ?_
        rotate_left
        · (intro w hSw; obtain ⟨y0, y1⟩ := hSw; go_simp; try with_reducible rfl)
        try simp only [Act.put, List.getElem_toArray, List.getElem_cons_succ, List.getElem_cons_zero, List.setIfInBounds_toArray, List.set_cons_zero, List.set_cons_succ]
        refine wpHL_take (i := 9) (v := ?_) rfl (by kernel_rfl) (fun _ _ _ h => h) hHeld (Or.inl ⟨by rfl, ?_⟩) ?_
        rotate_left
        · (intro w hSw; obtain ⟨y0, y1⟩ := hSw; go_simp; try with_reducible rfl)
        try simp only [Act.put, List.getElem_toArray, List.getElem_cons_succ, List.getElem_cons_zero, List.setIfInBounds_toArray, List.set_cons_zero, List.set_cons_succ]
        refine wpHL_take (i := 10) (v := ?_) rfl (by kernel_rfl) (fun _ _ _ h => h) hHeld (Or.inl ⟨by rfl, ?_⟩) ?_
        rotate_left
        · (intro w hSw; obtain ⟨y0, y1⟩ := hSw; go_simp; try with_reducible rfl)
        try simp only [Act.put, List.getElem_toArray, List.getElem_cons_succ, List.getElem_cons_zero, List.setIfInBounds_toArray, List.set_cons_zero, List.set_cons_succ]
        obtain ⟨nx, hnx⟩ : ∃ nx, nextP (k : Int) nk = nx := ⟨_, rfl⟩
        have HNX := Lib.hid hnx
        clear hnx
        refine wpHL_step (i := 11) rfl (by kernel_rfl) (by decide) (fun K hK => ?_)
        have HKK := Lib.hid hK
        clear hK
        go_simp
        refine (irBehind HV3.out (k : Int) (by omega) (by omega)).mono ?_
        rw [HNX.out]
        rintro e_ w4 ⟨nv, rfl, hI, hu⟩
        have HU4 := Lib.hid (HU3.out.two hu)
        have HI4 := Lib.hid hI
        have hHeld : (fun w' : World => w'.cell? ⟨B, 1, none⟩ = some (.int .i64 R) ∧ w'.cell? ⟨B, 2, none⟩ = some (.slice (some ⟨g, off, none⟩) L.length sc)) w4 := ⟨by rw [hu.cell (World.block_lt_of_cell? _ _ hHeld.1) (fun h => h)]; exact hHeld.1, by rw [hu.cell (World.block_lt_of_cell? _ _ hHeld.2) (fun h => h)]; exact hHeld.2⟩
        clear hu hI HV3 HU3
        go_simp
        refine HKK.out _ _ hHeld ?_
        clear HKK
        try simp only [Act.put, List.getElem_toArray, List.getElem_cons_succ, List.getElem_cons_zero, List.setIfInBounds_toArray, List.set_cons_zero, List.set_cons_succ]
        obtain ⟨q2, hq2⟩ : ∃ q2, belowP (L.length : Int) nx = q2 := ⟨_, rfl⟩
        have HQ2 := Lib.hid hq2
        clear hq2
        refine wpHL_step (i := 12) rfl (by kernel_rfl) (by decide) (fun K hK => ?_)
        have HKK := Lib.hid hK
        clear hK
        go_simp
        refine (irBelow _ (L.length : Int) _ nx HI4.out).mono ?_
        rw [HQ2.out]
        rintro e_ w5 ⟨rfl, rfl⟩
        go_simp
        refine HKK.out _ _ hHeld ?_
        clear HKK
        try simp only [Act.put, List.getElem_toArray, List.getElem_cons_succ, List.getElem_cons_zero, List.setIfInBounds_toArray, List.set_cons_zero, List.set_cons_succ]
        cases q2
        · skip
          refine wpHL_take (i := 13) (v := ?_) rfl (by kernel_rfl) (fun _ _ _ h => h) hHeld (Or.inl ⟨by rfl, ?_⟩) ?_
          rotate_left
          · (intro w hSw; obtain ⟨y0, y1⟩ := hSw; go_simp; try with_reducible rfl)
          try simp only [Act.put, List.getElem_toArray, List.getElem_cons_succ, List.getElem_cons_zero, List.setIfInBounds_toArray, List.set_cons_zero, List.set_cons_succ]
          refine wpHL_last (by kernel_rfl) ?_
          go_wp2_with fail
          go_ret
          have hF := check_no (R := R) HLT.out (by rw [HNK.out]; unfold okAt; rw [HQ1.out, HNX.out, HQ2.out]; rfl)
          refine ⟨?_, HU1.out.two HU4.out⟩
          exact congrArg (fun b => Ending.returned (Value.bool b)) (checkP_all P R L hF).symm
        · skip
          refine wpHL_take (i := 13) (v := ?_) rfl (by kernel_rfl) (fun _ _ _ h => h) hHeld (Or.inl ⟨by rfl, ?_⟩) ?_
          rotate_left
          · (intro w hSw; obtain ⟨y0, y1⟩ := hSw; go_simp; try with_reducible rfl)
          try simp only [Act.put, List.getElem_toArray, List.getElem_cons_succ, List.getElem_cons_zero, List.setIfInBounds_toArray, List.set_cons_zero, List.set_cons_succ]
          refine wpHL_last (by kernel_rfl) ?_
          have HT2 : Hid (∀ j, j < k + 1 → okAt R L.length j (L.getD j .nil) = true) := Lib.hid (fun j hj => by
            rcases Nat.lt_succ_iff_lt_or_eq.1 hj with h | h
            · exact HT.out j h
            · rw [h, HNK.out]; unfold okAt; rw [HQ1.out, HNX.out, HQ2.out]; rfl)
          go_wp2_with fail
          go_roundw
          case rel => exact ⟨k + 1, by have := HLT.out; omega, by go_num, HU4, HT2⟩
          case measure => have := HLT.out; simp [intOf]; omega
    · have hke : k = L.length := by omega
      subst hke
      have HE := Lib.hid (check_yes HT.out)
      go_wp2_with fail
      go_ret
      refine ⟨?_, HU1.out.two HU.out⟩
      obtain ⟨c1, c2, c3, c4, c5, c6⟩ := HCC.out
      have e : checkP ⟨P, R, L⟩ = true := by unfold checkP; dsimp only; rw [HE.out, decide_eq_true c1, decide_eq_true c2, decide_eq_true c3, decide_eq_true c4, decide_eq_true c5, decide_eq_true c6]; rfl
      exact congrArg (fun b => Ending.returned (Value.bool b)) e.symm
end Go.Proofs.Ytkleofpiikbpmaa

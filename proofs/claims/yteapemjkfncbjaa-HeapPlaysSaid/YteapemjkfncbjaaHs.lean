/- The reference's heap: Alloc. -/
import Derived.Test.YteapemjkfncbjaaHp
import Derived.Deep.QuietTactic
import Derived.Deep.RegionLaw
import Derived.OwnWalk
namespace Go.Proofs.Yteapemjkfncbjaa
open Go.RowKit Go.Lib Go.ChangeShapes Go.WideShapes Go.Deep
set_option linter.unusedVariables false
set_option linter.unusedSimpArgs false

theorem hpMake {P : Program} {ops : Array Oper} {o : Oper} {a : Act} {w : World} {K : Act → World → Prop} {Q : Exit → Act → World → Prop} {E : Prop}
    (hg : o.guard = none) (l c : Operand) (t : TypeId) (hop : o.op = Op.makeSlice t l c) (e : TypeId) (i : TypeInfo) (z : Value) (size : Nat) (h1 : P.underlying t = some (.slice e)) (h2 : P.info? e = some i) (h3 : i.zero = some z) (h4 : i.size = size)
    (n : Nat) (hl : a.eval l = .int .i64 (n : Int)) (hc : a.eval c = .int .i64 (n : Int)) (b2 : i.bytes * n ≤ 281474976710656) (b3 : n ≤ maxLen)
    (hK : ∀ w', w'.ownsRow 0 e size (.slice (some ⟨w.heap.size, 0, none⟩) n n) n (madeCells z.cells (n * size)).toList → w.grownBy w' none → K (a.put o.dst (.slice (some ⟨w.heap.size, 0, none⟩) n n)) w') :
    if Region.wanted o (yielded ops a.tmps) = true then Oper.wp P o a w K Q else E := by
  have hw : Region.wanted o (yielded ops a.tmps) = true := by simp [Region.wanted, hg]
  rw [if_pos hw]
  obtain ⟨w', hrun, r1, r2⟩ := run_make_full (P := P) w 0 t e i z size h1 h2 h3 h4 .i64 .i64 n b2 b3 (Nat.zero_le _)
  have hK' := hK w' r1 r2
  unfold Oper.wp
  simp [execOp, hop, hl, hc, hrun, Result.andThen]
  exact hK'
theorem uA {S : Nat → Prop} {w0 w : World} {o : Obj} (h : Upd S w0 w) : Upd S w0 (w.alloc o) := h.trans (Upd.alloc S w o) (fun _ h _ => h)
theorem lab34 {l : Int} (h : labB l = true) : l = 3 ∨ l = 4 := by simpa [labB] using h
theorem lab34n {l : Int} (h : labB l = false) : (l != 3) = true ∧ (l != 4) = true := by simpa [labB] using h
theorem life012 {l : Int} (h : lifeB l = true) : 0 ≤ l ∧ l ≤ 2 := by simp [lifeB] at h; omega
theorem life012n {l : Int} (h : lifeB l = false) : l < 0 ∨ (0 ≤ l ∧ 2 < l) := by simp [lifeB] at h; omega
section
variable {F : Nat → Prop} {w : World} {b : Nat} {sz : Int} {av : Value} {R : List (ArrM × Value)}
set_option maxHeartbeats 4000000 in
theorem rAlloc_no (h : Hp RT F w b sz av R) (hl : R.length ≤ 1000) (hs : 0 ≤ sz ∧ sz ≤ 4096) (own lab life n : Int) (sh : Bool) (hf : fitsB ⟨sz, R.map Prod.fst⟩ lab life n = false) :
    Calls Try.prog 25 #[.pointer (some ⟨b, 0, none⟩), .int .i64 own, .int .i64 lab, .int .i64 life, .bool sh, .int .i64 n] w fun e w' => e = .returned (.tuple #[.int .i64 0, .bool false]) ∧ Upd (fun _ => False) w w' := by
  have hu := used_le (L := R.map Prod.fst) (fun x hx => by obtain ⟨p, hp, rfl⟩ := List.mem_map.1 hx; exact (h.dat p hp).len) R.length (by simp)
  rw [List.take_of_length_le (by simp)] at hu
  have HUS : Hid (∀ u, Upd (fun _ => False) w u → Calls Try.prog 41 #[.pointer (some ⟨b, 0, none⟩)] u fun e w' => e = .returned (.int .i64 (usedP (R.map Prod.fst) : Int)) ∧ u = w') := Lib.hid (fun u hu => rUsed (h.upd hu (fun _ _ h => h)) hl)
  obtain ⟨c0, c1, cf⟩ := h.bx
  have hcase := fits_no hf
  clear h hf
  generalize usedP (R.map Prod.fst) = u at *
  have hc2 : ((lab != 3) = true ∧ (lab != 4) = true) ∨ ((lab = 3 ∨ lab = 4) ∧ (life < 0 ∨ (0 ≤ life ∧ 2 < life) ∨ (0 ≤ life ∧ life ≤ 2 ∧ n < 0) ∨ (0 ≤ life ∧ life ≤ 2 ∧ 0 ≤ n ∧ 64 < n) ∨ (0 ≤ life ∧ life ≤ 2 ∧ 0 ≤ n ∧ n ≤ 64 ∧ sz - (u : Int) < 8 + n))) := by
    rcases hcase with h1 | ⟨h1, h2⟩ | ⟨h1, h2, h3⟩ | ⟨h1, h2, h3, h4⟩ | ⟨h1, h2, h3, h4, h5⟩
    · exact .inl (lab34n h1)
    · refine .inr ⟨lab34 h1, ?_⟩
      rcases life012n h2 with h | h
      · exact .inl h
      · exact .inr (.inl h)
    · exact .inr ⟨lab34 h1, .inr (.inr (.inl ⟨(life012 h2).1, (life012 h2).2, h3⟩))⟩
    · exact .inr ⟨lab34 h1, .inr (.inr (.inr (.inl ⟨(life012 h2).1, (life012 h2).2, h3, h4⟩)))⟩
    · exact .inr ⟨lab34 h1, .inr (.inr (.inr (.inr ⟨(life012 h2).1, (life012 h2).2, h3, h4, h5⟩)))⟩
  clear hcase
  rcases hc2 with ⟨q3, q4⟩ | ⟨rfl | rfl, h1 | ⟨h1, h2⟩ | ⟨h1, h2, h3⟩ | ⟨h1, h2, h3, h4⟩ | ⟨h1, h2, h3, h4, h5⟩⟩
  · go_enter Try.func25, Try.ntmps25
    go_wp2_with fail
    go_quiet (first
      | exact Calls.quiet_of_same ((HUS.out _ (Upd.refl _ _)).mono fun _ _ h => ⟨h.1, h.2.symm⟩)
      | exact Calls.quiet_of_same ((HUS.out _ (Upd.drew _ _)).mono fun _ _ h => ⟨h.1, h.2.symm⟩)
      | exact Calls.quiet_of_same ((HUS.out _ (hpDrewN _ _ _)).mono fun _ _ h => ⟨h.1, h.2.symm⟩))
    go_wp2_with fail
    refine bodyPost_ret (v := .tuple #[.int .i64 0, .bool false]) (by simp only [results, Try.f25]; simp [go_sem]) rfl ?_
    exact ⟨rfl, hpDrewN _ _ _⟩
  · have t1 : decide (life < 0) = true := by simp; omega
    go_enter Try.func25, Try.ntmps25
    go_wp2_with fail
    go_quiet (first
      | exact Calls.quiet_of_same ((HUS.out _ (Upd.refl _ _)).mono fun _ _ h => ⟨h.1, h.2.symm⟩)
      | exact Calls.quiet_of_same ((HUS.out _ (Upd.drew _ _)).mono fun _ _ h => ⟨h.1, h.2.symm⟩)
      | exact Calls.quiet_of_same ((HUS.out _ (hpDrewN _ _ _)).mono fun _ _ h => ⟨h.1, h.2.symm⟩))
    go_wp2_with fail
    refine bodyPost_ret (v := .tuple #[.int .i64 0, .bool false]) (by simp only [results, Try.f25]; simp [go_sem]) rfl ?_
    exact ⟨rfl, hpDrewN _ _ _⟩
  · have t1 : decide (life < 0) = false := by simp; omega
    have t2 : decide (2 < life) = true := by simp; omega
    go_enter Try.func25, Try.ntmps25
    go_wp2_with fail
    go_quiet (first
      | exact Calls.quiet_of_same ((HUS.out _ (Upd.refl _ _)).mono fun _ _ h => ⟨h.1, h.2.symm⟩)
      | exact Calls.quiet_of_same ((HUS.out _ (Upd.drew _ _)).mono fun _ _ h => ⟨h.1, h.2.symm⟩)
      | exact Calls.quiet_of_same ((HUS.out _ (hpDrewN _ _ _)).mono fun _ _ h => ⟨h.1, h.2.symm⟩))
    go_wp2_with fail
    refine bodyPost_ret (v := .tuple #[.int .i64 0, .bool false]) (by simp only [results, Try.f25]; simp [go_sem]) rfl ?_
    exact ⟨rfl, hpDrewN _ _ _⟩
  · have t1 : decide (life < 0) = false := by simp; omega
    have t2 : decide (2 < life) = false := by simp; omega
    have t3 : decide (n < 0) = true := by simp; omega
    go_enter Try.func25, Try.ntmps25
    go_wp2_with fail
    go_quiet (first
      | exact Calls.quiet_of_same ((HUS.out _ (Upd.refl _ _)).mono fun _ _ h => ⟨h.1, h.2.symm⟩)
      | exact Calls.quiet_of_same ((HUS.out _ (Upd.drew _ _)).mono fun _ _ h => ⟨h.1, h.2.symm⟩)
      | exact Calls.quiet_of_same ((HUS.out _ (hpDrewN _ _ _)).mono fun _ _ h => ⟨h.1, h.2.symm⟩))
    go_wp2_with fail
    refine bodyPost_ret (v := .tuple #[.int .i64 0, .bool false]) (by simp only [results, Try.f25]; simp [go_sem]) rfl ?_
    exact ⟨rfl, hpDrewN _ _ _⟩
  · have t1 : decide (life < 0) = false := by simp; omega
    have t2 : decide (2 < life) = false := by simp; omega
    have t3 : decide (n < 0) = false := by simp; omega
    have t4 : decide (64 < n) = true := by simp; omega
    go_enter Try.func25, Try.ntmps25
    go_wp2_with fail
    go_quiet (first
      | exact Calls.quiet_of_same ((HUS.out _ (Upd.refl _ _)).mono fun _ _ h => ⟨h.1, h.2.symm⟩)
      | exact Calls.quiet_of_same ((HUS.out _ (Upd.drew _ _)).mono fun _ _ h => ⟨h.1, h.2.symm⟩)
      | exact Calls.quiet_of_same ((HUS.out _ (hpDrewN _ _ _)).mono fun _ _ h => ⟨h.1, h.2.symm⟩))
    go_wp2_with fail
    refine bodyPost_ret (v := .tuple #[.int .i64 0, .bool false]) (by simp only [results, Try.f25]; simp [go_sem]) rfl ?_
    exact ⟨rfl, hpDrewN _ _ _⟩
  · have t1 : decide (life < 0) = false := by simp; omega
    have t2 : decide (2 < life) = false := by simp; omega
    have t3 : decide (n < 0) = false := by simp; omega
    have t4 : decide (64 < n) = false := by simp; omega
    have hw1 : IntKind.i64.wrap (8 + n) = 8 + n := IntWalk.i64_in _ (by omega)
    have hw2 : IntKind.i64.wrap (sz - (u : Int)) = sz - u := IntWalk.i64_in _ (by omega)
    have t5 : decide (sz - (u : Int) < 8 + n) = true := by simp; omega
    go_enter Try.func25, Try.ntmps25
    go_wp2_with fail
    go_quiet (first
      | exact Calls.quiet_of_same ((HUS.out _ (Upd.refl _ _)).mono fun _ _ h => ⟨h.1, h.2.symm⟩)
      | exact Calls.quiet_of_same ((HUS.out _ (Upd.drew _ _)).mono fun _ _ h => ⟨h.1, h.2.symm⟩)
      | exact Calls.quiet_of_same ((HUS.out _ (hpDrewN _ _ _)).mono fun _ _ h => ⟨h.1, h.2.symm⟩))
    go_wp2_with fail
    refine bodyPost_ret (v := .tuple #[.int .i64 0, .bool false]) (by simp only [results, Try.f25]; simp [go_sem]) rfl ?_
    exact ⟨rfl, hpDrewN _ _ _⟩
  · have t1 : decide (life < 0) = true := by simp; omega
    go_enter Try.func25, Try.ntmps25
    go_wp2_with fail
    go_quiet (first
      | exact Calls.quiet_of_same ((HUS.out _ (Upd.refl _ _)).mono fun _ _ h => ⟨h.1, h.2.symm⟩)
      | exact Calls.quiet_of_same ((HUS.out _ (Upd.drew _ _)).mono fun _ _ h => ⟨h.1, h.2.symm⟩)
      | exact Calls.quiet_of_same ((HUS.out _ (hpDrewN _ _ _)).mono fun _ _ h => ⟨h.1, h.2.symm⟩))
    go_wp2_with fail
    refine bodyPost_ret (v := .tuple #[.int .i64 0, .bool false]) (by simp only [results, Try.f25]; simp [go_sem]) rfl ?_
    exact ⟨rfl, hpDrewN _ _ _⟩
  · have t1 : decide (life < 0) = false := by simp; omega
    have t2 : decide (2 < life) = true := by simp; omega
    go_enter Try.func25, Try.ntmps25
    go_wp2_with fail
    go_quiet (first
      | exact Calls.quiet_of_same ((HUS.out _ (Upd.refl _ _)).mono fun _ _ h => ⟨h.1, h.2.symm⟩)
      | exact Calls.quiet_of_same ((HUS.out _ (Upd.drew _ _)).mono fun _ _ h => ⟨h.1, h.2.symm⟩)
      | exact Calls.quiet_of_same ((HUS.out _ (hpDrewN _ _ _)).mono fun _ _ h => ⟨h.1, h.2.symm⟩))
    go_wp2_with fail
    refine bodyPost_ret (v := .tuple #[.int .i64 0, .bool false]) (by simp only [results, Try.f25]; simp [go_sem]) rfl ?_
    exact ⟨rfl, hpDrewN _ _ _⟩
  · have t1 : decide (life < 0) = false := by simp; omega
    have t2 : decide (2 < life) = false := by simp; omega
    have t3 : decide (n < 0) = true := by simp; omega
    go_enter Try.func25, Try.ntmps25
    go_wp2_with fail
    go_quiet (first
      | exact Calls.quiet_of_same ((HUS.out _ (Upd.refl _ _)).mono fun _ _ h => ⟨h.1, h.2.symm⟩)
      | exact Calls.quiet_of_same ((HUS.out _ (Upd.drew _ _)).mono fun _ _ h => ⟨h.1, h.2.symm⟩)
      | exact Calls.quiet_of_same ((HUS.out _ (hpDrewN _ _ _)).mono fun _ _ h => ⟨h.1, h.2.symm⟩))
    go_wp2_with fail
    refine bodyPost_ret (v := .tuple #[.int .i64 0, .bool false]) (by simp only [results, Try.f25]; simp [go_sem]) rfl ?_
    exact ⟨rfl, hpDrewN _ _ _⟩
  · have t1 : decide (life < 0) = false := by simp; omega
    have t2 : decide (2 < life) = false := by simp; omega
    have t3 : decide (n < 0) = false := by simp; omega
    have t4 : decide (64 < n) = true := by simp; omega
    go_enter Try.func25, Try.ntmps25
    go_wp2_with fail
    go_quiet (first
      | exact Calls.quiet_of_same ((HUS.out _ (Upd.refl _ _)).mono fun _ _ h => ⟨h.1, h.2.symm⟩)
      | exact Calls.quiet_of_same ((HUS.out _ (Upd.drew _ _)).mono fun _ _ h => ⟨h.1, h.2.symm⟩)
      | exact Calls.quiet_of_same ((HUS.out _ (hpDrewN _ _ _)).mono fun _ _ h => ⟨h.1, h.2.symm⟩))
    go_wp2_with fail
    refine bodyPost_ret (v := .tuple #[.int .i64 0, .bool false]) (by simp only [results, Try.f25]; simp [go_sem]) rfl ?_
    exact ⟨rfl, hpDrewN _ _ _⟩
  · have t1 : decide (life < 0) = false := by simp; omega
    have t2 : decide (2 < life) = false := by simp; omega
    have t3 : decide (n < 0) = false := by simp; omega
    have t4 : decide (64 < n) = false := by simp; omega
    have hw1 : IntKind.i64.wrap (8 + n) = 8 + n := IntWalk.i64_in _ (by omega)
    have hw2 : IntKind.i64.wrap (sz - (u : Int)) = sz - u := IntWalk.i64_in _ (by omega)
    have t5 : decide (sz - (u : Int) < 8 + n) = true := by simp; omega
    go_enter Try.func25, Try.ntmps25
    go_wp2_with fail
    go_quiet (first
      | exact Calls.quiet_of_same ((HUS.out _ (Upd.refl _ _)).mono fun _ _ h => ⟨h.1, h.2.symm⟩)
      | exact Calls.quiet_of_same ((HUS.out _ (Upd.drew _ _)).mono fun _ _ h => ⟨h.1, h.2.symm⟩)
      | exact Calls.quiet_of_same ((HUS.out _ (hpDrewN _ _ _)).mono fun _ _ h => ⟨h.1, h.2.symm⟩))
    go_wp2_with fail
    refine bodyPost_ret (v := .tuple #[.int .i64 0, .bool false]) (by simp only [results, Try.f25]; simp [go_sem]) rfl ?_
    exact ⟨rfl, hpDrewN _ _ _⟩
end
end Go.Proofs.Yteapemjkfncbjaa

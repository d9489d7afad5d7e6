/- InterpKnown, walked. -/
import Derived.Test.YtdmadfahgkikkaaGreatJrk
namespace Go.Proofs.YtdmadfahgkikkaaGreat
open Go.RowKit Go.Lib Go.ChangeShapes Go.WideShapes Go.Deep Go.MapKept Go.ChangeMaps
set_option linter.unusedVariables false
set_option linter.unusedSimpArgs false

theorem ofRun {r : Option (McM × List (List Int))} {f : McM × List (List Int) → Prop} [DecidablePred f] (h : (match r with | some p => decide (f p) | none => false) = true) : ∃ X fl, r = some (X, fl) ∧ f (X, fl) := by
  match r, h with
  | some (X, fl), h => exact ⟨X, fl, rfl, by simpa using h⟩
def pl (l : List (Int × Int)) : List InsM := l.map (fun p => ⟨p.1, p.2, 0⟩)
def insCells (L : List InsM) : List Value := L.flatMap (fun x => [.int .i64 x.op, .int .i64 x.a, .int .i64 x.b])
theorem insCells_len (L : List InsM) : (insCells L).length = 3 * L.length := by
  induction L with
  | nil => rfl
  | cons x L ih => simp [insCells, List.flatMap_cons] at ih ⊢; omega
theorem insCells_at (L : List InsM) : ∀ {i j : Nat}, i < L.length → j < 3 → (insCells L)[i * 3 + j]? = some (insF L i j) := by
  induction L with
  | nil => intro i j hi; simp at hi
  | cons x L ih =>
    intro i j hi hj
    have hc : insCells (x :: L) = [.int .i64 x.op, .int .i64 x.a, .int .i64 x.b] ++ insCells L := rfl
    rw [hc]
    rcases i with _ | i
    · rw [List.getElem?_append_left (by simp; omega)]
      have hj3 : j = 0 ∨ j = 1 ∨ j = 2 := by omega
      rcases hj3 with rfl | rfl | rfl <;> simp [insF]
    · rw [List.getElem?_append_right (by simp; omega)]
      rw [show (i + 1) * 3 + j - [Value.int .i64 x.op, Value.int .i64 x.a, Value.int .i64 x.b].length = i * 3 + j by simp; omega]
      rw [ih (by simpa using hi) hj]
      simp [insF, List.getD]
/-- a literal list of instructions -/
theorem insLit {w : World} {g : Nat} {C : Array Value} {e : TypeId} {fr : Nat × Nat} {L : List InsM} {n c : Nat} (h : w.heap[g]? = some (.cells C e fr)) (hC : C.toList = insCells L) (hn : n = L.length) (hc : L.length ≤ c) (hm : c ≤ maxLen) (hw : ∀ x ∈ L, wi64 x.op ∧ wi64 x.a ∧ wi64 x.b) : Inss w (.slice (some ⟨g, 0, none⟩) n c) L := by
  subst hn
  refine ⟨⟨_, c, rfl, hc, hm, .inr ⟨g, 0, rfl, fun i hi j hj => ?_⟩⟩, hw⟩
  have h1 := insCells_at L hi hj
  rw [← hC] at h1
  simp only [World.cell?, h, Nat.zero_add]
  simpa using h1
theorem Ran.quiet {w w' : World} {mb rb tb : Nat} {X : McM} {fl : List (List Int)} {I : ImgM} (h : Ran w mb rb tb X fl I) (hu : Upd (fun _ => False) w w') : Ran w' mb rb tb X fl I := by
  obtain ⟨c, mp, tv, M, Ps, hm, hf⟩ := h
  exact ⟨c, mp, tv, M, Ps, hm.quiet hu, hf⟩
section
variable {w : World} {mb rb tb : Nat} {X : McM} {fl : List (List Int)} {I : ImgM}
theorem Ran.status (h : Ran w mb rb tb X fl I) : Calls Tryz.prog 13 #[.pointer (some ⟨mb, 0, none⟩)] w fun e w' => e = .returned (.int .i64 X.status) ∧ w = w' := by
  obtain ⟨c, mp, tv, M, Ps, hm, hf⟩ := h
  exact mStatus hm
theorem Ran.fuel (h : Ran w mb rb tb X fl I) : Calls Tryz.prog 14 #[.pointer (some ⟨mb, 0, none⟩)] w fun e w' => e = .returned (.int .i64 X.fuel) ∧ w = w' := by
  obtain ⟨c, mp, tv, M, Ps, hm, hf⟩ := h
  exact mFuel hm
theorem Ran.depth (h : Ran w mb rb tb X fl I) : Calls Tryz.prog 15 #[.pointer (some ⟨mb, 0, none⟩)] w fun e w' => e = .returned (.int .i64 (X.Fs.length : Int)) ∧ w = w' := by
  obtain ⟨c, mp, tv, M, Ps, hm, hf⟩ := h
  exact mDepth hm
theorem Ran.trace (h : Ran w mb rb tb X fl I) : Calls Tryz.prog 11 #[.pointer (some ⟨mb, 0, none⟩)] w fun e w' => e = .returned (.pointer (some ⟨tb, 0, none⟩)) ∧ w = w' := by
  obtain ⟨c, mp, tv, M, Ps, hm, hf⟩ := h
  exact mTrace hm
theorem Ran.trc (h : Ran w mb rb tb X fl I) : ∃ F, Trc F w tb X.tr := by
  obtain ⟨c, mp, tv, M, Ps, hm, hf⟩ := h
  exact ⟨_, hm.trc⟩
theorem Ran.top (h : Ran w mb rb tb X fl I) (hs : X.status ≠ 0) : Calls Tryz.prog 9 #[.pointer (some ⟨mb, 0, none⟩)] w fun e w' => e = .returned (.tuple #[.int .i64 (-1), .int .i64 (-1), .int .i64 (-1), .slice none 0 0]) ∧ w = w' := by
  obtain ⟨c, mp, tv, M, Ps, hm, hf⟩ := h
  exact mTop_end hm hs
theorem Ran.rm (h : Ran w mb rb tb X fl I) : ∃ c M, Rm c w rb M ∧ M.fields = fl := by
  obtain ⟨c, mp, tv, M, Ps, hm, hf⟩ := h
  exact ⟨c, M, hm.rm.rm, hf⟩
theorem Ran.field (h : Ran w mb rb tb X fl I) {x : Int} (hf : fl = [[x]]) : Calls Tryz.prog 10 #[.pointer (some ⟨rb, 0, none⟩), .int .i64 0, .int .i64 0] w fun e w' => e = .returned (.tuple #[.int .i32 x, .bool true]) ∧ w = w' := by
  obtain ⟨c, M, hr, hm⟩ := h.rm
  rw [hf] at hm
  have h1 := rField hr (i := 0) (k := 0) (by rw [hm]; exact Nat.one_pos) (by rw [hm]; exact Nat.one_pos)
  rw [hm] at h1
  exact h1
theorem Ran.newApp (h : Ran w mb rb tb X fl I) {x : Int} (hf : fl = [[x]]) (n : Int) : Calls Tryz.prog 6 #[.pointer (some ⟨rb, 0, none⟩), .int .i64 1, .int .i64 n] w fun e w' => e = .returned (.tuple #[.pointer none, .int .i64 1]) ∧ w = w' := by
  obtain ⟨c, M, hr, hm⟩ := h.rm
  rw [hf] at hm
  exact iNew_app hr 1 n (by omega) (by rw [hm]; simp)
theorem Ran.newFuel (h : Ran w mb rb tb X fl I) {x : Int} (hf : fl = [[x]]) : Calls Tryz.prog 6 #[.pointer (some ⟨rb, 0, none⟩), .int .i64 0, .int .i64 100001] w fun e w' => e = .returned (.tuple #[.pointer none, .int .i64 1]) ∧ w = w' := by
  obtain ⟨c, M, hr, hm⟩ := h.rm
  rw [hf] at hm
  exact iNew_fuel hr 0 100001 (by omega) (by rw [hm]; simp) (by omega)
end
def kn13 : List InsM := pl [(1, 1), (1, 0), (17, 0), (4, 0), (39, 0)]
theorem kn13_run : ∃ X fl, pRun (imgC kn13) 10 (X0 kn13 99) [[0]] = some (X, fl) ∧ (X.status = 28419 ∧ X.fuel = 96) := ofRun (f := fun p => p.1.status = 28419 ∧ p.1.fuel = 96) (by decide +kernel)
set_option maxRecDepth 100000 in
set_option maxHeartbeats 4000000 in
theorem known13 (w : World) : Calls Tryz.prog 8 #[] w fun e w' => e = .returned (.bool true) ∧ Upd (fun _ => False) w w' := by
  obtain ⟨X, fl, hr, hst, hfl⟩ := kn13_run
  have HR := Lib.hid hr
  have HST := Lib.hid hst
  have HFL := Lib.hid hfl
  clear hr hst hfl
  go_enter Tryz.func8, Tryz.ntmps8
  go_wp2_with fail
  obtain ⟨w1, hw1⟩ : ∃ w1, w1 = w.alloc (.cells #[.int .i64 1, .int .i64 1, .int .i64 0, .int .i64 1, .int .i64 0, .int .i64 0, .int .i64 17, .int .i64 0, .int .i64 0, .int .i64 4, .int .i64 0, .int .i64 0, .int .i64 39, .int .i64 0, .int .i64 0] 30) := ⟨_, rfl⟩
  rw [← hw1]
  have HU1 : Hid (Upd (fun _ => False) w w1) := Lib.hid (by rw [hw1]; exact Upd.alloc _ _ _)
  have HQ1 := Lib.hid (show w1.heap[w.heap.size]? = some (.cells #[.int .i64 1, .int .i64 1, .int .i64 0, .int .i64 1, .int .i64 0, .int .i64 0, .int .i64 17, .int .i64 0, .int .i64 0, .int .i64 4, .int .i64 0, .int .i64 0, .int .i64 39, .int .i64 0, .int .i64 0] 30 (0, 0)) by rw [hw1]; exact hpTop w _ _ rfl)
  clear hw1
  refine (run13 99 (by omega) (insLit (L := kn13) (c := 5) HQ1.out (by rfl) (by rfl) (by decide) (by unfold maxLen; omega) (by simp [kn13, pl, wi64])) (by decide) HR.out).mono ?_
  rintro e w2 ⟨mb, rb, tb, rfl, hra, hu⟩
  obtain ⟨c, mp, tv, M, Ps, hm, -⟩ := hra
  have HMS := Lib.hid (mStatus hm)
  have HMF := Lib.hid (mFuel hm)
  rw [HST.out] at HMS
  rw [HFL.out] at HMF
  have HU2 := Lib.hid (HU1.out.trans hu (fun _ h _ => h))
  clear hm hu HU1
  go_wp2_with fail
  refine HMS.out.mono ?_
  rintro e w' ⟨rfl, rfl⟩
  go_wp2_with fail
  refine HMF.out.mono ?_
  rintro e w' ⟨rfl, rfl⟩
  go_wp2_with fail
  go_ret
  exact ⟨rfl, HU2.out⟩
def knA : List InsM := pl [(1, 7), (3, 0), (2, 0), (34, 0), (39, 0)]
def knB : List InsM := pl [(23, 0)]
def knC : List InsM := pl [(37, 0), (39, 0)]
theorem knA_run : ∃ X fl, pRun (imgC knA) 10 (X0 knA 99) [[0]] = some (X, fl) ∧ (X.status = 36864 ∧ X.fuel = 94 ∧ X.Fs.length = 0 ∧ X.tr.length = 6 ∧ X.tr.getD 2 default = ⟨1, 0, 2, 2⟩ ∧ X.tr.getD 5 default = ⟨5, 36864, 0, 0⟩ ∧ fl = [[7]]) := ofRun (f := fun p => p.1.status = 36864 ∧ p.1.fuel = 94 ∧ p.1.Fs.length = 0 ∧ p.1.tr.length = 6 ∧ p.1.tr.getD 2 default = ⟨1, 0, 2, 2⟩ ∧ p.1.tr.getD 5 default = ⟨5, 36864, 0, 0⟩ ∧ p.2 = [[7]]) (by decide +kernel)
theorem knB_run : ∃ X fl, pRun (imgC knB) 10 (X0 knB 3) [[0]] = some (X, fl) ∧ (X.status = 28423 ∧ X.fuel = 0) := ofRun (f := fun p => p.1.status = 28423 ∧ p.1.fuel = 0) (by decide +kernel)
theorem knC_run : ∃ X fl, pRun (imgC knC) 20 (X0 knC 99) [[0]] = some (X, fl) ∧ (X.status = 28422 ∧ X.Fs.length = 8) := ofRun (f := fun p => p.1.status = 28422 ∧ p.1.Fs.length = 8) (by decide +kernel)
set_option maxRecDepth 100000 in
set_option maxHeartbeats 4000000 in
theorem interpKnown_walk (w : World) : Calls Tryz.prog 3 #[] w fun e w' => e = .returned (.bool true) ∧ Upd (fun _ => False) w w' := by
  obtain ⟨XA, fA, hrA, a1, a2, a3, a4, a5, a6, a7⟩ := knA_run
  obtain ⟨XB, fB, hrB, b1, b2⟩ := knB_run
  obtain ⟨XC, fC, hrC, k1, k2⟩ := knC_run
  have HRA := Lib.hid hrA
  have HRB := Lib.hid hrB
  have HRC := Lib.hid hrC
  have HA1 := Lib.hid a1
  have HA2 := Lib.hid a2
  have HA3 := Lib.hid a3
  have HA4 := Lib.hid a4
  have HA5 := Lib.hid a5
  have HA6 := Lib.hid a6
  have HA7 := Lib.hid a7
  have HB1 := Lib.hid b1
  have HB2 := Lib.hid b2
  have HC1 := Lib.hid k1
  have HC2 := Lib.hid k2
  clear hrA hrB hrC a1 a2 a3 a4 a5 a6 a7 b1 b2 k1 k2
  go_enter Tryz.func3, Tryz.ntmps3
  go_wp2_with fail
  refine (iNew_nil 0 5 w).mono ?_
  rintro e w' ⟨rfl, rfl⟩
  go_wp2_with fail
  obtain ⟨w1, hw1⟩ : ∃ w1, w1 = w.alloc (.cells #[.int .i64 1, .int .i64 7, .int .i64 0, .int .i64 3, .int .i64 0, .int .i64 0, .int .i64 2, .int .i64 0, .int .i64 0, .int .i64 34, .int .i64 0, .int .i64 0, .int .i64 39, .int .i64 0, .int .i64 0] 30) := ⟨_, rfl⟩
  rw [← hw1]
  have HU1 : Hid (Upd (fun _ => False) w w1) := Lib.hid (by rw [hw1]; exact Upd.alloc _ _ _)
  have HQ1 := Lib.hid (show w1.heap[w.heap.size]? = some (.cells #[.int .i64 1, .int .i64 7, .int .i64 0, .int .i64 3, .int .i64 0, .int .i64 0, .int .i64 2, .int .i64 0, .int .i64 0, .int .i64 34, .int .i64 0, .int .i64 0, .int .i64 39, .int .i64 0, .int .i64 0] 30 (0, 0)) by rw [hw1]; exact hpTop w _ _ rfl)
  clear hw1
  refine (run13 99 (by omega) (insLit (L := knA) (c := 5) HQ1.out (by rfl) (by rfl) (by decide) (by unfold maxLen; omega) (by simp [knA, pl, wi64])) (by decide) HRA.out).mono ?_
  rintro e w2 ⟨ma, ra, ta, rfl, hra, hu⟩
  have HAA := Lib.hid hra
  have HU2 := Lib.hid (HU1.out.trans hu (fun _ h _ => h))
  clear hra hu HU1
  go_wp2_with fail
  obtain ⟨w3, hw3⟩ : ∃ w3, w3 = w2.alloc (.cells #[.int .i64 23, .int .i64 0, .int .i64 0] 30) := ⟨_, rfl⟩
  rw [← hw3]
  have HU3 : Hid (Upd (fun _ => False) w2 w3) := Lib.hid (by rw [hw3]; exact Upd.alloc _ _ _)
  have HQ3 := Lib.hid (show w3.heap[w2.heap.size]? = some (.cells #[.int .i64 23, .int .i64 0, .int .i64 0] 30 (0, 0)) by rw [hw3]; exact hpTop w2 _ _ rfl)
  clear hw3
  refine (run13 3 (by omega) (insLit (L := knB) (c := 1) HQ3.out (by rfl) (by rfl) (by decide) (by unfold maxLen; omega) (by simp [knB, pl, wi64])) (by decide) HRB.out).mono ?_
  rintro e w4 ⟨mb, rb, tb, rfl, hrb, hu⟩
  have HBB := Lib.hid hrb
  have HAA4 := Lib.hid ((HAA.out.quiet HU3.out).quiet hu)
  have HU4 := Lib.hid ((HU2.out.trans HU3.out (fun _ h _ => h)).trans hu (fun _ h _ => h))
  clear hrb hu HU3 HAA HU2
  go_wp2_with fail
  obtain ⟨w5, hw5⟩ : ∃ w5, w5 = w4.alloc (.cells #[.int .i64 37, .int .i64 0, .int .i64 0, .int .i64 39, .int .i64 0, .int .i64 0] 30) := ⟨_, rfl⟩
  rw [← hw5]
  have HU5 : Hid (Upd (fun _ => False) w4 w5) := Lib.hid (by rw [hw5]; exact Upd.alloc _ _ _)
  have HQ5 := Lib.hid (show w5.heap[w4.heap.size]? = some (.cells #[.int .i64 37, .int .i64 0, .int .i64 0, .int .i64 39, .int .i64 0, .int .i64 0] 30 (0, 0)) by rw [hw5]; exact hpTop w4 _ _ rfl)
  clear hw5
  refine (run13 99 (by omega) (insLit (L := knC) (c := 2) HQ5.out (by rfl) (by rfl) (by decide) (by unfold maxLen; omega) (by simp [knC, pl, wi64])) (by decide) HRC.out).mono ?_
  rintro e w6 ⟨mc, rc, tc, rfl, hrc, hu⟩
  have HCC := Lib.hid hrc
  have HBB6 := Lib.hid ((HBB.out.quiet HU5.out).quiet hu)
  have HAA6 := Lib.hid ((HAA4.out.quiet HU5.out).quiet hu)
  have HU6 := Lib.hid ((HU4.out.trans HU5.out (fun _ h _ => h)).trans hu (fun _ h _ => h))
  clear hrc hu HU5 HAA4 HU4 HBB
  go_wp2_with fail
  refine (known13 w6).mono ?_
  rintro e w7 ⟨rfl, hu⟩
  have HC7 := Lib.hid (HCC.out.quiet hu)
  have HB7 := Lib.hid (HBB6.out.quiet hu)
  have HAA7 := Lib.hid (HAA6.out.quiet hu)
  have HU7 := Lib.hid (HU6.out.trans hu (fun _ h _ => h))
  clear hu HU6 HAA6 HBB6 HCC
  go_wp2_with fail
  refine (HAA7.out.newApp HA7.out 5).mono ?_
  rintro e w' ⟨rfl, rfl⟩
  go_wp2_with fail
  refine (HAA7.out.newFuel HA7.out).mono ?_
  rintro e w' ⟨rfl, rfl⟩
  go_wp2_with fail
  refine (HAA7.out.top (by rw [HA1.out]; decide)).mono ?_
  rintro e w' ⟨rfl, rfl⟩
  go_wp2_with fail
  refine (HAA7.out.field HA7.out).mono ?_
  rintro e w' ⟨rfl, rfl⟩
  go_wp2_with fail
  refine HAA7.out.trace.mono ?_
  rintro e w' ⟨rfl, rfl⟩
  go_wp2_with fail
  obtain ⟨F, hT⟩ := HAA7.out.trc
  have HT := Lib.hid hT
  have HAT2 := Lib.hid (tAt hT 2 (by rw [HA4.out]; decide) (by rw [HA4.out]; decide))
  have HAT5 := Lib.hid (fun (u : World) (hu : Upd (fun _ => False) w7 u) => tAt (hT.upd hu (fun _ _ h => h)) 5 (by rw [HA4.out]; decide) (by rw [HA4.out]; decide))
  have HLE := Lib.hid (fun (u : World) (hu : Upd (fun _ => False) w7 u) => tLen (hT.upd hu (fun _ _ h => h)))
  rw [HA4.out] at HLE
  rw [HA5.out, show evV ⟨1, 0, 2, 2⟩ = .agg #[.int .i64 1, .int .i64 0, .int .i64 2, .int .i64 2] from rfl] at HAT2
  rw [HA6.out, show evV ⟨5, 36864, 0, 0⟩ = .agg #[.int .i64 5, .int .i64 36864, .int .i64 0, .int .i64 0] from rfl] at HAT5
  clear hT HT
  refine HAT2.out.mono ?_
  rintro e w8 ⟨rfl, hu⟩
  have HU8 := Lib.hid hu
  clear hu
  go_wp2_with fail
  obtain ⟨w8b, hw8⟩ : ∃ w8b, w8b = w8.alloc (.cells #[.int .i64 1, .int .i64 0, .int .i64 2, .int .i64 2] 40) := ⟨_, rfl⟩
  rw [← hw8]
  have hu8 : Upd (fun _ => False) w8 w8b := by rw [hw8]; exact Upd.alloc _ _ _
  have HV8 := Lib.hid (show w8b.heap[w8.heap.size]? = some (.cells #[.int .i64 1, .int .i64 0, .int .i64 2, .int .i64 2] 40 (0, 0)) by rw [hw8]; exact hpTop w8 _ _ rfl)
  have HU8b := Lib.hid (HU8.out.trans hu8 (fun _ h _ => h))
  clear hw8 hu8
  refine (HAT5.out w8b HU8b.out).mono ?_
  rintro e w8c ⟨rfl, hu⟩
  have HU8c := Lib.hid (HU8b.out.trans hu (fun _ h _ => h))
  have HV8c := Lib.hid (hpBlk hu HV8.out (fun h => h))
  clear hu HU8b HV8 HU8
  go_wp2_with fail
  obtain ⟨w9, hw9⟩ : ∃ w9, w9 = w8c.alloc (.cells #[.int .i64 5, .int .i64 36864, .int .i64 0, .int .i64 0] 40) := ⟨_, rfl⟩
  rw [← hw9]
  have hu9 : Upd (fun _ => False) w8c w9 := by rw [hw9]; exact Upd.alloc _ _ _
  have hv9 : w9.heap[w8c.heap.size]? = some (.cells #[.int .i64 5, .int .i64 36864, .int .i64 0, .int .i64 0] 40 (0, 0)) := by rw [hw9]; exact hpTop w8c _ _ rfl
  have hv8 := hpBlk hu9 HV8c.out (fun h => h)
  obtain ⟨q0, q1, q2, q3⟩ : w9.cell? ⟨w8.heap.size, 0, none⟩ = some (.int .i64 1) ∧ w9.cell? ⟨w8.heap.size, 1, none⟩ = some (.int .i64 0) ∧ w9.cell? ⟨w8.heap.size, 2, none⟩ = some (.int .i64 2) ∧ w9.cell? ⟨w8.heap.size, 3, none⟩ = some (.int .i64 2) := by
    refine ⟨?_, ?_, ?_, ?_⟩ <;> simp [World.cell?, hv8]
  obtain ⟨p0, p1, p2, p3⟩ : w9.cell? ⟨w8c.heap.size, 0, none⟩ = some (.int .i64 5) ∧ w9.cell? ⟨w8c.heap.size, 1, none⟩ = some (.int .i64 36864) ∧ w9.cell? ⟨w8c.heap.size, 2, none⟩ = some (.int .i64 0) ∧ w9.cell? ⟨w8c.heap.size, 3, none⟩ = some (.int .i64 0) := by
    refine ⟨?_, ?_, ?_, ?_⟩ <;> simp [World.cell?, hv9]
  have HU9 := Lib.hid (HU8c.out.trans hu9 (fun _ h _ => h))
  clear hw9 hu9 hv9 hv8 HU8c HV8c
  have HC9 := Lib.hid (HC7.out.quiet HU9.out)
  have HB9 := Lib.hid (HB7.out.quiet HU9.out)
  have HAA9 := Lib.hid (HAA7.out.quiet HU9.out)
  have HS1 := Lib.hid HAA9.out.status
  rw [HA1.out] at HS1
  have HS2 := Lib.hid HAA9.out.fuel
  rw [HA2.out] at HS2
  have HS3 := Lib.hid HAA9.out.depth
  rw [HA3.out] at HS3
  have HS4 := Lib.hid (HLE.out w9 HU9.out)
  have HS5 := Lib.hid HB9.out.status
  rw [HB1.out] at HS5
  have HS6 := Lib.hid HB9.out.fuel
  rw [HB2.out] at HS6
  have HS7 := Lib.hid HC9.out.status
  rw [HC1.out] at HS7
  have HS8 := Lib.hid HC9.out.depth
  rw [HC2.out] at HS8
  have HUU := Lib.hid (HU7.out.trans HU9.out (fun _ h _ => h))
  clear HAT2 HAT5 HLE
  refine HS1.out.mono ?_
  rintro e w' ⟨rfl, rfl⟩
  go_wp2_with fail
  refine HS2.out.mono ?_
  rintro e w' ⟨rfl, rfl⟩
  go_wp2_with fail
  refine HS3.out.mono ?_
  rintro e w' ⟨rfl, rfl⟩
  go_wp2_with fail
  refine HS4.out.mono ?_
  rintro e w' ⟨rfl, rfl⟩
  go_wp2_with fail
  refine HS5.out.mono ?_
  rintro e w' ⟨rfl, rfl⟩
  go_wp2_with fail
  refine HS6.out.mono ?_
  rintro e w' ⟨rfl, rfl⟩
  go_wp2_with fail
  refine HS7.out.mono ?_
  rintro e w' ⟨rfl, rfl⟩
  go_wp2_with fail
  refine HS8.out.mono ?_
  rintro e w' ⟨rfl, rfl⟩
  go_wp2_with fail
  go_ret
  exact ⟨rfl, HUU.out⟩
theorem interpKnown_below (w : World) : Calls Tryz.prog 3 #[] w fun e w' => e = .returned (.bool true) ∧ Below w.heap.size w w' := (interpKnown_walk w).mono fun _ _ h => ⟨h.1, h.2.below (Nat.le_refl _) (fun _ h => h.elim)⟩
end Go.Proofs.YtdmadfahgkikkaaGreat

/- InterpSums: the plain run. -/
import Derived.Test.YtdmadfahgkikkaaGreatJsk
namespace Go.Proofs.YtdmadfahgkikkaaGreat
open Go.RowKit Go.Lib Go.ChangeShapes Go.WideShapes Go.Deep Go.MapKept Go.ChangeMaps
set_option linter.unusedVariables false
set_option linter.unusedSimpArgs false

theorem pRun_step {I : ImgM} {n : Nat} {X X' : McM} {fl fl' : List (List Int)} (h : pStep I X fl = some (X', fl')) (h0 : X'.status = 0) : pRun I (n + 1) X fl = pRun I n X' fl' := by
  conv => lhs; unfold pRun
  rw [h]
  simp only [h0, if_true]
theorem pRun_last {I : ImgM} {n : Nat} {X X' : McM} {fl fl' : List (List Int)} (h : pStep I X fl = some (X', fl')) (h0 : X'.status ≠ 0) : pRun I (n + 1) X fl = some (X', fl') := by
  conv => lhs; unfold pRun
  rw [h]
  simp only [h0, if_false]
def frC (C : List InsM) (pc : Nat) (st : List Int) : FrM := ⟨0, 0, (pc : Int), ⟨[], 0, [1], C⟩, [0], st⟩
def XC (C : List InsM) (pc : Nat) (st : List Int) (f : Int) (t : List EvM) : McM := ⟨[frC C pc st], f, 0, t⟩
theorem drop_at {C : List InsM} {pc : Nat} {x : InsM} {R : List InsM} (h : C.drop pc = x :: R) : C.getD pc default = x ∧ pc < C.length ∧ C.drop (pc + 1) = R := by
  have h1 : pc < C.length := by
    apply Nat.lt_of_not_le
    intro hc
    rw [List.drop_of_length_le hc] at h
    cases h
  rw [List.drop_eq_getElem_cons h1] at h
  simp only [List.cons.injEq] at h
  exact ⟨by simp [List.getD, h1, h.1], h1, h.2⟩
section
variable {C R : List InsM} {pc : Nat} {st : List Int} {f : Int} {t : List EvM} {fl : List (List Int)}
theorem pStep_of {i : InsM} {st' : Int} {Fs' : List FrM} {fl' : List (List Int)} (hd : C.drop pc = i :: R) (hp : pc ≤ 1000) (hs : st.length < 1000) (hf : 0 < f ∧ f ≤ 1000) (hi : pIns (imgC C) (frC C pc st) [] fl i = some (st', Fs', fl')) :
    pStep (imgC C) (XC C pc st f t) fl = some ((XC C pc st f t).step (frC C pc st) i.op st' Fs', fl') := by
  obtain ⟨h1, h2, -⟩ := drop_at hd
  have hok : pOk (frC C pc st) := ⟨Int.natCast_nonneg _, by show (pc : Int).toNat < C.length; omega, by show (pc : Int).toNat ≤ 1000000; omega, by show (0 : Int) ≤ 0; omega, by show (0 : Int) ≤ 1000000; omega, rfl, by show st.length < 1000000; omega⟩
  have hg : (frC C pc st).m.code.getD (frC C pc st).pc.toNat default = i := by
    show C.getD ((pc : Int).toNat) default = i
    rw [show ((pc : Int).toNat) = pc by omega]
    exact h1
  unfold pStep
  rw [if_neg (by show f ≠ 0; omega), if_pos (by show 0 < f ∧ f ≤ 1000000000; omega)]
  show (if pOk (frC C pc st) then _ else none) = _
  rw [if_pos hok, hg, hi]
theorem step_push {x b : Int} (hd : C.drop pc = ⟨1, x, b⟩ :: R) (hp : pc ≤ 1000) (hs : st.length < 1000) (hf : 0 < f ∧ f ≤ 1000) :
    ∃ t', pStep (imgC C) (XC C pc st f t) fl = some (XC C (pc + 1) (st ++ [wrap32 x]) (f - 1) t', fl) :=
  ⟨_, pStep_of (st' := 0) (Fs' := [frC C (pc + 1) (st ++ [wrap32 x])]) (fl' := fl) hd hp hs hf rfl⟩
theorem step_bin {op x y a b : Int} (ho : 6 ≤ op ∧ op ≤ 14 ∨ 19 ≤ op ∧ op ≤ 21) (hd : C.drop pc = ⟨op, a, b⟩ :: R) (hp : pc ≤ 1000) (hf : 0 < f ∧ f ≤ 1000) :
    ∃ t', pStep (imgC C) (XC C pc [x, y] f t) fl = some (XC C (pc + 1) [binI op x y] (f - 1) t', fl) := by
  refine ⟨_, pStep_of (st' := 0) (Fs' := [frC C (pc + 1) [binI op x y]]) (fl' := fl) hd hp (by show 2 < 1000; omega) hf ?_⟩
  simp only [pIns]
  rw [if_neg (by omega), if_neg (by omega), if_neg (by omega), if_pos ho]
  rfl
theorem step_putf {v x a b : Int} (hd : C.drop pc = ⟨34, 0, b⟩ :: R) (hp : pc ≤ 1000) (hf : 0 < f ∧ f ≤ 1000) :
    ∃ t', pStep (imgC C) (XC C pc [v] f t) [[x]] = some (XC C (pc + 1) [] (f - 1) t', [[v]]) :=
  ⟨_, pStep_of (st' := 0) (Fs' := [frC C (pc + 1) []]) (fl' := [[v]]) hd hp (by show 1 < 1000; omega) hf rfl⟩
theorem step_ret {a b : Int} (hd : C.drop pc = ⟨39, a, b⟩ :: R) (hp : pc ≤ 1000) (hs : st.length < 1000) (hf : 0 < f ∧ f ≤ 1000) :
    ∃ X', pStep (imgC C) (XC C pc st f t) fl = some (X', fl) ∧ X'.status = 36864 ∧ X'.fuel = f - 1 :=
  ⟨_, pStep_of (st' := 36864) (Fs' := []) (fl' := fl) hd hp hs hf rfl, rfl, rfl⟩
end
def tailC (ps : List (Int × Int)) : List InsM := ps.flatMap (fun p => [⟨1, p.2, 0⟩, ⟨p.1, 0, 0⟩]) ++ [⟨34, 0, 0⟩, ⟨39, 0, 0⟩]
def sumV (v : Int) (ps : List (Int × Int)) : Int := ps.foldl (fun v p => binI p.1 v p.2) v
theorem tailC_len (ps : List (Int × Int)) : (tailC ps).length = 2 * ps.length + 2 := by
  unfold tailC
  induction ps with
  | nil => rfl
  | cons p ps ih => simp [List.flatMap_cons] at ih ⊢; omega
theorem wrap32_in {x : Int} (h : i32r x) : wrap32 x = x := by unfold i32r at h; unfold wrap32; omega
/-- the rest of a sum is done -/
theorem run_tail {C : List InsM} (hC : C.length ≤ 200) (ps : List (Int × Int)) : ∀ (pc : Nat) (v : Int) (f : Int) (t : List EvM), C.drop pc = tailC ps → (∀ p ∈ ps, (6 ≤ p.1 ∧ p.1 ≤ 14 ∨ 19 ≤ p.1 ∧ p.1 ≤ 21) ∧ i32r p.2) → f ≤ 1000 → 2 * (ps.length : Int) + 2 ≤ f →
    ∃ X', pRun (imgC C) (2 * ps.length + 2) (XC C pc [v] f t) [[0]] = some (X', [[sumV v ps]]) ∧ X'.status = 36864 ∧ X'.fuel = f - (2 * ps.length + 2) := by
  induction ps with
  | nil =>
    intro pc v f t hd _ hf1 hf2
    simp only [List.length_nil, Int.natCast_zero] at hf2
    have hd1 : C.drop pc = ⟨34, 0, 0⟩ :: [⟨39, 0, 0⟩] := hd
    obtain ⟨-, h1, hd2⟩ := drop_at hd1
    obtain ⟨t1, hs1⟩ := step_putf (C := C) (v := v) (x := 0) (a := 0) (t := t) hd1 (by omega) (f := f) (by omega)
    obtain ⟨X', hs2, hst, hfu⟩ := step_ret (C := C) (st := []) (t := t1) (fl := [[v]]) hd2 (by omega) (by show 0 < 1000; omega) (f := f - 1) (by omega)
    refine ⟨X', ?_, hst, by rw [hfu]; simp; omega⟩
    rw [show 2 * ([] : List (Int × Int)).length + 2 = 1 + 1 from rfl, pRun_step hs1 rfl]
    exact pRun_last hs2 (by rw [hst]; decide)
  | cons p ps ih =>
    intro pc v f t hd hv hf1 hf2
    simp only [List.length_cons] at hf2
    have hd1 : C.drop pc = ⟨1, p.2, 0⟩ :: (⟨p.1, 0, 0⟩ :: tailC ps) := hd
    obtain ⟨-, h1, hd2⟩ := drop_at hd1
    obtain ⟨-, h2, hd3⟩ := drop_at hd2
    obtain ⟨ho, hr⟩ := hv p (List.mem_cons_self ..)
    obtain ⟨t1, hs1⟩ := step_push (C := C) (st := [v]) (t := t) (fl := [[0]]) hd1 (by omega) (by show 1 < 1000; omega) (f := f) (by omega)
    rw [wrap32_in hr, show [v] ++ [p.2] = [v, p.2] from rfl] at hs1
    obtain ⟨t2, hs2⟩ := step_bin (C := C) (x := v) (y := p.2) (t := t1) (fl := [[0]]) ho hd2 (by omega) (f := f - 1) (by omega)
    obtain ⟨X', hX, hst, hfu⟩ := ih (pc + 1 + 1) (binI p.1 v p.2) (f - 1 - 1) t2 hd3 (fun q hq => hv q (List.mem_cons_of_mem _ hq)) (by omega) (by omega)
    refine ⟨X', ?_, hst, by rw [hfu]; simp; omega⟩
    rw [show 2 * (p :: ps).length + 2 = (2 * ps.length + 2 + 1) + 1 by simp; omega, pRun_step hs1 rfl, pRun_step hs2 rfl]
    exact hX
/-- a sum's code -/
def sumC : List (Int × Int) → Int → List InsM := fun ps v => ⟨1, v, 0⟩ :: tailC ps
theorem run_sum (v : Int) (hv : i32r v) (ps : List (Int × Int)) (hl : ps.length ≤ 24) (hp : ∀ p ∈ ps, (6 ≤ p.1 ∧ p.1 ≤ 14 ∨ 19 ≤ p.1 ∧ p.1 ≤ 21) ∧ i32r p.2) :
    ∃ X', pRun (imgC (sumC ps v)) (2 * ps.length + 2 + 1) (X0 (sumC ps v) 200) [[0]] = some (X', [[sumV v ps]]) ∧ X'.status = 36864 ∧ X'.fuel = 200 - ((sumC ps v).length : Int) := by
  have hL : (sumC ps v).length = 2 * ps.length + 3 := by simp [sumC, tailC_len]
  have hd : (sumC ps v).drop 0 = ⟨1, v, 0⟩ :: tailC ps := rfl
  obtain ⟨t1, hs1⟩ := step_push (C := sumC ps v) (st := []) (t := []) (fl := [[0]]) hd (by omega) (by show 0 < 1000; omega) (f := 200) (by omega)
  rw [wrap32_in hv] at hs1
  obtain ⟨X', hX, hst, hfu⟩ := run_tail (C := sumC ps v) (by omega) ps 1 v (200 - 1) t1 rfl hp (by omega) (by omega)
  refine ⟨X', ?_, hst, by rw [hfu, hL]; omega⟩
  rw [show X0 (sumC ps v) 200 = XC (sumC ps v) 0 [] 200 [] from rfl, pRun_step hs1 rfl]
  exact hX
end Go.Proofs.YtdmadfahgkikkaaGreat

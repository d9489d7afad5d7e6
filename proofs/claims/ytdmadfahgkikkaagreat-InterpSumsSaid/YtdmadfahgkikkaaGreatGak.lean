/- Package wall, and the reference's: May, Check, Range. -/
import Derived.Test.YtdmadfahgkikkaaGreatHwk
import Derived.Deep.QuietTactic
namespace Go.Proofs.YtdmadfahgkikkaaGreat
open Go.RowKit Go.Lib Go.ChangeShapes Go.WideShapes Go.Deep
set_option linter.unusedVariables false
set_option linter.unusedSimpArgs false

def mayB (a : ArrM) (ap : Int) : Bool := a.own == -1 || a.own == ap || a.sh
def thereB (L : List ArrM) (ref ap : Int) : Bool := hasB L.length ref && mayB (L.getD (ref - 1).toNat default) ap
def chkP (L : List ArrM) (ref ap : Int) : Int := if hasB L.length ref then (if mayB (L.getD (ref - 1).toNat default) ap then 36864 else 28420) else 28417
def lenP (L : List ArrM) (ref ap : Int) : Int := if thereB L ref ap then ((L.getD (ref - 1).toNat default).data.length : Int) else 0
def winB (at_ n len : Int) : Bool := decide (0 ≤ at_) && decide (0 ≤ n) && decide (n ≤ len - at_)
def rngP (L : List ArrM) (ref at_ n ap : Int) : Int := if chkP L ref ap = 36864 then (if winB at_ n (lenP L ref ap) then 36864 else 28418) else chkP L ref ap
theorem chk_three (L : List ArrM) (ref ap : Int) : (hasB L.length ref = false ∧ chkP L ref ap = 28417 ∧ lenP L ref ap = 0) ∨ ∃ i : Nat, i < L.length ∧ ref = (i : Int) + 1 ∧
    ((mayB (L.getD i default) ap = false ∧ chkP L ref ap = 28420 ∧ lenP L ref ap = 0) ∨ (mayB (L.getD i default) ap = true ∧ chkP L ref ap = 36864 ∧ lenP L ref ap = ((L.getD i default).data.length : Int))) := by
  cases h : hasB L.length ref with
  | false => exact .inl ⟨rfl, by simp [chkP, h], by simp [lenP, thereB, h]⟩
  | true =>
    have h1 : 1 ≤ ref ∧ ref ≤ (L.length : Int) := by simpa [hasB] using h
    obtain ⟨i, hi⟩ : ∃ i : Nat, ref = (i : Int) + 1 := ⟨(ref - 1).toNat, by omega⟩
    have e : (ref - 1).toNat = i := by omega
    refine .inr ⟨i, by omega, hi, ?_⟩
    cases hm : mayB (L.getD i default) ap with
    | false => exact .inl ⟨rfl, by simp only [chkP, h, e, hm]; rfl, by simp only [lenP, thereB, h, e, hm]; rfl⟩
    | true => exact .inr ⟨rfl, by simp only [chkP, h, e, hm]; rfl, by simp only [lenP, thereB, h, e, hm]; rfl⟩

theorem wMay (own lab life : Int) (sh : Bool) (da : Option Addr) (dn dc : Nat) (ys : List Int) (ap : Int) (w : World) : Calls Tryz.prog 113 #[.agg #[.int .i64 own, .int .i64 lab, .int .i64 life, .bool sh, .slice da dn dc], .int .i64 ap] w fun e w' => e = .returned (.bool (mayB ⟨own, lab, life, sh, ys⟩ ap)) ∧ Upd (fun _ => False) w w' := by
  go_enter Tryz.func113, Tryz.ntmps113
  go_wp2
  all_goals
    go_ret
    refine ⟨hpRet ?_, Upd.alloc _ _ _⟩
    go_light
    simp_all [mayB]
theorem wWithin (at_ n len : Int) (w : World) (hl : 0 ≤ len ∧ len ≤ 64) (ha : at_ ≤ 9223372036854775807) : Calls Tryz.prog 115 #[.int .i64 at_, .int .i64 n, .int .i64 len] w fun e w' => e = .returned (.bool (winB at_ n len)) ∧ w = w' := by
  by_cases h1 : 0 ≤ at_
  · have hw : IntKind.i64.wrap (len - at_) = len - at_ := IntWalk.i64_in _ (by omega)
    by_cases h2 : 0 ≤ n
    · by_cases h3 : n ≤ len - at_
      · have HR : Hid (winB at_ n len = true) := Lib.hid (by simp [winB]; omega)
        go_enter Tryz.func115, Tryz.ntmps115
        go_wp2
        go_ret
        refine ⟨hpRet ?_, rfl⟩
        rw [HR.out]
      · have HR : Hid (winB at_ n len = false) := Lib.hid (by simp [winB]; omega)
        go_enter Tryz.func115, Tryz.ntmps115
        go_wp2
        go_ret
        refine ⟨hpRet ?_, rfl⟩
        rw [HR.out]
    · have HR : Hid (winB at_ n len = false) := Lib.hid (by simp [winB]; omega)
      go_enter Tryz.func115, Tryz.ntmps115
      go_wp2
      go_ret
      refine ⟨hpRet ?_, rfl⟩
      rw [HR.out]
  · have HR : Hid (winB at_ n len = false) := Lib.hid (by simp [winB]; omega)
    go_enter Tryz.func115, Tryz.ntmps115
    go_wp2
    go_ret
    refine ⟨hpRet ?_, rfl⟩
    rw [HR.out]

section
variable {F : Nat → Prop} {w : World} {b : Nat} {m : HpM}
theorem wReach_nil (ref ap : Int) (w : World) : Calls Tryz.prog 107 #[.pointer none, .int .i64 ref, .int .i64 ap] w fun e w' => e = .returned (.tuple #[.int .i64 0, .int .i64 27013]) ∧ w = w' := by
  go_enter Tryz.func107, Tryz.ntmps107
  go_wp2
  refine bodyPost_ret (v := .tuple #[.int .i64 0, .int .i64 27013]) (by simp only [results, Tryz.f107]; simp [go_sem]) rfl ?_
  exact ⟨rfl, rfl⟩
set_option maxRecDepth 100000 in
theorem wReach (h : Hep HT F w b m) (hl : m.arrs.length ≤ 1000) (ref ap : Int) : Calls Tryz.prog 107 #[.pointer (some ⟨b, 0, none⟩), .int .i64 ref, .int .i64 ap] w fun e w' => e = .returned (.tuple #[.int .i64 (lenP m.arrs ref ap), .int .i64 (chkP m.arrs ref ap)]) ∧ Upd (fun _ => False) w w' := by
  rcases chk_three m.arrs ref ap with ⟨hno, e1, e2⟩ | ⟨i, hi, rfl, hm⟩
  · rw [e1, e2]
    have HA := Lib.hid (pArray_no h ref hno)
    clear h e1 e2 hno
    go_enter Tryz.func107, Tryz.ntmps107
    go_wp2_with fail
    refine HA.out.mono ?_
    rintro e w1 ⟨rfl, hu⟩
    have HU := Lib.hid (hu.trans (Upd.alloc (fun _ => False) w1 (.cells #[.int .i64 0, .int .i64 0, .int .i64 0, .bool false, .slice none 0 0] 89)) (fun _ h _ => h))
    clear hu
    simp only [zarr]
    go_wp2_with fail
    refine bodyPost_ret (v := .tuple #[.int .i64 0, .int .i64 28417]) (by simp only [results, Tryz.f107]; simp [go_sem]) rfl ?_
    exact ⟨rfl, HU.out⟩
  · have HA := Lib.hid (pArray h hi hl)
    clear h
    generalize m.arrs.getD i default = a at *
    obtain ⟨own, lab, life, sh, ys⟩ := a
    rcases hm with ⟨hm, e1, e2⟩ | ⟨hm, e1, e2⟩
    · rw [e1, e2]
      have HM := Lib.hid hm
      clear e1 e2 hm
      go_enter Tryz.func107, Tryz.ntmps107
      go_wp2_with fail
      refine HA.out.mono ?_
      rintro e w1 ⟨d, rfl, hn⟩
      obtain ⟨da, dc, rfl⟩ := ownsRow_slice hn.1
      obtain ⟨w2, hw2⟩ : ∃ w2, w2 = w1.alloc (.cells #[.int .i64 own, .int .i64 lab, .int .i64 life, .bool sh, .slice da ys.length dc] 89) := ⟨_, rfl⟩
      have hu2 : Upd (fun _ => False) w w2 := by rw [hw2]; exact hn.2.1.trans (Upd.alloc _ _ _) (fun _ h _ => h)
      have hx2 : w2.heap[w1.heap.size]? = some (.cells #[.int .i64 own, .int .i64 lab, .int .i64 life, .bool sh, .slice da ys.length dc] 89 (0, 0)) := by rw [hw2]; exact hpTop _ _ _ rfl
      have HX2 := Lib.hid hx2
      obtain ⟨c0, c1, c2, c3, c4, -⟩ := five hx2
      have HW2 := Lib.hid hw2
      have HU2 := Lib.hid hu2
      have HMY := Lib.hid (wMay own lab life sh da ys.length dc ys ap w2)
      rw [HM.out] at HMY
      clear hn hu2 hx2 hw2
      simp only [aval]
      go_wp2_with fail
      rw [← HW2.out]
      go_wp2_with fail
      refine HMY.out.mono ?_
      rintro e w3 ⟨rfl, hu3⟩
      have HU3 := Lib.hid (HU2.out.trans hu3 (fun _ h _ => h))
      obtain ⟨d0, d1, d2, d3, d4, -⟩ := five (hpBlk hu3 HX2.out (fun h => h))
      clear hu3 c0 c1 c2 c3 c4
      go_wp2_with fail
      refine bodyPost_ret (v := .tuple #[.int .i64 0, .int .i64 28420]) (by simp only [results, Tryz.f107]; simp [go_sem]) rfl ?_
      exact ⟨rfl, HU3.out⟩
    · rw [e1, e2]
      have HM := Lib.hid hm
      clear e1 e2 hm
      go_enter Tryz.func107, Tryz.ntmps107
      go_wp2_with fail
      refine HA.out.mono ?_
      rintro e w1 ⟨d, rfl, hn⟩
      obtain ⟨da, dc, rfl⟩ := ownsRow_slice hn.1
      obtain ⟨w2, hw2⟩ : ∃ w2, w2 = w1.alloc (.cells #[.int .i64 own, .int .i64 lab, .int .i64 life, .bool sh, .slice da ys.length dc] 89) := ⟨_, rfl⟩
      have hu2 : Upd (fun _ => False) w w2 := by rw [hw2]; exact hn.2.1.trans (Upd.alloc _ _ _) (fun _ h _ => h)
      have hx2 : w2.heap[w1.heap.size]? = some (.cells #[.int .i64 own, .int .i64 lab, .int .i64 life, .bool sh, .slice da ys.length dc] 89 (0, 0)) := by rw [hw2]; exact hpTop _ _ _ rfl
      have HX2 := Lib.hid hx2
      obtain ⟨c0, c1, c2, c3, c4, -⟩ := five hx2
      have HW2 := Lib.hid hw2
      have HU2 := Lib.hid hu2
      have HMY := Lib.hid (wMay own lab life sh da ys.length dc ys ap w2)
      rw [HM.out] at HMY
      clear hn hu2 hx2 hw2
      simp only [aval]
      go_wp2_with fail
      rw [← HW2.out]
      go_wp2_with fail
      refine HMY.out.mono ?_
      rintro e w3 ⟨rfl, hu3⟩
      have HU3 := Lib.hid (HU2.out.trans hu3 (fun _ h _ => h))
      obtain ⟨d0, d1, d2, d3, d4, -⟩ := five (hpBlk hu3 HX2.out (fun h => h))
      clear hu3 c0 c1 c2 c3 c4
      go_wp2_with fail
      refine bodyPost_ret (v := .tuple #[.int .i64 (ys.length : Nat), .int .i64 36864]) (by simp only [results, Tryz.f107]; simp [go_sem]) rfl ?_
      exact ⟨rfl, HU3.out⟩
theorem hep_dl (h : Hep HT F w b m) {i : Nat} (hi : i < m.arrs.length) : (m.arrs.getD i default).data.length ≤ 64 := by
  obtain ⟨av, R, h, hR⟩ := h
  obtain ⟨hr, e⟩ := fst_at hR hi
  rw [← e]
  exact (h.dat _ (List.getElem_mem hr)).len
theorem len_small (h : Hep HT F w b m) (ref ap : Int) : 0 ≤ lenP m.arrs ref ap ∧ lenP m.arrs ref ap ≤ 64 := by
  rcases chk_three m.arrs ref ap with ⟨-, -, e⟩ | ⟨i, hi, rfl, ⟨-, -, e⟩ | ⟨-, -, e⟩⟩
  · omega
  · omega
  · have := hep_dl h hi
    omega
theorem wCheck_nil (ref ap : Int) (w : World) : Calls Tryz.prog 94 #[.pointer none, .int .i64 ref, .int .i64 ap] w fun e w' => e = .returned (.int .i64 27013) ∧ w = w' := by
  go_enter Tryz.func94, Tryz.ntmps94
  go_wp2_with (refine (wReach_nil ref ap w).mono ?_; rintro e w1 ⟨rfl, rfl⟩)
  go_ret
  exact ⟨rfl, rfl⟩
theorem wCheck (h : Hep HT F w b m) (hl : m.arrs.length ≤ 1000) (ref ap : Int) : Calls Tryz.prog 94 #[.pointer (some ⟨b, 0, none⟩), .int .i64 ref, .int .i64 ap] w fun e w' => e = .returned (.int .i64 (chkP m.arrs ref ap)) ∧ Upd (fun _ => False) w w' := by
  have HR := Lib.hid (wReach h hl ref ap)
  clear h
  generalize lenP m.arrs ref ap = ln at *
  generalize chkP m.arrs ref ap = st at *
  go_enter Tryz.func94, Tryz.ntmps94
  go_wp2_with (refine HR.out.mono ?_; rintro e w1 ⟨rfl, hu⟩; have HU := Lib.hid hu; clear hu)
  go_ret
  exact ⟨rfl, HU.out⟩
theorem wRange_nil (ref at_ n ap : Int) (w : World) : Calls Tryz.prog 110 #[.pointer none, .int .i64 ref, .int .i64 at_, .int .i64 n, .int .i64 ap] w fun e w' => e = .returned (.int .i64 27013) ∧ w = w' := by
  go_enter Tryz.func110, Tryz.ntmps110
  go_wp2_with (refine (wReach_nil ref ap w).mono ?_; rintro e w1 ⟨rfl, rfl⟩)
  go_ret
  exact ⟨rfl, rfl⟩
theorem wRange (h : Hep HT F w b m) (hl : m.arrs.length ≤ 1000) (ref at_ n ap : Int) (ha : at_ ≤ 9223372036854775807) : Calls Tryz.prog 110 #[.pointer (some ⟨b, 0, none⟩), .int .i64 ref, .int .i64 at_, .int .i64 n, .int .i64 ap] w fun e w' => e = .returned (.int .i64 (rngP m.arrs ref at_ n ap)) ∧ Upd (fun _ => False) w w' := by
  have HR := Lib.hid (wReach h hl ref ap)
  have HI := Lib.hid (wWithin at_ n (lenP m.arrs ref ap) · (len_small h ref ap) ha)
  have hc : chkP m.arrs ref ap = 36864 ∨ ((chkP m.arrs ref ap != 36864) = true ∧ chkP m.arrs ref ap ≠ 36864) := by
    by_cases h : chkP m.arrs ref ap = 36864
    · exact .inl h
    · exact .inr ⟨by simpa using h, h⟩
  have HG := Lib.hid (show rngP m.arrs ref at_ n ap = if chkP m.arrs ref ap = 36864 then (if winB at_ n (lenP m.arrs ref ap) then 36864 else 28418) else chkP m.arrs ref ap from rfl)
  clear h
  generalize rngP m.arrs ref at_ n ap = rg at *
  generalize lenP m.arrs ref ap = ln at *
  generalize chkP m.arrs ref ap = st at *
  rcases hc with rfl | ⟨hc1, hc2⟩
  · cases hin : winB at_ n ln with
    | true =>
      rw [hin] at HI HG
      have HG2 : Hid (rg = 36864) := Lib.hid (by simpa using HG.out)
      clear HG hin
      go_enter Tryz.func110, Tryz.ntmps110
      go_wp2_with (first
        | (refine HR.out.mono ?_; rintro e w1 ⟨rfl, hu⟩; have HU := Lib.hid hu; clear hu)
        | (refine (HI.out _).mono ?_; rintro e w2 ⟨rfl, rfl⟩))
      go_ret
      refine ⟨?_, HU.out⟩
      rw [HG2.out]
      rfl
    | false =>
      rw [hin] at HI HG
      have HG2 : Hid (rg = 28418) := Lib.hid (by simpa using HG.out)
      clear HG hin
      go_enter Tryz.func110, Tryz.ntmps110
      go_wp2_with (first
        | (refine HR.out.mono ?_; rintro e w1 ⟨rfl, hu⟩; have HU := Lib.hid hu; clear hu)
        | (refine (HI.out _).mono ?_; rintro e w2 ⟨rfl, rfl⟩))
      go_ret
      refine ⟨?_, HU.out⟩
      rw [HG2.out]
      rfl
  · have HG2 : Hid (rg = st) := Lib.hid (by rw [HG.out, if_neg hc2])
    clear HG hc2
    go_enter Tryz.func110, Tryz.ntmps110
    go_wp2_with (refine HR.out.mono ?_; rintro e w1 ⟨rfl, hu⟩; have HU := Lib.hid hu; clear hu)
    go_ret
    refine ⟨?_, HU.out⟩
    rw [HG2.out]
    rfl
end
end Go.Proofs.YtdmadfahgkikkaaGreat

/- Several texts in one. -/
import Derived.Test.YtdmadfahgkikkaaDoorKHj
import Derived.Deep.QuietTactic
import Derived.Test.YtdmadfahgkikkaaDoorKKa
import Derived.LoopTactic
import Derived.Deep.RegionLaw
/- Package wall, and the reference's: May, Check, Range. -/
namespace Go.Proofs.YtdmadfahgkikkaaDoor
open Go.RowKit Go.Lib Go.ChangeShapes Go.WideShapes Go.Deep
set_option linter.unusedVariables false
set_option linter.unusedSimpArgs false

def mayB (a : ArrM) (ap : Int) : Bool := a.own == -1 || a.own == ap || a.sh
def thereB (L : List ArrM) (ref ap : Int) : Bool := hasB L.length ref && mayB (L.getD (ref - 1).toNat default) ap
def chkP (L : List ArrM) (ref ap : Int) : Int := if hasB L.length ref then (if mayB (L.getD (ref - 1).toNat default) ap then 36864 else 28420) else 28417
def lenP (L : List ArrM) (ref ap : Int) : Int := if thereB L ref ap then ((L.getD (ref - 1).toNat default).data.length : Int) else 0
def winB (at_ n len : Int) : Bool := decide (0 ≤ at_) && decide (0 ≤ n) && decide (n ≤ len - at_)
def rngP (L : List ArrM) (ref at_ n ap : Int) : Int := if chkP L ref ap = 36864 then (if winB at_ n (lenP L ref ap) then 36864 else 28418) else chkP L ref ap
theorem chk_three (L : List ArrM) (ref ap : Int) : (hasB L.length ref = false ∧ chkP L ref ap = 28417 ∧ lenP L ref ap = 0) ∨ ∃ i : Nat, i < L.length ∧ ref = (i : Int) + 1 ∧
    ((mayB (L.getD i default) ap = false ∧ chkP L ref ap = 28420 ∧ lenP L ref ap = 0) ∨ (mayB (L.getD i default) ap = true ∧ chkP L ref ap = 36864 ∧ lenP L ref ap = ((L.getD i default).data.length : Int))) := by
  cases h : hasB L.length ref with
  | false => exact .inl ⟨rfl, by simp [chkP, h], by simp [lenP, thereB, h]⟩
  | true =>
    have h1 : 1 ≤ ref ∧ ref ≤ (L.length : Int) := by simpa [hasB] using h
    obtain ⟨i, hi⟩ : ∃ i : Nat, ref = (i : Int) + 1 := ⟨(ref - 1).toNat, by omega⟩
    have e : (ref - 1).toNat = i := by omega
    refine .inr ⟨i, by omega, hi, ?_⟩
    cases hm : mayB (L.getD i default) ap with
    | false => exact .inl ⟨rfl, by simp only [chkP, h, e, hm]; rfl, by simp only [lenP, thereB, h, e, hm]; rfl⟩
    | true => exact .inr ⟨rfl, by simp only [chkP, h, e, hm]; rfl, by simp only [lenP, thereB, h, e, hm]; rfl⟩

theorem wMay (own lab life : Int) (sh : Bool) (da : Option Addr) (dn dc : Nat) (ys : List Int) (ap : Int) (w : World) : Calls Tryd.prog 99 #[.agg #[.int .i64 own, .int .i64 lab, .int .i64 life, .bool sh, .slice da dn dc], .int .i64 ap] w fun e w' => e = .returned (.bool (mayB ⟨own, lab, life, sh, ys⟩ ap)) ∧ Upd (fun _ => False) w w' := by
  go_enter Tryd.func99, Tryd.ntmps99
  go_wp2
  all_goals
    go_ret
    refine ⟨hpRet ?_, Upd.alloc _ _ _⟩
    go_light
    simp_all [mayB]
theorem rMay (own lab life : Int) (sh : Bool) (da : Option Addr) (dn dc : Nat) (ys : List Int) (ap : Int) (w : World) : Calls Tryd.prog 85 #[.agg #[.int .i64 own, .int .i64 lab, .int .i64 life, .bool sh, .slice da dn dc], .int .i64 ap] w fun e w' => e = .returned (.bool (mayB ⟨own, lab, life, sh, ys⟩ ap)) ∧ Upd (fun _ => False) w w' := by
  go_enter Tryd.func85, Tryd.ntmps85
  go_wp2
  all_goals
    go_ret
    refine ⟨hpRet ?_, Upd.alloc _ _ _⟩
    go_light
    simp_all [mayB]
theorem wWithin (at_ n len : Int) (w : World) (hl : 0 ≤ len ∧ len ≤ 64) (ha : at_ ≤ 9223372036854775807) : Calls Tryd.prog 100 #[.int .i64 at_, .int .i64 n, .int .i64 len] w fun e w' => e = .returned (.bool (winB at_ n len)) ∧ w = w' := by
  by_cases h1 : 0 ≤ at_
  · have hw : IntKind.i64.wrap (len - at_) = len - at_ := IntWalk.i64_in _ (by omega)
    by_cases h2 : 0 ≤ n
    · by_cases h3 : n ≤ len - at_
      · have HR : Hid (winB at_ n len = true) := Lib.hid (by simp [winB]; omega)
        go_enter Tryd.func100, Tryd.ntmps100
        go_wp2
        go_ret
        refine ⟨hpRet ?_, rfl⟩
        rw [HR.out]
      · have HR : Hid (winB at_ n len = false) := Lib.hid (by simp [winB]; omega)
        go_enter Tryd.func100, Tryd.ntmps100
        go_wp2
        go_ret
        refine ⟨hpRet ?_, rfl⟩
        rw [HR.out]
    · have HR : Hid (winB at_ n len = false) := Lib.hid (by simp [winB]; omega)
      go_enter Tryd.func100, Tryd.ntmps100
      go_wp2
      go_ret
      refine ⟨hpRet ?_, rfl⟩
      rw [HR.out]
  · have HR : Hid (winB at_ n len = false) := Lib.hid (by simp [winB]; omega)
    go_enter Tryd.func100, Tryd.ntmps100
    go_wp2
    go_ret
    refine ⟨hpRet ?_, rfl⟩
    rw [HR.out]

section
variable {F : Nat → Prop} {w : World} {b : Nat} {m : HpM}
theorem wReach_nil (ref ap : Int) (w : World) : Calls Tryd.prog 93 #[.pointer none, .int .i64 ref, .int .i64 ap] w fun e w' => e = .returned (.tuple #[.int .i64 0, .int .i64 27013]) ∧ w = w' := by
  go_enter Tryd.func93, Tryd.ntmps93
  go_wp2
  refine bodyPost_ret (v := .tuple #[.int .i64 0, .int .i64 27013]) (by simp only [results, Tryd.f93]; simp [go_sem]) rfl ?_
  exact ⟨rfl, rfl⟩
set_option maxRecDepth 100000 in
theorem wReach (h : Hep HT F w b m) (hl : m.arrs.length ≤ 1000) (ref ap : Int) : Calls Tryd.prog 93 #[.pointer (some ⟨b, 0, none⟩), .int .i64 ref, .int .i64 ap] w fun e w' => e = .returned (.tuple #[.int .i64 (lenP m.arrs ref ap), .int .i64 (chkP m.arrs ref ap)]) ∧ Upd (fun _ => False) w w' := by
  rcases chk_three m.arrs ref ap with ⟨hno, e1, e2⟩ | ⟨i, hi, rfl, hm⟩
  · rw [e1, e2]
    have HA := Lib.hid (pArray_no h ref hno)
    clear h e1 e2 hno
    go_enter Tryd.func93, Tryd.ntmps93
    go_wp2_with fail
    refine HA.out.mono ?_
    rintro e w1 ⟨rfl, hu⟩
    have HU := Lib.hid (hu.trans (Upd.alloc (fun _ => False) w1 (.cells #[.int .i64 0, .int .i64 0, .int .i64 0, .bool false, .slice none 0 0] 50)) (fun _ h _ => h))
    clear hu
    simp only [zarr]
    go_wp2_with fail
    refine bodyPost_ret (v := .tuple #[.int .i64 0, .int .i64 28417]) (by simp only [results, Tryd.f93]; simp [go_sem]) rfl ?_
    exact ⟨rfl, HU.out⟩
  · have HA := Lib.hid (pArray h hi hl)
    clear h
    generalize m.arrs.getD i default = a at *
    obtain ⟨own, lab, life, sh, ys⟩ := a
    rcases hm with ⟨hm, e1, e2⟩ | ⟨hm, e1, e2⟩
    · rw [e1, e2]
      have HM := Lib.hid hm
      clear e1 e2 hm
      go_enter Tryd.func93, Tryd.ntmps93
      go_wp2_with fail
      refine HA.out.mono ?_
      rintro e w1 ⟨d, rfl, hn⟩
      obtain ⟨da, dc, rfl⟩ := ownsRow_slice hn.1
      obtain ⟨w2, hw2⟩ : ∃ w2, w2 = w1.alloc (.cells #[.int .i64 own, .int .i64 lab, .int .i64 life, .bool sh, .slice da ys.length dc] 50) := ⟨_, rfl⟩
      have hu2 : Upd (fun _ => False) w w2 := by rw [hw2]; exact hn.2.1.trans (Upd.alloc _ _ _) (fun _ h _ => h)
      have hx2 : w2.heap[w1.heap.size]? = some (.cells #[.int .i64 own, .int .i64 lab, .int .i64 life, .bool sh, .slice da ys.length dc] 50 (0, 0)) := by rw [hw2]; exact hpTop _ _ _ rfl
      have HX2 := Lib.hid hx2
      obtain ⟨c0, c1, c2, c3, c4, -⟩ := five hx2
      have HW2 := Lib.hid hw2
      have HU2 := Lib.hid hu2
      have HMY := Lib.hid (wMay own lab life sh da ys.length dc ys ap w2)
      rw [HM.out] at HMY
      clear hn hu2 hx2 hw2
      simp only [aval]
      go_wp2_with fail
      rw [← HW2.out]
      go_wp2_with fail
      refine HMY.out.mono ?_
      rintro e w3 ⟨rfl, hu3⟩
      have HU3 := Lib.hid (HU2.out.trans hu3 (fun _ h _ => h))
      obtain ⟨d0, d1, d2, d3, d4, -⟩ := five (hpBlk hu3 HX2.out (fun h => h))
      clear hu3 c0 c1 c2 c3 c4
      go_wp2_with fail
      refine bodyPost_ret (v := .tuple #[.int .i64 0, .int .i64 28420]) (by simp only [results, Tryd.f93]; simp [go_sem]) rfl ?_
      exact ⟨rfl, HU3.out⟩
    · rw [e1, e2]
      have HM := Lib.hid hm
      clear e1 e2 hm
      go_enter Tryd.func93, Tryd.ntmps93
      go_wp2_with fail
      refine HA.out.mono ?_
      rintro e w1 ⟨d, rfl, hn⟩
      obtain ⟨da, dc, rfl⟩ := ownsRow_slice hn.1
      obtain ⟨w2, hw2⟩ : ∃ w2, w2 = w1.alloc (.cells #[.int .i64 own, .int .i64 lab, .int .i64 life, .bool sh, .slice da ys.length dc] 50) := ⟨_, rfl⟩
      have hu2 : Upd (fun _ => False) w w2 := by rw [hw2]; exact hn.2.1.trans (Upd.alloc _ _ _) (fun _ h _ => h)
      have hx2 : w2.heap[w1.heap.size]? = some (.cells #[.int .i64 own, .int .i64 lab, .int .i64 life, .bool sh, .slice da ys.length dc] 50 (0, 0)) := by rw [hw2]; exact hpTop _ _ _ rfl
      have HX2 := Lib.hid hx2
      obtain ⟨c0, c1, c2, c3, c4, -⟩ := five hx2
      have HW2 := Lib.hid hw2
      have HU2 := Lib.hid hu2
      have HMY := Lib.hid (wMay own lab life sh da ys.length dc ys ap w2)
      rw [HM.out] at HMY
      clear hn hu2 hx2 hw2
      simp only [aval]
      go_wp2_with fail
      rw [← HW2.out]
      go_wp2_with fail
      refine HMY.out.mono ?_
      rintro e w3 ⟨rfl, hu3⟩
      have HU3 := Lib.hid (HU2.out.trans hu3 (fun _ h _ => h))
      obtain ⟨d0, d1, d2, d3, d4, -⟩ := five (hpBlk hu3 HX2.out (fun h => h))
      clear hu3 c0 c1 c2 c3 c4
      go_wp2_with fail
      refine bodyPost_ret (v := .tuple #[.int .i64 (ys.length : Nat), .int .i64 36864]) (by simp only [results, Tryd.f93]; simp [go_sem]) rfl ?_
      exact ⟨rfl, HU3.out⟩
theorem hep_dl (h : Hep HT F w b m) {i : Nat} (hi : i < m.arrs.length) : (m.arrs.getD i default).data.length ≤ 64 := by
  obtain ⟨av, R, h, hR⟩ := h
  obtain ⟨hr, e⟩ := fst_at hR hi
  rw [← e]
  exact (h.dat _ (List.getElem_mem hr)).len
theorem len_small (h : Hep HT F w b m) (ref ap : Int) : 0 ≤ lenP m.arrs ref ap ∧ lenP m.arrs ref ap ≤ 64 := by
  rcases chk_three m.arrs ref ap with ⟨-, -, e⟩ | ⟨i, hi, rfl, ⟨-, -, e⟩ | ⟨-, -, e⟩⟩
  · omega
  · omega
  · have := hep_dl h hi
    omega
theorem wCheck_nil (ref ap : Int) (w : World) : Calls Tryd.prog 77 #[.pointer none, .int .i64 ref, .int .i64 ap] w fun e w' => e = .returned (.int .i64 27013) ∧ w = w' := by
  go_enter Tryd.func77, Tryd.ntmps77
  go_wp2_with (refine (wReach_nil ref ap w).mono ?_; rintro e w1 ⟨rfl, rfl⟩)
  go_ret
  exact ⟨rfl, rfl⟩
theorem wCheck (h : Hep HT F w b m) (hl : m.arrs.length ≤ 1000) (ref ap : Int) : Calls Tryd.prog 77 #[.pointer (some ⟨b, 0, none⟩), .int .i64 ref, .int .i64 ap] w fun e w' => e = .returned (.int .i64 (chkP m.arrs ref ap)) ∧ Upd (fun _ => False) w w' := by
  have HR := Lib.hid (wReach h hl ref ap)
  clear h
  generalize lenP m.arrs ref ap = ln at *
  generalize chkP m.arrs ref ap = st at *
  go_enter Tryd.func77, Tryd.ntmps77
  go_wp2_with (refine HR.out.mono ?_; rintro e w1 ⟨rfl, hu⟩; have HU := Lib.hid hu; clear hu)
  go_ret
  exact ⟨rfl, HU.out⟩
theorem wRange_nil (ref at_ n ap : Int) (w : World) : Calls Tryd.prog 94 #[.pointer none, .int .i64 ref, .int .i64 at_, .int .i64 n, .int .i64 ap] w fun e w' => e = .returned (.int .i64 27013) ∧ w = w' := by
  go_enter Tryd.func94, Tryd.ntmps94
  go_wp2_with (refine (wReach_nil ref ap w).mono ?_; rintro e w1 ⟨rfl, rfl⟩)
  go_ret
  exact ⟨rfl, rfl⟩
theorem wRange (h : Hep HT F w b m) (hl : m.arrs.length ≤ 1000) (ref at_ n ap : Int) (ha : at_ ≤ 9223372036854775807) : Calls Tryd.prog 94 #[.pointer (some ⟨b, 0, none⟩), .int .i64 ref, .int .i64 at_, .int .i64 n, .int .i64 ap] w fun e w' => e = .returned (.int .i64 (rngP m.arrs ref at_ n ap)) ∧ Upd (fun _ => False) w w' := by
  have HR := Lib.hid (wReach h hl ref ap)
  have HI := Lib.hid (wWithin at_ n (lenP m.arrs ref ap) · (len_small h ref ap) ha)
  have hc : chkP m.arrs ref ap = 36864 ∨ ((chkP m.arrs ref ap != 36864) = true ∧ chkP m.arrs ref ap ≠ 36864) := by
    by_cases h : chkP m.arrs ref ap = 36864
    · exact .inl h
    · exact .inr ⟨by simpa using h, h⟩
  have HG := Lib.hid (show rngP m.arrs ref at_ n ap = if chkP m.arrs ref ap = 36864 then (if winB at_ n (lenP m.arrs ref ap) then 36864 else 28418) else chkP m.arrs ref ap from rfl)
  clear h
  generalize rngP m.arrs ref at_ n ap = rg at *
  generalize lenP m.arrs ref ap = ln at *
  generalize chkP m.arrs ref ap = st at *
  rcases hc with rfl | ⟨hc1, hc2⟩
  · cases hin : winB at_ n ln with
    | true =>
      rw [hin] at HI HG
      have HG2 : Hid (rg = 36864) := Lib.hid (by simpa using HG.out)
      clear HG hin
      go_enter Tryd.func94, Tryd.ntmps94
      go_wp2_with (first
        | (refine HR.out.mono ?_; rintro e w1 ⟨rfl, hu⟩; have HU := Lib.hid hu; clear hu)
        | (refine (HI.out _).mono ?_; rintro e w2 ⟨rfl, rfl⟩))
      go_ret
      refine ⟨?_, HU.out⟩
      rw [HG2.out]
      rfl
    | false =>
      rw [hin] at HI HG
      have HG2 : Hid (rg = 28418) := Lib.hid (by simpa using HG.out)
      clear HG hin
      go_enter Tryd.func94, Tryd.ntmps94
      go_wp2_with (first
        | (refine HR.out.mono ?_; rintro e w1 ⟨rfl, hu⟩; have HU := Lib.hid hu; clear hu)
        | (refine (HI.out _).mono ?_; rintro e w2 ⟨rfl, rfl⟩))
      go_ret
      refine ⟨?_, HU.out⟩
      rw [HG2.out]
      rfl
  · have HG2 : Hid (rg = st) := Lib.hid (by rw [HG.out, if_neg hc2])
    clear HG hc2
    go_enter Tryd.func94, Tryd.ntmps94
    go_wp2_with (refine HR.out.mono ?_; rintro e w1 ⟨rfl, hu⟩; have HU := Lib.hid hu; clear hu)
    go_ret
    refine ⟨?_, HU.out⟩
    rw [HG2.out]
    rfl
end
end Go.Proofs.YtdmadfahgkikkaaDoor
/- Package room: what a room is, plainly, and how one lies in memory; whose block is whose. -/
namespace Go.Proofs.YtdmadfahgkikkaaDoor
open Go.RowKit Go.Lib Go.ChangeShapes Go.WideShapes Go.Deep
set_option linter.unusedVariables false
set_option linter.unusedSimpArgs false

/-- each block has a colour: whose it is (0: the argument's) -/
def Col (c : Nat → Nat) (w : World) (i : Nat) (k : Nat) : Prop := c k = i ∧ k < w.heap.size
/-- later: older blocks keep their colours; those of the colours T alone may have turned -/
structure Ext (T : Nat → Prop) (c : Nat → Nat) (w : World) (c' : Nat → Nat) (w' : World) : Prop where
  same : ∀ k, k < w.heap.size → c' k = c k
  upd : Upd (fun k => T (c k)) w w'
/-- new blocks are of colour i -/
def paint (c : Nat → Nat) (w : World) (i : Nat) (k : Nat) : Nat := if k < w.heap.size then c k else i
def None0 (_ : Nat) : Prop := False
section
variable {T T' : Nat → Prop} {c c' c'' : Nat → Nat} {w w' w'' : World} {i : Nat}
theorem paint_old (c : Nat → Nat) (w : World) (i : Nat) {k : Nat} (h : k < w.heap.size) : paint c w i k = c k := by simp [paint, h]
theorem paint_new (c : Nat → Nat) (w : World) (i : Nat) {k : Nat} (h : w.heap.size ≤ k) : paint c w i k = i := by simp [paint]; intro h2; omega
theorem Ext.refl (T : Nat → Prop) (c : Nat → Nat) (w : World) : Ext T c w c w := ⟨fun _ _ => rfl, Upd.refl _ _⟩
theorem Ext.trans (h : Ext T c w c' w') (h' : Ext T' c' w' c'' w'') (hT : ∀ i, T' i → T i) : Ext T c w c'' w'' :=
  ⟨fun k hk => (h'.same k (Nat.lt_of_lt_of_le hk h.upd.size)).trans (h.same k hk), h.upd.trans h'.upd (fun k hk hl => by rw [h.same k hl] at hk; exact hT _ hk)⟩
theorem Ext.mono (h : Ext T c w c' w') (hT : ∀ i, T i → T' i) : Ext T' c w c' w' := ⟨h.same, h.upd.mono (fun k hk _ => hT _ hk)⟩
theorem Ext.quiet (c : Nat → Nat) (h : Upd (fun _ => False) w w') : Ext None0 c w c w' := ⟨fun _ _ => rfl, h.mono (fun _ h _ => h.elim)⟩
theorem Ext.quietT (T : Nat → Prop) (c : Nat → Nat) (h : Upd (fun _ => False) w w') : Ext T c w c w' := ⟨fun _ _ => rfl, h.mono (fun _ h _ => h.elim)⟩
theorem Ext.of (i : Nat) (hT : T i) (h : Upd (Col c w i) w w') : Ext T c w (paint c w i) w' := ⟨fun k hk => paint_old c w i hk, h.mono (fun k hk _ => by rw [hk.1]; exact hT)⟩
theorem Ext.made (T : Nat → Prop) (i : Nat) (h : Upd (fun _ => False) w w') : Ext T c w (paint c w i) w' := ⟨fun k hk => paint_old c w i hk, h.mono (fun _ h _ => h.elim)⟩
theorem Ext.size (h : Ext T c w c' w') : w.heap.size ≤ w'.heap.size := h.upd.size
/-- blocks of a colour that may not turn are as they were -/
theorem Ext.blk (h : Ext T c w c' w') {k : Nat} {o : Obj} (hk : w.heap[k]? = some o) (hc : ¬ T (c k)) : w'.heap[k]? = some o := hpBlk h.upd hk hc
theorem Ext.col (h : Ext T c w c' w') {k : Nat} (hk : k < w.heap.size) (hc : c k = i) : c' k = i := (h.same k hk).trans hc
theorem Ext.row (h : Ext T c w c' w') {base : Nat} {e : TypeId} {size n : Nat} {v : Value} {xs : List Value} (hr : w.ownsRow base e size v n xs) (hc : ∀ k, v.ownBlock = some k → ¬ T (c k)) : w'.ownsRow base e size v n xs := ownsRow_upd hr h.upd hc
theorem Ext.vw (h : Ext T c w c' w') {v : Value} {ys : List Int} (hr : Vw w v ys) (hc : ∀ k, v.ownBlock = some k → ¬ T (c k)) : Vw w' v ys := hr.upd h.upd hc
theorem Ext.hep {t : TypeId} {b : Nat} {m : HpM} (h : Ext T c w c' w') (hh : Hep t (Col c w i) w b m) (hT : ¬ T i) : Hep t (Col c' w' i) w' b m := by
  obtain ⟨av, R, h1, hR⟩ := hh.upd h.upd (fun k hk hk' => hT (by rw [hk.1] at hk'; exact hk'))
  exact ⟨av, R, h1.wide (fun k hk => ⟨h.col hk.2 hk.1, Nat.lt_of_lt_of_le hk.2 h.size⟩) (fun k hk => hk.2), hR⟩
theorem Ext.trc {b : Nat} {L : List EvM} (h : Ext T c w c' w') (hh : Trc (Col c w i) w b L) (hT : ¬ T i) : Trc (Col c' w' i) w' b L := by
  have h1 := hh.upd h.upd (fun k hk hk' => hT (by rw [hk.1] at hk'; exact hk'))
  obtain ⟨ev, h1⟩ := h1
  exact ⟨ev, h1.box, h1.row, ⟨h.col h1.fb.2 h1.fb.1, Nat.lt_of_lt_of_le h1.fb.2 h.size⟩, fun k hk => ⟨h.col (h1.fr k hk).2 (h1.fr k hk).1, Nat.lt_of_lt_of_le (h1.fr k hk).2 h.size⟩, fun k hk => hk.2⟩
/-- the colour's own step: its new blocks are of that colour -/
theorem col_more {k : Nat} (h : More (Col c w i) w w' k) (hs : w.heap.size ≤ w'.heap.size) : Col (paint c w i) w' i k := by
  rcases h with h | h
  · exact ⟨by rw [paint_old c w i h.2]; exact h.1, Nat.lt_of_lt_of_le h.2 hs⟩
  · exact ⟨paint_new c w i h.1, h.2⟩
theorem hep_more {t : TypeId} {b : Nat} {m : HpM} (h : Hep t (More (Col c w i) w w') w' b m) (hs : w.heap.size ≤ w'.heap.size) : Hep t (Col (paint c w i) w' i) w' b m := by
  obtain ⟨av, R, h1, hR⟩ := h
  exact ⟨av, R, h1.wide (fun k hk => col_more hk hs) (fun k hk => hk.2), hR⟩
theorem hep_same {t : TypeId} {b : Nat} {m : HpM} (h : Hep t (Col c w i) w' b m) (hs : w.heap.size ≤ w'.heap.size) : Hep t (Col (paint c w i) w' i) w' b m := by
  obtain ⟨av, R, h1, hR⟩ := h
  exact ⟨av, R, h1.wide (fun k hk => ⟨by rw [paint_old c w i hk.2]; exact hk.1, Nat.lt_of_lt_of_le hk.2 hs⟩) (fun k hk => hk.2), hR⟩
theorem hep_since {t : TypeId} {b : Nat} {m : HpM} (c : Nat → Nat) (h : Hep t (Since w w') w' b m) : Hep t (Col (paint c w i) w' i) w' b m := by
  obtain ⟨av, R, h1, hR⟩ := h
  exact ⟨av, R, h1.wide (fun k hk => ⟨paint_new c w i hk.1, hk.2⟩) (fun k hk => hk.2), hR⟩
theorem trc_of {F : Nat → Prop} {b : Nat} {L : List EvM} (h : Trc F w' b L) (hF : ∀ k, F k → Col c w' i k) : Trc (Col c w' i) w' b L := by
  obtain ⟨ev, h1⟩ := h
  exact ⟨ev, h1.box, h1.row, hF _ h1.fb, fun k hk => hF _ (h1.fr k hk), fun k hk => hk.2⟩
end

structure RmM where
  hp : HpM
  fields : List (List Int)
  pub : List Int
  sec : List Int
  /-- the images' cells -/
  im : List Value
def RmM.withHp (M : RmM) (h : HpM) : RmM := ⟨h, M.fields, M.pub, M.sec, M.im⟩
def RmM.withPub (M : RmM) (x : List Int) : RmM := ⟨M.hp, M.fields, x, M.sec, M.im⟩
def RmM.withSec (M : RmM) (x : List Int) : RmM := ⟨M.hp, M.fields, M.pub, x, M.im⟩
def RmM.withF (M : RmM) (f : List (List Int)) : RmM := ⟨M.hp, f, M.pub, M.sec, M.im⟩
def empty (s : Int) : RmM := ⟨two s, [], [], [], []⟩
/-- a heap's size bounds how many arrays there are -/
def HpOk (m : HpM) : Prop := 64 ≤ m.size ∧ m.size ≤ 4096 ∧ 2 ≤ m.arrs.length ∧ (usedP m.arrs : Int) ≤ m.size
theorem used_low (L : List ArrM) : 8 * L.length ≤ usedL L := by
  induction L with
  | nil => simp [usedL]
  | cons a L ih => simp [usedL] at ih ⊢; omega
theorem HpOk.few {m : HpM} (h : HpOk m) : m.arrs.length ≤ 600 := by
  obtain ⟨h1, h2, h3, h4⟩ := h
  have := used_low (m.arrs.drop 2)
  simp only [List.length_drop] at this
  unfold usedP at h4
  omega
theorem HpOk.two {s : Int} (h1 : 64 ≤ s) (h2 : s ≤ 4096) : HpOk (two s) := ⟨h1, h2, (by show 2 ≤ 2; omega), (by show (0 : Int) ≤ s; omega)⟩
def i32v (xs : List Int) : List Value := xs.map (Value.int .i32)

/-- a room in memory: its box (colour 2), the heap's blocks (1), the images' row (3), the fields' row (4), what was told (5, 6), the fields of applet i (100 + i) -/
structure RmAt (c : Nat → Nat) (w : World) (rb hb : Nat) (iv fv pv sv : Value) (ivs fvs : List Value) (M : RmM) : Prop where
  box : w.heap[rb]? = some (.cells #[iv, fv, .pointer (some ⟨hb, 0, none⟩), pv, sv] 87 (0, 0))
  hp : Hep HT (Col c w 1) w hb M.hp
  ok : HpOk M.hp
  imgs : w.ownsRow 0 35 5 iv M.fields.length ivs
  flds : w.ownsRow 0 44 1 fv M.fields.length fvs
  fld : ∀ i, i < M.fields.length → w.ownsRow 0 21 1 (fvs.getD i default) (M.fields.getD i []).length (i32v (M.fields.getD i []))
  pub : w.ownsRow 0 5 1 pv M.pub.length (bv M.pub)
  sec : w.ownsRow 0 5 1 sv M.sec.length (bv M.sec)
  pb : M.pub.length ≤ 128 ∧ ∀ y ∈ M.pub, 0 ≤ y ∧ y ≤ 255
  sb : M.sec.length ≤ 128 ∧ ∀ y ∈ M.sec, 0 ≤ y ∧ y ≤ 255
  i1 : ∀ u ∈ ivs, u.oneCell' = true
  f1 : ∀ u ∈ fvs, u.oneCell' = true
  cb : c rb = 2
  ci : ∀ k, iv.ownBlock = some k → c k = 3
  cf : ∀ k, fv.ownBlock = some k → c k = 4
  cp : ∀ k, pv.ownBlock = some k → c k = 5
  cs : ∀ k, sv.ownBlock = some k → c k = 6
  cx : ∀ i k, i < M.fields.length → (fvs.getD i default).ownBlock = some k → c k = 100 + i
  fl : M.fields.length ≤ 4
  es : ivs = M.im
def Rm (c : Nat → Nat) (w : World) (rb : Nat) (M : RmM) : Prop := ∃ hb iv fv pv sv ivs fvs, RmAt c w rb hb iv fv pv sv ivs fvs M
/-- the room's colours -/
def RmC (i : Nat) : Prop := (1 ≤ i ∧ i ≤ 6) ∨ 100 ≤ i
section
variable {T : Nat → Prop} {c c' : Nat → Nat} {w w' : World} {rb hb : Nat} {iv fv pv sv : Value} {ivs fvs : List Value} {M : RmM}
theorem RmAt.ext (h : RmAt c w rb hb iv fv pv sv ivs fvs M) (hx : Ext T c w c' w') (hT : ∀ i, RmC i → ¬ T i) : RmAt c' w' rb hb iv fv pv sv ivs fvs M := by
  have n1 := hT 1 (by simp [RmC]); have n2 := hT 2 (by simp [RmC]); have n3 := hT 3 (by simp [RmC]); have n4 := hT 4 (by simp [RmC]); have n5 := hT 5 (by simp [RmC]); have n6 := hT 6 (by simp [RmC])
  have nf := fun i => hT (100 + i) (by simp [RmC])
  exact ⟨hx.blk h.box (by rw [h.cb]; exact n2), hx.hep h.hp n1, h.ok, hx.row h.imgs (fun k hk => by rw [h.ci k hk]; exact n3), hx.row h.flds (fun k hk => by rw [h.cf k hk]; exact n4),
    fun i hi => hx.row (h.fld i hi) (fun k hk => by rw [h.cx i k hi hk]; exact nf i), hx.row h.pub (fun k hk => by rw [h.cp k hk]; exact n5), hx.row h.sec (fun k hk => by rw [h.cs k hk]; exact n6), h.pb, h.sb, h.i1, h.f1,
    hx.col (Array.getElem?_eq_some_iff.1 h.box).1 h.cb, fun k hk => hx.col (hpRowLt h.imgs k hk) (h.ci k hk), fun k hk => hx.col (hpRowLt h.flds k hk) (h.cf k hk), fun k hk => hx.col (hpRowLt h.pub k hk) (h.cp k hk), fun k hk => hx.col (hpRowLt h.sec k hk) (h.cs k hk),
    fun i k hi hk => hx.col (hpRowLt (h.fld i hi) k hk) (h.cx i k hi hk), h.fl, h.es⟩
theorem Rm.ext (h : Rm c w rb M) (hx : Ext T c w c' w') (hT : ∀ i, RmC i → ¬ T i) : Rm c' w' rb M := by
  obtain ⟨hb, iv, fv, pv, sv, ivs, fvs, h⟩ := h
  exact ⟨hb, iv, fv, pv, sv, ivs, fvs, h.ext hx hT⟩
theorem Rm.quiet (h : Rm c w rb M) (hu : Upd (fun _ => False) w w') : Rm c w' rb M := h.ext (Ext.quiet c hu) (fun _ _ h => h)
theorem RmAt.quiet (h : RmAt c w rb hb iv fv pv sv ivs fvs M) (hu : Upd (fun _ => False) w w') : RmAt c w' rb hb iv fv pv sv ivs fvs M := h.ext (Ext.quiet c hu) (fun _ _ h => h)
/-- the heap alone has turned -/
theorem RmAt.heap (h : RmAt c w rb hb iv fv pv sv ivs fvs M) {m : HpM} (hx : Ext (fun i => i = 1) c w c' w') (hh : Hep HT (Col c' w' 1) w' hb m) (hm : HpOk m) : RmAt c' w' rb hb iv fv pv sv ivs fvs (M.withHp m) :=
  ⟨hx.blk h.box (by rw [h.cb]; omega), hh, hm, hx.row h.imgs (fun k hk => by rw [h.ci k hk]; omega), hx.row h.flds (fun k hk => by rw [h.cf k hk]; omega),
    fun i hi => hx.row (h.fld i hi) (fun k hk => by rw [h.cx i k hi hk]; omega), hx.row h.pub (fun k hk => by rw [h.cp k hk]; omega), hx.row h.sec (fun k hk => by rw [h.cs k hk]; omega), h.pb, h.sb, h.i1, h.f1,
    hx.col (Array.getElem?_eq_some_iff.1 h.box).1 h.cb, fun k hk => hx.col (hpRowLt h.imgs k hk) (h.ci k hk), fun k hk => hx.col (hpRowLt h.flds k hk) (h.cf k hk), fun k hk => hx.col (hpRowLt h.pub k hk) (h.cp k hk), fun k hk => hx.col (hpRowLt h.sec k hk) (h.cs k hk),
    fun i k hi hk => hx.col (hpRowLt (h.fld i hi) k hk) (h.cx i k hi hk), h.fl, h.es⟩
theorem RmAt.bx (h : RmAt c w rb hb iv fv pv sv ivs fvs M) : w.cell? ⟨rb, 0, none⟩ = some iv ∧ w.cell? ⟨rb, 1, none⟩ = some fv ∧ w.cell? ⟨rb, 2, none⟩ = some (.pointer (some ⟨hb, 0, none⟩)) ∧ w.cell? ⟨rb, 3, none⟩ = some pv ∧ w.cell? ⟨rb, 4, none⟩ = some sv ∧ ∀ q, w.frozen? ⟨rb, q, none⟩ = false := five h.box
end
end Go.Proofs.YtdmadfahgkikkaaDoor
/- Package room: what shows; the reaching for spans; the bytes of one. -/
namespace Go.Proofs.YtdmadfahgkikkaaDoor
open Go.RowKit Go.Lib Go.ChangeShapes Go.WideShapes Go.Deep
set_option linter.unusedVariables false
set_option linter.unusedSimpArgs false

def addE (L : List EvM) (e : EvM) : List EvM := if L.length < 200000 then L ++ [e] else L
def addO (o : Option (List EvM)) (e : EvM) : Option (List EvM) := o.map (addE · e)
/-- a trace, or none; of colour 7 -/
def TrO (c : Nat → Nat) (w : World) (tv : Value) : Option (List EvM) → Prop
  | none => tv = .pointer none
  | some L => ∃ tb, tv = .pointer (some ⟨tb, 0, none⟩) ∧ Trc (Col c w 7) w tb L
abbrev T7 (i : Nat) : Prop := i = 7
section
variable {T : Nat → Prop} {c c' : Nat → Nat} {w w' : World} {tv : Value} {o : Option (List EvM)}
theorem TrO.ext (h : TrO c w tv o) (hx : Ext T c w c' w') (hT : ¬ T 7) : TrO c' w' tv o := by
  cases o with
  | none => exact h
  | some L =>
    obtain ⟨tb, rfl, h⟩ := h
    exact ⟨tb, rfl, hx.trc h hT⟩
theorem TrO.ptr (h : TrO c w tv o) : ∃ p, tv = .pointer p := by
  cases o with
  | none => exact ⟨_, h⟩
  | some L => obtain ⟨tb, rfl, h⟩ := h; exact ⟨_, rfl⟩
theorem rShow (h : TrO c w tv o) (x a b d : Int) : Calls Tryd.prog 41 #[tv, .int .i64 x, .int .i64 a, .int .i64 b, .int .i64 d] w fun e w' => e = .returned (.tuple #[]) ∧ ∃ c', Ext T7 c w c' w' ∧ TrO c' w' tv (addO o ⟨x, a, b, d⟩) := by
  cases o with
  | none =>
    obtain rfl := h
    go_enter Tryd.func41, Tryd.ntmps41
    go_wp2_with fail
    go_end0
    exact ⟨rfl, c, Ext.refl _ _ _, rfl⟩
  | some L =>
    obtain ⟨tb, rfl, h⟩ := h
    have H := Lib.hid h
    by_cases hl : L.length < 200000
    · have HE : Hid (addO (some L) ⟨x, a, b, d⟩ = some (L ++ [⟨x, a, b, d⟩])) := Lib.hid (by simp [addO, addE, hl])
      have HA := Lib.hid (tAdd h hl x a b d)
      clear h hl
      go_enter Tryd.func41, Tryd.ntmps41
      go_wp2_with fail
      refine HA.out.mono ?_
      rintro e w1 ⟨rfl, h1, h2⟩
      have H1 := Lib.hid h1
      have H2 := Lib.hid h2
      clear h1 h2
      go_wp2_with fail
      go_end0
      refine ⟨rfl, paint c w 7, Ext.of 7 rfl H2.out, ?_⟩
      rw [HE.out]
      refine ⟨tb, rfl, trc_of H1.out (fun k hk => ?_)⟩
      have hs := H2.out.size
      rcases hk with hk | hk
      · exact ⟨by rw [paint_old c w 7 hk.2]; exact hk.1, Nat.lt_of_lt_of_le hk.2 hs⟩
      · exact ⟨paint_new c w 7 hk.1, hk.2⟩
    · have HE : Hid (addO (some L) ⟨x, a, b, d⟩ = some L) := Lib.hid (by simp [addO, addE, hl])
      have HA := Lib.hid (tAdd_full h (by omega) x a b d)
      clear h hl
      go_enter Tryd.func41, Tryd.ntmps41
      go_wp2_with fail
      refine HA.out.mono ?_
      rintro e w1 ⟨rfl, rfl⟩
      go_wp2_with fail
      go_end0
      refine ⟨rfl, c, Ext.refl _ _ _, ?_⟩
      rw [HE.out]
      exact ⟨tb, rfl, H.out⟩
end

theorem three {w : World} {g : Nat} {v0 v1 v2 : Value} {t : TypeId} (h : w.heap[g]? = some (.cells #[v0, v1, v2] t (0, 0))) :
    w.cell? ⟨g, 0, none⟩ = some v0 ∧ w.cell? ⟨g, 1, none⟩ = some v1 ∧ w.cell? ⟨g, 2, none⟩ = some v2 ∧ ∀ q, w.frozen? ⟨g, q, none⟩ = false := by
  refine ⟨?_, ?_, ?_, fun q => by simp [World.frozen?, h]⟩ <;> simp [World.cell?, h]
structure SpM where
  ref : Int
  at_ : Int
  n : Int
deriving Inhabited
def spV (s : SpM) : Value := .agg #[.int .i64 s.ref, .int .i64 s.at_, .int .i64 s.n]
/-- spans in memory -/
def Sps (w : World) (v : Value) (L : List SpM) : Prop := ∃ g, v = .slice (some ⟨g, 0, none⟩) L.length L.length ∧ ∀ i, i < L.length →
  w.cell? ⟨g, i * 3, none⟩ = some (.int .i64 (L.getD i default).ref) ∧ w.cell? ⟨g, i * 3 + 1, none⟩ = some (.int .i64 (L.getD i default).at_) ∧ w.cell? ⟨g, i * 3 + 2, none⟩ = some (.int .i64 (L.getD i default).n)
theorem Sps.upd {w w' : World} {v : Value} {L : List SpM} {S : Nat → Prop} (h : Sps w v L) (hu : Upd S w w') (hS : ∀ k, v.ownBlock = some k → ¬ S k) : Sps w' v L := by
  obtain ⟨g, rfl, h⟩ := h
  refine ⟨g, rfl, fun i hi => ?_⟩
  obtain ⟨h1, h2, h3⟩ := h i hi
  have hg := World.block_lt_of_cell? w _ h1
  have hn := hS g rfl
  exact ⟨(hu.cell (p := ⟨g, i * 3, none⟩) hg hn).trans h1, (hu.cell (p := ⟨g, i * 3 + 1, none⟩) hg hn).trans h2, (hu.cell (p := ⟨g, i * 3 + 2, none⟩) hg hn).trans h3⟩
theorem sps1 {w : World} {g : Nat} {s : SpM} {t : TypeId} (h : w.heap[g]? = some (.cells #[.int .i64 s.ref, .int .i64 s.at_, .int .i64 s.n] t (0, 0))) : Sps w (.slice (some ⟨g, 0, none⟩) 1 1) [s] := by
  refine ⟨g, rfl, fun i hi => ?_⟩
  obtain rfl : i = 0 := by simp at hi; exact hi
  refine ⟨?_, ?_, ?_⟩ <;> simp [World.cell?, h]
theorem sps2 {w : World} {g : Nat} {s u : SpM} {t : TypeId} (h : w.heap[g]? = some (.cells #[.int .i64 s.ref, .int .i64 s.at_, .int .i64 s.n, .int .i64 u.ref, .int .i64 u.at_, .int .i64 u.n] t (0, 0))) : Sps w (.slice (some ⟨g, 0, none⟩) 2 2) [s, u] := by
  refine ⟨g, rfl, fun i hi => ?_⟩
  rcases (by simp at hi; omega : i = 0 ∨ i = 1) with rfl | rfl
  · refine ⟨?_, ?_, ?_⟩ <;> simp [World.cell?, h]
  · refine ⟨?_, ?_, ?_⟩ <;> simp [World.cell?, h]
def tchs (o : Option (List EvM)) (L : List SpM) : Option (List EvM) := L.foldl (fun o s => addO o ⟨2, s.ref, s.at_, s.n⟩) o
theorem tchs_step {o : Option (List EvM)} {L : List SpM} {k : Nat} (h : k < L.length) : tchs o (L.take (k + 1)) = addO (tchs o (L.take k)) ⟨2, (L.getD k default).ref, (L.getD k default).at_, (L.getD k default).n⟩ := by
  rw [List.take_add_one, List.getElem?_eq_getElem h]
  unfold tchs
  rw [Option.toList_some, List.foldl_append, show L.getD k default = L[k] by simp [List.getD, h]]
  rfl
section
variable {T : Nat → Prop} {c c' : Nat → Nat} {w w' : World} {tv : Value} {o : Option (List EvM)} {rb : Nat} {M : RmM}
set_option maxHeartbeats 1000000 in
theorem rTouch (h : TrO c w tv o) (v : Value) (L : List SpM) (hs : Sps w v L) (hv : ∀ k, v.ownBlock = some k → c k ≠ 7) (hl : L.length ≤ 10) :
    Calls Tryd.prog 43 #[tv, v] w fun e w' => e = .returned (.tuple #[]) ∧ ∃ c', Ext T7 c w c' w' ∧ TrO c' w' tv (tchs o L) := by
  obtain ⟨g, rfl, -⟩ := id hs
  obtain ⟨p, rfl⟩ := h.ptr
  have HS := Lib.hid hs
  have HV := Lib.hid hv
  have H0 : Hid (TrO c w (.pointer p) (tchs o (L.take 0))) := Lib.hid h
  have HX0 := Lib.hid (Ext.refl T7 c w)
  clear h hs hv
  go_enter Tryd.func43, Tryd.ntmps43
  go_wp2_with fail
  go_loopw [8, 5] (fun i _ wr => ∃ k d, k ≤ L.length ∧ i = .int .i64 (k : Nat) ∧ Hid (Ext T7 c w d wr) ∧ Hid (TrO d wr (.pointer p) (tchs o (L.take k)))) (fun i _ _ => L.length - (intOf i).toNat)
  case atStart => exact ⟨0, c, Nat.zero_le _, rfl, HX0, H0⟩
  case round =>
    obtain ⟨k, d, hk, rfl, HX, HT⟩ := hrel
    by_cases hlt : k < L.length
    · have HN := Lib.hid (tchs_step (o := o) hlt)
      obtain ⟨g', hv', hc⟩ := HS.out.upd HX.out.upd HV.out
      simp at hv'
      subst hv'
      obtain ⟨c0, c1, c2⟩ := hc k hlt
      generalize L.getD k default = s at *
      obtain ⟨ref, at_, n⟩ := s
      simp only at c0 c1 c2 HN
      have hu : ∀ o', Upd (fun _ => False) wr (wr.alloc o') := fun o' => Upd.alloc _ _ _
      have HU := Lib.hid hu
      clear hu hc
      go_wp2_with fail
      refine (rShow ((HT.out).ext (Ext.quiet d (HU.out _)) (fun h => h)) 2 ref at_ n).mono ?_
      rintro e w1 ⟨rfl, d', hx, ht⟩
      have HX1 := Lib.hid ((HX.out.trans (Ext.quiet d (HU.out _)) (fun _ h => h.elim)).trans hx (fun _ h => h))
      rw [← HN.out] at ht
      have HT1 := Lib.hid ht
      clear hx ht c0 c1 c2
      go_wp2_with fail
      go_roundw
      case rel => exact ⟨k + 1, d', by omega, by go_num, HX1, HT1⟩
      case measure => simp [intOf]; omega
    · have HL : Hid (TrO d wr (.pointer p) (tchs o L)) := Lib.hid (by have := HT.out; rwa [List.take_of_length_le (by omega)] at this)
      go_wp2_with fail
      go_end0
      exact ⟨rfl, d, HX.out, HL.out⟩
def reachP (arrs : List ArrM) (ap : Int) : List SpM → Int
  | [] => 36864
  | s :: r => if rngP arrs s.ref s.at_ s.n ap = 36864 then reachP arrs ap r else rngP arrs s.ref s.at_ s.n ap
theorem reach_drop (arrs : List ArrM) (ap : Int) {L : List SpM} {k : Nat} (h : k < L.length) : reachP arrs ap (L.drop k) = if rngP arrs (L.getD k default).ref (L.getD k default).at_ (L.getD k default).n ap = 36864 then reachP arrs ap (L.drop (k + 1)) else rngP arrs (L.getD k default).ref (L.getD k default).at_ (L.getD k default).n ap := by
  rw [List.drop_eq_getElem_cons h]
  simp [reachP, List.getD, h]
set_option maxHeartbeats 1000000 in
theorem rReach (h : Rm c w rb M) (ap : Int) (v : Value) (L : List SpM) (hs : Sps w v L) (hl : L.length ≤ 10) (hL : ∀ s ∈ L, s.at_ ≤ 9223372036854775807) :
    Calls Tryd.prog 78 #[.pointer (some ⟨rb, 0, none⟩), .int .i64 ap, v] w fun e w' => e = .returned (.int .i64 (reachP M.hp.arrs ap L)) ∧ Upd (fun _ => False) w w' := by
  obtain ⟨g, rfl, -⟩ := id hs
  obtain ⟨hb, iv, fv, pv, sv, ivs, fvs, h⟩ := h
  have HS := Lib.hid hs
  have H := Lib.hid h
  have HL := Lib.hid hL
  have HU0 := Lib.hid (Upd.refl (fun _ => False) w)
  have HR0 : Hid (reachP M.hp.arrs ap (L.drop 0) = reachP M.hp.arrs ap L) := Lib.hid rfl
  clear h hs hL
  go_enter Tryd.func78, Tryd.ntmps78
  go_wp2_with fail
  go_loopw [12, 8, 9] (fun i _ _ wr => ∃ k, k ≤ L.length ∧ i = .int .i64 (k : Nat) ∧ Hid (Upd (fun _ => False) w wr) ∧ Hid (reachP M.hp.arrs ap (L.drop k) = reachP M.hp.arrs ap L)) (fun i _ _ _ => L.length - (intOf i).toNat)
  case atStart => exact ⟨0, Nat.zero_le _, rfl, HU0, HR0⟩
  case round =>
    obtain ⟨k, hk, rfl, HU, HR⟩ := hrel
    by_cases hlt : k < L.length
    · have HN := Lib.hid (reach_drop M.hp.arrs ap hlt)
      obtain ⟨g', hv', hc⟩ := HS.out.upd HU.out (fun _ _ h => h)
      simp at hv'
      subst hv'
      obtain ⟨c0, c1, c2⟩ := hc k hlt
      have hat : (L.getD k default).at_ ≤ 9223372036854775807 := HL.out _ (by simp [List.getD, hlt])
      generalize L.getD k default = s at *
      obtain ⟨ref, at_, n⟩ := s
      simp only at c0 c1 c2 HN hat
      obtain ⟨w1, hw1⟩ : ∃ w1, w1 = wr.alloc (.cells #[.int .i64 ref, .int .i64 at_, .int .i64 n] 110) := ⟨_, rfl⟩
      have hu1 : Upd (fun _ => False) w w1 := by rw [hw1]; exact HU.out.trans (Upd.alloc _ _ _) (fun _ h _ => h)
      have hx1 : w1.heap[wr.heap.size]? = some (.cells #[.int .i64 ref, .int .i64 at_, .int .i64 n] 110 (0, 0)) := by rw [hw1]; exact hpTop _ _ _ rfl
      have HW : Hid (∀ u, Upd (fun _ => False) w1 u → Calls Tryd.prog 94 #[.pointer (some ⟨hb, 0, none⟩), .int .i64 ref, .int .i64 at_, .int .i64 n, .int .i64 ap] u fun e w' => e = .returned (.int .i64 (rngP M.hp.arrs ref at_ n ap)) ∧ Upd (fun _ => False) u w') :=
        Lib.hid (fun u hu => wRange (H.out.quiet (hu1.trans hu (fun _ h _ => h))).hp (by have := H.out.ok.few; omega) ref at_ n ap hat)
      have HB : Hid (∀ u, Upd (fun _ => False) w1 u → u.cell? ⟨rb, 2, none⟩ = some (.pointer (some ⟨hb, 0, none⟩)) ∧ u.cell? ⟨wr.heap.size, 0, none⟩ = some (.int .i64 ref) ∧ u.cell? ⟨wr.heap.size, 1, none⟩ = some (.int .i64 at_) ∧ u.cell? ⟨wr.heap.size, 2, none⟩ = some (.int .i64 n)) :=
        Lib.hid (fun u hu => by
          obtain ⟨e0, e1, e2, -⟩ := three (hpBlk hu hx1 (fun h => h))
          exact ⟨(H.out.quiet (hu1.trans hu (fun _ h _ => h))).bx.2.2.1, e0, e1, e2⟩)
      have HD := Lib.hid (Upd.drew (fun _ => False) w1)
      have HU1 := Lib.hid hu1
      have HW1 := Lib.hid hw1
      have hs : rngP M.hp.arrs ref at_ n ap = 36864 ∨ ((rngP M.hp.arrs ref at_ n ap != 36864) = true ∧ rngP M.hp.arrs ref at_ n ap ≠ 36864) := by
        by_cases h : rngP M.hp.arrs ref at_ n ap = 36864
        · exact .inl h
        · exact .inr ⟨by simpa using h, h⟩
      clear hc hat hu1 hx1 hw1
      generalize rngP M.hp.arrs ref at_ n ap = st at *
      rcases hs with rfl | ⟨hs1, hs2⟩
      · have HN2 : Hid (reachP M.hp.arrs ap (L.drop (k + 1)) = reachP M.hp.arrs ap L) := Lib.hid (by have := HN.out; rw [if_pos rfl] at this; rw [← this]; exact HR.out)
        go_wp2_with fail
        rw [← HW1.out]
        go_region_held3 (fun w' => w'.cell? ⟨rb, 2, none⟩ = some (.pointer (some ⟨hb, 0, none⟩)) ∧ w'.cell? ⟨wr.heap.size, 0, none⟩ = some (.int .i64 ref) ∧ w'.cell? ⟨wr.heap.size, 1, none⟩ = some (.int .i64 at_) ∧ w'.cell? ⟨wr.heap.size, 2, none⟩ = some (.int .i64 n)) (first
          | with_reducible exact HB.out _ HX2.out
          | with_reducible exact HB.out _ HD.out) (first
          | (go_at_call 94; (refine (HW.out _ HD.out).mono ?_); rintro e w2 ⟨rfl, hu⟩; have HX2 := Lib.hid (HD.out.trans hu (fun _ h _ => h)); clear hu))
        all_goals
          go_wp2_with fail
          go_roundw
          case rel => exact ⟨k + 1, by omega, by go_num, Lib.hid (HU1.out.trans HX2.out (fun _ h _ => h)), HN2⟩
          case measure => simp [intOf]; omega
      · have HN2 : Hid (st = reachP M.hp.arrs ap L) := Lib.hid (by have := HN.out; rw [if_neg hs2] at this; rw [← this]; exact HR.out)
        clear hs2
        go_wp2_with fail
        rw [← HW1.out]
        go_region_held3 (fun w' => w'.cell? ⟨rb, 2, none⟩ = some (.pointer (some ⟨hb, 0, none⟩)) ∧ w'.cell? ⟨wr.heap.size, 0, none⟩ = some (.int .i64 ref) ∧ w'.cell? ⟨wr.heap.size, 1, none⟩ = some (.int .i64 at_) ∧ w'.cell? ⟨wr.heap.size, 2, none⟩ = some (.int .i64 n)) (first
          | with_reducible exact HB.out _ HX2.out
          | with_reducible exact HB.out _ HD.out) (first
          | (go_at_call 94; (refine (HW.out _ HD.out).mono ?_); rintro e w2 ⟨rfl, hu⟩; have HX2 := Lib.hid (HD.out.trans hu (fun _ h _ => h)); clear hu))
        all_goals
          go_wp2_with fail
          go_ret
          exact ⟨ret_i64 HN2.out, HU1.out.trans HX2.out (fun _ h _ => h)⟩
    · have HL : Hid (reachP M.hp.arrs ap L = 36864) := Lib.hid (by have := HR.out; rw [List.drop_of_length_le (by omega)] at this; rw [← this]; rfl)
      go_wp2_with fail
      go_ret
      exact ⟨ret_i64 HL.out.symm, HU.out⟩
end
end Go.Proofs.YtdmadfahgkikkaaDoor
/- Package room: the bytes of a span; an array's length; a byte. -/
namespace Go.Proofs.YtdmadfahgkikkaaDoor
open Go.RowKit Go.Lib Go.ChangeShapes Go.WideShapes Go.Deep
set_option linter.unusedVariables false
set_option linter.unusedSimpArgs false

theorem rng_fine {L : List ArrM} {ref at_ n ap : Int} (h : rngP L ref at_ n ap = 36864) : ∃ i a k : Nat, i < L.length ∧ ref = (i : Int) + 1 ∧ at_ = (a : Int) ∧ n = (k : Int) ∧ a + k ≤ (L.getD i default).data.length ∧ mayB (L.getD i default) ap = true := by
  unfold rngP at h
  split at h
  · rename_i hc
    split at h
    · rename_i hi
      rcases chk_three L ref ap with ⟨-, e, -⟩ | ⟨i, hi2, rfl, ⟨-, e, -⟩ | ⟨hm, -, e2⟩⟩
      · omega
      · omega
      · rw [e2] at hi
        simp [winB] at hi
        refine ⟨i, at_.toNat, n.toNat, hi2, rfl, by omega, by omega, ?_, hm⟩
        simp only [List.getD_eq_getElem?_getD] at hi ⊢
        omega
    · omega
  · rename_i hc
    exact absurd h hc
theorem chk_fine {L : List ArrM} {ref ap : Int} (h : chkP L ref ap = 36864) : ∃ i : Nat, i < L.length ∧ ref = (i : Int) + 1 ∧ mayB (L.getD i default) ap = true := by
  rcases chk_three L ref ap with ⟨-, e, -⟩ | ⟨i, hi2, rfl, ⟨-, e, -⟩ | ⟨hm, -, -⟩⟩
  · omega
  · omega
  · exact ⟨i, hi2, rfl, hm⟩
/-- a piece of a view -/
theorem vw_cut {w : World} {a a' : Option Addr} {c : Nat} {ys : List Int} (h : Vw w (.slice a ys.length c) ys) (lo n : Nat) (hl : lo + n ≤ ys.length) (ha : (c = lo ∧ a' = a) ∨ (c ≠ lo ∧ a' = a.map (·.add lo))) :
    Vw w (.slice a' n (c - lo)) ((ys.drop lo).take n) := by
  have hd : Vw w (.slice a' (ys.length - lo) (c - lo)) (ys.drop lo) := by
    rcases h.2 with ⟨⟨a0, he⟩, hys⟩ | ⟨g, off, c1, he, h1, h2, h3⟩
    · simp at he
      obtain ⟨rfl, hl0, rfl⟩ := he
      subst hys
      exact ⟨by simp, .inl ⟨⟨a', by simp⟩, by simp⟩⟩
    · simp at he
      obtain ⟨rfl, rfl⟩ := he
      have hg : ∃ off', a' = some ⟨g, off', none⟩ ∧ (lo < ys.length → off' = off + lo) := by
        rcases ha with ⟨e, rfl⟩ | ⟨_, rfl⟩
        · exact ⟨off, rfl, fun hlt => by omega⟩
        · exact ⟨off + lo, by simp [addr_add], fun _ => rfl⟩
      obtain ⟨off', rfl, ho⟩ := hg
      exact h.drop rfl lo (by omega) off' ho
  rw [show ys.length - lo = (ys.drop lo).length by simp] at hd
  exact hd.take rfl n (by simp; omega)
theorem blk_same (a : Option Addr) (n c n' c' : Nat) : (Value.slice a n c).ownBlock = (Value.slice a n' c').ownBlock := by cases a <;> rfl
theorem blk_map (a : Option Addr) (j n c n' c' : Nat) : (Value.slice (a.map (fun x => x.add j)) n c).ownBlock = (Value.slice a n' c').ownBlock := by
  cases a with
  | none => rfl
  | some x => simp [Value.ownBlock, Addr.add]; split <;> rfl
theorem news5 {w1 w2 : World} (h : Upd (fun _ => False) w1 w2) (v0 v1 v2 v3 v4 : Value) : Upd (fun _ => False) w1 (((((w2.setCell ⟨w1.heap.size, 0, none⟩ v0).setCell ⟨w1.heap.size, 1, none⟩ v1).setCell ⟨w1.heap.size, 2, none⟩ v2).setCell ⟨w1.heap.size, 3, none⟩ v3).setCell ⟨w1.heap.size, 4, none⟩ v4) :=
  h.trans (T := fun k => k = w1.heap.size) (hpS (hpS (hpS (hpS (hpS (Upd.refl _ _) rfl) rfl) rfl) rfl) rfl) (fun k hk hl => by omega)
section
variable {c : Nat → Nat} {w : World} {rb : Nat} {M : RmM}
set_option maxRecDepth 100000 in
set_option maxHeartbeats 1000000 in
theorem rRead (h : Rm c w rb M) {i a k : Nat} (hi : i < M.hp.arrs.length) (hk : a + k ≤ (M.hp.arrs.getD i default).data.length) :
    Calls Tryd.prog 81 #[.pointer (some ⟨rb, 0, none⟩), .agg #[.int .i64 ((i : Int) + 1), .int .i64 a, .int .i64 k]] w fun e w' => ∃ v, e = .returned v ∧ Vw w' v (((M.hp.arrs.getD i default).data.drop a).take k) ∧ Upd (fun _ => False) w w' ∧ ∀ b, v.ownBlock = some b → w.heap.size ≤ b := by
  obtain ⟨hb, iv, fv, pv, sv, ivs, fvs, h⟩ := h
  have hdl := hep_dl h.hp hi
  have hby : ∀ y ∈ (M.hp.arrs.getD i default).data, 0 ≤ y ∧ y ≤ 255 := by
    obtain ⟨av, R, hh, hR⟩ := h.hp
    obtain ⟨hr, e⟩ := fst_at hR hi
    rw [← e]
    exact (hh.dat _ (List.getElem_mem hr)).byt
  have hfew := h.ok.few
  obtain ⟨w1, hw1⟩ : ∃ w1, w1 = w.alloc (.cells #[.int .i64 ((i : Int) + 1), .int .i64 a, .int .i64 k] 110) := ⟨_, rfl⟩
  have hu1 : Upd (fun _ => False) w w1 := by rw [hw1]; exact Upd.alloc _ _ _
  have hx1 : w1.heap[w.heap.size]? = some (.cells #[.int .i64 ((i : Int) + 1), .int .i64 a, .int .i64 k] 110 (0, 0)) := by rw [hw1]; exact hpTop _ _ _ rfl
  have HA : Hid (∀ u, Upd (fun _ => False) w1 u → Calls Tryd.prog 17 #[.pointer (some ⟨hb, 0, none⟩), .int .i64 ((i : Int) + 1)] u fun e w' => ∃ d, e = .returned (.tuple #[aval (M.hp.arrs.getD i default) d, .bool true]) ∧ New u d (M.hp.arrs.getD i default).data w') :=
    Lib.hid (fun u hu => pArray (h.quiet (hu1.trans hu (fun _ h _ => h))).hp hi (by omega))
  have HB : Hid (∀ u, Upd (fun _ => False) w1 u → u.cell? ⟨rb, 2, none⟩ = some (.pointer (some ⟨hb, 0, none⟩)) ∧ u.cell? ⟨w.heap.size, 0, none⟩ = some (.int .i64 ((i : Int) + 1)) ∧ u.cell? ⟨w.heap.size, 1, none⟩ = some (.int .i64 a) ∧ u.cell? ⟨w.heap.size, 2, none⟩ = some (.int .i64 k)) :=
    Lib.hid (fun u hu => by
      obtain ⟨e0, e1, e2, -⟩ := three (hpBlk hu hx1 (fun h => h))
      exact ⟨(h.quiet (hu1.trans hu (fun _ h _ => h))).bx.2.2.1, e0, e1, e2⟩)
  have HD := Lib.hid (Upd.drew (fun _ => False) w1)
  have HD2 : Hid (∀ o, Upd (fun _ => False) w1 (w1.alloc o).drew) := Lib.hid (fun o => (Upd.alloc _ _ _).trans (Upd.drew _ _) (fun _ h _ => h))
  have HT2 : Hid (∀ u C t, Upd (fun _ => False) (w1.alloc (.cells C t)).drew u → u.heap[w1.heap.size]? = some (.cells C t (0, 0))) := Lib.hid (fun u C t hu => hpBlk hu (by show (w1.alloc (.cells C t)).heap[w1.heap.size]? = _; exact hpTop _ _ _ rfl) (fun h => h))
  have HU1 := Lib.hid hu1
  have HW1 := Lib.hid hw1
  have HBY := Lib.hid hby
  have hwr : IntKind.i64.wrap ((a : Int) + (k : Int)) = (a : Int) + (k : Int) := IntWalk.i64_in _ (by omega)
  clear h hw1 hu1 hx1 hby
  generalize M.hp.arrs.getD i default = x at *
  obtain ⟨own, lab, life, sh, ys⟩ := x
  simp only at hk hdl HBY HA ⊢
  go_enter Tryd.func81, Tryd.ntmps81
  go_wp2_with fail
  rw [← HW1.out]
  go_region_held3 (fun w' => w'.cell? ⟨rb, 2, none⟩ = some (.pointer (some ⟨hb, 0, none⟩)) ∧ w'.cell? ⟨w.heap.size, 0, none⟩ = some (.int .i64 ((i : Int) + 1)) ∧ w'.cell? ⟨w.heap.size, 1, none⟩ = some (.int .i64 a) ∧ w'.cell? ⟨w.heap.size, 2, none⟩ = some (.int .i64 k)) (first
    | with_reducible exact HB.out _ HD.out
    | with_reducible exact HB.out _ (HD2.out _)
    | with_reducible exact HB.out _ HX2.out
    | with_reducible exact HB.out _ (HX3.out _)
    | with_reducible exact HB.out _ (HX4.out _ _ _ _ _)) (first
    | (go_at_call 17; (refine (HA.out _ HD.out).mono ?_); rintro e w2 ⟨d, rfl, hn⟩; have HN := Lib.hid hn; have hx2 := HD.out.trans hn.2.1 (fun _ h _ => h); have HX2 := Lib.hid hx2; have HX3 := Lib.hid (fun o => hx2.trans (Upd.alloc (fun _ => False) w2 o) (fun _ h _ => h)); obtain ⟨da, dc, rfl⟩ := ownsRow_slice hn.1; clear hn hx2; simp only [aval])
    | (go_at_call 17; (refine (HA.out _ (HD2.out _)).mono ?_); rintro e w2 ⟨d, rfl, hn⟩; have HN := Lib.hid hn; have hx2 := (HD2.out _).trans hn.2.1 (fun _ h _ => h); have HX2 := Lib.hid hx2; have HX4 := Lib.hid (news5 hx2); have HZ := Lib.hid (HT2.out _ _ _ hn.2.1); obtain ⟨k0, k1, k2, k3, k4, kf⟩ := five HZ.out; obtain ⟨da, dc, rfl⟩ := ownsRow_slice hn.1; have f0 := kf 0; have f1 := kf 1; have f2 := kf 2; have f3 := kf 3; have f4 := kf 4; clear hn hx2 kf; simp only [aval]))
  · obtain ⟨u, hu⟩ : ∃ u, u = w2.alloc (.cells #[.int .i64 own, .int .i64 lab, .int .i64 life, .bool sh, .slice da ys.length dc] 50) := ⟨_, rfl⟩
    have hq : u.heap[w2.heap.size]? = some (.cells #[.int .i64 own, .int .i64 lab, .int .i64 life, .bool sh, .slice da ys.length dc] 50 (0, 0)) := by rw [hu]; exact hpTop _ _ _ rfl
    have hxu : Upd (fun _ => False) w2 u := by rw [hu]; exact Upd.alloc _ _ _
    obtain ⟨-, -, -, -, e4, -⟩ := five hq
    obtain ⟨b0, b1, b2, b3⟩ := HB.out u (HX2.out.trans hxu (fun _ h _ => h))
    rw [← hu]
    have hv := (HN.out.vw HBY.out).upd hxu (fun _ _ h => h)
    obtain ⟨_, _, he, hc1, hc2⟩ := hv.slice
    simp at he
    obtain ⟨rfl, rfl⟩ := he
    have HV := Lib.hid hv
    have HXU := Lib.hid (HU1.out.trans (HX2.out.trans hxu (fun _ h _ => h)) (fun _ h _ => h))
    have HNB := Lib.hid (fun b hb => Nat.le_trans HU1.out.size (HN.out.2.2 b hb))
    clear hu hq hxu hv
    unfold maxLen at hc2
    go_wp2_with fail
    all_goals go_ret
    · rename_i h
      have hv := vw_cut HV.out a k hk (.inl ⟨h, rfl⟩)
      rw [show dc - a = 0 by omega] at hv
      exact ⟨.slice da k 0, rfl, hv, HXU.out, fun b hb => HNB.out b ((blk_same da ys.length dc k 0).trans hb)⟩
    · rename_i h
      exact ⟨.slice (da.map (fun x => x.add a)) k (dc - a), rfl, vw_cut HV.out a k hk (.inr ⟨h, rfl⟩), HXU.out, fun b hb => HNB.out b ((blk_map da a k (dc - a) ys.length dc).symm.trans hb)⟩
  · obtain ⟨u, hu⟩ : ∃ u, u = (((((w2.setCell ⟨w1.heap.size, 0, none⟩ (.int .i64 own)).setCell ⟨w1.heap.size, 1, none⟩ (.int .i64 lab)).setCell ⟨w1.heap.size, 2, none⟩ (.int .i64 life)).setCell ⟨w1.heap.size, 3, none⟩ (.bool sh)).setCell ⟨w1.heap.size, 4, none⟩ (.slice da ys.length dc)) := ⟨_, rfl⟩
    have hxu : Upd (fun k => k = w1.heap.size) w2 u := by
      rw [hu]
      iterate 5 refine hpS ?_ rfl
      exact Upd.refl _ _
    have hq : u.heap[w1.heap.size]? = some (.cells #[.int .i64 own, .int .i64 lab, .int .i64 life, .bool sh, .slice da ys.length dc] 50 (0, 0)) := by rw [hu]; simp [World.setCell, Array.getElem?_modify, HZ.out]
    obtain ⟨-, -, -, -, e4, -⟩ := five hq
    have hw1u : Upd (fun _ => False) w1 u := by rw [hu]; exact HX4.out _ _ _ _ _
    obtain ⟨b0, b1, b2, b3⟩ := HB.out u hw1u
    rw [← hu]
    have hv := (HN.out.vw HBY.out).upd hxu (fun q hq hq' => by
      have h1 : (w1.alloc (.cells #[.int .i64 0, .int .i64 0, .int .i64 0, .bool false, .slice none 0 0] 50)).heap.size ≤ q := HN.out.2.2 q hq
      simp at h1
      omega)
    obtain ⟨_, _, he, hc1, hc2⟩ := hv.slice
    simp at he
    obtain ⟨rfl, rfl⟩ := he
    have HV := Lib.hid hv
    have HXU := Lib.hid (HU1.out.trans hw1u (fun _ h _ => h))
    have HNB := Lib.hid (fun b hb => Nat.le_trans HU1.out.size (Nat.le_trans (HD2.out _).size (HN.out.2.2 b hb)))
    clear hu hq hxu hv hw1u k0 k1 k2 k3 k4 f0 f1 f2 f3 f4
    unfold maxLen at hc2
    go_wp2_with fail
    all_goals go_ret
    · rename_i h
      have hv := vw_cut HV.out a k hk (.inl ⟨h, rfl⟩)
      rw [show dc - a = 0 by omega] at hv
      exact ⟨.slice da k 0, rfl, hv, HXU.out, fun b hb => HNB.out b ((blk_same da ys.length dc k 0).trans hb)⟩
    · rename_i h
      exact ⟨.slice (da.map (fun x => x.add a)) k (dc - a), rfl, vw_cut HV.out a k hk (.inr ⟨h, rfl⟩), HXU.out, fun b hb => HNB.out b ((blk_map da a k (dc - a) ys.length dc).symm.trans hb)⟩
end
end Go.Proofs.YtdmadfahgkikkaaDoor
/- Package room: a byte, and how long an array is. -/
namespace Go.Proofs.YtdmadfahgkikkaaDoor
open Go.RowKit Go.Lib Go.ChangeShapes Go.WideShapes Go.Deep
set_option linter.unusedVariables false
set_option linter.unusedSimpArgs false

def byteP (L : List ArrM) (ref at_ : Int) : Int := (L.getD (ref - 1).toNat default).data.getD at_.toNat 0
def getP (L : List ArrM) (ref at_ ap : Int) : Int := if rngP L ref at_ 1 ap = 36864 then byteP L ref at_ else 0
def longP (L : List ArrM) (ref ap : Int) : Int := if chkP L ref ap = 36864 then ((L.getD (ref - 1).toNat default).data.length : Int) else 0
theorem fine_or (s : Int) : s = 36864 ∨ ((s != 36864) = true ∧ s ≠ 36864) := by
  by_cases h : s = 36864
  · exact .inl h
  · exact .inr ⟨by simpa using h, h⟩
theorem reach1 (L : List ArrM) (ap : Int) (s : SpM) : reachP L ap [s] = rngP L s.ref s.at_ s.n ap := by
  simp only [reachP]
  split
  · rename_i h; exact h.symm
  · rfl
/-- the box of a span, and a slice of one span behind it -/
theorem box1 {w w1 : World} {s : SpM} (hw1 : w1 = (w.alloc (.cells #[.int .i64 s.ref, .int .i64 s.at_, .int .i64 s.n] 110)).alloc (.cells #[.int .i64 s.ref, .int .i64 s.at_, .int .i64 s.n] 110)) :
    Upd (fun _ => False) w w1 ∧ w1.heap[w.heap.size]? = some (.cells #[.int .i64 s.ref, .int .i64 s.at_, .int .i64 s.n] 110 (0, 0)) ∧ Sps w1 (.slice (some ⟨w.heap.size + 1, 0, none⟩) 1 1) [s] := by
  subst hw1
  refine ⟨(Upd.alloc _ _ _).trans (Upd.alloc _ _ _) (fun _ h _ => h), ?_, sps1 (t := 110) (hpTop _ _ _ (by simp))⟩
  exact hpBlk (S := fun _ => False) (Upd.alloc _ _ _) (hpTop w _ _ rfl) (fun h => h)
section
variable {c : Nat → Nat} {w : World} {rb : Nat} {M : RmM}
set_option maxRecDepth 100000 in
set_option maxHeartbeats 1000000 in
theorem rGet (h : Rm c w rb M) (ap ref at_ : Int) (ha : at_ ≤ 9223372036854775807) :
    Calls Tryd.prog 45 #[.pointer (some ⟨rb, 0, none⟩), .int .i64 ap, .agg #[.int .i64 ref, .int .i64 at_, .int .i64 1]] w fun e w' => e = .returned (.tuple #[.int .i32 (getP M.hp.arrs ref at_ ap), .int .i64 (rngP M.hp.arrs ref at_ 1 ap)]) ∧ Upd (fun _ => False) w w' := by
  obtain ⟨w1, hw1⟩ : ∃ w1, w1 = (w.alloc (.cells #[.int .i64 ref, .int .i64 at_, .int .i64 1] 110)).alloc (.cells #[.int .i64 ref, .int .i64 at_, .int .i64 1] 110) := ⟨_, rfl⟩
  obtain ⟨hu1, hx1, hs1⟩ := box1 (s := ⟨ref, at_, 1⟩) hw1
  have HR := Lib.hid (rReach (h.quiet hu1) ap _ _ hs1 (by simp) (by simpa using ha))
  rw [reach1] at HR
  simp only at HR hx1
  have HX := Lib.hid hx1
  have HU1 := Lib.hid hu1
  have HW1 := Lib.hid hw1
  have H := Lib.hid h
  have HG := Lib.hid (show getP M.hp.arrs ref at_ ap = if rngP M.hp.arrs ref at_ 1 ap = 36864 then byteP M.hp.arrs ref at_ else 0 from rfl)
  have hF := fun e => rng_fine (L := M.hp.arrs) (ref := ref) (at_ := at_) (n := 1) (ap := ap) e
  have HF := Lib.hid hF
  clear hu1 hx1 hs1 hw1 h hF
  generalize getP M.hp.arrs ref at_ ap = g at *
  rcases fine_or (rngP M.hp.arrs ref at_ 1 ap) with e | ⟨e1, e2⟩
  · obtain ⟨i, a, k, hi, rfl, rfl, hk, hak, -⟩ := HF.out e
    obtain rfl : k = 1 := by omega
    clear hk
    have HG2 : Hid (g = (M.hp.arrs.getD i default).data.getD a 0) := Lib.hid (by rw [HG.out, if_pos e]; unfold byteP; rw [show ((i : Int) + 1 - 1).toNat = i by omega]; rfl)
    obtain ⟨hb, iv, fv, pv, sv, ivs, fvs, h⟩ := H.out
    have hfew := h.ok.few
    have HS := Lib.hid (fun u (hu : Upd (fun _ => False) w u) => pGet (h.quiet hu).hp hi (by omega) (j := a) (by omega))
    have HB : Hid (∀ u, Upd (fun _ => False) w1 u → u.cell? ⟨rb, 2, none⟩ = some (.pointer (some ⟨hb, 0, none⟩)) ∧ u.cell? ⟨w.heap.size, 0, none⟩ = some (.int .i64 ((i : Int) + 1)) ∧ u.cell? ⟨w.heap.size, 1, none⟩ = some (.int .i64 a)) :=
      Lib.hid (fun u hu => by
        obtain ⟨e0, e1, -, -⟩ := three (hpBlk hu HX.out (fun h => h))
        exact ⟨(h.quiet (HU1.out.trans hu (fun _ h _ => h))).bx.2.2.1, e0, e1⟩)
    have hby : 0 ≤ (M.hp.arrs.getD i default).data.getD a 0 ∧ (M.hp.arrs.getD i default).data.getD a 0 ≤ 255 := by
      obtain ⟨av, R, hh, hR⟩ := h.hp
      obtain ⟨hr, e⟩ := fst_at hR hi
      rw [← e] at hak ⊢
      refine (hh.dat _ (List.getElem_mem hr)).byt _ ?_
      simp [List.getD, show a < R[i].1.data.length by omega]
    generalize (M.hp.arrs.getD i default).data.getD a 0 = y at *
    have hwy : IntKind.i32.wrap y = y := by rw [IntKind.wrap_i32]; omega
    rw [e] at HR ⊢
    have hg := HG2.out
    subst hg
    clear h HG HF hak e H hfew ha HG2
    go_enter Tryd.func45, Tryd.ntmps45
    go_wp2_with fail
    rw [← HW1.out]
    refine HR.out.mono ?_
    rintro e w2 ⟨rfl, hu⟩
    have HX2 := Lib.hid hu
    have HD := Lib.hid (hu.trans (Upd.drew (fun _ => False) w2) (fun _ h _ => h))
    clear hu
    go_wp2_with fail
    go_region_held3 (fun w' => w'.cell? ⟨rb, 2, none⟩ = some (.pointer (some ⟨hb, 0, none⟩)) ∧ w'.cell? ⟨w.heap.size, 0, none⟩ = some (.int .i64 ((i : Int) + 1)) ∧ w'.cell? ⟨w.heap.size, 1, none⟩ = some (.int .i64 a)) (first
      | with_reducible exact HB.out _ HD.out) (first
      | (go_at_call 79; (refine (HS.out _ (HU1.out.trans HD.out (fun _ h _ => h))).mono ?_); rintro e w3 ⟨rfl, rfl⟩))
    all_goals
      go_wp2_with fail
      refine bodyPost_ret (v := .tuple #[.int .i32 g, .int .i64 36864]) (by simp only [results, Tryd.f45]; simp [go_sem]) rfl ?_
      exact ⟨rfl, HU1.out.trans HD.out (fun _ h _ => h)⟩
  · have hg : g = 0 := by rw [HG.out, if_neg e2]
    subst hg
    generalize rngP M.hp.arrs ref at_ 1 ap = st at *
    clear HG HF e2 H HX
    go_enter Tryd.func45, Tryd.ntmps45
    go_wp2_with fail
    rw [← HW1.out]
    refine HR.out.mono ?_
    rintro e w2 ⟨rfl, hu⟩
    have HX2 := Lib.hid (HU1.out.trans hu (fun _ h _ => h))
    clear hu
    go_wp2_with fail
    refine bodyPost_ret (v := .tuple #[.int .i32 0, .int .i64 st]) (by simp only [results, Tryd.f45]; simp [go_sem]) rfl ?_
    exact ⟨rfl, HX2.out⟩
set_option maxRecDepth 100000 in
set_option maxHeartbeats 1000000 in
theorem rLength (h : Rm c w rb M) (ap ref : Int) :
    Calls Tryd.prog 44 #[.pointer (some ⟨rb, 0, none⟩), .int .i64 ap, .int .i64 ref] w fun e w' => e = .returned (.tuple #[.int .i32 (longP M.hp.arrs ref ap), .int .i64 (chkP M.hp.arrs ref ap)]) ∧ Upd (fun _ => False) w w' := by
  obtain ⟨hb, iv, fv, pv, sv, ivs, fvs, h⟩ := h
  have hfew := h.ok.few
  have HR := Lib.hid (wCheck h.hp (by omega) ref ap)
  have HG := Lib.hid (show longP M.hp.arrs ref ap = if chkP M.hp.arrs ref ap = 36864 then ((M.hp.arrs.getD (ref - 1).toNat default).data.length : Int) else 0 from rfl)
  have HF := Lib.hid (fun e => chk_fine (L := M.hp.arrs) (ref := ref) (ap := ap) e)
  obtain ⟨-, -, b2, -, -, -⟩ := h.bx
  have HB : Hid (∀ u, Upd (fun _ => False) w u → u.cell? ⟨rb, 2, none⟩ = some (.pointer (some ⟨hb, 0, none⟩))) := Lib.hid (fun u hu => (h.quiet hu).bx.2.2.1)
  have H := Lib.hid h
  clear h
  generalize longP M.hp.arrs ref ap = g at *
  rcases fine_or (chkP M.hp.arrs ref ap) with e | ⟨e1, e2⟩
  · obtain ⟨i, hi, rfl, -⟩ := HF.out e
    have HA : Hid (∀ u, Upd (fun _ => False) w u → Calls Tryd.prog 17 #[.pointer (some ⟨hb, 0, none⟩), .int .i64 ((i : Int) + 1)] u fun e w' => ∃ d, e = .returned (.tuple #[aval (M.hp.arrs.getD i default) d, .bool true]) ∧ New u d (M.hp.arrs.getD i default).data w') :=
      Lib.hid (fun u hu => pArray (H.out.quiet hu).hp hi (by omega))
    have hg : g = ((M.hp.arrs.getD i default).data.length : Int) := by rw [HG.out, if_pos e, show ((i : Int) + 1 - 1).toNat = i by omega]
    have hdl := hep_dl H.out.hp hi
    rw [e] at HR ⊢
    subst hg
    clear HG HF e H
    generalize M.hp.arrs.getD i default = x at *
    obtain ⟨own, lab, life, sh, ys⟩ := x
    simp only at HA hdl ⊢
    have hwy : IntKind.i32.wrap (ys.length : Int) = (ys.length : Int) := by rw [IntKind.wrap_i32]; omega
    go_enter Tryd.func44, Tryd.ntmps44
    go_wp2_with fail
    refine HR.out.mono ?_
    rintro e w2 ⟨rfl, hu⟩
    have b3 := HB.out _ hu
    have HX2 := Lib.hid hu
    clear hu
    go_wp2_with fail
    refine (HA.out _ HX2.out).mono ?_
    rintro e w3 ⟨d, rfl, hn⟩
    obtain ⟨da, dc, rfl⟩ := ownsRow_slice hn.1
    have HX3 := Lib.hid (fun o => HX2.out.trans (hn.2.1.trans (Upd.alloc (fun _ => False) w3 o) (fun _ h _ => h)) (fun _ h _ => h))
    clear hn
    simp only [aval]
    go_wp2_with fail
    refine bodyPost_ret (v := .tuple #[.int .i32 (ys.length : Int), .int .i64 36864]) (by simp only [results, Tryd.f44]; simp [go_sem]) rfl ?_
    exact ⟨rfl, HX3.out _⟩
  · have hg : g = 0 := by rw [HG.out, if_neg e2]
    subst hg
    generalize chkP M.hp.arrs ref ap = st at *
    clear HG HF e2 H
    go_enter Tryd.func44, Tryd.ntmps44
    go_wp2_with fail
    refine HR.out.mono ?_
    rintro e w2 ⟨rfl, hu⟩
    have HX2 := Lib.hid hu
    clear hu
    go_wp2_with fail
    refine bodyPost_ret (v := .tuple #[.int .i32 0, .int .i64 st]) (by simp only [results, Tryd.f44]; simp [go_sem]) rfl ?_
    exact ⟨rfl, HX2.out⟩
end
end Go.Proofs.YtdmadfahgkikkaaDoor

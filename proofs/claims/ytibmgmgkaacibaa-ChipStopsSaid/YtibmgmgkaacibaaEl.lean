/- Package chip: operands. -/
import Derived.Test.YtibmgmgkaacibaaEb
import Derived.Deep.QuietTactic
import Derived.BigQuiet
namespace Go.Proofs.Ytibmgmgkaacibaa
open Go.RowKit Go.ChangeShapes Go.WideShapes Go.Deep Go.IntWalk
set_option linter.unusedVariables false
set_option linter.unusedSimpArgs false
/-- what an instruction that may be asks of its numbers -/
structure InOk (i : I6) (op d n m cond : Nat) : Prop where
  eop : i.op = (op : Int)
  ed : i.d = (d : Int)
  en : i.n = (n : Int)
  em : i.m = (m : Int)
  ec : i.cond = (cond : Int)
  opl : op < 46
  dl : d < 16
  nl : n < 16
  ml : m < 16
  cl : cond < 14
  iml : -16777216 ≤ i.imm ∧ i.imm ≤ 16777214
def mLN : Nat := 33822867696
def mLS : Nat := 515396075520
def mRM : Nat := 2147479600
def lefP (R : Nat → Nat) (op d n m : Nat) : Nat := if op = 21 then 0 else if maskB 33822867696 op then R n else if maskB 14 op then R m else if maskB 515396075520 op then R 13 else R d
def rigP (R : Nat → Nat) (op m : Nat) (imm : Int) : Nat := if maskB 2147479600 op then R m else (imm % 4294967296).toNat
section
variable {w w' : World} {b : Nat} {x : Ch} {mp : Value} {i : I6} {t_ c : Int}
set_option maxRecDepth 20000 in
set_option maxHeartbeats 1000000 in
theorem sLeft (h : Sp w b mp i x t_ c) (op d n m cond : Nat) (hi : InOk i op d n m cond) : Calls Try.prog 50 #[.pointer (some ⟨b, 0, none⟩)] w fun e w' => e = .returned (.int .u32 (lefP x.R op d n m : Int)) ∧ Upd (fun _ => False) w w' := by
  have h0 := Lib.hid h
  have HI := Lib.hid hi
  have c24 := h.c24
  rw [hi.eop] at c24
  clear h hi
  by_cases e21 : op = 21
  · have HP : Hid (lefP x.R op d n m = 0) := Lib.hid (by simp [lefP, e21])
    subst e21
    rw [HP.out]
    go_enter Try.func50, Try.ntmps50
    go_wp2_with fail
    go_ret
    exact ⟨rfl, Upd.refl _ _⟩
  · have t21 : ((op : Int) == 21) = false := by simp; omega
    cases hb1 : maskB 33822867696 op
    · cases hb2 : maskB 14 op
      · cases hb3 : maskB 515396075520 op
        · have HP : Hid (lefP x.R op d n m = x.R d) := Lib.hid (by simp [lefP, e21, hb1, hb2, hb3])
          have HB33822867696 := Lib.hid hb1
          have HB14 := Lib.hid hb2
          have HB515396075520 := Lib.hid hb3
          rw [HP.out]
          clear hb1 hb2 hb3 e21
          have c25 := h0.out.c25
          rw [HI.out.ed] at c25
          have cr := h0.out.reg d HI.out.dl
          have hr0 : (0 : Int) ≤ (d : Int) := by omega
          have hr1 : (d : Int) < 16 := by have := HI.out.dl; omega
          go_enter Try.func50, Try.ntmps50
          go_wp2_with fail
          refine (sIs h0.out 33822867696 op (by omega) (by have := HI.out.opl; omega) HI.out.eop).mono ?_
          rintro e _ ⟨rfl, rfl⟩
          rw [HB33822867696.out]
          go_wp2_with fail
          refine (sIs h0.out 14 op (by omega) (by have := HI.out.opl; omega) HI.out.eop).mono ?_
          rintro e _ ⟨rfl, rfl⟩
          rw [HB14.out]
          go_wp2_with fail
          refine (sIs h0.out 515396075520 op (by omega) (by have := HI.out.opl; omega) HI.out.eop).mono ?_
          rintro e _ ⟨rfl, rfl⟩
          rw [HB515396075520.out]
          go_wp2_with fail
          go_quiet (fail)
          go_wp2_with fail
          go_ret
          exact ⟨rfl, drewN_upd _ _⟩
        · have HP : Hid (lefP x.R op d n m = x.R 13) := Lib.hid (by simp [lefP, e21, hb1, hb2, hb3])
          have HB33822867696 := Lib.hid hb1
          have HB14 := Lib.hid hb2
          have HB515396075520 := Lib.hid hb3
          rw [HP.out]
          clear hb1 hb2 hb3 e21
          have c13 := h0.out.c13
          go_enter Try.func50, Try.ntmps50
          go_wp2_with fail
          refine (sIs h0.out 33822867696 op (by omega) (by have := HI.out.opl; omega) HI.out.eop).mono ?_
          rintro e _ ⟨rfl, rfl⟩
          rw [HB33822867696.out]
          go_wp2_with fail
          refine (sIs h0.out 14 op (by omega) (by have := HI.out.opl; omega) HI.out.eop).mono ?_
          rintro e _ ⟨rfl, rfl⟩
          rw [HB14.out]
          go_wp2_with fail
          refine (sIs h0.out 515396075520 op (by omega) (by have := HI.out.opl; omega) HI.out.eop).mono ?_
          rintro e _ ⟨rfl, rfl⟩
          rw [HB515396075520.out]
          go_wp2_with fail
          go_ret
          exact ⟨rfl, Upd.refl _ _⟩
      · have HP : Hid (lefP x.R op d n m = x.R m) := Lib.hid (by simp [lefP, e21, hb1, hb2])
        have HB33822867696 := Lib.hid hb1
        have HB14 := Lib.hid hb2
        rw [HP.out]
        clear hb1 hb2 e21
        have c27 := h0.out.c27
        rw [HI.out.em] at c27
        have cr := h0.out.reg m HI.out.ml
        have hr0 : (0 : Int) ≤ (m : Int) := by omega
        have hr1 : (m : Int) < 16 := by have := HI.out.ml; omega
        go_enter Try.func50, Try.ntmps50
        go_wp2_with fail
        refine (sIs h0.out 33822867696 op (by omega) (by have := HI.out.opl; omega) HI.out.eop).mono ?_
        rintro e _ ⟨rfl, rfl⟩
        rw [HB33822867696.out]
        go_wp2_with fail
        refine (sIs h0.out 14 op (by omega) (by have := HI.out.opl; omega) HI.out.eop).mono ?_
        rintro e _ ⟨rfl, rfl⟩
        rw [HB14.out]
        go_wp2_with fail
        go_quiet (fail)
        go_wp2_with fail
        go_ret
        exact ⟨rfl, drewN_upd _ _⟩
    · have HP : Hid (lefP x.R op d n m = x.R n) := Lib.hid (by simp [lefP, e21, hb1])
      have HB33822867696 := Lib.hid hb1
      rw [HP.out]
      clear hb1 e21
      have c26 := h0.out.c26
      rw [HI.out.en] at c26
      have cr := h0.out.reg n HI.out.nl
      have hr0 : (0 : Int) ≤ (n : Int) := by omega
      have hr1 : (n : Int) < 16 := by have := HI.out.nl; omega
      go_enter Try.func50, Try.ntmps50
      go_wp2_with fail
      refine (sIs h0.out 33822867696 op (by omega) (by have := HI.out.opl; omega) HI.out.eop).mono ?_
      rintro e _ ⟨rfl, rfl⟩
      rw [HB33822867696.out]
      go_wp2_with fail
      go_quiet (fail)
      go_wp2_with fail
      go_ret
      exact ⟨rfl, drewN_upd _ _⟩
set_option maxRecDepth 20000 in
set_option maxHeartbeats 1000000 in
theorem sRight (h : Sp w b mp i x t_ c) (op d n m cond : Nat) (hi : InOk i op d n m cond) : Calls Try.prog 51 #[.pointer (some ⟨b, 0, none⟩)] w fun e w' => e = .returned (.int .u32 (rigP x.R op m i.imm : Int)) ∧ Upd (fun _ => False) w w' := by
  have h0 := Lib.hid h
  have HI := Lib.hid hi
  clear h hi
  cases hb1 : maskB 2147479600 op
  · have HP : Hid (rigP x.R op m i.imm = (i.imm % 4294967296).toNat) := Lib.hid (by simp [rigP, hb1])
    have HB2147479600 := Lib.hid hb1
    have c28 := h0.out.c28
    obtain ⟨q, hq⟩ : ∃ q : Nat, i.imm % 4294967296 = (q : Int) := ⟨(i.imm % 4294967296).toNat, by omega⟩
    have HQ := Lib.hid hq
    rw [HP.out, hq, Int.toNat_natCast]
    clear hb1 hq
    go_enter Try.func51, Try.ntmps51
    go_wp2_with fail
    refine (sIs h0.out 2147479600 op (by omega) (by have := HI.out.opl; omega) HI.out.eop).mono ?_
    rintro e _ ⟨rfl, rfl⟩
    rw [HB2147479600.out]
    go_wp2_with fail
    go_ret
    rw [HQ.out]
    exact ⟨rfl, Upd.refl _ _⟩
  · have HP : Hid (rigP x.R op m i.imm = x.R m) := Lib.hid (by simp [rigP, hb1])
    have HB2147479600 := Lib.hid hb1
    rw [HP.out]
    clear hb1
    have c27 := h0.out.c27
    rw [HI.out.em] at c27
    have cr := h0.out.reg m HI.out.ml
    have hr0 : (0 : Int) ≤ (m : Int) := by omega
    have hr1 : (m : Int) < 16 := by have := HI.out.ml; omega
    go_enter Try.func51, Try.ntmps51
    go_wp2_with fail
    refine (sIs h0.out 2147479600 op (by omega) (by have := HI.out.opl; omega) HI.out.eop).mono ?_
    rintro e _ ⟨rfl, rfl⟩
    rw [HB2147479600.out]
    go_wp2_with fail
    go_quiet (fail)
    go_wp2_with fail
    go_ret
    exact ⟨rfl, drewN_upd _ _⟩
end
end Go.Proofs.Ytibmgmgkaacibaa

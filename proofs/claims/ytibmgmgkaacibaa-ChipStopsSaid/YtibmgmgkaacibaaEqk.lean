/- Package chip: what comes out of any instruction. -/
import Derived.Test.YtibmgmgkaacibaaKEn
namespace Go.Proofs.Ytibmgmgkaacibaa
open Go.RowKit Go.ChangeShapes Go.WideShapes Go.Deep Go.IntWalk
set_option linter.unusedVariables false
set_option linter.unusedSimpArgs false
section
variable {w w' : World} {b bm g : Nat} {x : Ch} {i : I6} {t_ c : Int} {M : Nat → Nat}
def AnsOf (b bm g : Nat) (i : I6) (x : Ch) (M : Nat → Nat) (op d cond : Nat) (l r pc : Nat) (w : World) (q : Rs) : Prop :=
  Calls Try.prog 49 #[.pointer (some ⟨b, 0, none⟩), .int .u32 (l : Int), .int .u32 (r : Int), .int .u32 (pc : Int)] w fun e w' => e = .returned (.int .u32 (q.out : Int)) ∧ Stp w' b bm g i q.x q.t q.c q.M ∧ Upd (BG b g) w w'
theorem ansE_1 (h : Stp w b bm g i x (-1) 1 M) (d n m cond : Nat) (l r pc : Nat) (hl : l < 4294967296) (hr : r < 4294967296) (hpc : pc < 4294967296) (hi : InOk i 1 d n m cond) : AnsOf b bm g i x M 1 d cond l r pc w (ansP 1 d cond i.imm l r pc x M) := by
  rw [ansP_1]; unfold AnsOf; dsimp only; exact ans1 h hi.eop l r pc hl hr hpc
theorem ansE_2 (h : Stp w b bm g i x (-1) 1 M) (d n m cond : Nat) (l r pc : Nat) (hl : l < 4294967296) (hr : r < 4294967296) (hpc : pc < 4294967296) (hi : InOk i 2 d n m cond) : AnsOf b bm g i x M 2 d cond l r pc w (ansP 2 d cond i.imm l r pc x M) := by
  rw [ansP_2]; unfold AnsOf; dsimp only; exact ans2 h hi.eop l r pc hl hr hpc
theorem ansE_3 (h : Stp w b bm g i x (-1) 1 M) (d n m cond : Nat) (l r pc : Nat) (hl : l < 4294967296) (hr : r < 4294967296) (hpc : pc < 4294967296) (hi : InOk i 3 d n m cond) : AnsOf b bm g i x M 3 d cond l r pc w (ansP 3 d cond i.imm l r pc x M) := by
  rw [ansP_3]; unfold AnsOf; dsimp only; exact ans3 h hi.eop l r pc hl hr hpc
theorem ansE_4 (h : Stp w b bm g i x (-1) 1 M) (d n m cond : Nat) (l r pc : Nat) (hl : l < 4294967296) (hr : r < 4294967296) (hpc : pc < 4294967296) (hi : InOk i 4 d n m cond) : AnsOf b bm g i x M 4 d cond l r pc w (ansP 4 d cond i.imm l r pc x M) := by
  rw [ansP_4]; unfold AnsOf; dsimp only; exact ans4 h hi.eop l r pc hl hr hpc
theorem ansE_5 (h : Stp w b bm g i x (-1) 1 M) (d n m cond : Nat) (l r pc : Nat) (hl : l < 4294967296) (hr : r < 4294967296) (hpc : pc < 4294967296) (hi : InOk i 5 d n m cond) : AnsOf b bm g i x M 5 d cond l r pc w (ansP 5 d cond i.imm l r pc x M) := by
  rw [ansP_5]; unfold AnsOf; dsimp only; exact ans5 h hi.eop l r pc hl hr hpc
theorem ansE_6 (h : Stp w b bm g i x (-1) 1 M) (d n m cond : Nat) (l r pc : Nat) (hl : l < 4294967296) (hr : r < 4294967296) (hpc : pc < 4294967296) (hi : InOk i 6 d n m cond) : AnsOf b bm g i x M 6 d cond l r pc w (ansP 6 d cond i.imm l r pc x M) := by
  rw [ansP_6]; unfold AnsOf; dsimp only; exact ans6 h hi.eop l r pc hl hr hpc
theorem ansE_7 (h : Stp w b bm g i x (-1) 1 M) (d n m cond : Nat) (l r pc : Nat) (hl : l < 4294967296) (hr : r < 4294967296) (hpc : pc < 4294967296) (hi : InOk i 7 d n m cond) : AnsOf b bm g i x M 7 d cond l r pc w (ansP 7 d cond i.imm l r pc x M) := by
  rw [ansP_7]; unfold AnsOf; dsimp only; exact ans7 h hi.eop l r pc hl hr hpc
theorem ansE_8 (h : Stp w b bm g i x (-1) 1 M) (d n m cond : Nat) (l r pc : Nat) (hl : l < 4294967296) (hr : r < 4294967296) (hpc : pc < 4294967296) (hi : InOk i 8 d n m cond) : AnsOf b bm g i x M 8 d cond l r pc w (ansP 8 d cond i.imm l r pc x M) := by
  rw [ansP_8]; unfold AnsOf; dsimp only; exact ans8 h hi.eop l r pc hl hr hpc
theorem ansE_9 (h : Stp w b bm g i x (-1) 1 M) (d n m cond : Nat) (l r pc : Nat) (hl : l < 4294967296) (hr : r < 4294967296) (hpc : pc < 4294967296) (hi : InOk i 9 d n m cond) : AnsOf b bm g i x M 9 d cond l r pc w (ansP 9 d cond i.imm l r pc x M) := by
  rw [ansP_9]; unfold AnsOf; dsimp only; exact ans9 h hi.eop l r pc hl hr hpc
theorem ansE_10 (h : Stp w b bm g i x (-1) 1 M) (d n m cond : Nat) (l r pc : Nat) (hl : l < 4294967296) (hr : r < 4294967296) (hpc : pc < 4294967296) (hi : InOk i 10 d n m cond) : AnsOf b bm g i x M 10 d cond l r pc w (ansP 10 d cond i.imm l r pc x M) := by
  rw [ansP_10]; unfold AnsOf; dsimp only; exact ans10 h hi.eop l r pc hl hr hpc
theorem ansE_11 (h : Stp w b bm g i x (-1) 1 M) (d n m cond : Nat) (l r pc : Nat) (hl : l < 4294967296) (hr : r < 4294967296) (hpc : pc < 4294967296) (hi : InOk i 11 d n m cond) : AnsOf b bm g i x M 11 d cond l r pc w (ansP 11 d cond i.imm l r pc x M) := by
  rw [ansP_11]; unfold AnsOf; dsimp only; exact ans11 h hi.eop l r pc hl hr hpc
theorem ansE_12 (h : Stp w b bm g i x (-1) 1 M) (d n m cond : Nat) (l r pc : Nat) (hl : l < 4294967296) (hr : r < 4294967296) (hpc : pc < 4294967296) (hi : InOk i 12 d n m cond) : AnsOf b bm g i x M 12 d cond l r pc w (ansP 12 d cond i.imm l r pc x M) := by
  rw [ansP_12]; unfold AnsOf; dsimp only; exact ans12 h hi.eop l r pc hl hr hpc
theorem ansE_13 (h : Stp w b bm g i x (-1) 1 M) (d n m cond : Nat) (l r pc : Nat) (hl : l < 4294967296) (hr : r < 4294967296) (hpc : pc < 4294967296) (hi : InOk i 13 d n m cond) : AnsOf b bm g i x M 13 d cond l r pc w (ansP 13 d cond i.imm l r pc x M) := by
  rw [ansP_13]; unfold AnsOf; dsimp only; exact ans13 h hi.eop l r pc hl hr hpc
theorem ansE_14 (h : Stp w b bm g i x (-1) 1 M) (d n m cond : Nat) (l r pc : Nat) (hl : l < 4294967296) (hr : r < 4294967296) (hpc : pc < 4294967296) (hi : InOk i 14 d n m cond) : AnsOf b bm g i x M 14 d cond l r pc w (ansP 14 d cond i.imm l r pc x M) := by
  rw [ansP_14]; unfold AnsOf; dsimp only; exact ans14 h hi.eop l r pc hl hr hpc
theorem ansE_15 (h : Stp w b bm g i x (-1) 1 M) (d n m cond : Nat) (l r pc : Nat) (hl : l < 4294967296) (hr : r < 4294967296) (hpc : pc < 4294967296) (hi : InOk i 15 d n m cond) : AnsOf b bm g i x M 15 d cond l r pc w (ansP 15 d cond i.imm l r pc x M) := by
  rw [ansP_15]; unfold AnsOf; dsimp only; exact ans15 h hi.eop l r pc hl hr hpc
theorem ansE_16 (h : Stp w b bm g i x (-1) 1 M) (d n m cond : Nat) (l r pc : Nat) (hl : l < 4294967296) (hr : r < 4294967296) (hpc : pc < 4294967296) (hi : InOk i 16 d n m cond) : AnsOf b bm g i x M 16 d cond l r pc w (ansP 16 d cond i.imm l r pc x M) := by
  rw [ansP_16]; unfold AnsOf; dsimp only; exact ans16 h hi.eop l r pc hl hr hpc
theorem ansE_17 (h : Stp w b bm g i x (-1) 1 M) (d n m cond : Nat) (l r pc : Nat) (hl : l < 4294967296) (hr : r < 4294967296) (hpc : pc < 4294967296) (hi : InOk i 17 d n m cond) : AnsOf b bm g i x M 17 d cond l r pc w (ansP 17 d cond i.imm l r pc x M) := by
  rw [ansP_17]; unfold AnsOf; dsimp only; exact ans17 h hi.eop l r pc hl hr hpc
theorem ansE_18 (h : Stp w b bm g i x (-1) 1 M) (d n m cond : Nat) (l r pc : Nat) (hl : l < 4294967296) (hr : r < 4294967296) (hpc : pc < 4294967296) (hi : InOk i 18 d n m cond) : AnsOf b bm g i x M 18 d cond l r pc w (ansP 18 d cond i.imm l r pc x M) := by
  rw [ansP_18]; unfold AnsOf; dsimp only; exact ans18 h hi.eop l r pc hl hr hpc
theorem ansE_19 (h : Stp w b bm g i x (-1) 1 M) (d n m cond : Nat) (l r pc : Nat) (hl : l < 4294967296) (hr : r < 4294967296) (hpc : pc < 4294967296) (hi : InOk i 19 d n m cond) : AnsOf b bm g i x M 19 d cond l r pc w (ansP 19 d cond i.imm l r pc x M) := by
  rw [ansP_19]; unfold AnsOf; dsimp only; exact ans19 h hi.eop l r pc hl hr hpc
theorem ansE_20 (h : Stp w b bm g i x (-1) 1 M) (d n m cond : Nat) (l r pc : Nat) (hl : l < 4294967296) (hr : r < 4294967296) (hpc : pc < 4294967296) (hi : InOk i 20 d n m cond) : AnsOf b bm g i x M 20 d cond l r pc w (ansP 20 d cond i.imm l r pc x M) := by
  rw [ansP_20]; unfold AnsOf; dsimp only; exact ans20 h hi.eop l r pc hl hr hpc
theorem ansE_21 (h : Stp w b bm g i x (-1) 1 M) (d n m cond : Nat) (l r pc : Nat) (hl : l < 4294967296) (hr : r < 4294967296) (hpc : pc < 4294967296) (hi : InOk i 21 d n m cond) : AnsOf b bm g i x M 21 d cond l r pc w (ansP 21 d cond i.imm l r pc x M) := by
  rw [ansP_21]; unfold AnsOf; dsimp only; exact ans21 h hi.eop l r pc hl hr hpc
theorem ansE_22 (h : Stp w b bm g i x (-1) 1 M) (d n m cond : Nat) (l r pc : Nat) (hl : l < 4294967296) (hr : r < 4294967296) (hpc : pc < 4294967296) (hi : InOk i 22 d n m cond) : AnsOf b bm g i x M 22 d cond l r pc w (ansP 22 d cond i.imm l r pc x M) := by
  rw [ansP_22]; unfold AnsOf; dsimp only; exact ans22 h hi.eop l r pc hl hr hpc
theorem ansE_23 (h : Stp w b bm g i x (-1) 1 M) (d n m cond : Nat) (l r pc : Nat) (hl : l < 4294967296) (hr : r < 4294967296) (hpc : pc < 4294967296) (hi : InOk i 23 d n m cond) : AnsOf b bm g i x M 23 d cond l r pc w (ansP 23 d cond i.imm l r pc x M) := by
  rw [ansP_23]; unfold AnsOf; dsimp only; exact ans23 h hi.eop l r pc hl hr hpc
theorem ansE_24 (h : Stp w b bm g i x (-1) 1 M) (d n m cond : Nat) (l r pc : Nat) (hl : l < 4294967296) (hr : r < 4294967296) (hpc : pc < 4294967296) (hi : InOk i 24 d n m cond) : AnsOf b bm g i x M 24 d cond l r pc w (ansP 24 d cond i.imm l r pc x M) := by
  rw [ansP_24]; unfold AnsOf; dsimp only; exact ans24 h hi.eop l r pc hl hr hpc
theorem ansE_25 (h : Stp w b bm g i x (-1) 1 M) (d n m cond : Nat) (l r pc : Nat) (hl : l < 4294967296) (hr : r < 4294967296) (hpc : pc < 4294967296) (hi : InOk i 25 d n m cond) : AnsOf b bm g i x M 25 d cond l r pc w (ansP 25 d cond i.imm l r pc x M) := by
  rw [ansP_25]; unfold AnsOf; dsimp only; exact ans25 h hi.eop l r pc hl hr hpc
theorem ansE_26 (h : Stp w b bm g i x (-1) 1 M) (d n m cond : Nat) (l r pc : Nat) (hl : l < 4294967296) (hr : r < 4294967296) (hpc : pc < 4294967296) (hi : InOk i 26 d n m cond) : AnsOf b bm g i x M 26 d cond l r pc w (ansP 26 d cond i.imm l r pc x M) := by
  rw [ansP_26]; unfold AnsOf; dsimp only; exact ans26 h hi.eop l r pc hl hr hpc
theorem ansE_27 (h : Stp w b bm g i x (-1) 1 M) (d n m cond : Nat) (l r pc : Nat) (hl : l < 4294967296) (hr : r < 4294967296) (hpc : pc < 4294967296) (hi : InOk i 27 d n m cond) : AnsOf b bm g i x M 27 d cond l r pc w (ansP 27 d cond i.imm l r pc x M) := by
  rw [ansP_27]; unfold AnsOf; dsimp only; exact ans27 h hi.eop l r pc hl hr hpc
theorem ansE_28 (h : Stp w b bm g i x (-1) 1 M) (d n m cond : Nat) (l r pc : Nat) (hl : l < 4294967296) (hr : r < 4294967296) (hpc : pc < 4294967296) (hi : InOk i 28 d n m cond) : AnsOf b bm g i x M 28 d cond l r pc w (ansP 28 d cond i.imm l r pc x M) := by
  rw [ansP_28]; unfold AnsOf; dsimp only; exact ans28 h hi.eop l r pc hl hr hpc
theorem ansE_29 (h : Stp w b bm g i x (-1) 1 M) (d n m cond : Nat) (l r pc : Nat) (hl : l < 4294967296) (hr : r < 4294967296) (hpc : pc < 4294967296) (hi : InOk i 29 d n m cond) : AnsOf b bm g i x M 29 d cond l r pc w (ansP 29 d cond i.imm l r pc x M) := by
  rw [ansP_29]; unfold AnsOf; dsimp only; exact ans29 h hi.eop l r pc hl hr hpc
theorem ansE_30 (h : Stp w b bm g i x (-1) 1 M) (d n m cond : Nat) (l r pc : Nat) (hl : l < 4294967296) (hr : r < 4294967296) (hpc : pc < 4294967296) (hi : InOk i 30 d n m cond) : AnsOf b bm g i x M 30 d cond l r pc w (ansP 30 d cond i.imm l r pc x M) := by
  rw [ansP_30]; unfold AnsOf; dsimp only; exact ans30 h hi.eop l r pc hl hr hpc d hi.ed hi.dl
theorem ansE_31 (h : Stp w b bm g i x (-1) 1 M) (d n m cond : Nat) (l r pc : Nat) (hl : l < 4294967296) (hr : r < 4294967296) (hpc : pc < 4294967296) (hi : InOk i 31 d n m cond) : AnsOf b bm g i x M 31 d cond l r pc w (ansP 31 d cond i.imm l r pc x M) := by
  rw [ansP_31]; unfold AnsOf; dsimp only; exact ans31 h hi.eop l r pc hl hr hpc
theorem ansE_32 (h : Stp w b bm g i x (-1) 1 M) (d n m cond : Nat) (l r pc : Nat) (hl : l < 4294967296) (hr : r < 4294967296) (hpc : pc < 4294967296) (hi : InOk i 32 d n m cond) : AnsOf b bm g i x M 32 d cond l r pc w (ansP 32 d cond i.imm l r pc x M) := by
  rw [ansP_32]; unfold AnsOf; dsimp only; exact ans32 h hi.eop l r pc hl hr hpc d hi.ed hi.dl
theorem ansE_33 (h : Stp w b bm g i x (-1) 1 M) (d n m cond : Nat) (l r pc : Nat) (hl : l < 4294967296) (hr : r < 4294967296) (hpc : pc < 4294967296) (hi : InOk i 33 d n m cond) : AnsOf b bm g i x M 33 d cond l r pc w (ansP 33 d cond i.imm l r pc x M) := by
  rw [ansP_33]; unfold AnsOf; dsimp only; exact ans33 h hi.eop l r pc hl hr hpc
theorem ansE_34 (h : Stp w b bm g i x (-1) 1 M) (d n m cond : Nat) (l r pc : Nat) (hl : l < 4294967296) (hr : r < 4294967296) (hpc : pc < 4294967296) (hi : InOk i 34 d n m cond) : AnsOf b bm g i x M 34 d cond l r pc w (ansP 34 d cond i.imm l r pc x M) := by
  rw [ansP_34]; unfold AnsOf; dsimp only; exact ans34 h hi.eop l r pc hl hr hpc d hi.ed hi.dl
theorem ansE_35 (h : Stp w b bm g i x (-1) 1 M) (d n m cond : Nat) (l r pc : Nat) (hl : l < 4294967296) (hr : r < 4294967296) (hpc : pc < 4294967296) (hi : InOk i 35 d n m cond) : AnsOf b bm g i x M 35 d cond l r pc w (ansP 35 d cond i.imm l r pc x M) := by
  rw [ansP_35]; unfold AnsOf; dsimp only; exact ans35 h hi.eop l r pc hl hr hpc
theorem ansE_36 (h : Stp w b bm g i x (-1) 1 M) (d n m cond : Nat) (l r pc : Nat) (hl : l < 4294967296) (hr : r < 4294967296) (hpc : pc < 4294967296) (hi : InOk i 36 d n m cond) : AnsOf b bm g i x M 36 d cond l r pc w (ansP 36 d cond i.imm l r pc x M) := by
  rw [ansP_36]; unfold AnsOf; dsimp only; exact ans36 h hi.eop l r pc hl hr hpc d hi.ed hi.dl
theorem ansE_37 (h : Stp w b bm g i x (-1) 1 M) (d n m cond : Nat) (l r pc : Nat) (hl : l < 4294967296) (hr : r < 4294967296) (hpc : pc < 4294967296) (hi : InOk i 37 d n m cond) : AnsOf b bm g i x M 37 d cond l r pc w (ansP 37 d cond i.imm l r pc x M) := by
  rw [ansP_37]; unfold AnsOf; dsimp only; exact ans37 h hi.eop l r pc hl hr hpc
theorem ansE_38 (h : Stp w b bm g i x (-1) 1 M) (d n m cond : Nat) (l r pc : Nat) (hl : l < 4294967296) (hr : r < 4294967296) (hpc : pc < 4294967296) (hi : InOk i 38 d n m cond) : AnsOf b bm g i x M 38 d cond l r pc w (ansP 38 d cond i.imm l r pc x M) := by
  rw [ansP_38]; unfold AnsOf; dsimp only; exact ans38 h hi.eop l r pc hl hr hpc
theorem ansE_41 (h : Stp w b bm g i x (-1) 1 M) (d n m cond : Nat) (l r pc : Nat) (hl : l < 4294967296) (hr : r < 4294967296) (hpc : pc < 4294967296) (hi : InOk i 41 d n m cond) : AnsOf b bm g i x M 41 d cond l r pc w (ansP 41 d cond i.imm l r pc x M) := by
  have t := ans41 h hi.eop l r pc hl hr hpc cond hi.ec hi.cl
  rw [ansP_41] at t
  rw [ansP_41]
  exact t
theorem ansE_42 (h : Stp w b bm g i x (-1) 1 M) (d n m cond : Nat) (l r pc : Nat) (hl : l < 4294967296) (hr : r < 4294967296) (hpc : pc < 4294967296) (hi : InOk i 42 d n m cond) : AnsOf b bm g i x M 42 d cond l r pc w (ansP 42 d cond i.imm l r pc x M) := by
  rw [ansP_42]; unfold AnsOf; dsimp only; exact ans42 h hi.eop l r pc hl hr hpc
theorem ansE_43 (h : Stp w b bm g i x (-1) 1 M) (d n m cond : Nat) (l r pc : Nat) (hl : l < 4294967296) (hr : r < 4294967296) (hpc : pc < 4294967296) (hi : InOk i 43 d n m cond) : AnsOf b bm g i x M 43 d cond l r pc w (ansP 43 d cond i.imm l r pc x M) := by
  rw [ansP_43]; unfold AnsOf; dsimp only; exact ans43 h hi.eop l r pc hl hr hpc
theorem ansE_44 (h : Stp w b bm g i x (-1) 1 M) (d n m cond : Nat) (l r pc : Nat) (hl : l < 4294967296) (hr : r < 4294967296) (hpc : pc < 4294967296) (hi : InOk i 44 d n m cond) : AnsOf b bm g i x M 44 d cond l r pc w (ansP 44 d cond i.imm l r pc x M) := by
  rw [ansP_44]; unfold AnsOf; dsimp only; exact ans44 h hi.eop l r pc hl hr hpc
theorem ansE_45 (h : Stp w b bm g i x (-1) 1 M) (d n m cond : Nat) (l r pc : Nat) (hl : l < 4294967296) (hr : r < 4294967296) (hpc : pc < 4294967296) (hi : InOk i 45 d n m cond) : AnsOf b bm g i x M 45 d cond l r pc w (ansP 45 d cond i.imm l r pc x M) := by
  rw [ansP_45]; unfold AnsOf; dsimp only; exact ans45 h hi.eop l r pc hl hr hpc
theorem ansE_39 (h : Stp w b bm g i x (-1) 1 M) (d n m cond : Nat) (l r pc : Nat) (hl : l < 4294967296) (hr : r < 4294967296) (hpc : pc < 4294967296) (hi : InOk i 39 d n m cond) (him : 1 ≤ i.imm ∧ i.imm ≤ 511) (hst : x.st = 0) : AnsOf b bm g i x M 39 d cond l r pc w (ansP 39 d cond i.imm l r pc x M) := by
  obtain ⟨list, hli⟩ := Int.eq_ofNat_of_zero_le (by omega : 0 ≤ i.imm)
  have hll : list < 512 := by omega
  rw [ansP_39, hli, Int.toNat_natCast]
  unfold AnsOf
  exact ans39 h hi.eop l r pc hl hr hpc list hli hll hst
theorem ansE_40 (h : Stp w b bm g i x (-1) 1 M) (d n m cond : Nat) (l r pc : Nat) (hl : l < 4294967296) (hr : r < 4294967296) (hpc : pc < 4294967296) (hi : InOk i 40 d n m cond) (him : 1 ≤ i.imm ∧ i.imm ≤ 511) (hst : x.st = 0) : AnsOf b bm g i x M 40 d cond l r pc w (ansP 40 d cond i.imm l r pc x M) := by
  obtain ⟨list, hli⟩ := Int.eq_ofNat_of_zero_le (by omega : 0 ≤ i.imm)
  have hll : list < 512 := by omega
  rw [ansP_40, hli, Int.toNat_natCast]
  unfold AnsOf
  exact ans40 h hi.eop l r pc hl hr hpc list hli hll
theorem sAnswer (h : Stp w b bm g i x (-1) 1 M) (d n m cond : Nat) (l r pc : Nat) (hl : l < 4294967296) (hr : r < 4294967296) (hpc : pc < 4294967296) (op : Nat) (hi : InOk i op d n m cond) (hop : 1 ≤ op) (him : op = 39 ∨ op = 40 → 1 ≤ i.imm ∧ i.imm ≤ 511) (hst : x.st = 0) : AnsOf b bm g i x M op d cond l r pc w (ansP op d cond i.imm l r pc x M) := by
  have hol := hi.opl
  by_cases h1_45 : op ≤ 23
  · skip
    by_cases h1_23 : op ≤ 12
    · skip
      by_cases h1_12 : op ≤ 6
      · skip
        by_cases h1_6 : op ≤ 3
        · skip
          by_cases h1_3 : op ≤ 2
          · skip
            by_cases h1_2 : op ≤ 1
            · skip
              obtain rfl : op = 1 := by omega
              exact ansE_1 h d n m cond l r pc hl hr hpc hi
            · skip
              obtain rfl : op = 2 := by omega
              exact ansE_2 h d n m cond l r pc hl hr hpc hi
          · skip
            obtain rfl : op = 3 := by omega
            exact ansE_3 h d n m cond l r pc hl hr hpc hi
        · skip
          by_cases h4_6 : op ≤ 5
          · skip
            by_cases h4_5 : op ≤ 4
            · skip
              obtain rfl : op = 4 := by omega
              exact ansE_4 h d n m cond l r pc hl hr hpc hi
            · skip
              obtain rfl : op = 5 := by omega
              exact ansE_5 h d n m cond l r pc hl hr hpc hi
          · skip
            obtain rfl : op = 6 := by omega
            exact ansE_6 h d n m cond l r pc hl hr hpc hi
      · skip
        by_cases h7_12 : op ≤ 9
        · skip
          by_cases h7_9 : op ≤ 8
          · skip
            by_cases h7_8 : op ≤ 7
            · skip
              obtain rfl : op = 7 := by omega
              exact ansE_7 h d n m cond l r pc hl hr hpc hi
            · skip
              obtain rfl : op = 8 := by omega
              exact ansE_8 h d n m cond l r pc hl hr hpc hi
          · skip
            obtain rfl : op = 9 := by omega
            exact ansE_9 h d n m cond l r pc hl hr hpc hi
        · skip
          by_cases h10_12 : op ≤ 11
          · skip
            by_cases h10_11 : op ≤ 10
            · skip
              obtain rfl : op = 10 := by omega
              exact ansE_10 h d n m cond l r pc hl hr hpc hi
            · skip
              obtain rfl : op = 11 := by omega
              exact ansE_11 h d n m cond l r pc hl hr hpc hi
          · skip
            obtain rfl : op = 12 := by omega
            exact ansE_12 h d n m cond l r pc hl hr hpc hi
    · skip
      by_cases h13_23 : op ≤ 18
      · skip
        by_cases h13_18 : op ≤ 15
        · skip
          by_cases h13_15 : op ≤ 14
          · skip
            by_cases h13_14 : op ≤ 13
            · skip
              obtain rfl : op = 13 := by omega
              exact ansE_13 h d n m cond l r pc hl hr hpc hi
            · skip
              obtain rfl : op = 14 := by omega
              exact ansE_14 h d n m cond l r pc hl hr hpc hi
          · skip
            obtain rfl : op = 15 := by omega
            exact ansE_15 h d n m cond l r pc hl hr hpc hi
        · skip
          by_cases h16_18 : op ≤ 17
          · skip
            by_cases h16_17 : op ≤ 16
            · skip
              obtain rfl : op = 16 := by omega
              exact ansE_16 h d n m cond l r pc hl hr hpc hi
            · skip
              obtain rfl : op = 17 := by omega
              exact ansE_17 h d n m cond l r pc hl hr hpc hi
          · skip
            obtain rfl : op = 18 := by omega
            exact ansE_18 h d n m cond l r pc hl hr hpc hi
      · skip
        by_cases h19_23 : op ≤ 21
        · skip
          by_cases h19_21 : op ≤ 20
          · skip
            by_cases h19_20 : op ≤ 19
            · skip
              obtain rfl : op = 19 := by omega
              exact ansE_19 h d n m cond l r pc hl hr hpc hi
            · skip
              obtain rfl : op = 20 := by omega
              exact ansE_20 h d n m cond l r pc hl hr hpc hi
          · skip
            obtain rfl : op = 21 := by omega
            exact ansE_21 h d n m cond l r pc hl hr hpc hi
        · skip
          by_cases h22_23 : op ≤ 22
          · skip
            obtain rfl : op = 22 := by omega
            exact ansE_22 h d n m cond l r pc hl hr hpc hi
          · skip
            obtain rfl : op = 23 := by omega
            exact ansE_23 h d n m cond l r pc hl hr hpc hi
  · skip
    by_cases h24_45 : op ≤ 34
    · skip
      by_cases h24_34 : op ≤ 29
      · skip
        by_cases h24_29 : op ≤ 26
        · skip
          by_cases h24_26 : op ≤ 25
          · skip
            by_cases h24_25 : op ≤ 24
            · skip
              obtain rfl : op = 24 := by omega
              exact ansE_24 h d n m cond l r pc hl hr hpc hi
            · skip
              obtain rfl : op = 25 := by omega
              exact ansE_25 h d n m cond l r pc hl hr hpc hi
          · skip
            obtain rfl : op = 26 := by omega
            exact ansE_26 h d n m cond l r pc hl hr hpc hi
        · skip
          by_cases h27_29 : op ≤ 28
          · skip
            by_cases h27_28 : op ≤ 27
            · skip
              obtain rfl : op = 27 := by omega
              exact ansE_27 h d n m cond l r pc hl hr hpc hi
            · skip
              obtain rfl : op = 28 := by omega
              exact ansE_28 h d n m cond l r pc hl hr hpc hi
          · skip
            obtain rfl : op = 29 := by omega
            exact ansE_29 h d n m cond l r pc hl hr hpc hi
      · skip
        by_cases h30_34 : op ≤ 32
        · skip
          by_cases h30_32 : op ≤ 31
          · skip
            by_cases h30_31 : op ≤ 30
            · skip
              obtain rfl : op = 30 := by omega
              exact ansE_30 h d n m cond l r pc hl hr hpc hi
            · skip
              obtain rfl : op = 31 := by omega
              exact ansE_31 h d n m cond l r pc hl hr hpc hi
          · skip
            obtain rfl : op = 32 := by omega
            exact ansE_32 h d n m cond l r pc hl hr hpc hi
        · skip
          by_cases h33_34 : op ≤ 33
          · skip
            obtain rfl : op = 33 := by omega
            exact ansE_33 h d n m cond l r pc hl hr hpc hi
          · skip
            obtain rfl : op = 34 := by omega
            exact ansE_34 h d n m cond l r pc hl hr hpc hi
    · skip
      by_cases h35_45 : op ≤ 40
      · skip
        by_cases h35_40 : op ≤ 37
        · skip
          by_cases h35_37 : op ≤ 36
          · skip
            by_cases h35_36 : op ≤ 35
            · skip
              obtain rfl : op = 35 := by omega
              exact ansE_35 h d n m cond l r pc hl hr hpc hi
            · skip
              obtain rfl : op = 36 := by omega
              exact ansE_36 h d n m cond l r pc hl hr hpc hi
          · skip
            obtain rfl : op = 37 := by omega
            exact ansE_37 h d n m cond l r pc hl hr hpc hi
        · skip
          by_cases h38_40 : op ≤ 39
          · skip
            by_cases h38_39 : op ≤ 38
            · skip
              obtain rfl : op = 38 := by omega
              exact ansE_38 h d n m cond l r pc hl hr hpc hi
            · skip
              obtain rfl : op = 39 := by omega
              exact ansE_39 h d n m cond l r pc hl hr hpc hi (him (by simp)) hst
          · skip
            obtain rfl : op = 40 := by omega
            exact ansE_40 h d n m cond l r pc hl hr hpc hi (him (by simp)) hst
      · skip
        by_cases h41_45 : op ≤ 43
        · skip
          by_cases h41_43 : op ≤ 42
          · skip
            by_cases h41_42 : op ≤ 41
            · skip
              obtain rfl : op = 41 := by omega
              exact ansE_41 h d n m cond l r pc hl hr hpc hi
            · skip
              obtain rfl : op = 42 := by omega
              exact ansE_42 h d n m cond l r pc hl hr hpc hi
          · skip
            obtain rfl : op = 43 := by omega
            exact ansE_43 h d n m cond l r pc hl hr hpc hi
        · skip
          by_cases h44_45 : op ≤ 44
          · skip
            obtain rfl : op = 44 := by omega
            exact ansE_44 h d n m cond l r pc hl hr hpc hi
          · skip
            obtain rfl : op = 45 := by omega
            exact ansE_45 h d n m cond l r pc hl hr hpc hi
end
end Go.Proofs.Ytibmgmgkaacibaa

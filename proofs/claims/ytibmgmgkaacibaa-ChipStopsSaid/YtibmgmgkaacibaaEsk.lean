/- Package chip: what shows. -/
import Derived.Test.YtibmgmgkaacibaaErk
namespace Go.Proofs.Ytibmgmgkaacibaa
open Go.RowKit Go.ChangeShapes Go.WideShapes Go.Deep Go.IntWalk
set_option linter.unusedVariables false
set_option linter.unusedSimpArgs false
/-- a trace as an argument: none, or one that has room yet -/
def TrA (F : Nat → Prop) (w : World) (v : Value) : Option (List EvM) → Prop
  | none => v = .pointer none
  | some L => ∃ tb, v = .pointer (some ⟨tb, 0, none⟩) ∧ Trc F w tb L ∧ L.length < 200000
def TrB (F : Nat → Prop) (w : World) (v : Value) : Option (List EvM) → Prop
  | none => v = .pointer none
  | some L => ∃ tb, v = .pointer (some ⟨tb, 0, none⟩) ∧ Trc F w tb L
theorem TrA.b {F : Nat → Prop} {w : World} {v : Value} {L : Option (List EvM)} (h : TrA F w v L) : TrB F w v L := by
  cases L with
  | none => exact h
  | some L => obtain ⟨tb, h1, h2, h3⟩ := h; exact ⟨tb, h1, h2⟩
theorem TrB.upd {F S : Nat → Prop} {w w' : World} {v : Value} {L : Option (List EvM)} (h : TrB F w v L) (hu : Upd S w w') (hS : ∀ k, F k → ¬ S k) : TrB F w' v L := by
  cases L with
  | none => exact h
  | some L => obtain ⟨tb, h1, h2⟩ := h; exact ⟨tb, h1, h2.upd hu hS⟩
theorem TrA.upd {F S : Nat → Prop} {w w' : World} {v : Value} {L : Option (List EvM)} (h : TrA F w v L) (hu : Upd S w w') (hS : ∀ k, F k → ¬ S k) : TrA F w' v L := by
  cases L with
  | none => exact h
  | some L => obtain ⟨tb, h1, h2, h3⟩ := h; exact ⟨tb, h1, h2.upd hu hS, h3⟩
def evS (a : Nat) (t c : Int) : EvM := ⟨4, (a : Int), t, c⟩
section
variable {w w' : World} {b : Nat} {x : Ch} {mp : Value} {i : I6} {t_ c : Int} {F : Nat → Prop}
set_option maxRecDepth 20000 in
set_option maxHeartbeats 4000000 in
theorem sShow (h : Sp w b mp i x t_ c) (v : Value) (L : Option (List EvM)) (ht : TrA F w v L) (hF : ¬ F b) (at_ : Nat) (hat : at_ < 4294967296) (hcy : 0 ≤ x.cyc ∧ x.cyc ≤ 1099511627776) (hc : 0 ≤ c ∧ c ≤ 1000) :
    Calls Try.prog 34 #[.pointer (some ⟨b, 0, none⟩), v, .int .u32 (at_ : Int)] w fun e w' => e = .returned (.tuple #[]) ∧ Sp w' b mp i { x with cyc := x.cyc + c } t_ c ∧ ∃ F', (∀ k, F' k → F k ∨ w.heap.size ≤ k) ∧ TrB F' w' v (L.map (· ++ [evS at_ t_ c])) ∧ Upd (fun q => q = b ∨ F q) w w' := by
  have H0 := Lib.hid (h.upd (Upd.drew (fun _ => False) w) (fun h => h))
  have hw : IntKind.i64.wrap (x.cyc + c) = x.cyc + c := i64_in _ (by omega)
  have hwa : IntKind.i64.wrap (at_ : Int) = (at_ : Int) := i64_in _ (by omega)
  have HT := Lib.hid ht
  have HF := Lib.hid hF
  clear h ht hF
  cases L with
  | none =>
    have hv : v = .pointer none := HT.out
    subst hv
    go_enter Try.func34, Try.ntmps34
    go_wp2_with fail
    have hHeld : w.drew.cell? ⟨b, 22, none⟩ = some (.int .i64 x.cyc) ∧ w.drew.cell? ⟨b, 31, none⟩ = some (.int .i64 c) := ⟨H0.out.c22, H0.out.c31⟩
    refine wp_region_last (S := fun u => u.cell? ⟨b, 22, none⟩ = some (.int .i64 x.cyc) ∧ u.cell? ⟨b, 31, none⟩ = some (.int .i64 c)) 13 _ (by kernel_rfl) (by kernel_rfl) rfl ?_
    change wpHL _ _ _ _ _ _ _ _ _ _ w.drew
    refine wpHL_take (i := 0) (v := ?_) rfl (by kernel_rfl) (fun _ _ _ h => h) hHeld (Or.inl ⟨by rfl, ?_⟩) ?_
    rotate_left
    · (intro u hSw; obtain ⟨y0, y1⟩ := hSw; go_simp; try with_reducible rfl)
    try simp only [Act.put, List.getElem_toArray, List.getElem_cons_succ, List.getElem_cons_zero, List.setIfInBounds_toArray, List.set_cons_zero, List.set_cons_succ]
    refine wpHL_take (i := 1) (v := ?_) rfl (by kernel_rfl) (fun _ _ _ h => h) hHeld (Or.inl ⟨by rfl, ?_⟩) ?_
    rotate_left
    · (intro u hSw; obtain ⟨y0, y1⟩ := hSw; go_simp; try with_reducible rfl)
    try simp only [Act.put, List.getElem_toArray, List.getElem_cons_succ, List.getElem_cons_zero, List.setIfInBounds_toArray, List.set_cons_zero, List.set_cons_succ]
    refine wpHL_take (i := 2) (v := ?_) rfl (by kernel_rfl) (fun _ _ _ h => h) hHeld (Or.inl ⟨by rfl, ?_⟩) ?_
    rotate_left
    · (intro u hSw; obtain ⟨y0, y1⟩ := hSw; go_simp; try with_reducible rfl)
    try simp only [Act.put, List.getElem_toArray, List.getElem_cons_succ, List.getElem_cons_zero, List.setIfInBounds_toArray, List.set_cons_zero, List.set_cons_succ]
    refine wpHL_take (i := 3) (v := ?_) rfl (by kernel_rfl) (fun _ _ _ h => h) hHeld (Or.inl ⟨by rfl, ?_⟩) ?_
    rotate_left
    · (intro u hSw; obtain ⟨y0, y1⟩ := hSw; go_simp; try with_reducible rfl)
    try simp only [Act.put, List.getElem_toArray, List.getElem_cons_succ, List.getElem_cons_zero, List.setIfInBounds_toArray, List.set_cons_zero, List.set_cons_succ]
    refine wpHL_take (i := 4) (v := ?_) rfl (by kernel_rfl) (fun _ _ _ h => h) hHeld (Or.inl ⟨by rfl, ?_⟩) ?_
    rotate_left
    · (intro u hSw; obtain ⟨y0, y1⟩ := hSw; go_simp; try with_reducible rfl)
    try simp only [Act.put, List.getElem_toArray, List.getElem_cons_succ, List.getElem_cons_zero, List.setIfInBounds_toArray, List.set_cons_zero, List.set_cons_succ]
    refine wpHL_take (i := 5) (v := ?_) rfl (by kernel_rfl) (fun _ _ _ h => h) hHeld (Or.inl ⟨by rfl, ?_⟩) ?_
    rotate_left
    · (intro u hSw; obtain ⟨y0, y1⟩ := hSw; go_simp; try with_reducible rfl)
    try simp only [Act.put, List.getElem_toArray, List.getElem_cons_succ, List.getElem_cons_zero, List.setIfInBounds_toArray, List.set_cons_zero, List.set_cons_succ]
    refine wpHL_take (i := 6) (v := ?_) rfl (by kernel_rfl) (fun _ _ _ h => h) hHeld (Or.inl ⟨by rfl, ?_⟩) ?_
    rotate_left
    · (intro u hSw; obtain ⟨y0, y1⟩ := hSw; go_simp; try with_reducible rfl)
    try simp only [Act.put, List.getElem_toArray, List.getElem_cons_succ, List.getElem_cons_zero, List.setIfInBounds_toArray, List.set_cons_zero, List.set_cons_succ]
    refine wpHL_take (i := 7) (v := ?_) rfl (by kernel_rfl) (fun _ _ _ h => h) hHeld (Or.inl ⟨by rfl, ?_⟩) ?_
    rotate_left
    · (intro u hSw; obtain ⟨y0, y1⟩ := hSw; go_simp; try with_reducible rfl)
    try simp only [Act.put, List.getElem_toArray, List.getElem_cons_succ, List.getElem_cons_zero, List.setIfInBounds_toArray, List.set_cons_zero, List.set_cons_succ]
    refine wpHL_take (i := 8) (v := ?_) rfl (by kernel_rfl) (fun _ _ _ h => h) hHeld (Or.inl ⟨by rfl, ?_⟩) ?_
    rotate_left
    · (intro u hSw; obtain ⟨y0, y1⟩ := hSw; go_simp; try with_reducible rfl)
    try simp only [Act.put, List.getElem_toArray, List.getElem_cons_succ, List.getElem_cons_zero, List.setIfInBounds_toArray, List.set_cons_zero, List.set_cons_succ]
    refine wpHL_take (i := 9) (v := ?_) rfl (by kernel_rfl) (fun _ _ _ h => h) hHeld (Or.inl ⟨by rfl, ?_⟩) ?_
    rotate_left
    · (intro u hSw; obtain ⟨y0, y1⟩ := hSw; go_simp; try with_reducible rfl)
    try simp only [Act.put, List.getElem_toArray, List.getElem_cons_succ, List.getElem_cons_zero, List.setIfInBounds_toArray, List.set_cons_zero, List.set_cons_succ]
    refine wpHL_take (i := 10) (v := ?_) rfl (by kernel_rfl) (fun _ _ _ h => h) hHeld (Or.inl ⟨by rfl, ?_⟩) ?_
    rotate_left
    · (intro u hSw; obtain ⟨y0, y1⟩ := hSw; go_simp; try with_reducible rfl)
    try simp only [Act.put, List.getElem_toArray, List.getElem_cons_succ, List.getElem_cons_zero, List.setIfInBounds_toArray, List.set_cons_zero, List.set_cons_succ]
    refine wpHL_take (i := 11) (v := ?_) rfl (by kernel_rfl) (fun _ _ _ h => h) hHeld (Or.inl ⟨by rfl, ?_⟩) ?_
    rotate_left
    · (intro u hSw; obtain ⟨y0, y1⟩ := hSw; go_simp; try with_reducible rfl)
    try simp only [Act.put, List.getElem_toArray, List.getElem_cons_succ, List.getElem_cons_zero, List.setIfInBounds_toArray, List.set_cons_zero, List.set_cons_succ]
    refine wpHL_take (i := 12) (v := ?_) rfl (by kernel_rfl) (fun _ _ _ h => h) hHeld (Or.inl ⟨by rfl, ?_⟩) ?_
    rotate_left
    · (intro u hSw; obtain ⟨y0, y1⟩ := hSw; go_simp; try with_reducible rfl)
    try simp only [Act.put, List.getElem_toArray, List.getElem_cons_succ, List.getElem_cons_zero, List.setIfInBounds_toArray, List.set_cons_zero, List.set_cons_succ]
    refine wpHL_last (by kernel_rfl) ?_
    clear hHeld
    have f22 := H0.out.fz 22
    have c22 := H0.out.c22
    have HE := Lib.hid (H0.out.set_cyc (x.cyc + c))
    go_wp2_with fail
    go_end0
    exact ⟨rfl, HE.out, F, fun k h => .inl h, rfl, ((Upd.drew (fun q => q = b) w).trans (Sp.setU _ _ _ _) (fun _ h _ => h)).mono (fun _ h _ => .inl h)⟩
  | some L =>
    obtain ⟨tb, hv, htr, hll⟩ := HT.out
    subst hv
    have HTR := Lib.hid htr
    have HLL := Lib.hid hll
    clear htr hll HT
    go_enter Try.func34, Try.ntmps34
    go_wp2_with fail
    have hHeld : w.drew.cell? ⟨b, 22, none⟩ = some (.int .i64 x.cyc) ∧ w.drew.cell? ⟨b, 31, none⟩ = some (.int .i64 c) := ⟨H0.out.c22, H0.out.c31⟩
    refine wp_region_last (S := fun u => u.cell? ⟨b, 22, none⟩ = some (.int .i64 x.cyc) ∧ u.cell? ⟨b, 31, none⟩ = some (.int .i64 c)) 13 _ (by kernel_rfl) (by kernel_rfl) rfl ?_
    change wpHL _ _ _ _ _ _ _ _ _ _ w.drew
    refine wpHL_take (i := 0) (v := ?_) rfl (by kernel_rfl) (fun _ _ _ h => h) hHeld (Or.inl ⟨by rfl, ?_⟩) ?_
    rotate_left
    · (intro u hSw; obtain ⟨y0, y1⟩ := hSw; go_simp; try with_reducible rfl)
    try simp only [Act.put, List.getElem_toArray, List.getElem_cons_succ, List.getElem_cons_zero, List.setIfInBounds_toArray, List.set_cons_zero, List.set_cons_succ]
    refine wpHL_take (i := 1) (v := ?_) rfl (by kernel_rfl) (fun _ _ _ h => h) hHeld (Or.inl ⟨by rfl, ?_⟩) ?_
    rotate_left
    · (intro u hSw; obtain ⟨y0, y1⟩ := hSw; go_simp; try with_reducible rfl)
    try simp only [Act.put, List.getElem_toArray, List.getElem_cons_succ, List.getElem_cons_zero, List.setIfInBounds_toArray, List.set_cons_zero, List.set_cons_succ]
    refine wpHL_take (i := 2) (v := ?_) rfl (by kernel_rfl) (fun _ _ _ h => h) hHeld (Or.inl ⟨by rfl, ?_⟩) ?_
    rotate_left
    · (intro u hSw; obtain ⟨y0, y1⟩ := hSw; go_simp; try with_reducible rfl)
    try simp only [Act.put, List.getElem_toArray, List.getElem_cons_succ, List.getElem_cons_zero, List.setIfInBounds_toArray, List.set_cons_zero, List.set_cons_succ]
    refine wpHL_take (i := 3) (v := ?_) rfl (by kernel_rfl) (fun _ _ _ h => h) hHeld (Or.inl ⟨by rfl, ?_⟩) ?_
    rotate_left
    · (intro u hSw; obtain ⟨y0, y1⟩ := hSw; go_simp; try with_reducible rfl)
    try simp only [Act.put, List.getElem_toArray, List.getElem_cons_succ, List.getElem_cons_zero, List.setIfInBounds_toArray, List.set_cons_zero, List.set_cons_succ]
    refine wpHL_take (i := 4) (v := ?_) rfl (by kernel_rfl) (fun _ _ _ h => h) hHeld (Or.inl ⟨by rfl, ?_⟩) ?_
    rotate_left
    · (intro u hSw; obtain ⟨y0, y1⟩ := hSw; go_simp; try with_reducible rfl)
    try simp only [Act.put, List.getElem_toArray, List.getElem_cons_succ, List.getElem_cons_zero, List.setIfInBounds_toArray, List.set_cons_zero, List.set_cons_succ]
    refine wpHL_take (i := 5) (v := ?_) rfl (by kernel_rfl) (fun _ _ _ h => h) hHeld (Or.inl ⟨by rfl, ?_⟩) ?_
    rotate_left
    · (intro u hSw; obtain ⟨y0, y1⟩ := hSw; go_simp; try with_reducible rfl)
    try simp only [Act.put, List.getElem_toArray, List.getElem_cons_succ, List.getElem_cons_zero, List.setIfInBounds_toArray, List.set_cons_zero, List.set_cons_succ]
    refine wpHL_take (i := 6) (v := ?_) rfl (by kernel_rfl) (fun _ _ _ h => h) hHeld (Or.inl ⟨by rfl, ?_⟩) ?_
    rotate_left
    · (intro u hSw; obtain ⟨y0, y1⟩ := hSw; go_simp; try with_reducible rfl)
    try simp only [Act.put, List.getElem_toArray, List.getElem_cons_succ, List.getElem_cons_zero, List.setIfInBounds_toArray, List.set_cons_zero, List.set_cons_succ]
    refine wpHL_take (i := 7) (v := ?_) rfl (by kernel_rfl) (fun _ _ _ h => h) hHeld (Or.inl ⟨by rfl, ?_⟩) ?_
    rotate_left
    · (intro u hSw; obtain ⟨y0, y1⟩ := hSw; go_simp; try with_reducible rfl)
    try simp only [Act.put, List.getElem_toArray, List.getElem_cons_succ, List.getElem_cons_zero, List.setIfInBounds_toArray, List.set_cons_zero, List.set_cons_succ]
    refine wpHL_take (i := 8) (v := ?_) rfl (by kernel_rfl) (fun _ _ _ h => h) hHeld (Or.inl ⟨by rfl, ?_⟩) ?_
    rotate_left
    · (intro u hSw; obtain ⟨y0, y1⟩ := hSw; go_simp; try with_reducible rfl)
    try simp only [Act.put, List.getElem_toArray, List.getElem_cons_succ, List.getElem_cons_zero, List.setIfInBounds_toArray, List.set_cons_zero, List.set_cons_succ]
    refine wpHL_take (i := 9) (v := ?_) rfl (by kernel_rfl) (fun _ _ _ h => h) hHeld (Or.inl ⟨by rfl, ?_⟩) ?_
    rotate_left
    · (intro u hSw; obtain ⟨y0, y1⟩ := hSw; go_simp; try with_reducible rfl)
    try simp only [Act.put, List.getElem_toArray, List.getElem_cons_succ, List.getElem_cons_zero, List.setIfInBounds_toArray, List.set_cons_zero, List.set_cons_succ]
    refine wpHL_take (i := 10) (v := ?_) rfl (by kernel_rfl) (fun _ _ _ h => h) hHeld (Or.inl ⟨by rfl, ?_⟩) ?_
    rotate_left
    · (intro u hSw; obtain ⟨y0, y1⟩ := hSw; go_simp; try with_reducible rfl)
    try simp only [Act.put, List.getElem_toArray, List.getElem_cons_succ, List.getElem_cons_zero, List.setIfInBounds_toArray, List.set_cons_zero, List.set_cons_succ]
    refine wpHL_take (i := 11) (v := ?_) rfl (by kernel_rfl) (fun _ _ _ h => h) hHeld (Or.inl ⟨by rfl, ?_⟩) ?_
    rotate_left
    · (intro u hSw; obtain ⟨y0, y1⟩ := hSw; go_simp; try with_reducible rfl)
    try simp only [Act.put, List.getElem_toArray, List.getElem_cons_succ, List.getElem_cons_zero, List.setIfInBounds_toArray, List.set_cons_zero, List.set_cons_succ]
    refine wpHL_take (i := 12) (v := ?_) rfl (by kernel_rfl) (fun _ _ _ h => h) hHeld (Or.inl ⟨by rfl, ?_⟩) ?_
    rotate_left
    · (intro u hSw; obtain ⟨y0, y1⟩ := hSw; go_simp; try with_reducible rfl)
    try simp only [Act.put, List.getElem_toArray, List.getElem_cons_succ, List.getElem_cons_zero, List.setIfInBounds_toArray, List.set_cons_zero, List.set_cons_succ]
    refine wpHL_last (by kernel_rfl) ?_
    clear hHeld
    have f22 := H0.out.fz 22
    have c22 := H0.out.c22
    have HE := Lib.hid (H0.out.set_cyc (x.cyc + c))
    go_wp2_with fail
    have HU1 : Hid (Upd (fun q => q = b) w (w.setCell ⟨b, 22, none⟩ (.int .i64 (x.cyc + c))).drew) := Lib.hid ((Sp.setU _ _ _ _).trans (Upd.drew (fun q => q = b) _) (fun _ h _ => h))
    have H1 : Hid (Sp (w.setCell ⟨b, 22, none⟩ (.int .i64 (x.cyc + c))).drew.drew b mp i { x with cyc := x.cyc + c } t_ c) := Lib.hid (HE.out.upd (Upd.drew (fun _ => False) _) (fun h => h))
    have HTR1 := Lib.hid (HTR.out.upd (HU1.out.trans (Upd.drew (fun q => q = b) _) (fun _ h _ => h)) (fun k hk e => HF.out (e ▸ hk)))
    have HU1d := Lib.hid (HU1.out.trans (Upd.drew (fun q => q = b) _) (fun _ h _ => h))
    have HC0 : Hid ((w.setCell ⟨b, 22, none⟩ (.int .i64 (x.cyc + c))).drew.drew.cell? ⟨b, 30, none⟩ = some (.int .i64 t_) ∧ (w.setCell ⟨b, 22, none⟩ (.int .i64 (x.cyc + c))).drew.drew.cell? ⟨b, 31, none⟩ = some (.int .i64 c)) := Lib.hid ⟨H1.out.c30, H1.out.c31⟩
    obtain ⟨w1, hw1⟩ : ∃ w1, w1 = (w.setCell ⟨b, 22, none⟩ (.int .i64 (x.cyc + c))).drew := ⟨_, rfl⟩
    rw [← hw1] at HU1d HTR1 H1 HC0 ⊢
    clear hw1 HE HU1 H0 f22 c22
    go_region_held3 (fun u => u.cell? ⟨b, 30, none⟩ = some (.int .i64 t_) ∧ u.cell? ⟨b, 31, none⟩ = some (.int .i64 c)) (first | with_reducible exact HC0.out | with_reducible exact HC1.out) (first
      | (go_at_call 53; (with_reducible refine (tAdd HTR1.out HLL.out 4 (at_ : Int) t_ c).mono ?_); rintro e w2 ⟨rfl, htr, hu⟩; have H2 := Lib.hid (H1.out.upd hu HF.out); have HT2 := Lib.hid htr; have HU2 := Lib.hid hu; have HC1 : Hid (w2.cell? ⟨b, 30, none⟩ = some (.int .i64 t_) ∧ w2.cell? ⟨b, 31, none⟩ = some (.int .i64 c)) := Lib.hid ⟨H2.out.c30, H2.out.c31⟩; clear htr hu))
    all_goals
      go_wp2_with fail
      go_end0
      refine ⟨rfl, H2.out, _, fun k hk => ?_, ⟨tb, rfl, HT2.out⟩, (HU1d.out.mono (fun _ h _ => .inl h)).trans (HU2.out.mono (fun _ h _ => .inr h)) (fun _ h _ => h)⟩
      have hsz := HU1d.out.size
      rcases hk with hk | hk
      · exact .inl hk
      · exact .inr (by omega)
end
end Go.Proofs.Ytibmgmgkaacibaa

/- Package interp: what a frame does. -/
import Derived.Test.YtdmadfahgkikkaaGreatJak
import Derived.Test.YtdmadfahgkikkaaGreatQik
namespace Go.Proofs.YtdmadfahgkikkaaGreat
open Go.RowKit Go.Lib Go.ChangeShapes Go.WideShapes Go.Deep
set_option linter.unusedVariables false
set_option linter.unusedSimpArgs false

section
variable {d : Nat} {c : Nat → Nat} {w : World} {fb : Nat} {cv p l k lv sv : Value} {F : FrM}
theorem fHas (h : FrAt d c w fb cv p l k lv sv F) (h0 : 0 ≤ F.pc) (h1 : F.pc < (F.m.code.length : Int)) :
    Calls Tryz.prog 38 #[.pointer (some ⟨fb, 0, none⟩)] w fun e w' => e = .returned (.bool true) ∧ Upd (fun _ => False) w w' := by
  obtain ⟨-, -, -, b3, -, -, -, b7, -, -, -⟩ := h.bx
  obtain ⟨ka, kc, rfl, -, -⟩ := h.met.now.2.2.1.slice
  clear h
  have t1 : decide ((0 : Int) ≤ F.pc) = true := by simp; omega
  have t2 : decide (F.pc < (F.m.code.length : Int)) = true := by simp; omega
  generalize F.m.code.length = n at *
  go_enter Tryz.func38, Tryz.ntmps38
  go_wp2_with fail
  go_quiet (fail)
  go_wp2_with fail
  go_ret
  exact ⟨rfl, hpDrewN _ _ _⟩
theorem fNext (h : FrAt d c w fb cv p l k lv sv F) {j : Nat} (hj : F.pc = (j : Int)) (h1 : j < F.m.code.length) :
    Calls Tryz.prog 39 #[.pointer (some ⟨fb, 0, none⟩)] w fun e w' => e = .returned (.agg #[.int .i64 (F.m.code.getD j default).op, .int .i64 (F.m.code.getD j default).a, .int .i64 (F.m.code.getD j default).b]) ∧ Upd (fun _ => False) w w' := by
  obtain ⟨-, -, -, b3, -, -, -, b7, -, -, -⟩ := h.bx
  have hin := h.met.now.2.2.1
  obtain ⟨ka, kc, rfl, -, hkm⟩ := hin.slice
  obtain ⟨g, off, rfl, hc⟩ := hin.at h1
  have c0 := hc 0 (by omega)
  have c1 := hc 1 (by omega)
  have c2 := hc 2 (by omega)
  simp only [insF] at c0 c1 c2
  simp at c0 c1 c2
  have hfl : fb < w.heap.size := (Array.getElem?_eq_some_iff.1 h.box).1
  have hgl : g < w.heap.size := World.block_lt_of_cell? w _ c0
  have hne : fb ≠ w.heap.size := by omega
  have hj0 : (0 : Int) ≤ (j : Int) := Int.natCast_nonneg _
  have hj1 : (j : Int) < (F.m.code.length : Int) := by omega
  rw [hj] at b3
  obtain ⟨x, hx⟩ : ∃ x, x = F.m.code.getD j default := ⟨_, rfl⟩
  rw [show F.m.code[j]?.getD default = x from by rw [hx]; rfl] at c0 c1 c2
  rw [← hx]
  clear h hin hc hx hj
  unfold maxLen at hkm
  obtain ⟨op, a, b⟩ := x
  simp only at c0 c1 c2 ⊢
  generalize F.m.code.length = n at *
  go_enter Tryz.func39, Tryz.ntmps39
  go_upto_region 11 with fail
  obtain ⟨w1, hw1⟩ : ∃ w1, w1 = w.alloc (.cells #[.int .i64 0, .int .i64 0, .int .i64 0] 30) := ⟨_, rfl⟩
  rw [← hw1]
  have hu1 : Upd (fun _ => False) w w1 := by rw [hw1]; exact Upd.alloc _ _ _
  have ht1 : w1.heap[w.heap.size]? = some (.cells #[.int .i64 0, .int .i64 0, .int .i64 0] 30 (0, 0)) := by rw [hw1]; exact hpTop w _ _ rfl
  have hHeld : (fun w' : World => w'.cell? ⟨fb, 7, none⟩ = some (.slice (some ⟨g, off, none⟩) n kc) ∧ w'.cell? ⟨fb, 3, none⟩ = some (.int .i64 (j : Int)) ∧ w'.cell? ⟨g, off + j * 3, none⟩ = some (.int .i64 op) ∧ w'.cell? ⟨g, off + j * 3 + 1, none⟩ = some (.int .i64 a) ∧ w'.cell? ⟨g, off + j * 3 + 2, none⟩ = some (.int .i64 b)) w1.drew := ⟨(hu1.cell (p := ⟨fb, 7, none⟩) hfl (fun h => h)).trans b7, (hu1.cell (p := ⟨fb, 3, none⟩) hfl (fun h => h)).trans b3, (hu1.cell (p := ⟨g, off + j * 3, none⟩) hgl (fun h => h)).trans c0, (hu1.cell (p := ⟨g, off + j * 3 + 1, none⟩) hgl (fun h => h)).trans c1, (hu1.cell (p := ⟨g, off + j * 3 + 2, none⟩) hgl (fun h => h)).trans c2⟩
  have HW1 := Lib.hid hw1
  have HU1 := Lib.hid hu1
  have HT1 := Lib.hid ht1
  clear b7 b3 c0 c1 c2 hw1 hu1 ht1 hfl hgl hne
  refine wp_region_last (S := (fun w' : World => w'.cell? ⟨fb, 7, none⟩ = some (.slice (some ⟨g, off, none⟩) n kc) ∧ w'.cell? ⟨fb, 3, none⟩ = some (.int .i64 (j : Int)) ∧ w'.cell? ⟨g, off + j * 3, none⟩ = some (.int .i64 op) ∧ w'.cell? ⟨g, off + j * 3 + 1, none⟩ = some (.int .i64 a) ∧ w'.cell? ⟨g, off + j * 3 + 2, none⟩ = some (.int .i64 b))) 11 _ (by kernel_rfl) (by kernel_rfl) rfl ?_
  change wpHL _ _ _ _ _ _ _ _ _ _ w1.drew
  refine wpHL_take (i := 0) (v := ?_) rfl (by kernel_rfl) (fun _ _ _ h => h) hHeld (Or.inl ⟨by rfl, ?_⟩) ?_
  rotate_left
  · (intro w hSw; obtain ⟨y0, y1, y2, y3, y4⟩ := hSw; go_simp; try with_reducible rfl)
  try simp only [Act.put, List.getElem_toArray, List.getElem_cons_succ, List.getElem_cons_zero, List.setIfInBounds_toArray, List.set_cons_zero, List.set_cons_succ]
  refine wpHL_take (i := 1) (v := ?_) rfl (by kernel_rfl) (fun _ _ _ h => h) hHeld (Or.inl ⟨by rfl, ?_⟩) ?_
  rotate_left
  · (intro w hSw; obtain ⟨y0, y1, y2, y3, y4⟩ := hSw; go_simp; try with_reducible rfl)
  try simp only [Act.put, List.getElem_toArray, List.getElem_cons_succ, List.getElem_cons_zero, List.setIfInBounds_toArray, List.set_cons_zero, List.set_cons_succ]
  refine wpHL_take (i := 2) (v := ?_) rfl (by kernel_rfl) (fun _ _ _ h => h) hHeld (Or.inl ⟨by rfl, ?_⟩) ?_
  rotate_left
  · (intro w hSw; obtain ⟨y0, y1, y2, y3, y4⟩ := hSw; go_simp; try with_reducible rfl)
  try simp only [Act.put, List.getElem_toArray, List.getElem_cons_succ, List.getElem_cons_zero, List.setIfInBounds_toArray, List.set_cons_zero, List.set_cons_succ]
  refine wpHL_take (i := 3) (v := ?_) rfl (by kernel_rfl) (fun _ _ _ h => h) hHeld (Or.inl ⟨by rfl, ?_⟩) ?_
  rotate_left
  · (intro w hSw; obtain ⟨y0, y1, y2, y3, y4⟩ := hSw; go_simp; try with_reducible rfl)
  try simp only [Act.put, List.getElem_toArray, List.getElem_cons_succ, List.getElem_cons_zero, List.setIfInBounds_toArray, List.set_cons_zero, List.set_cons_succ]
  refine wpHL_take (i := 4) (v := ?_) rfl (by kernel_rfl) (fun _ _ _ h => h) hHeld (Or.inl ⟨by rfl, ?_⟩) ?_
  rotate_left
  · (intro w hSw; obtain ⟨y0, y1, y2, y3, y4⟩ := hSw; go_simp; try with_reducible rfl)
  try simp only [Act.put, List.getElem_toArray, List.getElem_cons_succ, List.getElem_cons_zero, List.setIfInBounds_toArray, List.set_cons_zero, List.set_cons_succ]
  refine wpHL_take (i := 5) (v := ?_) rfl (by kernel_rfl) (fun _ _ _ h => h) hHeld (Or.inl ⟨by rfl, ?_⟩) ?_
  rotate_left
  · (intro w hSw; obtain ⟨y0, y1, y2, y3, y4⟩ := hSw; go_simp; try with_reducible rfl)
  try simp only [Act.put, List.getElem_toArray, List.getElem_cons_succ, List.getElem_cons_zero, List.setIfInBounds_toArray, List.set_cons_zero, List.set_cons_succ]
  refine wpHL_take (i := 6) (v := ?_) rfl (by kernel_rfl) (fun _ _ _ h => h) hHeld (Or.inl ⟨by rfl, ?_⟩) ?_
  rotate_left
  · (intro w hSw; obtain ⟨y0, y1, y2, y3, y4⟩ := hSw; go_simp; try with_reducible rfl)
  try simp only [Act.put, List.getElem_toArray, List.getElem_cons_succ, List.getElem_cons_zero, List.setIfInBounds_toArray, List.set_cons_zero, List.set_cons_succ]
  refine wpHL_take (i := 7) (v := ?_) rfl (by kernel_rfl) (fun _ _ _ h => h) hHeld (Or.inl ⟨by rfl, ?_⟩) ?_
  rotate_left
  · (intro w hSw; obtain ⟨y0, y1, y2, y3, y4⟩ := hSw; go_simp; try with_reducible rfl)
  try simp only [Act.put, List.getElem_toArray, List.getElem_cons_succ, List.getElem_cons_zero, List.setIfInBounds_toArray, List.set_cons_zero, List.set_cons_succ]
  refine wpHL_take (i := 8) (v := ?_) rfl (by kernel_rfl) (fun _ _ _ h => h) hHeld (Or.inl ⟨by rfl, ?_⟩) ?_
  rotate_left
  · (intro w hSw; obtain ⟨y0, y1, y2, y3, y4⟩ := hSw; go_simp; try with_reducible rfl)
  try simp only [Act.put, List.getElem_toArray, List.getElem_cons_succ, List.getElem_cons_zero, List.setIfInBounds_toArray, List.set_cons_zero, List.set_cons_succ]
  refine wpHL_take (i := 9) (v := ?_) rfl (by kernel_rfl) (fun _ _ _ h => h) hHeld (Or.inl ⟨by rfl, ?_⟩) ?_
  rotate_left
  · (intro w hSw; obtain ⟨y0, y1, y2, y3, y4⟩ := hSw; go_simp; try with_reducible rfl)
  try simp only [Act.put, List.getElem_toArray, List.getElem_cons_succ, List.getElem_cons_zero, List.setIfInBounds_toArray, List.set_cons_zero, List.set_cons_succ]
  refine wpHL_take (i := 10) (v := ?_) rfl (by kernel_rfl) (fun _ _ _ h => h) hHeld (Or.inl ⟨by rfl, ?_⟩) ?_
  rotate_left
  · (intro w hSw; obtain ⟨y0, y1, y2, y3, y4⟩ := hSw; go_simp; try with_reducible rfl)
  try simp only [Act.put, List.getElem_toArray, List.getElem_cons_succ, List.getElem_cons_zero, List.setIfInBounds_toArray, List.set_cons_zero, List.set_cons_succ]
  refine wpHL_last (by kernel_rfl) ?_
  clear hHeld
  obtain ⟨e0, e1, e2, ef⟩ := three HT1.out
  have f0 := ef 0
  have f1 := ef 1
  have f2 := ef 2
  go_wp2_with fail
  obtain ⟨w4, hw4⟩ : ∃ w4, w4 = (((w1.setCell ⟨w.heap.size, 0, none⟩ (.int .i64 op)).setCell ⟨w.heap.size, 1, none⟩ (.int .i64 a)).setCell ⟨w.heap.size, 2, none⟩ (.int .i64 b)).drew := ⟨_, rfl⟩
  have hq4 : w4.heap[w.heap.size]? = some (.cells #[.int .i64 op, .int .i64 a, .int .i64 b] 30 (0, 0)) := by
    rw [hw4]
    show (((w1.setCell ⟨w.heap.size, 0, none⟩ (.int .i64 op)).setCell ⟨w.heap.size, 1, none⟩ (.int .i64 a)).setCell ⟨w.heap.size, 2, none⟩ (.int .i64 b)).heap[w.heap.size]? = _
    simp [World.setCell, Array.getElem?_modify, HT1.out]
  have hu4 : Upd (fun _ => False) w w4 := by
    have h1 : Upd (fun q => q = w.heap.size) w1 w4 := by
      rw [hw4]
      exact (hpS (hpS (hpS (Upd.refl _ _) rfl) rfl) rfl : Upd (fun q => q = w.heap.size) w1 _).trans (Upd.drew _ _) (fun _ h _ => h)
    exact HU1.out.trans h1 (fun q hq hl => by omega)
  rw [← hw4]
  clear hw4 e0 e1 e2 f0 f1 f2 ef
  obtain ⟨e0, e1, e2, -⟩ := three hq4
  refine bodyPost_ret (v := .agg #[.int .i64 op, .int .i64 a, .int .i64 b]) (by simp [results, Tryz.f39, go_sem, e0, e1, e2]) rfl ?_
  exact ⟨rfl, hu4⟩
theorem fLocal (h : FrAt d c w fb cv p l k lv sv F) {j : Nat} (hj : j < F.loc.length) : ∃ g lc, lv = .slice (some ⟨g, 0, none⟩) F.loc.length lc ∧ w.cell? ⟨g, j, none⟩ = some (.int .i32 (F.loc.getD j 0)) ∧ w.frozen? ⟨g, j, none⟩ = false ∧
    Calls Tryz.prog 44 #[.pointer (some ⟨fb, 0, none⟩), .int .i64 (j : Int)] w fun e w' => e = .returned (.pointer (some ⟨g, j, none⟩)) ∧ w = w' := by
  obtain ⟨-, -, -, -, -, -, -, -, b8, -, -⟩ := h.bx
  have hr := h.loc
  rcases hr.2 with ⟨_, h0⟩ | ⟨g, lc, cur, rfl, -, -, hlc, hml, -⟩
  · omega
  · have c1 := rowCell hr (j := j) (u := .int .i32 (F.loc.getD j 0)) (by simp [i32v, List.getD, hj])
    refine ⟨g, lc, rfl, c1, hpFrozen hr j, ?_⟩
    clear h hr c1
    have t1 : decide ((j : Int) < 0) = false := by simp only [decide_eq_false_iff_not]; omega
    have t2 : decide ((F.loc.length : Int) ≤ (j : Int)) = false := by simp only [decide_eq_false_iff_not]; omega
    have j0 : (0 : Int) ≤ (j : Int) := Int.natCast_nonneg _
    have j1 : (j : Int) < (F.loc.length : Int) := by omega
    unfold maxLen at hml
    generalize F.loc.length = n at *
    go_enter Tryz.func44, Tryz.ntmps44
    go_wp2_with fail
    go_ret
    exact ⟨rfl, rfl⟩
theorem fPop (h : FrAt d c w fb cv p l k lv sv F) {L : List Int} {x : Int} (hs : F.stk = L ++ [x]) :
    Calls Tryz.prog 45 #[.pointer (some ⟨fb, 0, none⟩)] w fun e w' => e = .returned (.int .i32 x) ∧ ∃ c' sv', Ext (FBS d) c w c' w' ∧ FrAt d c' w' fb cv p l k lv sv' (F.withStk L) := by
  obtain ⟨-, -, -, -, -, -, -, -, -, b9, bf⟩ := h.bx
  have f9 := bf 9
  have hr := h.stk
  have hlen : F.stk.length = L.length + 1 := by rw [hs]; simp
  rw [hlen] at hr
  rcases hr.2 with ⟨_, h0⟩ | ⟨g, lc, cur, rfl, -, -, hlc, hml, -⟩
  · omega
  · have c1 := rowCell hr (j := L.length) (u := .int .i32 x) (by rw [hs]; simp [i32v])
    have hsl := h.sl
    have hrow := row_take hr rfl (k := L.length) (by omega) (by omega)
    have HST := Lib.hid (h.setStk (w1 := w) (sv' := .slice (some ⟨g, 0, none⟩) L.length lc) (L := L) (Upd.refl _ _) (by have h1 := hrow; rw [hs] at h1; simpa [i32v] using h1) (fun q hq => .inl hq) (fun y hy => h.sr y (by rw [hs]; simp [hy])) (by omega))
    clear h hr hrow hs bf
    unfold maxLen at hml
    have t1 : decide ((L.length : Int) < 0) = false := by simp only [decide_eq_false_iff_not]; omega
    have w1 : IntKind.i64.wrap (((L.length + 1 : Nat) : Int) - 1) = (L.length : Int) := by rw [IntWalk.i64_in _ (by omega)]; omega
    have j0 : (0 : Int) ≤ (L.length : Int) := Int.natCast_nonneg _
    have j1 : (L.length : Int) < ((L.length + 1 : Nat) : Int) := by omega
    have j2 : (L.length : Int) ≤ ((L.length + 1 : Nat) : Int) := by omega
    have j3 : (L.length : Int) ≤ (lc : Int) := by omega
    generalize L.length = n at *
    go_enter Tryz.func45, Tryz.ntmps45
    go_wp2_with fail
    go_ret
    exact ⟨rfl, _, _, HST.out⟩
set_option maxRecDepth 100000 in
set_option maxHeartbeats 1000000 in
theorem fPush (h : FrAt d c w fb cv p l k lv sv F) (x : Int) (hx : i32r x) (hl : F.stk.length < 1000000) :
    Calls Tryz.prog 43 #[.pointer (some ⟨fb, 0, none⟩), .int .i32 x] w fun e w' => e = .returned (.tuple #[]) ∧ ∃ c' sv', Ext (FBS d) c w c' w' ∧ FrAt d c' w' fb cv p l k lv sv' (F.withStk (F.stk ++ [x])) := by
  obtain ⟨-, -, -, -, -, -, -, -, -, b9, bf⟩ := h.bx
  have hfl : fb < w.heap.size := (Array.getElem?_eq_some_iff.1 h.box).1
  obtain ⟨sa, sc, rfl⟩ := ownsRow_slice h.stk
  have H := Lib.hid h
  have HX := Lib.hid hx
  obtain ⟨i0, hi0, hz0, hz1, hz2⟩ := info_parts infoJ32
  have HRW : Hid (∀ o, (w.alloc o).ownsRow 0 21 1 (.slice sa F.stk.length sc) F.stk.length (i32v F.stk)) := Lib.hid (fun o => h.stk.alloc o)
  have HAP : Hid (Src (w.alloc (.cells #[.int .i32 x] 21)) 1 (.slice (some ⟨w.heap.size, 0, none⟩) 1 1) 1 [.int .i32 x]) := Lib.hid (Src.lit w 21 #[.int .i32 x] (by simp [Value.oneCell']) 1 1 rfl)
  clear h bf hx
  go_enter Tryz.func43, Tryz.ntmps43
  go_wp2_with (at_builtin; go_loud (refine wpList_append_mine _ rfl _ _ 32 rfl 0 21 i0 (.int .i32 0) 1 4 Tryz.underlying32 hi0 hz0 hz1 hz2 rfl (by decide) (.slice sa F.stk.length sc) F.stk.length (i32v F.stk) rfl (HRW.out _) 1 [.int .i32 x] HAP.out (by unfold maxLen; omega) (by omega) (Nat.zero_le _) ?_))
  intro v3 w3 ho hg hf
  obtain ⟨va, vc, rfl⟩ := ownsRow_slice ho
  have hu3 : Upd (fun q => (Value.slice sa F.stk.length sc).ownBlock = some q) w w3 := ((Upd.alloc (fun _ => False) w _).mono (fun _ h _ => h.elim)).trans (Upd.grown (S := fun q => (Value.slice sa F.stk.length sc).ownBlock = some q) hg (fun q hq => .inl hq)) (fun q hq _ => hq)
  have HST := Lib.hid (H.out.setStk (L := F.stk ++ [x]) hu3 (by rw [List.length_append]; simpa [i32v] using ho) (fun q hq => by
    rcases hf q hq with h1 | h1
    · exact .inl h1
    · simp at h1; exact .inr (by omega)) (fun y hy => by
    rcases List.mem_append.1 hy with h1 | h1
    · exact H.out.sr y h1
    · rw [List.mem_singleton] at h1; rw [h1]; exact HX.out) (by rw [List.length_append, List.length_singleton]; omega))
  have f9 : w3.frozen? ⟨fb, 9, none⟩ = false := by
    have h1 := hpBlk hu3 H.out.box (fun e => by have h1 := H.out.cs fb e; rw [H.out.cb] at h1; omega)
    exact (ten h1).2.2.2.2.2.2.2.2.2.2 9
  have c9 : w3.cell? ⟨fb, 9, none⟩ = some (.slice sa F.stk.length sc) := by
    have h1 := hpBlk hu3 H.out.box (fun e => by have h1 := H.out.cs fb e; rw [H.out.cb] at h1; omega)
    exact (ten h1).2.2.2.2.2.2.2.2.2.1
  clear ho hg hf hu3
  go_wp2_with fail
  go_end0
  exact ⟨rfl, _, _, HST.out⟩
def zs32 (n : Nat) : List Int := List.replicate n 0
theorem take_step (X : List Int) {n k : Nat} (hX : X.length = n) (hk : k < n) : (i32v (zs32 (n - k) ++ X.drop (n - k))).set (n - 1 - k) (.int .i32 (X.getD (n - 1 - k) 0)) = i32v (zs32 (n - (k + 1)) ++ X.drop (n - (k + 1))) := by
  rw [show n - k = (n - (k + 1)) + 1 by omega]
  unfold i32v
  rw [show n - 1 - k = n - (k + 1) by omega]
  generalize hm : n - (k + 1) = m
  have hm2 : m < X.length := by omega
  rw [show X.drop m = X.getD m 0 :: X.drop (m + 1) by rw [List.drop_eq_getElem_cons hm2]; simp [List.getD, hm2]]
  rw [show zs32 (m + 1) = zs32 m ++ [0] from List.replicate_succ', List.append_assoc, List.map_append, List.set_append]
  simp [zs32]
set_option maxRecDepth 100000 in
set_option maxHeartbeats 2000000 in
theorem fTake (h : FrAt d c w fb cv p l k lv sv F) {L X : List Int} (hs : F.stk = L ++ X) {n : Nat} (hn : X.length = n) (hn2 : n ≤ 1000) :
    Calls Tryz.prog 48 #[.pointer (some ⟨fb, 0, none⟩), .int .i64 (n : Nat)] w fun e w' => ∃ va c' sv', e = .returned (.slice (some va) n n) ∧ Ext (FBS d) c w c' w' ∧ FrAt d c' w' fb cv p l k lv sv' (F.withStk L) ∧ w'.ownsRow 0 21 1 (.slice (some va) n n) n (i32v X) ∧ (∀ q, (Value.slice (some va) n n).ownBlock = some q → w.heap.size ≤ q ∧ c' q = 9) := by
  have H := Lib.hid h
  have HS := Lib.hid hs
  have HN := Lib.hid hn
  obtain ⟨i0, hi0, hz0, hz1, hz2⟩ := info_parts infoJ32
  clear h hs
  go_enter Tryz.func48, Tryz.ntmps48
  go_wp2_with ((refine wpList_make_full w rfl _ _ 32 rfl 0 21 i0 (.int .i32 0) 1 Tryz.underlying32 hi0 hz0 hz1 .i64 .i64 (n : Int) (n : Int) n rfl rfl rfl rfl (by rw [hz2]; omega) (by unfold maxLen; omega) (Nat.zero_le _) ?_))
  intro w1 ho hg
  have hu1 : Upd (fun _ => False) w w1 := Upd.grown hg (fun q hq => by cases hq)
  have hs1 : w.heap.size < w1.heap.size := hpRowLt ho _ rfl
  have hrow : w1.ownsRow 0 21 1 (.slice (some ⟨w.heap.size, 0, none⟩) n n) n (i32v (zs32 (n - 0) ++ X.drop (n - 0))) := by
    rw [Nat.sub_zero, List.drop_of_length_le (by omega), List.append_nil]
    refine Eq.mp (congrArg _ ?_) ho
    refine List.ext_getElem (by simp [madeCells, i32v, zs32]) fun i h1 h2 => ?_
    simp [madeCells, i32v, zs32, Nat.mod_one]
  have E1 := Ext.made (c := c) (FBS d) 9 hu1
  have HT0 : Hid (Ext (FBS d) c w (paint c w 9) w1 ∧ FrAt d (paint c w 9) w1 fb cv p l k lv sv (F.withStk (L ++ X.take (n - 0))) ∧ w1.ownsRow 0 21 1 (.slice (some ⟨w.heap.size, 0, none⟩) n n) n (i32v (zs32 (n - 0) ++ X.drop (n - 0))) ∧ paint c w 9 w.heap.size = 9) := Lib.hid ⟨E1, by
    rw [Nat.sub_zero, List.take_of_length_le (by omega), ← HS.out]
    exact H.out.ext (Ext.made None0 9 hu1) (fun h => h) (fun _ _ h => h), hrow, paint_new c w 9 (Nat.le_refl _)⟩
  have HZ1 := Lib.hid hs1
  clear ho hg hu1 hs1 hrow E1
  go_wp2_with fail
  go_loopw [11, 6] (fun t _ wr => ∃ (j : Nat) (c' : Nat → Nat) (sv' : Value), j ≤ n ∧ t = .int .i64 (j : Nat) ∧ Hid (Ext (FBS d) c w c' wr ∧ FrAt d c' wr fb cv p l k lv sv' (F.withStk (L ++ X.take (n - j))) ∧ wr.ownsRow 0 21 1 (.slice (some ⟨w.heap.size, 0, none⟩) n n) n (i32v (zs32 (n - j) ++ X.drop (n - j))) ∧ c' w.heap.size = 9)) (fun t _ _ => n - (intOf t).toNat)
  case atStart => exact ⟨0, _, _, Nat.zero_le _, rfl, HT0⟩
  case round =>
    obtain ⟨j, c', sv', hj, rfl, HT⟩ := hrel
    by_cases hlt : j < n
    · have t1 : decide ((j : Int) < (n : Int)) = true := by simp; omega
      have hstk : (F.withStk (L ++ X.take (n - j))).stk = (L ++ X.take (n - (j + 1))) ++ [X.getD (n - 1 - j) 0] := by
        show L ++ X.take (n - j) = _
        rw [List.append_assoc, show n - j = (n - (j + 1)) + 1 by omega, List.take_succ_eq_append_getElem (by have := HN.out; omega)]
        rw [show n - 1 - j = n - (j + 1) by omega]
        simp [List.getD, show n - (j + 1) < X.length by have := HN.out; omega]
      have HP := Lib.hid (fPop HT.out.2.1 hstk)
      have HTS := Lib.hid (take_step X HN.out hlt)
      have w1' : IntKind.i64.wrap ((n : Int) - 1) = (n : Int) - 1 := IntWalk.i64_in _ (by omega)
      have w2' : IntKind.i64.wrap ((n : Int) - 1 - (j : Int)) = ((n - 1 - j : Nat) : Int) := by rw [IntWalk.i64_in _ (by omega)]; omega
      have i0' : (0 : Int) ≤ ((n - 1 - j : Nat) : Int) := Int.natCast_nonneg _
      have i1' : ((n - 1 - j : Nat) : Int) < (n : Int) := by omega
      have hjm : n - 1 - j < n := by omega
      have HJM := Lib.hid hjm
      clear hstk hjm
      generalize X.getD (n - 1 - j) 0 = x at *
      generalize n - 1 - j = m at *
      go_wp2_with fail
      refine HP.out.mono ?_
      rintro e w2 ⟨rfl, c2, sv2, hx, hf⟩
      have E2 := HT.out.1.trans hx (fun _ h => h)
      have hrow2 := hx.row HT.out.2.2.1 (fun q hq => by simp [Value.ownBlock] at hq; rw [← hq, HT.out.2.2.2]; simp only [FBS]; omega)
      have h92 : c2 w.heap.size = 9 := hx.col (hpRowLt HT.out.2.2.1 _ rfl) HT.out.2.2.2
      have f2 : w2.frozen? ⟨w.heap.size, m, none⟩ = false := hpFrozen hrow2 m
      have hfz : w2.cell? ⟨w.heap.size, m, none⟩ ≠ none := by
        obtain ⟨-, hr⟩ := hrow2
        rcases hr with ⟨hr, -⟩ | ⟨g, cap, cur, hr, -, hh, h7, -, h8, -⟩
        · simp at hr
        · simp at hr
          obtain ⟨rfl, rfl⟩ := hr
          simp [World.cell?, hh]
          have := HJM.out
          omega
      obtain ⟨old, hold⟩ := Option.ne_none_iff_exists'.1 hfz
      have HH := Lib.hid (And.intro E2 (And.intro hf (And.intro hrow2 h92)))
      clear hx hf E2 hrow2 h92 hfz HP
      go_wp2_with fail
      go_roundw
      case rel =>
        obtain ⟨E2, hf, hrow2, h92⟩ := HH.out
        have hst : Upd (fun q => q = w.heap.size) w2 (w2.setCell ⟨w.heap.size, m, none⟩ (.int .i32 x)) := hpS (Upd.refl _ _) rfl
        have E9 : Ext (fun i => i = 9) c2 w2 c2 (w2.setCell ⟨w.heap.size, m, none⟩ (.int .i32 x)) := ⟨fun _ _ => rfl, hst.mono (fun q hq _ => by rw [hq]; exact h92)⟩
        have hr3 := hpSet hrow2 m (.int .i32 x)
        rw [HTS.out] at hr3
        exact ⟨j + 1, c2, sv2, by omega, by go_num, Lib.hid ⟨⟨E2.same, E2.upd.trans hst (fun q hq hl => by omega)⟩, hf.ext E9 (by omega) (fun i hi => by simp only [FT3] at hi; omega), hr3, h92⟩⟩
      case measure => simp [intOf]; omega
    · have hje : j = n := by omega
      subst hje
      have t1 : decide ((j : Int) < (j : Int)) = false := by simp
      go_wp2_with fail
      go_ret
      obtain ⟨E, hf, hrow, h9⟩ := HT.out
      rw [Nat.sub_self] at hf hrow
      exact ⟨_, _, _, rfl, E, by simpa [FrM.withStk] using hf, by simpa [zs32] using hrow, fun q hq => by simp [Value.ownBlock] at hq; subst hq; exact ⟨Nat.le_refl _, h9⟩⟩
end
end Go.Proofs.YtdmadfahgkikkaaGreat

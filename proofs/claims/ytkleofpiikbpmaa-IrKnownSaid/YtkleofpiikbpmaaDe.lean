/- Package ir: a node is right by itself. -/
import Derived.Test.YtkleofpiikbpmaaDd
import Derived.Test.YtkleofpiikbpmaaRl
import Derived.Deep.RegionWith
namespace Go.Proofs.Ytkleofpiikbpmaa
open Go.RowKit Go.ChangeShapes Go.WideShapes Go.Deep
set_option linter.unusedVariables false
set_option linter.unusedSimpArgs false
theorem heap_topD (w : World) (o : Obj) : (w.alloc o).heap[w.heap.size]? = some o := by
  show (w.heap.push o)[w.heap.size]? = some o
  simp
def isNodeP (e : Int) : Nd → Bool
  | .const d _ => belowP e [d]
  | .move d s => belowP e [d, s]
  | .bin op d a b => binOkP op && belowP e [d, a, b]
  | .un op d a => unOkP op && belowP e [d, a]
  | .choose d c a b => belowP e [d, c, a, b]
  | .tick => true
  | .goto _ => true
  | .branch c _ => belowP e [c]
  | .getf d f => belowP 8 [f] && belowP e [d]
  | .putf f s => belowP 8 [f] && belowP e [s]
  | .serve op _ _ d l => ((l.length : Int) == servedP op) && (lackP e d && belowP e l)
  | .call m d l => belowP 8 [m] && callP e d l
  | .callx i d l => belowP 4 [i] && callP e d l
  | .ret s => lackP e s
  | .nil => false
section
variable {w : World} {v : Value} {n : Nd}
set_option maxRecDepth 20000 in
set_option maxHeartbeats 4000000 in
theorem irIsNode (h : NdV w v n) (e : Int) : Calls Try.prog 26 #[v, .int .i64 e] w fun e_ w' => e_ = .returned (.bool (isNodeP e n)) ∧ Upd (fun _ => False) w w' := by
  unfold isNodeP
  cases n with
  | nil =>
    obtain rfl := h
    obtain ⟨t0, t1, t2, t3, t4, t5, t6, t7, t8, t9, t10, t11, t12, t13⟩ := as_nil
    dsimp only
    go_enter Try.func26, Try.ntmps26
    go_wp2_with fail
    go_ret
    exact ⟨rfl, Upd.refl _ _⟩
  | const d n =>
    obtain ⟨rfl, b0⟩ := h
    obtain ⟨t0, t1, t2, t3, t4, t5, t6, t7, t8, t9, t10, t11, t12, t13⟩ := as_const (.agg #[.int .i64 d, .int .i32 (si n)])
    dsimp only
    go_enter Try.func26, Try.ntmps26
    go_wp2_with fail
    refine (irBelow _ e _ [d] (ints_lit _ _ [d] _ _ _ rfl (by simp) rfl (by intro x hx; simp at hx; subst hx; assumption) (by simp))).mono ?_
    rintro e_ w1 ⟨rfl, rfl⟩
    go_wp2_with fail
    go_ret
    exact ⟨rfl, ((Upd.alloc (fun _ => False) w _).two (Upd.alloc _ _ _))⟩
  | move d s =>
    obtain ⟨rfl, b0, b1⟩ := h
    obtain ⟨t0, t1, t2, t3, t4, t5, t6, t7, t8, t9, t10, t11, t12, t13⟩ := as_move (.agg #[.int .i64 d, .int .i64 s])
    dsimp only
    go_enter Try.func26, Try.ntmps26
    go_wp2_with fail
    refine (irBelow _ e _ [d, s] (ints_lit _ _ [d, s] _ _ _ rfl (by simp) rfl (by intro x hx; simp at hx; rcases hx with rfl | rfl <;> assumption) (by simp))).mono ?_
    rintro e_ w1 ⟨rfl, rfl⟩
    go_wp2_with fail
    go_ret
    exact ⟨rfl, ((Upd.alloc (fun _ => False) w _).two (Upd.alloc _ _ _))⟩
  | bin op d a b =>
    obtain ⟨rfl, b0, b1, b2, b3⟩ := h
    obtain ⟨t0, t1, t2, t3, t4, t5, t6, t7, t8, t9, t10, t11, t12, t13⟩ := as_bin (.agg #[.int .i64 op, .int .i64 d, .int .i64 a, .int .i64 b])
    dsimp only
    go_enter Try.func26, Try.ntmps26
    go_wp2_with fail
    refine (irIsBin _ op).mono ?_
    rintro e_ w1 ⟨rfl, rfl⟩
    cases hq : binOkP op
    · go_wp2_with fail
      go_ret
      exact ⟨by rw [hq]; rfl, Upd.alloc _ _ _⟩
    · go_wp2_with fail
      refine (irBelow _ e _ [d, a, b] (ints_lit _ _ [d, a, b] _ _ _ rfl (by simp) rfl (by intro x hx; simp at hx; rcases hx with rfl | rfl | rfl <;> assumption) (by simp))).mono ?_
      rintro e_ w1 ⟨rfl, rfl⟩
      go_wp2_with fail
      go_ret
      exact ⟨by rw [hq]; rfl, ((Upd.alloc (fun _ => False) w _).two (Upd.alloc _ _ _))⟩
  | un op d a =>
    obtain ⟨rfl, b0, b1, b2⟩ := h
    obtain ⟨t0, t1, t2, t3, t4, t5, t6, t7, t8, t9, t10, t11, t12, t13⟩ := as_un (.agg #[.int .i64 op, .int .i64 d, .int .i64 a])
    dsimp only
    go_enter Try.func26, Try.ntmps26
    go_wp2_with fail
    refine (irIsUn _ op).mono ?_
    rintro e_ w1 ⟨rfl, rfl⟩
    cases hq : unOkP op
    · go_wp2_with fail
      go_ret
      exact ⟨by rw [hq]; rfl, Upd.alloc _ _ _⟩
    · go_wp2_with fail
      refine (irBelow _ e _ [d, a] (ints_lit _ _ [d, a] _ _ _ rfl (by simp) rfl (by intro x hx; simp at hx; rcases hx with rfl | rfl <;> assumption) (by simp))).mono ?_
      rintro e_ w1 ⟨rfl, rfl⟩
      go_wp2_with fail
      go_ret
      exact ⟨by rw [hq]; rfl, ((Upd.alloc (fun _ => False) w _).two (Upd.alloc _ _ _))⟩
  | choose d c a b =>
    obtain ⟨rfl, b0, b1, b2, b3⟩ := h
    obtain ⟨t0, t1, t2, t3, t4, t5, t6, t7, t8, t9, t10, t11, t12, t13⟩ := as_choose (.agg #[.int .i64 d, .int .i64 c, .int .i64 a, .int .i64 b])
    dsimp only
    go_enter Try.func26, Try.ntmps26
    go_wp2_with fail
    refine (irBelow _ e _ [d, c, a, b] (ints_lit _ _ [d, c, a, b] _ _ _ rfl (by simp) rfl (by intro x hx; simp at hx; rcases hx with rfl | rfl | rfl | rfl <;> assumption) (by simp))).mono ?_
    rintro e_ w1 ⟨rfl, rfl⟩
    go_wp2_with fail
    go_ret
    exact ⟨rfl, ((Upd.alloc (fun _ => False) w _).two (Upd.alloc _ _ _))⟩
  | tick =>
    obtain rfl := h
    obtain ⟨t0, t1, t2, t3, t4, t5, t6, t7, t8, t9, t10, t11, t12, t13⟩ := as_tick (.agg #[])
    dsimp only
    go_enter Try.func26, Try.ntmps26
    go_wp2_with fail
    go_ret
    exact ⟨rfl, Upd.refl _ _⟩
  | goto to =>
    obtain ⟨rfl, b0⟩ := h
    obtain ⟨t0, t1, t2, t3, t4, t5, t6, t7, t8, t9, t10, t11, t12, t13⟩ := as_goto (.agg #[.int .i64 to])
    dsimp only
    go_enter Try.func26, Try.ntmps26
    go_wp2_with fail
    go_ret
    exact ⟨rfl, Upd.refl _ _⟩
  | branch c to =>
    obtain ⟨rfl, b0, b1⟩ := h
    obtain ⟨t0, t1, t2, t3, t4, t5, t6, t7, t8, t9, t10, t11, t12, t13⟩ := as_branch (.agg #[.int .i64 c, .int .i64 to])
    dsimp only
    go_enter Try.func26, Try.ntmps26
    go_wp2_with fail
    refine (irBelow _ e _ [c] (ints_lit _ _ [c] _ _ _ rfl (by simp) rfl (by intro x hx; simp at hx; subst hx; assumption) (by simp))).mono ?_
    rintro e_ w1 ⟨rfl, rfl⟩
    go_wp2_with fail
    go_ret
    exact ⟨rfl, ((Upd.alloc (fun _ => False) w _).two (Upd.alloc _ _ _))⟩
  | getf d f =>
    obtain ⟨rfl, b0, b1⟩ := h
    obtain ⟨t0, t1, t2, t3, t4, t5, t6, t7, t8, t9, t10, t11, t12, t13⟩ := as_getf (.agg #[.int .i64 d, .int .i64 f])
    dsimp only
    go_enter Try.func26, Try.ntmps26
    go_wp2_with fail
    refine (irBelow _ 8 _ [f] (ints_lit _ _ [f] _ _ _ rfl (by simp) rfl (by intro x hx; simp at hx; subst hx; assumption) (by simp))).mono ?_
    rintro e_ w1 ⟨rfl, rfl⟩
    cases hq : belowP 8 [f]
    · go_wp2_with fail
      go_ret
      exact ⟨by rw [hq]; rfl, ((Upd.alloc (fun _ => False) w _).two (Upd.alloc _ _ _))⟩
    · go_wp2_with fail
      refine (irBelow _ e _ [d] (ints_lit _ _ [d] _ _ _ rfl (by simp) rfl (by intro x hx; simp at hx; subst hx; assumption) (by simp))).mono ?_
      rintro e_ w1 ⟨rfl, rfl⟩
      go_wp2_with fail
      go_ret
      exact ⟨by rw [hq]; rfl, (((Upd.alloc (fun _ => False) w _).two (Upd.alloc _ _ _)).two (Upd.alloc _ _ _))⟩
  | putf f s =>
    obtain ⟨rfl, b0, b1⟩ := h
    obtain ⟨t0, t1, t2, t3, t4, t5, t6, t7, t8, t9, t10, t11, t12, t13⟩ := as_putf (.agg #[.int .i64 f, .int .i64 s])
    dsimp only
    go_enter Try.func26, Try.ntmps26
    go_wp2_with fail
    refine (irBelow _ 8 _ [f] (ints_lit _ _ [f] _ _ _ rfl (by simp) rfl (by intro x hx; simp at hx; subst hx; assumption) (by simp))).mono ?_
    rintro e_ w1 ⟨rfl, rfl⟩
    cases hq : belowP 8 [f]
    · go_wp2_with fail
      go_ret
      exact ⟨by rw [hq]; rfl, ((Upd.alloc (fun _ => False) w _).two (Upd.alloc _ _ _))⟩
    · go_wp2_with fail
      refine (irBelow _ e _ [s] (ints_lit _ _ [s] _ _ _ rfl (by simp) rfl (by intro x hx; simp at hx; subst hx; assumption) (by simp))).mono ?_
      rintro e_ w1 ⟨rfl, rfl⟩
      go_wp2_with fail
      go_ret
      exact ⟨by rw [hq]; rfl, (((Upd.alloc (fun _ => False) w _).two (Upd.alloc _ _ _)).two (Upd.alloc _ _ _))⟩
  | serve op a b d l =>
    obtain ⟨s_, rfl, HL0, b0, b1, b2, b3⟩ := h
    have HL := Lib.hid HL0
    obtain ⟨sa, sc, rfl, hsn, hsm⟩ := HL0.1.slice
    clear HL0
    obtain ⟨t0, t1, t2, t3, t4, t5, t6, t7, t8, t9, t10, t11, t12, t13⟩ := as_serve (.agg #[.int .i64 op, .int .i64 a, .int .i64 b, .int .i64 d, (.slice sa l.length sc)])
    dsimp only
    go_enter Try.func26, Try.ntmps26
    go_upto_region 31 with fail
    obtain ⟨W1, hW1⟩ : ∃ W1, w.alloc (.cells #[.int .i64 op, .int .i64 a, .int .i64 b, .int .i64 d, .slice sa l.length sc] 44) = W1 := ⟨_, rfl⟩
    have HU1 : Hid (Upd (fun _ => False) w W1) := Lib.hid (by rw [← hW1]; exact Upd.alloc _ _ _)
    have hx : W1.heap[w.heap.size]? = some (.cells #[.int .i64 op, .int .i64 a, .int .i64 b, .int .i64 d, .slice sa l.length sc] 44) := by rw [← hW1]; exact heap_topD w _
    have hlt : w.heap.size < W1.heap.size := (Array.getElem?_eq_some_iff.1 hx).1
    have HL1 := Lib.hid (HL.out.stay HU1.out)
    rw [hW1]
    generalize w.heap.size = B at *
    have k0 : W1.cell? ⟨B, 0, none⟩ = some (.int .i64 op) := by simp [World.cell?, hx]
    have c0 : W1.drew.cell? ⟨B, 0, none⟩ = some (.int .i64 op) := by simpa using k0
    have k3 : W1.cell? ⟨B, 3, none⟩ = some (.int .i64 d) := by simp [World.cell?, hx]
    have c3 : W1.drew.cell? ⟨B, 3, none⟩ = some (.int .i64 d) := by simpa using k3
    have k4 : W1.cell? ⟨B, 4, none⟩ = some (.slice sa l.length sc) := by simp [World.cell?, hx]
    have c4 : W1.drew.cell? ⟨B, 4, none⟩ = some (.slice sa l.length sc) := by simpa using k4
    have HD := Lib.hid b3
    clear hx hW1 HL b0 b1 b2 b3 t0 t1 t2 t3 t4 t5 t6 t7 t8 t9 t10 t11 t12 t13
    have HUD : Hid (Upd (fun _ => False) w W1.drew) := Lib.hid (HU1.out.two (Upd.drew _ _))
    have HLD := Lib.hid (HL1.out.stay (Upd.drew (fun _ => False) W1))
    clear hlt HU1 HL1 k0 k3 k4
    obtain ⟨sv, hsv⟩ : ∃ sv, servedP op = sv := ⟨_, rfl⟩
    have HSV := Lib.hid hsv
    clear hsv
    have hHeld : (fun w' : World => w'.cell? ⟨B, 0, none⟩ = some (.int .i64 op) ∧ w'.cell? ⟨B, 3, none⟩ = some (.int .i64 d) ∧ w'.cell? ⟨B, 4, none⟩ = some (.slice sa l.length sc)) W1.drew := ⟨c0, c3, c4⟩
    clear c0 c3 c4
    have hEq : ∀ w, (binOp .eql 3 (.int .i64 (l.length : Int)) (.int .i64 sv)).run Try.prog w = .ok (.bool ((l.length : Int) == sv)) w := fun w => by kernel_rfl
    refine wp_region_last (S := (fun w' : World => w'.cell? ⟨B, 0, none⟩ = some (.int .i64 op) ∧ w'.cell? ⟨B, 3, none⟩ = some (.int .i64 d) ∧ w'.cell? ⟨B, 4, none⟩ = some (.slice sa l.length sc))) 19 _ (by kernel_rfl) (by kernel_rfl) rfl ?_
    change wpHL _ _ _ _ _ _ _ _ _ _ W1.drew
    generalize W1.drew = W2 at *
    refine wpHL_take (i := 0) (v := ?_) rfl (by kernel_rfl) (fun _ _ _ h => h) hHeld (Or.inl ⟨by rfl, ?_⟩) ?_
    rotate_left
    · (intro w hSw; obtain ⟨y0, y1, y2⟩ := hSw; go_simp; try with_reducible rfl)
    try simp only [Act.put, List.getElem_toArray, List.getElem_cons_succ, List.getElem_cons_zero, List.setIfInBounds_toArray, List.set_cons_zero, List.set_cons_succ]
    refine wpHL_take (i := 1) (v := ?_) rfl (by kernel_rfl) (fun _ _ _ h => h) hHeld (Or.inl ⟨by rfl, ?_⟩) ?_
    rotate_left
    · (intro w hSw; obtain ⟨y0, y1, y2⟩ := hSw; go_simp; try with_reducible rfl)
    try simp only [Act.put, List.getElem_toArray, List.getElem_cons_succ, List.getElem_cons_zero, List.setIfInBounds_toArray, List.set_cons_zero, List.set_cons_succ]
    refine wpHL_take (i := 2) (v := ?_) rfl (by kernel_rfl) (fun _ _ _ h => h) hHeld (Or.inl ⟨by rfl, ?_⟩) ?_
    rotate_left
    · (intro w hSw; obtain ⟨y0, y1, y2⟩ := hSw; go_simp; try with_reducible rfl)
    try simp only [Act.put, List.getElem_toArray, List.getElem_cons_succ, List.getElem_cons_zero, List.setIfInBounds_toArray, List.set_cons_zero, List.set_cons_succ]
    refine wpHL_take (i := 3) (v := ?_) rfl (by kernel_rfl) (fun _ _ _ h => h) hHeld (Or.inl ⟨by rfl, ?_⟩) ?_
    rotate_left
    · (intro w hSw; obtain ⟨y0, y1, y2⟩ := hSw; go_simp; try with_reducible rfl)
    try simp only [Act.put, List.getElem_toArray, List.getElem_cons_succ, List.getElem_cons_zero, List.setIfInBounds_toArray, List.set_cons_zero, List.set_cons_succ]
    refine wpHL_take (i := 4) (v := ?_) rfl (by kernel_rfl) (fun _ _ _ h => h) hHeld (Or.inl ⟨by rfl, ?_⟩) ?_
    rotate_left
    · (intro w hSw; obtain ⟨y0, y1, y2⟩ := hSw; go_simp; try with_reducible rfl)
    try simp only [Act.put, List.getElem_toArray, List.getElem_cons_succ, List.getElem_cons_zero, List.setIfInBounds_toArray, List.set_cons_zero, List.set_cons_succ]
    refine wpHL_step (i := 5) rfl (by kernel_rfl) (by decide) (fun K hK => ?_)
    have HKK := Lib.hid hK
    clear hK
    go_simp
    refine (irServed _ op).mono ?_
    rw [HSV.out]
    rintro e_ w3 ⟨rfl, rfl⟩
    go_simp
    refine HKK.out _ _ hHeld ?_
    clear HKK
    try simp only [Act.put, List.getElem_toArray, List.getElem_cons_succ, List.getElem_cons_zero, List.setIfInBounds_toArray, List.set_cons_zero, List.set_cons_succ]
    cases hq : ((l.length : Int) == sv)
    · skip
      refine wpHL_take (i := 6) (v := ?_) rfl (by kernel_rfl) (fun _ _ _ h => h) hHeld (Or.inl ⟨by rfl, ?_⟩) ?_
      rotate_left
      · (intro w hSw; obtain ⟨y0, y1, y2⟩ := hSw; rw [hq] at hEq; go_simp; try with_reducible rfl)
      try simp only [Act.put, List.getElem_toArray, List.getElem_cons_succ, List.getElem_cons_zero, List.setIfInBounds_toArray, List.set_cons_zero, List.set_cons_succ]
      refine wpHL_take (i := 7) (v := ?_) rfl (by kernel_rfl) (fun _ _ _ h => h) hHeld (Or.inl ⟨by rfl, ?_⟩) ?_
      rotate_left
      · (intro w hSw; obtain ⟨y0, y1, y2⟩ := hSw; go_simp; try with_reducible rfl)
      try simp only [Act.put, List.getElem_toArray, List.getElem_cons_succ, List.getElem_cons_zero, List.setIfInBounds_toArray, List.set_cons_zero, List.set_cons_succ]
      refine wpHL_take (i := 8) (v := undef) rfl (by kernel_rfl) (fun _ _ _ h => h) hHeld (Or.inr ⟨by rfl, rfl⟩) ?_
      try simp only [Act.put, List.getElem_toArray, List.getElem_cons_succ, List.getElem_cons_zero, List.setIfInBounds_toArray, List.set_cons_zero, List.set_cons_succ]
      refine wpHL_take (i := 9) (v := undef) rfl (by kernel_rfl) (fun _ _ _ h => h) hHeld (Or.inr ⟨by rfl, rfl⟩) ?_
      try simp only [Act.put, List.getElem_toArray, List.getElem_cons_succ, List.getElem_cons_zero, List.setIfInBounds_toArray, List.set_cons_zero, List.set_cons_succ]
      refine wpHL_take (i := 10) (v := undef) rfl (by kernel_rfl) (fun _ _ _ h => h) hHeld (Or.inr ⟨by rfl, rfl⟩) ?_
      try simp only [Act.put, List.getElem_toArray, List.getElem_cons_succ, List.getElem_cons_zero, List.setIfInBounds_toArray, List.set_cons_zero, List.set_cons_succ]
      refine wpHL_take (i := 11) (v := undef) rfl (by kernel_rfl) (fun _ _ _ h => h) hHeld (Or.inr ⟨by rfl, rfl⟩) ?_
      try simp only [Act.put, List.getElem_toArray, List.getElem_cons_succ, List.getElem_cons_zero, List.setIfInBounds_toArray, List.set_cons_zero, List.set_cons_succ]
      refine wpHL_take (i := 12) (v := ?_) rfl (by kernel_rfl) (fun _ _ _ h => h) hHeld (Or.inl ⟨by rfl, ?_⟩) ?_
      rotate_left
      · (intro w hSw; obtain ⟨y0, y1, y2⟩ := hSw; go_simp; try with_reducible rfl)
      try simp only [Act.put, List.getElem_toArray, List.getElem_cons_succ, List.getElem_cons_zero, List.setIfInBounds_toArray, List.set_cons_zero, List.set_cons_succ]
      refine wpHL_take (i := 13) (v := ?_) rfl (by kernel_rfl) (fun _ _ _ h => h) hHeld (Or.inl ⟨by rfl, ?_⟩) ?_
      rotate_left
      · (intro w hSw; obtain ⟨y0, y1, y2⟩ := hSw; go_simp; try with_reducible rfl)
      try simp only [Act.put, List.getElem_toArray, List.getElem_cons_succ, List.getElem_cons_zero, List.setIfInBounds_toArray, List.set_cons_zero, List.set_cons_succ]
      refine wpHL_take (i := 14) (v := undef) rfl (by kernel_rfl) (fun _ _ _ h => h) hHeld (Or.inr ⟨by rfl, rfl⟩) ?_
      try simp only [Act.put, List.getElem_toArray, List.getElem_cons_succ, List.getElem_cons_zero, List.setIfInBounds_toArray, List.set_cons_zero, List.set_cons_succ]
      refine wpHL_take (i := 15) (v := undef) rfl (by kernel_rfl) (fun _ _ _ h => h) hHeld (Or.inr ⟨by rfl, rfl⟩) ?_
      try simp only [Act.put, List.getElem_toArray, List.getElem_cons_succ, List.getElem_cons_zero, List.setIfInBounds_toArray, List.set_cons_zero, List.set_cons_succ]
      refine wpHL_take (i := 16) (v := undef) rfl (by kernel_rfl) (fun _ _ _ h => h) hHeld (Or.inr ⟨by rfl, rfl⟩) ?_
      try simp only [Act.put, List.getElem_toArray, List.getElem_cons_succ, List.getElem_cons_zero, List.setIfInBounds_toArray, List.set_cons_zero, List.set_cons_succ]
      refine wpHL_take (i := 17) (v := undef) rfl (by kernel_rfl) (fun _ _ _ h => h) hHeld (Or.inr ⟨by rfl, rfl⟩) ?_
      try simp only [Act.put, List.getElem_toArray, List.getElem_cons_succ, List.getElem_cons_zero, List.setIfInBounds_toArray, List.set_cons_zero, List.set_cons_succ]
      refine wpHL_take (i := 18) (v := ?_) rfl (by kernel_rfl) (fun _ _ _ h => h) hHeld (Or.inl ⟨by rfl, ?_⟩) ?_
      rotate_left
      · (intro w hSw; obtain ⟨y0, y1, y2⟩ := hSw; go_simp; try with_reducible rfl)
      try simp only [Act.put, List.getElem_toArray, List.getElem_cons_succ, List.getElem_cons_zero, List.setIfInBounds_toArray, List.set_cons_zero, List.set_cons_succ]
      refine wpHL_last (by kernel_rfl) ?_
      go_wp2_with fail
      go_ret
      exact ⟨by rw [HSV.out, hq]; rfl, HUD.out⟩
    · skip
      refine wpHL_take (i := 6) (v := ?_) rfl (by kernel_rfl) (fun _ _ _ h => h) hHeld (Or.inl ⟨by rfl, ?_⟩) ?_
      rotate_left
      · (intro w hSw; obtain ⟨y0, y1, y2⟩ := hSw; rw [hq] at hEq; go_simp; try with_reducible rfl)
      try simp only [Act.put, List.getElem_toArray, List.getElem_cons_succ, List.getElem_cons_zero, List.setIfInBounds_toArray, List.set_cons_zero, List.set_cons_succ]
      refine wpHL_take (i := 7) (v := ?_) rfl (by kernel_rfl) (fun _ _ _ h => h) hHeld (Or.inl ⟨by rfl, ?_⟩) ?_
      rotate_left
      · (intro w hSw; obtain ⟨y0, y1, y2⟩ := hSw; go_simp; try with_reducible rfl)
      try simp only [Act.put, List.getElem_toArray, List.getElem_cons_succ, List.getElem_cons_zero, List.setIfInBounds_toArray, List.set_cons_zero, List.set_cons_succ]
      refine wpHL_take (i := 8) (v := ?_) rfl (by kernel_rfl) (fun _ _ _ h => h) hHeld (Or.inl ⟨by rfl, ?_⟩) ?_
      rotate_left
      · (intro w hSw; obtain ⟨y0, y1, y2⟩ := hSw; go_simp; try with_reducible rfl)
      try simp only [Act.put, List.getElem_toArray, List.getElem_cons_succ, List.getElem_cons_zero, List.setIfInBounds_toArray, List.set_cons_zero, List.set_cons_succ]
      refine wpHL_take (i := 9) (v := ?_) rfl (by kernel_rfl) (fun _ _ _ h => h) hHeld (Or.inl ⟨by rfl, ?_⟩) ?_
      rotate_left
      · (intro w hSw; obtain ⟨y0, y1, y2⟩ := hSw; go_simp; try with_reducible rfl)
      try simp only [Act.put, List.getElem_toArray, List.getElem_cons_succ, List.getElem_cons_zero, List.setIfInBounds_toArray, List.set_cons_zero, List.set_cons_succ]
      refine wpHL_take (i := 10) (v := ?_) rfl (by kernel_rfl) (fun _ _ _ h => h) hHeld (Or.inl ⟨by rfl, ?_⟩) ?_
      rotate_left
      · (intro w hSw; obtain ⟨y0, y1, y2⟩ := hSw; go_simp; try with_reducible rfl)
      try simp only [Act.put, List.getElem_toArray, List.getElem_cons_succ, List.getElem_cons_zero, List.setIfInBounds_toArray, List.set_cons_zero, List.set_cons_succ]
      obtain ⟨lk, hlk⟩ : ∃ lk, lackP e d = lk := ⟨_, rfl⟩
      have HLK := Lib.hid hlk
      clear hlk
      refine wpHL_step (i := 11) rfl (by kernel_rfl) (by decide) (fun K hK => ?_)
      have HKK := Lib.hid hK
      clear hK
      go_simp
      refine (irMayLack _ e d HD.out).mono ?_
      rw [HLK.out]
      rintro e_ w3 ⟨rfl, hu⟩
      have HUE := Lib.hid (HUD.out.two hu)
      have HLE := Lib.hid (HLD.out.stay hu)
      have hHeld : (fun w' : World => w'.cell? ⟨B, 0, none⟩ = some (.int .i64 op) ∧ w'.cell? ⟨B, 3, none⟩ = some (.int .i64 d) ∧ w'.cell? ⟨B, 4, none⟩ = some (.slice sa l.length sc)) w3 := ⟨by rw [hu.cell (World.block_lt_of_cell? _ _ hHeld.1) (fun h => h)]; exact hHeld.1, by rw [hu.cell (World.block_lt_of_cell? _ _ hHeld.2.1) (fun h => h)]; exact hHeld.2.1, by rw [hu.cell (World.block_lt_of_cell? _ _ hHeld.2.2) (fun h => h)]; exact hHeld.2.2⟩
      clear hu
      go_simp
      refine HKK.out _ _ hHeld ?_
      clear HKK
      try simp only [Act.put, List.getElem_toArray, List.getElem_cons_succ, List.getElem_cons_zero, List.setIfInBounds_toArray, List.set_cons_zero, List.set_cons_succ]
      cases lk
      · skip
        refine wpHL_take (i := 12) (v := ?_) rfl (by kernel_rfl) (fun _ _ _ h => h) hHeld (Or.inl ⟨by rfl, ?_⟩) ?_
        rotate_left
        · (intro w hSw; obtain ⟨y0, y1, y2⟩ := hSw; go_simp; try with_reducible rfl)
        try simp only [Act.put, List.getElem_toArray, List.getElem_cons_succ, List.getElem_cons_zero, List.setIfInBounds_toArray, List.set_cons_zero, List.set_cons_succ]
        refine wpHL_take (i := 13) (v := ?_) rfl (by kernel_rfl) (fun _ _ _ h => h) hHeld (Or.inl ⟨by rfl, ?_⟩) ?_
        rotate_left
        · (intro w hSw; obtain ⟨y0, y1, y2⟩ := hSw; go_simp; try with_reducible rfl)
        try simp only [Act.put, List.getElem_toArray, List.getElem_cons_succ, List.getElem_cons_zero, List.setIfInBounds_toArray, List.set_cons_zero, List.set_cons_succ]
        refine wpHL_take (i := 14) (v := undef) rfl (by kernel_rfl) (fun _ _ _ h => h) hHeld (Or.inr ⟨by rfl, rfl⟩) ?_
        try simp only [Act.put, List.getElem_toArray, List.getElem_cons_succ, List.getElem_cons_zero, List.setIfInBounds_toArray, List.set_cons_zero, List.set_cons_succ]
        refine wpHL_take (i := 15) (v := undef) rfl (by kernel_rfl) (fun _ _ _ h => h) hHeld (Or.inr ⟨by rfl, rfl⟩) ?_
        try simp only [Act.put, List.getElem_toArray, List.getElem_cons_succ, List.getElem_cons_zero, List.setIfInBounds_toArray, List.set_cons_zero, List.set_cons_succ]
        refine wpHL_take (i := 16) (v := undef) rfl (by kernel_rfl) (fun _ _ _ h => h) hHeld (Or.inr ⟨by rfl, rfl⟩) ?_
        try simp only [Act.put, List.getElem_toArray, List.getElem_cons_succ, List.getElem_cons_zero, List.setIfInBounds_toArray, List.set_cons_zero, List.set_cons_succ]
        refine wpHL_take (i := 17) (v := undef) rfl (by kernel_rfl) (fun _ _ _ h => h) hHeld (Or.inr ⟨by rfl, rfl⟩) ?_
        try simp only [Act.put, List.getElem_toArray, List.getElem_cons_succ, List.getElem_cons_zero, List.setIfInBounds_toArray, List.set_cons_zero, List.set_cons_succ]
        refine wpHL_take (i := 18) (v := ?_) rfl (by kernel_rfl) (fun _ _ _ h => h) hHeld (Or.inl ⟨by rfl, ?_⟩) ?_
        rotate_left
        · (intro w hSw; obtain ⟨y0, y1, y2⟩ := hSw; go_simp; try with_reducible rfl)
        try simp only [Act.put, List.getElem_toArray, List.getElem_cons_succ, List.getElem_cons_zero, List.setIfInBounds_toArray, List.set_cons_zero, List.set_cons_succ]
        refine wpHL_last (by kernel_rfl) ?_
        go_wp2_with fail
        go_ret
        exact ⟨by rw [HSV.out, hq, HLK.out]; rfl, HUE.out⟩
      · skip
        refine wpHL_take (i := 12) (v := ?_) rfl (by kernel_rfl) (fun _ _ _ h => h) hHeld (Or.inl ⟨by rfl, ?_⟩) ?_
        rotate_left
        · (intro w hSw; obtain ⟨y0, y1, y2⟩ := hSw; go_simp; try with_reducible rfl)
        try simp only [Act.put, List.getElem_toArray, List.getElem_cons_succ, List.getElem_cons_zero, List.setIfInBounds_toArray, List.set_cons_zero, List.set_cons_succ]
        refine wpHL_take (i := 13) (v := ?_) rfl (by kernel_rfl) (fun _ _ _ h => h) hHeld (Or.inl ⟨by rfl, ?_⟩) ?_
        rotate_left
        · (intro w hSw; obtain ⟨y0, y1, y2⟩ := hSw; go_simp; try with_reducible rfl)
        try simp only [Act.put, List.getElem_toArray, List.getElem_cons_succ, List.getElem_cons_zero, List.setIfInBounds_toArray, List.set_cons_zero, List.set_cons_succ]
        refine wpHL_take (i := 14) (v := ?_) rfl (by kernel_rfl) (fun _ _ _ h => h) hHeld (Or.inl ⟨by rfl, ?_⟩) ?_
        rotate_left
        · (intro w hSw; obtain ⟨y0, y1, y2⟩ := hSw; go_simp; try with_reducible rfl)
        try simp only [Act.put, List.getElem_toArray, List.getElem_cons_succ, List.getElem_cons_zero, List.setIfInBounds_toArray, List.set_cons_zero, List.set_cons_succ]
        refine wpHL_take (i := 15) (v := ?_) rfl (by kernel_rfl) (fun _ _ _ h => h) hHeld (Or.inl ⟨by rfl, ?_⟩) ?_
        rotate_left
        · (intro w hSw; obtain ⟨y0, y1, y2⟩ := hSw; go_simp; try with_reducible rfl)
        try simp only [Act.put, List.getElem_toArray, List.getElem_cons_succ, List.getElem_cons_zero, List.setIfInBounds_toArray, List.set_cons_zero, List.set_cons_succ]
        refine wpHL_take (i := 16) (v := ?_) rfl (by kernel_rfl) (fun _ _ _ h => h) hHeld (Or.inl ⟨by rfl, ?_⟩) ?_
        rotate_left
        · (intro w hSw; obtain ⟨y0, y1, y2⟩ := hSw; go_simp; try with_reducible rfl)
        try simp only [Act.put, List.getElem_toArray, List.getElem_cons_succ, List.getElem_cons_zero, List.setIfInBounds_toArray, List.set_cons_zero, List.set_cons_succ]
        refine wpHL_step (i := 17) rfl (by kernel_rfl) (by decide) (fun K hK => ?_)
        have HKK := Lib.hid hK
        clear hK
        go_simp
        refine (irBelow _ e _ l HLE.out).mono ?_
        rintro e_ w4 ⟨rfl, rfl⟩
        go_simp
        refine HKK.out _ _ hHeld ?_
        clear HKK
        try simp only [Act.put, List.getElem_toArray, List.getElem_cons_succ, List.getElem_cons_zero, List.setIfInBounds_toArray, List.set_cons_zero, List.set_cons_succ]
        refine wpHL_take (i := 18) (v := ?_) rfl (by kernel_rfl) (fun _ _ _ h => h) hHeld (Or.inl ⟨by rfl, ?_⟩) ?_
        rotate_left
        · (intro w hSw; obtain ⟨y0, y1, y2⟩ := hSw; go_simp; try with_reducible rfl)
        try simp only [Act.put, List.getElem_toArray, List.getElem_cons_succ, List.getElem_cons_zero, List.setIfInBounds_toArray, List.set_cons_zero, List.set_cons_succ]
        refine wpHL_last (by kernel_rfl) ?_
        go_wp2_with fail
        go_ret
        exact ⟨by rw [HSV.out, hq, HLK.out]; rfl, HUE.out⟩
  | call m d l =>
    obtain ⟨s_, rfl, HL0, b0, b1⟩ := h
    have HL := Lib.hid HL0
    obtain ⟨sa, sc, rfl, hsn, hsm⟩ := HL0.1.slice
    clear HL0
    obtain ⟨t0, t1, t2, t3, t4, t5, t6, t7, t8, t9, t10, t11, t12, t13⟩ := as_call (.agg #[.int .i64 m, .int .i64 d, (.slice sa l.length sc)])
    dsimp only
    go_enter Try.func26, Try.ntmps26
    go_wp2_with fail
    refine (irBelow _ 8 _ [m] (ints_lit _ _ [m] _ _ _ rfl (by simp) rfl (by intro x hx; simp at hx; subst hx; assumption) (by simp))).mono ?_
    rintro e_ w1 ⟨rfl, rfl⟩
    cases hq : belowP 8 [m]
    · go_wp2_with fail
      go_ret
      exact ⟨by rw [hq]; rfl, ((Upd.alloc (fun _ => False) w _).two (Upd.alloc _ _ _))⟩
    · go_wp2_with fail
      refine (irIsCall _ e d (by assumption) _ l (HL.out.stay ((Upd.alloc (fun _ => False) w _).two (Upd.alloc _ _ _)))).mono ?_
      rintro e_ w2 ⟨rfl, hu⟩
      have HU := Lib.hid (((Upd.alloc (fun _ => False) w _).two (Upd.alloc _ _ _)).two hu)
      clear hu
      go_wp2_with fail
      go_ret
      exact ⟨by rw [hq]; rfl, HU.out⟩
  | callx i d l =>
    obtain ⟨s_, rfl, HL0, b0, b1⟩ := h
    have HL := Lib.hid HL0
    obtain ⟨sa, sc, rfl, hsn, hsm⟩ := HL0.1.slice
    clear HL0
    obtain ⟨t0, t1, t2, t3, t4, t5, t6, t7, t8, t9, t10, t11, t12, t13⟩ := as_callx (.agg #[.int .i64 i, .int .i64 d, (.slice sa l.length sc)])
    dsimp only
    go_enter Try.func26, Try.ntmps26
    go_wp2_with fail
    refine (irBelow _ 4 _ [i] (ints_lit _ _ [i] _ _ _ rfl (by simp) rfl (by intro x hx; simp at hx; subst hx; assumption) (by simp))).mono ?_
    rintro e_ w1 ⟨rfl, rfl⟩
    cases hq : belowP 4 [i]
    · go_wp2_with fail
      go_ret
      exact ⟨by rw [hq]; rfl, ((Upd.alloc (fun _ => False) w _).two (Upd.alloc _ _ _))⟩
    · go_wp2_with fail
      refine (irIsCall _ e d (by assumption) _ l (HL.out.stay ((Upd.alloc (fun _ => False) w _).two (Upd.alloc _ _ _)))).mono ?_
      rintro e_ w2 ⟨rfl, hu⟩
      have HU := Lib.hid (((Upd.alloc (fun _ => False) w _).two (Upd.alloc _ _ _)).two hu)
      clear hu
      go_wp2_with fail
      go_ret
      exact ⟨by rw [hq]; rfl, HU.out⟩
  | ret s =>
    obtain ⟨rfl, b0⟩ := h
    obtain ⟨t0, t1, t2, t3, t4, t5, t6, t7, t8, t9, t10, t11, t12, t13⟩ := as_ret (.agg #[.int .i64 s])
    dsimp only
    go_enter Try.func26, Try.ntmps26
    go_wp2_with fail
    refine (irMayLack _ e s (by assumption)).mono ?_
    rintro e_ w1 ⟨rfl, hu⟩
    have HU := Lib.hid ((Upd.alloc (fun _ => False) w _).two hu)
    clear hu
    go_wp2_with fail
    go_ret
    exact ⟨rfl, HU.out⟩
end
end Go.Proofs.Ytkleofpiikbpmaa

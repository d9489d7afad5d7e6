/- Package ir: a pure node is done. -/
import Derived.Test.YtkleofpiikbpmaaDg
namespace Go.Proofs.Ytkleofpiikbpmaa
open Go.RowKit Go.ChangeShapes Go.WideShapes Go.Deep
set_option linter.unusedVariables false
set_option linter.unusedSimpArgs false
/-- registers in a row of their own -/
def Rgs (w : World) (g c : Nat) (rs : List (BitVec 32)) : Prop :=
  (∃ cur, w.heap[g]? = some (.cells cur 21 (0, 0)) ∧ ∀ j, j < rs.length → cur[j]? = some (.int .i32 (si (rs.getD j 0)))) ∧ rs.length ≤ c ∧ c ≤ maxLen
def RgV (w : World) (v : Value) (rs : List (BitVec 32)) : Prop :=
  (rs = [] ∧ ∃ a c, v = .slice a 0 c ∧ c ≤ maxLen) ∨ ∃ g c, v = .slice (some ⟨g, 0, none⟩) rs.length c ∧ Rgs w g c rs
section
variable {w w' : World} {g c : Nat} {rs : List (BitVec 32)}
theorem Rgs.cell (h : Rgs w g c rs) {k : Nat} (hk : k < rs.length) : w.cell? ⟨g, k, none⟩ = some (.int .i32 (si (rs.getD k 0))) := by
  obtain ⟨⟨cur, h1, h2⟩, -, -⟩ := h
  simp [World.cell?, h1, h2 k hk]
theorem Rgs.fz (h : Rgs w g c rs) (k : Nat) : w.frozen? ⟨g, k, none⟩ = false := by
  obtain ⟨⟨cur, h1, h2⟩, -, -⟩ := h
  simp [World.frozen?, h1]
theorem Rgs.lt (h : Rgs w g c rs) : g < w.heap.size := by
  obtain ⟨⟨cur, h1, h2⟩, -, -⟩ := h
  exact (Array.getElem?_eq_some_iff.1 h1).1
theorem Rgs.upd {S : Nat → Prop} (h : Rgs w g c rs) (hu : Upd S w w') (hS : ¬ S g) : Rgs w' g c rs := by
  obtain ⟨⟨cur, h1, h2⟩, h3⟩ := h
  exact ⟨⟨cur, (hu.block g (Array.getElem?_eq_some_iff.1 h1).1 hS).trans h1, h2⟩, h3⟩
theorem Rgs.set (h : Rgs w g c rs) {k : Nat} (hk : k < rs.length) (x : BitVec 32) : Rgs (w.setCell ⟨g, k, none⟩ (.int .i32 (si x))) g c (rs.set k x) := by
  obtain ⟨⟨cur, h1, h2⟩, h3, h4⟩ := h
  have hks : k < cur.size := (Array.getElem?_eq_some_iff.1 (h2 k hk)).1
  refine ⟨⟨cur.setIfInBounds k (.int .i32 (si x)), by simp [World.setCell, Array.getElem?_modify, h1], fun j hj => ?_⟩, by simpa using h3, h4⟩
  rw [List.length_set] at hj
  by_cases hjk : k = j
  · subst hjk
    rw [Array.getElem?_setIfInBounds_self_of_lt hks]
    simp [hj]
  · rw [Array.getElem?_setIfInBounds_ne hjk, h2 j hj]
    simp [List.getD, List.getElem?_set_ne hjk]
theorem RgV.upd {S : Nat → Prop} {v : Value} (h : RgV w v rs) (hu : Upd S w w') (hS : ∀ k, v.ownBlock = some k → ¬ S k) : RgV w' v rs := by
  rcases h with h | ⟨g, c, rfl, h⟩
  · exact .inl h
  · exact .inr ⟨g, c, rfl, h.upd hu (hS g rfl)⟩
end
def doN (at_ : Int) (rs : List (BitVec 32)) : Nd → Int
  | .goto t => t
  | .branch c t => bif rs.getD c.toNat 0 != 0 then t else at_ + 1
  | _ => at_ + 1
def doR (rs : List (BitVec 32)) : Nd → List (BitVec 32)
  | .const d x => rs.set d.toNat x
  | .move d s => rs.set d.toNat (rs.getD s.toNat 0)
  | .bin op d a b => rs.set d.toNat (twoB op (rs.getD a.toNat 0) (rs.getD b.toNat 0))
  | .un op d a => rs.set d.toNat (oneB op (rs.getD a.toNat 0))
  | .choose d c a b => rs.set d.toNat (bPick (rs.getD c.toNat 0) (rs.getD a.toNat 0) (rs.getD b.toNat 0))
  | _ => rs
theorem doR_len (rs : List (BitVec 32)) (n : Nd) : (doR rs n).length = rs.length := by cases n <;> simp [doR]
theorem inD_nat {len : Nat} {d : Int} (h : inD (len : Int) d = true) : ∃ k : Nat, d = (k : Int) ∧ k < len := by
  unfold inD at h
  simp only [Bool.and_eq_true, decide_eq_true_eq] at h
  exact ⟨d.toNat, by omega, by omega⟩
theorem si_neq0 (x : BitVec 32) : (si x != 0) = (x != 0) := by
  have h0 : si 0 = 0 := by decide
  rw [← h0]
  have : (si x == si 0) = (x == 0) := by
    rw [Bool.eq_iff_iff]
    simp only [beq_iff_eq]
    exact ⟨fun h => BitVec.eq_of_toInt_eq h, fun h => by rw [h]⟩
  unfold bne; rw [this]
set_option maxRecDepth 20000 in
set_option maxHeartbeats 4000000 in
theorem irDo {w : World} {v rv : Value} {n : Nd} {rs : List (BitVec 32)} (h : NdV w v n) (hr : RgV w rv rs) (hp : pureP n = true) (hok : isNodeP (rs.length : Int) n = true) (at_ : Int) (h0 : 0 ≤ at_) (h1 : at_ ≤ 1000000000) :
    Calls Try.prog 21 #[v, rv, .int .i64 at_] w fun e w' => e = .returned (.int .i64 (doN at_ rs n)) ∧ RgV w' rv (doR rs n) ∧ Upd (fun k => rv.ownBlock = some k) w w' := by
  obtain ⟨nx, hnx⟩ : ∃ nx, at_ + 1 = nx := ⟨_, rfl⟩
  have ha : IntKind.i64.wrap (at_ + 1) = nx := by rw [hnx]; exact i64_inD _ (by omega)
  unfold doN
  rw [hnx]
  unfold isNodeP at hok
  clear hnx h0 h1
  cases n with
  | nil =>
    obtain rfl := h
    obtain ⟨t0, t1, t2, t3, t4, t5, t6, t7, t8, t9, t10, t11, t12, t13⟩ := as_nil
    exact (Bool.false_ne_true hp).elim
  | const d n =>
    obtain ⟨rfl, b0⟩ := h
    obtain ⟨t0, t1, t2, t3, t4, t5, t6, t7, t8, t9, t10, t11, t12, t13⟩ := as_const (.agg #[.int .i64 d, .int .i32 (si n)])
    dsimp only at hok hp ⊢
    simp only [belowP, List.all_cons, List.all_nil, Bool.and_true, Bool.and_eq_true] at hok
    have k0 := hok
    clear hok
    obtain ⟨dn, rfl, l0⟩ := inD_nat k0
    clear k0
    rcases hr with ⟨rfl, -⟩ | ⟨g, rc, rfl, hr⟩
    · simp at l0
    have HR := Lib.hid hr
    have hgl := hr.lt
    have hm := hr.2
    unfold maxLen at hm
    obtain ⟨hm1, hm2⟩ := hm
    have zd : (dn : Int) < (rs.length : Int) := by omega
    have fz := fun q => hr.fz q
    have ew := hr.cell l0
    clear hr hp
    go_enter Try.func21, Try.ntmps21
    go_wp2_with fail
    go_ret
    refine ⟨rfl, .inr ⟨g, rc, by rw [doR_len], ?_⟩, ?_⟩
    · have := (HR.out.set l0 n).upd (Upd.alloc (fun _ => False) _ (.cells #[.int .i64 (dn : Int), .int .i32 (si n)] 23)) (fun h => h)
      simpa [doR] using this
    · exact (Upd.setCell (S := fun k => (Value.slice (some ⟨g, 0, none⟩) rs.length rc).ownBlock = some k) w (p := ⟨g, dn, none⟩) (.inl rfl) _).trans (Upd.alloc _ _ _) (fun _ h _ => h)
  | move d s =>
    obtain ⟨rfl, b0, b1⟩ := h
    obtain ⟨t0, t1, t2, t3, t4, t5, t6, t7, t8, t9, t10, t11, t12, t13⟩ := as_move (.agg #[.int .i64 d, .int .i64 s])
    dsimp only at hok hp ⊢
    simp only [belowP, List.all_cons, List.all_nil, Bool.and_true, Bool.and_eq_true] at hok
    obtain ⟨k0, k1⟩ := hok
    obtain ⟨dn, rfl, l0⟩ := inD_nat k0
    obtain ⟨sn, rfl, l1⟩ := inD_nat k1
    clear k0 k1
    rcases hr with ⟨rfl, -⟩ | ⟨g, rc, rfl, hr⟩
    · simp at l0
    have HR := Lib.hid hr
    have hgl := hr.lt
    have hm := hr.2
    unfold maxLen at hm
    obtain ⟨hm1, hm2⟩ := hm
    have zd : (dn : Int) < (rs.length : Int) := by omega
    have zs : (sn : Int) < (rs.length : Int) := by omega
    have es := hr.cell l1
    obtain ⟨xs, hxs⟩ : ∃ x, rs.getD sn 0 = x := ⟨_, rfl⟩
    rw [hxs] at es
    have HS := Lib.hid hxs
    clear hxs
    have fz := fun q => hr.fz q
    have ew := hr.cell l0
    clear hr hp
    go_enter Try.func21, Try.ntmps21
    go_upto_region 7 with fail
    obtain ⟨W1, hW1⟩ : ∃ W1, w.alloc (.cells #[.int .i64 (dn : Int), .int .i64 (sn : Int)] 25) = W1 := ⟨_, rfl⟩
    have HU1 : Hid (Upd (fun _ => False) w W1) := Lib.hid (by rw [← hW1]; exact Upd.alloc _ _ _)
    have hx : W1.heap[w.heap.size]? = some (.cells #[.int .i64 (dn : Int), .int .i64 (sn : Int)] 25) := by rw [← hW1]; exact heap_topD w _
    rw [hW1]
    generalize w.heap.size = B at *
    have b0_ : W1.drew.cell? ⟨B, 0, none⟩ = some (.int .i64 (dn : Int)) := by
      have : W1.cell? ⟨B, 0, none⟩ = some (.int .i64 (dn : Int)) := by simp [World.cell?, hx]
      simpa using this
    have b1_ : W1.drew.cell? ⟨B, 1, none⟩ = some (.int .i64 (sn : Int)) := by
      have : W1.cell? ⟨B, 1, none⟩ = some (.int .i64 (sn : Int)) := by simp [World.cell?, hx]
      simpa using this
    have HRD := Lib.hid (HR.out.upd (HU1.out.two (Upd.drew _ W1)) (fun h => h))
    have rs_ : W1.drew.cell? ⟨g, sn, none⟩ = some (.int .i32 (si xs)) := by have := HRD.out.cell l1; rwa [HS.out] at this
    have hHeld : (fun w' : World => w'.cell? ⟨B, 0, none⟩ = some (.int .i64 (dn : Int)) ∧ w'.cell? ⟨B, 1, none⟩ = some (.int .i64 (sn : Int)) ∧ w'.cell? ⟨g, sn, none⟩ = some (.int .i32 (si xs))) W1.drew := ⟨b0_, b1_, rs_⟩
    have HUD := Lib.hid (HU1.out.two (Upd.drew (fun _ => False) W1))
    clear hx hW1 HR HU1 b0_ b1_ rs_ es fz hgl ew
    refine wp_region_last (S := (fun w' : World => w'.cell? ⟨B, 0, none⟩ = some (.int .i64 (dn : Int)) ∧ w'.cell? ⟨B, 1, none⟩ = some (.int .i64 (sn : Int)) ∧ w'.cell? ⟨g, sn, none⟩ = some (.int .i32 (si xs)))) 9 _ (by kernel_rfl) (by kernel_rfl) rfl ?_
    change wpHL _ _ _ _ _ _ _ _ _ _ W1.drew
    generalize W1.drew = W2 at *
    refine wpHL_take (i := 0) (v := ?_) rfl (by kernel_rfl) (fun _ _ _ h => h) hHeld (Or.inl ⟨by rfl, ?_⟩) ?_
    rotate_left
    · (intro w hSw; obtain ⟨y0, y1, y2⟩ := hSw; go_simp; try with_reducible rfl)
    try simp only [Act.put, List.getElem_toArray, List.getElem_cons_succ, List.getElem_cons_zero, List.setIfInBounds_toArray, List.set_cons_zero, List.set_cons_succ]
    refine wpHL_take (i := 1) (v := ?_) rfl (by kernel_rfl) (fun _ _ _ h => h) hHeld (Or.inl ⟨by rfl, ?_⟩) ?_
    rotate_left
    · (intro w hSw; obtain ⟨y0, y1, y2⟩ := hSw; go_simp; try with_reducible rfl)
    try simp only [Act.put, List.getElem_toArray, List.getElem_cons_succ, List.getElem_cons_zero, List.setIfInBounds_toArray, List.set_cons_zero, List.set_cons_succ]
    refine wpHL_take (i := 2) (v := ?_) rfl (by kernel_rfl) (fun _ _ _ h => h) hHeld (Or.inl ⟨by rfl, ?_⟩) ?_
    rotate_left
    · (intro w hSw; obtain ⟨y0, y1, y2⟩ := hSw; go_simp; try with_reducible rfl)
    try simp only [Act.put, List.getElem_toArray, List.getElem_cons_succ, List.getElem_cons_zero, List.setIfInBounds_toArray, List.set_cons_zero, List.set_cons_succ]
    refine wpHL_take (i := 3) (v := ?_) rfl (by kernel_rfl) (fun _ _ _ h => h) hHeld (Or.inl ⟨by rfl, ?_⟩) ?_
    rotate_left
    · (intro w hSw; obtain ⟨y0, y1, y2⟩ := hSw; go_simp; try with_reducible rfl)
    try simp only [Act.put, List.getElem_toArray, List.getElem_cons_succ, List.getElem_cons_zero, List.setIfInBounds_toArray, List.set_cons_zero, List.set_cons_succ]
    refine wpHL_take (i := 4) (v := ?_) rfl (by kernel_rfl) (fun _ _ _ h => h) hHeld (Or.inl ⟨by rfl, ?_⟩) ?_
    rotate_left
    · (intro w hSw; obtain ⟨y0, y1, y2⟩ := hSw; go_simp; try with_reducible rfl)
    try simp only [Act.put, List.getElem_toArray, List.getElem_cons_succ, List.getElem_cons_zero, List.setIfInBounds_toArray, List.set_cons_zero, List.set_cons_succ]
    refine wpHL_take (i := 5) (v := ?_) rfl (by kernel_rfl) (fun _ _ _ h => h) hHeld (Or.inl ⟨by rfl, ?_⟩) ?_
    rotate_left
    · (intro w hSw; obtain ⟨y0, y1, y2⟩ := hSw; go_simp; try with_reducible rfl)
    try simp only [Act.put, List.getElem_toArray, List.getElem_cons_succ, List.getElem_cons_zero, List.setIfInBounds_toArray, List.set_cons_zero, List.set_cons_succ]
    refine wpHL_take (i := 6) (v := ?_) rfl (by kernel_rfl) (fun _ _ _ h => h) hHeld (Or.inl ⟨by rfl, ?_⟩) ?_
    rotate_left
    · (intro w hSw; obtain ⟨y0, y1, y2⟩ := hSw; go_simp; try with_reducible rfl)
    try simp only [Act.put, List.getElem_toArray, List.getElem_cons_succ, List.getElem_cons_zero, List.setIfInBounds_toArray, List.set_cons_zero, List.set_cons_succ]
    refine wpHL_take (i := 7) (v := ?_) rfl (by kernel_rfl) (fun _ _ _ h => h) hHeld (Or.inl ⟨by rfl, ?_⟩) ?_
    rotate_left
    · (intro w hSw; obtain ⟨y0, y1, y2⟩ := hSw; go_simp; try with_reducible rfl)
    try simp only [Act.put, List.getElem_toArray, List.getElem_cons_succ, List.getElem_cons_zero, List.setIfInBounds_toArray, List.set_cons_zero, List.set_cons_succ]
    refine wpHL_take (i := 8) (v := ?_) rfl (by kernel_rfl) (fun _ _ _ h => h) hHeld (Or.inl ⟨by rfl, ?_⟩) ?_
    rotate_left
    · (intro w hSw; obtain ⟨y0, y1, y2⟩ := hSw; go_simp; try with_reducible rfl)
    try simp only [Act.put, List.getElem_toArray, List.getElem_cons_succ, List.getElem_cons_zero, List.setIfInBounds_toArray, List.set_cons_zero, List.set_cons_succ]
    have fz2 := HRD.out.fz dn
    have rd2 := HRD.out.cell l0
    refine wpHL_last (by kernel_rfl) ?_
    go_wp2_with fail
    go_ret
    refine ⟨rfl, .inr ⟨g, rc, by rw [doR_len], ?_⟩, ?_⟩
    · have := HRD.out.set l0 xs
      simp only [doR, Int.toNat_natCast, HS.out]
      exact this
    · exact (HUD.out.mono (fun _ h _ => h.elim)).trans (Upd.setCell (S := fun k => (Value.slice (some ⟨g, 0, none⟩) rs.length rc).ownBlock = some k) _ (p := ⟨g, dn, none⟩) (.inl rfl) _) (fun _ h _ => h)
  | bin op d a b =>
    obtain ⟨rfl, b0, b1, b2, b3⟩ := h
    obtain ⟨t0, t1, t2, t3, t4, t5, t6, t7, t8, t9, t10, t11, t12, t13⟩ := as_bin (.agg #[.int .i64 op, .int .i64 d, .int .i64 a, .int .i64 b])
    dsimp only at hok hp ⊢
    rw [Bool.and_eq_true] at hok
    replace hok := hok.2
    simp only [belowP, List.all_cons, List.all_nil, Bool.and_true, Bool.and_eq_true] at hok
    obtain ⟨k0, k1, k2⟩ := hok
    obtain ⟨dn, rfl, l0⟩ := inD_nat k0
    obtain ⟨an, rfl, l1⟩ := inD_nat k1
    obtain ⟨bn, rfl, l2⟩ := inD_nat k2
    clear k0 k1 k2
    rcases hr with ⟨rfl, -⟩ | ⟨g, rc, rfl, hr⟩
    · simp at l0
    have HR := Lib.hid hr
    have hgl := hr.lt
    have hm := hr.2
    unfold maxLen at hm
    obtain ⟨hm1, hm2⟩ := hm
    have zd : (dn : Int) < (rs.length : Int) := by omega
    have za : (an : Int) < (rs.length : Int) := by omega
    have zb : (bn : Int) < (rs.length : Int) := by omega
    have ea := hr.cell l1
    obtain ⟨xa, hxa⟩ : ∃ x, rs.getD an 0 = x := ⟨_, rfl⟩
    rw [hxa] at ea
    have HA := Lib.hid hxa
    clear hxa
    have eb := hr.cell l2
    obtain ⟨xb, hxb⟩ : ∃ x, rs.getD bn 0 = x := ⟨_, rfl⟩
    rw [hxb] at eb
    have HB := Lib.hid hxb
    clear hxb
    have fz := fun q => hr.fz q
    have ew := hr.cell l0
    clear hr hp
    go_enter Try.func21, Try.ntmps21
    go_upto_region 10 with fail
    obtain ⟨W1, hW1⟩ : ∃ W1, w.alloc (.cells #[.int .i64 op, .int .i64 (dn : Int), .int .i64 (an : Int), .int .i64 (bn : Int)] 27) = W1 := ⟨_, rfl⟩
    have HU1 : Hid (Upd (fun _ => False) w W1) := Lib.hid (by rw [← hW1]; exact Upd.alloc _ _ _)
    have hx : W1.heap[w.heap.size]? = some (.cells #[.int .i64 op, .int .i64 (dn : Int), .int .i64 (an : Int), .int .i64 (bn : Int)] 27) := by rw [← hW1]; exact heap_topD w _
    rw [hW1]
    generalize w.heap.size = B at *
    have b0_ : W1.drew.cell? ⟨B, 0, none⟩ = some (.int .i64 op) := by
      have : W1.cell? ⟨B, 0, none⟩ = some (.int .i64 op) := by simp [World.cell?, hx]
      simpa using this
    have b1_ : W1.drew.cell? ⟨B, 1, none⟩ = some (.int .i64 (dn : Int)) := by
      have : W1.cell? ⟨B, 1, none⟩ = some (.int .i64 (dn : Int)) := by simp [World.cell?, hx]
      simpa using this
    have b2_ : W1.drew.cell? ⟨B, 2, none⟩ = some (.int .i64 (an : Int)) := by
      have : W1.cell? ⟨B, 2, none⟩ = some (.int .i64 (an : Int)) := by simp [World.cell?, hx]
      simpa using this
    have b3_ : W1.drew.cell? ⟨B, 3, none⟩ = some (.int .i64 (bn : Int)) := by
      have : W1.cell? ⟨B, 3, none⟩ = some (.int .i64 (bn : Int)) := by simp [World.cell?, hx]
      simpa using this
    have HRD := Lib.hid (HR.out.upd (HU1.out.two (Upd.drew _ W1)) (fun h => h))
    have ra_ : W1.drew.cell? ⟨g, an, none⟩ = some (.int .i32 (si xa)) := by have := HRD.out.cell l1; rwa [HA.out] at this
    have rb_ : W1.drew.cell? ⟨g, bn, none⟩ = some (.int .i32 (si xb)) := by have := HRD.out.cell l2; rwa [HB.out] at this
    have hHeld : (fun w' : World => w'.cell? ⟨B, 0, none⟩ = some (.int .i64 op) ∧ w'.cell? ⟨B, 1, none⟩ = some (.int .i64 (dn : Int)) ∧ w'.cell? ⟨B, 2, none⟩ = some (.int .i64 (an : Int)) ∧ w'.cell? ⟨B, 3, none⟩ = some (.int .i64 (bn : Int)) ∧ w'.cell? ⟨g, an, none⟩ = some (.int .i32 (si xa)) ∧ w'.cell? ⟨g, bn, none⟩ = some (.int .i32 (si xb))) W1.drew := ⟨b0_, b1_, b2_, b3_, ra_, rb_⟩
    have HUD := Lib.hid (HU1.out.two (Upd.drew (fun _ => False) W1))
    clear hx hW1 HR HU1 b0_ b1_ b2_ b3_ ra_ rb_ ea eb fz hgl ew
    refine wp_region_last (S := (fun w' : World => w'.cell? ⟨B, 0, none⟩ = some (.int .i64 op) ∧ w'.cell? ⟨B, 1, none⟩ = some (.int .i64 (dn : Int)) ∧ w'.cell? ⟨B, 2, none⟩ = some (.int .i64 (an : Int)) ∧ w'.cell? ⟨B, 3, none⟩ = some (.int .i64 (bn : Int)) ∧ w'.cell? ⟨g, an, none⟩ = some (.int .i32 (si xa)) ∧ w'.cell? ⟨g, bn, none⟩ = some (.int .i32 (si xb)))) 17 _ (by kernel_rfl) (by kernel_rfl) rfl ?_
    change wpHL _ _ _ _ _ _ _ _ _ _ W1.drew
    generalize W1.drew = W2 at *
    refine wpHL_take (i := 0) (v := ?_) rfl (by kernel_rfl) (fun _ _ _ h => h) hHeld (Or.inl ⟨by rfl, ?_⟩) ?_
    rotate_left
    · (intro w hSw; obtain ⟨y0, y1, y2, y3, y4, y5⟩ := hSw; go_simp; try with_reducible rfl)
    try simp only [Act.put, List.getElem_toArray, List.getElem_cons_succ, List.getElem_cons_zero, List.setIfInBounds_toArray, List.set_cons_zero, List.set_cons_succ]
    refine wpHL_take (i := 1) (v := ?_) rfl (by kernel_rfl) (fun _ _ _ h => h) hHeld (Or.inl ⟨by rfl, ?_⟩) ?_
    rotate_left
    · (intro w hSw; obtain ⟨y0, y1, y2, y3, y4, y5⟩ := hSw; go_simp; try with_reducible rfl)
    try simp only [Act.put, List.getElem_toArray, List.getElem_cons_succ, List.getElem_cons_zero, List.setIfInBounds_toArray, List.set_cons_zero, List.set_cons_succ]
    refine wpHL_take (i := 2) (v := ?_) rfl (by kernel_rfl) (fun _ _ _ h => h) hHeld (Or.inl ⟨by rfl, ?_⟩) ?_
    rotate_left
    · (intro w hSw; obtain ⟨y0, y1, y2, y3, y4, y5⟩ := hSw; go_simp; try with_reducible rfl)
    try simp only [Act.put, List.getElem_toArray, List.getElem_cons_succ, List.getElem_cons_zero, List.setIfInBounds_toArray, List.set_cons_zero, List.set_cons_succ]
    refine wpHL_take (i := 3) (v := ?_) rfl (by kernel_rfl) (fun _ _ _ h => h) hHeld (Or.inl ⟨by rfl, ?_⟩) ?_
    rotate_left
    · (intro w hSw; obtain ⟨y0, y1, y2, y3, y4, y5⟩ := hSw; go_simp; try with_reducible rfl)
    try simp only [Act.put, List.getElem_toArray, List.getElem_cons_succ, List.getElem_cons_zero, List.setIfInBounds_toArray, List.set_cons_zero, List.set_cons_succ]
    refine wpHL_take (i := 4) (v := ?_) rfl (by kernel_rfl) (fun _ _ _ h => h) hHeld (Or.inl ⟨by rfl, ?_⟩) ?_
    rotate_left
    · (intro w hSw; obtain ⟨y0, y1, y2, y3, y4, y5⟩ := hSw; go_simp; try with_reducible rfl)
    try simp only [Act.put, List.getElem_toArray, List.getElem_cons_succ, List.getElem_cons_zero, List.setIfInBounds_toArray, List.set_cons_zero, List.set_cons_succ]
    refine wpHL_take (i := 5) (v := ?_) rfl (by kernel_rfl) (fun _ _ _ h => h) hHeld (Or.inl ⟨by rfl, ?_⟩) ?_
    rotate_left
    · (intro w hSw; obtain ⟨y0, y1, y2, y3, y4, y5⟩ := hSw; go_simp; try with_reducible rfl)
    try simp only [Act.put, List.getElem_toArray, List.getElem_cons_succ, List.getElem_cons_zero, List.setIfInBounds_toArray, List.set_cons_zero, List.set_cons_succ]
    refine wpHL_take (i := 6) (v := ?_) rfl (by kernel_rfl) (fun _ _ _ h => h) hHeld (Or.inl ⟨by rfl, ?_⟩) ?_
    rotate_left
    · (intro w hSw; obtain ⟨y0, y1, y2, y3, y4, y5⟩ := hSw; go_simp; try with_reducible rfl)
    try simp only [Act.put, List.getElem_toArray, List.getElem_cons_succ, List.getElem_cons_zero, List.setIfInBounds_toArray, List.set_cons_zero, List.set_cons_succ]
    refine wpHL_take (i := 7) (v := ?_) rfl (by kernel_rfl) (fun _ _ _ h => h) hHeld (Or.inl ⟨by rfl, ?_⟩) ?_
    rotate_left
    · (intro w hSw; obtain ⟨y0, y1, y2, y3, y4, y5⟩ := hSw; go_simp; try with_reducible rfl)
    try simp only [Act.put, List.getElem_toArray, List.getElem_cons_succ, List.getElem_cons_zero, List.setIfInBounds_toArray, List.set_cons_zero, List.set_cons_succ]
    refine wpHL_take (i := 8) (v := ?_) rfl (by kernel_rfl) (fun _ _ _ h => h) hHeld (Or.inl ⟨by rfl, ?_⟩) ?_
    rotate_left
    · (intro w hSw; obtain ⟨y0, y1, y2, y3, y4, y5⟩ := hSw; go_simp; try with_reducible rfl)
    try simp only [Act.put, List.getElem_toArray, List.getElem_cons_succ, List.getElem_cons_zero, List.setIfInBounds_toArray, List.set_cons_zero, List.set_cons_succ]
    refine wpHL_take (i := 9) (v := ?_) rfl (by kernel_rfl) (fun _ _ _ h => h) hHeld (Or.inl ⟨by rfl, ?_⟩) ?_
    rotate_left
    · (intro w hSw; obtain ⟨y0, y1, y2, y3, y4, y5⟩ := hSw; go_simp; try with_reducible rfl)
    try simp only [Act.put, List.getElem_toArray, List.getElem_cons_succ, List.getElem_cons_zero, List.setIfInBounds_toArray, List.set_cons_zero, List.set_cons_succ]
    refine wpHL_take (i := 10) (v := ?_) rfl (by kernel_rfl) (fun _ _ _ h => h) hHeld (Or.inl ⟨by rfl, ?_⟩) ?_
    rotate_left
    · (intro w hSw; obtain ⟨y0, y1, y2, y3, y4, y5⟩ := hSw; go_simp; try with_reducible rfl)
    try simp only [Act.put, List.getElem_toArray, List.getElem_cons_succ, List.getElem_cons_zero, List.setIfInBounds_toArray, List.set_cons_zero, List.set_cons_succ]
    refine wpHL_take (i := 11) (v := ?_) rfl (by kernel_rfl) (fun _ _ _ h => h) hHeld (Or.inl ⟨by rfl, ?_⟩) ?_
    rotate_left
    · (intro w hSw; obtain ⟨y0, y1, y2, y3, y4, y5⟩ := hSw; go_simp; try with_reducible rfl)
    try simp only [Act.put, List.getElem_toArray, List.getElem_cons_succ, List.getElem_cons_zero, List.setIfInBounds_toArray, List.set_cons_zero, List.set_cons_succ]
    refine wpHL_take (i := 12) (v := ?_) rfl (by kernel_rfl) (fun _ _ _ h => h) hHeld (Or.inl ⟨by rfl, ?_⟩) ?_
    rotate_left
    · (intro w hSw; obtain ⟨y0, y1, y2, y3, y4, y5⟩ := hSw; go_simp; try with_reducible rfl)
    try simp only [Act.put, List.getElem_toArray, List.getElem_cons_succ, List.getElem_cons_zero, List.setIfInBounds_toArray, List.set_cons_zero, List.set_cons_succ]
    refine wpHL_take (i := 13) (v := ?_) rfl (by kernel_rfl) (fun _ _ _ h => h) hHeld (Or.inl ⟨by rfl, ?_⟩) ?_
    rotate_left
    · (intro w hSw; obtain ⟨y0, y1, y2, y3, y4, y5⟩ := hSw; go_simp; try with_reducible rfl)
    try simp only [Act.put, List.getElem_toArray, List.getElem_cons_succ, List.getElem_cons_zero, List.setIfInBounds_toArray, List.set_cons_zero, List.set_cons_succ]
    refine wpHL_take (i := 14) (v := ?_) rfl (by kernel_rfl) (fun _ _ _ h => h) hHeld (Or.inl ⟨by rfl, ?_⟩) ?_
    rotate_left
    · (intro w hSw; obtain ⟨y0, y1, y2, y3, y4, y5⟩ := hSw; go_simp; try with_reducible rfl)
    try simp only [Act.put, List.getElem_toArray, List.getElem_cons_succ, List.getElem_cons_zero, List.setIfInBounds_toArray, List.set_cons_zero, List.set_cons_succ]
    refine wpHL_step (i := 15) rfl (by kernel_rfl) (by decide) (fun K hK => ?_)
    have HKK := Lib.hid hK
    clear hK
    go_simp
    refine (irTwo _ op xa xb).mono ?_
    rintro e_ w3 ⟨rfl, rfl⟩
    go_simp
    refine HKK.out _ _ hHeld ?_
    clear HKK
    try simp only [Act.put, List.getElem_toArray, List.getElem_cons_succ, List.getElem_cons_zero, List.setIfInBounds_toArray, List.set_cons_zero, List.set_cons_succ]
    refine wpHL_take (i := 16) (v := ?_) rfl (by kernel_rfl) (fun _ _ _ h => h) hHeld (Or.inl ⟨by rfl, ?_⟩) ?_
    rotate_left
    · (intro w hSw; obtain ⟨y0, y1, y2, y3, y4, y5⟩ := hSw; go_simp; try with_reducible rfl)
    try simp only [Act.put, List.getElem_toArray, List.getElem_cons_succ, List.getElem_cons_zero, List.setIfInBounds_toArray, List.set_cons_zero, List.set_cons_succ]
    have fz2 := HRD.out.fz dn
    have rd2 := HRD.out.cell l0
    refine wpHL_last (by kernel_rfl) ?_
    go_wp2_with fail
    go_ret
    refine ⟨rfl, .inr ⟨g, rc, by rw [doR_len], ?_⟩, ?_⟩
    · have := HRD.out.set l0 (twoB op xa xb)
      simp only [doR, Int.toNat_natCast, HA.out, HB.out]
      exact this
    · exact (HUD.out.mono (fun _ h _ => h.elim)).trans (Upd.setCell (S := fun k => (Value.slice (some ⟨g, 0, none⟩) rs.length rc).ownBlock = some k) _ (p := ⟨g, dn, none⟩) (.inl rfl) _) (fun _ h _ => h)
  | un op d a =>
    obtain ⟨rfl, b0, b1, b2⟩ := h
    obtain ⟨t0, t1, t2, t3, t4, t5, t6, t7, t8, t9, t10, t11, t12, t13⟩ := as_un (.agg #[.int .i64 op, .int .i64 d, .int .i64 a])
    dsimp only at hok hp ⊢
    rw [Bool.and_eq_true] at hok
    replace hok := hok.2
    simp only [belowP, List.all_cons, List.all_nil, Bool.and_true, Bool.and_eq_true] at hok
    obtain ⟨k0, k1⟩ := hok
    obtain ⟨dn, rfl, l0⟩ := inD_nat k0
    obtain ⟨an, rfl, l1⟩ := inD_nat k1
    clear k0 k1
    rcases hr with ⟨rfl, -⟩ | ⟨g, rc, rfl, hr⟩
    · simp at l0
    have HR := Lib.hid hr
    have hgl := hr.lt
    have hm := hr.2
    unfold maxLen at hm
    obtain ⟨hm1, hm2⟩ := hm
    have zd : (dn : Int) < (rs.length : Int) := by omega
    have za : (an : Int) < (rs.length : Int) := by omega
    have ea := hr.cell l1
    obtain ⟨xa, hxa⟩ : ∃ x, rs.getD an 0 = x := ⟨_, rfl⟩
    rw [hxa] at ea
    have HA := Lib.hid hxa
    clear hxa
    have fz := fun q => hr.fz q
    have ew := hr.cell l0
    clear hr hp
    go_enter Try.func21, Try.ntmps21
    go_upto_region 13 with fail
    obtain ⟨W1, hW1⟩ : ∃ W1, w.alloc (.cells #[.int .i64 op, .int .i64 (dn : Int), .int .i64 (an : Int)] 29) = W1 := ⟨_, rfl⟩
    have HU1 : Hid (Upd (fun _ => False) w W1) := Lib.hid (by rw [← hW1]; exact Upd.alloc _ _ _)
    have hx : W1.heap[w.heap.size]? = some (.cells #[.int .i64 op, .int .i64 (dn : Int), .int .i64 (an : Int)] 29) := by rw [← hW1]; exact heap_topD w _
    rw [hW1]
    generalize w.heap.size = B at *
    have b0_ : W1.drew.cell? ⟨B, 0, none⟩ = some (.int .i64 op) := by
      have : W1.cell? ⟨B, 0, none⟩ = some (.int .i64 op) := by simp [World.cell?, hx]
      simpa using this
    have b1_ : W1.drew.cell? ⟨B, 1, none⟩ = some (.int .i64 (dn : Int)) := by
      have : W1.cell? ⟨B, 1, none⟩ = some (.int .i64 (dn : Int)) := by simp [World.cell?, hx]
      simpa using this
    have b2_ : W1.drew.cell? ⟨B, 2, none⟩ = some (.int .i64 (an : Int)) := by
      have : W1.cell? ⟨B, 2, none⟩ = some (.int .i64 (an : Int)) := by simp [World.cell?, hx]
      simpa using this
    have HRD := Lib.hid (HR.out.upd (HU1.out.two (Upd.drew _ W1)) (fun h => h))
    have ra_ : W1.drew.cell? ⟨g, an, none⟩ = some (.int .i32 (si xa)) := by have := HRD.out.cell l1; rwa [HA.out] at this
    have hHeld : (fun w' : World => w'.cell? ⟨B, 0, none⟩ = some (.int .i64 op) ∧ w'.cell? ⟨B, 1, none⟩ = some (.int .i64 (dn : Int)) ∧ w'.cell? ⟨B, 2, none⟩ = some (.int .i64 (an : Int)) ∧ w'.cell? ⟨g, an, none⟩ = some (.int .i32 (si xa))) W1.drew := ⟨b0_, b1_, b2_, ra_⟩
    have HUD := Lib.hid (HU1.out.two (Upd.drew (fun _ => False) W1))
    clear hx hW1 HR HU1 b0_ b1_ b2_ ra_ ea fz hgl ew
    refine wp_region_last (S := (fun w' : World => w'.cell? ⟨B, 0, none⟩ = some (.int .i64 op) ∧ w'.cell? ⟨B, 1, none⟩ = some (.int .i64 (dn : Int)) ∧ w'.cell? ⟨B, 2, none⟩ = some (.int .i64 (an : Int)) ∧ w'.cell? ⟨g, an, none⟩ = some (.int .i32 (si xa)))) 12 _ (by kernel_rfl) (by kernel_rfl) rfl ?_
    change wpHL _ _ _ _ _ _ _ _ _ _ W1.drew
    generalize W1.drew = W2 at *
    refine wpHL_take (i := 0) (v := ?_) rfl (by kernel_rfl) (fun _ _ _ h => h) hHeld (Or.inl ⟨by rfl, ?_⟩) ?_
    rotate_left
    · (intro w hSw; obtain ⟨y0, y1, y2, y3⟩ := hSw; go_simp; try with_reducible rfl)
    try simp only [Act.put, List.getElem_toArray, List.getElem_cons_succ, List.getElem_cons_zero, List.setIfInBounds_toArray, List.set_cons_zero, List.set_cons_succ]
    refine wpHL_take (i := 1) (v := ?_) rfl (by kernel_rfl) (fun _ _ _ h => h) hHeld (Or.inl ⟨by rfl, ?_⟩) ?_
    rotate_left
    · (intro w hSw; obtain ⟨y0, y1, y2, y3⟩ := hSw; go_simp; try with_reducible rfl)
    try simp only [Act.put, List.getElem_toArray, List.getElem_cons_succ, List.getElem_cons_zero, List.setIfInBounds_toArray, List.set_cons_zero, List.set_cons_succ]
    refine wpHL_take (i := 2) (v := ?_) rfl (by kernel_rfl) (fun _ _ _ h => h) hHeld (Or.inl ⟨by rfl, ?_⟩) ?_
    rotate_left
    · (intro w hSw; obtain ⟨y0, y1, y2, y3⟩ := hSw; go_simp; try with_reducible rfl)
    try simp only [Act.put, List.getElem_toArray, List.getElem_cons_succ, List.getElem_cons_zero, List.setIfInBounds_toArray, List.set_cons_zero, List.set_cons_succ]
    refine wpHL_take (i := 3) (v := ?_) rfl (by kernel_rfl) (fun _ _ _ h => h) hHeld (Or.inl ⟨by rfl, ?_⟩) ?_
    rotate_left
    · (intro w hSw; obtain ⟨y0, y1, y2, y3⟩ := hSw; go_simp; try with_reducible rfl)
    try simp only [Act.put, List.getElem_toArray, List.getElem_cons_succ, List.getElem_cons_zero, List.setIfInBounds_toArray, List.set_cons_zero, List.set_cons_succ]
    refine wpHL_take (i := 4) (v := ?_) rfl (by kernel_rfl) (fun _ _ _ h => h) hHeld (Or.inl ⟨by rfl, ?_⟩) ?_
    rotate_left
    · (intro w hSw; obtain ⟨y0, y1, y2, y3⟩ := hSw; go_simp; try with_reducible rfl)
    try simp only [Act.put, List.getElem_toArray, List.getElem_cons_succ, List.getElem_cons_zero, List.setIfInBounds_toArray, List.set_cons_zero, List.set_cons_succ]
    refine wpHL_take (i := 5) (v := ?_) rfl (by kernel_rfl) (fun _ _ _ h => h) hHeld (Or.inl ⟨by rfl, ?_⟩) ?_
    rotate_left
    · (intro w hSw; obtain ⟨y0, y1, y2, y3⟩ := hSw; go_simp; try with_reducible rfl)
    try simp only [Act.put, List.getElem_toArray, List.getElem_cons_succ, List.getElem_cons_zero, List.setIfInBounds_toArray, List.set_cons_zero, List.set_cons_succ]
    refine wpHL_take (i := 6) (v := ?_) rfl (by kernel_rfl) (fun _ _ _ h => h) hHeld (Or.inl ⟨by rfl, ?_⟩) ?_
    rotate_left
    · (intro w hSw; obtain ⟨y0, y1, y2, y3⟩ := hSw; go_simp; try with_reducible rfl)
    try simp only [Act.put, List.getElem_toArray, List.getElem_cons_succ, List.getElem_cons_zero, List.setIfInBounds_toArray, List.set_cons_zero, List.set_cons_succ]
    refine wpHL_take (i := 7) (v := ?_) rfl (by kernel_rfl) (fun _ _ _ h => h) hHeld (Or.inl ⟨by rfl, ?_⟩) ?_
    rotate_left
    · (intro w hSw; obtain ⟨y0, y1, y2, y3⟩ := hSw; go_simp; try with_reducible rfl)
    try simp only [Act.put, List.getElem_toArray, List.getElem_cons_succ, List.getElem_cons_zero, List.setIfInBounds_toArray, List.set_cons_zero, List.set_cons_succ]
    refine wpHL_take (i := 8) (v := ?_) rfl (by kernel_rfl) (fun _ _ _ h => h) hHeld (Or.inl ⟨by rfl, ?_⟩) ?_
    rotate_left
    · (intro w hSw; obtain ⟨y0, y1, y2, y3⟩ := hSw; go_simp; try with_reducible rfl)
    try simp only [Act.put, List.getElem_toArray, List.getElem_cons_succ, List.getElem_cons_zero, List.setIfInBounds_toArray, List.set_cons_zero, List.set_cons_succ]
    refine wpHL_take (i := 9) (v := ?_) rfl (by kernel_rfl) (fun _ _ _ h => h) hHeld (Or.inl ⟨by rfl, ?_⟩) ?_
    rotate_left
    · (intro w hSw; obtain ⟨y0, y1, y2, y3⟩ := hSw; go_simp; try with_reducible rfl)
    try simp only [Act.put, List.getElem_toArray, List.getElem_cons_succ, List.getElem_cons_zero, List.setIfInBounds_toArray, List.set_cons_zero, List.set_cons_succ]
    refine wpHL_step (i := 10) rfl (by kernel_rfl) (by decide) (fun K hK => ?_)
    have HKK := Lib.hid hK
    clear hK
    go_simp
    refine (irOne _ op xa).mono ?_
    rintro e_ w3 ⟨rfl, rfl⟩
    go_simp
    refine HKK.out _ _ hHeld ?_
    clear HKK
    try simp only [Act.put, List.getElem_toArray, List.getElem_cons_succ, List.getElem_cons_zero, List.setIfInBounds_toArray, List.set_cons_zero, List.set_cons_succ]
    refine wpHL_take (i := 11) (v := ?_) rfl (by kernel_rfl) (fun _ _ _ h => h) hHeld (Or.inl ⟨by rfl, ?_⟩) ?_
    rotate_left
    · (intro w hSw; obtain ⟨y0, y1, y2, y3⟩ := hSw; go_simp; try with_reducible rfl)
    try simp only [Act.put, List.getElem_toArray, List.getElem_cons_succ, List.getElem_cons_zero, List.setIfInBounds_toArray, List.set_cons_zero, List.set_cons_succ]
    have fz2 := HRD.out.fz dn
    have rd2 := HRD.out.cell l0
    refine wpHL_last (by kernel_rfl) ?_
    go_wp2_with fail
    go_ret
    refine ⟨rfl, .inr ⟨g, rc, by rw [doR_len], ?_⟩, ?_⟩
    · have := HRD.out.set l0 (oneB op xa)
      simp only [doR, Int.toNat_natCast, HA.out]
      exact this
    · exact (HUD.out.mono (fun _ h _ => h.elim)).trans (Upd.setCell (S := fun k => (Value.slice (some ⟨g, 0, none⟩) rs.length rc).ownBlock = some k) _ (p := ⟨g, dn, none⟩) (.inl rfl) _) (fun _ h _ => h)
  | choose d c a b =>
    obtain ⟨rfl, b0, b1, b2, b3⟩ := h
    obtain ⟨t0, t1, t2, t3, t4, t5, t6, t7, t8, t9, t10, t11, t12, t13⟩ := as_choose (.agg #[.int .i64 d, .int .i64 c, .int .i64 a, .int .i64 b])
    dsimp only at hok hp ⊢
    simp only [belowP, List.all_cons, List.all_nil, Bool.and_true, Bool.and_eq_true] at hok
    obtain ⟨k0, k1, k2, k3⟩ := hok
    obtain ⟨dn, rfl, l0⟩ := inD_nat k0
    obtain ⟨cn, rfl, l1⟩ := inD_nat k1
    obtain ⟨an, rfl, l2⟩ := inD_nat k2
    obtain ⟨bn, rfl, l3⟩ := inD_nat k3
    clear k0 k1 k2 k3
    rcases hr with ⟨rfl, -⟩ | ⟨g, rc, rfl, hr⟩
    · simp at l0
    have HR := Lib.hid hr
    have hgl := hr.lt
    have hm := hr.2
    unfold maxLen at hm
    obtain ⟨hm1, hm2⟩ := hm
    have zd : (dn : Int) < (rs.length : Int) := by omega
    have zc : (cn : Int) < (rs.length : Int) := by omega
    have za : (an : Int) < (rs.length : Int) := by omega
    have zb : (bn : Int) < (rs.length : Int) := by omega
    have ec := hr.cell l1
    obtain ⟨xc, hxc⟩ : ∃ x, rs.getD cn 0 = x := ⟨_, rfl⟩
    rw [hxc] at ec
    have HC := Lib.hid hxc
    clear hxc
    have ea := hr.cell l2
    obtain ⟨xa, hxa⟩ : ∃ x, rs.getD an 0 = x := ⟨_, rfl⟩
    rw [hxa] at ea
    have HA := Lib.hid hxa
    clear hxa
    have eb := hr.cell l3
    obtain ⟨xb, hxb⟩ : ∃ x, rs.getD bn 0 = x := ⟨_, rfl⟩
    rw [hxb] at eb
    have HB := Lib.hid hxb
    clear hxb
    have fz := fun q => hr.fz q
    have ew := hr.cell l0
    clear hr hp
    go_enter Try.func21, Try.ntmps21
    go_upto_region 16 with fail
    obtain ⟨W1, hW1⟩ : ∃ W1, w.alloc (.cells #[.int .i64 (dn : Int), .int .i64 (cn : Int), .int .i64 (an : Int), .int .i64 (bn : Int)] 31) = W1 := ⟨_, rfl⟩
    have HU1 : Hid (Upd (fun _ => False) w W1) := Lib.hid (by rw [← hW1]; exact Upd.alloc _ _ _)
    have hx : W1.heap[w.heap.size]? = some (.cells #[.int .i64 (dn : Int), .int .i64 (cn : Int), .int .i64 (an : Int), .int .i64 (bn : Int)] 31) := by rw [← hW1]; exact heap_topD w _
    rw [hW1]
    generalize w.heap.size = B at *
    have b0_ : W1.drew.cell? ⟨B, 0, none⟩ = some (.int .i64 (dn : Int)) := by
      have : W1.cell? ⟨B, 0, none⟩ = some (.int .i64 (dn : Int)) := by simp [World.cell?, hx]
      simpa using this
    have b1_ : W1.drew.cell? ⟨B, 1, none⟩ = some (.int .i64 (cn : Int)) := by
      have : W1.cell? ⟨B, 1, none⟩ = some (.int .i64 (cn : Int)) := by simp [World.cell?, hx]
      simpa using this
    have b2_ : W1.drew.cell? ⟨B, 2, none⟩ = some (.int .i64 (an : Int)) := by
      have : W1.cell? ⟨B, 2, none⟩ = some (.int .i64 (an : Int)) := by simp [World.cell?, hx]
      simpa using this
    have b3_ : W1.drew.cell? ⟨B, 3, none⟩ = some (.int .i64 (bn : Int)) := by
      have : W1.cell? ⟨B, 3, none⟩ = some (.int .i64 (bn : Int)) := by simp [World.cell?, hx]
      simpa using this
    have HRD := Lib.hid (HR.out.upd (HU1.out.two (Upd.drew _ W1)) (fun h => h))
    have rc_ : W1.drew.cell? ⟨g, cn, none⟩ = some (.int .i32 (si xc)) := by have := HRD.out.cell l1; rwa [HC.out] at this
    have ra_ : W1.drew.cell? ⟨g, an, none⟩ = some (.int .i32 (si xa)) := by have := HRD.out.cell l2; rwa [HA.out] at this
    have rb_ : W1.drew.cell? ⟨g, bn, none⟩ = some (.int .i32 (si xb)) := by have := HRD.out.cell l3; rwa [HB.out] at this
    have hHeld : (fun w' : World => w'.cell? ⟨B, 0, none⟩ = some (.int .i64 (dn : Int)) ∧ w'.cell? ⟨B, 1, none⟩ = some (.int .i64 (cn : Int)) ∧ w'.cell? ⟨B, 2, none⟩ = some (.int .i64 (an : Int)) ∧ w'.cell? ⟨B, 3, none⟩ = some (.int .i64 (bn : Int)) ∧ w'.cell? ⟨g, cn, none⟩ = some (.int .i32 (si xc)) ∧ w'.cell? ⟨g, an, none⟩ = some (.int .i32 (si xa)) ∧ w'.cell? ⟨g, bn, none⟩ = some (.int .i32 (si xb))) W1.drew := ⟨b0_, b1_, b2_, b3_, rc_, ra_, rb_⟩
    have HUD := Lib.hid (HU1.out.two (Upd.drew (fun _ => False) W1))
    clear hx hW1 HR HU1 b0_ b1_ b2_ b3_ rc_ ra_ rb_ ec ea eb fz hgl ew
    refine wp_region_last (S := (fun w' : World => w'.cell? ⟨B, 0, none⟩ = some (.int .i64 (dn : Int)) ∧ w'.cell? ⟨B, 1, none⟩ = some (.int .i64 (cn : Int)) ∧ w'.cell? ⟨B, 2, none⟩ = some (.int .i64 (an : Int)) ∧ w'.cell? ⟨B, 3, none⟩ = some (.int .i64 (bn : Int)) ∧ w'.cell? ⟨g, cn, none⟩ = some (.int .i32 (si xc)) ∧ w'.cell? ⟨g, an, none⟩ = some (.int .i32 (si xa)) ∧ w'.cell? ⟨g, bn, none⟩ = some (.int .i32 (si xb)))) 20 _ (by kernel_rfl) (by kernel_rfl) rfl ?_
    change wpHL _ _ _ _ _ _ _ _ _ _ W1.drew
    generalize W1.drew = W2 at *
    refine wpHL_take (i := 0) (v := ?_) rfl (by kernel_rfl) (fun _ _ _ h => h) hHeld (Or.inl ⟨by rfl, ?_⟩) ?_
    rotate_left
    · (intro w hSw; obtain ⟨y0, y1, y2, y3, y4, y5, y6⟩ := hSw; go_simp; try with_reducible rfl)
    try simp only [Act.put, List.getElem_toArray, List.getElem_cons_succ, List.getElem_cons_zero, List.setIfInBounds_toArray, List.set_cons_zero, List.set_cons_succ]
    refine wpHL_take (i := 1) (v := ?_) rfl (by kernel_rfl) (fun _ _ _ h => h) hHeld (Or.inl ⟨by rfl, ?_⟩) ?_
    rotate_left
    · (intro w hSw; obtain ⟨y0, y1, y2, y3, y4, y5, y6⟩ := hSw; go_simp; try with_reducible rfl)
    try simp only [Act.put, List.getElem_toArray, List.getElem_cons_succ, List.getElem_cons_zero, List.setIfInBounds_toArray, List.set_cons_zero, List.set_cons_succ]
    refine wpHL_take (i := 2) (v := ?_) rfl (by kernel_rfl) (fun _ _ _ h => h) hHeld (Or.inl ⟨by rfl, ?_⟩) ?_
    rotate_left
    · (intro w hSw; obtain ⟨y0, y1, y2, y3, y4, y5, y6⟩ := hSw; go_simp; try with_reducible rfl)
    try simp only [Act.put, List.getElem_toArray, List.getElem_cons_succ, List.getElem_cons_zero, List.setIfInBounds_toArray, List.set_cons_zero, List.set_cons_succ]
    refine wpHL_take (i := 3) (v := ?_) rfl (by kernel_rfl) (fun _ _ _ h => h) hHeld (Or.inl ⟨by rfl, ?_⟩) ?_
    rotate_left
    · (intro w hSw; obtain ⟨y0, y1, y2, y3, y4, y5, y6⟩ := hSw; go_simp; try with_reducible rfl)
    try simp only [Act.put, List.getElem_toArray, List.getElem_cons_succ, List.getElem_cons_zero, List.setIfInBounds_toArray, List.set_cons_zero, List.set_cons_succ]
    refine wpHL_take (i := 4) (v := ?_) rfl (by kernel_rfl) (fun _ _ _ h => h) hHeld (Or.inl ⟨by rfl, ?_⟩) ?_
    rotate_left
    · (intro w hSw; obtain ⟨y0, y1, y2, y3, y4, y5, y6⟩ := hSw; go_simp; try with_reducible rfl)
    try simp only [Act.put, List.getElem_toArray, List.getElem_cons_succ, List.getElem_cons_zero, List.setIfInBounds_toArray, List.set_cons_zero, List.set_cons_succ]
    refine wpHL_take (i := 5) (v := ?_) rfl (by kernel_rfl) (fun _ _ _ h => h) hHeld (Or.inl ⟨by rfl, ?_⟩) ?_
    rotate_left
    · (intro w hSw; obtain ⟨y0, y1, y2, y3, y4, y5, y6⟩ := hSw; go_simp; try with_reducible rfl)
    try simp only [Act.put, List.getElem_toArray, List.getElem_cons_succ, List.getElem_cons_zero, List.setIfInBounds_toArray, List.set_cons_zero, List.set_cons_succ]
    refine wpHL_take (i := 6) (v := ?_) rfl (by kernel_rfl) (fun _ _ _ h => h) hHeld (Or.inl ⟨by rfl, ?_⟩) ?_
    rotate_left
    · (intro w hSw; obtain ⟨y0, y1, y2, y3, y4, y5, y6⟩ := hSw; go_simp; try with_reducible rfl)
    try simp only [Act.put, List.getElem_toArray, List.getElem_cons_succ, List.getElem_cons_zero, List.setIfInBounds_toArray, List.set_cons_zero, List.set_cons_succ]
    refine wpHL_take (i := 7) (v := ?_) rfl (by kernel_rfl) (fun _ _ _ h => h) hHeld (Or.inl ⟨by rfl, ?_⟩) ?_
    rotate_left
    · (intro w hSw; obtain ⟨y0, y1, y2, y3, y4, y5, y6⟩ := hSw; go_simp; try with_reducible rfl)
    try simp only [Act.put, List.getElem_toArray, List.getElem_cons_succ, List.getElem_cons_zero, List.setIfInBounds_toArray, List.set_cons_zero, List.set_cons_succ]
    refine wpHL_take (i := 8) (v := ?_) rfl (by kernel_rfl) (fun _ _ _ h => h) hHeld (Or.inl ⟨by rfl, ?_⟩) ?_
    rotate_left
    · (intro w hSw; obtain ⟨y0, y1, y2, y3, y4, y5, y6⟩ := hSw; go_simp; try with_reducible rfl)
    try simp only [Act.put, List.getElem_toArray, List.getElem_cons_succ, List.getElem_cons_zero, List.setIfInBounds_toArray, List.set_cons_zero, List.set_cons_succ]
    refine wpHL_take (i := 9) (v := ?_) rfl (by kernel_rfl) (fun _ _ _ h => h) hHeld (Or.inl ⟨by rfl, ?_⟩) ?_
    rotate_left
    · (intro w hSw; obtain ⟨y0, y1, y2, y3, y4, y5, y6⟩ := hSw; go_simp; try with_reducible rfl)
    try simp only [Act.put, List.getElem_toArray, List.getElem_cons_succ, List.getElem_cons_zero, List.setIfInBounds_toArray, List.set_cons_zero, List.set_cons_succ]
    refine wpHL_take (i := 10) (v := ?_) rfl (by kernel_rfl) (fun _ _ _ h => h) hHeld (Or.inl ⟨by rfl, ?_⟩) ?_
    rotate_left
    · (intro w hSw; obtain ⟨y0, y1, y2, y3, y4, y5, y6⟩ := hSw; go_simp; try with_reducible rfl)
    try simp only [Act.put, List.getElem_toArray, List.getElem_cons_succ, List.getElem_cons_zero, List.setIfInBounds_toArray, List.set_cons_zero, List.set_cons_succ]
    refine wpHL_take (i := 11) (v := ?_) rfl (by kernel_rfl) (fun _ _ _ h => h) hHeld (Or.inl ⟨by rfl, ?_⟩) ?_
    rotate_left
    · (intro w hSw; obtain ⟨y0, y1, y2, y3, y4, y5, y6⟩ := hSw; go_simp; try with_reducible rfl)
    try simp only [Act.put, List.getElem_toArray, List.getElem_cons_succ, List.getElem_cons_zero, List.setIfInBounds_toArray, List.set_cons_zero, List.set_cons_succ]
    refine wpHL_take (i := 12) (v := ?_) rfl (by kernel_rfl) (fun _ _ _ h => h) hHeld (Or.inl ⟨by rfl, ?_⟩) ?_
    rotate_left
    · (intro w hSw; obtain ⟨y0, y1, y2, y3, y4, y5, y6⟩ := hSw; go_simp; try with_reducible rfl)
    try simp only [Act.put, List.getElem_toArray, List.getElem_cons_succ, List.getElem_cons_zero, List.setIfInBounds_toArray, List.set_cons_zero, List.set_cons_succ]
    refine wpHL_take (i := 13) (v := ?_) rfl (by kernel_rfl) (fun _ _ _ h => h) hHeld (Or.inl ⟨by rfl, ?_⟩) ?_
    rotate_left
    · (intro w hSw; obtain ⟨y0, y1, y2, y3, y4, y5, y6⟩ := hSw; go_simp; try with_reducible rfl)
    try simp only [Act.put, List.getElem_toArray, List.getElem_cons_succ, List.getElem_cons_zero, List.setIfInBounds_toArray, List.set_cons_zero, List.set_cons_succ]
    refine wpHL_take (i := 14) (v := ?_) rfl (by kernel_rfl) (fun _ _ _ h => h) hHeld (Or.inl ⟨by rfl, ?_⟩) ?_
    rotate_left
    · (intro w hSw; obtain ⟨y0, y1, y2, y3, y4, y5, y6⟩ := hSw; go_simp; try with_reducible rfl)
    try simp only [Act.put, List.getElem_toArray, List.getElem_cons_succ, List.getElem_cons_zero, List.setIfInBounds_toArray, List.set_cons_zero, List.set_cons_succ]
    refine wpHL_take (i := 15) (v := ?_) rfl (by kernel_rfl) (fun _ _ _ h => h) hHeld (Or.inl ⟨by rfl, ?_⟩) ?_
    rotate_left
    · (intro w hSw; obtain ⟨y0, y1, y2, y3, y4, y5, y6⟩ := hSw; go_simp; try with_reducible rfl)
    try simp only [Act.put, List.getElem_toArray, List.getElem_cons_succ, List.getElem_cons_zero, List.setIfInBounds_toArray, List.set_cons_zero, List.set_cons_succ]
    refine wpHL_take (i := 16) (v := ?_) rfl (by kernel_rfl) (fun _ _ _ h => h) hHeld (Or.inl ⟨by rfl, ?_⟩) ?_
    rotate_left
    · (intro w hSw; obtain ⟨y0, y1, y2, y3, y4, y5, y6⟩ := hSw; go_simp; try with_reducible rfl)
    try simp only [Act.put, List.getElem_toArray, List.getElem_cons_succ, List.getElem_cons_zero, List.setIfInBounds_toArray, List.set_cons_zero, List.set_cons_succ]
    refine wpHL_take (i := 17) (v := ?_) rfl (by kernel_rfl) (fun _ _ _ h => h) hHeld (Or.inl ⟨by rfl, ?_⟩) ?_
    rotate_left
    · (intro w hSw; obtain ⟨y0, y1, y2, y3, y4, y5, y6⟩ := hSw; go_simp; try with_reducible rfl)
    try simp only [Act.put, List.getElem_toArray, List.getElem_cons_succ, List.getElem_cons_zero, List.setIfInBounds_toArray, List.set_cons_zero, List.set_cons_succ]
    refine wpHL_step (i := 18) rfl (by kernel_rfl) (by decide) (fun K hK => ?_)
    have HKK := Lib.hid hK
    clear hK
    go_simp
    refine (wPick xc xa xb _).mono ?_
    rintro e_ w3 ⟨rfl, rfl⟩
    go_simp
    refine HKK.out _ _ hHeld ?_
    clear HKK
    try simp only [Act.put, List.getElem_toArray, List.getElem_cons_succ, List.getElem_cons_zero, List.setIfInBounds_toArray, List.set_cons_zero, List.set_cons_succ]
    refine wpHL_take (i := 19) (v := ?_) rfl (by kernel_rfl) (fun _ _ _ h => h) hHeld (Or.inl ⟨by rfl, ?_⟩) ?_
    rotate_left
    · (intro w hSw; obtain ⟨y0, y1, y2, y3, y4, y5, y6⟩ := hSw; go_simp; try with_reducible rfl)
    try simp only [Act.put, List.getElem_toArray, List.getElem_cons_succ, List.getElem_cons_zero, List.setIfInBounds_toArray, List.set_cons_zero, List.set_cons_succ]
    have fz2 := HRD.out.fz dn
    have rd2 := HRD.out.cell l0
    refine wpHL_last (by kernel_rfl) ?_
    go_wp2_with fail
    go_ret
    refine ⟨rfl, .inr ⟨g, rc, by rw [doR_len], ?_⟩, ?_⟩
    · have := HRD.out.set l0 (bPick xc xa xb)
      simp only [doR, Int.toNat_natCast, HC.out, HA.out, HB.out]
      exact this
    · exact (HUD.out.mono (fun _ h _ => h.elim)).trans (Upd.setCell (S := fun k => (Value.slice (some ⟨g, 0, none⟩) rs.length rc).ownBlock = some k) _ (p := ⟨g, dn, none⟩) (.inl rfl) _) (fun _ h _ => h)
  | tick =>
    obtain rfl := h
    obtain ⟨t0, t1, t2, t3, t4, t5, t6, t7, t8, t9, t10, t11, t12, t13⟩ := as_tick (.agg #[])
    dsimp only at hok hp ⊢
    have HR := Lib.hid hr
    obtain ⟨ra, rn, rc, rfl⟩ : ∃ a n c, rv = .slice a n c := by rcases hr with ⟨-, a, c, h, -⟩ | ⟨g, c, h, -⟩ <;> exact ⟨_, _, _, h⟩
    clear hr hok hp
    go_enter Try.func21, Try.ntmps21
    go_wp2_with fail
    go_ret
    exact ⟨rfl, HR.out, Upd.refl _ _⟩
  | goto to =>
    obtain ⟨rfl, b0⟩ := h
    obtain ⟨t0, t1, t2, t3, t4, t5, t6, t7, t8, t9, t10, t11, t12, t13⟩ := as_goto (.agg #[.int .i64 to])
    dsimp only at hok hp ⊢
    have HR := Lib.hid (hr.upd (Upd.alloc (fun _ => False) w (.cells #[.int .i64 to] 35)) (fun _ _ h => h))
    obtain ⟨ra, rn, rc, rfl⟩ : ∃ a n c, rv = .slice a n c := by rcases hr with ⟨-, a, c, h, -⟩ | ⟨g, c, h, -⟩ <;> exact ⟨_, _, _, h⟩
    clear hr hok hp
    go_enter Try.func21, Try.ntmps21
    go_wp2_with fail
    go_ret
    exact ⟨rfl, HR.out, Upd.alloc _ _ _⟩
  | branch c to =>
    obtain ⟨rfl, b0, b1⟩ := h
    obtain ⟨t0, t1, t2, t3, t4, t5, t6, t7, t8, t9, t10, t11, t12, t13⟩ := as_branch (.agg #[.int .i64 c, .int .i64 to])
    dsimp only at hok hp ⊢
    simp only [belowP, List.all_cons, List.all_nil, Bool.and_true, Bool.and_eq_true] at hok
    have k0 := hok
    clear hok
    obtain ⟨cn, rfl, l0⟩ := inD_nat k0
    clear k0
    rcases hr with ⟨rfl, -⟩ | ⟨g, rc, rfl, hr⟩
    · simp at l0
    have HR := Lib.hid hr
    have hgl := hr.lt
    have hm := hr.2
    unfold maxLen at hm
    obtain ⟨hm1, hm2⟩ := hm
    have zc : (cn : Int) < (rs.length : Int) := by omega
    have ec := hr.cell l0
    obtain ⟨xc, hxc⟩ : ∃ x, rs.getD cn 0 = x := ⟨_, rfl⟩
    rw [hxc] at ec
    have HC := Lib.hid hxc
    clear hxc
    have fz := fun q => hr.fz q
    have ew := hr.cell l0
    clear hr hp
    have hq := si_neq0 xc
    cases hb : (xc != 0)
    · rw [hb] at hq
      clear hb
      go_enter Try.func21, Try.ntmps21
      go_wp2_with fail
      go_ret
      refine ⟨?_, .inr ⟨g, rc, rfl, HR.out.upd (Upd.alloc (fun _ => False) w _) (fun h => h)⟩, (Upd.alloc (fun _ => False) w _).mono (fun _ h _ => h.elim)⟩
      rw [show rs.getD (Int.toNat (cn : Int)) 0 = xc from HC.out, show (xc != 0) = false by rw [← si_neq0]; exact hq]; rfl
    · rw [hb] at hq
      clear hb
      go_enter Try.func21, Try.ntmps21
      go_wp2_with fail
      go_ret
      refine ⟨?_, .inr ⟨g, rc, rfl, HR.out.upd (Upd.alloc (fun _ => False) w _) (fun h => h)⟩, (Upd.alloc (fun _ => False) w _).mono (fun _ h _ => h.elim)⟩
      rw [show rs.getD (Int.toNat (cn : Int)) 0 = xc from HC.out, show (xc != 0) = true by rw [← si_neq0]; exact hq]; rfl
  | getf d f =>
    obtain ⟨rfl, b0, b1⟩ := h
    obtain ⟨t0, t1, t2, t3, t4, t5, t6, t7, t8, t9, t10, t11, t12, t13⟩ := as_getf (.agg #[.int .i64 d, .int .i64 f])
    exact (Bool.false_ne_true hp).elim
  | putf f s =>
    obtain ⟨rfl, b0, b1⟩ := h
    obtain ⟨t0, t1, t2, t3, t4, t5, t6, t7, t8, t9, t10, t11, t12, t13⟩ := as_putf (.agg #[.int .i64 f, .int .i64 s])
    exact (Bool.false_ne_true hp).elim
  | serve op a b d l =>
    obtain ⟨s_, rfl, HL0, b0, b1, b2, b3⟩ := h
    have HL := Lib.hid HL0
    obtain ⟨sa, sc, rfl, hsn, hsm⟩ := HL0.1.slice
    clear HL0
    obtain ⟨t0, t1, t2, t3, t4, t5, t6, t7, t8, t9, t10, t11, t12, t13⟩ := as_serve (.agg #[.int .i64 op, .int .i64 a, .int .i64 b, .int .i64 d, (.slice sa l.length sc)])
    exact (Bool.false_ne_true hp).elim
  | call m d l =>
    obtain ⟨s_, rfl, HL0, b0, b1⟩ := h
    have HL := Lib.hid HL0
    obtain ⟨sa, sc, rfl, hsn, hsm⟩ := HL0.1.slice
    clear HL0
    obtain ⟨t0, t1, t2, t3, t4, t5, t6, t7, t8, t9, t10, t11, t12, t13⟩ := as_call (.agg #[.int .i64 m, .int .i64 d, (.slice sa l.length sc)])
    exact (Bool.false_ne_true hp).elim
  | callx i d l =>
    obtain ⟨s_, rfl, HL0, b0, b1⟩ := h
    have HL := Lib.hid HL0
    obtain ⟨sa, sc, rfl, hsn, hsm⟩ := HL0.1.slice
    clear HL0
    obtain ⟨t0, t1, t2, t3, t4, t5, t6, t7, t8, t9, t10, t11, t12, t13⟩ := as_callx (.agg #[.int .i64 i, .int .i64 d, (.slice sa l.length sc)])
    exact (Bool.false_ne_true hp).elim
  | ret s =>
    obtain ⟨rfl, b0⟩ := h
    obtain ⟨t0, t1, t2, t3, t4, t5, t6, t7, t8, t9, t10, t11, t12, t13⟩ := as_ret (.agg #[.int .i64 s])
    exact (Bool.false_ne_true hp).elim
end Go.Proofs.Ytkleofpiikbpmaa

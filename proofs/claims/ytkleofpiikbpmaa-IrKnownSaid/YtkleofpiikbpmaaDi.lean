/- Package ir: Eval. -/
import Derived.Test.YtkleofpiikbpmaaDh
namespace Go.Proofs.Ytkleofpiikbpmaa
open Go.RowKit Go.ChangeShapes Go.WideShapes Go.Deep
set_option linter.unusedVariables false
set_option linter.unusedSimpArgs false
/-- words read from a slice -/
def W32 (w : World) (v : Value) (rs : List (BitVec 32)) : Prop := Sl w v 1 rs.length (fun i _ => .int .i32 (si (rs.getD i 0)))
theorem W32.later {W w : World} {v : Value} {rs : List (BitVec 32)} (h : W32 W v rs) (hb : Below W.heap.size W w) : W32 w v rs := Sl.later h hb
theorem W32.stay {w w' : World} {v : Value} {rs : List (BitVec 32)} (h : W32 w v rs) (hu : Upd (fun _ => False) w w') : W32 w' v rs := h.later (upd_below hu)
theorem clI32Info : (Try.prog.info? 21).map (fun i => (i.zero, i.size, i.bytes)) = some (some (.int .i32 0), 1, 4) := by kernel_rfl
set_option maxHeartbeats 400000 in
theorem clI32 (w : World) (v : Value) (n : Nat) (f : Nat → Nat → Value) (h : Sl w v 1 n f) (h1 : ∀ i, i < n → ∀ j, j < 1 → (f i j).oneCell' = true) (hl : n ≤ 100000000) :
    Calls Try.prog 19 #[v] w fun e w' => ∃ v', e = .returned v' ∧ Clo 21 1 w v' n (cellsQ 1 n f) w' := by
  obtain ⟨i0, hi, hz0, hz1, hz2⟩ := info_parts clI32Info
  obtain ⟨a, c, rfl, hc, hm⟩ := h.slice
  cases a with
  | none =>
    obtain rfl : n = 0 := by
      obtain ⟨a, c1, e, _, _, h3⟩ := h
      rcases h3 with h3 | ⟨g, off, h3, _⟩
      · exact h3
      · subst h3; simp at e
    have hq := fun u : World => Lib.run_eql_slice_nil (P := Try.prog) u 58 21 none 0 c 0 0 Try.underlying58
    clear h h1
    go_enter Try.func19, Try.ntmps19
    go_wp2
    go_ret
    exact ⟨_, rfl, World.ownsRow_nil _ _ _ _, Upd.refl _ _, by simp [Value.ownBlock]⟩
  | some a =>
    have hsl := h.later (w := w.alloc (.cells #[] 21)) ((Upd.alloc (fun _ => False) w _).below (Nat.le_refl _) (fun _ h => h.elim))
    have HS := Lib.hid (hsl.srcQ (by omega) h1)
    have HO := Lib.hid (World.ownsRow_lit (base := 0) (e := 21) (size := 1) w #[] 0 (Nat.zero_le _) (by unfold maxLen; omega) rfl)
    have hq := fun u : World => Lib.run_eql_slice_nil (P := Try.prog) u 58 21 (some a) n c 0 0 Try.underlying58
    clear h h1 hsl
    go_enter Try.func19, Try.ntmps19
    go_wp2_with (at_builtin; go_loud (refine wpList_append_mine _ rfl _ _ 58 rfl 0 21 i0 (.int .i32 0) 1 4 Try.underlying58 hi hz0 hz1 hz2 rfl (by decide) (.slice (some ⟨w.heap.size, 0, none⟩) 0 0) 0 [] rfl HO.out n (cellsQ 1 n f) HS.out (by unfold maxLen; omega) (by omega) (Nat.zero_le _) ?_))
    intro v' w1 ho hg hf
    have HN := Lib.hid (clo_of ho hg hf)
    clear ho hg hf
    go_wp2
    go_ret
    exact ⟨_, rfl, by simpa using HN.out⟩
theorem rgv_clo {w w' : World} {v : Value} {rs : List (BitVec 32)} (h : Clo 21 1 w v rs.length (cellsQ 1 rs.length (fun i _ => .int .i32 (si (rs.getD i 0)))) w') : RgV w' v rs := by
  obtain ⟨⟨hl, h2⟩, -, -⟩ := h
  rcases h2 with ⟨h3, h4⟩ | ⟨g, cap, cur, rfl, -, h3, h4, h5, h6, h7⟩
  · refine .inl ⟨?_, none, 0, ?_, by unfold maxLen; omega⟩
    · first | exact List.eq_nil_of_length_eq_zero h4 | exact List.eq_nil_of_length_eq_zero h3
    · first | exact h3 | exact h4
  · refine .inr ⟨g, cap, rfl, ⟨cur, h3, fun j hj => ?_⟩, h4, h5⟩
    have e := cellsQ_at (sz := 1) (n := rs.length) (i := j) (j := 0) (f := fun i _ => Value.int .i32 (si (rs.getD i 0))) hj (by omega)
    rw [Nat.mul_one, Nat.add_zero, ← h7] at e
    have e2 := (List.getElem?_take_of_lt (by simpa using hj) : (cur.toList.take (rs.length * 1))[j]? = cur.toList[j]?)
    rw [e2] at e
    simpa using e
theorem irCloneR {w : World} {v : Value} {rs : List (BitVec 32)} (h : W32 w v rs) (hl : rs.length ≤ 100000000) : Calls Try.prog 19 #[v] w fun e w' => ∃ v', e = .returned v' ∧ RgV w' v' rs ∧ Upd (fun _ => False) w w' ∧ ∀ k, v'.ownBlock = some k → w.heap.size ≤ k :=
  (clI32 w v rs.length _ h (fun _ _ _ _ => rfl) hl).mono fun _ _ ⟨v', h1, h2⟩ => ⟨v', h1, rgv_clo h2, h2.2.1, h2.2.2⟩
/-- what Eval does, plainly -/
def evalGo (L : List Nd) : Nat → Nat → Int → List (BitVec 32) → List (BitVec 32) × Int × Int
  | 0, a, k, rs => (rs, (a : Int), k)
  | m + 1, a, k, rs => bif pureP (L.getD a .nil) then evalGo L m (doN (a : Int) rs (L.getD a .nil)).toNat (bif tickP (L.getD a .nil) then k + 1 else k) (doR rs (L.getD a .nil)) else (rs, (a : Int), k)
def evalOk (p : PrM) (rs : List (BitVec 32)) (fr : Int) : Bool := checkP p && (decide ((rs.length : Int) = p.regs) && belowP (p.nodes.length : Int) [fr])
def evalP (p : PrM) (rs : List (BitVec 32)) (fr most : Int) : List (BitVec 32) × Int × Int := bif evalOk p rs fr then evalGo p.nodes most.toNat fr.toNat 0 rs else ([], 0, 0)
theorem doN_next (n : Nd) (hp : pureP n = true) (a : Int) (rs : List (BitVec 32)) : doN a rs n ∈ nextP a n := by
  cases n with
  | branch c t =>
    show (bif rs.getD c.toNat 0 != 0 then t else a + 1) ∈ (if t = a + 1 then [t] else [a + 1, t])
    split
    · rename_i h; subst h; cases (rs.getD c.toNat 0 != 0) <;> simp
    · cases (rs.getD c.toNat 0 != 0) <;> simp
  | goto t => simp [doN, nextP]
  | const d x => simp [doN, nextP]
  | move d s => simp [doN, nextP]
  | bin op d x y => simp [doN, nextP]
  | un op d x => simp [doN, nextP]
  | choose d c x y => simp [doN, nextP]
  | tick => simp [doN, nextP]
  | nil => exact (Bool.false_ne_true hp).elim
  | getf d f => exact (Bool.false_ne_true hp).elim
  | putf f s => exact (Bool.false_ne_true hp).elim
  | serve op x y d l => exact (Bool.false_ne_true hp).elim
  | call m d l => exact (Bool.false_ne_true hp).elim
  | callx i d l => exact (Bool.false_ne_true hp).elim
  | ret s => exact (Bool.false_ne_true hp).elim
theorem checkP_at {P R : Int} {L : List Nd} (h : checkP ⟨P, R, L⟩ = true) : 1 ≤ L.length ∧ L.length ≤ 250 ∧ 0 ≤ R ∧ R ≤ 40 ∧ ∀ k, k < L.length → okAt R L.length k (L.getD k .nil) = true := by
  unfold checkP at h
  simp only [Bool.and_eq_true, decide_eq_true_eq] at h
  refine ⟨h.1.1, h.1.2, h.2.1.1, h.2.1.2, fun k hk => ?_⟩
  exact (List.all_eq_true.1 h.2.2.2) k (List.mem_range.2 hk)
theorem doN_in {R : Int} {L : List Nd} {k : Nat} (h : okAt R L.length k (L.getD k .nil) = true) (hp : pureP (L.getD k .nil) = true) (rs : List (BitVec 32)) : ∃ j : Nat, doN (k : Int) rs (L.getD k .nil) = (j : Int) ∧ j < L.length := by
  unfold okAt at h
  rw [Bool.and_eq_true] at h
  have h2 := h.2
  unfold belowP at h2
  rw [List.all_eq_true] at h2
  exact inD_nat (h2 _ (doN_next _ hp _ _))
end Go.Proofs.Ytkleofpiikbpmaa

/- Stage 16: what stands in a loaded memory; what known asks. -/
import Derived.Test.YtibmgmgkaacibaaEyk
namespace Go.Proofs.Ytibmgmgkaacibaa
open Go.RowKit Go.ChangeShapes Go.WideShapes Go.Deep Go.IntWalk
set_option linter.unusedVariables false
set_option linter.unusedSimpArgs false
theorem loadM_below : ∀ (l : List Nat) (M : Nat → Nat) (a j : Nat), j < a → loadM M a l j = M j
  | [], M, a, j, h => rfl
  | x :: l, M, a, j, h => by
    show loadM (setHM M a x) (a + 2) l j = M j
    rw [loadM_below l _ (a + 2) j (by omega)]
    unfold setHM setM
    rw [if_neg (by omega), if_neg (by omega)]
theorem half_load : ∀ (l : List Nat) (M : Nat → Nat) (a k : Nat), (∀ y ∈ l, y < 65536) → k < l.length → halfM (loadM M a l) (a + 2 * k) = l.getD k 0
  | [], M, a, k, h, hk => by simp at hk
  | x :: l, M, a, 0, h, hk => by
    have hx := h x (by simp)
    show loadM (setHM M a x) (a + 2) l (a + 2 * 0) + 256 * loadM (setHM M a x) (a + 2) l (a + 2 * 0 + 1) = x
    rw [loadM_below l _ (a + 2) _ (by omega), loadM_below l _ (a + 2) _ (by omega)]
    unfold setHM setM
    rw [if_neg (by omega), if_pos (by omega), if_pos (by omega)]
    omega
  | x :: l, M, a, k + 1, h, hk => by
    show halfM (loadM (setHM M a x) (a + 2) l) (a + 2 * (k + 1)) = _
    rw [show a + 2 * (k + 1) = (a + 2) + 2 * k by omega, half_load l _ (a + 2) k (fun y hy => h y (by simp [hy])) (by simpa using hk)]
    simp
/-- code is alike -/
def Code (M N : Nat → Nat) : Prop := ∀ j, j < 131072 → M j = N j
theorem Code.half {M N : Nat → Nat} (h : Code M N) {k : Nat} (hk : k + 1 < 131072) : halfM M k = halfM N k := by
  unfold halfM; rw [h k (by omega), h (k + 1) hk]
theorem okHf_t {k : Int} (h0 : 0 ≤ k) (h1 : k < 131072) (h2 : k % 2 = 0) : okHf k = true := by unfold okHf; exact decide_eq_true ⟨h0, h1, h2⟩
theorem list1 : ∀ {l : List Nat}, l.length = 1 → l = [l.getD 0 0]
  | [x], _ => rfl
theorem list2 : ∀ {l : List Nat}, l.length = 2 → l = [l.getD 0 0, l.getD 1 0]
  | [x, y], _ => rfl
theorem getD_mid (X Y Z : List Nat) (k : Nat) (hk : k < Y.length) : (X ++ (Y ++ Z)).getD (X.length + k) 0 = Y.getD k 0 := by
  simp only [List.getD]
  rw [List.getElem?_append_right (by omega), show X.length + k - X.length = k by omega, List.getElem?_append_left hk]
theorem read_at {M : Nat → Nat} {a : Nat} {L : List I6} (hc : Code M (loadM (fun _ => 0) a (encL L))) (hr : ∀ i ∈ L, rightP i = true) (ha : a % 2 = 0) (hend : a + 2 * (encL L).length ≤ 131072)
    (A B : List I6) (i : I6) (hL : L = A ++ i :: B) (p : Nat) (hp : p = a + 2 * (encL A).length) : readI M p = i ∧ readB M p = true := by
  have hi := hr i (by rw [hL]; simp)
  obtain ⟨e1, e2, e3⟩ := enc_dec hi []
  have hlt : ∀ y ∈ encL L, y < 65536 := fun y hy => by
    obtain ⟨j, hj1, hj2⟩ := List.mem_flatMap.1 hy
    exact (enc_dec (hr j hj1) []).2.2 y hj2
  have hE : encL L = encL A ++ (encP i ++ encL B) := by rw [hL]; simp [encL]
  have hlen : (encL L).length = (encL A).length + ((encP i).length + (encL B).length) := by rw [hE]; simp
  have h0 : 0 < (encP i).length := by rw [e2]; split <;> omega
  have hh := fun k (hk : k < (encP i).length) => by
    have h1 := half_load (encL L) (fun _ => 0) a ((encL A).length + k) hlt (by omega)
    have h2 : (encL L).getD ((encL A).length + k) 0 = (encP i).getD k 0 := by rw [hE]; exact getD_mid _ _ _ k hk
    exact h1.trans h2
  have hM := fun k (hk : k < (encP i).length) => by
    have h1 := hh k hk
    rw [← (hc.half (k := a + 2 * ((encL A).length + k)) (by omega))] at h1
    exact h1
  have ok1 : okHf (p : Int) = true := okHf_t (by omega) (by omega) (by omega)
  have first : halfM M p = (encP i).getD 0 0 := by
    have := hM 0 h0
    rw [show a + 2 * ((encL A).length + 0) = p by omega] at this
    exact this
  have key : ∃ more, hsP M p = encP i ++ more := by
    unfold hsP
    rw [first]
    by_cases h43 : i.op = 43
    · rw [if_pos h43] at e2
      have second : halfM M (p + 2) = (encP i).getD 1 0 := by
        have := hM 1 (by omega)
        rw [show a + 2 * ((encL A).length + 1) = p + 2 by omega] at this
        exact this
      have ok2 : okHf ((p : Int) + 2) = true := okHf_t (by omega) (by omega) (by omega)
      rw [if_pos ok2, second]
      refine ⟨[], ?_⟩
      rw [List.append_nil]
      exact (list2 e2).symm
    · rw [if_neg h43] at e2
      generalize (if okHf ((p : Int) + 2) = true then [halfM M (p + 2)] else []) = R
      exact ⟨R, congrArg (fun l => l ++ R) (list1 e2).symm⟩
  obtain ⟨more, hmore⟩ := key
  have hd := (enc_dec hi more).1
  rw [← hmore] at hd
  unfold readI readB
  rw [ok1, hd]
  exact ⟨rfl, rfl⟩
theorem isL_lit (w : World) (L : List I6) (T : TypeId) (A : Array Value) (c : Nat) (hA : A = (L.flatMap fun i => [Value.int .i64 i.op, .int .i64 i.d, .int .i64 i.n, .int .i64 i.m, .int .i64 i.imm, .int .i64 i.cond]).toArray) (hc : L.length = c) (hm : c ≤ 1000) : IsL (w.alloc (.cells A T)) w.heap.size c L := by
  have key : ∀ (L : List I6) (j k : Nat), j < L.length → k < 6 → (L.flatMap fun i => [Value.int .i64 i.op, .int .i64 i.d, .int .i64 i.n, .int .i64 i.m, .int .i64 i.imm, .int .i64 i.cond])[j * 6 + k]? = [Value.int .i64 (L.getD j I6.zero).op, .int .i64 (L.getD j I6.zero).d, .int .i64 (L.getD j I6.zero).n, .int .i64 (L.getD j I6.zero).m, .int .i64 (L.getD j I6.zero).imm, .int .i64 (L.getD j I6.zero).cond][k]? := by
    intro L
    induction L with
    | nil => intro j k hj; simp at hj
    | cons i L ih =>
      intro j k hj hk
      rw [List.flatMap_cons]
      cases j with
      | zero => rw [List.getElem?_append_left (by simp; omega)]; simp
      | succ j =>
        rw [List.getElem?_append_right (by simp; omega)]
        have := ih j k (by simpa using hj) hk
        simp only [List.length_cons, List.length_nil]
        rw [show (j + 1) * 6 + k - (0 + 1 + 1 + 1 + 1 + 1 + 1) = j * 6 + k by omega, this]
        simp
  have hb : (w.alloc (.cells A T)).heap[w.heap.size]? = some (.cells A T (0, 0)) := heap_alloc_last w _
  refine ⟨by omega, by unfold maxLen; omega, fun j hj => ⟨_, rfl, ?_, ?_, ?_, ?_, ?_, ?_⟩⟩
  · rw [cell_of_row _ _ _ _ _ _ hb, hA]; simpa using key L j 0 hj (by omega)
  · rw [cell_of_row _ _ _ _ _ _ hb, hA]; simpa using key L j 1 hj (by omega)
  · rw [cell_of_row _ _ _ _ _ _ hb, hA]; simpa using key L j 2 hj (by omega)
  · rw [cell_of_row _ _ _ _ _ _ hb, hA]; simpa using key L j 3 hj (by omega)
  · rw [cell_of_row _ _ _ _ _ _ hb, hA]; simpa using key L j 4 hj (by omega)
  · rw [cell_of_row _ _ _ _ _ _ hb, hA]; simpa using key L j 5 hj (by omega)
def kL : List I6 := [⟨8, 0, 0, 0, 5, 0⟩, ⟨11, 0, 0, 0, 6, 0⟩]
def kS : Ws := ⟨Ch.zero, loadM (fun _ => 0) 0 (encL kL), some []⟩
theorem kS2 : (stepW (stepW kS)).x.st = 0 ∧ (stepW (stepW kS)).x.R 0 = 4294967295 ∧ (stepW (stepW kS)).x.nf = true ∧ (stepW (stepW kS)).x.cf = false ∧ (stepW (stepW kS)).x.zf = false ∧ (stepW (stepW kS)).x.R 15 = 4 ∧ (stepW (stepW kS)).x.cyc = 2 ∧ ((stepW (stepW kS)).L.map List.length) = some 2 := by
  decide +kernel
end Go.Proofs.Ytibmgmgkaacibaa

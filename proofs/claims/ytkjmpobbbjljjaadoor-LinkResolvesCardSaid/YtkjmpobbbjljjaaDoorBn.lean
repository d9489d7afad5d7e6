/- Rows of several cells a time: as sources of an append, with a cell put, cut at either end; instructions and methods among them. -/
import Derived.Test.YtkjmpobbbjljjaaDoorMq
import Derived.Test.YtkjmpobbbjljjaaDoorMs
namespace Go.Proofs.YtkjmpobbbjljjaaDoor
open Go.RowKit Go.Lib
set_option linter.unusedVariables false

def cellsL (sz n : Nat) (f : Nat → Nat → Value) : List Value := (List.range (n * sz)).map (fun t => f (t / sz) (t % sz))
theorem cellsL_len (sz n : Nat) (f : Nat → Nat → Value) : (cellsL sz n f).length = n * sz := by simp [cellsL]
theorem cellsL_get {sz n t : Nat} {f : Nat → Nat → Value} (ht : t < n * sz) : (cellsL sz n f)[t]? = some (f (t / sz) (t % sz)) := by simp [cellsL, ht]
theorem cellsL_at {sz n i j : Nat} {f : Nat → Nat → Value} {d : Value} (hi : i < n) (hj : j < sz) : (cellsL sz n f).getD (i * sz + j) d = f i j := by
  have h : i * sz + j < n * sz := by
    have : (i + 1) * sz ≤ n * sz := Nat.mul_le_mul_right _ hi
    rw [Nat.add_mul] at this
    omega
  have h1 : (i * sz + j) / sz = i := by rw [Nat.mul_comm, Nat.mul_add_div (by omega), Nat.div_eq_of_lt hj, Nat.add_zero]
  have h2 : (i * sz + j) % sz = j := by rw [Nat.mul_comm, Nat.mul_add_mod, Nat.mod_eq_of_lt hj]
  rw [List.getD, cellsL_get h, h1, h2]
  rfl
section
variable {w w' : World} {v : Value} {sz n : Nat} {f : Nat → Nat → Value}
theorem src_cells {g off c : Nat} (hsz : 0 < sz) (h : ∀ i, i < n → ∀ j, j < sz → w.cell? ⟨g, off + i * sz + j, none⟩ = some (f i j)) (h1 : ∀ i, i < n → ∀ j, j < sz → (f i j).oneCell' = true) :
    Src w sz (.slice (some ⟨g, off, none⟩) n c) n (cellsL sz n f) := by
  refine .inr ⟨_, _, rfl, cellsL_len _ _ _, fun t u ht => ?_, fun u hu => ?_⟩
  · have hlt : t < n * sz := by
      have := (List.getElem?_eq_some_iff.1 ht).1
      rwa [cellsL_len] at this
    rw [cellsL_get hlt] at ht
    simp at ht
    subst ht
    rw [addr_add]
    have hi : t / sz < n := Nat.div_lt_of_lt_mul (by rw [Nat.mul_comm]; exact hlt)
    have := h (t / sz) hi (t % sz) (Nat.mod_lt _ hsz)
    rw [show off + t / sz * sz + t % sz = off + t by rw [Nat.add_assoc, Nat.div_add_mod']] at this
    exact this
  · obtain ⟨t, ht, rfl⟩ := List.mem_map.1 hu
    have hlt := List.mem_range.1 ht
    exact h1 _ (Nat.div_lt_of_lt_mul (by rw [Nat.mul_comm]; exact hlt)) _ (Nat.mod_lt _ hsz)
theorem Sl.src (hsz : 0 < sz) (h0 : 0 < n) (h : Sl w v sz n f) (h1 : ∀ i, i < n → ∀ j, j < sz → (f i j).oneCell' = true) : Src w sz v n (cellsL sz n f) := by
  obtain ⟨a, c, rfl, _, _, h3⟩ := h
  rcases h3 with h3 | ⟨g, off, rfl, h4⟩
  · omega
  · exact src_cells hsz h4 h1
theorem place_inj {off i j k l : Nat} (hj : j < sz) (hl : l < sz) (h : off + i * sz + j = off + k * sz + l) : i = k ∧ j = l := by
  have e : i * sz + j = k * sz + l := by omega
  have h1 : (i * sz + j) / sz = i := by rw [Nat.mul_comm, Nat.mul_add_div (by omega), Nat.div_eq_of_lt hj, Nat.add_zero]
  have h2 : (k * sz + l) / sz = k := by rw [Nat.mul_comm, Nat.mul_add_div (by omega), Nat.div_eq_of_lt hl, Nat.add_zero]
  have h3 : i = k := by rw [← h1, e, h2]
  subst h3
  exact ⟨rfl, by omega⟩
theorem Sl.put {g off c k l : Nat} (h : Sl w (.slice (some ⟨g, off, none⟩) n c) sz n f) (hk : k < n) (hl : l < sz) (u : Value) :
    Sl (w.setCell ⟨g, off + k * sz + l, none⟩ u) (.slice (some ⟨g, off, none⟩) n c) sz n (fun i j => if i = k ∧ j = l then u else f i j) := by
  obtain ⟨a, c', he, h1, h2, h3⟩ := h
  simp at he
  obtain ⟨rfl, rfl⟩ := he
  refine ⟨_, c, rfl, h1, h2, ?_⟩
  rcases h3 with h3 | ⟨g', off', he, h4⟩
  · exact .inl h3
  · simp at he
    obtain ⟨rfl, rfl⟩ := he
    refine .inr ⟨g, off, rfl, fun i hi j hj => ?_⟩
    by_cases hij : i = k ∧ j = l
    · obtain ⟨rfl, rfl⟩ := hij
      show _ = some (if i = i ∧ j = j then u else f i j)
      rw [if_pos ⟨rfl, rfl⟩]
      exact World.cell?_setCell_same _ _ _ (h4 i hi j hj)
    · show _ = some (if i = k ∧ j = l then u else f i j)
      rw [if_neg hij, World.cell?_setCell_other, h4 i hi j hj]
      intro e
      simp at e
      have := place_inj (off := off) (sz := sz) (i := i) (k := k) hj hl (by omega)
      exact hij this
theorem Sl.cutR {a : Option Addr} {c k : Nat} (h : Sl w (.slice a n c) sz n f) (hk : k ≤ n) : Sl w (.slice a k c) sz k f := by
  obtain ⟨a', c', he, h1, h2, h3⟩ := h
  simp at he
  obtain ⟨rfl, rfl⟩ := he
  refine ⟨_, _, rfl, by omega, h2, ?_⟩
  rcases h3 with h3 | ⟨g, off, rfl, h4⟩
  · exact .inl (by omega)
  · exact .inr ⟨g, off, rfl, fun i hi j hj => h4 i (by omega) j hj⟩
theorem Sl.cutL {a : Option Addr} {c k : Nat} (h : Sl w (.slice a n c) sz n f) (hk : k ≤ n) : Sl w (.slice (if c = k then a else a.map (·.add (k * sz))) (n - k) (c - k)) sz (n - k) (fun i j => f (i + k) j) := by
  obtain ⟨a', c', he, h1, h2, h3⟩ := h
  simp at he
  obtain ⟨rfl, rfl⟩ := he
  refine ⟨_, _, rfl, by omega, by omega, ?_⟩
  rcases h3 with h3 | ⟨g, off, rfl, h4⟩
  · exact .inl (by omega)
  · by_cases h0 : n - k = 0
    · exact .inl h0
    · rw [if_neg (by omega)]
      refine .inr ⟨g, off + k * sz, by simp [addr_add], fun i hi j hj => ?_⟩
      have := h4 (i + k) (by omega) j hj
      rw [Nat.add_mul] at this
      rw [show off + k * sz + i * sz + j = off + (i * sz + k * sz) + j by omega]
      exact this
end
/-- instructions -/
theorem bnFlatTake (C : List InsM) (k : Nat) : (C.take k).flatMap icl = (C.flatMap icl).take (k * 3) := by
  induction C generalizing k with
  | nil => simp
  | cons x C ih =>
    cases k with
    | zero => simp
    | succ k => rw [show (k + 1) * 3 = k * 3 + 1 + 1 + 1 by omega]; simp [icl, ih]
theorem flat_drop (C : List InsM) (k : Nat) : (C.drop k).flatMap icl = (C.flatMap icl).drop (k * 3) := by
  induction C generalizing k with
  | nil => simp
  | cons x C ih =>
    cases k with
    | zero => simp
    | succ k => rw [show (k + 1) * 3 = k * 3 + 1 + 1 + 1 by omega]; simp [icl, ih]
theorem bnFlatLen (C : List InsM) : (C.flatMap icl).length = C.length * 3 := by
  induction C with
  | nil => rfl
  | cons x C ih => simp [icl, ih]; omega
theorem icl_one (C : List InsM) : ∀ u ∈ C.flatMap icl, u.oneCell' = true := by
  intro u hu
  obtain ⟨x, _, hx⟩ := List.mem_flatMap.1 hu
  simp [icl] at hx
  rcases hx with rfl | rfl | rfl <;> rfl
theorem cells_icl (C : List InsM) : cellsL 3 C.length (insF C) = C.flatMap icl := by
  refine List.ext_getElem (by rw [cellsL_len, bnFlatLen]) fun t h1 h2 => ?_
  rw [cellsL_len] at h1
  have e := flat_get icl 3 (.int .i64 0) (fun _ => rfl) C (t / 3) (t % 3) (by omega) (Nat.mod_lt _ (by omega))
  rw [show t / 3 * 3 + t % 3 = t by omega] at e
  have e2 : (C.flatMap icl).getD t (.int .i64 0) = (C.flatMap icl)[t] := by rw [List.getD, List.getElem?_eq_getElem h2]; rfl
  rw [← e2, e]
  simp only [cellsL, List.getElem_map, List.getElem_range]
  unfold insF icl
  rcases (by omega : t % 3 = 0 ∨ t % 3 = 1 ∨ t % 3 = 2) with h | h | h <;> rw [h] <;> rfl
theorem Inss.src {w : World} {v : Value} {C : List InsM} (h : Inss w v C) (h0 : 0 < C.length) : Src w 3 v C.length (C.flatMap icl) := by
  rw [← cells_icl]
  exact h.1.src (by omega) h0 (fun i _ j _ => rfl)
theorem CRow.head {w : World} {v : Value} {C : List InsM} (h : CRow w v C) (h0 : 0 < C.length) : ∃ g cap, v = .slice (some ⟨g, 0, none⟩) C.length cap ∧ C.length ≤ cap ∧ cap ≤ maxLen ∧ g < w.heap.size := by
  rcases h.row.2 with ⟨_, h1⟩ | ⟨g, cap, cur, rfl, hb, hg, hc, hm, _⟩
  · omega
  · exact ⟨g, cap, rfl, hc, hm, (Array.getElem?_eq_some_iff.1 hg).1⟩
theorem CRow.cell {w : World} {g cap : Nat} {C : List InsM} (h : CRow w (.slice (some ⟨g, 0, none⟩) C.length cap) C) {k : Nat} (hk : k < C.length) :
    w.cell? ⟨g, k * 3, none⟩ = some (.int .i64 (C.getD k default).op) ∧ w.cell? ⟨g, k * 3 + 1, none⟩ = some (.int .i64 (C.getD k default).a) ∧ w.cell? ⟨g, k * 3 + 2, none⟩ = some (.int .i64 (C.getD k default).b) := by
  obtain ⟨g', off, he, c0, c1, c2, _⟩ := h.inss.at hk
  simp at he
  obtain ⟨rfl, rfl⟩ := he
  rw [Nat.zero_add] at c0 c1 c2
  exact ⟨c0, c1, c2⟩
theorem row_thaw {w : World} {base : Nat} {e : TypeId} {size g n cap : Nat} {xs : List Value} (h : w.ownsRow base e size (.slice (some ⟨g, 0, none⟩) n cap) n xs) (q : Nat) : w.frozen? ⟨g, q, none⟩ = false := by
  obtain ⟨hl, h⟩ := h
  rcases h with ⟨h, _⟩ | ⟨g', cap', cur, he, hb, hg, hc, hm, hcs, ht⟩
  · simp at h
  · simp at he
    obtain ⟨rfl, rfl⟩ := he
    simp [World.frozen?, hg]
theorem icl_set0 (C : List InsM) (k : Nat) (hk : k < C.length) (u : Int) : (C.set k ⟨u, (C.getD k default).a, (C.getD k default).b⟩).flatMap icl = (C.flatMap icl).set (k * 3) (.int .i64 u) := by
  induction C generalizing k with
  | nil => simp at hk
  | cons x C ih =>
    cases k with
    | zero => simp [icl]
    | succ k =>
      have := ih k (by simpa using hk)
      rw [show (k + 1) * 3 = k * 3 + 3 by omega]
      simp [icl, List.set] at this ⊢
      exact this
theorem icl_set2 (C : List InsM) (k : Nat) (hk : k < C.length) (u : Int) : (C.set k ⟨(C.getD k default).op, (C.getD k default).a, u⟩).flatMap icl = (C.flatMap icl).set (k * 3 + 2) (.int .i64 u) := by
  induction C generalizing k with
  | nil => simp at hk
  | cons x C ih =>
    cases k with
    | zero => simp [icl]
    | succ k =>
      have := ih k (by simpa using hk)
      rw [show (k + 1) * 3 + 2 = k * 3 + 2 + 3 by omega]
      simp [icl, List.set] at this ⊢
      exact this
section
variable {w : World} {g cap : Nat} {C : List InsM} (h : CRow w (.slice (some ⟨g, 0, none⟩) C.length cap) C) {k : Nat} (hk : k < C.length)
include h hk
theorem CRow.setOp (u : Int) (hu : wi64 u) : CRow (w.setCell ⟨g, k * 3, none⟩ (.int .i64 u)) (.slice (some ⟨g, 0, none⟩) C.length cap) (C.set k ⟨u, (C.getD k default).a, (C.getD k default).b⟩) := by
  refine ⟨?_, fun x hx => ?_⟩
  · rw [icl_set0 C k hk u, List.length_set]
    exact ownsRow_set h.row _ _
  · rcases List.mem_or_eq_of_mem_set hx with h1 | rfl
    · exact h.wi x h1
    · have := h.wi _ (mem_getD hk)
      exact ⟨hu, this.2⟩
theorem CRow.setB (u : Int) (hu : wi64 u) : CRow (w.setCell ⟨g, k * 3 + 2, none⟩ (.int .i64 u)) (.slice (some ⟨g, 0, none⟩) C.length cap) (C.set k ⟨(C.getD k default).op, (C.getD k default).a, u⟩) := by
  refine ⟨?_, fun x hx => ?_⟩
  · rw [icl_set2 C k hk u, List.length_set]
    exact ownsRow_set h.row _ _
  · rcases List.mem_or_eq_of_mem_set hx with h1 | rfl
    · exact h.wi x h1
    · have := h.wi _ (mem_getD hk)
      exact ⟨this.1, this.2.1, hu⟩
theorem CRow.setAll (x y z : Int) (hx : wi64 x) (hy : wi64 y) (hz : wi64 z) : ∃ C', C'.length = C.length ∧ CRow (((w.setCell ⟨g, k * 3, none⟩ (.int .i64 x)).setCell ⟨g, k * 3 + 1, none⟩ (.int .i64 y)).setCell ⟨g, k * 3 + 2, none⟩ (.int .i64 z)) (.slice (some ⟨g, 0, none⟩) C.length cap) C' := by
  obtain ⟨C1, l1, h1⟩ : ∃ C', C'.length = C.length ∧ CRow (w.setCell ⟨g, k * 3, none⟩ (.int .i64 x)) (.slice (some ⟨g, 0, none⟩) C'.length cap) C' := ⟨_, List.length_set, by rw [List.length_set]; exact h.setOp hk x hx⟩
  obtain ⟨C2, l2, h2⟩ : ∃ C', C'.length = C.length ∧ CRow ((w.setCell ⟨g, k * 3, none⟩ (.int .i64 x)).setCell ⟨g, k * 3 + 1, none⟩ (.int .i64 y)) (.slice (some ⟨g, 0, none⟩) C'.length cap) C' := ⟨_, List.length_set.trans l1, by rw [List.length_set]; exact h1.setA k (by omega) y hy⟩
  have h3 := h2.setB (k := k) (by omega) z hz
  rw [l2] at h3
  exact ⟨_, by rw [List.length_set, l2], h3⟩
end
section
variable {w : World} {g cap : Nat} {C : List InsM} (h : CRow w (.slice (some ⟨g, 0, none⟩) C.length cap) C)
include h
theorem CRow.srcL {k : Nat} (hk : k ≤ C.length) (c : Nat) : Src w 3 (.slice (some ⟨g, 0, none⟩) k c) k ((C.take k).flatMap icl) := by
  refine .inr ⟨_, _, rfl, by rw [bnFlatLen, List.length_take]; omega, fun j u hj => ?_, icl_one _⟩
  rw [bnFlatTake] at hj
  exact h.row.cells (g := g) rfl j u (by
    have := (List.getElem?_eq_some_iff.1 hj).1
    simp at this
    rw [List.getElem?_take_of_lt (by omega)] at hj
    exact hj)
theorem CRow.srcR {k : Nat} (hk : k ≤ C.length) (hc : C.length ≤ cap) (c : Nat) : Src w 3 (.slice (if cap = k then some ⟨g, 0, none⟩ else some ⟨g, k * 3, none⟩) (C.length - k) c) (C.length - k) ((C.drop k).flatMap icl) := by
  by_cases hck : cap = k
  · rw [if_pos hck]
    have h0 : C.length - k = 0 := by omega
    have hd : C.drop k = [] := List.drop_eq_nil_of_le (by omega)
    rw [h0, hd]
    exact .inr ⟨_, _, rfl, rfl, fun j u hj => by simp at hj, by simp⟩
  · rw [if_neg hck]
    refine .inr ⟨_, _, rfl, by rw [bnFlatLen, List.length_drop], fun j u hj => ?_, icl_one _⟩
    rw [flat_drop, List.getElem?_drop] at hj
    have := h.row.cells (g := g) rfl (k * 3 + j) u hj
    rw [addr_add, Nat.zero_add] at this
    rw [addr_add]
    exact this
theorem CRow.cutR {k : Nat} (hk : k ≤ C.length) : Inss w (.slice (some ⟨g, 0, none⟩) k cap) (C.take k) := by
  have hl : (C.take k).length = k := by rw [List.length_take]; omega
  refine ⟨?_, fun x hx => h.wi x (List.mem_of_mem_take hx)⟩
  rw [hl]
  refine (h.inss.1.cutR hk).congr fun i hi j hj => ?_
  unfold insF
  have : (C.take k).getD i default = C.getD i default := by simp [List.getD, hi]
  rw [this]
end
/-- methods -/
theorem Mets.src {w : World} {v : Value} {L : List MetM} {p q r : Nat → Value} (h : Sl w v 4 L.length (metF L p q r)) (hr : ∀ i, i < L.length → Ints w (p i) (L.getD i default).params ∧ Ints w (q i) (L.getD i default).locals ∧ Inss w (r i) (L.getD i default).code) (h0 : 0 < L.length) :
    Src w 4 v L.length (cellsL 4 L.length (metF L p q r)) := by
  refine h.src (by omega) h0 fun i hi j hj => ?_
  obtain ⟨h1, h2, h3⟩ := hr i hi
  obtain ⟨_, _, e1, _⟩ := h1.slice
  obtain ⟨_, _, e2, _⟩ := h2.slice
  obtain ⟨_, _, e3, _⟩ := h3.slice
  unfold metF
  split
  · rw [e1]; rfl
  · split
    · rfl
    · split
      · rw [e2]; rfl
      · rw [e3]; rfl
theorem Imps.src {w : World} {v : Value} {L : List ImpM} {p : Nat → Value} (h : Sl w v 4 L.length (impF L p)) (hr : ∀ i, i < L.length → Ints w (p i) (L.getD i default).params) (h0 : 0 < L.length) :
    Src w 4 v L.length (cellsL 4 L.length (impF L p)) := by
  refine h.src (by omega) h0 fun i hi j hj => ?_
  obtain ⟨_, _, e1, _⟩ := (hr i hi).slice
  unfold impF
  split
  · rfl
  · split
    · rfl
    · split
      · rw [e1]; rfl
      · rfl
theorem cells_iv (L : List Int) : cellsL 1 L.length (fun i _ => .int .i64 (L.getD i 0)) = iv L := by
  refine List.ext_getElem (by rw [cellsL_len, iv_len]; omega) fun t h1 h2 => ?_
  simp [iv] at h2
  simp [cellsL, iv, List.getD, h2, Nat.div_one]
theorem Ints.src {w : World} {v : Value} {L : List Int} (h : Ints w v L) (h0 : 0 < L.length) : Src w 1 v L.length (iv L) := by
  rw [← cells_iv]
  exact h.1.src (by omega) h0 (fun i _ j _ => rfl)
/-- a row of own memory reads as its cells -/
theorem Sl.of_row {w : World} {e : TypeId} {v : Value} {sz n : Nat} {f : Nat → Nat → Value} (h : w.ownsRow 0 e sz v n (cellsL sz n f)) : Sl w v sz n f :=
  (Sl.own h).congr fun i hi j hj => cellsL_at hi hj
theorem row_head {w : World} {base : Nat} {e : TypeId} {size n : Nat} {v : Value} {xs : List Value} (h : w.ownsRow base e size v n xs) (h0 : 0 < n) : ∃ g cap, v = .slice (some ⟨g, 0, none⟩) n cap ∧ n ≤ cap ∧ cap ≤ maxLen ∧ g < w.heap.size := by
  rcases h.2 with ⟨_, h1⟩ | ⟨g, cap, cur, rfl, hb, hg, hc, hm, _⟩
  · omega
  · exact ⟨g, cap, rfl, hc, hm, (Array.getElem?_eq_some_iff.1 hg).1⟩
end Go.Proofs.YtkjmpobbbjljjaaDoor

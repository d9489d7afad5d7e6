/- Several texts in one. -/
import Derived.Test.YtmikibcgphkcfaaGreatDoorMq
import Derived.Test.YtmikibcgphkcfaaGreatDoorMs
/- Rows of several cells a time: as sources of an append, with a cell put, cut at either end; instructions and methods among them. -/
namespace Go.Proofs.YtmikibcgphkcfaaGreatDoor
open Go.RowKit Go.Lib
set_option linter.unusedVariables false

def cellsL (sz n : Nat) (f : Nat → Nat → Value) : List Value := (List.range (n * sz)).map (fun t => f (t / sz) (t % sz))
theorem cellsL_len (sz n : Nat) (f : Nat → Nat → Value) : (cellsL sz n f).length = n * sz := by simp [cellsL]
theorem cellsL_get {sz n t : Nat} {f : Nat → Nat → Value} (ht : t < n * sz) : (cellsL sz n f)[t]? = some (f (t / sz) (t % sz)) := by simp [cellsL, ht]
theorem cellsL_at {sz n i j : Nat} {f : Nat → Nat → Value} {d : Value} (hi : i < n) (hj : j < sz) : (cellsL sz n f).getD (i * sz + j) d = f i j := by
  have h : i * sz + j < n * sz := by
    have : (i + 1) * sz ≤ n * sz := Nat.mul_le_mul_right _ hi
    rw [Nat.add_mul] at this
    omega
  have h1 : (i * sz + j) / sz = i := by rw [Nat.mul_comm, Nat.mul_add_div (by omega), Nat.div_eq_of_lt hj, Nat.add_zero]
  have h2 : (i * sz + j) % sz = j := by rw [Nat.mul_comm, Nat.mul_add_mod, Nat.mod_eq_of_lt hj]
  rw [List.getD, cellsL_get h, h1, h2]
  rfl
section
variable {w w' : World} {v : Value} {sz n : Nat} {f : Nat → Nat → Value}
theorem src_cells {g off c : Nat} (hsz : 0 < sz) (h : ∀ i, i < n → ∀ j, j < sz → w.cell? ⟨g, off + i * sz + j, none⟩ = some (f i j)) (h1 : ∀ i, i < n → ∀ j, j < sz → (f i j).oneCell' = true) :
    Src w sz (.slice (some ⟨g, off, none⟩) n c) n (cellsL sz n f) := by
  refine .inr ⟨_, _, rfl, cellsL_len _ _ _, fun t u ht => ?_, fun u hu => ?_⟩
  · have hlt : t < n * sz := by
      have := (List.getElem?_eq_some_iff.1 ht).1
      rwa [cellsL_len] at this
    rw [cellsL_get hlt] at ht
    simp at ht
    subst ht
    rw [addr_add]
    have hi : t / sz < n := Nat.div_lt_of_lt_mul (by rw [Nat.mul_comm]; exact hlt)
    have := h (t / sz) hi (t % sz) (Nat.mod_lt _ hsz)
    rw [show off + t / sz * sz + t % sz = off + t by rw [Nat.add_assoc, Nat.div_add_mod']] at this
    exact this
  · obtain ⟨t, ht, rfl⟩ := List.mem_map.1 hu
    have hlt := List.mem_range.1 ht
    exact h1 _ (Nat.div_lt_of_lt_mul (by rw [Nat.mul_comm]; exact hlt)) _ (Nat.mod_lt _ hsz)
theorem Sl.src (hsz : 0 < sz) (h0 : 0 < n) (h : Sl w v sz n f) (h1 : ∀ i, i < n → ∀ j, j < sz → (f i j).oneCell' = true) : Src w sz v n (cellsL sz n f) := by
  obtain ⟨a, c, rfl, _, _, h3⟩ := h
  rcases h3 with h3 | ⟨g, off, rfl, h4⟩
  · omega
  · exact src_cells hsz h4 h1
theorem place_inj {off i j k l : Nat} (hj : j < sz) (hl : l < sz) (h : off + i * sz + j = off + k * sz + l) : i = k ∧ j = l := by
  have e : i * sz + j = k * sz + l := by omega
  have h1 : (i * sz + j) / sz = i := by rw [Nat.mul_comm, Nat.mul_add_div (by omega), Nat.div_eq_of_lt hj, Nat.add_zero]
  have h2 : (k * sz + l) / sz = k := by rw [Nat.mul_comm, Nat.mul_add_div (by omega), Nat.div_eq_of_lt hl, Nat.add_zero]
  have h3 : i = k := by rw [← h1, e, h2]
  subst h3
  exact ⟨rfl, by omega⟩
theorem Sl.put {g off c k l : Nat} (h : Sl w (.slice (some ⟨g, off, none⟩) n c) sz n f) (hk : k < n) (hl : l < sz) (u : Value) :
    Sl (w.setCell ⟨g, off + k * sz + l, none⟩ u) (.slice (some ⟨g, off, none⟩) n c) sz n (fun i j => if i = k ∧ j = l then u else f i j) := by
  obtain ⟨a, c', he, h1, h2, h3⟩ := h
  simp at he
  obtain ⟨rfl, rfl⟩ := he
  refine ⟨_, c, rfl, h1, h2, ?_⟩
  rcases h3 with h3 | ⟨g', off', he, h4⟩
  · exact .inl h3
  · simp at he
    obtain ⟨rfl, rfl⟩ := he
    refine .inr ⟨g, off, rfl, fun i hi j hj => ?_⟩
    by_cases hij : i = k ∧ j = l
    · obtain ⟨rfl, rfl⟩ := hij
      show _ = some (if i = i ∧ j = j then u else f i j)
      rw [if_pos ⟨rfl, rfl⟩]
      exact World.cell?_setCell_same _ _ _ (h4 i hi j hj)
    · show _ = some (if i = k ∧ j = l then u else f i j)
      rw [if_neg hij, World.cell?_setCell_other, h4 i hi j hj]
      intro e
      simp at e
      have := place_inj (off := off) (sz := sz) (i := i) (k := k) hj hl (by omega)
      exact hij this
theorem Sl.cutR {a : Option Addr} {c k : Nat} (h : Sl w (.slice a n c) sz n f) (hk : k ≤ n) : Sl w (.slice a k c) sz k f := by
  obtain ⟨a', c', he, h1, h2, h3⟩ := h
  simp at he
  obtain ⟨rfl, rfl⟩ := he
  refine ⟨_, _, rfl, by omega, h2, ?_⟩
  rcases h3 with h3 | ⟨g, off, rfl, h4⟩
  · exact .inl (by omega)
  · exact .inr ⟨g, off, rfl, fun i hi j hj => h4 i (by omega) j hj⟩
theorem Sl.cutL {a : Option Addr} {c k : Nat} (h : Sl w (.slice a n c) sz n f) (hk : k ≤ n) : Sl w (.slice (if c = k then a else a.map (·.add (k * sz))) (n - k) (c - k)) sz (n - k) (fun i j => f (i + k) j) := by
  obtain ⟨a', c', he, h1, h2, h3⟩ := h
  simp at he
  obtain ⟨rfl, rfl⟩ := he
  refine ⟨_, _, rfl, by omega, by omega, ?_⟩
  rcases h3 with h3 | ⟨g, off, rfl, h4⟩
  · exact .inl (by omega)
  · by_cases h0 : n - k = 0
    · exact .inl h0
    · rw [if_neg (by omega)]
      refine .inr ⟨g, off + k * sz, by simp [addr_add], fun i hi j hj => ?_⟩
      have := h4 (i + k) (by omega) j hj
      rw [Nat.add_mul] at this
      rw [show off + k * sz + i * sz + j = off + (i * sz + k * sz) + j by omega]
      exact this
end
/-- instructions -/
theorem bnFlatTake (C : List InsM) (k : Nat) : (C.take k).flatMap icl = (C.flatMap icl).take (k * 3) := by
  induction C generalizing k with
  | nil => simp
  | cons x C ih =>
    cases k with
    | zero => simp
    | succ k => rw [show (k + 1) * 3 = k * 3 + 1 + 1 + 1 by omega]; simp [icl, ih]
theorem flat_drop (C : List InsM) (k : Nat) : (C.drop k).flatMap icl = (C.flatMap icl).drop (k * 3) := by
  induction C generalizing k with
  | nil => simp
  | cons x C ih =>
    cases k with
    | zero => simp
    | succ k => rw [show (k + 1) * 3 = k * 3 + 1 + 1 + 1 by omega]; simp [icl, ih]
theorem bnFlatLen (C : List InsM) : (C.flatMap icl).length = C.length * 3 := by
  induction C with
  | nil => rfl
  | cons x C ih => simp [icl, ih]; omega
theorem icl_one (C : List InsM) : ∀ u ∈ C.flatMap icl, u.oneCell' = true := by
  intro u hu
  obtain ⟨x, _, hx⟩ := List.mem_flatMap.1 hu
  simp [icl] at hx
  rcases hx with rfl | rfl | rfl <;> rfl
theorem cells_icl (C : List InsM) : cellsL 3 C.length (insF C) = C.flatMap icl := by
  refine List.ext_getElem (by rw [cellsL_len, bnFlatLen]) fun t h1 h2 => ?_
  rw [cellsL_len] at h1
  have e := flat_get icl 3 (.int .i64 0) (fun _ => rfl) C (t / 3) (t % 3) (by omega) (Nat.mod_lt _ (by omega))
  rw [show t / 3 * 3 + t % 3 = t by omega] at e
  have e2 : (C.flatMap icl).getD t (.int .i64 0) = (C.flatMap icl)[t] := by rw [List.getD, List.getElem?_eq_getElem h2]; rfl
  rw [← e2, e]
  simp only [cellsL, List.getElem_map, List.getElem_range]
  unfold insF icl
  rcases (by omega : t % 3 = 0 ∨ t % 3 = 1 ∨ t % 3 = 2) with h | h | h <;> rw [h] <;> rfl
theorem Inss.src {w : World} {v : Value} {C : List InsM} (h : Inss w v C) (h0 : 0 < C.length) : Src w 3 v C.length (C.flatMap icl) := by
  rw [← cells_icl]
  exact h.1.src (by omega) h0 (fun i _ j _ => rfl)
theorem CRow.head {w : World} {v : Value} {C : List InsM} (h : CRow w v C) (h0 : 0 < C.length) : ∃ g cap, v = .slice (some ⟨g, 0, none⟩) C.length cap ∧ C.length ≤ cap ∧ cap ≤ maxLen ∧ g < w.heap.size := by
  rcases h.row.2 with ⟨_, h1⟩ | ⟨g, cap, cur, rfl, hb, hg, hc, hm, _⟩
  · omega
  · exact ⟨g, cap, rfl, hc, hm, (Array.getElem?_eq_some_iff.1 hg).1⟩
theorem CRow.cell {w : World} {g cap : Nat} {C : List InsM} (h : CRow w (.slice (some ⟨g, 0, none⟩) C.length cap) C) {k : Nat} (hk : k < C.length) :
    w.cell? ⟨g, k * 3, none⟩ = some (.int .i64 (C.getD k default).op) ∧ w.cell? ⟨g, k * 3 + 1, none⟩ = some (.int .i64 (C.getD k default).a) ∧ w.cell? ⟨g, k * 3 + 2, none⟩ = some (.int .i64 (C.getD k default).b) := by
  obtain ⟨g', off, he, c0, c1, c2, _⟩ := h.inss.at hk
  simp at he
  obtain ⟨rfl, rfl⟩ := he
  rw [Nat.zero_add] at c0 c1 c2
  exact ⟨c0, c1, c2⟩
theorem row_thaw {w : World} {base : Nat} {e : TypeId} {size g n cap : Nat} {xs : List Value} (h : w.ownsRow base e size (.slice (some ⟨g, 0, none⟩) n cap) n xs) (q : Nat) : w.frozen? ⟨g, q, none⟩ = false := by
  obtain ⟨hl, h⟩ := h
  rcases h with ⟨h, _⟩ | ⟨g', cap', cur, he, hb, hg, hc, hm, hcs, ht⟩
  · simp at h
  · simp at he
    obtain ⟨rfl, rfl⟩ := he
    simp [World.frozen?, hg]
theorem icl_set0 (C : List InsM) (k : Nat) (hk : k < C.length) (u : Int) : (C.set k ⟨u, (C.getD k default).a, (C.getD k default).b⟩).flatMap icl = (C.flatMap icl).set (k * 3) (.int .i64 u) := by
  induction C generalizing k with
  | nil => simp at hk
  | cons x C ih =>
    cases k with
    | zero => simp [icl]
    | succ k =>
      have := ih k (by simpa using hk)
      rw [show (k + 1) * 3 = k * 3 + 3 by omega]
      simp [icl, List.set] at this ⊢
      exact this
theorem icl_set2 (C : List InsM) (k : Nat) (hk : k < C.length) (u : Int) : (C.set k ⟨(C.getD k default).op, (C.getD k default).a, u⟩).flatMap icl = (C.flatMap icl).set (k * 3 + 2) (.int .i64 u) := by
  induction C generalizing k with
  | nil => simp at hk
  | cons x C ih =>
    cases k with
    | zero => simp [icl]
    | succ k =>
      have := ih k (by simpa using hk)
      rw [show (k + 1) * 3 + 2 = k * 3 + 2 + 3 by omega]
      simp [icl, List.set] at this ⊢
      exact this
section
variable {w : World} {g cap : Nat} {C : List InsM} (h : CRow w (.slice (some ⟨g, 0, none⟩) C.length cap) C) {k : Nat} (hk : k < C.length)
include h hk
theorem CRow.setOp (u : Int) (hu : wi64 u) : CRow (w.setCell ⟨g, k * 3, none⟩ (.int .i64 u)) (.slice (some ⟨g, 0, none⟩) C.length cap) (C.set k ⟨u, (C.getD k default).a, (C.getD k default).b⟩) := by
  refine ⟨?_, fun x hx => ?_⟩
  · rw [icl_set0 C k hk u, List.length_set]
    exact ownsRow_set h.row _ _
  · rcases List.mem_or_eq_of_mem_set hx with h1 | rfl
    · exact h.wi x h1
    · have := h.wi _ (mem_getD hk)
      exact ⟨hu, this.2⟩
theorem CRow.setB (u : Int) (hu : wi64 u) : CRow (w.setCell ⟨g, k * 3 + 2, none⟩ (.int .i64 u)) (.slice (some ⟨g, 0, none⟩) C.length cap) (C.set k ⟨(C.getD k default).op, (C.getD k default).a, u⟩) := by
  refine ⟨?_, fun x hx => ?_⟩
  · rw [icl_set2 C k hk u, List.length_set]
    exact ownsRow_set h.row _ _
  · rcases List.mem_or_eq_of_mem_set hx with h1 | rfl
    · exact h.wi x h1
    · have := h.wi _ (mem_getD hk)
      exact ⟨this.1, this.2.1, hu⟩
theorem CRow.setAll (x y z : Int) (hx : wi64 x) (hy : wi64 y) (hz : wi64 z) : ∃ C', C'.length = C.length ∧ CRow (((w.setCell ⟨g, k * 3, none⟩ (.int .i64 x)).setCell ⟨g, k * 3 + 1, none⟩ (.int .i64 y)).setCell ⟨g, k * 3 + 2, none⟩ (.int .i64 z)) (.slice (some ⟨g, 0, none⟩) C.length cap) C' := by
  obtain ⟨C1, l1, h1⟩ : ∃ C', C'.length = C.length ∧ CRow (w.setCell ⟨g, k * 3, none⟩ (.int .i64 x)) (.slice (some ⟨g, 0, none⟩) C'.length cap) C' := ⟨_, List.length_set, by rw [List.length_set]; exact h.setOp hk x hx⟩
  obtain ⟨C2, l2, h2⟩ : ∃ C', C'.length = C.length ∧ CRow ((w.setCell ⟨g, k * 3, none⟩ (.int .i64 x)).setCell ⟨g, k * 3 + 1, none⟩ (.int .i64 y)) (.slice (some ⟨g, 0, none⟩) C'.length cap) C' := ⟨_, List.length_set.trans l1, by rw [List.length_set]; exact h1.setA k (by omega) y hy⟩
  have h3 := h2.setB (k := k) (by omega) z hz
  rw [l2] at h3
  exact ⟨_, by rw [List.length_set, l2], h3⟩
end
section
variable {w : World} {g cap : Nat} {C : List InsM} (h : CRow w (.slice (some ⟨g, 0, none⟩) C.length cap) C)
include h
theorem CRow.srcL {k : Nat} (hk : k ≤ C.length) (c : Nat) : Src w 3 (.slice (some ⟨g, 0, none⟩) k c) k ((C.take k).flatMap icl) := by
  refine .inr ⟨_, _, rfl, by rw [bnFlatLen, List.length_take]; omega, fun j u hj => ?_, icl_one _⟩
  rw [bnFlatTake] at hj
  exact h.row.cells (g := g) rfl j u (by
    have := (List.getElem?_eq_some_iff.1 hj).1
    simp at this
    rw [List.getElem?_take_of_lt (by omega)] at hj
    exact hj)
theorem CRow.srcR {k : Nat} (hk : k ≤ C.length) (hc : C.length ≤ cap) (c : Nat) : Src w 3 (.slice (if cap = k then some ⟨g, 0, none⟩ else some ⟨g, k * 3, none⟩) (C.length - k) c) (C.length - k) ((C.drop k).flatMap icl) := by
  by_cases hck : cap = k
  · rw [if_pos hck]
    have h0 : C.length - k = 0 := by omega
    have hd : C.drop k = [] := List.drop_eq_nil_of_le (by omega)
    rw [h0, hd]
    exact .inr ⟨_, _, rfl, rfl, fun j u hj => by simp at hj, by simp⟩
  · rw [if_neg hck]
    refine .inr ⟨_, _, rfl, by rw [bnFlatLen, List.length_drop], fun j u hj => ?_, icl_one _⟩
    rw [flat_drop, List.getElem?_drop] at hj
    have := h.row.cells (g := g) rfl (k * 3 + j) u hj
    rw [addr_add, Nat.zero_add] at this
    rw [addr_add]
    exact this
theorem CRow.cutR {k : Nat} (hk : k ≤ C.length) : Inss w (.slice (some ⟨g, 0, none⟩) k cap) (C.take k) := by
  have hl : (C.take k).length = k := by rw [List.length_take]; omega
  refine ⟨?_, fun x hx => h.wi x (List.mem_of_mem_take hx)⟩
  rw [hl]
  refine (h.inss.1.cutR hk).congr fun i hi j hj => ?_
  unfold insF
  have : (C.take k).getD i default = C.getD i default := by simp [List.getD, hi]
  rw [this]
end
/-- methods -/
theorem Mets.src {w : World} {v : Value} {L : List MetM} {p q r : Nat → Value} (h : Sl w v 4 L.length (metF L p q r)) (hr : ∀ i, i < L.length → Ints w (p i) (L.getD i default).params ∧ Ints w (q i) (L.getD i default).locals ∧ Inss w (r i) (L.getD i default).code) (h0 : 0 < L.length) :
    Src w 4 v L.length (cellsL 4 L.length (metF L p q r)) := by
  refine h.src (by omega) h0 fun i hi j hj => ?_
  obtain ⟨h1, h2, h3⟩ := hr i hi
  obtain ⟨_, _, e1, _⟩ := h1.slice
  obtain ⟨_, _, e2, _⟩ := h2.slice
  obtain ⟨_, _, e3, _⟩ := h3.slice
  unfold metF
  split
  · rw [e1]; rfl
  · split
    · rfl
    · split
      · rw [e2]; rfl
      · rw [e3]; rfl
theorem Imps.src {w : World} {v : Value} {L : List ImpM} {p : Nat → Value} (h : Sl w v 4 L.length (impF L p)) (hr : ∀ i, i < L.length → Ints w (p i) (L.getD i default).params) (h0 : 0 < L.length) :
    Src w 4 v L.length (cellsL 4 L.length (impF L p)) := by
  refine h.src (by omega) h0 fun i hi j hj => ?_
  obtain ⟨_, _, e1, _⟩ := (hr i hi).slice
  unfold impF
  split
  · rfl
  · split
    · rfl
    · split
      · rw [e1]; rfl
      · rfl
theorem cells_iv (L : List Int) : cellsL 1 L.length (fun i _ => .int .i64 (L.getD i 0)) = iv L := by
  refine List.ext_getElem (by rw [cellsL_len, iv_len]; omega) fun t h1 h2 => ?_
  simp [iv] at h2
  simp [cellsL, iv, List.getD, h2, Nat.div_one]
theorem Ints.src {w : World} {v : Value} {L : List Int} (h : Ints w v L) (h0 : 0 < L.length) : Src w 1 v L.length (iv L) := by
  rw [← cells_iv]
  exact h.1.src (by omega) h0 (fun i _ j _ => rfl)
/-- a row of own memory reads as its cells -/
theorem Sl.of_row {w : World} {e : TypeId} {v : Value} {sz n : Nat} {f : Nat → Nat → Value} (h : w.ownsRow 0 e sz v n (cellsL sz n f)) : Sl w v sz n f :=
  (Sl.own h).congr fun i hi j hj => cellsL_at hi hj
theorem row_head {w : World} {base : Nat} {e : TypeId} {size n : Nat} {v : Value} {xs : List Value} (h : w.ownsRow base e size v n xs) (h0 : 0 < n) : ∃ g cap, v = .slice (some ⟨g, 0, none⟩) n cap ∧ n ≤ cap ∧ cap ≤ maxLen ∧ g < w.heap.size := by
  rcases h.2 with ⟨_, h1⟩ | ⟨g, cap, cur, rfl, hb, hg, hc, hm, _⟩
  · omega
  · exact ⟨g, cap, rfl, hc, hm, (Array.getElem?_eq_some_iff.1 hg).1⟩
end Go.Proofs.YtmikibcgphkcfaaGreatDoor
/- The hand's Bent: an applet with something turned reads as some applet. -/
namespace Go.Proofs.YtmikibcgphkcfaaGreatDoor
open Go.RowKit Go.Lib
set_option linter.unusedVariables false
set_option linter.unusedSimpArgs false

theorem hPickN (n m : Int) (w : World) (hm : 1 ≤ m) (hm2 : m ≤ 9223372036854775807) :
    Calls Tryz.prog 6 #[.int .i64 n, .int .i64 m] w fun e w' => ∃ k : Nat, e = .returned (.int .i64 k) ∧ (k : Int) < m ∧ w = w' := by
  refine (hPick n m w hm hm2).mono fun e w' ⟨h1, h2⟩ => ?_
  have h3 := Int.emod_nonneg n (b := m) (by omega)
  have h4 := Int.emod_lt_of_pos n (b := m) (by omega)
  exact ⟨(n % m).toNat, by rw [h1]; congr 2; omega, by omega, h2⟩
theorem Img.parts {w : World} {v : Value} {I : ImgM} (h : Img w v I) : ∃ fa fc ia ic ma mc xa xc, v = img5 I.name (.slice fa I.fields.length fc) (.slice ia I.imports.length ic) (.slice ma I.methods.length mc) (.slice xa I.exports.length xc) ∧
    Ints w (.slice fa I.fields.length fc) I.fields ∧ Imps w (.slice ia I.imports.length ic) I.imports ∧ Mets w (.slice ma I.methods.length mc) I.methods ∧ Ints w (.slice xa I.exports.length xc) I.exports ∧ I.name.size ≤ maxLen := by
  obtain ⟨f, i, m, x, rfl, hf, hi, hm, hx, hsz⟩ := h
  obtain ⟨fa, fc, rfl, -, -⟩ := hf.slice
  obtain ⟨ia, ic, rfl, -, -⟩ := hi.slice
  obtain ⟨ma, mc, rfl, -, -⟩ := hm.slice
  obtain ⟨xa, xc, rfl, -, -⟩ := hx.slice
  exact ⟨fa, fc, ia, ic, ma, mc, xa, xc, rfl, hf, hi, hm, hx, hsz⟩

theorem bnEmpty (w : World) (e : TypeId) (sz g : Nat) (hg : g = w.heap.size) : (w.alloc (.cells #[] e)).ownsRow 0 e sz (.slice (some ⟨g, 0, none⟩) 0 0) 0 [] := by
  subst hg
  refine ⟨by simp, .inr ⟨w.heap.size, 0, #[], rfl, Nat.zero_le _, ?_, Nat.le_refl _, by unfold maxLen; omega, by simp, by simp⟩⟩
  show (w.heap.push _)[w.heap.size]? = _
  simp
theorem bnFresh {w wa w1 : World} {g : Nat} {v v' : Value} (hg : g = w.heap.size) (hw : wa.heap.size = w.heap.size + 1) (hv : ∀ k, v.ownBlock = some k → k = g) (hf : Fresh wa v v') : ∀ k, v'.ownBlock = some k → w.heap.size ≤ k := by
  intro k hk
  rcases hf k hk with h | h
  · have := hv k h; omega
  · omega
theorem Inss.upd {w w' : World} {v : Value} {C : List InsM} {S : Nat → Prop} (h : Inss w v C) (hu : Upd S w w') (hS : ∀ k, v.ownBlock = some k → ¬ S k) : Inss w' v C := ⟨h.1.upd hu hS, h.2⟩
theorem cells_at {w : World} {g : Nat} {C : Array Value} {e : TypeId} {fr : Nat × Nat} (h : w.heap[g]? = some (.cells C e fr)) (j : Nat) (x : Value) (hx : C[j]? = some x) : w.cell? ⟨g, j, none⟩ = some x := by
  show (match w.heap[g]? with | some (.cells c _ _) => _ | _ => _) = _
  rw [h]
  simpa using hx
theorem cells_fr {w : World} {g : Nat} {C : Array Value} {e : TypeId} (h : w.heap[g]? = some (.cells C e (0, 0))) (j : Nat) : w.frozen? ⟨g, j, none⟩ = false := by simp [World.frozen?, h]
theorem blk_top' (w : World) (o : Obj) (k : Nat) (h : k = w.heap.size) : (w.alloc o).heap[k]? = some o := by
  subst h
  show (w.heap.push _)[w.heap.size]? = _
  simp
theorem set_keep {w : World} {p : Addr} {v : Value} {g : Nat} {o : Obj} (h : w.heap[g]? = some o) (hne : p.block ≠ g) : (w.setCell p v).heap[g]? = some o := by
  rw [Below.heap_setCell _ _ _ _ (fun e => hne e.symm)]; exact h

theorem setAt (w : World) (g q : Nat) (v : Value) : Upd (fun j => j = g) w (w.setCell ⟨g, q, none⟩ v) := Upd.setCell (S := fun j => j = g) w (p := ⟨g, q, none⟩) (.inl rfl) v
theorem bnBelow {w w' : World} (h : Upd (fun _ => False) w w') : Below w.heap.size w w' := h.below (Nat.le_refl _) (fun _ h => h.elim)
theorem bnNext {w4 WA w' : World} {v v' : Value} (hU : Upd (fun _ => False) w4 WA) (hv : ∀ k, v.ownBlock = some k → w4.heap.size ≤ k) (hg : WA.grownBy w' v.ownBlock) (hf : Fresh WA v v') : Upd (fun _ => False) w4 w' ∧ ∀ k, v'.ownBlock = some k → w4.heap.size ≤ k :=
  ⟨hU.trans (Upd.grown (S := fun k => w4.heap.size ≤ k) hg (fun k hk => .inl (hv k hk))) (fun k hk hl => by omega), fun k hk => by
    rcases hf k hk with h | h
    · exact hv k h
    · have := hU.size; omega⟩
theorem wpOp_mk {P : Program} {ops : Array Oper} {Q : Exit → Act → World → Prop} {i : Nat} {o : Oper} {K : Act → World → Prop} {a : Act} {w : World} (ho : ops[i]? = some o)
    (h : if Region.wanted o (yielded ops a.tmps) = true then Oper.wp P o a w K Q else K (a.put o.dst undef) w) : wpOp P ops Q i K a w := by
  unfold wpOp
  simp only [ho]
  split
  · rename_i hw
    rw [if_pos hw] at h
    exact .inl h
  · rename_i hw
    rw [if_neg hw] at h
    exact h
/-- two may come up: either is carried out -/
theorem wpHL_two {P : Program} {ops : Array Oper} {Q : Exit → Act → World → Prop} {md : Region.Mode} {S : World → Prop} {n i j : Nat} {oi oj : Oper} {L : Array Bool → Act → World → Prop} {f : Nat} {listed : Array Bool} {a : Act} {w : World} (hoi : ops[i]? = some oi) (hoj : ops[j]? = some oj) (hr : Region.ready md ops listed = [i, j]) (hin : i < n) (hjn : j < n)
    (h1 : ∀ K : Act → World → Prop, (∀ a' w', S w' → wpHL P md ops Q S n L f (listed.setIfInBounds i true) a' w' → K a' w') → if Region.wanted oi (yielded ops a.tmps) = true then Oper.wp P oi a w K Q else K (a.put oi.dst undef) w)
    (h2 : ∀ K : Act → World → Prop, (∀ a' w', S w' → wpHL P md ops Q S n L f (listed.setIfInBounds j true) a' w' → K a' w') → if Region.wanted oj (yielded ops a.tmps) = true then Oper.wp P oj a w K Q else K (a.put oj.dst undef) w) : wpHL P md ops Q S n L (f + 1) listed a w := by
  refine ⟨by rw [hr]; simp, fun k hk => ?_⟩
  rw [hr] at hk
  simp at hk
  rcases hk with rfl | rfl
  · exact ⟨hin, wpOp_mk hoi (h1 _ (fun a' w' g1 g2 => ⟨g1, g2⟩))⟩
  · exact ⟨hjn, wpOp_mk hoj (h2 _ (fun a' w' g1 g2 => ⟨g1, g2⟩))⟩
theorem set_blk {w : World} {g j : Nat} {v : Value} {C : Array Value} {e : TypeId} {fr : Nat × Nat} (h : w.heap[g]? = some (.cells C e fr)) : (w.setCell ⟨g, j, none⟩ v).heap[g]? = some (.cells (C.setIfInBounds j v) e fr) := by
  simp [World.setCell, Array.getElem?_modify, h]
theorem set_code {L : List MetM} {k i : Nat} {C : List InsM} (hi : i < L.length) : (L.set k { L.getD k default with code := C }).getD i default = if i = k then { L.getD k default with code := C } else L.getD i default := by
  by_cases h : i = k
  · subst h
    rw [if_pos rfl]
    simp [List.getD, hi]
  · rw [if_neg h]
    simp [List.getD, List.getElem?_set, Ne.symm h]
theorem bent_end {w w4 : World} {I : ImgM} {gm gc capm k : Nat} {fa ia ma xa : Option Addr} {fc ic mc xc : Nat} {p q r : Nat → Value} (hk : k < I.methods.length) (b1 : gm ≠ w.heap.size) (b2 : gm ≠ w.heap.size + 1) (b3 : gc ≠ w.heap.size) (b4 : gc ≠ w.heap.size + 1) (b5 : gc ≠ gm) (b6 : gc < w4.heap.size) (b7 : gm < w4.heap.size) (b8 : w.heap.size ≤ gm) (b9 : w.heap.size ≤ gc)
    (hO : w4.ownsRow 0 39 4 (.slice (some ⟨gm, 0, none⟩) I.methods.length capm) I.methods.length (cellsL 4 I.methods.length (metF I.methods p q r)))
    (hB : w4.heap[w.heap.size]? = some (.cells #[.string I.name, .slice fa I.fields.length fc, .slice ia I.imports.length ic, .slice ma I.methods.length mc, .slice xa I.exports.length xc] 27 (0, 0))) (hZ : w4.heap[w.heap.size + 1]? = some (.cells #[.string { data := #[] }, .slice none 0 0, .slice none 0 0, .slice none 0 0, .slice none 0 0] 27 (0, 0)))
    (hRW : ∀ i, i < I.methods.length → Ints w (p i) (I.methods.getD i default).params ∧ Ints w (q i) (I.methods.getD i default).locals ∧ Inss w (r i) (I.methods.getD i default).code)
    (hres : ∀ m ∈ I.methods, wi64 m.res) (hf : Ints w (.slice fa I.fields.length fc) I.fields) (hi : Imps w (.slice ia I.imports.length ic) I.imports) (hx : Ints w (.slice xa I.exports.length xc) I.exports) (hs : I.name.size ≤ maxLen) (hu : Upd (fun _ => False) w w4) :
    ∀ (wr : World) (ca : Option Addr) (nn cc : Nat) (C' : List InsM), Upd (fun j => j = gc) w4 wr → Inss wr (.slice ca nn cc) C' → (∀ j, (Value.slice ca nn cc).ownBlock = some j → j = gc ∨ w4.heap.size ≤ j) →
      (∃ z, wr.cell? ⟨gm, k * 4 + 3, none⟩ = some z) ∧ wr.frozen? ⟨gm, k * 4 + 3, none⟩ = false ∧
      (wr.setCell ⟨gm, k * 4 + 3, none⟩ (.slice ca nn cc)).heap[w.heap.size]? = some (.cells #[.string I.name, .slice fa I.fields.length fc, .slice ia I.imports.length ic, .slice ma I.methods.length mc, .slice xa I.exports.length xc] 27 (0, 0)) ∧ (wr.setCell ⟨gm, k * 4 + 3, none⟩ (.slice ca nn cc)).heap[w.heap.size + 1]? = some (.cells #[.string { data := #[] }, .slice none 0 0, .slice none 0 0, .slice none 0 0, .slice none 0 0] 27 (0, 0)) ∧
      (∀ w', Upd (fun j => j = w.heap.size + 1) ((wr.setCell ⟨gm, k * 4 + 3, none⟩ (.slice ca nn cc)).setCell ⟨w.heap.size, 3, none⟩ (.slice (some ⟨gm, 0, none⟩) I.methods.length capm)) w' →
        Img w' (img5 I.name (.slice fa I.fields.length fc) (.slice ia I.imports.length ic) (.slice (some ⟨gm, 0, none⟩) I.methods.length capm) (.slice xa I.exports.length xc)) { I with methods := I.methods.set k { I.methods.getD k default with code := C' } } ∧ Upd (fun _ => False) w w') := by
  intro wr ca nn cc C' hur hI hfx
  have hOr := ownsRow_upd hO hur (fun j hj h => by simp [Value.ownBlock] at hj; omega)
  have hSr := Sl.of_row hOr
  obtain ⟨g', off, he, hat⟩ := hSr.at hk
  simp at he
  obtain ⟨rfl, rfl⟩ := he
  have h3 := hat 3 (by omega)
  rw [Nat.zero_add] at h3
  have hBr := (hur.block w.heap.size (by have := hu.size; have := Array.getElem?_eq_some_iff.1 hB; obtain ⟨h, _⟩ := this; exact h) (fun h => b3 h.symm)).trans hB
  have hZr := (hur.block (w.heap.size + 1) (by have := Array.getElem?_eq_some_iff.1 hZ; obtain ⟨h, _⟩ := this; exact h) (fun h => b4 h.symm)).trans hZ
  refine ⟨⟨_, h3⟩, row_thaw hOr _, set_keep hBr b1, set_keep hZr b2, fun w' hw' => ?_⟩
  have hA : Upd (fun j => j = gm) wr (wr.setCell ⟨gm, k * 4 + 3, none⟩ (.slice ca nn cc)) := setAt _ _ _ _
  have hAB : Upd (fun j => j = w.heap.size) (wr.setCell ⟨gm, k * 4 + 3, none⟩ (.slice ca nn cc)) ((wr.setCell ⟨gm, k * 4 + 3, none⟩ (.slice ca nn cc)).setCell ⟨w.heap.size, 3, none⟩ (.slice (some ⟨gm, 0, none⟩) I.methods.length capm)) := setAt _ _ _ _
  have hBW : Upd (fun j => j = w.heap.size ∨ j = w.heap.size + 1) (wr.setCell ⟨gm, k * 4 + 3, none⟩ (.slice ca nn cc)) w' := (hAB.mono (fun i h _ => .inl h)).trans hw' (fun i h _ => .inr h)
  have hALL : Upd (fun j => j = gm ∨ j = w.heap.size ∨ j = w.heap.size + 1) wr w' := (hA.mono (fun i h _ => .inl h)).trans hBW (fun i h _ => .inr h)
  have hU : Upd (fun _ => False) w w' := (hu.trans hur (fun i h hl => by omega)).trans hALL (fun i h hl => by omega)
  have hb := bnBelow hU
  refine ⟨⟨_, _, _, _, rfl, hf.later hb, hi.later hb, ⟨p, q, fun i => if i = k then .slice ca nn cc else r i, ?_, fun i hi' => ?_, fun m hm => ?_⟩, hx.later hb, hs⟩, hU⟩
  · have h5 := hSr.put (k := k) (l := 3) hk (by omega) (.slice ca nn cc)
    rw [Nat.zero_add] at h5
    have h6 := (h5.upd hBW (fun j hj h => by simp [Value.ownBlock] at hj; omega)).congr (f' := metF (I.methods.set k { I.methods.getD k default with code := C' }) p q (fun i => if i = k then .slice ca nn cc else r i)) (fun i hi' j hj => by
      unfold metF
      rw [set_code hi']
      by_cases hik : i = k
      · subst hik
        match j, hj with
        | 0, _ => simp
        | 1, _ => simp
        | 2, _ => simp
        | 3, _ => simp
      · simp [hik])
    show Sl w' _ 4 (I.methods.set k _).length _
    rw [List.length_set]
    exact h6
  · simp only [List.length_set] at hi'
    rw [set_code hi']
    obtain ⟨g1, g2, g3⟩ := hRW i hi'
    by_cases hik : i = k
    · rw [if_pos hik]
      show Ints w' (p i) _ ∧ Ints w' (q i) _ ∧ Inss w' (if i = k then .slice ca nn cc else r i) _
      rw [if_pos hik]
      subst hik
      exact ⟨g1.later hb, g2.later hb, hI.upd hALL (fun j hj h => by
        rcases hfx j hj with h1 | h1
        · omega
        · have := Array.getElem?_eq_some_iff.1 hZ; obtain ⟨h2, _⟩ := this; omega)⟩
    · rw [if_neg hik]
      show Ints w' (p i) _ ∧ Ints w' (q i) _ ∧ Inss w' (if i = k then .slice ca nn cc else r i) _
      rw [if_neg hik]
      exact ⟨g1.later hb, g2.later hb, g3.later hb⟩
  · simp only at hm
    rcases List.mem_or_eq_of_mem_set hm with h1 | rfl
    · exact hres m h1
    · exact hres (I.methods.getD k default) (mem_getD hk)
set_option maxRecDepth 100000 in
set_option maxHeartbeats 8000000 in
theorem hBent (w : World) (v : Value) (I : ImgM) (how at' by' : Int) (h : Img w v I) (hn0 : 0 < I.methods.length) (hn8 : I.methods.length ≤ 8) (hc : ∀ m ∈ I.methods, 0 < m.code.length ∧ m.code.length ≤ 100000000) (wh : wi64 how) (wa : wi64 at') (wb : wi64 by') :
    Calls Tryz.prog 4 #[v, .int .i64 how, .int .i64 at', .int .i64 by'] w fun e w' => ∃ v' M, e = .returned v' ∧ Img w' v' { I with methods := M } ∧ M.length = I.methods.length ∧ Upd (fun _ => False) w w' := by
  obtain ⟨i0, hi, hz0, hz1, hz2⟩ := info_parts infoMet
  obtain ⟨j0, hj, hy0, hy1, hy2⟩ := info_parts infoIns
  obtain ⟨fa, fc, ia, ic, ma, mc, xa, xc, rfl, hf, hi', hm, hx, hsz⟩ := h.parts
  obtain ⟨p, q, r, hS, hR, hres⟩ := hm
  obtain ⟨wh1, wh2⟩ := wh
  obtain ⟨wa1, wa2⟩ := wa
  obtain ⟨wb1, wb2⟩ := wb
  have HF := Lib.hid hf
  have HIM := Lib.hid hi'
  have HX := Lib.hid hx
  have HSZ := Lib.hid hsz
  have HC := Lib.hid hc
  have HRES := Lib.hid hres
  have HS := Lib.hid hS
  have HR := Lib.hid hR
  have HW1 : Hid (Upd (fun _ => False) w ((w.alloc (.cells #[.string I.name, .slice fa I.fields.length fc, .slice ia I.imports.length ic, .slice ma I.methods.length mc, .slice xa I.exports.length xc] 27)).alloc (.cells #[.string { data := #[] }, .slice none 0 0, .slice none 0 0, .slice none 0 0, .slice none 0 0] 27))) := Lib.hid ((Upd.alloc _ _ _).trans (Upd.alloc _ _ _) (fun _ h _ => h))
  have HE : Hid ((((w.alloc (.cells #[.string I.name, .slice fa I.fields.length fc, .slice ia I.imports.length ic, .slice ma I.methods.length mc, .slice xa I.exports.length xc] 27)).alloc (.cells #[.string { data := #[] }, .slice none 0 0, .slice none 0 0, .slice none 0 0, .slice none 0 0] 27)).alloc (.cells #[] 39)).ownsRow 0 39 4 (.slice (some ⟨w.heap.size + 1 + 1, 0, none⟩) 0 0) 0 []) := Lib.hid (bnEmpty _ _ _ _ (by simp))
  have HSRC : Hid (Src (((w.alloc (.cells #[.string I.name, .slice fa I.fields.length fc, .slice ia I.imports.length ic, .slice ma I.methods.length mc, .slice xa I.exports.length xc] 27)).alloc (.cells #[.string { data := #[] }, .slice none 0 0, .slice none 0 0, .slice none 0 0, .slice none 0 0] 27)).alloc (.cells #[] 39)) 4 (.slice ma I.methods.length mc) I.methods.length (cellsL 4 I.methods.length (metF I.methods p q r))) := Lib.hid ((Mets.src hS hR hn0).upd (HW1.out.trans (Upd.alloc _ _ _) (fun _ h _ => h)) (fun _ _ h => h))
  clear hf hi' hx hsz hc hres hS hR h
  go_enter Tryz.func4, Tryz.ntmps4
  go_wp2_with (at_builtin; go_loud (refine wpList_append_mine _ rfl _ _ 25 rfl 0 39 i0 (.agg #[.slice none 0 0, .int .i64 0, .slice none 0 0, .slice none 0 0]) 4 80 Tryz.underlying25 hi hz0 hz1 hz2 rfl (by decide) (.slice (some ⟨w.heap.size + 1 + 1, 0, none⟩) 0 0) 0 [] rfl HE.out I.methods.length (cellsL 4 I.methods.length (metF I.methods p q r)) HSRC.out (by unfold maxLen; omega) (by omega) (Nat.zero_le _) ?_))
  intro v3 w3 ho hg hf
  have hf3 := bnFresh (w := ((w.alloc (.cells #[.string I.name, .slice fa I.fields.length fc, .slice ia I.imports.length ic, .slice ma I.methods.length mc, .slice xa I.exports.length xc] 27)).alloc (.cells #[.string { data := #[] }, .slice none 0 0, .slice none 0 0, .slice none 0 0, .slice none 0 0] 27))) (g := w.heap.size + 1 + 1) (w1 := w3) (by simp) (by simp) (fun k hk => by simp [Value.ownBlock] at hk; omega) hf
  have hu3 : Upd (fun _ => False) ((w.alloc (.cells #[.string I.name, .slice fa I.fields.length fc, .slice ia I.imports.length ic, .slice ma I.methods.length mc, .slice xa I.exports.length xc] 27)).alloc (.cells #[.string { data := #[] }, .slice none 0 0, .slice none 0 0, .slice none 0 0, .slice none 0 0] 27)) w3 := (Upd.alloc (fun _ => False) _ (.cells #[] 39)).trans (Upd.grown (S := fun k => ((w.alloc (.cells #[.string I.name, .slice fa I.fields.length fc, .slice ia I.imports.length ic, .slice ma I.methods.length mc, .slice xa I.exports.length xc] 27)).alloc (.cells #[.string { data := #[] }, .slice none 0 0, .slice none 0 0, .slice none 0 0, .slice none 0 0] 27)).heap.size ≤ k) hg (fun k hk => .inl (by simp [Value.ownBlock] at hk; simp; omega))) (fun k hk hl => by simp at hk hl; omega)
  try rw [Nat.zero_add] at ho
  try rw [List.nil_append] at ho
  obtain ⟨gm, capm, rfl, hcm1, hcm2, hgm⟩ := row_head ho hn0
  have hgm0 := hf3 gm rfl
  simp at hgm0
  have hsz3 := hu3.size
  simp at hsz3
  have HB3 : Hid (w3.heap[w.heap.size]? = some (.cells #[.string I.name, .slice fa I.fields.length fc, .slice ia I.imports.length ic, .slice ma I.methods.length mc, .slice xa I.exports.length xc] 27 (0, 0))) := Lib.hid ((hu3.block w.heap.size (by simp; omega) (fun h => h)).trans (by rw [Below.heap_alloc _ _ _ (by simp)]; exact blk_top' _ _ _ rfl))
  have HZ3 : Hid (w3.heap[w.heap.size + 1]? = some (.cells #[.string { data := #[] }, .slice none 0 0, .slice none 0 0, .slice none 0 0, .slice none 0 0] 27 (0, 0))) := Lib.hid ((hu3.block (w.heap.size + 1) (by simp) (fun h => h)).trans (blk_top' _ _ _ (by simp)))
  have HO3 := Lib.hid ho
  have HU3 := Lib.hid (HW1.out.trans hu3 (fun _ h _ => h))
  clear ho hg hf hf3 hu3 HE HSRC
  have HCELL : Hid (∀ k, k < I.methods.length → ∃ ra rc C, C = (I.methods.getD k default).code ∧ r k = .slice ra C.length rc ∧ w3.cell? ⟨gm, k * 4 + 3, none⟩ = some (.slice ra C.length rc) ∧ (w3.alloc (.cells #[] 41)).cell? ⟨gm, k * 4 + 3, none⟩ = some (.slice ra C.length rc)) := Lib.hid (fun k hk => by
    obtain ⟨ra, rc, e, -, -⟩ := (HR.out k hk).2.2.slice
    obtain ⟨g', off, he, hat⟩ := (Sl.of_row HO3.out).at hk
    simp at he
    obtain ⟨rfl, rfl⟩ := he
    have h3 := hat 3 (by omega)
    rw [Nat.zero_add] at h3
    have h4 : metF I.methods p q r k 3 = r k := rfl
    rw [h4, e] at h3
    exact ⟨ra, rc, _, rfl, e, h3, (Upd.alloc (fun _ => False) w3 (.cells #[] 41)).cell (World.block_lt_of_cell? _ _ h3) (fun h => h) |>.trans h3⟩)
  go_wp2_with (first
    | (go_at_call 6; (with_reducible refine (hPickN _ _ _ (by omega) (by omega)).mono ?_); rintro e _ ⟨k, rfl, hk, rfl⟩; obtain ⟨ra, rc, C, hC, hrk, hck, hck'⟩ := HCELL.out k (by omega); have HCE := Lib.hid hC; have HRK := Lib.hid hrk; have HCS := Lib.hid ((HR.out k (by omega)).2.2); have HCB := Lib.hid (HC.out _ (mem_getD (L := I.methods) (k := k) (by omega))); rw [hrk, ← hC] at HCS; rw [← hC] at HCB; clear hrk hC; obtain ⟨hC0, hC1⟩ := HCB.out; have HE4 : Hid ((w3.alloc (.cells #[] 41)).ownsRow 0 41 3 (.slice (some ⟨w3.heap.size, 0, none⟩) 0 0) 0 []) := Lib.hid (bnEmpty _ _ _ _ rfl); have HS4 : Hid (Src (w3.alloc (.cells #[] 41)) 3 (.slice ra C.length rc) C.length (C.flatMap icl)) := Lib.hid ((Inss.src HCS.out HCB.out.1).upd (HU3.out.trans (Upd.alloc _ _ _) (fun _ h _ => h)) (fun _ _ h => h)))
    | (at_builtin; go_loud (refine wpList_append_mine _ rfl _ _ 37 rfl 0 41 j0 (.agg #[.int .i64 0, .int .i64 0, .int .i64 0]) 3 24 Tryz.underlying37 hj hy0 hy1 hy2 rfl (by decide) (.slice (some ⟨w3.heap.size, 0, none⟩) 0 0) 0 [] rfl HE4.out C.length (C.flatMap icl) HS4.out (by unfold maxLen; omega) (by omega) (Nat.zero_le _) ?_)))
  intro v4 w4 ho hg hf
  have hf4 := bnFresh (w := w3) (g := w3.heap.size) (w1 := w4) rfl (by simp) (fun k hk => by simp [Value.ownBlock] at hk; omega) hf
  have hu4 : Upd (fun _ => False) w3 w4 := (Upd.alloc (fun _ => False) _ (.cells #[] 41)).trans (Upd.grown (S := fun k => w3.heap.size ≤ k) hg (fun k hk => .inl (by simp [Value.ownBlock] at hk; omega))) (fun k hk hl => by omega)
  try rw [Nat.zero_add] at ho
  try rw [List.nil_append] at ho
  have hCR : CRow w4 v4 C := ⟨ho, HCS.out.2⟩
  obtain ⟨gc, capc, rfl, hcc1, hcc2, hgc⟩ := hCR.head hC0
  have hgc0 := hf4 gc rfl
  have HCR := Lib.hid hCR
  have HU4 := Lib.hid hu4
  have hsz4 := hu4.size
  clear ho hg hf hf4 hu4 HE4 HS4 hck hck' hCR
  unfold maxLen at hcc2 hcm2
  have hgm4 : gm < w4.heap.size := by omega
  have hkn : k < I.methods.length := by omega
  have HB4 := Lib.hid ((HU4.out.block w.heap.size (by omega) (fun h => h)).trans HB3.out)
  have HZ4 := Lib.hid ((HU4.out.block (w.heap.size + 1) (by omega) (fun h => h)).trans HZ3.out)
  have HO4 := Lib.hid (ownsRow_upd HO3.out HU4.out (fun _ _ h => h))
  have HV4 := Lib.hid (HU3.out.trans HU4.out (fun _ h _ => h))
  have HEND := Lib.hid (bent_end (w := w) (w4 := w4) (I := I) (gm := gm) (gc := gc) (capm := capm) (k := k) hkn (by omega) (by omega) (by omega) (by omega) (by omega) hgc hgm4 (by omega) (by omega) HO4.out HB4.out HZ4.out HR.out HRES.out HF.out HIM.out HX.out HSZ.out HV4.out)
  clear HB3 HZ3 HO3 HU3 HU4 HCELL HCS HCB HR HS HC HRK HCE HW1 hgm HB4 HZ4 HO4 HRES HF HIM HX HSZ HV4
  go_wp2_with fail
  refine (hPickN _ _ _ (by omega) (by omega)).mono ?_
  rintro e _ ⟨pc, rfl, hpc', rfl⟩
  have hpc : pc < C.length := by omega
  have hpi0 : (0 : Int) ≤ (pc : Int) := Int.natCast_nonneg _
  have hkm0 : (0 : Int) ≤ (k : Int) := Int.natCast_nonneg _
  obtain ⟨cc0, cc1, cc2⟩ := HCR.out.cell hpc
  have ff0 := row_thaw HCR.out.row (pc * 3)
  have ff1 := row_thaw HCR.out.row (pc * 3 + 1)
  have ff2 := row_thaw HCR.out.row (pc * 3 + 2)
  have hxi := HCR.out.wi _ (mem_getD hpc)
  generalize (C.getD pc default).op = x0 at cc0 hxi
  generalize (C.getD pc default).a = x1 at cc1 hxi
  generalize (C.getD pc default).b = x2 at cc2 hxi
  have HXI := Lib.hid hxi
  clear hxi
  go_wp2_with fail
  refine (hPickN _ _ _ (by omega) (by omega)).mono ?_
  rintro e _ ⟨qq, rfl, hqq, rfl⟩
  have hway : qq = 0 ∨ qq = 1 ∨ qq = 2 ∨ qq = 3 ∨ qq = 4 ∨ qq = 5 ∨ qq = 6 ∨ qq = 7 ∨ qq = 8 ∨ 9 ≤ qq := by omega
  rcases hway with rfl | rfl | rfl | rfl | rfl | rfl | rfl | rfl | rfl | h9
  · skip
    go_wp2_with fail
    refine (hPickN _ _ _ (by omega) (by omega)).mono ?_
    rintro e _ ⟨k', rfl, hk', rfl⟩
    have hI' := (HCR.out.setOp hpc (1 + (k' : Int)) (by unfold wi64; omega)).inss
    have hU' : Upd (fun j => j = gc) w4 (w4.setCell ⟨gc, pc * 3, none⟩ (.int .i64 (1 + (k' : Int)))) := setAt _ _ _ _
    obtain ⟨⟨z, hz⟩, hfz, hbA, hrA, hE⟩ := HEND.out (w4.setCell ⟨gc, pc * 3, none⟩ (.int .i64 (1 + (k' : Int)))) (some ⟨gc, 0, none⟩) C.length capc _ hU' hI' (fun j hj => .inl (by simp [Value.ownBlock] at hj; omega))
    have HFIN := Lib.hid hE
    have cA0 := cells_at hbA 0 _ rfl
    have cA1 := cells_at hbA 1 _ rfl
    have cA2 := cells_at hbA 2 _ rfl
    have cA3 := cells_at hbA 3 _ rfl
    have cA4 := cells_at hbA 4 _ rfl
    have fA := cells_fr hbA 3
    have hbB := set_blk (j := 3) (v := .slice (some ⟨gm, 0, none⟩) I.methods.length capm) hbA
    have hrB := set_keep (p := ⟨w.heap.size, 3, none⟩) (v := .slice (some ⟨gm, 0, none⟩) I.methods.length capm) hrA (by simp)
    have cB0 := cells_at hbB 0 _ rfl
    have cB1 := cells_at hbB 1 _ rfl
    have cB2 := cells_at hbB 2 _ rfl
    have cB3 := cells_at hbB 3 _ rfl
    have cB4 := cells_at hbB 4 _ rfl
    have r0 := cells_at hrB 0 _ rfl
    have r1 := cells_at hrB 1 _ rfl
    have r2 := cells_at hrB 2 _ rfl
    have r3 := cells_at hrB 3 _ rfl
    have r4 := cells_at hrB 4 _ rfl
    have s0 := cells_fr hrB 0
    have s1 := cells_fr hrB 1
    have s2 := cells_fr hrB 2
    have s3 := cells_fr hrB 3
    have s4 := cells_fr hrB 4
    clear hE hbA hrA hbB hrB hI' hU'
    go_wp2_with fail
    all_goals
      refine bodyPost_ret (v := img5 I.name (.slice fa I.fields.length fc) (.slice ia I.imports.length ic) (.slice (some ⟨gm, 0, none⟩) I.methods.length capm) (.slice xa I.exports.length xc)) (by simp [results, Tryz.f4, go_sem, r0, r1, r2, r3, r4]) rfl ?_
      obtain ⟨hE1, hE2⟩ := HFIN.out _ (((((setAt _ _ _ _).trans (setAt _ _ _ _) (fun _ h _ => h)).trans (setAt _ _ _ _) (fun _ h _ => h)).trans (setAt _ _ _ _) (fun _ h _ => h)).trans (setAt _ _ _ _) (fun _ h _ => h))
      first | exact ⟨_, _, rfl, hE1, List.length_set, hE2⟩ | exact ⟨_, rfl, _, hE1, List.length_set, hE2⟩
  · skip
    go_wp2_with fail
    refine (hPickN _ _ _ (by omega) (by omega)).mono ?_
    rintro e _ ⟨k', rfl, hk', rfl⟩
    have hI' := (HCR.out.setA pc hpc (k' : Int) (by unfold wi64; omega)).inss
    have hU' : Upd (fun j => j = gc) w4 (w4.setCell ⟨gc, pc * 3 + 1, none⟩ (.int .i64 (k' : Int))) := setAt _ _ _ _
    obtain ⟨⟨z, hz⟩, hfz, hbA, hrA, hE⟩ := HEND.out (w4.setCell ⟨gc, pc * 3 + 1, none⟩ (.int .i64 (k' : Int))) (some ⟨gc, 0, none⟩) C.length capc _ hU' hI' (fun j hj => .inl (by simp [Value.ownBlock] at hj; omega))
    have HFIN := Lib.hid hE
    have cA0 := cells_at hbA 0 _ rfl
    have cA1 := cells_at hbA 1 _ rfl
    have cA2 := cells_at hbA 2 _ rfl
    have cA3 := cells_at hbA 3 _ rfl
    have cA4 := cells_at hbA 4 _ rfl
    have fA := cells_fr hbA 3
    have hbB := set_blk (j := 3) (v := .slice (some ⟨gm, 0, none⟩) I.methods.length capm) hbA
    have hrB := set_keep (p := ⟨w.heap.size, 3, none⟩) (v := .slice (some ⟨gm, 0, none⟩) I.methods.length capm) hrA (by simp)
    have cB0 := cells_at hbB 0 _ rfl
    have cB1 := cells_at hbB 1 _ rfl
    have cB2 := cells_at hbB 2 _ rfl
    have cB3 := cells_at hbB 3 _ rfl
    have cB4 := cells_at hbB 4 _ rfl
    have r0 := cells_at hrB 0 _ rfl
    have r1 := cells_at hrB 1 _ rfl
    have r2 := cells_at hrB 2 _ rfl
    have r3 := cells_at hrB 3 _ rfl
    have r4 := cells_at hrB 4 _ rfl
    have s0 := cells_fr hrB 0
    have s1 := cells_fr hrB 1
    have s2 := cells_fr hrB 2
    have s3 := cells_fr hrB 3
    have s4 := cells_fr hrB 4
    clear hE hbA hrA hbB hrB hI' hU'
    go_wp2_with fail
    all_goals
      refine bodyPost_ret (v := img5 I.name (.slice fa I.fields.length fc) (.slice ia I.imports.length ic) (.slice (some ⟨gm, 0, none⟩) I.methods.length capm) (.slice xa I.exports.length xc)) (by simp [results, Tryz.f4, go_sem, r0, r1, r2, r3, r4]) rfl ?_
      obtain ⟨hE1, hE2⟩ := HFIN.out _ (((((setAt _ _ _ _).trans (setAt _ _ _ _) (fun _ h _ => h)).trans (setAt _ _ _ _) (fun _ h _ => h)).trans (setAt _ _ _ _) (fun _ h _ => h)).trans (setAt _ _ _ _) (fun _ h _ => h))
      first | exact ⟨_, _, rfl, hE1, List.length_set, hE2⟩ | exact ⟨_, rfl, _, hE1, List.length_set, hE2⟩
  · skip
    have hwr : IntKind.i64.wrap ((pc : Int) + 1) = (pc : Int) + 1 := Go.IntWalk.i64_in _ (by omega)
    have hle1 : (pc : Int) ≤ (capc : Int) := by omega
    have hle2 : (pc : Int) ≤ (C.length : Int) := by omega
    have hle3 : (0 : Int) ≤ (pc : Int) + 1 := by omega
    have hle4 : (pc : Int) + 1 ≤ (C.length : Int) := by omega
    have hle5 : (pc : Int) < (C.length : Int) := by omega
    have HXW : Hid (wi64 x0 ∧ wi64 x1 ∧ wi64 x2) := Lib.hid HXI.out
    have HUE : Hid (Upd (fun _ => False) w4 (w4.drew.alloc (.cells #[] 41))) := Lib.hid ((Upd.drew _ _).trans (Upd.alloc _ _ _) (fun _ h _ => h))
    have HE5 : Hid ((w4.drew.alloc (.cells #[] 41)).ownsRow 0 41 3 (.slice (some ⟨w4.heap.size, 0, none⟩) 0 0) 0 []) := Lib.hid (bnEmpty w4.drew _ _ _ rfl)
    have HSL : Hid (Src (w4.drew.alloc (.cells #[] 41)) 3 (.slice (some ⟨gc, 0, none⟩) pc capc) pc ((C.take pc).flatMap icl)) := Lib.hid ((HCR.out.srcL (Nat.le_of_lt hpc) capc).upd HUE.out (fun _ _ h => h))
    go_upto_region 11 with fail
    refine wp_region_last (S := fun _ => True) 10 _ (by kernel_rfl) (by kernel_rfl) rfl ?_
    change wpHL _ _ _ _ _ _ _ _ _ _ w4.drew
    refine wpHL_take (i := 1) (v := ?_) rfl (by kernel_rfl) (fun _ _ _ h => h) trivial (Or.inl ⟨by rfl, ?_⟩) ?_
    rotate_left
    · (intro w hSw; (try dsimp only at hSw); go_simp; try with_reducible rfl)
    simp only [Act.put, List.setIfInBounds_toArray, List.set_cons_zero, List.set_cons_succ]
    refine wpHL_take (i := 2) (v := ?_) rfl (by kernel_rfl) (fun _ _ _ h => h) trivial (Or.inl ⟨by rfl, ?_⟩) ?_
    rotate_left
    · (intro w hSw; (try dsimp only at hSw); go_simp; try with_reducible rfl)
    simp only [Act.put, List.setIfInBounds_toArray, List.set_cons_zero, List.set_cons_succ]
    refine wpHL_take (i := 3) (v := ?_) rfl (by kernel_rfl) (fun _ _ _ h => h) trivial (Or.inl ⟨by rfl, ?_⟩) ?_
    rotate_left
    · (intro w hSw; (try dsimp only at hSw); go_simp; try with_reducible rfl)
    simp only [Act.put, List.setIfInBounds_toArray, List.set_cons_zero, List.set_cons_succ]
    refine wpHL_take (i := 5) (v := ?_) rfl (by kernel_rfl) (fun _ _ _ h => h) trivial (Or.inl ⟨by rfl, ?_⟩) ?_
    rotate_left
    · (intro w hSw; (try dsimp only at hSw); go_simp; try with_reducible rfl)
    simp only [Act.put, List.setIfInBounds_toArray, List.set_cons_zero, List.set_cons_succ]
    refine wpHL_take (i := 6) (v := ?_) rfl (by kernel_rfl) (fun _ _ _ h => h) trivial (Or.inl ⟨by rfl, ?_⟩) ?_
    rotate_left
    · (intro w hSw; (try dsimp only at hSw); go_simp; try with_reducible rfl)
    simp only [Act.put, List.setIfInBounds_toArray, List.set_cons_zero, List.set_cons_succ]
    refine wpHL_take (i := 7) (v := ?_) rfl (by kernel_rfl) (fun _ _ _ h => h) trivial (Or.inl ⟨by rfl, ?_⟩) ?_
    rotate_left
    · (intro w hSw; (try dsimp only at hSw); go_simp; try with_reducible rfl)
    simp only [Act.put, List.setIfInBounds_toArray, List.set_cons_zero, List.set_cons_succ]
    refine wpHL_take (i := 8) (v := ?_) rfl (by kernel_rfl) (fun _ _ _ h => h) trivial (Or.inl ⟨by rfl, ?_⟩) ?_
    rotate_left
    · (intro w hSw; (try dsimp only at hSw); go_simp; try with_reducible rfl)
    simp only [Act.put, List.setIfInBounds_toArray, List.set_cons_zero, List.set_cons_succ]
    clear cc0 cc1 cc2 ff0 ff1 ff2 hwr hle1 hle2 hle3 hle4 hle5
    refine wpHL_step (i := 0) rfl (by kernel_rfl) (by decide) (fun K hK => ?_)
    have HK0 := Lib.hid hK
    clear hK
    go_simp
    refine HK0.out _ _ trivial ?_
    try simp only [Act.put, List.setIfInBounds_toArray, List.set_cons_zero, List.set_cons_succ]
    clear HK0
    refine wpHL_step (i := 4) rfl (by kernel_rfl) (by decide) (fun K hK => ?_)
    have HK0 := Lib.hid hK
    clear hK
    refine step_append_mine rfl (.tmp 54) (.tmp 57) 37 rfl 0 41 j0 (.agg #[.int .i64 0, .int .i64 0, .int .i64 0]) 3 24 Tryz.underlying37 hj hy0 hy1 hy2 rfl (by decide) (.slice (some ⟨w4.heap.size, 0, none⟩) 0 0) (0) ([]) rfl HE5.out (pc) ((C.take pc).flatMap icl) HSL.out (by unfold maxLen; omega) (by omega) (Nat.zero_le _) ?_
    intro v5 w5 ho hg hf
    obtain ⟨hu5, hf5⟩ := bnNext HUE.out (fun j hj => by simp [Value.ownBlock] at hj; omega) hg hf
    have HO5 := Lib.hid ho
    have HU5 := Lib.hid hu5
    have HN5 := Lib.hid hf5
    have HG5 := Lib.hid hg
    clear ho hg hf hu5 hf5
    refine HK0.out _ _ trivial ?_
    try simp only [Act.put, List.setIfInBounds_toArray, List.set_cons_zero, List.set_cons_succ]
    clear HK0
    refine wpHL_step (i := 9) rfl (by kernel_rfl) (by decide) (fun K hK => ?_)
    have HSR : Hid (Src w5 3 (.slice (if capc = pc + 1 then some ⟨gc, 0, none⟩ else some ⟨gc, (pc + 1) * 3, none⟩) (C.length - (pc + 1)) (capc - (pc + 1))) (C.length - (pc + 1)) ((C.drop (pc + 1)).flatMap icl)) := Lib.hid ((HCR.out.srcR hpc hcc1 _).upd HU5.out (fun _ _ h => h))
    have HK0 := Lib.hid hK
    clear hK
    refine step_append_mine rfl (.tmp 58) (.tmp 62) 37 rfl 0 41 j0 (.agg #[.int .i64 0, .int .i64 0, .int .i64 0]) 3 24 Tryz.underlying37 hj hy0 hy1 hy2 rfl (by decide) v5 (0 + pc) ([] ++ (C.take pc).flatMap icl) rfl HO5.out (C.length - (pc + 1)) ((C.drop (pc + 1)).flatMap icl) HSR.out (by unfold maxLen; omega) (by omega) (Nat.zero_le _) ?_
    intro v6 w6 ho hg hf
    obtain ⟨hu6, hf6⟩ := bnNext HU5.out HN5.out hg hf
    have HO6 := Lib.hid ho
    have HU6 := Lib.hid hu6
    have HN6 := Lib.hid hf6
    have HG6 := Lib.hid hg
    clear ho hg hf hu6 hf6
    refine HK0.out _ _ trivial ?_
    try simp only [Act.put, List.setIfInBounds_toArray, List.set_cons_zero, List.set_cons_succ]
    clear HK0
    refine wpHL_last (by kernel_rfl) ?_
    obtain ⟨va, vc, rfl⟩ := ownsRow_slice HO6.out
    have hIn : Inss w6 (.slice va (0 + pc + (C.length - (pc + 1))) vc) (C.take pc ++ C.drop (pc + 1)) := by
      have h1 := HO6.out
      have hl : (C.take pc ++ C.drop (pc + 1)).length = 0 + pc + (C.length - (pc + 1)) := by simp; omega
      have he : [] ++ (C.take pc).flatMap icl ++ (C.drop (pc + 1)).flatMap icl = (C.take pc ++ C.drop (pc + 1)).flatMap icl := by simp [List.flatMap_append]
      rw [he, ← hl] at h1
      rw [← hl]
      refine (CRow.mk h1 (fun x hx => ?_)).inss
      simp at hx
      rcases hx with hx | hx
      · exact HCR.out.wi x (List.mem_of_mem_take hx)
      · exact HCR.out.wi x (List.mem_of_mem_drop hx)
    clear HO6
    generalize 0 + pc + (C.length - (pc + 1)) = nn at hIn HN6 ⊢
    have hI' := hIn
    have hU' : Upd (fun j => j = gc) w4 (w6) := HU6.out.mono (fun _ h _ => h.elim)
    obtain ⟨⟨z, hz⟩, hfz, hbA, hrA, hE⟩ := HEND.out (w6) va nn vc _ hU' hI' (fun j hj => .inr (HN6.out j hj))
    have HFIN := Lib.hid hE
    have cA0 := cells_at hbA 0 _ rfl
    have cA1 := cells_at hbA 1 _ rfl
    have cA2 := cells_at hbA 2 _ rfl
    have cA3 := cells_at hbA 3 _ rfl
    have cA4 := cells_at hbA 4 _ rfl
    have fA := cells_fr hbA 3
    have hbB := set_blk (j := 3) (v := .slice (some ⟨gm, 0, none⟩) I.methods.length capm) hbA
    have hrB := set_keep (p := ⟨w.heap.size, 3, none⟩) (v := .slice (some ⟨gm, 0, none⟩) I.methods.length capm) hrA (by simp)
    have cB0 := cells_at hbB 0 _ rfl
    have cB1 := cells_at hbB 1 _ rfl
    have cB2 := cells_at hbB 2 _ rfl
    have cB3 := cells_at hbB 3 _ rfl
    have cB4 := cells_at hbB 4 _ rfl
    have r0 := cells_at hrB 0 _ rfl
    have r1 := cells_at hrB 1 _ rfl
    have r2 := cells_at hrB 2 _ rfl
    have r3 := cells_at hrB 3 _ rfl
    have r4 := cells_at hrB 4 _ rfl
    have s0 := cells_fr hrB 0
    have s1 := cells_fr hrB 1
    have s2 := cells_fr hrB 2
    have s3 := cells_fr hrB 3
    have s4 := cells_fr hrB 4
    clear hE hbA hrA hbB hrB hI' hU'
    go_wp2_with fail
    all_goals
      refine bodyPost_ret (v := img5 I.name (.slice fa I.fields.length fc) (.slice ia I.imports.length ic) (.slice (some ⟨gm, 0, none⟩) I.methods.length capm) (.slice xa I.exports.length xc)) (by simp [results, Tryz.f4, go_sem, r0, r1, r2, r3, r4]) rfl ?_
      obtain ⟨hE1, hE2⟩ := HFIN.out _ (((((setAt _ _ _ _).trans (setAt _ _ _ _) (fun _ h _ => h)).trans (setAt _ _ _ _) (fun _ h _ => h)).trans (setAt _ _ _ _) (fun _ h _ => h)).trans (setAt _ _ _ _) (fun _ h _ => h))
      first | exact ⟨_, _, rfl, hE1, List.length_set, hE2⟩ | exact ⟨_, rfl, _, hE1, List.length_set, hE2⟩
  · skip
    have hwr : IntKind.i64.wrap ((pc : Int) + 1) = (pc : Int) + 1 := Go.IntWalk.i64_in _ (by omega)
    have hle1 : (pc : Int) ≤ (capc : Int) := by omega
    have hle2 : (pc : Int) ≤ (C.length : Int) := by omega
    have hle3 : (0 : Int) ≤ (pc : Int) + 1 := by omega
    have hle4 : (pc : Int) + 1 ≤ (C.length : Int) := by omega
    have hle5 : (pc : Int) < (C.length : Int) := by omega
    have HXW : Hid (wi64 x0 ∧ wi64 x1 ∧ wi64 x2) := Lib.hid HXI.out
    have HSS : Hid (∀ w', Upd (fun _ => False) w4 w' → (fun w' => w'.cell? ⟨gc, pc * 3, none⟩ = some (.int .i64 x0) ∧ w'.cell? ⟨gc, pc * 3 + 1, none⟩ = some (.int .i64 x1) ∧ w'.cell? ⟨gc, pc * 3 + 2, none⟩ = some (.int .i64 x2)) w') := Lib.hid (fun w' hu => ⟨(hu.cell (World.block_lt_of_cell? _ _ cc0) (fun h => h)).trans cc0, (hu.cell (World.block_lt_of_cell? _ _ cc1) (fun h => h)).trans cc1, (hu.cell (World.block_lt_of_cell? _ _ cc2) (fun h => h)).trans cc2⟩)
    go_upto_region 13 with fail
    refine wp_region_last (S := fun w' => w'.cell? ⟨gc, pc * 3, none⟩ = some (.int .i64 x0) ∧ w'.cell? ⟨gc, pc * 3 + 1, none⟩ = some (.int .i64 x1) ∧ w'.cell? ⟨gc, pc * 3 + 2, none⟩ = some (.int .i64 x2)) 15 _ (by kernel_rfl) (by kernel_rfl) rfl ?_
    change wpHL _ _ _ _ _ _ _ _ _ _ w4.drew
    have hHeld := HSS.out _ (Upd.drew _ _)
    refine wpHL_take (i := 1) (v := ?_) rfl (by kernel_rfl) (fun _ _ _ h => h) hHeld (Or.inl ⟨by rfl, ?_⟩) ?_
    rotate_left
    · (intro w hSw; (try dsimp only at hSw); go_simp; try with_reducible rfl)
    simp only [Act.put, List.setIfInBounds_toArray, List.set_cons_zero, List.set_cons_succ]
    refine wpHL_take (i := 2) (v := ?_) rfl (by kernel_rfl) (fun _ _ _ h => h) hHeld (Or.inl ⟨by rfl, ?_⟩) ?_
    rotate_left
    · (intro w hSw; (try dsimp only at hSw); go_simp; try with_reducible rfl)
    simp only [Act.put, List.setIfInBounds_toArray, List.set_cons_zero, List.set_cons_succ]
    refine wpHL_take (i := 3) (v := ?_) rfl (by kernel_rfl) (fun _ _ _ h => h) hHeld (Or.inl ⟨by rfl, ?_⟩) ?_
    rotate_left
    · (intro w hSw; (try dsimp only at hSw); go_simp; try with_reducible rfl)
    simp only [Act.put, List.setIfInBounds_toArray, List.set_cons_zero, List.set_cons_succ]
    refine wpHL_take (i := 5) (v := ?_) rfl (by kernel_rfl) (fun _ _ _ h => h) hHeld (Or.inl ⟨by rfl, ?_⟩) ?_
    rotate_left
    · (intro w hSw; (try dsimp only at hSw); go_simp; try with_reducible rfl)
    simp only [Act.put, List.setIfInBounds_toArray, List.set_cons_zero, List.set_cons_succ]
    refine wpHL_take (i := 6) (v := ?_) rfl (by kernel_rfl) (fun _ _ _ h => h) hHeld (Or.inl ⟨by rfl, ?_⟩) ?_
    rotate_left
    · (intro w hSw; (try dsimp only at hSw); go_simp; try with_reducible rfl)
    simp only [Act.put, List.setIfInBounds_toArray, List.set_cons_zero, List.set_cons_succ]
    refine wpHL_take (i := 7) (v := ?_) rfl (by kernel_rfl) (fun _ _ _ h => h) hHeld (Or.inl ⟨by rfl, ?_⟩) ?_
    rotate_left
    · (intro w hSw; (try dsimp only at hSw); go_simp; try with_reducible rfl)
    simp only [Act.put, List.setIfInBounds_toArray, List.set_cons_zero, List.set_cons_succ]
    refine wpHL_take (i := 8) (v := ?_) rfl (by kernel_rfl) (fun _ _ _ h => h) hHeld (Or.inl ⟨by rfl, ?_⟩) ?_
    rotate_left
    · (intro w hSw; (try dsimp only at hSw); go_simp; try with_reducible rfl)
    simp only [Act.put, List.setIfInBounds_toArray, List.set_cons_zero, List.set_cons_succ]
    refine wpHL_take (i := 11) (v := ?_) rfl (by kernel_rfl) (fun _ _ _ h => h) hHeld (Or.inl ⟨by rfl, ?_⟩) ?_
    rotate_left
    · (intro w hSw; (try dsimp only at hSw); go_simp; try with_reducible rfl)
    simp only [Act.put, List.setIfInBounds_toArray, List.set_cons_zero, List.set_cons_succ]
    refine wpHL_take (i := 12) (v := ?_) rfl (by kernel_rfl) (fun _ _ _ h => h) hHeld (Or.inl ⟨by rfl, ?_⟩) ?_
    rotate_left
    · (intro w hSw; (try dsimp only at hSw); go_simp; try with_reducible rfl)
    simp only [Act.put, List.setIfInBounds_toArray, List.set_cons_zero, List.set_cons_succ]
    refine wpHL_take (i := 13) (v := ?_) rfl (by kernel_rfl) (fun _ _ _ h => h) hHeld (Or.inl ⟨by rfl, ?_⟩) ?_
    rotate_left
    · (intro w hSw; (try dsimp only at hSw); go_simp; try with_reducible rfl)
    simp only [Act.put, List.setIfInBounds_toArray, List.set_cons_zero, List.set_cons_succ]
    clear cc0 cc1 cc2 ff0 ff1 ff2 hwr hle1 hle2 hle3 hle4 hle5 hHeld
    refine wpHL_two (i := 0) (j := 9) rfl rfl (by kernel_rfl) (by decide) (by decide) (fun K hK => ?_) (fun K hK => ?_)
    · skip
      have HUw : Hid (Upd (fun _ => False) w4 (w4.drew.alloc (.cells #[] 41))) := Lib.hid ((Upd.drew _ _).trans (Upd.alloc _ _ _) (fun _ h _ => h))
      have HK0 := Lib.hid hK
      clear hK
      go_simp
      refine HK0.out _ _ (HSS.out _ HUw.out) ?_
      try simp only [Act.put, List.setIfInBounds_toArray, List.set_cons_zero, List.set_cons_succ]
      clear HK0
      have HE5 : Hid ((w4.drew.alloc (.cells #[] 41)).ownsRow 0 41 3 (.slice (some ⟨w4.heap.size, 0, none⟩) 0 0) 0 []) := Lib.hid (bnEmpty w4.drew _ _ _ rfl)
      have HSL : Hid (Src (w4.drew.alloc (.cells #[] 41)) 3 (.slice (some ⟨gc, 0, none⟩) pc capc) pc ((C.take pc).flatMap icl)) := Lib.hid ((HCR.out.srcL (Nat.le_of_lt hpc) capc).upd HUw.out (fun _ _ h => h))
      refine wpHL_two (i := 4) (j := 9) rfl rfl (by kernel_rfl) (by decide) (by decide) (fun K hK => ?_) (fun K hK => ?_)
      · skip
        have HK0 := Lib.hid hK
        clear hK
        refine step_append_mine rfl (.tmp 66) (.tmp 69) 37 rfl 0 41 j0 (.agg #[.int .i64 0, .int .i64 0, .int .i64 0]) 3 24 Tryz.underlying37 hj hy0 hy1 hy2 rfl (by decide) (.slice (some ⟨w4.heap.size, 0, none⟩) 0 0) (0) ([]) rfl HE5.out (pc) ((C.take pc).flatMap icl) HSL.out (by unfold maxLen; omega) (by omega) (Nat.zero_le _) ?_
        intro v5 w5 ho hg hf
        obtain ⟨hu5, hf5⟩ := bnNext HUw.out (fun j hj => by simp [Value.ownBlock] at hj; omega) hg hf
        have HO5 := Lib.hid ho
        have HU5 := Lib.hid hu5
        have HN5 := Lib.hid hf5
        have HG5 := Lib.hid hg
        clear ho hg hf hu5 hf5
        refine HK0.out _ _ (HSS.out _ HU5.out) ?_
        try simp only [Act.put, List.setIfInBounds_toArray, List.set_cons_zero, List.set_cons_succ]
        clear HK0
        refine wpHL_step (i := 9) rfl (by kernel_rfl) (by decide) (fun K hK => ?_)
        have HUw : Hid (Upd (fun _ => False) w4 (w5.alloc (.cells #[.int .i64 x0, .int .i64 x1, .int .i64 x2] 41))) := Lib.hid (HU5.out.trans (Upd.alloc _ _ _) (fun _ h _ => h))
        have HK0 := Lib.hid hK
        clear hK
        go_simp
        refine HK0.out _ _ (HSS.out _ HUw.out) ?_
        try simp only [Act.put, List.setIfInBounds_toArray, List.set_cons_zero, List.set_cons_succ]
        clear HK0
        refine wpHL_step (i := 10) rfl (by kernel_rfl) (by decide) (fun K hK => ?_)
        have HSX : Hid (Src (w5.alloc (.cells #[.int .i64 x0, .int .i64 x1, .int .i64 x2] 41)) 3 (.slice (some ⟨w5.heap.size, 0, none⟩) 1 1) 1 (icl ⟨x0, x1, x2⟩)) := Lib.hid (srcAt w5 41 #[.int .i64 x0, .int .i64 x1, .int .i64 x2] (icl ⟨x0, x1, x2⟩) rfl 3 (by simp [icl, Value.oneCell']) 1 1 _ rfl rfl)
        have HK0 := Lib.hid hK
        clear hK
        refine step_append_mine rfl (.tmp 70) (.tmp 75) 37 rfl 0 41 j0 (.agg #[.int .i64 0, .int .i64 0, .int .i64 0]) 3 24 Tryz.underlying37 hj hy0 hy1 hy2 rfl (by decide) v5 (0 + pc) ([] ++ (C.take pc).flatMap icl) rfl (HO5.out.alloc _) (1) ((icl ⟨x0, x1, x2⟩)) HSX.out (by unfold maxLen; omega) (by omega) (Nat.zero_le _) ?_
        intro v6 w6 ho hg hf
        obtain ⟨hu6, hf6⟩ := bnNext HUw.out HN5.out hg hf
        have HO6 := Lib.hid ho
        have HU6 := Lib.hid hu6
        have HN6 := Lib.hid hf6
        have HG6 := Lib.hid hg
        clear ho hg hf hu6 hf6
        refine HK0.out _ _ (HSS.out _ HU6.out) ?_
        try simp only [Act.put, List.setIfInBounds_toArray, List.set_cons_zero, List.set_cons_succ]
        clear HK0
        refine wpHL_step (i := 14) rfl (by kernel_rfl) (by decide) (fun K hK => ?_)
        have HSR : Hid (Src w6 3 (.slice (if capc = pc then some ⟨gc, 0, none⟩ else some ⟨gc, pc * 3, none⟩) (C.length - pc) (capc - pc)) (C.length - pc) ((C.drop pc).flatMap icl)) := Lib.hid ((HCR.out.srcR (Nat.le_of_lt hpc) hcc1 _).upd HU6.out (fun _ _ h => h))
        have HK0 := Lib.hid hK
        clear hK
        refine step_append_mine rfl (.tmp 76) (.tmp 79) 37 rfl 0 41 j0 (.agg #[.int .i64 0, .int .i64 0, .int .i64 0]) 3 24 Tryz.underlying37 hj hy0 hy1 hy2 rfl (by decide) v6 (0 + pc + 1) ([] ++ (C.take pc).flatMap icl ++ (icl ⟨x0, x1, x2⟩)) rfl HO6.out (C.length - pc) ((C.drop pc).flatMap icl) HSR.out (by unfold maxLen; omega) (by omega) (Nat.zero_le _) ?_
        intro v7 w7 ho hg hf
        obtain ⟨hu7, hf7⟩ := bnNext HU6.out HN6.out hg hf
        have HO7 := Lib.hid ho
        have HU7 := Lib.hid hu7
        have HN7 := Lib.hid hf7
        have HG7 := Lib.hid hg
        clear ho hg hf hu7 hf7
        refine HK0.out _ _ (HSS.out _ HU7.out) ?_
        try simp only [Act.put, List.setIfInBounds_toArray, List.set_cons_zero, List.set_cons_succ]
        clear HK0
        refine wpHL_last (by kernel_rfl) ?_
        obtain ⟨va, vc, rfl⟩ := ownsRow_slice HO7.out
        have hIn : Inss w7 (.slice va (0 + pc + 1 + (C.length - pc)) vc) (C.take pc ++ [(⟨x0, x1, x2⟩ : InsM)] ++ C.drop pc) := by
          have h1 := HO7.out
          have hl : (C.take pc ++ [(⟨x0, x1, x2⟩ : InsM)] ++ C.drop pc).length = 0 + pc + 1 + (C.length - pc) := by simp; omega
          have he : [] ++ (C.take pc).flatMap icl ++ icl ⟨x0, x1, x2⟩ ++ (C.drop pc).flatMap icl = (C.take pc ++ [(⟨x0, x1, x2⟩ : InsM)] ++ C.drop pc).flatMap icl := by simp [List.flatMap_append, icl]
          rw [he, ← hl] at h1
          rw [← hl]
          refine (CRow.mk h1 (fun x hx => ?_)).inss
          simp at hx
          rcases hx with hx | hx | hx
          · exact HCR.out.wi x (List.mem_of_mem_take hx)
          · subst hx; exact HXW.out
          · exact HCR.out.wi x (List.mem_of_mem_drop hx)
        clear HO7
        generalize 0 + pc + 1 + (C.length - pc) = nn at hIn HN7 ⊢
        have hI' := hIn
        have hU' : Upd (fun j => j = gc) w4 (w7) := HU7.out.mono (fun _ h _ => h.elim)
        obtain ⟨⟨z, hz⟩, hfz, hbA, hrA, hE⟩ := HEND.out (w7) va nn vc _ hU' hI' (fun j hj => .inr (HN7.out j hj))
        have HFIN := Lib.hid hE
        have cA0 := cells_at hbA 0 _ rfl
        have cA1 := cells_at hbA 1 _ rfl
        have cA2 := cells_at hbA 2 _ rfl
        have cA3 := cells_at hbA 3 _ rfl
        have cA4 := cells_at hbA 4 _ rfl
        have fA := cells_fr hbA 3
        have hbB := set_blk (j := 3) (v := .slice (some ⟨gm, 0, none⟩) I.methods.length capm) hbA
        have hrB := set_keep (p := ⟨w.heap.size, 3, none⟩) (v := .slice (some ⟨gm, 0, none⟩) I.methods.length capm) hrA (by simp)
        have cB0 := cells_at hbB 0 _ rfl
        have cB1 := cells_at hbB 1 _ rfl
        have cB2 := cells_at hbB 2 _ rfl
        have cB3 := cells_at hbB 3 _ rfl
        have cB4 := cells_at hbB 4 _ rfl
        have r0 := cells_at hrB 0 _ rfl
        have r1 := cells_at hrB 1 _ rfl
        have r2 := cells_at hrB 2 _ rfl
        have r3 := cells_at hrB 3 _ rfl
        have r4 := cells_at hrB 4 _ rfl
        have s0 := cells_fr hrB 0
        have s1 := cells_fr hrB 1
        have s2 := cells_fr hrB 2
        have s3 := cells_fr hrB 3
        have s4 := cells_fr hrB 4
        clear hE hbA hrA hbB hrB hI' hU'
        go_wp2_with fail
        all_goals
          refine bodyPost_ret (v := img5 I.name (.slice fa I.fields.length fc) (.slice ia I.imports.length ic) (.slice (some ⟨gm, 0, none⟩) I.methods.length capm) (.slice xa I.exports.length xc)) (by simp [results, Tryz.f4, go_sem, r0, r1, r2, r3, r4]) rfl ?_
          obtain ⟨hE1, hE2⟩ := HFIN.out _ (((((setAt _ _ _ _).trans (setAt _ _ _ _) (fun _ h _ => h)).trans (setAt _ _ _ _) (fun _ h _ => h)).trans (setAt _ _ _ _) (fun _ h _ => h)).trans (setAt _ _ _ _) (fun _ h _ => h))
          first | exact ⟨_, _, rfl, hE1, List.length_set, hE2⟩ | exact ⟨_, rfl, _, hE1, List.length_set, hE2⟩
      · skip
        have HUe := HUw
        have HUw : Hid (Upd (fun _ => False) w4 ((w4.drew.alloc (.cells #[] 41)).alloc (.cells #[.int .i64 x0, .int .i64 x1, .int .i64 x2] 41))) := Lib.hid (HUe.out.trans (Upd.alloc _ _ _) (fun _ h _ => h))
        have HK0 := Lib.hid hK
        clear hK
        go_simp
        refine HK0.out _ _ (HSS.out _ HUw.out) ?_
        try simp only [Act.put, List.setIfInBounds_toArray, List.set_cons_zero, List.set_cons_succ]
        clear HK0
        refine wpHL_step (i := 4) rfl (by kernel_rfl) (by decide) (fun K hK => ?_)
        have HE5 : Hid (((w4.drew.alloc (.cells #[] 41)).alloc (.cells #[.int .i64 x0, .int .i64 x1, .int .i64 x2] 41)).ownsRow 0 41 3 (.slice (some ⟨w4.heap.size, 0, none⟩) 0 0) 0 []) := Lib.hid ((bnEmpty w4.drew _ _ _ rfl).alloc _)
        have HSL : Hid (Src ((w4.drew.alloc (.cells #[] 41)).alloc (.cells #[.int .i64 x0, .int .i64 x1, .int .i64 x2] 41)) 3 (.slice (some ⟨gc, 0, none⟩) pc capc) pc ((C.take pc).flatMap icl)) := Lib.hid ((HCR.out.srcL (Nat.le_of_lt hpc) capc).upd HUw.out (fun _ _ h => h))
        have HK0 := Lib.hid hK
        clear hK
        refine step_append_mine rfl (.tmp 66) (.tmp 69) 37 rfl 0 41 j0 (.agg #[.int .i64 0, .int .i64 0, .int .i64 0]) 3 24 Tryz.underlying37 hj hy0 hy1 hy2 rfl (by decide) (.slice (some ⟨w4.heap.size, 0, none⟩) 0 0) (0) ([]) rfl HE5.out (pc) ((C.take pc).flatMap icl) HSL.out (by unfold maxLen; omega) (by omega) (Nat.zero_le _) ?_
        intro v5 w5 ho hg hf
        obtain ⟨hu5, hf5⟩ := bnNext HUw.out (fun j hj => by simp [Value.ownBlock] at hj; omega) hg hf
        have HO5 := Lib.hid ho
        have HU5 := Lib.hid hu5
        have HN5 := Lib.hid hf5
        have HG5 := Lib.hid hg
        clear ho hg hf hu5 hf5
        refine HK0.out _ _ (HSS.out _ HU5.out) ?_
        try simp only [Act.put, List.setIfInBounds_toArray, List.set_cons_zero, List.set_cons_succ]
        clear HK0
        refine wpHL_step (i := 10) rfl (by kernel_rfl) (by decide) (fun K hK => ?_)
        have HSX : Hid (Src w5 3 (.slice (some ⟨w4.heap.size + 1, 0, none⟩) 1 1) 1 (icl ⟨x0, x1, x2⟩)) := Lib.hid ((srcAt (w4.drew.alloc (.cells #[] 41)) 41 #[.int .i64 x0, .int .i64 x1, .int .i64 x2] (icl ⟨x0, x1, x2⟩) rfl 3 (by simp [icl, Value.oneCell']) 1 1 _ (by simp) rfl).upd (Upd.grown (S := fun k => (Value.slice (some ⟨w4.heap.size, 0, none⟩) 0 0).ownBlock = some k) HG5.out (fun k h => .inl h)) (fun j hj h => by simp [Value.ownBlock] at hj h; omega))
        have HK0 := Lib.hid hK
        clear hK
        refine step_append_mine rfl (.tmp 70) (.tmp 75) 37 rfl 0 41 j0 (.agg #[.int .i64 0, .int .i64 0, .int .i64 0]) 3 24 Tryz.underlying37 hj hy0 hy1 hy2 rfl (by decide) v5 (0 + pc) ([] ++ (C.take pc).flatMap icl) rfl HO5.out (1) ((icl ⟨x0, x1, x2⟩)) HSX.out (by unfold maxLen; omega) (by omega) (Nat.zero_le _) ?_
        intro v6 w6 ho hg hf
        obtain ⟨hu6, hf6⟩ := bnNext HU5.out HN5.out hg hf
        have HO6 := Lib.hid ho
        have HU6 := Lib.hid hu6
        have HN6 := Lib.hid hf6
        have HG6 := Lib.hid hg
        clear ho hg hf hu6 hf6
        refine HK0.out _ _ (HSS.out _ HU6.out) ?_
        try simp only [Act.put, List.setIfInBounds_toArray, List.set_cons_zero, List.set_cons_succ]
        clear HK0
        refine wpHL_step (i := 14) rfl (by kernel_rfl) (by decide) (fun K hK => ?_)
        have HSR : Hid (Src w6 3 (.slice (if capc = pc then some ⟨gc, 0, none⟩ else some ⟨gc, pc * 3, none⟩) (C.length - pc) (capc - pc)) (C.length - pc) ((C.drop pc).flatMap icl)) := Lib.hid ((HCR.out.srcR (Nat.le_of_lt hpc) hcc1 _).upd HU6.out (fun _ _ h => h))
        have HK0 := Lib.hid hK
        clear hK
        refine step_append_mine rfl (.tmp 76) (.tmp 79) 37 rfl 0 41 j0 (.agg #[.int .i64 0, .int .i64 0, .int .i64 0]) 3 24 Tryz.underlying37 hj hy0 hy1 hy2 rfl (by decide) v6 (0 + pc + 1) ([] ++ (C.take pc).flatMap icl ++ (icl ⟨x0, x1, x2⟩)) rfl HO6.out (C.length - pc) ((C.drop pc).flatMap icl) HSR.out (by unfold maxLen; omega) (by omega) (Nat.zero_le _) ?_
        intro v7 w7 ho hg hf
        obtain ⟨hu7, hf7⟩ := bnNext HU6.out HN6.out hg hf
        have HO7 := Lib.hid ho
        have HU7 := Lib.hid hu7
        have HN7 := Lib.hid hf7
        have HG7 := Lib.hid hg
        clear ho hg hf hu7 hf7
        refine HK0.out _ _ (HSS.out _ HU7.out) ?_
        try simp only [Act.put, List.setIfInBounds_toArray, List.set_cons_zero, List.set_cons_succ]
        clear HK0
        refine wpHL_last (by kernel_rfl) ?_
        obtain ⟨va, vc, rfl⟩ := ownsRow_slice HO7.out
        have hIn : Inss w7 (.slice va (0 + pc + 1 + (C.length - pc)) vc) (C.take pc ++ [(⟨x0, x1, x2⟩ : InsM)] ++ C.drop pc) := by
          have h1 := HO7.out
          have hl : (C.take pc ++ [(⟨x0, x1, x2⟩ : InsM)] ++ C.drop pc).length = 0 + pc + 1 + (C.length - pc) := by simp; omega
          have he : [] ++ (C.take pc).flatMap icl ++ icl ⟨x0, x1, x2⟩ ++ (C.drop pc).flatMap icl = (C.take pc ++ [(⟨x0, x1, x2⟩ : InsM)] ++ C.drop pc).flatMap icl := by simp [List.flatMap_append, icl]
          rw [he, ← hl] at h1
          rw [← hl]
          refine (CRow.mk h1 (fun x hx => ?_)).inss
          simp at hx
          rcases hx with hx | hx | hx
          · exact HCR.out.wi x (List.mem_of_mem_take hx)
          · subst hx; exact HXW.out
          · exact HCR.out.wi x (List.mem_of_mem_drop hx)
        clear HO7
        generalize 0 + pc + 1 + (C.length - pc) = nn at hIn HN7 ⊢
        have hI' := hIn
        have hU' : Upd (fun j => j = gc) w4 (w7) := HU7.out.mono (fun _ h _ => h.elim)
        obtain ⟨⟨z, hz⟩, hfz, hbA, hrA, hE⟩ := HEND.out (w7) va nn vc _ hU' hI' (fun j hj => .inr (HN7.out j hj))
        have HFIN := Lib.hid hE
        have cA0 := cells_at hbA 0 _ rfl
        have cA1 := cells_at hbA 1 _ rfl
        have cA2 := cells_at hbA 2 _ rfl
        have cA3 := cells_at hbA 3 _ rfl
        have cA4 := cells_at hbA 4 _ rfl
        have fA := cells_fr hbA 3
        have hbB := set_blk (j := 3) (v := .slice (some ⟨gm, 0, none⟩) I.methods.length capm) hbA
        have hrB := set_keep (p := ⟨w.heap.size, 3, none⟩) (v := .slice (some ⟨gm, 0, none⟩) I.methods.length capm) hrA (by simp)
        have cB0 := cells_at hbB 0 _ rfl
        have cB1 := cells_at hbB 1 _ rfl
        have cB2 := cells_at hbB 2 _ rfl
        have cB3 := cells_at hbB 3 _ rfl
        have cB4 := cells_at hbB 4 _ rfl
        have r0 := cells_at hrB 0 _ rfl
        have r1 := cells_at hrB 1 _ rfl
        have r2 := cells_at hrB 2 _ rfl
        have r3 := cells_at hrB 3 _ rfl
        have r4 := cells_at hrB 4 _ rfl
        have s0 := cells_fr hrB 0
        have s1 := cells_fr hrB 1
        have s2 := cells_fr hrB 2
        have s3 := cells_fr hrB 3
        have s4 := cells_fr hrB 4
        clear hE hbA hrA hbB hrB hI' hU'
        go_wp2_with fail
        all_goals
          refine bodyPost_ret (v := img5 I.name (.slice fa I.fields.length fc) (.slice ia I.imports.length ic) (.slice (some ⟨gm, 0, none⟩) I.methods.length capm) (.slice xa I.exports.length xc)) (by simp [results, Tryz.f4, go_sem, r0, r1, r2, r3, r4]) rfl ?_
          obtain ⟨hE1, hE2⟩ := HFIN.out _ (((((setAt _ _ _ _).trans (setAt _ _ _ _) (fun _ h _ => h)).trans (setAt _ _ _ _) (fun _ h _ => h)).trans (setAt _ _ _ _) (fun _ h _ => h)).trans (setAt _ _ _ _) (fun _ h _ => h))
          first | exact ⟨_, _, rfl, hE1, List.length_set, hE2⟩ | exact ⟨_, rfl, _, hE1, List.length_set, hE2⟩
    · skip
      have HUw : Hid (Upd (fun _ => False) w4 (w4.drew.alloc (.cells #[.int .i64 x0, .int .i64 x1, .int .i64 x2] 41))) := Lib.hid ((Upd.drew _ _).trans (Upd.alloc _ _ _) (fun _ h _ => h))
      have HK0 := Lib.hid hK
      clear hK
      go_simp
      refine HK0.out _ _ (HSS.out _ HUw.out) ?_
      try simp only [Act.put, List.setIfInBounds_toArray, List.set_cons_zero, List.set_cons_succ]
      clear HK0
      refine wpHL_step (i := 0) rfl (by kernel_rfl) (by decide) (fun K hK => ?_)
      have HUe := HUw
      have HUw : Hid (Upd (fun _ => False) w4 ((w4.drew.alloc (.cells #[.int .i64 x0, .int .i64 x1, .int .i64 x2] 41)).alloc (.cells #[] 41))) := Lib.hid (HUe.out.trans (Upd.alloc _ _ _) (fun _ h _ => h))
      have HK0 := Lib.hid hK
      clear hK
      go_simp
      refine HK0.out _ _ (HSS.out _ HUw.out) ?_
      try simp only [Act.put, List.setIfInBounds_toArray, List.set_cons_zero, List.set_cons_succ]
      clear HK0
      refine wpHL_step (i := 4) rfl (by kernel_rfl) (by decide) (fun K hK => ?_)
      have HE5 : Hid (((w4.drew.alloc (.cells #[.int .i64 x0, .int .i64 x1, .int .i64 x2] 41)).alloc (.cells #[] 41)).ownsRow 0 41 3 (.slice (some ⟨w4.heap.size + 1, 0, none⟩) 0 0) 0 []) := Lib.hid (bnEmpty (w4.drew.alloc (.cells #[.int .i64 x0, .int .i64 x1, .int .i64 x2] 41)) _ _ _ (by simp))
      have HSL : Hid (Src ((w4.drew.alloc (.cells #[.int .i64 x0, .int .i64 x1, .int .i64 x2] 41)).alloc (.cells #[] 41)) 3 (.slice (some ⟨gc, 0, none⟩) pc capc) pc ((C.take pc).flatMap icl)) := Lib.hid ((HCR.out.srcL (Nat.le_of_lt hpc) capc).upd HUw.out (fun _ _ h => h))
      have HK0 := Lib.hid hK
      clear hK
      refine step_append_mine rfl (.tmp 66) (.tmp 69) 37 rfl 0 41 j0 (.agg #[.int .i64 0, .int .i64 0, .int .i64 0]) 3 24 Tryz.underlying37 hj hy0 hy1 hy2 rfl (by decide) (.slice (some ⟨w4.heap.size + 1, 0, none⟩) 0 0) (0) ([]) rfl HE5.out (pc) ((C.take pc).flatMap icl) HSL.out (by unfold maxLen; omega) (by omega) (Nat.zero_le _) ?_
      intro v5 w5 ho hg hf
      obtain ⟨hu5, hf5⟩ := bnNext HUw.out (fun j hj => by simp [Value.ownBlock] at hj; omega) hg hf
      have HO5 := Lib.hid ho
      have HU5 := Lib.hid hu5
      have HN5 := Lib.hid hf5
      have HG5 := Lib.hid hg
      clear ho hg hf hu5 hf5
      refine HK0.out _ _ (HSS.out _ HU5.out) ?_
      try simp only [Act.put, List.setIfInBounds_toArray, List.set_cons_zero, List.set_cons_succ]
      clear HK0
      refine wpHL_step (i := 10) rfl (by kernel_rfl) (by decide) (fun K hK => ?_)
      have HSX : Hid (Src w5 3 (.slice (some ⟨w4.heap.size, 0, none⟩) 1 1) 1 (icl ⟨x0, x1, x2⟩)) := Lib.hid (((srcAt w4.drew 41 #[.int .i64 x0, .int .i64 x1, .int .i64 x2] (icl ⟨x0, x1, x2⟩) rfl 3 (by simp [icl, Value.oneCell']) 1 1 _ rfl rfl).upd (Upd.alloc (fun _ => False) _ _) (fun _ _ h => h)).upd (Upd.grown (S := fun k => (Value.slice (some ⟨w4.heap.size + 1, 0, none⟩) 0 0).ownBlock = some k) HG5.out (fun k h => .inl h)) (fun j hj h => by simp [Value.ownBlock] at hj h; omega))
      have HK0 := Lib.hid hK
      clear hK
      refine step_append_mine rfl (.tmp 70) (.tmp 75) 37 rfl 0 41 j0 (.agg #[.int .i64 0, .int .i64 0, .int .i64 0]) 3 24 Tryz.underlying37 hj hy0 hy1 hy2 rfl (by decide) v5 (0 + pc) ([] ++ (C.take pc).flatMap icl) rfl HO5.out (1) ((icl ⟨x0, x1, x2⟩)) HSX.out (by unfold maxLen; omega) (by omega) (Nat.zero_le _) ?_
      intro v6 w6 ho hg hf
      obtain ⟨hu6, hf6⟩ := bnNext HU5.out HN5.out hg hf
      have HO6 := Lib.hid ho
      have HU6 := Lib.hid hu6
      have HN6 := Lib.hid hf6
      have HG6 := Lib.hid hg
      clear ho hg hf hu6 hf6
      refine HK0.out _ _ (HSS.out _ HU6.out) ?_
      try simp only [Act.put, List.setIfInBounds_toArray, List.set_cons_zero, List.set_cons_succ]
      clear HK0
      refine wpHL_step (i := 14) rfl (by kernel_rfl) (by decide) (fun K hK => ?_)
      have HSR : Hid (Src w6 3 (.slice (if capc = pc then some ⟨gc, 0, none⟩ else some ⟨gc, pc * 3, none⟩) (C.length - pc) (capc - pc)) (C.length - pc) ((C.drop pc).flatMap icl)) := Lib.hid ((HCR.out.srcR (Nat.le_of_lt hpc) hcc1 _).upd HU6.out (fun _ _ h => h))
      have HK0 := Lib.hid hK
      clear hK
      refine step_append_mine rfl (.tmp 76) (.tmp 79) 37 rfl 0 41 j0 (.agg #[.int .i64 0, .int .i64 0, .int .i64 0]) 3 24 Tryz.underlying37 hj hy0 hy1 hy2 rfl (by decide) v6 (0 + pc + 1) ([] ++ (C.take pc).flatMap icl ++ (icl ⟨x0, x1, x2⟩)) rfl HO6.out (C.length - pc) ((C.drop pc).flatMap icl) HSR.out (by unfold maxLen; omega) (by omega) (Nat.zero_le _) ?_
      intro v7 w7 ho hg hf
      obtain ⟨hu7, hf7⟩ := bnNext HU6.out HN6.out hg hf
      have HO7 := Lib.hid ho
      have HU7 := Lib.hid hu7
      have HN7 := Lib.hid hf7
      have HG7 := Lib.hid hg
      clear ho hg hf hu7 hf7
      refine HK0.out _ _ (HSS.out _ HU7.out) ?_
      try simp only [Act.put, List.setIfInBounds_toArray, List.set_cons_zero, List.set_cons_succ]
      clear HK0
      refine wpHL_last (by kernel_rfl) ?_
      obtain ⟨va, vc, rfl⟩ := ownsRow_slice HO7.out
      have hIn : Inss w7 (.slice va (0 + pc + 1 + (C.length - pc)) vc) (C.take pc ++ [(⟨x0, x1, x2⟩ : InsM)] ++ C.drop pc) := by
        have h1 := HO7.out
        have hl : (C.take pc ++ [(⟨x0, x1, x2⟩ : InsM)] ++ C.drop pc).length = 0 + pc + 1 + (C.length - pc) := by simp; omega
        have he : [] ++ (C.take pc).flatMap icl ++ icl ⟨x0, x1, x2⟩ ++ (C.drop pc).flatMap icl = (C.take pc ++ [(⟨x0, x1, x2⟩ : InsM)] ++ C.drop pc).flatMap icl := by simp [List.flatMap_append, icl]
        rw [he, ← hl] at h1
        rw [← hl]
        refine (CRow.mk h1 (fun x hx => ?_)).inss
        simp at hx
        rcases hx with hx | hx | hx
        · exact HCR.out.wi x (List.mem_of_mem_take hx)
        · subst hx; exact HXW.out
        · exact HCR.out.wi x (List.mem_of_mem_drop hx)
      clear HO7
      generalize 0 + pc + 1 + (C.length - pc) = nn at hIn HN7 ⊢
      have hI' := hIn
      have hU' : Upd (fun j => j = gc) w4 (w7) := HU7.out.mono (fun _ h _ => h.elim)
      obtain ⟨⟨z, hz⟩, hfz, hbA, hrA, hE⟩ := HEND.out (w7) va nn vc _ hU' hI' (fun j hj => .inr (HN7.out j hj))
      have HFIN := Lib.hid hE
      have cA0 := cells_at hbA 0 _ rfl
      have cA1 := cells_at hbA 1 _ rfl
      have cA2 := cells_at hbA 2 _ rfl
      have cA3 := cells_at hbA 3 _ rfl
      have cA4 := cells_at hbA 4 _ rfl
      have fA := cells_fr hbA 3
      have hbB := set_blk (j := 3) (v := .slice (some ⟨gm, 0, none⟩) I.methods.length capm) hbA
      have hrB := set_keep (p := ⟨w.heap.size, 3, none⟩) (v := .slice (some ⟨gm, 0, none⟩) I.methods.length capm) hrA (by simp)
      have cB0 := cells_at hbB 0 _ rfl
      have cB1 := cells_at hbB 1 _ rfl
      have cB2 := cells_at hbB 2 _ rfl
      have cB3 := cells_at hbB 3 _ rfl
      have cB4 := cells_at hbB 4 _ rfl
      have r0 := cells_at hrB 0 _ rfl
      have r1 := cells_at hrB 1 _ rfl
      have r2 := cells_at hrB 2 _ rfl
      have r3 := cells_at hrB 3 _ rfl
      have r4 := cells_at hrB 4 _ rfl
      have s0 := cells_fr hrB 0
      have s1 := cells_fr hrB 1
      have s2 := cells_fr hrB 2
      have s3 := cells_fr hrB 3
      have s4 := cells_fr hrB 4
      clear hE hbA hrA hbB hrB hI' hU'
      go_wp2_with fail
      all_goals
        refine bodyPost_ret (v := img5 I.name (.slice fa I.fields.length fc) (.slice ia I.imports.length ic) (.slice (some ⟨gm, 0, none⟩) I.methods.length capm) (.slice xa I.exports.length xc)) (by simp [results, Tryz.f4, go_sem, r0, r1, r2, r3, r4]) rfl ?_
        obtain ⟨hE1, hE2⟩ := HFIN.out _ (((((setAt _ _ _ _).trans (setAt _ _ _ _) (fun _ h _ => h)).trans (setAt _ _ _ _) (fun _ h _ => h)).trans (setAt _ _ _ _) (fun _ h _ => h)).trans (setAt _ _ _ _) (fun _ h _ => h))
        first | exact ⟨_, _, rfl, hE1, List.length_set, hE2⟩ | exact ⟨_, rfl, _, hE1, List.length_set, hE2⟩
  · skip
    obtain ⟨C', hl, hCR'⟩ := HCR.out.setAll hpc (35) (2) (0) (by unfold wi64; omega) (by unfold wi64; omega) (by unfold wi64; omega)
    have hIn := hCR'.inss
    have hI' := hIn
    have hU' : Upd (fun j => j = gc) w4 (((w4.setCell ⟨gc, pc * 3, none⟩ (.int .i64 35)).setCell ⟨gc, pc * 3 + 1, none⟩ (.int .i64 2)).setCell ⟨gc, pc * 3 + 2, none⟩ (.int .i64 0)) := ((setAt _ _ _ _).trans (setAt _ _ _ _) (fun _ h _ => h)).trans (setAt _ _ _ _) (fun _ h _ => h)
    obtain ⟨⟨z, hz⟩, hfz, hbA, hrA, hE⟩ := HEND.out (((w4.setCell ⟨gc, pc * 3, none⟩ (.int .i64 35)).setCell ⟨gc, pc * 3 + 1, none⟩ (.int .i64 2)).setCell ⟨gc, pc * 3 + 2, none⟩ (.int .i64 0)) (some ⟨gc, 0, none⟩) C.length capc _ hU' hI' (fun j hj => .inl (by simp [Value.ownBlock] at hj; omega))
    have HFIN := Lib.hid hE
    have cA0 := cells_at hbA 0 _ rfl
    have cA1 := cells_at hbA 1 _ rfl
    have cA2 := cells_at hbA 2 _ rfl
    have cA3 := cells_at hbA 3 _ rfl
    have cA4 := cells_at hbA 4 _ rfl
    have fA := cells_fr hbA 3
    have hbB := set_blk (j := 3) (v := .slice (some ⟨gm, 0, none⟩) I.methods.length capm) hbA
    have hrB := set_keep (p := ⟨w.heap.size, 3, none⟩) (v := .slice (some ⟨gm, 0, none⟩) I.methods.length capm) hrA (by simp)
    have cB0 := cells_at hbB 0 _ rfl
    have cB1 := cells_at hbB 1 _ rfl
    have cB2 := cells_at hbB 2 _ rfl
    have cB3 := cells_at hbB 3 _ rfl
    have cB4 := cells_at hbB 4 _ rfl
    have r0 := cells_at hrB 0 _ rfl
    have r1 := cells_at hrB 1 _ rfl
    have r2 := cells_at hrB 2 _ rfl
    have r3 := cells_at hrB 3 _ rfl
    have r4 := cells_at hrB 4 _ rfl
    have s0 := cells_fr hrB 0
    have s1 := cells_fr hrB 1
    have s2 := cells_fr hrB 2
    have s3 := cells_fr hrB 3
    have s4 := cells_fr hrB 4
    clear hE hbA hrA hbB hrB hI' hU'
    go_wp2_with fail
    all_goals
      refine bodyPost_ret (v := img5 I.name (.slice fa I.fields.length fc) (.slice ia I.imports.length ic) (.slice (some ⟨gm, 0, none⟩) I.methods.length capm) (.slice xa I.exports.length xc)) (by simp [results, Tryz.f4, go_sem, r0, r1, r2, r3, r4]) rfl ?_
      obtain ⟨hE1, hE2⟩ := HFIN.out _ (((((setAt _ _ _ _).trans (setAt _ _ _ _) (fun _ h _ => h)).trans (setAt _ _ _ _) (fun _ h _ => h)).trans (setAt _ _ _ _) (fun _ h _ => h)).trans (setAt _ _ _ _) (fun _ h _ => h))
      first | exact ⟨_, _, rfl, hE1, List.length_set, hE2⟩ | exact ⟨_, rfl, _, hE1, List.length_set, hE2⟩
  · skip
    go_wp2_with fail
    refine (hPickN _ _ _ (by omega) (by omega)).mono ?_
    rintro e _ ⟨k', rfl, hk', rfl⟩
    obtain ⟨C', hl, hCR'⟩ := HCR.out.setAll hpc (23) ((k' : Int)) (0) (by unfold wi64; omega) (by unfold wi64; omega) (by unfold wi64; omega)
    have hIn := hCR'.inss
    have hI' := hIn
    have hU' : Upd (fun j => j = gc) w4 (((w4.setCell ⟨gc, pc * 3, none⟩ (.int .i64 23)).setCell ⟨gc, pc * 3 + 1, none⟩ (.int .i64 (k' : Int))).setCell ⟨gc, pc * 3 + 2, none⟩ (.int .i64 0)) := ((setAt _ _ _ _).trans (setAt _ _ _ _) (fun _ h _ => h)).trans (setAt _ _ _ _) (fun _ h _ => h)
    obtain ⟨⟨z, hz⟩, hfz, hbA, hrA, hE⟩ := HEND.out (((w4.setCell ⟨gc, pc * 3, none⟩ (.int .i64 23)).setCell ⟨gc, pc * 3 + 1, none⟩ (.int .i64 (k' : Int))).setCell ⟨gc, pc * 3 + 2, none⟩ (.int .i64 0)) (some ⟨gc, 0, none⟩) C.length capc _ hU' hI' (fun j hj => .inl (by simp [Value.ownBlock] at hj; omega))
    have HFIN := Lib.hid hE
    have cA0 := cells_at hbA 0 _ rfl
    have cA1 := cells_at hbA 1 _ rfl
    have cA2 := cells_at hbA 2 _ rfl
    have cA3 := cells_at hbA 3 _ rfl
    have cA4 := cells_at hbA 4 _ rfl
    have fA := cells_fr hbA 3
    have hbB := set_blk (j := 3) (v := .slice (some ⟨gm, 0, none⟩) I.methods.length capm) hbA
    have hrB := set_keep (p := ⟨w.heap.size, 3, none⟩) (v := .slice (some ⟨gm, 0, none⟩) I.methods.length capm) hrA (by simp)
    have cB0 := cells_at hbB 0 _ rfl
    have cB1 := cells_at hbB 1 _ rfl
    have cB2 := cells_at hbB 2 _ rfl
    have cB3 := cells_at hbB 3 _ rfl
    have cB4 := cells_at hbB 4 _ rfl
    have r0 := cells_at hrB 0 _ rfl
    have r1 := cells_at hrB 1 _ rfl
    have r2 := cells_at hrB 2 _ rfl
    have r3 := cells_at hrB 3 _ rfl
    have r4 := cells_at hrB 4 _ rfl
    have s0 := cells_fr hrB 0
    have s1 := cells_fr hrB 1
    have s2 := cells_fr hrB 2
    have s3 := cells_fr hrB 3
    have s4 := cells_fr hrB 4
    clear hE hbA hrA hbB hrB hI' hU'
    go_wp2_with fail
    all_goals
      refine bodyPost_ret (v := img5 I.name (.slice fa I.fields.length fc) (.slice ia I.imports.length ic) (.slice (some ⟨gm, 0, none⟩) I.methods.length capm) (.slice xa I.exports.length xc)) (by simp [results, Tryz.f4, go_sem, r0, r1, r2, r3, r4]) rfl ?_
      obtain ⟨hE1, hE2⟩ := HFIN.out _ (((((setAt _ _ _ _).trans (setAt _ _ _ _) (fun _ h _ => h)).trans (setAt _ _ _ _) (fun _ h _ => h)).trans (setAt _ _ _ _) (fun _ h _ => h)).trans (setAt _ _ _ _) (fun _ h _ => h))
      first | exact ⟨_, _, rfl, hE1, List.length_set, hE2⟩ | exact ⟨_, rfl, _, hE1, List.length_set, hE2⟩
  · skip
    obtain ⟨C', hl, hCR'⟩ := HCR.out.setAll hpc (4) (0) (0) (by unfold wi64; omega) (by unfold wi64; omega) (by unfold wi64; omega)
    have hIn := hCR'.inss
    have hI' := hIn
    have hU' : Upd (fun j => j = gc) w4 (((w4.setCell ⟨gc, pc * 3, none⟩ (.int .i64 4)).setCell ⟨gc, pc * 3 + 1, none⟩ (.int .i64 0)).setCell ⟨gc, pc * 3 + 2, none⟩ (.int .i64 0)) := ((setAt _ _ _ _).trans (setAt _ _ _ _) (fun _ h _ => h)).trans (setAt _ _ _ _) (fun _ h _ => h)
    obtain ⟨⟨z, hz⟩, hfz, hbA, hrA, hE⟩ := HEND.out (((w4.setCell ⟨gc, pc * 3, none⟩ (.int .i64 4)).setCell ⟨gc, pc * 3 + 1, none⟩ (.int .i64 0)).setCell ⟨gc, pc * 3 + 2, none⟩ (.int .i64 0)) (some ⟨gc, 0, none⟩) C.length capc _ hU' hI' (fun j hj => .inl (by simp [Value.ownBlock] at hj; omega))
    have HFIN := Lib.hid hE
    have cA0 := cells_at hbA 0 _ rfl
    have cA1 := cells_at hbA 1 _ rfl
    have cA2 := cells_at hbA 2 _ rfl
    have cA3 := cells_at hbA 3 _ rfl
    have cA4 := cells_at hbA 4 _ rfl
    have fA := cells_fr hbA 3
    have hbB := set_blk (j := 3) (v := .slice (some ⟨gm, 0, none⟩) I.methods.length capm) hbA
    have hrB := set_keep (p := ⟨w.heap.size, 3, none⟩) (v := .slice (some ⟨gm, 0, none⟩) I.methods.length capm) hrA (by simp)
    have cB0 := cells_at hbB 0 _ rfl
    have cB1 := cells_at hbB 1 _ rfl
    have cB2 := cells_at hbB 2 _ rfl
    have cB3 := cells_at hbB 3 _ rfl
    have cB4 := cells_at hbB 4 _ rfl
    have r0 := cells_at hrB 0 _ rfl
    have r1 := cells_at hrB 1 _ rfl
    have r2 := cells_at hrB 2 _ rfl
    have r3 := cells_at hrB 3 _ rfl
    have r4 := cells_at hrB 4 _ rfl
    have s0 := cells_fr hrB 0
    have s1 := cells_fr hrB 1
    have s2 := cells_fr hrB 2
    have s3 := cells_fr hrB 3
    have s4 := cells_fr hrB 4
    clear hE hbA hrA hbB hrB hI' hU'
    go_wp2_with fail
    all_goals
      refine bodyPost_ret (v := img5 I.name (.slice fa I.fields.length fc) (.slice ia I.imports.length ic) (.slice (some ⟨gm, 0, none⟩) I.methods.length capm) (.slice xa I.exports.length xc)) (by simp [results, Tryz.f4, go_sem, r0, r1, r2, r3, r4]) rfl ?_
      obtain ⟨hE1, hE2⟩ := HFIN.out _ (((((setAt _ _ _ _).trans (setAt _ _ _ _) (fun _ h _ => h)).trans (setAt _ _ _ _) (fun _ h _ => h)).trans (setAt _ _ _ _) (fun _ h _ => h)).trans (setAt _ _ _ _) (fun _ h _ => h))
      first | exact ⟨_, _, rfl, hE1, List.length_set, hE2⟩ | exact ⟨_, rfl, _, hE1, List.length_set, hE2⟩
  · skip
    have hI' := HCR.out.cutR (Nat.le_of_lt hpc)
    have hU' : Upd (fun j => j = gc) w4 (w4) := Upd.refl _ _
    obtain ⟨⟨z, hz⟩, hfz, hbA, hrA, hE⟩ := HEND.out (w4) (some ⟨gc, 0, none⟩) pc capc _ hU' hI' (fun j hj => .inl (by simp [Value.ownBlock] at hj; omega))
    have HFIN := Lib.hid hE
    have cA0 := cells_at hbA 0 _ rfl
    have cA1 := cells_at hbA 1 _ rfl
    have cA2 := cells_at hbA 2 _ rfl
    have cA3 := cells_at hbA 3 _ rfl
    have cA4 := cells_at hbA 4 _ rfl
    have fA := cells_fr hbA 3
    have hbB := set_blk (j := 3) (v := .slice (some ⟨gm, 0, none⟩) I.methods.length capm) hbA
    have hrB := set_keep (p := ⟨w.heap.size, 3, none⟩) (v := .slice (some ⟨gm, 0, none⟩) I.methods.length capm) hrA (by simp)
    have cB0 := cells_at hbB 0 _ rfl
    have cB1 := cells_at hbB 1 _ rfl
    have cB2 := cells_at hbB 2 _ rfl
    have cB3 := cells_at hbB 3 _ rfl
    have cB4 := cells_at hbB 4 _ rfl
    have r0 := cells_at hrB 0 _ rfl
    have r1 := cells_at hrB 1 _ rfl
    have r2 := cells_at hrB 2 _ rfl
    have r3 := cells_at hrB 3 _ rfl
    have r4 := cells_at hrB 4 _ rfl
    have s0 := cells_fr hrB 0
    have s1 := cells_fr hrB 1
    have s2 := cells_fr hrB 2
    have s3 := cells_fr hrB 3
    have s4 := cells_fr hrB 4
    clear hE hbA hrA hbB hrB hI' hU'
    go_wp2_with fail
    all_goals
      refine bodyPost_ret (v := img5 I.name (.slice fa I.fields.length fc) (.slice ia I.imports.length ic) (.slice (some ⟨gm, 0, none⟩) I.methods.length capm) (.slice xa I.exports.length xc)) (by simp [results, Tryz.f4, go_sem, r0, r1, r2, r3, r4]) rfl ?_
      obtain ⟨hE1, hE2⟩ := HFIN.out _ (((((setAt _ _ _ _).trans (setAt _ _ _ _) (fun _ h _ => h)).trans (setAt _ _ _ _) (fun _ h _ => h)).trans (setAt _ _ _ _) (fun _ h _ => h)).trans (setAt _ _ _ _) (fun _ h _ => h))
      first | exact ⟨_, _, rfl, hE1, List.length_set, hE2⟩ | exact ⟨_, rfl, _, hE1, List.length_set, hE2⟩
  · skip
    go_wp2_with fail
    refine (hPickN _ _ _ (by omega) (by omega)).mono ?_
    rintro e _ ⟨k', rfl, hk', rfl⟩
    obtain ⟨C', hl, hCR'⟩ := HCR.out.setAll hpc (33) ((k' : Int)) (0) (by unfold wi64; omega) (by unfold wi64; omega) (by unfold wi64; omega)
    have hIn := hCR'.inss
    have hI' := hIn
    have hU' : Upd (fun j => j = gc) w4 (((w4.setCell ⟨gc, pc * 3, none⟩ (.int .i64 33)).setCell ⟨gc, pc * 3 + 1, none⟩ (.int .i64 (k' : Int))).setCell ⟨gc, pc * 3 + 2, none⟩ (.int .i64 0)) := ((setAt _ _ _ _).trans (setAt _ _ _ _) (fun _ h _ => h)).trans (setAt _ _ _ _) (fun _ h _ => h)
    obtain ⟨⟨z, hz⟩, hfz, hbA, hrA, hE⟩ := HEND.out (((w4.setCell ⟨gc, pc * 3, none⟩ (.int .i64 33)).setCell ⟨gc, pc * 3 + 1, none⟩ (.int .i64 (k' : Int))).setCell ⟨gc, pc * 3 + 2, none⟩ (.int .i64 0)) (some ⟨gc, 0, none⟩) C.length capc _ hU' hI' (fun j hj => .inl (by simp [Value.ownBlock] at hj; omega))
    have HFIN := Lib.hid hE
    have cA0 := cells_at hbA 0 _ rfl
    have cA1 := cells_at hbA 1 _ rfl
    have cA2 := cells_at hbA 2 _ rfl
    have cA3 := cells_at hbA 3 _ rfl
    have cA4 := cells_at hbA 4 _ rfl
    have fA := cells_fr hbA 3
    have hbB := set_blk (j := 3) (v := .slice (some ⟨gm, 0, none⟩) I.methods.length capm) hbA
    have hrB := set_keep (p := ⟨w.heap.size, 3, none⟩) (v := .slice (some ⟨gm, 0, none⟩) I.methods.length capm) hrA (by simp)
    have cB0 := cells_at hbB 0 _ rfl
    have cB1 := cells_at hbB 1 _ rfl
    have cB2 := cells_at hbB 2 _ rfl
    have cB3 := cells_at hbB 3 _ rfl
    have cB4 := cells_at hbB 4 _ rfl
    have r0 := cells_at hrB 0 _ rfl
    have r1 := cells_at hrB 1 _ rfl
    have r2 := cells_at hrB 2 _ rfl
    have r3 := cells_at hrB 3 _ rfl
    have r4 := cells_at hrB 4 _ rfl
    have s0 := cells_fr hrB 0
    have s1 := cells_fr hrB 1
    have s2 := cells_fr hrB 2
    have s3 := cells_fr hrB 3
    have s4 := cells_fr hrB 4
    clear hE hbA hrA hbB hrB hI' hU'
    go_wp2_with fail
    all_goals
      refine bodyPost_ret (v := img5 I.name (.slice fa I.fields.length fc) (.slice ia I.imports.length ic) (.slice (some ⟨gm, 0, none⟩) I.methods.length capm) (.slice xa I.exports.length xc)) (by simp [results, Tryz.f4, go_sem, r0, r1, r2, r3, r4]) rfl ?_
      obtain ⟨hE1, hE2⟩ := HFIN.out _ (((((setAt _ _ _ _).trans (setAt _ _ _ _) (fun _ h _ => h)).trans (setAt _ _ _ _) (fun _ h _ => h)).trans (setAt _ _ _ _) (fun _ h _ => h)).trans (setAt _ _ _ _) (fun _ h _ => h))
      first | exact ⟨_, _, rfl, hE1, List.length_set, hE2⟩ | exact ⟨_, rfl, _, hE1, List.length_set, hE2⟩
  · skip
    have e0 : ((qq : Int) == 0) = false := beq_eq_false_iff_ne.2 (by omega)
    have e1 : ((qq : Int) == 1) = false := beq_eq_false_iff_ne.2 (by omega)
    have e2 : ((qq : Int) == 2) = false := beq_eq_false_iff_ne.2 (by omega)
    have e3 : ((qq : Int) == 3) = false := beq_eq_false_iff_ne.2 (by omega)
    have e4 : ((qq : Int) == 4) = false := beq_eq_false_iff_ne.2 (by omega)
    have e5 : ((qq : Int) == 5) = false := beq_eq_false_iff_ne.2 (by omega)
    have e6 : ((qq : Int) == 6) = false := beq_eq_false_iff_ne.2 (by omega)
    have e7 : ((qq : Int) == 7) = false := beq_eq_false_iff_ne.2 (by omega)
    have e8 : ((qq : Int) == 8) = false := beq_eq_false_iff_ne.2 (by omega)
    have hI' := HCR.out.inss
    have hU' : Upd (fun j => j = gc) w4 (w4) := Upd.refl _ _
    obtain ⟨⟨z, hz⟩, hfz, hbA, hrA, hE⟩ := HEND.out (w4) (some ⟨gc, 0, none⟩) C.length capc _ hU' hI' (fun j hj => .inl (by simp [Value.ownBlock] at hj; omega))
    have HFIN := Lib.hid hE
    have cA0 := cells_at hbA 0 _ rfl
    have cA1 := cells_at hbA 1 _ rfl
    have cA2 := cells_at hbA 2 _ rfl
    have cA3 := cells_at hbA 3 _ rfl
    have cA4 := cells_at hbA 4 _ rfl
    have fA := cells_fr hbA 3
    have hbB := set_blk (j := 3) (v := .slice (some ⟨gm, 0, none⟩) I.methods.length capm) hbA
    have hrB := set_keep (p := ⟨w.heap.size, 3, none⟩) (v := .slice (some ⟨gm, 0, none⟩) I.methods.length capm) hrA (by simp)
    have cB0 := cells_at hbB 0 _ rfl
    have cB1 := cells_at hbB 1 _ rfl
    have cB2 := cells_at hbB 2 _ rfl
    have cB3 := cells_at hbB 3 _ rfl
    have cB4 := cells_at hbB 4 _ rfl
    have r0 := cells_at hrB 0 _ rfl
    have r1 := cells_at hrB 1 _ rfl
    have r2 := cells_at hrB 2 _ rfl
    have r3 := cells_at hrB 3 _ rfl
    have r4 := cells_at hrB 4 _ rfl
    have s0 := cells_fr hrB 0
    have s1 := cells_fr hrB 1
    have s2 := cells_fr hrB 2
    have s3 := cells_fr hrB 3
    have s4 := cells_fr hrB 4
    clear hE hbA hrA hbB hrB hI' hU'
    go_wp2_with fail
    all_goals
      refine bodyPost_ret (v := img5 I.name (.slice fa I.fields.length fc) (.slice ia I.imports.length ic) (.slice (some ⟨gm, 0, none⟩) I.methods.length capm) (.slice xa I.exports.length xc)) (by simp [results, Tryz.f4, go_sem, r0, r1, r2, r3, r4]) rfl ?_
      obtain ⟨hE1, hE2⟩ := HFIN.out _ (((((setAt _ _ _ _).trans (setAt _ _ _ _) (fun _ h _ => h)).trans (setAt _ _ _ _) (fun _ h _ => h)).trans (setAt _ _ _ _) (fun _ h _ => h)).trans (setAt _ _ _ _) (fun _ h _ => h))
      first | exact ⟨_, _, rfl, hE1, List.length_set, hE2⟩ | exact ⟨_, rfl, _, hE1, List.length_set, hE2⟩
end Go.Proofs.YtmikibcgphkcfaaGreatDoor

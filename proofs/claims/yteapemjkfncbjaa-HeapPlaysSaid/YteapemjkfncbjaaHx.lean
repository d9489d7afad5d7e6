/- HeapPlays: the program's heap and the reference's side by side. -/
import Derived.Test.YteapemjkfncbjaaHm
import Derived.Test.YteapemjkfncbjaaHr
import Derived.Test.YteapemjkfncbjaaHu
import Derived.Test.YteapemjkfncbjaaHw
namespace Go.Proofs.Yteapemjkfncbjaa
open Go.RowKit Go.Lib Go.ChangeShapes Go.WideShapes Go.Deep
set_option linter.unusedVariables false
set_option linter.unusedSimpArgs false

/-- both heaps hold the same; the reference's lies in K -/
structure Both (K : Nat → Prop) (W w : World) (b c : Nat) (m : HpM) : Prop where
  own : Own K W w b m
  ref : Hep RT K w c m
  new : ∀ q, K q → W.heap.size ≤ q
/-- the program's heap alone has made its step -/
structure Half (K : Nat → Prop) (W w : World) (b c : Nat) (m m' : HpM) : Prop where
  own : Own K W w b m'
  ref : Hep RT K w c m
  new : ∀ q, K q → W.heap.size ≤ q
section
variable {K : Nat → Prop} {W w w' : World} {b c : Nat} {m m' : HpM}
theorem Both.half (h : Both K W w b c m) (ho : OwnTo K W w w' b m') : Half K W w' b c m m' :=
  ⟨ho.own, h.ref.upd ho.step (fun q hq hq' => hq'.2 hq), h.new⟩
theorem Half.both (h : Half K W w b c m m') (hr : Hep RT (More K w w') w' c m') (hu : Upd K w w') : Both (More K w w') W w' b c m' :=
  ⟨h.own.turnK hu h.new (fun q hq => hq), hr, fun q hq => by
    rcases hq with hq | hq
    · exact h.new q hq
    · have := h.own.up.size; omega⟩
theorem Both.quiet (h : Both K W w b c m) (hu : Upd (fun _ => False) w w') : Both K W w' b c m :=
  ⟨(h.own.quiet hu).own, h.ref.upd hu (fun _ _ h => h), h.new⟩
theorem qSet {F : Nat → Prop} (h : Hep RT F w c m) (hl : m.arrs.length ≤ 1000) {i : Nat} (hi : i < m.arrs.length) (hi2 : i < 2) (v : Value) (ys : List Int) (hv : Vw w v ys) (hl64 : ys.length ≤ 64) :
    Calls Try.prog 18 #[.pointer (some ⟨c, 0, none⟩), .int .i64 ((i : Int) + 1), v] w fun e w' => e = .returned (.bool true) ∧ Hep RT (More F w w') w' c (m.lay i ys) ∧ Upd F w w' := by
  obtain ⟨av, R, h, hR⟩ := h
  obtain ⟨hr, e⟩ := fst_at hR hi
  refine (rSet h (by rw [fst_len hR]; exact hl) hr hi2 v ys hv hl64).mono ?_
  rintro x w' ⟨rfl, ⟨av', d, h1⟩, h2⟩
  refine ⟨rfl, ⟨av', _, h1, ?_⟩, h2⟩
  rw [fst_set hR, e]
  rfl
/-- Put of one byte -/
theorem qPut {F : Nat → Prop} (h : Hep RT F w c m) (hl : m.arrs.length ≤ 1000) {i : Nat} (hi : i < m.arrs.length) {j : Nat} (hj : j < (m.arrs.getD i default).data.length) (v : Value) (y : Int) (hv : Vw w v [y]) :
    Calls Try.prog 14 #[.pointer (some ⟨c, 0, none⟩), .int .i64 ((i : Int) + 1), .int .i64 j, v] w fun e w' => e = .returned (.tuple #[]) ∧ Hep RT (More F w w') w' c (m.put i j y) ∧ Upd F w w' := by
  obtain ⟨av, R, h, hR⟩ := h
  obtain ⟨hr, e⟩ := fst_at hR hi
  refine (rPut h (by rw [fst_len hR]; exact hl) hr j v [y] hv (by rw [e]; simp only [List.length_singleton]; omega)).mono ?_
  rintro x w' ⟨rfl, ⟨av', d, h1⟩, h2⟩
  refine ⟨rfl, ⟨av', _, h1, ?_⟩, h2⟩
  rw [fst_set hR, e]
  rfl
theorem qAlloc_no {F : Nat → Prop} (h : Hep RT F w c m) (hl : m.arrs.length ≤ 1000) (hs : 0 ≤ m.size ∧ m.size ≤ 4096) (own lab life n : Int) (sh : Bool) (hf : fitsB m lab life n = false) :
    Calls Try.prog 25 #[.pointer (some ⟨c, 0, none⟩), .int .i64 own, .int .i64 lab, .int .i64 life, .bool sh, .int .i64 n] w fun e w' => e = .returned (.tuple #[.int .i64 0, .bool false]) ∧ Upd (fun _ => False) w w' := by
  obtain ⟨av, R, h, hR⟩ := h
  exact rAlloc_no h (by rw [fst_len hR]; exact hl) hs own lab life n sh (by rw [hR]; exact hf)
theorem qAlloc {F : Nat → Prop} (h : Hep RT F w c m) (hl : m.arrs.length ≤ 1000) (h0 : 0 < m.arrs.length) (hs : 0 ≤ m.size ∧ m.size ≤ 4096) (own lab life n : Int) (sh : Bool) (hf : fitsB m lab life n = true) :
    Calls Try.prog 25 #[.pointer (some ⟨c, 0, none⟩), .int .i64 own, .int .i64 lab, .int .i64 life, .bool sh, .int .i64 n] w fun e w' => e = .returned (.tuple #[.int .i64 ((m.arrs.length + 1 : Nat) : Int), .bool true]) ∧ Hep RT (More F w w') w' c (m.add (newA own lab life sh n)) ∧ Upd F w w' := by
  obtain ⟨av, R, h, hR⟩ := h
  obtain ⟨h1, h2, h3, h4, h5⟩ := fits_yes (sz := m.size) (L := m.arrs) hf
  obtain ⟨n, rfl⟩ := Int.eq_ofNat_of_zero_le h3
  rw [← fst_len hR]
  rcases lab34 h1 with rfl | rfl
  · refine (rAlloc3 h (by rw [fst_len hR]; exact hl) (by rw [fst_len hR]; exact h0) hs own life n sh (by rw [hR]; exact hf)).mono ?_
    rintro x w' ⟨rfl, ⟨av', d, h1⟩, h2⟩
    refine ⟨rfl, ⟨av', _, h1, ?_⟩, h2⟩
    rw [List.map_append, hR]
    rfl
  · refine (rAlloc4 h (by rw [fst_len hR]; exact hl) (by rw [fst_len hR]; exact h0) hs own life n sh (by rw [hR]; exact hf)).mono ?_
    rintro x w' ⟨rfl, ⟨av', d, h1⟩, h2⟩
    refine ⟨rfl, ⟨av', _, h1, ?_⟩, h2⟩
    rw [List.map_append, hR]
    rfl
theorem okL_add {L : List ArrM} (h : okL L) {a : ArrM} (ha : 0 ≤ a.life ∧ a.life ≤ 2) : okL (L ++ [a]) := by
  obtain ⟨h1, h2, h3⟩ := h
  refine ⟨by simp; omega, fun j hj => ?_, fun x hx => ?_⟩
  · have : (L ++ [a]).getD j default = L.getD j default := by simp [List.getD, List.getElem?_append_left (by omega : j < L.length)]
    rw [this]; exact h2 j hj
  · rcases List.mem_append.1 hx with hx | hx
    · exact h3 x hx
    · simp at hx; rw [hx]; exact ha
theorem okL_map {L : List ArrM} (h : okL L) (f : ArrM → ArrM) (hf : ∀ a, (f a).life = a.life) : okL (L.map f) := by
  obtain ⟨h1, h2, h3⟩ := h
  refine ⟨by simpa using h1, fun j hj => ?_, fun x hx => ?_⟩
  · have := h2 j hj
    simp only [List.getD, List.getElem?_map] at this ⊢
    rw [List.getElem?_eq_getElem (by omega)] at this ⊢
    simpa [hf] using this
  · obtain ⟨y, hy, rfl⟩ := List.mem_map.1 hx
    rw [hf]; exact h3 y hy
theorem okL_lay {m : HpM} (h : okL m.arrs) (i : Nat) (hi : i < m.arrs.length) (ys : List Int) : okL (m.lay i ys).arrs := by
  obtain ⟨h1, h2, h3⟩ := h
  refine ⟨by simpa [HpM.lay] using h1, fun j hj => ?_, fun x hx => ?_⟩
  · by_cases e : i = j
    · subst e
      have := h2 i hj
      simp [HpM.lay, List.getD, hi, ArrM.put] at this ⊢
      exact this
    · have := h2 j hj
      simp [HpM.lay, List.getD, e] at this ⊢
      exact this
  · rcases List.mem_or_eq_of_mem_set (show x ∈ m.arrs.set i _ from hx) with hx | rfl
    · exact h3 x hx
    · have := h3 (m.arrs.getD i default) (by simp [List.getD, hi])
      exact this
end
end Go.Proofs.Yteapemjkfncbjaa

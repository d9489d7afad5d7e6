/- Package heap: its methods, said of the plain heap. -/
import Derived.Test.YtmfiamoeagnmmaaHh
namespace Go.Proofs.Ytmfiamoeagnmmaa
open Go.RowKit Go.ChangeShapes Go.WideShapes Go.Deep
set_option linter.unusedVariables false
set_option linter.unusedSimpArgs false

theorem fst_at {R : List (ArrM × Value)} {L : List ArrM} (h : R.map Prod.fst = L) {i : Nat} (hi : i < L.length) : ∃ hr : i < R.length, R[i].1 = L.getD i default := by
  subst h
  have hr : i < R.length := by simpa using hi
  exact ⟨hr, by simp [List.getD, hr]⟩
theorem fst_len {R : List (ArrM × Value)} {L : List ArrM} (h : R.map Prod.fst = L) : R.length = L.length := by rw [← h]; simp
theorem fst_set {R : List (ArrM × Value)} {L : List ArrM} (h : R.map Prod.fst = L) (i : Nat) (a : ArrM) (d : Value) : (R.set i (a, d)).map Prod.fst = L.set i a := by rw [List.map_set, h]
abbrev HT : TypeId := 62
section
variable {F : Nat → Prop} {w : World} {b : Nat} {m : HpM}
theorem pCount (h : Hep HT F w b m) : Calls Try.prog 13 #[.pointer (some ⟨b, 0, none⟩)] w fun e w' => e = .returned (.int .i64 (m.arrs.length : Int)) ∧ w = w' := by
  obtain ⟨av, R, h, hR⟩ := h
  rw [← fst_len hR]
  exact hCount h
theorem pUsed (h : Hep HT F w b m) (hl : m.arrs.length ≤ 1000) : Calls Try.prog 49 #[.pointer (some ⟨b, 0, none⟩)] w fun e w' => e = .returned (.int .i64 (usedP m.arrs : Int)) ∧ Upd (fun _ => False) w w' := by
  obtain ⟨av, R, h, hR⟩ := h
  have := hUsed h (by rw [fst_len hR]; exact hl)
  rw [hR] at this
  exact this
theorem pGet_none (h : Hep HT F w b m) (ref at_ : Int) (hr : hasB m.arrs.length ref = false) : Calls Try.prog 42 #[.pointer (some ⟨b, 0, none⟩), .int .i64 ref, .int .i64 at_] w fun e w' => e = .returned (.tuple #[.int .u8 0, .bool false]) ∧ w = w' := by
  obtain ⟨av, R, h, hR⟩ := h
  exact hGet_none h ref at_ (by rw [fst_len hR]; exact hr)
theorem pGet_out (h : Hep HT F w b m) {i : Nat} (hi : i < m.arrs.length) (hl : m.arrs.length ≤ 1000) (at_ : Int) (ha : at_ < 0 ∨ ((m.arrs.getD i default).data.length : Int) ≤ at_) : Calls Try.prog 42 #[.pointer (some ⟨b, 0, none⟩), .int .i64 ((i : Int) + 1), .int .i64 at_] w fun e w' => e = .returned (.tuple #[.int .u8 0, .bool false]) ∧ w = w' := by
  obtain ⟨av, R, h, hR⟩ := h
  obtain ⟨hr, e⟩ := fst_at hR hi
  exact hGet_out h hr (by rw [fst_len hR]; exact hl) at_ (by rw [e]; exact ha)
theorem pGet (h : Hep HT F w b m) {i : Nat} (hi : i < m.arrs.length) (hl : m.arrs.length ≤ 1000) {j : Nat} (hj : j < (m.arrs.getD i default).data.length) : Calls Try.prog 42 #[.pointer (some ⟨b, 0, none⟩), .int .i64 ((i : Int) + 1), .int .i64 j] w fun e w' => e = .returned (.tuple #[.int .u8 ((m.arrs.getD i default).data.getD j 0), .bool true]) ∧ w = w' := by
  obtain ⟨av, R, h, hR⟩ := h
  obtain ⟨hr, e⟩ := fst_at hR hi
  rw [← e] at hj ⊢
  exact hGet h hr (by rw [fst_len hR]; exact hl) hj
theorem pPut_none (h : Hep HT F w b m) (ref at_ y : Int) (hr : hasB m.arrs.length ref = false) : Calls Try.prog 43 #[.pointer (some ⟨b, 0, none⟩), .int .i64 ref, .int .i64 at_, .int .u8 y] w fun e w' => e = .returned (.bool false) ∧ w = w' := by
  obtain ⟨av, R, h, hR⟩ := h
  exact hPut_none h ref at_ y (by rw [fst_len hR]; exact hr)
theorem pPut_out (h : Hep HT F w b m) {i : Nat} (hi : i < m.arrs.length) (hl : m.arrs.length ≤ 1000) (at_ y : Int) (ha : at_ < 0 ∨ ((m.arrs.getD i default).data.length : Int) ≤ at_) : Calls Try.prog 43 #[.pointer (some ⟨b, 0, none⟩), .int .i64 ((i : Int) + 1), .int .i64 at_, .int .u8 y] w fun e w' => e = .returned (.bool false) ∧ w = w' := by
  obtain ⟨av, R, h, hR⟩ := h
  obtain ⟨hr, e⟩ := fst_at hR hi
  exact hPut_out h hr (by rw [fst_len hR]; exact hl) at_ y (by rw [e]; exact ha)
theorem pPut (h : Hep HT F w b m) {i : Nat} (hi : i < m.arrs.length) (hl : m.arrs.length ≤ 1000) {j : Nat} (hj : j < (m.arrs.getD i default).data.length) (y : Int) (hy : 0 ≤ y ∧ y ≤ 255) : Calls Try.prog 43 #[.pointer (some ⟨b, 0, none⟩), .int .i64 ((i : Int) + 1), .int .i64 j, .int .u8 y] w fun e w' => e = .returned (.bool true) ∧ Hep HT F w' b (m.put i j y) ∧ Upd F w w' := by
  obtain ⟨av, R, h, hR⟩ := h
  obtain ⟨hr, e⟩ := fst_at hR hi
  rw [← e] at hj
  refine (hPut h hr (by rw [fst_len hR]; exact hl) hj y hy).mono ?_
  rintro x w' ⟨rfl, h1, h2⟩
  refine ⟨rfl, ⟨av, _, h1, ?_⟩, h2⟩
  rw [fst_set hR, e]
  rfl
theorem pArray_no (h : Hep HT F w b m) (ref : Int) (hr : hasB m.arrs.length ref = false) : Calls Try.prog 14 #[.pointer (some ⟨b, 0, none⟩), .int .i64 ref] w fun e w' => e = .returned (.tuple #[zarr, .bool false]) ∧ Upd (fun _ => False) w w' := by
  obtain ⟨av, R, h, hR⟩ := h
  exact hArray_no h ref (by rw [fst_len hR]; exact hr)
theorem pArray (h : Hep HT F w b m) {i : Nat} (hi : i < m.arrs.length) (hl : m.arrs.length ≤ 1000) : Calls Try.prog 14 #[.pointer (some ⟨b, 0, none⟩), .int .i64 ((i : Int) + 1)] w fun e w' => ∃ d, e = .returned (.tuple #[aval (m.arrs.getD i default) d, .bool true]) ∧ New w d (m.arrs.getD i default).data w' := by
  obtain ⟨av, R, h, hR⟩ := h
  obtain ⟨hr, e⟩ := fst_at hR hi
  rw [← e]
  exact hArray h hr (by rw [fst_len hR]; exact hl)
theorem pAlloc_no (h : Hep HT F w b m) (hl : m.arrs.length ≤ 1000) (hs : 0 ≤ m.size ∧ m.size ≤ 4096) (own lab life n : Int) (sh : Bool) (hf : fitsB m lab life n = false) :
    Calls Try.prog 39 #[.pointer (some ⟨b, 0, none⟩), .int .i64 own, .int .i64 lab, .int .i64 life, .bool sh, .int .i64 n] w fun e w' => e = .returned (.tuple #[.int .i64 0, .bool false]) ∧ Upd (fun _ => False) w w' := by
  obtain ⟨av, R, h, hR⟩ := h
  exact hAlloc_no h (by rw [fst_len hR]; exact hl) hs own lab life n sh (by rw [hR]; exact hf)
theorem pAlloc (h : Hep HT F w b m) (hl : m.arrs.length ≤ 1000) (hs : 0 ≤ m.size ∧ m.size ≤ 4096) (own lab life n : Int) (sh : Bool) (hf : fitsB m lab life n = true) :
    Calls Try.prog 39 #[.pointer (some ⟨b, 0, none⟩), .int .i64 own, .int .i64 lab, .int .i64 life, .bool sh, .int .i64 n] w fun e w' => e = .returned (.tuple #[.int .i64 ((m.arrs.length + 1 : Nat) : Int), .bool true]) ∧ Hep HT (More F w w') w' b (m.add (newA own lab life sh n)) ∧ Upd F w w' := by
  obtain ⟨av, R, h, hR⟩ := h
  rw [← fst_len hR]
  refine (hAlloc h (by rw [fst_len hR]; exact hl) hs own lab life n sh (by rw [hR]; exact hf)).mono ?_
  rintro x w' ⟨rfl, ⟨av', d, h1⟩, h2⟩
  refine ⟨rfl, ⟨av', _, h1, ?_⟩, h2⟩
  rw [List.map_append, hR]
  rfl
theorem pSet_no (h : Hep HT F w b m) (ref : Int) (v : Value) (ys : List Int) (hv : Vw w v ys) (hf : bufB ref = false ∨ 64 < ys.length) :
    Calls Try.prog 36 #[.pointer (some ⟨b, 0, none⟩), .int .i64 ref, v] w fun e w' => e = .returned (.bool false) ∧ w = w' := by
  obtain ⟨av, R, h, hR⟩ := h
  exact hSet_no h ref v ys hv hf
theorem pSet (h : Hep HT F w b m) {i : Nat} (hi : i < m.arrs.length) (hi2 : i < 2) (v : Value) (ys : List Int) (hv : Vw w v ys) (hl : ys.length ≤ 64) :
    Calls Try.prog 36 #[.pointer (some ⟨b, 0, none⟩), .int .i64 ((i : Int) + 1), v] w fun e w' => e = .returned (.bool true) ∧ Hep HT (More F w w') w' b (m.lay i ys) ∧ Upd F w w' := by
  obtain ⟨av, R, h, hR⟩ := h
  obtain ⟨hr, e⟩ := fst_at hR hi
  refine (hSet h hr hi2 v ys hv hl).mono ?_
  rintro x w' ⟨rfl, ⟨d, h1⟩, h2⟩
  refine ⟨rfl, ⟨av, _, h1, ?_⟩, h2⟩
  rw [fst_set hR, e]
  rfl
theorem pCopy (h : Hep HT F w b m) (hl : m.arrs.length ≤ 1000) :
    Calls Try.prog 11 #[.pointer (some ⟨b, 0, none⟩)] w fun e w' => ∃ b', e = .returned (.pointer (some ⟨b', 0, none⟩)) ∧ Hep HT (Since w w') w' b' m ∧ Upd (fun _ => False) w w' := by
  obtain ⟨av, R, h, hR⟩ := h
  refine (hCopy h (by rw [fst_len hR]; exact hl)).mono ?_
  rintro x w' ⟨b', av', R', rfl, h1, h2, h3⟩
  exact ⟨b', rfl, ⟨av', R', h1, h2.trans hR⟩, h3⟩
theorem pNew (s : Int) (h1 : 64 ≤ s) (h2 : s ≤ 4096) : Calls Try.prog 19 #[.int .i64 s] w fun e w' => ∃ b, e = .returned (.tuple #[.pointer (some ⟨b, 0, none⟩), .int .i64 0]) ∧ Hep HT (Since w w') w' b (two s) ∧ Upd (fun _ => False) w w' := hNew s w h1 h2
end
end Go.Proofs.Ytmfiamoeagnmmaa

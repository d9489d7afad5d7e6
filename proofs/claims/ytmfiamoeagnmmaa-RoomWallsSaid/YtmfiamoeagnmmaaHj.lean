/- Package heap: a heap of the law's own; the law's known; HeapKnown. -/
import Derived.Test.YtmfiamoeagnmmaaHi
import Derived.Below
namespace Go.Proofs.Ytmfiamoeagnmmaa
open Go.RowKit Go.ChangeShapes Go.WideShapes Go.Deep
set_option linter.unusedVariables false
set_option linter.unusedSimpArgs false

theorem Hep.wide {t : TypeId} {F G : Nat → Prop} {w : World} {b : Nat} {m : HpM} (h : Hep t F w b m) (hF : ∀ k, F k → G k) (hG : ∀ k, G k → k < w.heap.size) : Hep t G w b m := by
  obtain ⟨av, R, h, hR⟩ := h
  exact ⟨av, R, h.wide hF hG, hR⟩
/-- what may be turned of a heap that was made since w0, where K is kept -/
def Ours (K : Nat → Prop) (w0 w : World) (k : Nat) : Prop := Since w0 w k ∧ ¬ K k
/-- a heap that was made since w0, beside what is kept; nothing of w0 is turned -/
structure Own (K : Nat → Prop) (w0 w : World) (b : Nat) (m : HpM) : Prop where
  hp : Hep HT (Ours K w0 w) w b m
  up : Upd (fun _ => False) w0 w
  kl : ∀ k, K k → k < w.heap.size
/-- the same heap later, turned or not; what is kept is as it was -/
structure OwnTo (K : Nat → Prop) (w0 w w' : World) (b : Nat) (m : HpM) : Prop where
  own : Own K w0 w' b m
  step : Upd (Ours K w0 w) w w'
section
variable {K K' : Nat → Prop} {w0 w w' : World} {b : Nat} {m m' : HpM}
theorem Own.more (h : Own K w0 w b m) (h1 : Hep HT (More (Ours K w0 w) w w') w' b m') (h2 : Upd (Ours K w0 w) w w') : OwnTo K w0 w w' b m' := by
  have s1 := h.up.size
  have s2 := h2.size
  refine ⟨⟨h1.wide (fun k hk => ?_) (fun k hk => hk.1.2), h.up.trans h2 (fun k hk hl => by have := hk.1.1; omega), fun k hk => Nat.lt_of_lt_of_le (h.kl k hk) s2⟩, h2⟩
  rcases hk with hk | hk
  · exact ⟨⟨hk.1.1, by have := hk.1.2; omega⟩, hk.2⟩
  · exact ⟨⟨by omega, hk.2⟩, fun hK => by have := h.kl k hK; omega⟩
theorem Own.same (h : Own K w0 w b m) (h1 : Hep HT (Ours K w0 w) w' b m') (h2 : Upd (Ours K w0 w) w w') : OwnTo K w0 w w' b m' := by
  have s1 := h.up.size
  have s2 := h2.size
  exact ⟨⟨h1.wide (fun k hk => ⟨⟨hk.1.1, by have := hk.1.2; omega⟩, hk.2⟩) (fun k hk => hk.1.2), h.up.trans h2 (fun k hk hl => by have := hk.1.1; omega), fun k hk => Nat.lt_of_lt_of_le (h.kl k hk) s2⟩, h2⟩
theorem Own.quiet (h : Own K w0 w b m) (h2 : Upd (fun _ => False) w w') : OwnTo K w0 w w' b m :=
  h.same (h.hp.upd h2 (fun _ _ h => h)) (h2.mono (fun _ h _ => h.elim))
/-- what the law turned of its own, which is kept from the heap -/
theorem Own.aside (h : Own K w0 w b m) (h2 : Upd K w w') (hK : ∀ k, K k → w0.heap.size ≤ k) : Own K w0 w' b m := by
  have s1 := h.up.size
  have s2 := h2.size
  exact ⟨(h.hp.upd h2 (fun k hk hk' => hk.2 hk')).wide (fun k hk => ⟨⟨hk.1.1, by have := hk.1.2; omega⟩, hk.2⟩) (fun k hk => hk.1.2), h.up.trans h2 (fun k hk hl => by have := hK k hk; omega), fun k hk => Nat.lt_of_lt_of_le (h.kl k hk) s2⟩
/-- something that was made since w is kept, too -/
theorem Own.keep (h : Own K w0 w b m) (h2 : Upd (fun _ => False) w w') (hK : ∀ k, K' k → K k ∨ (w.heap.size ≤ k ∧ k < w'.heap.size)) : Own K' w0 w' b m := by
  have s1 := h.up.size
  have s2 := h2.size
  refine ⟨(h.hp.upd h2 (fun _ _ h => h)).wide (fun k hk => ⟨⟨hk.1.1, by have := hk.1.2; omega⟩, fun hk' => ?_⟩) (fun k hk => hk.1.2), h.up.trans h2 (fun _ h _ => h), fun k hk => ?_⟩
  · rcases hK k hk' with h | h
    · exact hk.2 h
    · have := hk.1.2; omega
  · rcases hK k hk with h3 | h3
    · have := h.kl k h3; omega
    · exact h3.2
theorem oNew (hu : Upd (fun _ => False) w0 w) (hK : ∀ k, K k → k < w.heap.size) (s : Int) (h1 : 64 ≤ s) (h2 : s ≤ 4096) : Calls Try.prog 19 #[.int .i64 s] w fun e w' => ∃ b, e = .returned (.tuple #[.pointer (some ⟨b, 0, none⟩), .int .i64 0]) ∧ Own K w0 w' b (two s) ∧ Upd (fun _ => False) w w' := by
  refine (pNew s h1 h2).mono ?_
  rintro e w' ⟨b, rfl, k1, k2⟩
  have := hu.size
  have := k2.size
  exact ⟨b, rfl, ⟨k1.wide (fun k hk => ⟨⟨by have := hk.1; omega, hk.2⟩, fun h => by have := hK k h; have := hk.1; omega⟩) (fun k hk => hk.1.2), hu.trans k2 (fun _ h _ => h), fun k hk => by have := hK k hk; omega⟩, k2⟩
theorem oAlloc (h : Own K w0 w b m) (hl : m.arrs.length ≤ 1000) (hs : 0 ≤ m.size ∧ m.size ≤ 4096) (own lab life n : Int) (sh : Bool) (hf : fitsB m lab life n = true) :
    Calls Try.prog 39 #[.pointer (some ⟨b, 0, none⟩), .int .i64 own, .int .i64 lab, .int .i64 life, .bool sh, .int .i64 n] w fun e w' => e = .returned (.tuple #[.int .i64 ((m.arrs.length + 1 : Nat) : Int), .bool true]) ∧ OwnTo K w0 w w' b (m.add (newA own lab life sh n)) :=
  (pAlloc h.hp hl hs own lab life n sh hf).mono fun e w' ⟨h1, h2, h3⟩ => ⟨h1, h.more h2 h3⟩
theorem oAlloc_no (h : Own K w0 w b m) (hl : m.arrs.length ≤ 1000) (hs : 0 ≤ m.size ∧ m.size ≤ 4096) (own lab life n : Int) (sh : Bool) (hf : fitsB m lab life n = false) :
    Calls Try.prog 39 #[.pointer (some ⟨b, 0, none⟩), .int .i64 own, .int .i64 lab, .int .i64 life, .bool sh, .int .i64 n] w fun e w' => e = .returned (.tuple #[.int .i64 0, .bool false]) ∧ OwnTo K w0 w w' b m :=
  (pAlloc_no h.hp hl hs own lab life n sh hf).mono fun e w' ⟨h1, h2⟩ => ⟨h1, h.quiet h2⟩
theorem oPut (h : Own K w0 w b m) {i : Nat} (hi : i < m.arrs.length) (hl : m.arrs.length ≤ 1000) {j : Nat} (hj : j < (m.arrs.getD i default).data.length) (y : Int) (hy : 0 ≤ y ∧ y ≤ 255) : Calls Try.prog 43 #[.pointer (some ⟨b, 0, none⟩), .int .i64 ((i : Int) + 1), .int .i64 j, .int .u8 y] w fun e w' => e = .returned (.bool true) ∧ OwnTo K w0 w w' b (m.put i j y) :=
  (pPut h.hp hi hl hj y hy).mono fun e w' ⟨h1, h2, h3⟩ => ⟨h1, h.same h2 h3⟩
theorem oUsed (h : Own K w0 w b m) (hl : m.arrs.length ≤ 1000) : Calls Try.prog 49 #[.pointer (some ⟨b, 0, none⟩)] w fun e w' => e = .returned (.int .i64 (usedP m.arrs : Int)) ∧ OwnTo K w0 w w' b m :=
  (pUsed h.hp hl).mono fun e w' ⟨h1, h2⟩ => ⟨h1, h.quiet h2⟩
theorem oArray (h : Own K w0 w b m) {i : Nat} (hi : i < m.arrs.length) (hl : m.arrs.length ≤ 1000) : Calls Try.prog 14 #[.pointer (some ⟨b, 0, none⟩), .int .i64 ((i : Int) + 1)] w fun e w' => ∃ d, e = .returned (.tuple #[aval (m.arrs.getD i default) d, .bool true]) ∧ New w d (m.arrs.getD i default).data w' ∧ OwnTo K w0 w w' b m :=
  (pArray h.hp hi hl).mono fun e w' ⟨d, h1, h2⟩ => ⟨d, h1, h2, h.quiet h2.2.1⟩
theorem oSet (h : Own K w0 w b m) {i : Nat} (hi : i < m.arrs.length) (hi2 : i < 2) (v : Value) (ys : List Int) (hv : Vw w v ys) (hl : ys.length ≤ 64) :
    Calls Try.prog 36 #[.pointer (some ⟨b, 0, none⟩), .int .i64 ((i : Int) + 1), v] w fun e w' => e = .returned (.bool true) ∧ OwnTo K w0 w w' b (m.lay i ys) :=
  (pSet h.hp hi hi2 v ys hv hl).mono fun e w' ⟨h1, h2, h3⟩ => ⟨h1, h.more h2 h3⟩
end
/-- nothing is kept -/
def Free (_ : Nat) : Prop := False
def k1M : HpM := (two 64).add (newA 0 3 0 false 56)
end Go.Proofs.Ytmfiamoeagnmmaa

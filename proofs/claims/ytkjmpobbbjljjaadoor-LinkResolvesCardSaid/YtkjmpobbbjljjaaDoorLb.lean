/- Lists of kinds: how a list of numbers reads and lies; few, ints; plain facts on lists, element by element. -/
import Derived.Test.YtkjmpobbbjljjaaDoorLa
import Derived.Test.YtkjmpobbbjljjaaDoorIa
import Derived.Test.YtkjmpobbbjljjaaDoorBytes
import Derived.Lib.SmallJoins
import Derived.Deep.RegionLaw
import Derived.Deep.QuietTactic
import Derived.BigQuiet
import Derived.OpenShut
namespace Go.Proofs.YtkjmpobbbjljjaaDoor
open Go.RowKit Go.Lib Go.ChangeShapes Go.WideShapes
set_option linter.unusedVariables false

theorem lbInfo : (Tryd.prog.info? 3).map (fun i => (i.zero, i.size, i.bytes)) = some (some (.int .i64 0), 1, 8) := by kernel_rfl
theorem lbSrc (w : World) (e : TypeId) (cs : Array Value) (sz : Nat) (h1 : ∀ u ∈ cs.toList, u.oneCell' = true) (n c : Nat) (hn : cs.size = n * sz) :
    Src (w.alloc (.cells cs e)) sz (.slice (some ⟨w.heap.size, 0, none⟩) n c) n cs.toList := by
  refine .inr ⟨_, _, rfl, by simpa using hn, fun j u hj => ?_, h1⟩
  have hadd : (⟨w.heap.size, 0, none⟩ : Addr).add j = ⟨w.heap.size, j, none⟩ := by unfold Addr.add; split <;> simp_all
  rw [hadd]
  show (match (w.heap.push _)[w.heap.size]? with | some (.cells c _ _) => _ | _ => _) = _
  simpa using hj
def lv (L : List Int) : List Value := L.map (.int .i64)
theorem lv_len (L : List Int) : (lv L).length = L.length := by simp [lv]
def ORow (w : World) (v : Value) (L : List Int) : Prop := w.ownsRow 0 3 1 v L.length (lv L) ∧ ∀ y ∈ L, wi64 y
theorem ORow.ints {w : World} {v : Value} {L : List Int} (h : ORow w v L) : Ints w v L := by
  refine ⟨(Sl.own h.1).congr (fun i hi j hj => ?_), h.2⟩
  obtain rfl : j = 0 := by omega
  simp [lv, hi, List.getD]
theorem ORow.upd {w w' : World} {v : Value} {L : List Int} {S : Nat → Prop} (h : ORow w v L) (hu : Upd S w w') (hS : ∀ k, v.ownBlock = some k → ¬ S k) : ORow w' v L := ⟨ownsRow_upd h.1 hu hS, h.2⟩
theorem ORow.none (w : World) : ORow w (.slice none 0 0) [] := ⟨World.ownsRow_nil _ _ _ _, by simp⟩
theorem lbSet {w : World} {base : Nat} {e : TypeId} {size g n cap : Nat} {xs : List Value} (h : w.ownsRow base e size (.slice (some ⟨g, 0, Option.none⟩) n cap) n xs) (q : Nat) (u : Value) :
    (w.setCell ⟨g, q, Option.none⟩ u).ownsRow base e size (.slice (some ⟨g, 0, Option.none⟩) n cap) n (xs.set q u) := by
  obtain ⟨hl, h⟩ := h
  rcases h with ⟨h, _⟩ | ⟨g', cap', cur, he, hb, hg, hc, hm, hcs, ht⟩
  · simp at h
  · simp at he
    obtain ⟨rfl, rfl⟩ := he
    refine ⟨by simpa using hl, .inr ⟨g, cap, cur.setIfInBounds q u, rfl, hb, ?_, hc, hm, by simpa using hcs, ?_⟩⟩
    · simp [World.setCell, Array.getElem?_modify, hg]
    · rw [Array.toList_setIfInBounds, ← ht, List.take_set]
theorem lbFrozen {w : World} {base : Nat} {e : TypeId} {size g n cap : Nat} {xs : List Value} (h : w.ownsRow base e size (.slice (some ⟨g, 0, Option.none⟩) n cap) n xs) (q : Nat) : w.frozen? ⟨g, q, Option.none⟩ = false := by
  obtain ⟨hl, h⟩ := h
  rcases h with ⟨h, _⟩ | ⟨g', cap', cur, he, hb, hg, hc, hm, hcs, ht⟩
  · simp at h
  · simp at he
    obtain ⟨rfl, rfl⟩ := he
    simp [World.frozen?, hg]
theorem lbDrewN (S : Nat → Prop) (w : World) (n : Nat) : Upd S w (w.drewN n) := ⟨rfl, rfl, rfl, Nat.le_refl _, fun _ _ _ => rfl⟩
theorem lbBelow {w w' : World} (h : Upd (fun _ => False) w w') : Below w.heap.size w w' := h.below (Nat.le_refl _) (fun _ h => h.elim)
theorem lbMem {L : List Int} {k : Nat} (hk : k < L.length) : L.getD k 0 ∈ L := by simp [List.getD, hk]
theorem lbRet {x y : Bool} (h : x = y) : Ending.returned (.bool x) = Ending.returned (.bool y) := by rw [h]
theorem lbTake {L : List Int} {k : Nat} (f : Int → Int) (hk : k < L.length) : (L.map f).take (k + 1) = (L.map f).take k ++ [f (L.getD k 0)] := by
  have e : L.getD k 0 = L[k] := by simp [List.getD, hk]
  rw [List.take_succ_eq_append_getElem (by simpa using hk), e, List.getElem_map]
theorem ints_take {w : World} {a : Option Addr} {n c : Nat} {L : List Int} (h : Ints w (.slice a n c) L) {k : Nat} (hk : k ≤ L.length) : Ints w (.slice a k c) (L.take k) := by
  obtain ⟨⟨a', c', he, h1, h2, h3⟩, hw⟩ := h
  simp at he
  obtain ⟨rfl, rfl, rfl⟩ := he
  have hl : (L.take k).length = k := by simp; omega
  refine ⟨⟨a, c, by rw [hl], by omega, h2, ?_⟩, fun n hn => hw n (List.mem_of_mem_take hn)⟩
  rw [hl]
  rcases h3 with h0 | ⟨g, off, rfl, h4⟩
  · exact .inl (by omega)
  · refine .inr ⟨g, off, rfl, fun i hi j hj => ?_⟩
    rw [h4 i (by omega) j hj]
    simp [List.getD, hi]

/-- the same at every place of two lists as long as one another -/
def allB (f : Int → Int → Bool) (A B : List Int) : Bool := decide (A.length = B.length ∧ ∀ j, j < A.length → f (A.getD j 0) (B.getD j 0) = true)
theorem allB_len {f : Int → Int → Bool} {A B : List Int} (h : A.length ≠ B.length) : allB f A B = false := decide_eq_false (fun k => h k.1)
theorem allB_no {f : Int → Int → Bool} {A B : List Int} {k : Nat} (hk : k < A.length) (h : f (A.getD k 0) (B.getD k 0) = false) : allB f A B = false := decide_eq_false (fun c => by have := c.2 k hk; rw [h] at this; cases this)
theorem allB_yes {f : Int → Int → Bool} {A B : List Int} {k : Nat} (hl : A.length = B.length) (hk : A.length ≤ k) (h : ∀ j, j < k → f (A.getD j 0) (B.getD j 0) = true) : allB f A B = true := decide_eq_true ⟨hl, fun j hj => h j (by omega)⟩
theorem allB_iff {f : Int → Int → Bool} {A B : List Int} : allB f A B = true ↔ A.length = B.length ∧ ∀ j, j < A.length → f (A.getD j 0) (B.getD j 0) = true := decide_eq_true_iff
theorem upto_succ {f : Nat → Bool} {k : Nat} (h : ∀ j, j < k → f j = true) (hk : f k = true) : ∀ j, j < k + 1 → f j = true := by
  intro j hj
  rcases Nat.lt_or_ge j k with h1 | h1
  · exact h j h1
  · have : j = k := by omega
    rw [this]; exact hk
def joinL (A B : List Int) : List Int := (List.range A.length).map (fun j => joinV (A.getD j 0) (B.getD j 0))
theorem joinL_len (A B : List Int) : (joinL A B).length = A.length := by simp [joinL]
theorem joinL_at {A B : List Int} {k : Nat} (hk : k < A.length) : (joinL A B).getD k 0 = joinV (A.getD k 0) (B.getD k 0) := by simp [joinL, List.getD, hk]
theorem joinV_wi {a b : Int} (ha : wi64 a) (hb : wi64 b) : wi64 (joinV a b) := by
  unfold joinV; split
  · exact hb
  · split
    · exact ha
    · unfold wi64; omega
theorem getD_wi {L : List Int} (h : ∀ y ∈ L, wi64 y) (k : Nat) : wi64 (L.getD k 0) := by
  by_cases hk : k < L.length
  · exact h _ (lbMem hk)
  · simp [List.getD, hk]; unfold wi64; omega
theorem joinL_wi {A B : List Int} (ha : ∀ y ∈ A, wi64 y) (hb : ∀ y ∈ B, wi64 y) : ∀ y ∈ joinL A B, wi64 y := by
  intro y hy
  obtain ⟨j, _, rfl⟩ := List.mem_map.1 hy
  exact joinV_wi (getD_wi ha j) (getD_wi hb j)
/-- a list's first k, zeros behind -/
def midL (P : List Int) (k : Nat) : List Int := P.take k ++ List.replicate (P.length - k) 0
theorem midL_len {P : List Int} {k : Nat} (hk : k ≤ P.length) : (midL P k).length = P.length := by simp [midL]; omega
theorem midL_all {P : List Int} {k : Nat} (hk : P.length ≤ k) : midL P k = P := by
  unfold midL
  rw [List.take_of_length_le hk, show P.length - k = 0 by omega]; simp
theorem midL_set {P : List Int} {k : Nat} (hk : k < P.length) : (lv (midL P k)).set k (.int .i64 (P.getD k 0)) = lv (midL P (k + 1)) := by
  unfold lv
  rw [← List.map_set]
  congr 1
  unfold midL
  have e : P.getD k 0 = P[k] := by simp [List.getD, hk]
  rw [show P.length - k = (P.length - (k + 1)) + 1 by omega, List.replicate_succ, List.set_append_right _ _ (by simp; omega), e]
  simp only [List.length_take, Nat.min_eq_left (Nat.le_of_lt hk), Nat.sub_self, List.set_cons_zero]
  rw [List.take_succ_eq_append_getElem hk, List.append_assoc]
  rfl
theorem midL_wi {P : List Int} (h : ∀ y ∈ P, wi64 y) (k : Nat) : ∀ y ∈ midL P k, wi64 y := by
  intro y hy
  rcases List.mem_append.1 hy with h1 | h1
  · exact h y (List.mem_of_mem_take h1)
  · rw [List.eq_of_mem_replicate h1]; unfold wi64; omega

/-- an argument of numbers -/
theorem bounds64 {n : Int} (h : (Lit.int .i64 n).wf = true) : wi64 n := bounds_i64 h
theorem open_nums {H : Type} {enc : TypeId × Value → H} {W : World} {n : Nat} {v : Value} {x : DataW H × List MemPlace} (h : DataW.trod enc Tryd.prog W 0 (fun _ => true) true n 22 [v] = some x) :
    ∃ ys, Ints W v ys := by
  rcases open_ints Tryd.underlying22 Tryd.underlying3 (by kernel_rfl) h with ⟨hcs, hx⟩ | ⟨a, len, cap, zs, hcs, _, hl, hm, hz, hx, hcell, hwz⟩
  · simp at hcs
    subst hcs
    exact ⟨[], Sl.nil _ _ _, by simp⟩
  · simp at hcs
    subst hcs
    simp at hz
    have hlen : (zs.take len).length = len := by simp; omega
    refine ⟨zs.take len, ⟨a, cap, by rw [hlen], by omega, hm, ?_⟩, fun y hy => bounds64 (hwz y (List.mem_of_mem_take hy))⟩
    rw [hlen]
    obtain ⟨b, off, spot⟩ := a
    by_cases h0 : spot = none
    · subst h0
      refine .inr ⟨b, off, rfl, fun i hi j hj => ?_⟩
      have := hcell i (by omega)
      rw [addr_add] at this
      obtain rfl : j = 0 := by omega
      rw [Nat.mul_one, Nat.add_zero, this]
      simp [List.getD, hi]
    · refine .inl ?_
      rcases Nat.eq_zero_or_pos cap with h | h
      · omega
      · have := hcell 0 (by omega)
        have := World.cell?_spot this
        simp [Addr.add] at this
        exact absurd this h0

/-- what few makes of a number -/
def fewV (any : Bool) (x : Int) : Int := if (any && x.tmod 17 == 16) = true then x.tmod 7 else 1 + x % 4
def fewL (any : Bool) (L : List Int) : List Int := (L.map (fewV any)).take 10
theorem fewV_no {any : Bool} {x : Int} (h : (any && x.tmod 17 == 16) = false) : fewV any x = 1 + x % 4 := by unfold fewV; rw [h]; rfl
theorem fewV_yes {any : Bool} {x : Int} (h : (any && x.tmod 17 == 16) = true) : fewV any x = x.tmod 7 := by unfold fewV; rw [h]; rfl
theorem fewV_wi (any : Bool) (x : Int) : wi64 (fewV any x) := by
  unfold fewV wi64
  have := tmod_range x 7 (by omega)
  split <;> omega
theorem fewL_wi (any : Bool) (L : List Int) : ∀ y ∈ fewL any L, wi64 y := by
  intro y hy
  obtain ⟨x, _, rfl⟩ := List.mem_map.1 (List.mem_of_mem_take hy)
  exact fewV_wi any x
theorem fewL_len (any : Bool) (L : List Int) : (fewL any L).length ≤ 10 := by simp [fewL]; omega
theorem fewL_kind {L : List Int} : ∀ y ∈ fewL false L, y = 1 ∨ y = 2 ∨ y = 3 ∨ y = 4 := by
  intro y hy
  obtain ⟨x, _, rfl⟩ := List.mem_map.1 (List.mem_of_mem_take hy)
  rw [fewV_no (by rfl)]
  omega
theorem fewL_end {any : Bool} {L : List Int} {k : Nat} (h10 : k ≤ 10) (h : L.length ≤ k ∨ k = 10) : (L.map (fewV any)).take k = fewL any L := by
  unfold fewL
  rcases h with h | rfl
  · rw [List.take_of_length_le (by simpa using h), List.take_of_length_le (by simp; omega)]
  · rfl

end Go.Proofs.YtkjmpobbbjljjaaDoor

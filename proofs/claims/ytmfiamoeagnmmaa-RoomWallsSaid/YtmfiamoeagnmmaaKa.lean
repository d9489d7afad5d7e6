/- Package leak: events, plainly and in memory; a trace, and its calls. -/
import Derived.Test.YtmfiamoeagnmmaaHa
import Derived.Test.YtmfiamoeagnmmaaHand
import Derived.Deep.Light
import Derived.LoopTactic
namespace Go.Proofs.Ytmfiamoeagnmmaa
open Go.RowKit Go.Lib Go.ChangeShapes Go.WideShapes Go.Deep
set_option linter.unusedVariables false
set_option linter.unusedSimpArgs false

structure EvM where
  what : Int
  a : Int
  b : Int
  c : Int
deriving DecidableEq
instance : Inhabited EvM := ⟨⟨0, 0, 0, 0⟩⟩
def ecl (e : EvM) : List Value := [.int .i64 e.what, .int .i64 e.a, .int .i64 e.b, .int .i64 e.c]
def evV (e : EvM) : Value := .agg #[.int .i64 e.what, .int .i64 e.a, .int .i64 e.b, .int .i64 e.c]
theorem ecl_at : ∀ (R : List EvM) (i j : Nat) (hi : i < R.length), j < 4 → (R.flatMap ecl)[i * 4 + j]? = (ecl R[i])[j]?
  | [], i, j, hi, _ => by simp at hi
  | p :: R, 0, j, hi, hj => by
    rw [List.flatMap_cons, List.getElem?_append_left (by simp [ecl]; omega)]; simp
  | p :: R, i + 1, j, hi, hj => by
    rw [List.flatMap_cons, List.getElem?_append_right (by simp [ecl]; omega)]
    have := ecl_at R i j (by simpa using hi) hj
    rw [show (i + 1) * 4 + j - (ecl p).length = i * 4 + j by simp [ecl]; omega, this]; simp
theorem ecl_one (R : List EvM) : ∀ u ∈ R.flatMap ecl, u.oneCell' = true := by
  intro u hu
  obtain ⟨p, hp, hu⟩ := List.mem_flatMap.1 hu
  simp [ecl] at hu
  rcases hu with rfl | rfl | rfl | rfl <;> rfl
theorem ecl_len (R : List EvM) : (R.flatMap ecl).length = R.length * 4 := by
  induction R with
  | nil => rfl
  | cons p R ih => rw [List.flatMap_cons, List.length_append, ih, List.length_cons]; simp [ecl]; omega

def EvAt (w : World) (g off : Nat) (s : EvM) : Prop :=
  w.cell? ⟨g, off, none⟩ = some (.int .i64 s.what) ∧ w.cell? ⟨g, off + 1, none⟩ = some (.int .i64 s.a) ∧ w.cell? ⟨g, off + 2, none⟩ = some (.int .i64 s.b) ∧ w.cell? ⟨g, off + 3, none⟩ = some (.int .i64 s.c)
/-- a slice value that reads as these events -/
def Evs (w : World) (v : Value) (L : List EvM) : Prop :=
  ∃ a c, v = .slice a L.length c ∧ L.length ≤ c ∧ c ≤ maxLen ∧ (L = [] ∨ ∃ g off, a = some ⟨g, off, none⟩ ∧ ∀ i, i < L.length → EvAt w g (off + i * 4) (L.getD i default))
theorem EvAt.lt {w : World} {g off : Nat} {s : EvM} (h : EvAt w g off s) : g < w.heap.size := World.block_lt_of_cell? w _ h.1
theorem EvAt.upd {S : Nat → Prop} {w w' : World} {g off : Nat} {s : EvM} (h : EvAt w g off s) (hu : Upd S w w') (hS : ¬ S g) : EvAt w' g off s := by
  have hg := h.lt
  have k := fun q => hu.cell (p := ⟨g, q, none⟩) hg hS
  exact ⟨(k _).trans h.1, (k _).trans h.2.1, (k _).trans h.2.2.1, (k _).trans h.2.2.2⟩
theorem Evs.upd {S : Nat → Prop} {w w' : World} {v : Value} {L : List EvM} (h : Evs w v L) (hu : Upd S w w') (hS : ∀ k, v.ownBlock = some k → ¬ S k) : Evs w' v L := by
  obtain ⟨a, c, rfl, h1, h2, h3⟩ := h
  refine ⟨a, c, rfl, h1, h2, ?_⟩
  rcases h3 with h3 | ⟨g, off, rfl, h4⟩
  · exact .inl h3
  · exact .inr ⟨g, off, rfl, fun i hi => (h4 i hi).upd hu (hS g rfl)⟩
theorem Evs.below {W w : World} {v : Value} {L : List EvM} (h : Evs W v L) (hb : Below W.heap.size W w) : Evs w v L := by
  obtain ⟨a, c, rfl, h1, h2, h3⟩ := h
  refine ⟨a, c, rfl, h1, h2, ?_⟩
  rcases h3 with h3 | ⟨g, off, rfl, h4⟩
  · exact .inl h3
  · refine .inr ⟨g, off, rfl, fun i hi => ?_⟩
    have h := h4 i hi
    have hg := h.lt
    have k := fun q => hb.cell (p := ⟨g, q, none⟩) hg
    exact ⟨(k _).trans h.1, (k _).trans h.2.1, (k _).trans h.2.2.1, (k _).trans h.2.2.2⟩
theorem Evs.nil (w : World) : Evs w (.slice none 0 0) [] := ⟨none, 0, rfl, Nat.le_refl _, by unfold maxLen; omega, .inl rfl⟩
theorem Evs.slice {w : World} {v : Value} {L : List EvM} (h : Evs w v L) : ∃ a c, v = .slice a L.length c ∧ L.length ≤ c ∧ c ≤ maxLen := by
  obtain ⟨a, c, rfl, h1, h2, h3⟩ := h
  exact ⟨a, c, rfl, h1, h2⟩
theorem Evs.at {w : World} {a : Option Addr} {n c k : Nat} {L : List EvM} (h : Evs w (.slice a n c) L) (hk : k < L.length) : ∃ g off, a = some ⟨g, off, none⟩ ∧ g < w.heap.size ∧ EvAt w g (off + k * 4) (L.getD k default) := by
  obtain ⟨a', c', he, h1, h2, h3⟩ := h
  simp at he
  obtain ⟨rfl, -, rfl⟩ := he
  rcases h3 with rfl | ⟨g, off, rfl, h4⟩
  · simp at hk
  · exact ⟨g, off, rfl, (h4 k hk).lt, h4 k hk⟩
theorem Evs.take {w : World} {a : Option Addr} {n c k : Nat} {L : List EvM} (h : Evs w (.slice a n c) L) (hk : k ≤ L.length) : Evs w (.slice a k c) (L.take k) := by
  obtain ⟨a', c', he, h1, h2, h3⟩ := h
  simp at he
  obtain ⟨rfl, -, rfl⟩ := he
  have hl : (L.take k).length = k := by simp; omega
  refine ⟨a, c, by rw [hl], by omega, h2, ?_⟩
  rcases h3 with rfl | ⟨g, off, rfl, h4⟩
  · exact .inl (by simp)
  · refine .inr ⟨g, off, rfl, fun i hi => ?_⟩
    rw [hl] at hi
    have := h4 i (by omega)
    simpa [List.getD, hi] using this
theorem evs_of_row {w : World} {base : Nat} {v : Value} {L : List EvM} (h : w.ownsRow base 100 4 v L.length (L.flatMap ecl)) : Evs w v L := by
  rcases h.2 with ⟨rfl, h0⟩ | ⟨g, cap, cur, rfl, hb, hg, hc, hm, hcs, ht⟩
  · exact ⟨none, 0, by rw [h0], by omega, by unfold maxLen; omega, .inl (List.eq_nil_of_length_eq_zero h0)⟩
  · refine ⟨_, cap, rfl, hc, hm, .inr ⟨g, 0, rfl, fun i hi => ?_⟩⟩
    have hc := fun j (hj : j < 4) u (hu : (ecl L[i])[j]? = some u) => by
      have := h.cells (g := g) rfl (i * 4 + j) u (by rw [ecl_at L i j hi hj]; exact hu)
      rw [addr_add] at this
      exact this
    have e : L.getD i default = L[i] := by simp [List.getD, hi]
    rw [e]
    exact ⟨hc 0 (by omega) _ rfl, hc 1 (by omega) _ rfl, hc 2 (by omega) _ rfl, hc 3 (by omega) _ rfl⟩
theorem Evs.src {w : World} {v : Value} {L : List EvM} (h : Evs w v L) (h0 : L ≠ []) : Src w 4 v L.length (L.flatMap ecl) := by
  obtain ⟨a, c, rfl, h1, h2, h3⟩ := h
  rcases h3 with h3 | ⟨g, off, rfl, h4⟩
  · exact absurd h3 h0
  · refine .inr ⟨_, _, rfl, ecl_len L, fun t u ht => ?_, ecl_one L⟩
    have hlt : t < L.length * 4 := by
      have := (List.getElem?_eq_some_iff.1 ht).1
      rwa [ecl_len] at this
    have hi : t / 4 < L.length := by omega
    have hk := ecl_at L (t / 4) (t % 4) hi (by omega)
    rw [show t / 4 * 4 + t % 4 = t by omega, ht] at hk
    have e : L.getD (t / 4) default = L[t / 4] := by simp [List.getD, hi]
    have h5 := h4 (t / 4) hi
    rw [e] at h5
    rw [addr_add, show off + t = off + t / 4 * 4 + t % 4 by omega]
    obtain ⟨q0, q1, q2, q3⟩ := h5
    rcases (by omega : t % 4 = 0 ∨ t % 4 = 1 ∨ t % 4 = 2 ∨ t % 4 = 3) with h | h | h | h <;> rw [h] at hk ⊢ <;> simp [ecl] at hk <;> rw [hk] <;> assumption

/-- a trace in memory, in the blocks F: its box, the list's row -/
structure Tr (F : Nat → Prop) (w : World) (b : Nat) (ev : Value) (L : List EvM) : Prop where
  box : w.heap[b]? = some (.cells #[ev] 98 (0, 0))
  row : w.ownsRow 0 100 4 ev L.length (L.flatMap ecl)
  fb : F b
  fr : ∀ k, ev.ownBlock = some k → F k
  lt : ∀ k, F k → k < w.heap.size
def Trc (F : Nat → Prop) (w : World) (b : Nat) (L : List EvM) : Prop := ∃ ev, Tr F w b ev L
def EMore (F : Nat → Prop) (w w' : World) (k : Nat) : Prop := F k ∨ (w.heap.size ≤ k ∧ k < w'.heap.size)
def ESince (w w' : World) (k : Nat) : Prop := w.heap.size ≤ k ∧ k < w'.heap.size
section
variable {F G : Nat → Prop} {w w' : World} {b : Nat} {ev : Value} {L : List EvM}
theorem Trc.upd {S : Nat → Prop} (h : Trc F w b L) (hu : Upd S w w') (hS : ∀ k, F k → ¬ S k) : Trc F w' b L := by
  obtain ⟨ev, h⟩ := h
  exact ⟨ev, hpBlk hu h.box (hS b h.fb), ownsRow_upd h.row hu (fun k hk => hS k (h.fr k hk)), h.fb, h.fr, fun k hk => Nat.lt_of_lt_of_le (h.lt k hk) hu.size⟩
theorem Trc.lt (h : Trc F w b L) : ∀ k, F k → k < w.heap.size := by
  obtain ⟨ev, h⟩ := h
  exact h.lt
theorem Trc.inn (h : Trc F w b L) : F b := by
  obtain ⟨ev, h⟩ := h
  exact h.fb
theorem Tr.bx (h : Tr F w b ev L) : w.cell? ⟨b, 0, none⟩ = some ev ∧ ∀ q, w.frozen? ⟨b, q, none⟩ = false := by
  have := h.box
  refine ⟨by simp [World.cell?, this], fun q => by simp [World.frozen?, this]⟩
theorem evInfo : (Try.prog.info? 100).map (fun i => (i.zero, i.size, i.bytes)) = some (some (evV default), 4, 32) := by kernel_rfl
theorem eTop (w : World) (o : Obj) (k : Nat) (h : k = w.heap.size) : (w.alloc o).heap[k]? = some o := by
  subst h
  show (w.heap.push o)[w.heap.size]? = _
  simp
end
end Go.Proofs.Ytmfiamoeagnmmaa

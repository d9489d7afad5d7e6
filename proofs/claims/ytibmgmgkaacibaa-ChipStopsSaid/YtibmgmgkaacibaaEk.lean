/- Package leak's calls in one text, beside mem and thumb: an event, a trace in memory, New, Add, At, Len, Same. -/
import Derived.Test.YtibmgmgkaacibaaBase
import Derived.Test.YtibmgmgkaacibaaHand
import Derived.Deep.Light
import Derived.LoopTactic
import Derived.Laws.StructEq
import Derived.Deep.QuietTactic
import Derived.Deep.RegionHeld3
import Derived.WalkLawsBesides
import Derived.OpenShut
import Derived.Deep.Slices
import Derived.Deep.Fields
import Derived.ChangeSame
import Derived.Carry
import Derived.ProofKit
namespace Go.Proofs.Ytibmgmgkaacibaa
open Go.RowKit Go.Lib Go.ChangeShapes Go.WideShapes Go.Deep
set_option linter.unusedVariables false
set_option linter.unusedSimpArgs false
theorem khpBlk {S : Nat → Prop} {w w' : World} {k : Nat} {o : Obj} (hu : Upd S w w') (h : w.heap[k]? = some o) (hS : ¬ S k) : w'.heap[k]? = some o := (hu.block k (Array.getElem?_eq_some_iff.1 h).1 hS).trans h
theorem khpBoxNe {w : World} {base : Nat} {e e' : TypeId} {sz n b : Nat} {v : Value} {xs : List Value} {C : Array Value} {fr : Nat × Nat} (h : w.ownsRow base e sz v n xs) (h' : w.heap[b]? = some (.cells C e' fr)) (he : e ≠ e') : ¬ v.ownBlock = some b := by
  intro hk
  rcases h.2 with ⟨rfl, _⟩ | ⟨g, cap, cur, rfl, _, hg, _⟩
  · simp [Value.ownBlock] at hk
  · simp [Value.ownBlock] at hk
    subst hk
    rw [hg] at h'
    simp at h'
    exact he h'.2.1
theorem khpRowLt {w : World} {base : Nat} {e : TypeId} {sz n : Nat} {v : Value} {xs : List Value} (h : w.ownsRow base e sz v n xs) : ∀ k, v.ownBlock = some k → k < w.heap.size := by
  intro k hk
  rcases h.2 with ⟨rfl, _⟩ | ⟨g, cap, cur, rfl, _, hg, _⟩
  · simp [Value.ownBlock] at hk
  · simp [Value.ownBlock] at hk
    subst hk
    exact (Array.getElem?_eq_some_iff.1 hg).1
section kA


structure EvM where
  what : Int
  a : Int
  b : Int
  c : Int
deriving DecidableEq
instance : Inhabited EvM := ⟨⟨0, 0, 0, 0⟩⟩
def ecl (e : EvM) : List Value := [.int .i64 e.what, .int .i64 e.a, .int .i64 e.b, .int .i64 e.c]
def evV (e : EvM) : Value := .agg #[.int .i64 e.what, .int .i64 e.a, .int .i64 e.b, .int .i64 e.c]
theorem ecl_at : ∀ (R : List EvM) (i j : Nat) (hi : i < R.length), j < 4 → (R.flatMap ecl)[i * 4 + j]? = (ecl R[i])[j]?
  | [], i, j, hi, _ => by simp at hi
  | p :: R, 0, j, hi, hj => by
    rw [List.flatMap_cons, List.getElem?_append_left (by simp [ecl]; omega)]; simp
  | p :: R, i + 1, j, hi, hj => by
    rw [List.flatMap_cons, List.getElem?_append_right (by simp [ecl]; omega)]
    have := ecl_at R i j (by simpa using hi) hj
    rw [show (i + 1) * 4 + j - (ecl p).length = i * 4 + j by simp [ecl]; omega, this]; simp
theorem ecl_one (R : List EvM) : ∀ u ∈ R.flatMap ecl, u.oneCell' = true := by
  intro u hu
  obtain ⟨p, hp, hu⟩ := List.mem_flatMap.1 hu
  simp [ecl] at hu
  rcases hu with rfl | rfl | rfl | rfl <;> rfl
theorem ecl_len (R : List EvM) : (R.flatMap ecl).length = R.length * 4 := by
  induction R with
  | nil => rfl
  | cons p R ih => rw [List.flatMap_cons, List.length_append, ih, List.length_cons]; simp [ecl]; omega

def EvAt (w : World) (g off : Nat) (s : EvM) : Prop :=
  w.cell? ⟨g, off, none⟩ = some (.int .i64 s.what) ∧ w.cell? ⟨g, off + 1, none⟩ = some (.int .i64 s.a) ∧ w.cell? ⟨g, off + 2, none⟩ = some (.int .i64 s.b) ∧ w.cell? ⟨g, off + 3, none⟩ = some (.int .i64 s.c)
/-- a slice value that reads as these events -/
def Evs (w : World) (v : Value) (L : List EvM) : Prop :=
  ∃ a c, v = .slice a L.length c ∧ L.length ≤ c ∧ c ≤ maxLen ∧ (L = [] ∨ ∃ g off, a = some ⟨g, off, none⟩ ∧ ∀ i, i < L.length → EvAt w g (off + i * 4) (L.getD i default))
theorem EvAt.lt {w : World} {g off : Nat} {s : EvM} (h : EvAt w g off s) : g < w.heap.size := World.block_lt_of_cell? w _ h.1
theorem EvAt.upd {S : Nat → Prop} {w w' : World} {g off : Nat} {s : EvM} (h : EvAt w g off s) (hu : Upd S w w') (hS : ¬ S g) : EvAt w' g off s := by
  have hg := h.lt
  have k := fun q => hu.cell (p := ⟨g, q, none⟩) hg hS
  exact ⟨(k _).trans h.1, (k _).trans h.2.1, (k _).trans h.2.2.1, (k _).trans h.2.2.2⟩
theorem Evs.upd {S : Nat → Prop} {w w' : World} {v : Value} {L : List EvM} (h : Evs w v L) (hu : Upd S w w') (hS : ∀ k, v.ownBlock = some k → ¬ S k) : Evs w' v L := by
  obtain ⟨a, c, rfl, h1, h2, h3⟩ := h
  refine ⟨a, c, rfl, h1, h2, ?_⟩
  rcases h3 with h3 | ⟨g, off, rfl, h4⟩
  · exact .inl h3
  · exact .inr ⟨g, off, rfl, fun i hi => (h4 i hi).upd hu (hS g rfl)⟩
theorem Evs.below {W w : World} {v : Value} {L : List EvM} (h : Evs W v L) (hb : Below W.heap.size W w) : Evs w v L := by
  obtain ⟨a, c, rfl, h1, h2, h3⟩ := h
  refine ⟨a, c, rfl, h1, h2, ?_⟩
  rcases h3 with h3 | ⟨g, off, rfl, h4⟩
  · exact .inl h3
  · refine .inr ⟨g, off, rfl, fun i hi => ?_⟩
    have h := h4 i hi
    have hg := h.lt
    have k := fun q => hb.cell (p := ⟨g, q, none⟩) hg
    exact ⟨(k _).trans h.1, (k _).trans h.2.1, (k _).trans h.2.2.1, (k _).trans h.2.2.2⟩
theorem Evs.nil (w : World) : Evs w (.slice none 0 0) [] := ⟨none, 0, rfl, Nat.le_refl _, by unfold maxLen; omega, .inl rfl⟩
theorem Evs.slice {w : World} {v : Value} {L : List EvM} (h : Evs w v L) : ∃ a c, v = .slice a L.length c ∧ L.length ≤ c ∧ c ≤ maxLen := by
  obtain ⟨a, c, rfl, h1, h2, h3⟩ := h
  exact ⟨a, c, rfl, h1, h2⟩
theorem Evs.at {w : World} {a : Option Addr} {n c k : Nat} {L : List EvM} (h : Evs w (.slice a n c) L) (hk : k < L.length) : ∃ g off, a = some ⟨g, off, none⟩ ∧ g < w.heap.size ∧ EvAt w g (off + k * 4) (L.getD k default) := by
  obtain ⟨a', c', he, h1, h2, h3⟩ := h
  simp at he
  obtain ⟨rfl, -, rfl⟩ := he
  rcases h3 with rfl | ⟨g, off, rfl, h4⟩
  · simp at hk
  · exact ⟨g, off, rfl, (h4 k hk).lt, h4 k hk⟩
theorem Evs.take {w : World} {a : Option Addr} {n c k : Nat} {L : List EvM} (h : Evs w (.slice a n c) L) (hk : k ≤ L.length) : Evs w (.slice a k c) (L.take k) := by
  obtain ⟨a', c', he, h1, h2, h3⟩ := h
  simp at he
  obtain ⟨rfl, -, rfl⟩ := he
  have hl : (L.take k).length = k := by simp; omega
  refine ⟨a, c, by rw [hl], by omega, h2, ?_⟩
  rcases h3 with rfl | ⟨g, off, rfl, h4⟩
  · exact .inl (by simp)
  · refine .inr ⟨g, off, rfl, fun i hi => ?_⟩
    rw [hl] at hi
    have := h4 i (by omega)
    simpa [List.getD, hi] using this
theorem evs_of_row {w : World} {base : Nat} {v : Value} {L : List EvM} (h : w.ownsRow base 51 4 v L.length (L.flatMap ecl)) : Evs w v L := by
  rcases h.2 with ⟨rfl, h0⟩ | ⟨g, cap, cur, rfl, hb, hg, hc, hm, hcs, ht⟩
  · exact ⟨none, 0, by rw [h0], by omega, by unfold maxLen; omega, .inl (List.eq_nil_of_length_eq_zero h0)⟩
  · refine ⟨_, cap, rfl, hc, hm, .inr ⟨g, 0, rfl, fun i hi => ?_⟩⟩
    have hc := fun j (hj : j < 4) u (hu : (ecl L[i])[j]? = some u) => by
      have := h.cells (g := g) rfl (i * 4 + j) u (by rw [ecl_at L i j hi hj]; exact hu)
      rw [addr_add] at this
      exact this
    have e : L.getD i default = L[i] := by simp [List.getD, hi]
    rw [e]
    exact ⟨hc 0 (by omega) _ rfl, hc 1 (by omega) _ rfl, hc 2 (by omega) _ rfl, hc 3 (by omega) _ rfl⟩
theorem Evs.src {w : World} {v : Value} {L : List EvM} (h : Evs w v L) (h0 : L ≠ []) : Src w 4 v L.length (L.flatMap ecl) := by
  obtain ⟨a, c, rfl, h1, h2, h3⟩ := h
  rcases h3 with h3 | ⟨g, off, rfl, h4⟩
  · exact absurd h3 h0
  · refine .inr ⟨_, _, rfl, ecl_len L, fun t u ht => ?_, ecl_one L⟩
    have hlt : t < L.length * 4 := by
      have := (List.getElem?_eq_some_iff.1 ht).1
      rwa [ecl_len] at this
    have hi : t / 4 < L.length := by omega
    have hk := ecl_at L (t / 4) (t % 4) hi (by omega)
    rw [show t / 4 * 4 + t % 4 = t by omega, ht] at hk
    have e : L.getD (t / 4) default = L[t / 4] := by simp [List.getD, hi]
    have h5 := h4 (t / 4) hi
    rw [e] at h5
    rw [addr_add, show off + t = off + t / 4 * 4 + t % 4 by omega]
    obtain ⟨q0, q1, q2, q3⟩ := h5
    rcases (by omega : t % 4 = 0 ∨ t % 4 = 1 ∨ t % 4 = 2 ∨ t % 4 = 3) with h | h | h | h <;> rw [h] at hk ⊢ <;> simp [ecl] at hk <;> rw [hk] <;> assumption

/-- a trace in memory, in the blocks F: its box, the list's row -/
structure Tr (F : Nat → Prop) (w : World) (b : Nat) (ev : Value) (L : List EvM) : Prop where
  box : w.heap[b]? = some (.cells #[ev] 74 (0, 0))
  row : w.ownsRow 0 51 4 ev L.length (L.flatMap ecl)
  fb : F b
  fr : ∀ k, ev.ownBlock = some k → F k
  lt : ∀ k, F k → k < w.heap.size
def Trc (F : Nat → Prop) (w : World) (b : Nat) (L : List EvM) : Prop := ∃ ev, Tr F w b ev L
def EMore (F : Nat → Prop) (w w' : World) (k : Nat) : Prop := F k ∨ (w.heap.size ≤ k ∧ k < w'.heap.size)
def ESince (w w' : World) (k : Nat) : Prop := w.heap.size ≤ k ∧ k < w'.heap.size
section
variable {F G : Nat → Prop} {w w' : World} {b : Nat} {ev : Value} {L : List EvM}
theorem Trc.upd {S : Nat → Prop} (h : Trc F w b L) (hu : Upd S w w') (hS : ∀ k, F k → ¬ S k) : Trc F w' b L := by
  obtain ⟨ev, h⟩ := h
  exact ⟨ev, khpBlk hu h.box (hS b h.fb), ownsRow_upd h.row hu (fun k hk => hS k (h.fr k hk)), h.fb, h.fr, fun k hk => Nat.lt_of_lt_of_le (h.lt k hk) hu.size⟩
theorem Trc.lt (h : Trc F w b L) : ∀ k, F k → k < w.heap.size := by
  obtain ⟨ev, h⟩ := h
  exact h.lt
theorem Trc.inn (h : Trc F w b L) : F b := by
  obtain ⟨ev, h⟩ := h
  exact h.fb
theorem Tr.bx (h : Tr F w b ev L) : w.cell? ⟨b, 0, none⟩ = some ev ∧ ∀ q, w.frozen? ⟨b, q, none⟩ = false := by
  have := h.box
  refine ⟨by simp [World.cell?, this], fun q => by simp [World.frozen?, this]⟩
theorem evInfo : (Try.prog.info? 51).map (fun i => (i.zero, i.size, i.bytes)) = some (some (evV default), 4, 32) := by kernel_rfl
theorem eTop (w : World) (o : Obj) (k : Nat) (h : k = w.heap.size) : (w.alloc o).heap[k]? = some o := by
  subst h
  show (w.heap.push o)[w.heap.size]? = _
  simp
theorem tNew (w : World) : Calls Try.prog 11 #[] w fun e w' => ∃ b, e = .returned (.pointer (some ⟨b, 0, none⟩)) ∧ Trc (ESince w w') w' b [] ∧ Upd (fun _ => False) w w' := by
  go_enter Try.func11, Try.ntmps11
  go_wp2_with fail
  go_ret
  refine ⟨_, rfl, ⟨.slice none 0 0, ?_, World.ownsRow_nil _ _ _ _, ?_, by simp [Value.ownBlock], fun k hk => hk.2⟩, Upd.alloc _ _ _⟩
  · exact eTop _ _ _ rfl
  · exact ⟨Nat.le_refl _, by simp⟩
/-- what 'list' tells -/
theorem tList (h : Tr F w b ev L) : Calls Try.prog 45 #[.pointer (some ⟨b, 0, none⟩)] w fun e w' => e = .returned ev ∧ w = w' := by
  obtain ⟨h0, h1⟩ := h.bx
  obtain ⟨a, c, rfl⟩ := ownsRow_slice h.row
  clear h h1
  go_enter Try.func45, Try.ntmps45
  go_wp2_with fail
  go_ret
  exact ⟨rfl, rfl⟩
theorem tList_nil (w : World) : Calls Try.prog 45 #[.pointer none] w fun e w' => e = .returned (.slice none 0 0) ∧ w = w' := by
  go_enter Try.func45, Try.ntmps45
  go_wp2_with fail
  go_ret
  exact ⟨rfl, rfl⟩
theorem tLen (h : Trc F w b L) : Calls Try.prog 21 #[.pointer (some ⟨b, 0, none⟩)] w fun e w' => e = .returned (.int .i64 (L.length : Int)) ∧ w = w' := by
  obtain ⟨ev, h⟩ := h
  obtain ⟨a, c, rfl⟩ := ownsRow_slice h.row
  have HL := Lib.hid (tList h)
  clear h
  go_enter Try.func21, Try.ntmps21
  go_wp2_with (refine HL.out.mono ?_; rintro e w' ⟨rfl, rfl⟩)
  go_ret
  exact ⟨rfl, rfl⟩
end
end kA
section kB


theorem eS {S : Nat → Prop} {w w' : World} {p : Addr} {u : Value} (h : Upd S w w') (hp : S p.block) : Upd S w (w'.setCell p u) := h.trans (Upd.setCell (S := S) w' (.inl hp) u) (fun _ h _ => h)
theorem four {w : World} {g : Nat} {v0 v1 v2 v3 : Value} {t : TypeId} (h : w.heap[g]? = some (.cells #[v0, v1, v2, v3] t (0, 0))) :
    w.cell? ⟨g, 0, none⟩ = some v0 ∧ w.cell? ⟨g, 1, none⟩ = some v1 ∧ w.cell? ⟨g, 2, none⟩ = some v2 ∧ w.cell? ⟨g, 3, none⟩ = some v3 ∧ ∀ q, w.frozen? ⟨g, q, none⟩ = false := by
  refine ⟨?_, ?_, ?_, ?_, fun q => by simp [World.frozen?, h]⟩ <;> simp [World.cell?, h]
theorem src4 (w : World) (e : TypeId) (x y z t : Value) (h1 : ∀ u ∈ [x, y, z, t], u.oneCell' = true) (n c : Nat) (hn : 1 = n) :
    Src (w.alloc (.cells #[x, y, z, t] e)) 4 (.slice (some ⟨w.heap.size, 0, none⟩) n c) n [x, y, z, t] := by
  subst hn
  refine .inr ⟨_, _, rfl, rfl, fun j u hj => ?_, h1⟩
  rw [addr_add]
  show (match (w.heap.push _)[w.heap.size]? with | some (.cells c _ _) => _ | _ => _) = _
  simpa using hj
section
variable {F G : Nat → Prop} {w w' : World} {b : Nat} {ev : Value} {L : List EvM}
theorem Trc.len (h : Trc F w b L) : L.length ≤ maxLen := by
  obtain ⟨ev, h⟩ := h
  rcases h.row.2 with ⟨_, h0⟩ | ⟨g, cap, cur, rfl, hb, hg, hc, hm, hcs, ht⟩
  · omega
  · omega
theorem tAdd_full (h : Trc F w b L) (hl : 200000 ≤ L.length) (x a b' c : Int) : Calls Try.prog 53 #[.pointer (some ⟨b, 0, none⟩), .int .i64 x, .int .i64 a, .int .i64 b', .int .i64 c] w fun e w' => e = .returned (.bool false) ∧ w = w' := by
  obtain ⟨ev, h⟩ := h
  obtain ⟨h0, h1⟩ := h.bx
  obtain ⟨la, lc, rfl⟩ := ownsRow_slice h.row
  have hl2 : (200000 : Int) ≤ (L.length : Int) := by omega
  clear h h1
  go_enter Try.func53, Try.ntmps53
  go_wp2_with fail
  all_goals first
    | (exfalso; omega)
    | (go_ret; exact ⟨rfl, rfl⟩)
set_option maxRecDepth 100000 in
set_option maxHeartbeats 1000000 in
theorem tAdd (h : Trc F w b L) (hl : L.length < 200000) (x a b' c : Int) : Calls Try.prog 53 #[.pointer (some ⟨b, 0, none⟩), .int .i64 x, .int .i64 a, .int .i64 b', .int .i64 c] w fun e w' => e = .returned (.bool true) ∧ Trc (EMore F w w') w' b (L ++ [⟨x, a, b', c⟩]) ∧ Upd F w w' := by
  obtain ⟨i0, hi, hz0, hz1, hz2⟩ := info_parts evInfo
  obtain ⟨ev, h⟩ := h
  obtain ⟨h0, h1⟩ := h.bx
  obtain ⟨la, lc, rfl⟩ := ownsRow_slice h.row
  have H := Lib.hid h
  have HS := Lib.hid (src4 w 51 (.int .i64 x) (.int .i64 a) (.int .i64 b') (.int .i64 c) (by simp [Value.oneCell']) 1 1 rfl)
  have hal := Upd.alloc (fun _ => False) w (.cells #[.int .i64 x, .int .i64 a, .int .i64 b', .int .i64 c] 51)
  have HRW := Lib.hid (ownsRow_upd h.row hal (fun _ _ h => h))
  have HAL := Lib.hid hal
  have hbl : b < w.heap.size := (Array.getElem?_eq_some_iff.1 h.box).1
  have f0 := h1 0
  have hl2 : decide ((200000 : Int) ≤ (L.length : Int)) = false := by simp; omega
  have hl3 : decide ((L.length : Int) ≥ 200000) = false := by simp; omega
  have HLL := Lib.hid hl
  clear h h1 hal hl
  go_enter Try.func53, Try.ntmps53
  go_wp2_with (at_builtin; go_loud (refine wpList_append_mine _ rfl _ _ 45 rfl 0 51 i0 (evV default) 4 32 Try.underlying45 hi hz0 hz1 hz2 rfl (by decide) (.slice la L.length lc) L.length (L.flatMap ecl) rfl HRW.out 1 _ HS.out (by have := HLL.out; unfold maxLen; omega) (by have := HLL.out; omega) (Nat.zero_le _) ?_))
  all_goals first
    | (exfalso; omega)
    | skip
  intro v' w1 ho hg hf
  obtain ⟨va, vc, rfl⟩ := ownsRow_slice ho
  have hu1 : Upd (fun k => (Value.slice la L.length lc).ownBlock = some k) w w1 := Upd.row HAL.out hg
  have hnb : ¬ (Value.slice la L.length lc).ownBlock = some b := khpBoxNe H.out.row H.out.box (by decide)
  have hx : w1.heap[b]? = some (.cells #[.slice la L.length lc] 74 (0, 0)) := khpBlk hu1 H.out.box hnb
  have c0 : w1.cell? ⟨b, 0, none⟩ = some (.slice la L.length lc) := by simp [World.cell?, hx]
  have c1 : w1.frozen? ⟨b, 0, none⟩ = false := by simp [World.frozen?, hx]
  have HX := Lib.hid hx
  have HO := Lib.hid ho
  have HF := Lib.hid hf
  have HU1 := Lib.hid hu1
  clear ho hg hf hu1 hnb hx h0 f0
  go_wp2_with fail
  go_ret
  have hu2 : Upd (fun k => k = b) w1 (w1.setCell ⟨b, 0, none⟩ (.slice va (L.length + 1) vc)) := Upd.setCell (S := fun k => k = b) w1 (p := ⟨b, 0, none⟩) (.inl rfl) _
  have hsz : (w1.setCell ⟨b, 0, none⟩ (.slice va (L.length + 1) vc)).heap.size = w1.heap.size := by simp [World.setCell]
  refine ⟨rfl, ⟨.slice va (L.length + 1) vc, ?_, ?_, .inl H.out.fb, ?_, ?_⟩, ?_⟩
  · simp [World.setCell, Array.getElem?_modify, HX.out]
  · have hr : w1.ownsRow 0 51 4 (.slice va (L.length + 1) vc) (L ++ [(⟨x, a, b', c⟩ : EvM)]).length ((L ++ [(⟨x, a, b', c⟩ : EvM)]).flatMap ecl) := by
      rw [List.length_append, List.flatMap_append]
      exact HO.out
    exact ownsRow_upd hr hu2 (fun k hk hkb => khpBoxNe hr HX.out (by decide) (by rw [← hkb]; exact hk))
  · intro k hk
    rcases HF.out k hk with h | h
    · exact .inl (H.out.fr k h)
    · refine .inr ⟨by simp at h; omega, ?_⟩
      rw [hsz]
      exact khpRowLt HO.out k hk
  · intro k hk
    rw [hsz]
    rcases hk with hk | hk
    · exact Nat.lt_of_lt_of_le (H.out.lt k hk) HU1.out.size
    · rw [hsz] at hk; exact hk.2
  · exact (HU1.out.mono (T := F) (fun k hk _ => H.out.fr k hk)).trans (hu2.mono (T := F) (fun k hk _ => by rw [hk]; exact H.out.fb)) (fun _ h _ => h)
theorem tAt_no (h : Trc F w b L) (i : Int) (hi : i < 0 ∨ (L.length : Int) ≤ i) : Calls Try.prog 22 #[.pointer (some ⟨b, 0, none⟩), .int .i64 i] w fun e w' => e = .returned (.tuple #[evV default, .bool false]) ∧ Upd (fun _ => False) w w' := by
  obtain ⟨w1, hw1⟩ : ∃ w1, w1 = w.alloc (.cells #[.int .i64 0, .int .i64 0, .int .i64 0, .int .i64 0] 51) := ⟨_, rfl⟩
  have hu1 : Upd (fun _ => False) w w1 := by rw [hw1]; exact Upd.alloc _ _ _
  have hx : w1.heap[w.heap.size]? = some (.cells #[.int .i64 0, .int .i64 0, .int .i64 0, .int .i64 0] 51 (0, 0)) := by rw [hw1]; exact eTop _ _ _ rfl
  obtain ⟨ev, h⟩ := h.upd hu1 (fun _ _ h => h)
  have HT := Lib.hid (tList h)
  obtain ⟨la, lc, rfl⟩ := ownsRow_slice h.row
  obtain ⟨c0, c1, c2, c3, cf⟩ := four hx
  have f0 := cf 0; have f1 := cf 1; have f2 := cf 2; have f3 := cf 3
  have HU := Lib.hid hu1
  have HW := Lib.hid hw1
  clear h cf hx hu1 hw1
  go_enter Try.func22, Try.ntmps22
  go_wp2_with fail
  rw [← HW.out]
  refine HT.out.mono ?_
  rintro e w' ⟨rfl, rfl⟩
  go_wp2_with fail
  all_goals first
    | (exfalso; omega)
    | (refine bodyPost_ret (v := .tuple #[evV default, .bool false]) (by simp only [results, Try.f22]; simp [go_sem, evV, default, c0, c1, c2, c3, f0, f1, f2, f3]) rfl ?_
       refine ⟨rfl, HU.out.trans (T := fun k => k = w.heap.size) ?_ (fun k hk hl => by omega)⟩
       iterate 4 refine eS ?_ (by simp)
       exact Upd.refl _ _)
theorem tAt (h : Trc F w b L) (i : Nat) (hi : i < L.length) (hl : L.length ≤ 200000) : Calls Try.prog 22 #[.pointer (some ⟨b, 0, none⟩), .int .i64 (i : Int)] w fun e w' => e = .returned (.tuple #[evV (L.getD i default), .bool true]) ∧ Upd (fun _ => False) w w' := by
  obtain ⟨w1, hw1⟩ : ∃ w1, w1 = w.alloc (.cells #[.int .i64 0, .int .i64 0, .int .i64 0, .int .i64 0] 51) := ⟨_, rfl⟩
  have hu1 : Upd (fun _ => False) w w1 := by rw [hw1]; exact Upd.alloc _ _ _
  have hx : w1.heap[w.heap.size]? = some (.cells #[.int .i64 0, .int .i64 0, .int .i64 0, .int .i64 0] 51 (0, 0)) := by rw [hw1]; exact eTop _ _ _ rfl
  obtain ⟨ev, h⟩ := h.upd hu1 (fun _ _ h => h)
  have HT := Lib.hid (tList h)
  have hev := evs_of_row h.row
  obtain ⟨la, lc, rfl⟩ := ownsRow_slice h.row
  obtain ⟨g, off, rfl, hg, k0, k1, k2, k3⟩ := hev.at hi
  generalize L.getD i default = s at *
  obtain ⟨c0, c1, c2, c3, cf⟩ := four hx
  have f0 := cf 0; have f1 := cf 1; have f2 := cf 2; have f3 := cf 3
  have HU := Lib.hid hu1
  have HW := Lib.hid hw1
  have hi3 : (0 : Int) ≤ (i : Int) := Int.natCast_nonneg _
  have hi4 : (i : Int) < (L.length : Int) := by omega
  have hw : IntKind.i64.wrap (i : Int) = (i : Int) := IntWalk.i64_in _ (by omega)
  clear h cf hx hu1 hw1 hev
  go_enter Try.func22, Try.ntmps22
  go_wp2_with fail
  rw [← HW.out]
  refine HT.out.mono ?_
  rintro e w' ⟨rfl, rfl⟩
  go_wp2_with fail
  all_goals first
    | (exfalso; omega)
    | (refine bodyPost_ret (v := .tuple #[evV s, .bool true]) (by simp only [results, Try.f22]; simp [go_sem, evV, c0, c1, c2, c3, f0, f1, f2, f3]) rfl ?_
       refine ⟨rfl, HU.out.trans (T := fun k => k = w.heap.size) ?_ (fun k hk hl => by omega)⟩
       iterate 4 refine eS ?_ (by simp)
       exact Upd.refl _ _)
end
end kB
section kE


def evEq (s t : EvM) : Bool := s.what == t.what && s.a == t.a && s.b == t.b && s.c == t.c
theorem evEq_iff (s t : EvM) : evEq s t = true ↔ s = t := by
  obtain ⟨a, b, c, d⟩ := s
  obtain ⟨a', b', c', d'⟩ := t
  simp [evEq, and_assoc]
theorem evEq_self (s : EvM) : evEq s s = true := (evEq_iff s s).2 rfl
theorem ev_under : Try.prog.underlying 51 = some (.struct (Try.prog.fieldsOf 51)) := by kernel_rfl
theorem ev_held : Try.prog.stoodInHeld 51 = false := by kernel_rfl
theorem ev_guard : Try.prog.eqGuardType Try.prog.depth 51 = false := by kernel_rfl
theorem run_ev_eq (w : World) (s t : EvM) : (Op.equalIn 10000 51 (evV s) (evV t)).run Try.prog w = .ok (evEq s t) w := by
  unfold evV
  rw [Go.run_equalIn_agg w 9999 _ _ _ ev_under ev_held]
  simp [Program.fieldsOf, Try.underlying51, Op.eqFields, go_sem, Try.underlying3]
  by_cases h0 : s.what = t.what <;> by_cases h1 : s.a = t.a <;> by_cases h2 : s.b = t.b <;> by_cases h3 : s.c = t.c <;> simp [evEq, h0, h1, h2, h3]
theorem evNeq (w : World) (s t : EvM) : (binOp .neq 51 (.agg #[.int .i64 s.what, .int .i64 s.a, .int .i64 s.b, .int .i64 s.c]) (.agg #[.int .i64 t.what, .int .i64 t.a, .int .i64 t.b, .int .i64 t.c])).run Try.prog w = .ok (.bool (!evEq s t)) w := by
  rw [run_neq_struct]
  have := run_ev_eq w s t
  unfold evV at this
  rw [this]
  rfl
theorem evEql (w : World) (s t : EvM) : (binOp .eql 51 (.agg #[.int .i64 s.what, .int .i64 s.a, .int .i64 s.b, .int .i64 s.c]) (.agg #[.int .i64 t.what, .int .i64 t.a, .int .i64 t.b, .int .i64 t.c])).run Try.prog w = .ok (.bool (evEq s t)) w := by
  rw [run_eql_struct]
  have := run_ev_eq w s t
  unfold evV at this
  rw [this]
  rfl
end kE
section kC


/-- where two lists part: -1, if they are the same -/
def Parts (L M : List EvM) (r : Int) : Prop := (r = -1 ∧ L = M) ∨ ∃ k : Nat, r = k ∧ L.take k = M.take k ∧ L[k]? ≠ M[k]?
theorem take_get {L M : List EvM} {k j : Nat} (h : L.take k = M.take k) (hj : j < k) : L[j]? = M[j]? := by
  have := congrArg (fun l => l[j]?) h
  simpa [List.getElem?_take, hj] using this
theorem Parts.one {L M : List EvM} {r s : Int} (h : Parts L M r) (h' : Parts L M s) : r = s := by
  rcases h with ⟨rfl, rfl⟩ | ⟨k, rfl, h1, h2⟩
  · rcases h' with ⟨rfl, _⟩ | ⟨k', rfl, _, h4⟩
    · rfl
    · exact absurd rfl h4
  · rcases h' with ⟨rfl, rfl⟩ | ⟨k', rfl, h3, h4⟩
    · exact absurd rfl h2
    · rcases Nat.lt_trichotomy k k' with h | rfl | h
      · exact absurd (take_get h3 h) h2
      · rfl
      · exact absurd (take_get h1 h) h4
theorem Parts.same (L : List EvM) : Parts L L (-1) := .inl ⟨rfl, rfl⟩
theorem Parts.swap {L M : List EvM} {r : Int} (h : Parts L M r) : Parts M L r := by
  rcases h with ⟨rfl, rfl⟩ | ⟨k, rfl, h1, h2⟩
  · exact .same _
  · exact .inr ⟨k, rfl, h1.symm, h2.symm⟩
/-- what a trace, or none, tells -/
def Lst (w : World) (v : Value) (L : List EvM) : Prop := ∃ ev, Evs w ev L ∧ Calls Try.prog 45 #[v] w fun e w' => e = .returned ev ∧ w = w'
theorem Lst.none (w : World) : Lst w (.pointer none) [] := ⟨_, Evs.nil w, tList_nil w⟩
theorem Trc.lst {F : Nat → Prop} {w : World} {b : Nat} {L : List EvM} (h : Trc F w b L) : Lst w (.pointer (some ⟨b, 0, .none⟩)) L := by
  obtain ⟨ev, h⟩ := h
  exact ⟨ev, evs_of_row h.row, tList h⟩
set_option maxHeartbeats 1000000 in
theorem tSame {w : World} {v u : Value} {L M : List EvM} {r : Int} (hv : Lst w v L) (hu : Lst w u M) (hr : Parts L M r) :
    Calls Try.prog 28 #[v, u] w fun e w' => e = .returned (.int .i64 r) ∧ Upd (fun _ => False) w w' := by
  obtain ⟨x, hx, hcx⟩ := hv
  obtain ⟨y, hy, hcy⟩ := hu
  have HX := Lib.hid hx
  have HY := Lib.hid hy
  have HR := Lib.hid hr
  have HCX := Lib.hid hcx
  have HCY := Lib.hid hcy
  obtain ⟨xa, xc, rfl, hx1, hx2⟩ := hx.slice
  obtain ⟨ya, yc, rfl, hy1, hy2⟩ := hy.slice
  clear hx hy hr hcx hcy
  have hm1 : L.length ≤ maxLen := by omega
  have hm2 : M.length ≤ maxLen := by omega
  unfold maxLen at hm1 hm2
  clear hx1 hx2 hy1 hy2
  have HT0 : Hid (L.take 0 = M.take 0) := Lib.hid (by simp)
  have HU0 := Lib.hid (Upd.refl (fun _ => False) w)
  go_enter Try.func28, Try.ntmps28
  go_wp2_with fail
  refine HCX.out.mono ?_
  rintro e w' ⟨rfl, rfl⟩
  go_wp2_with fail
  refine HCY.out.mono ?_
  rintro e w' ⟨rfl, rfl⟩
  go_wp2_with fail
  all_goals
    go_loopw [19, 8] (fun i _ wr => ∃ k : Nat, k ≤ L.length ∧ k ≤ M.length ∧ i = .int .i64 k ∧ Hid (L.take k = M.take k) ∧ Hid (Upd (fun _ => False) w wr)) (fun i _ _ => min L.length M.length - (intOf i).toNat)
    case atStart => exact ⟨0, Nat.zero_le _, Nat.zero_le _, rfl, HT0, HU0⟩
    case round =>
      obtain ⟨k, hk1, hk2, rfl, HT, HU⟩ := hrel
      have hki : (0 : Int) ≤ (k : Int) := Int.natCast_nonneg _
      by_cases hlt : k < L.length ∧ k < M.length
      · obtain ⟨hl1, hl2⟩ := hlt
        obtain ⟨g1, o1, rfl, hg1, c0, c1, c2, c3⟩ := (HX.out.upd HU.out (fun _ _ h => h)).at hl1
        obtain ⟨g2, o2, rfl, hg2, d0, d1, d2, d3⟩ := (HY.out.upd HU.out (fun _ _ h => h)).at hl2
        have HE1 : Hid (L[k]? = some (L.getD k default)) := Lib.hid (by simp [List.getD, hl1])
        have HE2 : Hid (M[k]? = some (M.getD k default)) := Lib.hid (by simp [List.getD, hl2])
        generalize L.getD k default = s at *
        generalize M.getD k default = t at *
        have hgd := ev_guard
        have hne := fun w : World => evNeq w s t
        cases hq : evEq s t with
        | true =>
          rw [hq] at hne
          have HQ := Lib.hid hq
          clear hq
          go_wp2_with fail
          go_quiet (fail)
          clear hne hgd c0 c1 c2 c3 d0 d1 d2 d3
          have HU2 := Lib.hid (HU.out.trans (T := fun _ => False) (⟨rfl, rfl, rfl, Nat.le_refl _, fun _ _ _ => rfl⟩ : Upd (fun _ => False) wr (wr.drewN nq)) (fun _ h _ => h))
          have HT2 : Hid (L.take (k + 1) = M.take (k + 1)) := Lib.hid (by
            rw [List.take_add_one, List.take_add_one, HT.out, HE1.out, HE2.out, (evEq_iff s t).1 HQ.out])
          go_wp2_with fail
          go_roundw
          case rel => exact ⟨k + 1, by omega, by omega, by go_num, HT2, HU2⟩
          case measure => simp [intOf]; omega
        | false =>
          rw [hq] at hne
          have HQ := Lib.hid hq
          clear hq
          go_wp2_with fail
          go_quiet (fail)
          clear hne hgd c0 c1 c2 c3 d0 d1 d2 d3
          have HU2 := Lib.hid (HU.out.trans (T := fun _ => False) (⟨rfl, rfl, rfl, Nat.le_refl _, fun _ _ _ => rfl⟩ : Upd (fun _ => False) wr (wr.drewN nq)) (fun _ h _ => h))
          have HP : Hid (r = k) := Lib.hid (Parts.one HR.out (.inr ⟨k, rfl, HT.out, by
            rw [HE1.out, HE2.out]
            intro e
            have := (evEq_iff s t).2 (Option.some.inj e)
            rw [HQ.out] at this
            cases this⟩))
          go_wp2_with fail
          go_ret
          exact ⟨by rw [HP.out]; rfl, HU2.out⟩
      · have HNL := Lib.hid hlt
        by_cases hlm : L.length = M.length
        · have HP : Hid (r = -1) := Lib.hid (Parts.one HR.out (.inl ⟨rfl, by
            have := HT.out
            rwa [List.take_of_length_le (by omega), List.take_of_length_le (by omega)] at this⟩))
          go_wp2_with fail
          all_goals first
            | (exfalso; omega)
            | (go_ret; exact ⟨ret_i64 (by have := HP.out; omega), HU.out⟩)
        · have HP : Hid (r = k) := Lib.hid (Parts.one HR.out (.inr ⟨k, rfl, HT.out, by
            intro e
            rcases (by omega : L.length ≤ k ∨ M.length ≤ k) with h | h
            · rw [List.getElem?_eq_none h] at e
              have := List.getElem?_eq_none_iff.1 e.symm
              omega
            · rw [List.getElem?_eq_none h] at e
              have := List.getElem?_eq_none_iff.1 e
              omega⟩))
          go_wp2_with fail
          all_goals first
            | (exfalso; omega)
            | (go_ret; exact ⟨ret_i64 (by have := HNL.out; have := HP.out; omega), HU.out⟩)
end kC
theorem Trc.wide {F G : Nat → Prop} {w : World} {b : Nat} {L : List EvM} (h : Trc F w b L) (hF : ∀ k, F k → G k) (hl : ∀ k, G k → k < w.heap.size) : Trc G w b L := by
  obtain ⟨ev, h⟩ := h
  exact ⟨ev, h.box, h.row, hF b h.fb, fun k hk => hF k (h.fr k hk), hl⟩
/-- a trace made since w0, beside the blocks of K -/
def Own10 (K : Nat → Prop) (w0 w : World) (b : Nat) (L : List EvM) : Prop := Trc (fun k => ESince w0 w k ∧ ¬ K k) w b L ∧ Upd (fun _ => False) w0 w
theorem step_since {w0 w w' : World} {F : Nat → Prop} {b : Nat} {L : List EvM} (hu0 : Upd (fun _ => False) w0 w) (hF : ∀ k, F k → w0.heap.size ≤ k) (h : Trc (EMore F w w') w' b L) (hu : Upd F w w') : Trc (ESince w0 w') w' b L ∧ Upd (fun _ => False) w0 w' := by
  refine ⟨h.wide (fun k hk => ?_) (fun k hk => hk.2), hu0.trans hu (fun i hi hl => by have := hF i hi; omega)⟩
  rcases hk with h1 | h1
  · exact ⟨hF k h1, h.lt k (.inl h1)⟩
  · have := hu0.size
    exact ⟨by omega, h1.2⟩
end Go.Proofs.Ytibmgmgkaacibaa

/- Several texts in one. -/
import Derived.Test.YtdmadfahgkikkaaDoorHa
import Derived.Test.YtdmadfahgkikkaaDoorHand
import Derived.Deep.Light
import Derived.LoopTactic
/- Package leak: events, plainly and in memory; a trace, and its calls. -/
namespace Go.Proofs.YtdmadfahgkikkaaDoor
open Go.RowKit Go.Lib Go.ChangeShapes Go.WideShapes Go.Deep
set_option linter.unusedVariables false
set_option linter.unusedSimpArgs false

structure EvM where
  what : Int
  a : Int
  b : Int
  c : Int
deriving DecidableEq
instance : Inhabited EvM := ⟨⟨0, 0, 0, 0⟩⟩
def ecl (e : EvM) : List Value := [.int .i64 e.what, .int .i64 e.a, .int .i64 e.b, .int .i64 e.c]
def evV (e : EvM) : Value := .agg #[.int .i64 e.what, .int .i64 e.a, .int .i64 e.b, .int .i64 e.c]
theorem ecl_at : ∀ (R : List EvM) (i j : Nat) (hi : i < R.length), j < 4 → (R.flatMap ecl)[i * 4 + j]? = (ecl R[i])[j]?
  | [], i, j, hi, _ => by simp at hi
  | p :: R, 0, j, hi, hj => by
    rw [List.flatMap_cons, List.getElem?_append_left (by simp [ecl]; omega)]; simp
  | p :: R, i + 1, j, hi, hj => by
    rw [List.flatMap_cons, List.getElem?_append_right (by simp [ecl]; omega)]
    have := ecl_at R i j (by simpa using hi) hj
    rw [show (i + 1) * 4 + j - (ecl p).length = i * 4 + j by simp [ecl]; omega, this]; simp
theorem ecl_one (R : List EvM) : ∀ u ∈ R.flatMap ecl, u.oneCell' = true := by
  intro u hu
  obtain ⟨p, hp, hu⟩ := List.mem_flatMap.1 hu
  simp [ecl] at hu
  rcases hu with rfl | rfl | rfl | rfl <;> rfl
theorem ecl_len (R : List EvM) : (R.flatMap ecl).length = R.length * 4 := by
  induction R with
  | nil => rfl
  | cons p R ih => rw [List.flatMap_cons, List.length_append, ih, List.length_cons]; simp [ecl]; omega

def EvAt (w : World) (g off : Nat) (s : EvM) : Prop :=
  w.cell? ⟨g, off, none⟩ = some (.int .i64 s.what) ∧ w.cell? ⟨g, off + 1, none⟩ = some (.int .i64 s.a) ∧ w.cell? ⟨g, off + 2, none⟩ = some (.int .i64 s.b) ∧ w.cell? ⟨g, off + 3, none⟩ = some (.int .i64 s.c)
/-- a slice value that reads as these events -/
def Evs (w : World) (v : Value) (L : List EvM) : Prop :=
  ∃ a c, v = .slice a L.length c ∧ L.length ≤ c ∧ c ≤ maxLen ∧ (L = [] ∨ ∃ g off, a = some ⟨g, off, none⟩ ∧ ∀ i, i < L.length → EvAt w g (off + i * 4) (L.getD i default))
theorem EvAt.lt {w : World} {g off : Nat} {s : EvM} (h : EvAt w g off s) : g < w.heap.size := World.block_lt_of_cell? w _ h.1
theorem EvAt.upd {S : Nat → Prop} {w w' : World} {g off : Nat} {s : EvM} (h : EvAt w g off s) (hu : Upd S w w') (hS : ¬ S g) : EvAt w' g off s := by
  have hg := h.lt
  have k := fun q => hu.cell (p := ⟨g, q, none⟩) hg hS
  exact ⟨(k _).trans h.1, (k _).trans h.2.1, (k _).trans h.2.2.1, (k _).trans h.2.2.2⟩
theorem Evs.upd {S : Nat → Prop} {w w' : World} {v : Value} {L : List EvM} (h : Evs w v L) (hu : Upd S w w') (hS : ∀ k, v.ownBlock = some k → ¬ S k) : Evs w' v L := by
  obtain ⟨a, c, rfl, h1, h2, h3⟩ := h
  refine ⟨a, c, rfl, h1, h2, ?_⟩
  rcases h3 with h3 | ⟨g, off, rfl, h4⟩
  · exact .inl h3
  · exact .inr ⟨g, off, rfl, fun i hi => (h4 i hi).upd hu (hS g rfl)⟩
theorem Evs.below {W w : World} {v : Value} {L : List EvM} (h : Evs W v L) (hb : Below W.heap.size W w) : Evs w v L := by
  obtain ⟨a, c, rfl, h1, h2, h3⟩ := h
  refine ⟨a, c, rfl, h1, h2, ?_⟩
  rcases h3 with h3 | ⟨g, off, rfl, h4⟩
  · exact .inl h3
  · refine .inr ⟨g, off, rfl, fun i hi => ?_⟩
    have h := h4 i hi
    have hg := h.lt
    have k := fun q => hb.cell (p := ⟨g, q, none⟩) hg
    exact ⟨(k _).trans h.1, (k _).trans h.2.1, (k _).trans h.2.2.1, (k _).trans h.2.2.2⟩
theorem Evs.nil (w : World) : Evs w (.slice none 0 0) [] := ⟨none, 0, rfl, Nat.le_refl _, by unfold maxLen; omega, .inl rfl⟩
theorem Evs.slice {w : World} {v : Value} {L : List EvM} (h : Evs w v L) : ∃ a c, v = .slice a L.length c ∧ L.length ≤ c ∧ c ≤ maxLen := by
  obtain ⟨a, c, rfl, h1, h2, h3⟩ := h
  exact ⟨a, c, rfl, h1, h2⟩
theorem Evs.at {w : World} {a : Option Addr} {n c k : Nat} {L : List EvM} (h : Evs w (.slice a n c) L) (hk : k < L.length) : ∃ g off, a = some ⟨g, off, none⟩ ∧ g < w.heap.size ∧ EvAt w g (off + k * 4) (L.getD k default) := by
  obtain ⟨a', c', he, h1, h2, h3⟩ := h
  simp at he
  obtain ⟨rfl, -, rfl⟩ := he
  rcases h3 with rfl | ⟨g, off, rfl, h4⟩
  · simp at hk
  · exact ⟨g, off, rfl, (h4 k hk).lt, h4 k hk⟩
theorem Evs.take {w : World} {a : Option Addr} {n c k : Nat} {L : List EvM} (h : Evs w (.slice a n c) L) (hk : k ≤ L.length) : Evs w (.slice a k c) (L.take k) := by
  obtain ⟨a', c', he, h1, h2, h3⟩ := h
  simp at he
  obtain ⟨rfl, -, rfl⟩ := he
  have hl : (L.take k).length = k := by simp; omega
  refine ⟨a, c, by rw [hl], by omega, h2, ?_⟩
  rcases h3 with rfl | ⟨g, off, rfl, h4⟩
  · exact .inl (by simp)
  · refine .inr ⟨g, off, rfl, fun i hi => ?_⟩
    rw [hl] at hi
    have := h4 i (by omega)
    simpa [List.getD, hi] using this
theorem evs_of_row {w : World} {base : Nat} {v : Value} {L : List EvM} (h : w.ownsRow base 77 4 v L.length (L.flatMap ecl)) : Evs w v L := by
  rcases h.2 with ⟨rfl, h0⟩ | ⟨g, cap, cur, rfl, hb, hg, hc, hm, hcs, ht⟩
  · exact ⟨none, 0, by rw [h0], by omega, by unfold maxLen; omega, .inl (List.eq_nil_of_length_eq_zero h0)⟩
  · refine ⟨_, cap, rfl, hc, hm, .inr ⟨g, 0, rfl, fun i hi => ?_⟩⟩
    have hc := fun j (hj : j < 4) u (hu : (ecl L[i])[j]? = some u) => by
      have := h.cells (g := g) rfl (i * 4 + j) u (by rw [ecl_at L i j hi hj]; exact hu)
      rw [addr_add] at this
      exact this
    have e : L.getD i default = L[i] := by simp [List.getD, hi]
    rw [e]
    exact ⟨hc 0 (by omega) _ rfl, hc 1 (by omega) _ rfl, hc 2 (by omega) _ rfl, hc 3 (by omega) _ rfl⟩
theorem Evs.src {w : World} {v : Value} {L : List EvM} (h : Evs w v L) (h0 : L ≠ []) : Src w 4 v L.length (L.flatMap ecl) := by
  obtain ⟨a, c, rfl, h1, h2, h3⟩ := h
  rcases h3 with h3 | ⟨g, off, rfl, h4⟩
  · exact absurd h3 h0
  · refine .inr ⟨_, _, rfl, ecl_len L, fun t u ht => ?_, ecl_one L⟩
    have hlt : t < L.length * 4 := by
      have := (List.getElem?_eq_some_iff.1 ht).1
      rwa [ecl_len] at this
    have hi : t / 4 < L.length := by omega
    have hk := ecl_at L (t / 4) (t % 4) hi (by omega)
    rw [show t / 4 * 4 + t % 4 = t by omega, ht] at hk
    have e : L.getD (t / 4) default = L[t / 4] := by simp [List.getD, hi]
    have h5 := h4 (t / 4) hi
    rw [e] at h5
    rw [addr_add, show off + t = off + t / 4 * 4 + t % 4 by omega]
    obtain ⟨q0, q1, q2, q3⟩ := h5
    rcases (by omega : t % 4 = 0 ∨ t % 4 = 1 ∨ t % 4 = 2 ∨ t % 4 = 3) with h | h | h | h <;> rw [h] at hk ⊢ <;> simp [ecl] at hk <;> rw [hk] <;> assumption

/-- a trace in memory, in the blocks F: its box, the list's row -/
structure Tr (F : Nat → Prop) (w : World) (b : Nat) (ev : Value) (L : List EvM) : Prop where
  box : w.heap[b]? = some (.cells #[ev] 89 (0, 0))
  row : w.ownsRow 0 77 4 ev L.length (L.flatMap ecl)
  fb : F b
  fr : ∀ k, ev.ownBlock = some k → F k
  lt : ∀ k, F k → k < w.heap.size
def Trc (F : Nat → Prop) (w : World) (b : Nat) (L : List EvM) : Prop := ∃ ev, Tr F w b ev L
def EMore (F : Nat → Prop) (w w' : World) (k : Nat) : Prop := F k ∨ (w.heap.size ≤ k ∧ k < w'.heap.size)
def ESince (w w' : World) (k : Nat) : Prop := w.heap.size ≤ k ∧ k < w'.heap.size
section
variable {F G : Nat → Prop} {w w' : World} {b : Nat} {ev : Value} {L : List EvM}
theorem Trc.upd {S : Nat → Prop} (h : Trc F w b L) (hu : Upd S w w') (hS : ∀ k, F k → ¬ S k) : Trc F w' b L := by
  obtain ⟨ev, h⟩ := h
  exact ⟨ev, hpBlk hu h.box (hS b h.fb), ownsRow_upd h.row hu (fun k hk => hS k (h.fr k hk)), h.fb, h.fr, fun k hk => Nat.lt_of_lt_of_le (h.lt k hk) hu.size⟩
theorem Trc.lt (h : Trc F w b L) : ∀ k, F k → k < w.heap.size := by
  obtain ⟨ev, h⟩ := h
  exact h.lt
theorem Trc.inn (h : Trc F w b L) : F b := by
  obtain ⟨ev, h⟩ := h
  exact h.fb
theorem Tr.bx (h : Tr F w b ev L) : w.cell? ⟨b, 0, none⟩ = some ev ∧ ∀ q, w.frozen? ⟨b, q, none⟩ = false := by
  have := h.box
  refine ⟨by simp [World.cell?, this], fun q => by simp [World.frozen?, this]⟩
theorem evInfo : (Tryd.prog.info? 77).map (fun i => (i.zero, i.size, i.bytes)) = some (some (evV default), 4, 32) := by kernel_rfl
theorem eTop (w : World) (o : Obj) (k : Nat) (h : k = w.heap.size) : (w.alloc o).heap[k]? = some o := by
  subst h
  show (w.heap.push o)[w.heap.size]? = _
  simp
theorem tNew (w : World) : Calls Tryd.prog 7 #[] w fun e w' => ∃ b, e = .returned (.pointer (some ⟨b, 0, none⟩)) ∧ Trc (ESince w w') w' b [] ∧ Upd (fun _ => False) w w' := by
  go_enter Tryd.func7, Tryd.ntmps7
  go_wp2_with fail
  go_ret
  refine ⟨_, rfl, ⟨.slice none 0 0, ?_, World.ownsRow_nil _ _ _ _, ?_, by simp [Value.ownBlock], fun k hk => hk.2⟩, Upd.alloc _ _ _⟩
  · exact eTop _ _ _ rfl
  · exact ⟨Nat.le_refl _, by simp⟩
/-- what 'list' tells -/
theorem tList (h : Tr F w b ev L) : Calls Tryd.prog 53 #[.pointer (some ⟨b, 0, none⟩)] w fun e w' => e = .returned ev ∧ w = w' := by
  obtain ⟨h0, h1⟩ := h.bx
  obtain ⟨a, c, rfl⟩ := ownsRow_slice h.row
  clear h h1
  go_enter Tryd.func53, Tryd.ntmps53
  go_wp2_with fail
  go_ret
  exact ⟨rfl, rfl⟩
theorem tList_nil (w : World) : Calls Tryd.prog 53 #[.pointer none] w fun e w' => e = .returned (.slice none 0 0) ∧ w = w' := by
  go_enter Tryd.func53, Tryd.ntmps53
  go_wp2_with fail
  go_ret
  exact ⟨rfl, rfl⟩
theorem tLen (h : Trc F w b L) : Calls Tryd.prog 18 #[.pointer (some ⟨b, 0, none⟩)] w fun e w' => e = .returned (.int .i64 (L.length : Int)) ∧ w = w' := by
  obtain ⟨ev, h⟩ := h
  obtain ⟨a, c, rfl⟩ := ownsRow_slice h.row
  have HL := Lib.hid (tList h)
  clear h
  go_enter Tryd.func18, Tryd.ntmps18
  go_wp2_with (refine HL.out.mono ?_; rintro e w' ⟨rfl, rfl⟩)
  go_ret
  exact ⟨rfl, rfl⟩
end
end Go.Proofs.YtdmadfahgkikkaaDoor
/- Package leak: Add, At, All. -/
namespace Go.Proofs.YtdmadfahgkikkaaDoor
open Go.RowKit Go.Lib Go.ChangeShapes Go.WideShapes Go.Deep
set_option linter.unusedVariables false
set_option linter.unusedSimpArgs false

theorem eS {S : Nat → Prop} {w w' : World} {p : Addr} {u : Value} (h : Upd S w w') (hp : S p.block) : Upd S w (w'.setCell p u) := h.trans (Upd.setCell (S := S) w' (.inl hp) u) (fun _ h _ => h)
theorem four {w : World} {g : Nat} {v0 v1 v2 v3 : Value} {t : TypeId} (h : w.heap[g]? = some (.cells #[v0, v1, v2, v3] t (0, 0))) :
    w.cell? ⟨g, 0, none⟩ = some v0 ∧ w.cell? ⟨g, 1, none⟩ = some v1 ∧ w.cell? ⟨g, 2, none⟩ = some v2 ∧ w.cell? ⟨g, 3, none⟩ = some v3 ∧ ∀ q, w.frozen? ⟨g, q, none⟩ = false := by
  refine ⟨?_, ?_, ?_, ?_, fun q => by simp [World.frozen?, h]⟩ <;> simp [World.cell?, h]
theorem src4 (w : World) (e : TypeId) (x y z t : Value) (h1 : ∀ u ∈ [x, y, z, t], u.oneCell' = true) (n c : Nat) (hn : 1 = n) :
    Src (w.alloc (.cells #[x, y, z, t] e)) 4 (.slice (some ⟨w.heap.size, 0, none⟩) n c) n [x, y, z, t] := by
  subst hn
  refine .inr ⟨_, _, rfl, rfl, fun j u hj => ?_, h1⟩
  rw [addr_add]
  show (match (w.heap.push _)[w.heap.size]? with | some (.cells c _ _) => _ | _ => _) = _
  simpa using hj
section
variable {F G : Nat → Prop} {w w' : World} {b : Nat} {ev : Value} {L : List EvM}
theorem Trc.len (h : Trc F w b L) : L.length ≤ maxLen := by
  obtain ⟨ev, h⟩ := h
  rcases h.row.2 with ⟨_, h0⟩ | ⟨g, cap, cur, rfl, hb, hg, hc, hm, hcs, ht⟩
  · omega
  · omega
theorem tAdd_full (h : Trc F w b L) (hl : 200000 ≤ L.length) (x a b' c : Int) : Calls Tryd.prog 75 #[.pointer (some ⟨b, 0, none⟩), .int .i64 x, .int .i64 a, .int .i64 b', .int .i64 c] w fun e w' => e = .returned (.bool false) ∧ w = w' := by
  obtain ⟨ev, h⟩ := h
  obtain ⟨h0, h1⟩ := h.bx
  obtain ⟨la, lc, rfl⟩ := ownsRow_slice h.row
  have hl2 : (200000 : Int) ≤ (L.length : Int) := by omega
  clear h h1
  go_enter Tryd.func75, Tryd.ntmps75
  go_wp2_with fail
  all_goals first
    | (exfalso; omega)
    | (go_ret; exact ⟨rfl, rfl⟩)
set_option maxRecDepth 100000 in
set_option maxHeartbeats 1000000 in
theorem tAdd (h : Trc F w b L) (hl : L.length < 200000) (x a b' c : Int) : Calls Tryd.prog 75 #[.pointer (some ⟨b, 0, none⟩), .int .i64 x, .int .i64 a, .int .i64 b', .int .i64 c] w fun e w' => e = .returned (.bool true) ∧ Trc (EMore F w w') w' b (L ++ [⟨x, a, b', c⟩]) ∧ Upd F w w' := by
  obtain ⟨i0, hi, hz0, hz1, hz2⟩ := info_parts evInfo
  obtain ⟨ev, h⟩ := h
  obtain ⟨h0, h1⟩ := h.bx
  obtain ⟨la, lc, rfl⟩ := ownsRow_slice h.row
  have H := Lib.hid h
  have HS := Lib.hid (src4 w 77 (.int .i64 x) (.int .i64 a) (.int .i64 b') (.int .i64 c) (by simp [Value.oneCell']) 1 1 rfl)
  have hal := Upd.alloc (fun _ => False) w (.cells #[.int .i64 x, .int .i64 a, .int .i64 b', .int .i64 c] 77)
  have HRW := Lib.hid (ownsRow_upd h.row hal (fun _ _ h => h))
  have HAL := Lib.hid hal
  have hbl : b < w.heap.size := (Array.getElem?_eq_some_iff.1 h.box).1
  have f0 := h1 0
  have hl2 : decide ((200000 : Int) ≤ (L.length : Int)) = false := by simp; omega
  have hl3 : decide ((L.length : Int) ≥ 200000) = false := by simp; omega
  have HLL := Lib.hid hl
  clear h h1 hal hl
  go_enter Tryd.func75, Tryd.ntmps75
  go_wp2_with (at_builtin; go_loud (refine wpList_append_mine _ rfl _ _ 60 rfl 0 77 i0 (evV default) 4 32 Tryd.underlying60 hi hz0 hz1 hz2 rfl (by decide) (.slice la L.length lc) L.length (L.flatMap ecl) rfl HRW.out 1 _ HS.out (by have := HLL.out; unfold maxLen; omega) (by have := HLL.out; omega) (Nat.zero_le _) ?_))
  all_goals first
    | (exfalso; omega)
    | skip
  intro v' w1 ho hg hf
  obtain ⟨va, vc, rfl⟩ := ownsRow_slice ho
  have hu1 : Upd (fun k => (Value.slice la L.length lc).ownBlock = some k) w w1 := Upd.row HAL.out hg
  have hnb : ¬ (Value.slice la L.length lc).ownBlock = some b := hpBoxNe H.out.row H.out.box (by decide)
  have hx : w1.heap[b]? = some (.cells #[.slice la L.length lc] 89 (0, 0)) := hpBlk hu1 H.out.box hnb
  have c0 : w1.cell? ⟨b, 0, none⟩ = some (.slice la L.length lc) := by simp [World.cell?, hx]
  have c1 : w1.frozen? ⟨b, 0, none⟩ = false := by simp [World.frozen?, hx]
  have HX := Lib.hid hx
  have HO := Lib.hid ho
  have HF := Lib.hid hf
  have HU1 := Lib.hid hu1
  clear ho hg hf hu1 hnb hx h0 f0
  go_wp2_with fail
  go_ret
  have hu2 : Upd (fun k => k = b) w1 (w1.setCell ⟨b, 0, none⟩ (.slice va (L.length + 1) vc)) := Upd.setCell (S := fun k => k = b) w1 (p := ⟨b, 0, none⟩) (.inl rfl) _
  have hsz : (w1.setCell ⟨b, 0, none⟩ (.slice va (L.length + 1) vc)).heap.size = w1.heap.size := by simp [World.setCell]
  refine ⟨rfl, ⟨.slice va (L.length + 1) vc, ?_, ?_, .inl H.out.fb, ?_, ?_⟩, ?_⟩
  · simp [World.setCell, Array.getElem?_modify, HX.out]
  · have hr : w1.ownsRow 0 77 4 (.slice va (L.length + 1) vc) (L ++ [(⟨x, a, b', c⟩ : EvM)]).length ((L ++ [(⟨x, a, b', c⟩ : EvM)]).flatMap ecl) := by
      rw [List.length_append, List.flatMap_append]
      exact HO.out
    exact ownsRow_upd hr hu2 (fun k hk hkb => hpBoxNe hr HX.out (by decide) (by rw [← hkb]; exact hk))
  · intro k hk
    rcases HF.out k hk with h | h
    · exact .inl (H.out.fr k h)
    · refine .inr ⟨by simp at h; omega, ?_⟩
      rw [hsz]
      exact hpRowLt HO.out k hk
  · intro k hk
    rw [hsz]
    rcases hk with hk | hk
    · exact Nat.lt_of_lt_of_le (H.out.lt k hk) HU1.out.size
    · rw [hsz] at hk; exact hk.2
  · exact (HU1.out.mono (T := F) (fun k hk _ => H.out.fr k hk)).trans (hu2.mono (T := F) (fun k hk _ => by rw [hk]; exact H.out.fb)) (fun _ h _ => h)
/-- All: new memory -/
theorem tClone (v : Value) (hv : Evs w v L) (hl : L.length ≤ 1000000) : Calls Tryd.prog 66 #[v] w fun e w' => ∃ r, e = .returned r ∧ Evs w' r L ∧ Upd (fun _ => False) w w' ∧ ∀ k, r.ownBlock = some k → w.heap.size ≤ k := by
  obtain ⟨i0, hi, hz0, hz1, hz2⟩ := info_parts evInfo
  by_cases hL : L = []
  · subst hL
    obtain ⟨a, c, rfl, h1, h2⟩ := hv.slice
    simp only [List.length_nil] at *
    have hal := Upd.alloc (fun _ => False) w (.cells #[] 77)
    cases a with
    | none =>
      have hbin := Lib.run_eql_slice_nil (P := Tryd.prog) w 60 77 none 0 c 0 0 Tryd.underlying60
      go_enter Tryd.func66, Tryd.ntmps66
      go_wp2_with fail
      go_ret
      exact ⟨_, rfl, Evs.nil _, Upd.refl _ _, by simp [Value.ownBlock]⟩
    | some A0 =>
      have HS : Hid (Src (w.alloc (.cells #[] 77)) 4 (.slice (some A0) 0 c) 0 []) := Lib.hid (.inr ⟨A0, c, rfl, rfl, by simp, by simp⟩)
      have HO := Lib.hid (World.ownsRow_lit (base := 0) (e := 77) (size := 4) w #[] 0 (Nat.zero_le _) (by unfold maxLen; omega) rfl)
      have HAL := Lib.hid hal
      clear hal
      have hbin := Lib.run_eql_slice_nil (P := Tryd.prog) w 60 77 (some A0) 0 c 0 0 Tryd.underlying60
      go_enter Tryd.func66, Tryd.ntmps66
      go_wp2_with (at_builtin; go_loud (refine wpList_append_mine _ rfl _ _ 60 rfl 0 77 i0 (evV default) 4 32 Tryd.underlying60 hi hz0 hz1 hz2 rfl (by decide) (.slice (some ⟨w.heap.size, 0, none⟩) 0 0) 0 [] rfl HO.out 0 [] HS.out (by unfold maxLen; omega) (by omega) (Nat.zero_le _) ?_))
      intro v' w1 ho hg hf
      obtain ⟨va, vc, rfl⟩ := ownsRow_slice ho
      have HE : Hid (Evs w1 (.slice va 0 vc) []) := Lib.hid (evs_of_row (L := []) ho)
      have HU := Lib.hid (Upd.row HAL.out hg)
      have HF := Lib.hid hf
      clear ho hg hf
      go_wp2_with fail
      go_ret
      refine ⟨_, rfl, HE.out, HU.out.mono (fun i h hlt => by simp [Value.ownBlock] at h; omega), fun k hk => ?_⟩
      rcases HF.out k hk with h | h
      · simp [Value.ownBlock] at h; omega
      · simp at h; omega
  · obtain ⟨a, c, rfl, h1, h2⟩ := hv.slice
    have hal := Upd.alloc (fun _ => False) w (.cells #[] 77)
    have HS := Lib.hid ((hv.src hL).upd hal (fun _ _ h => h))
    have h0 : 0 < L.length := List.length_pos_iff.2 hL
    obtain ⟨g, off, rfl, -, -⟩ := hv.at h0
    have HO := Lib.hid (World.ownsRow_lit (base := 0) (e := 77) (size := 4) w #[] 0 (Nat.zero_le _) (by unfold maxLen; omega) rfl)
    have HAL := Lib.hid hal
    clear hal hv hL
    have hbin := Lib.run_eql_slice_nil (P := Tryd.prog) w 60 77 (some ⟨g, off, none⟩) L.length c 0 0 Tryd.underlying60
    go_enter Tryd.func66, Tryd.ntmps66
    go_wp2_with (at_builtin; go_loud (refine wpList_append_mine _ rfl _ _ 60 rfl 0 77 i0 (evV default) 4 32 Tryd.underlying60 hi hz0 hz1 hz2 rfl (by decide) (.slice (some ⟨w.heap.size, 0, none⟩) 0 0) 0 [] rfl HO.out L.length (L.flatMap ecl) HS.out (by unfold maxLen; omega) (by omega) (Nat.zero_le _) ?_))
    intro v' w1 ho hg hf
    obtain ⟨va, vc, rfl⟩ := ownsRow_slice ho
    have HE : Hid (Evs w1 (.slice va L.length vc) L) := Lib.hid (by simpa using evs_of_row (L := L) (by simpa using ho))
    have HU := Lib.hid (Upd.row HAL.out hg)
    have HF := Lib.hid hf
    clear ho hg hf
    go_wp2_with fail
    go_ret
    refine ⟨_, rfl, HE.out, HU.out.mono (fun i h hlt => by simp [Value.ownBlock] at h; omega), fun k hk => ?_⟩
    rcases HF.out k hk with h | h
    · simp [Value.ownBlock] at h; omega
    · simp at h; omega
theorem tAll (h : Trc F w b L) (hl : L.length ≤ 1000000) : Calls Tryd.prog 29 #[.pointer (some ⟨b, 0, none⟩)] w fun e w' => ∃ r, e = .returned r ∧ Evs w' r L ∧ Upd (fun _ => False) w w' ∧ ∀ k, r.ownBlock = some k → w.heap.size ≤ k := by
  obtain ⟨ev, h⟩ := h
  have HE := Lib.hid (evs_of_row h.row)
  have HT := Lib.hid (tList h)
  obtain ⟨la, lc, rfl⟩ := ownsRow_slice h.row
  clear h
  go_enter Tryd.func29, Tryd.ntmps29
  go_wp2_with fail
  refine HT.out.mono ?_
  rintro e w' ⟨rfl, rfl⟩
  go_wp2_with fail
  refine (tClone _ HE.out hl).mono ?_
  rintro e w1 ⟨r, rfl, hr, hu, hn⟩
  obtain ⟨ra, rc, rfl, -, -⟩ := hr.slice
  have HR := Lib.hid hr
  have HU := Lib.hid hu
  have HN := Lib.hid hn
  clear hr hu hn
  go_wp2_with fail
  go_ret
  exact ⟨_, rfl, HR.out, HU.out, HN.out⟩
end
end Go.Proofs.YtdmadfahgkikkaaDoor

/- Several texts in one. -/
import Derived.Test.YtdmadfahgkikkaaGreatBytes
import Derived.Deep.RegionHeld3
import Derived.Deep.Light
import Derived.LoopTactic
/- Package heap: what a heap is, plainly, and how one lies in memory. -/
namespace Go.Proofs.YtdmadfahgkikkaaGreat
open Go.RowKit Go.ChangeShapes Go.WideShapes Go.Deep
set_option linter.unusedVariables false
set_option linter.unusedSimpArgs false

structure ArrM where
  own : Int
  lab : Int
  life : Int
  sh : Bool
  data : List Int
deriving DecidableEq, Inhabited
def ArrM.put (a : ArrM) (ys : List Int) : ArrM := ⟨a.own, a.lab, a.life, a.sh, ys⟩
structure HpM where
  size : Int
  arrs : List ArrM
def usedL (L : List ArrM) : Nat := (L.map (fun a => 8 + a.data.length)).sum
def usedP (L : List ArrM) : Nat := usedL (L.drop 2)
def labB (l : Int) : Bool := l == 3 || l == 4
def lifeB (l : Int) : Bool := l == 0 || l == 1 || l == 2
/-- may such an array be made? -/
def fitsB (m : HpM) (lab life n : Int) : Bool := labB lab && lifeB life && decide (0 ≤ n) && decide (n ≤ 64) && decide (8 + n ≤ m.size - (usedP m.arrs : Int))
def zeros (n : Nat) : List Int := List.replicate n 0
def newA (own lab life : Int) (sh : Bool) (n : Int) : ArrM := ⟨own, lab, life, sh, zeros n.toNat⟩
def HpM.add (m : HpM) (a : ArrM) : HpM := ⟨m.size, m.arrs ++ [a]⟩
/-- array i with other bytes -/
def HpM.lay (m : HpM) (i : Nat) (ys : List Int) : HpM := ⟨m.size, m.arrs.set i ((m.arrs.getD i default).put ys)⟩
def HpM.put (m : HpM) (i j : Nat) (y : Int) : HpM := m.lay i (((m.arrs.getD i default).data).set j y)
def endsB (a : ArrM) (life own : Int) : Bool := (life == 1 && (a.life == 1 || a.life == 2)) || (life == 2 && a.life == 2 && a.own == own)
def clrA (life own : Int) (a : ArrM) : ArrM := if endsB a life own then a.put (zeros a.data.length) else a
def HpM.clr (m : HpM) (life own : Int) : HpM := ⟨m.size, m.arrs.map (clrA life own)⟩
def goneN (L : List ArrM) (life own : Int) : Nat := (L.filter (fun a => endsB a life own)).length
def two (s : Int) : HpM := ⟨s, [⟨-1, 3, 0, false, []⟩, ⟨-1, 4, 0, false, []⟩]⟩

def acl (p : ArrM × Value) : List Value := [.int .i64 p.1.own, .int .i64 p.1.lab, .int .i64 p.1.life, .bool p.1.sh, p.2]
def aval (a : ArrM) (d : Value) : Value := .agg #[.int .i64 a.own, .int .i64 a.lab, .int .i64 a.life, .bool a.sh, d]
theorem acl_len (R : List (ArrM × Value)) : (R.flatMap acl).length = R.length * 5 := by
  induction R with
  | nil => rfl
  | cons p R ih => rw [List.flatMap_cons, List.length_append, ih, List.length_cons]; simp [acl]; omega
theorem acl_at : ∀ (R : List (ArrM × Value)) (i j : Nat) (hi : i < R.length), j < 5 → (R.flatMap acl)[i * 5 + j]? = (acl R[i])[j]?
  | [], i, j, hi, _ => by simp at hi
  | p :: R, 0, j, hi, hj => by
    rw [List.flatMap_cons, List.getElem?_append_left (by simp [acl]; omega)]; simp
  | p :: R, i + 1, j, hi, hj => by
    rw [List.flatMap_cons, List.getElem?_append_right (by simp [acl]; omega)]
    have := acl_at R i j (by simpa using hi) hj
    rw [show (i + 1) * 5 + j - (acl p).length = i * 5 + j by simp [acl]; omega, this]; simp
theorem acl_set : ∀ (R : List (ArrM × Value)) (i : Nat) (hi : i < R.length) (ys : List Int) (d : Value), (R.set i (R[i].1.put ys, d)).flatMap acl = (R.flatMap acl).set (i * 5 + 4) d
  | [], i, hi, _, _ => by simp at hi
  | p :: R, 0, hi, ys, d => by simp [acl, ArrM.put]
  | p :: R, i + 1, hi, ys, d => by
    rw [List.set_cons_succ, List.flatMap_cons, List.flatMap_cons, List.set_append_right _ _ (by simp [acl]; omega)]
    have := acl_set R i (by simpa using hi) ys d
    rw [show (i + 1) * 5 + 4 - (acl p).length = i * 5 + 4 by simp [acl]; omega]
    simp only [List.getElem_cons_succ]
    rw [this]
theorem setSame {α : Type} : ∀ (xs : List α) (n : Nat) (v : α), xs[n]? = some v → xs.set n v = xs
  | [], n, v, h => by simp at h
  | x :: xs, 0, v, h => by simp at h; simp [h]
  | x :: xs, n + 1, v, h => by simp at h; simp [setSame xs n v h]
theorem acl_keep (R : List (ArrM × Value)) (i : Nat) (hi : i < R.length) (ys : List Int) : (R.set i (R[i].1.put ys, R[i].2)).flatMap acl = R.flatMap acl := by
  rw [acl_set R i hi ys]
  refine setSame _ _ _ ?_
  rw [acl_at R i 4 hi (by omega)]
  rfl
theorem snd_set (R : List (ArrM × Value)) (i : Nat) (hi : i < R.length) (a : ArrM) (k : Nat) (hk : k < R.length) : ((R.set i (a, R[i].2))[k]'(by rw [List.length_set]; exact hk)).2 = R[k].2 := by
  rw [List.getElem_set]
  split
  · rename_i he
    subst he
    rfl
  · rfl
theorem acl_one (R : List (ArrM × Value)) (h : ∀ p ∈ R, p.2.oneCell' = true) : ∀ u ∈ R.flatMap acl, u.oneCell' = true := by
  intro u hu
  obtain ⟨p, hp, hu⟩ := List.mem_flatMap.1 hu
  simp [acl] at hu
  rcases hu with rfl | rfl | rfl | rfl | rfl
  all_goals first | rfl | exact h p hp

theorem hpSet {w : World} {base : Nat} {e : TypeId} {size g n cap : Nat} {xs : List Value} (h : w.ownsRow base e size (.slice (some ⟨g, 0, Option.none⟩) n cap) n xs) (q : Nat) (u : Value) :
    (w.setCell ⟨g, q, Option.none⟩ u).ownsRow base e size (.slice (some ⟨g, 0, Option.none⟩) n cap) n (xs.set q u) := by
  obtain ⟨hl, h⟩ := h
  rcases h with ⟨h, _⟩ | ⟨g', cap', cur, he, hb, hg, hc, hm, hcs, ht⟩
  · simp at h
  · simp at he
    obtain ⟨rfl, rfl⟩ := he
    refine ⟨by simpa using hl, .inr ⟨g, cap, cur.setIfInBounds q u, rfl, hb, ?_, hc, hm, by simpa using hcs, ?_⟩⟩
    · simp [World.setCell, Array.getElem?_modify, hg]
    · rw [Array.toList_setIfInBounds, ← ht, List.take_set]
theorem hpFrozen {w : World} {base : Nat} {e : TypeId} {size g n cap : Nat} {xs : List Value} (h : w.ownsRow base e size (.slice (some ⟨g, 0, Option.none⟩) n cap) n xs) (q : Nat) : w.frozen? ⟨g, q, Option.none⟩ = false := by
  obtain ⟨hl, h⟩ := h
  rcases h with ⟨h, _⟩ | ⟨g', cap', cur, he, hb, hg, hc, hm, hcs, ht⟩
  · simp at h
  · simp at he
    obtain ⟨rfl, rfl⟩ := he
    simp [World.frozen?, hg]
theorem hpBlk {S : Nat → Prop} {w w' : World} {k : Nat} {o : Obj} (hu : Upd S w w') (h : w.heap[k]? = some o) (hS : ¬ S k) : w'.heap[k]? = some o := (hu.block k (Array.getElem?_eq_some_iff.1 h).1 hS).trans h
theorem hpRowNe {w : World} {base base' : Nat} {e e' : TypeId} {sz sz' n n' : Nat} {v v' : Value} {xs xs' : List Value} (h : w.ownsRow base e sz v n xs) (h' : w.ownsRow base' e' sz' v' n' xs') (he : e ≠ e') : ∀ k, v.ownBlock = some k → ¬ v'.ownBlock = some k := by
  intro k hk hk'
  rcases h.2 with ⟨rfl, _⟩ | ⟨g, cap, cur, rfl, _, hg, _⟩
  · simp [Value.ownBlock] at hk
  · rcases h'.2 with ⟨rfl, _⟩ | ⟨g', cap', cur', rfl, _, hg', _⟩
    · simp [Value.ownBlock] at hk'
    · simp [Value.ownBlock] at hk hk'
      subst hk; subst hk'
      rw [hg] at hg'
      simp at hg'
      exact he hg'.2
theorem hpBoxNe {w : World} {base : Nat} {e e' : TypeId} {sz n b : Nat} {v : Value} {xs : List Value} {C : Array Value} {fr : Nat × Nat} (h : w.ownsRow base e sz v n xs) (h' : w.heap[b]? = some (.cells C e' fr)) (he : e ≠ e') : ¬ v.ownBlock = some b := by
  intro hk
  rcases h.2 with ⟨rfl, _⟩ | ⟨g, cap, cur, rfl, _, hg, _⟩
  · simp [Value.ownBlock] at hk
  · simp [Value.ownBlock] at hk
    subst hk
    rw [hg] at h'
    simp at h'
    exact he h'.2.1
theorem hpRowLt {w : World} {base : Nat} {e : TypeId} {sz n : Nat} {v : Value} {xs : List Value} (h : w.ownsRow base e sz v n xs) : ∀ k, v.ownBlock = some k → k < w.heap.size := by
  intro k hk
  rcases h.2 with ⟨rfl, _⟩ | ⟨g, cap, cur, rfl, _, hg, _⟩
  · simp [Value.ownBlock] at hk
  · simp [Value.ownBlock] at hk
    subst hk
    exact (Array.getElem?_eq_some_iff.1 hg).1

/-- an array's bytes, in a block of their own -/
structure Dat (F : Nat → Prop) (w : World) (p : ArrM × Value) : Prop where
  row : w.ownsRow 0 5 1 p.2 p.1.data.length (bv p.1.data)
  byt : ∀ y ∈ p.1.data, 0 ≤ y ∧ y ≤ 255
  inn : ∀ k, p.2.ownBlock = some k → F k
  len : p.1.data.length ≤ 64
theorem Dat.upd {F : Nat → Prop} {w w' : World} {p : ArrM × Value} {S : Nat → Prop} (h : Dat F w p) (hu : Upd S w w') (hS : ∀ k, p.2.ownBlock = some k → ¬ S k) : Dat F w' p :=
  ⟨ownsRow_upd h.row hu hS, h.byt, h.inn, h.len⟩
theorem Dat.vw {F : Nat → Prop} {w : World} {p : ArrM × Value} (h : Dat F w p) : Vw w p.2 p.1.data := vw_of_row h.row h.byt
def Apart2 (p q : ArrM × Value) : Prop := ∀ k, p.2.ownBlock = some k → ¬ q.2.ownBlock = some k
/-- a heap in memory, in the blocks F: a box of size and list, the list's row, each array's bytes -/
structure Hp (t : TypeId) (F : Nat → Prop) (w : World) (b : Nat) (sz : Int) (av : Value) (R : List (ArrM × Value)) : Prop where
  box : w.heap[b]? = some (.cells #[.int .i64 sz, av] t (0, 0))
  row : w.ownsRow 0 89 5 av R.length (R.flatMap acl)
  dat : ∀ p ∈ R, Dat F w p
  ap : R.Pairwise Apart2
  fb : F b
  fr : ∀ k, av.ownBlock = some k → F k
  lt : ∀ k, F k → k < w.heap.size
/-- the same, said of the plain one -/
def Hep (t : TypeId) (F : Nat → Prop) (w : World) (b : Nat) (m : HpM) : Prop := ∃ av R, Hp t F w b m.size av R ∧ R.map Prod.fst = m.arrs
def More (F : Nat → Prop) (w w' : World) (k : Nat) : Prop := F k ∨ (w.heap.size ≤ k ∧ k < w'.heap.size)

section
variable {t : TypeId} {F G : Nat → Prop} {w w' : World} {b : Nat} {sz : Int} {av : Value} {R : List (ArrM × Value)} {m : HpM}
theorem Hp.upd {S : Nat → Prop} (h : Hp t F w b sz av R) (hu : Upd S w w') (hS : ∀ k, F k → ¬ S k) : Hp t F w' b sz av R :=
  ⟨hpBlk hu h.box (hS b h.fb), ownsRow_upd h.row hu (fun k hk => hS k (h.fr k hk)), fun p hp => (h.dat p hp).upd hu (fun k hk => hS k ((h.dat p hp).inn k hk)), h.ap, h.fb, h.fr, fun k hk => Nat.lt_of_lt_of_le (h.lt k hk) hu.size⟩
theorem Dat.wide {p : ArrM × Value} (h : Dat F w p) (hF : ∀ k, F k → G k) : Dat G w p := ⟨h.row, h.byt, fun k hk => hF k (h.inn k hk), h.len⟩
theorem Hp.wide (h : Hp t F w b sz av R) (hF : ∀ k, F k → G k) (hl : ∀ k, G k → k < w.heap.size) : Hp t G w b sz av R :=
  ⟨h.box, h.row, fun p hp => (h.dat p hp).wide hF, h.ap, hF b h.fb, fun k hk => hF k (h.fr k hk), hl⟩
theorem Hep.upd {S : Nat → Prop} (h : Hep t F w b m) (hu : Upd S w w') (hS : ∀ k, F k → ¬ S k) : Hep t F w' b m := by
  obtain ⟨av, R, h, hR⟩ := h
  exact ⟨av, R, h.upd hu hS, hR⟩
theorem Hep.lt (h : Hep t F w b m) : ∀ k, F k → k < w.heap.size := by
  obtain ⟨av, R, h, hR⟩ := h
  exact h.lt
theorem Hep.more (h : Hep t F w b m) (hu : Upd (fun _ => False) w w') : Hep t (More F w w') w' b m := by
  obtain ⟨av, R, h, hR⟩ := h
  refine ⟨av, R, (h.upd hu (fun _ _ h => h)).wide (fun k hk => .inl hk) (fun k hk => ?_), hR⟩
  rcases hk with hk | hk
  · exact Nat.lt_of_lt_of_le (h.lt k hk) hu.size
  · exact hk.2
theorem Hp.bx (h : Hp t F w b sz av R) : w.cell? ⟨b, 0, none⟩ = some (.int .i64 sz) ∧ w.cell? ⟨b, 1, none⟩ = some av ∧ ∀ q, w.frozen? ⟨b, q, none⟩ = false := by
  have := h.box
  refine ⟨by simp [World.cell?, this], by simp [World.cell?, this], fun q => by simp [World.frozen?, this]⟩
theorem Hp.len (h : Hp t F w b sz av R) : ∃ a c, av = .slice a R.length c := ownsRow_slice h.row
theorem Hp.maxl (h : Hp t F w b sz av R) : R.length ≤ maxLen := by
  rcases h.row.2 with ⟨_, h0⟩ | ⟨g, cap, cur, rfl, hb, hg, hc, hm, hcs, ht⟩
  · omega
  · omega
/-- array i's cells -/
theorem Hp.at (h : Hp t F w b sz av R) {i : Nat} (hi : i < R.length) : ∃ g c, av = .slice (some ⟨g, 0, none⟩) R.length c ∧
    w.cell? ⟨g, i * 5, none⟩ = some (.int .i64 R[i].1.own) ∧ w.cell? ⟨g, i * 5 + 1, none⟩ = some (.int .i64 R[i].1.lab) ∧ w.cell? ⟨g, i * 5 + 2, none⟩ = some (.int .i64 R[i].1.life) ∧
    w.cell? ⟨g, i * 5 + 3, none⟩ = some (.bool R[i].1.sh) ∧ w.cell? ⟨g, i * 5 + 4, none⟩ = some R[i].2 ∧ ∀ q, w.frozen? ⟨g, q, none⟩ = false := by
  have hrow := h.row
  rcases h.row.2 with ⟨_, h0⟩ | ⟨g, cap, cur, rfl, hb, hg, hc, hm, hcs, ht⟩
  · omega
  · have hc := fun j (hj : j < 5) u (hu : (acl R[i])[j]? = some u) => by
      have := hrow.cells (g := g) rfl (i * 5 + j) u (by rw [acl_at R i j hi hj]; exact hu)
      rw [addr_add, Nat.zero_add] at this
      exact this
    exact ⟨g, cap, rfl, hc 0 (by omega) _ rfl, hc 1 (by omega) _ rfl, hc 2 (by omega) _ rfl, hc 3 (by omega) _ rfl, hc 4 (by omega) _ rfl, fun q => hpFrozen hrow q⟩
theorem Hp.dslice (h : Hp t F w b sz av R) {i : Nat} (hi : i < R.length) : ∃ a c, R[i].2 = .slice a R[i].1.data.length c ∧ R[i].1.data.length ≤ c ∧ c ≤ maxLen := (h.dat _ (List.getElem_mem hi)).vw.slice
/-- a byte of array i is turned -/
theorem Hp.poke (h : Hp t F w b sz av R) (ht : t ≠ 5) {i : Nat} (hi : i < R.length) {g c : Nat} (hd : R[i].2 = .slice (some ⟨g, 0, none⟩) R[i].1.data.length c) (j : Nat) (hj : j < R[i].1.data.length) (y : Int) (hy : 0 ≤ y ∧ y ≤ 255) :
    Hp t F (w.setCell ⟨g, j, none⟩ (.int .u8 y)) b sz av (R.set i (R[i].1.put (R[i].1.data.set j y), R[i].2)) := by
  have hm := h.dat _ (List.getElem_mem hi)
  have hu : Upd (fun k => k = g) w (w.setCell ⟨g, j, none⟩ (.int .u8 y)) := Upd.setCell (S := fun k => k = g) w (.inl rfl) _
  have hown : R[i].2.ownBlock = some g := by rw [hd]; rfl
  refine ⟨hpBlk hu h.box ?_, ?_, fun p hp => ?_, ?_, h.fb, h.fr, fun k hk => by simpa [World.setCell] using h.lt k hk⟩
  · rintro rfl
    exact hpBoxNe hm.row h.box (Ne.symm ht) hown
  · rw [List.length_set, acl_keep R i hi]
    exact ownsRow_upd h.row hu (fun k hk hkg => hpRowNe h.row hm.row (by decide) k hk (by rw [hkg]; exact hown))
  · obtain ⟨k, hk, rfl⟩ := List.mem_iff_getElem.1 hp
    rw [List.length_set] at hk
    rw [List.getElem_set]
    split
    · rename_i he
      refine ⟨?_, fun z hz => ?_, hm.inn, by simpa [ArrM.put] using hm.len⟩
      · have h1 := hm.row
        simp only [hd] at h1 ⊢
        have h2 := hpSet h1 j (.int .u8 y)
        simpa [ArrM.put, bv, List.map_set] using h2
      · simp only [ArrM.put] at hz
        rcases List.mem_or_eq_of_mem_set hz with hz | rfl
        · exact hm.byt z hz
        · exact hy
    · rename_i he
      refine (h.dat _ (List.getElem_mem hk)).upd hu (fun q hq hqg => ?_)
      subst hqg
      have hp2 := List.pairwise_iff_getElem.1 h.ap
      rcases Nat.lt_or_ge k i with h1 | h1
      · exact hp2 k i hk hi h1 _ hq hown
      · exact hp2 i k hi hk (by omega) _ hown hq
  · rw [List.pairwise_iff_getElem]
    intro k l hk hl hkl q hq hq'
    rw [List.length_set] at hk hl
    rw [snd_set R i hi _ k hk] at hq
    rw [snd_set R i hi _ l hl] at hq'
    exact List.pairwise_iff_getElem.1 h.ap k l hk hl hkl q hq hq'
/-- array i gets bytes in a block of their own -/
theorem Hp.give (h : Hp t F w b sz av R) (ht : t ≠ 89) {i : Nat} (hi : i < R.length) {g c : Nat} (hv : av = .slice (some ⟨g, 0, none⟩) R.length c) (d : Value) (ys : List Int)
    (hd : w.ownsRow 0 5 1 d ys.length (bv ys)) (hy : ∀ y ∈ ys, 0 ≤ y ∧ y ≤ 255) (hl : ys.length ≤ 64) (hn : ∀ k, d.ownBlock = some k → F k ∧ ∀ p ∈ R, ¬ p.2.ownBlock = some k) :
    Hp t F (w.setCell ⟨g, i * 5 + 4, none⟩ d) b sz av (R.set i (R[i].1.put ys, d)) := by
  have hu : Upd (fun k => k = g) w (w.setCell ⟨g, i * 5 + 4, none⟩ d) := Upd.setCell (S := fun k => k = g) w (.inl rfl) _
  have hown : av.ownBlock = some g := by rw [hv]; rfl
  have hrow := h.row
  refine ⟨hpBlk hu h.box ?_, ?_, fun p hp => ?_, ?_, h.fb, h.fr, fun k hk => by simpa [World.setCell] using h.lt k hk⟩
  · rintro rfl
    exact hpBoxNe hrow h.box (Ne.symm ht) hown
  · rw [List.length_set, acl_set R i hi]
    rw [hv] at hrow ⊢
    exact hpSet hrow _ _
  · obtain ⟨k, hk, rfl⟩ := List.mem_iff_getElem.1 hp
    rw [List.length_set] at hk
    rw [List.getElem_set]
    split
    · exact ⟨ownsRow_upd hd hu (fun k hk hkg => hpRowNe hd hrow (by decide) k hk (by rw [hkg]; exact hown)), hy, fun k hk => (hn k hk).1, hl⟩
    · have hm := h.dat _ (List.getElem_mem hk)
      exact hm.upd hu (fun q hq hqg => hpRowNe hm.row hrow (by decide) q hq (by rw [hqg]; exact hown))
  · rw [List.pairwise_iff_getElem]
    intro k l hk hl hkl q hq hq'
    rw [List.length_set] at hk hl
    rw [List.getElem_set] at hq hq'
    split at hq <;> split at hq'
    · omega
    · exact (hn q hq).2 _ (List.getElem_mem hl) hq'
    · exact (hn q hq').2 _ (List.getElem_mem hk) hq
    · exact List.pairwise_iff_getElem.1 h.ap k l hk hl hkl q hq hq'
/-- the box gets another list -/
theorem Hp.turn (hbox : w.heap[b]? = some (.cells #[.int .i64 sz, av] t (0, 0))) (hfb : F b) (hlt : ∀ k, F k → k < w.heap.size) (ht : t ≠ 5) (ht2 : t ≠ 89) (av' : Value) (R' : List (ArrM × Value))
    (hrow : w.ownsRow 0 89 5 av' R'.length (R'.flatMap acl)) (hdat : ∀ p ∈ R', Dat F w p) (hap : R'.Pairwise Apart2) (hfr : ∀ k, av'.ownBlock = some k → F k) :
    Hp t F (w.setCell ⟨b, 1, none⟩ av') b sz av' R' := by
  have hu : Upd (fun k => k = b) w (w.setCell ⟨b, 1, none⟩ av') := Upd.setCell (S := fun k => k = b) w (.inl rfl) _
  refine ⟨?_, ownsRow_upd hrow hu (fun k hk hkb => hpBoxNe hrow hbox (Ne.symm ht2) (by rw [← hkb]; exact hk)), fun p hp => (hdat p hp).upd hu (fun k hk hkb => hpBoxNe (hdat p hp).row hbox (Ne.symm ht) (by rw [← hkb]; exact hk)), hap, hfb, hfr, fun k hk => by simpa [World.setCell] using hlt k hk⟩
  simp [World.setCell, Array.getElem?_modify, hbox]
/-- one array more at the end -/
theorem ap_snoc {p : ArrM × Value} (h : R.Pairwise Apart2) (hn : ∀ k, p.2.ownBlock = some k → ∀ q ∈ R, ¬ q.2.ownBlock = some k) : (R ++ [p]).Pairwise Apart2 := by
  rw [List.pairwise_append]
  refine ⟨h, by simp, fun q hq r hr k hk hk' => ?_⟩
  simp at hr
  subst hr
  exact hn k hk' q hq hk
theorem zeros_byte (n : Nat) : ∀ y ∈ zeros n, 0 ≤ y ∧ y ≤ 255 := fun y hy => by
  obtain rfl := List.eq_of_mem_replicate hy
  omega
theorem zeros_len (n : Nat) : (zeros n).length = n := by simp [zeros]
theorem made_zeros (n : Nat) : (madeCells #[Value.int .u8 0] n).toList = bv (zeros n) := by
  simp [madeCells, bv, zeros]
  apply List.ext_getElem
  · simp
  · intro i h1 h2
    simp [Nat.mod_one]
end
end Go.Proofs.YtdmadfahgkikkaaGreat
/- Package heap: what it asks, and what it tells of an array. -/
namespace Go.Proofs.YtdmadfahgkikkaaGreat
open Go.RowKit Go.ChangeShapes Go.WideShapes Go.Deep
set_option linter.unusedVariables false
set_option linter.unusedSimpArgs false

theorem hpRet {a b : Bool} (h : a = b) : Ending.returned (.bool a) = Ending.returned (.bool b) := by rw [h]
theorem hLabel (x : Int) (w : World) : Calls Tryz.prog 104 #[.int .i64 x] w fun e w' => e = .returned (.bool (labB x)) ∧ w = w' := by
  have HN := Lib.hid (show labB x = (x == 3 || x == 4) from rfl)
  go_enter Tryz.func104, Tryz.ntmps104
  go_wp2
  all_goals
    go_ret
    refine ⟨hpRet ?_, rfl⟩
    rw [HN.out]
    all_goals
      rw [Bool.eq_iff_iff]
      simp
      try omega
theorem hLife (x : Int) (w : World) : Calls Tryz.prog 105 #[.int .i64 x] w fun e w' => e = .returned (.bool (lifeB x)) ∧ w = w' := by
  have HN := Lib.hid (show lifeB x = (x == 0 || x == 1 || x == 2) from rfl)
  go_enter Tryz.func105, Tryz.ntmps105
  go_wp2
  all_goals
    go_ret
    refine ⟨hpRet ?_, rfl⟩
    rw [HN.out]
    all_goals
      rw [Bool.eq_iff_iff]
      simp
      try omega
def bufB (x : Int) : Bool := x == 1 || x == 2
theorem hBuffer (x : Int) (w : World) : Calls Tryz.prog 112 #[.int .i64 x] w fun e w' => e = .returned (.bool (bufB x)) ∧ w = w' := by
  have HN := Lib.hid (show bufB x = (x == 1 || x == 2) from rfl)
  go_enter Tryz.func112, Tryz.ntmps112
  go_wp2
  all_goals
    go_ret
    refine ⟨hpRet ?_, rfl⟩
    rw [HN.out]
    all_goals
      rw [Bool.eq_iff_iff]
      simp
      try omega
section
variable {F : Nat → Prop} {w : World} {b : Nat} {sz : Int} {av : Value} {R : List (ArrM × Value)}
def hasB (n : Nat) (ref : Int) : Bool := decide (1 ≤ ref ∧ ref ≤ n)
theorem hHas (h : Hp 92 F w b sz av R) (ref : Int) : Calls Tryz.prog 108 #[.pointer (some ⟨b, 0, none⟩), .int .i64 ref] w fun e w' => e = .returned (.bool (hasB R.length ref)) ∧ w = w' := by
  obtain ⟨h0, h1, h2⟩ := h.bx
  obtain ⟨a, c, rfl⟩ := h.len
  have HN := Lib.hid (show hasB R.length ref = decide (1 ≤ ref ∧ ref ≤ R.length) from rfl)
  go_enter Tryz.func108, Tryz.ntmps108
  go_wp2
  all_goals
    go_ret
    refine ⟨hpRet ?_, rfl⟩
    rw [HN.out]
    all_goals
      rw [Bool.eq_iff_iff]
      simp
      try omega
theorem hData_no (h : Hp 92 F w b sz av R) (ref : Int) (hr : hasB R.length ref = false) : Calls Tryz.prog 111 #[.pointer (some ⟨b, 0, none⟩), .int .i64 ref] w fun e w' => e = .returned (.slice none 0 0) ∧ w = w' := by
  have HR := Lib.hid hr
  clear hr
  go_enter Tryz.func111, Tryz.ntmps111
  go_wp2_with (refine (hHas h ref).mono ?_; rw [HR.out]; rintro e w' ⟨rfl, rfl⟩)
  go_ret
  exact ⟨rfl, rfl⟩
theorem hasB_of {n i : Nat} (hi : i < n) : hasB n ((i : Int) + 1) = true := by simp [hasB]; omega
theorem hData (h : Hp 92 F w b sz av R) {i : Nat} (hi : i < R.length) (hl : R.length ≤ 1000) : Calls Tryz.prog 111 #[.pointer (some ⟨b, 0, none⟩), .int .i64 ((i : Int) + 1)] w fun e w' => e = .returned R[i].2 ∧ w = w' := by
  have HR := Lib.hid (hasB_of hi)
  obtain ⟨h0, h1, h2⟩ := h.bx
  obtain ⟨g, c, rfl, -, -, -, -, k4, k5⟩ := h.at hi
  obtain ⟨da, dc, hd, -, -⟩ := h.dslice hi
  rw [hd] at k4 ⊢
  clear hd
  go_enter Tryz.func111, Tryz.ntmps111
  go_wp2_with (refine (hHas h _).mono ?_; rw [HR.out]; rintro e w' ⟨rfl, rfl⟩)
  go_ret
  exact ⟨rfl, rfl⟩
theorem hGet_none (h : Hp 92 F w b sz av R) (ref at_ : Int) (hr : hasB R.length ref = false) : Calls Tryz.prog 97 #[.pointer (some ⟨b, 0, none⟩), .int .i64 ref, .int .i64 at_] w fun e w' => e = .returned (.tuple #[.int .u8 0, .bool false]) ∧ w = w' := by
  have HR := Lib.hid hr
  clear hr
  go_enter Tryz.func97, Tryz.ntmps97
  go_wp2_with (refine (hData_no h ref HR.out).mono ?_; rintro e w' ⟨rfl, rfl⟩)
  all_goals first
    | (refine bodyPost_ret (v := .tuple #[.int .u8 0, .bool false]) (by simp only [results, Tryz.f97]; simp [go_sem]) rfl ?_; exact ⟨rfl, rfl⟩)
    | (exfalso; omega)
theorem hGet_out (h : Hp 92 F w b sz av R) {i : Nat} (hi : i < R.length) (hl : R.length ≤ 1000) (at_ : Int) (ha : at_ < 0 ∨ (R[i].1.data.length : Int) ≤ at_) : Calls Tryz.prog 97 #[.pointer (some ⟨b, 0, none⟩), .int .i64 ((i : Int) + 1), .int .i64 at_] w fun e w' => e = .returned (.tuple #[.int .u8 0, .bool false]) ∧ w = w' := by
  obtain ⟨da, dc, hd, -, -⟩ := h.dslice hi
  have HD := Lib.hid (show Calls Tryz.prog 111 #[.pointer (some ⟨b, 0, none⟩), .int .i64 ((i : Int) + 1)] w fun e w' => e = .returned (.slice da R[i].1.data.length dc) ∧ w = w' by rw [← hd]; exact hData h hi hl)
  clear hd
  generalize R[i].1.data.length = n at *
  go_enter Tryz.func97, Tryz.ntmps97
  go_wp2_with (refine (HD.out).mono ?_; rintro e w' ⟨rfl, rfl⟩)
  all_goals first
    | (refine bodyPost_ret (v := .tuple #[.int .u8 0, .bool false]) (by simp only [results, Tryz.f97]; simp [go_sem]) rfl ?_; exact ⟨rfl, rfl⟩)
    | (exfalso; omega)
theorem Hp.byte (h : Hp 92 F w b sz av R) {i : Nat} (hi : i < R.length) {j : Nat} (hj : j < R[i].1.data.length) : ∃ g c, R[i].2 = .slice (some ⟨g, 0, none⟩) R[i].1.data.length c ∧ w.cell? ⟨g, j, none⟩ = some (.int .u8 (R[i].1.data.getD j 0)) ∧ w.frozen? ⟨g, j, none⟩ = false := by
  have hm := h.dat _ (List.getElem_mem hi)
  have hrow := hm.row
  rcases hm.row.2 with ⟨_, h0⟩ | ⟨g, cap, cur, hd, hb, hg, hc, hmx, hcs, ht⟩
  · omega
  · rw [hd] at hrow
    have hc := hrow.cells (g := g) rfl j (.int .u8 (R[i].1.data.getD j 0)) (by simp [bv, List.getElem?_eq_getElem hj, List.getD])
    rw [addr_add, Nat.zero_add] at hc
    exact ⟨g, cap, hd, hc, hpFrozen hrow j⟩
theorem hGet (h : Hp 92 F w b sz av R) {i : Nat} (hi : i < R.length) (hl : R.length ≤ 1000) {j : Nat} (hj : j < R[i].1.data.length) : Calls Tryz.prog 97 #[.pointer (some ⟨b, 0, none⟩), .int .i64 ((i : Int) + 1), .int .i64 j] w fun e w' => e = .returned (.tuple #[.int .u8 (R[i].1.data.getD j 0), .bool true]) ∧ w = w' := by
  obtain ⟨g, dc, hd, hc, hf⟩ := h.byte hi hj
  have hlen := (h.dat _ (List.getElem_mem hi)).len
  have HD := Lib.hid (show Calls Tryz.prog 111 #[.pointer (some ⟨b, 0, none⟩), .int .i64 ((i : Int) + 1)] w fun e w' => e = .returned (.slice (some ⟨g, 0, none⟩) R[i].1.data.length dc) ∧ w = w' by rw [← hd]; exact hData h hi hl)
  clear hd
  generalize R[i].1.data.getD j 0 = y at *
  generalize R[i].1.data.length = n at *
  go_enter Tryz.func97, Tryz.ntmps97
  go_wp2_with (refine (HD.out).mono ?_; rintro e w' ⟨rfl, rfl⟩)
  all_goals first
    | (refine bodyPost_ret (v := .tuple #[.int .u8 y, .bool true]) (by simp only [results, Tryz.f97]; simp [go_sem]) rfl ?_; exact ⟨rfl, rfl⟩)
    | (exfalso; omega)
theorem hPut_none (h : Hp 92 F w b sz av R) (ref at_ y : Int) (hr : hasB R.length ref = false) : Calls Tryz.prog 98 #[.pointer (some ⟨b, 0, none⟩), .int .i64 ref, .int .i64 at_, .int .u8 y] w fun e w' => e = .returned (.bool false) ∧ w = w' := by
  have HR := Lib.hid hr
  clear hr
  go_enter Tryz.func98, Tryz.ntmps98
  go_wp2_with (refine (hData_no h ref HR.out).mono ?_; rintro e w' ⟨rfl, rfl⟩)
  all_goals first
    | (go_ret; exact ⟨rfl, rfl⟩)
    | (exfalso; omega)
theorem hPut_out (h : Hp 92 F w b sz av R) {i : Nat} (hi : i < R.length) (hl : R.length ≤ 1000) (at_ y : Int) (ha : at_ < 0 ∨ (R[i].1.data.length : Int) ≤ at_) : Calls Tryz.prog 98 #[.pointer (some ⟨b, 0, none⟩), .int .i64 ((i : Int) + 1), .int .i64 at_, .int .u8 y] w fun e w' => e = .returned (.bool false) ∧ w = w' := by
  obtain ⟨da, dc, hd, -, -⟩ := h.dslice hi
  have HD := Lib.hid (show Calls Tryz.prog 111 #[.pointer (some ⟨b, 0, none⟩), .int .i64 ((i : Int) + 1)] w fun e w' => e = .returned (.slice da R[i].1.data.length dc) ∧ w = w' by rw [← hd]; exact hData h hi hl)
  clear hd
  generalize R[i].1.data.length = n at *
  go_enter Tryz.func98, Tryz.ntmps98
  go_wp2_with (refine (HD.out).mono ?_; rintro e w' ⟨rfl, rfl⟩)
  all_goals first
    | (go_ret; exact ⟨rfl, rfl⟩)
    | (exfalso; omega)
theorem hPut (h : Hp 92 F w b sz av R) {i : Nat} (hi : i < R.length) (hl : R.length ≤ 1000) {j : Nat} (hj : j < R[i].1.data.length) (y : Int) (hy : 0 ≤ y ∧ y ≤ 255) : Calls Tryz.prog 98 #[.pointer (some ⟨b, 0, none⟩), .int .i64 ((i : Int) + 1), .int .i64 j, .int .u8 y] w fun e w' => e = .returned (.bool true) ∧ Hp 92 F w' b sz av (R.set i (R[i].1.put (R[i].1.data.set j y), R[i].2)) ∧ Upd F w w' := by
  obtain ⟨g, dc, hd, hc, hf⟩ := h.byte hi hj
  have hlen := (h.dat _ (List.getElem_mem hi)).len
  have HP := Lib.hid (h.poke (by decide) hi hd j hj y hy)
  have HU := Lib.hid (Upd.setCell (S := F) w (p := ⟨g, j, none⟩) (.inl ((h.dat _ (List.getElem_mem hi)).inn g (by rw [hd]; rfl))) (.int .u8 y))
  have HD := Lib.hid (show Calls Tryz.prog 111 #[.pointer (some ⟨b, 0, none⟩), .int .i64 ((i : Int) + 1)] w fun e w' => e = .returned (.slice (some ⟨g, 0, none⟩) R[i].1.data.length dc) ∧ w = w' by rw [← hd]; exact hData h hi hl)
  clear hd
  generalize R[i].1.data.getD j 0 = y0 at *
  generalize hn : R[i].1.data.length = n at *
  clear hn
  go_enter Tryz.func98, Tryz.ntmps98
  go_wp2_with (refine (HD.out).mono ?_; rintro e w' ⟨rfl, rfl⟩)
  all_goals first
    | (go_ret; exact ⟨rfl, HP.out, HU.out⟩)
    | (exfalso; omega)
end
end Go.Proofs.YtdmadfahgkikkaaGreat
/- Package heap: what is used; an array's copy; an array that is told. -/
namespace Go.Proofs.YtdmadfahgkikkaaGreat
open Go.RowKit Go.ChangeShapes Go.WideShapes Go.Deep
set_option linter.unusedVariables false
set_option linter.unusedSimpArgs false

theorem hpS {S : Nat → Prop} {w w' : World} {p : Addr} {u : Value} (h : Upd S w w') (hp : S p.block) : Upd S w (w'.setCell p u) := h.trans (Upd.setCell (S := S) w' (.inl hp) u) (fun _ h _ => h)
theorem hpTop (w : World) (o : Obj) (k : Nat) (h : k = w.heap.size) : (w.alloc o).heap[k]? = some o := by
  subst h
  show (w.heap.push o)[w.heap.size]? = _
  simp
theorem hpNew {w w1 w2 w' : World} {v : Value} {ys : List Int} {S : Nat → Prop} (hu : Upd (fun _ => False) w w1) (h : New w1 v ys w2) (hs : Upd S w2 w') (hS : ∀ k, S k → w.heap.size ≤ k) (hS2 : ∀ k, S k → k < w1.heap.size) : New w v ys w' :=
  ⟨ownsRow_upd h.1 hs (fun k hk hk' => by have := h.2.2 k hk; have := hS2 k hk'; omega), (hu.trans h.2.1 (fun _ h _ => h)).trans hs (fun k hk hl => by have := hS k hk; omega), fun k hk => Nat.le_trans hu.size (h.2.2 k hk)⟩
theorem five {w : World} {g : Nat} {v0 v1 v2 v3 v4 : Value} {t : TypeId} (h : w.heap[g]? = some (.cells #[v0, v1, v2, v3, v4] t (0, 0))) :
    w.cell? ⟨g, 0, none⟩ = some v0 ∧ w.cell? ⟨g, 1, none⟩ = some v1 ∧ w.cell? ⟨g, 2, none⟩ = some v2 ∧ w.cell? ⟨g, 3, none⟩ = some v3 ∧ w.cell? ⟨g, 4, none⟩ = some v4 ∧ ∀ q, w.frozen? ⟨g, q, none⟩ = false := by
  refine ⟨?_, ?_, ?_, ?_, ?_, fun q => by simp [World.frozen?, h]⟩ <;> simp [World.cell?, h]
theorem hClone (a : ArrM) (d : Value) (w : World) (h : Vw w d a.data) (hl : a.data.length ≤ 64) : Calls Tryz.prog 109 #[aval a d] w fun e w' => ∃ d', e = .returned (aval a d') ∧ New w d' a.data w' := by
  obtain ⟨da, dc, rfl, -, -⟩ := h.slice
  obtain ⟨own1, lab1, life1, sh1, ys⟩ := a
  simp only [aval] at h hl ⊢
  generalize hn : ys.length = n at *
  have HN := Lib.hid hn
  clear hn
  obtain ⟨w1, hw1⟩ : ∃ w1, w1 = (w.alloc (.cells #[.int .i64 own1, .int .i64 lab1, .int .i64 life1, .bool sh1, .slice da n dc] 89)).alloc (.cells #[.int .i64 0, .int .i64 0, .int .i64 0, .bool false, .slice none 0 0] 89) := ⟨_, rfl⟩
  have hu1 : Upd (fun _ => False) w w1 := by rw [hw1]; exact (Upd.alloc _ _ _).trans (Upd.alloc _ _ _) (fun _ h _ => h)
  have HV := Lib.hid (h.upd hu1 (fun _ _ h => h))
  have hsz : w1.heap.size = w.heap.size + 2 := by rw [hw1]; simp
  have hx : w1.heap[w.heap.size]? = some (.cells #[.int .i64 own1, .int .i64 lab1, .int .i64 life1, .bool sh1, .slice da n dc] 89 (0, 0)) := by
    rw [hw1]
    exact hpBlk (S := fun _ => False) (Upd.alloc _ _ _) (hpTop w _ _ rfl) (fun h => h)
  have hy : w1.heap[w.heap.size + 1]? = some (.cells #[.int .i64 0, .int .i64 0, .int .i64 0, .bool false, .slice none 0 0] 89 (0, 0)) := by
    rw [hw1]
    exact hpTop _ _ _ (by simp)
  have HX := Lib.hid hx
  have HY := Lib.hid hy
  have HU := Lib.hid hu1
  have HZ := Lib.hid hsz
  have HW := Lib.hid hw1
  clear hx hy hu1 hsz hw1 h
  go_enter Tryz.func109, Tryz.ntmps109
  go_wp2_with fail
  rw [← HW.out]
  refine (clone w1 _ ys HV.out (by rw [HN.out]; omega)).mono ?_
  rintro e w2 ⟨v', rfl, hnew⟩
  have hx := hpBlk hnew.2.1 HX.out (fun h => h)
  have hy := hpBlk hnew.2.1 HY.out (fun h => h)
  obtain ⟨c0, c1, c2, c3, c4, cf⟩ := five hx
  obtain ⟨e0, e1, e2, e3, e4, ef⟩ := five hy
  have HE := Lib.hid hnew
  have HY2 := Lib.hid hy
  obtain ⟨va, vc, rfl⟩ := ownsRow_slice hnew.1
  clear hx hy hnew
  have f0 := cf 0; have f1 := cf 1; have f2 := cf 2; have f3 := cf 3; have f4 := cf 4
  have g0 := ef 0; have g1 := ef 1; have g2 := ef 2; have g3 := ef 3; have g4 := ef 4
  clear cf ef
  go_wp2_with fail
  refine bodyPost_ret (v := aval ⟨own1, lab1, life1, sh1, ys⟩ (.slice va ys.length vc)) (by simp only [results, Tryz.f109]; simp [go_sem, aval, c0, c1, c2, c3, c4, e0, e1, e2, e3, e4, f0, f1, f2, f3, f4, g0, g1, g2, g3, g4]) rfl ?_
  clear c0 c1 c2 c3 c4 e0 e1 e2 e3 e4 f0 f1 f2 f3 f4 g0 g1 g2 g3 g4
  have hZ := HZ.out
  refine ⟨_, rfl, hpNew HU.out HE.out (S := fun k => k = w.heap.size ∨ k = w.heap.size + 1) ?_ (fun k hk => by omega) (fun k hk => by omega)⟩
  iterate 6 refine hpS ?_ (by simp)
  exact Upd.refl _ _
def zarr : Value := .agg #[.int .i64 0, .int .i64 0, .int .i64 0, .bool false, .slice none 0 0]
section
variable {F : Nat → Prop} {w : World} {b : Nat} {sz : Int} {av : Value} {R : List (ArrM × Value)}
theorem hArray_no (h : Hp 92 F w b sz av R) (ref : Int) (hr : hasB R.length ref = false) : Calls Tryz.prog 95 #[.pointer (some ⟨b, 0, none⟩), .int .i64 ref] w fun e w' => e = .returned (.tuple #[zarr, .bool false]) ∧ Upd (fun _ => False) w w' := by
  have HR := Lib.hid hr
  clear hr
  have hu := Upd.alloc (fun _ => False) w (.cells #[.int .i64 0, .int .i64 0, .int .i64 0, .bool false, .slice none 0 0] 89)
  obtain ⟨w1, hw1⟩ : ∃ w1, w1 = w.alloc (.cells #[.int .i64 0, .int .i64 0, .int .i64 0, .bool false, .slice none 0 0] 89) := ⟨_, rfl⟩
  have hx : w1.heap[w.heap.size]? = some (.cells #[.int .i64 0, .int .i64 0, .int .i64 0, .bool false, .slice none 0 0] 89 (0, 0)) := by
    rw [hw1]; exact hpTop _ _ _ rfl
  rw [← hw1] at hu
  have H1 := Lib.hid (h.upd hu (fun _ _ h => h))
  have HU := Lib.hid hu
  have HW := Lib.hid hw1
  clear hu h hw1
  go_enter Tryz.func95, Tryz.ntmps95
  go_wp2_with fail
  rw [← HW.out]
  refine (hHas H1.out ref).mono ?_
  rw [HR.out]
  rintro e w2 ⟨rfl, rfl⟩
  obtain ⟨c0, c1, c2, c3, c4, cf⟩ := five hx
  have f0 := cf 0; have f1 := cf 1; have f2 := cf 2; have f3 := cf 3; have f4 := cf 4
  clear cf hx
  go_wp2_with fail
  refine bodyPost_ret (v := .tuple #[zarr, .bool false]) (by simp only [results, Tryz.f95]; simp [go_sem, zarr, c0, c1, c2, c3, c4, f0, f1, f2, f3, f4]) rfl ?_
  clear c0 c1 c2 c3 c4 f0 f1 f2 f3 f4
  have hs : Upd (fun k => k = w.heap.size) w1 (((((w1.setCell ⟨w.heap.size, 0, none⟩ (.int .i64 0)).setCell ⟨w.heap.size, 1, none⟩ (.int .i64 0)).setCell ⟨w.heap.size, 2, none⟩ (.int .i64 0)).setCell ⟨w.heap.size, 3, none⟩ (.bool false)).setCell ⟨w.heap.size, 4, none⟩ (.slice none 0 0)) := by
    iterate 5 refine hpS ?_ (by simp)
    exact Upd.refl _ _
  exact ⟨rfl, HU.out.trans hs (fun k hk hl => by omega)⟩
theorem hArray (h : Hp 92 F w b sz av R) {i : Nat} (hi : i < R.length) (hl : R.length ≤ 1000) : Calls Tryz.prog 95 #[.pointer (some ⟨b, 0, none⟩), .int .i64 ((i : Int) + 1)] w fun e w' => ∃ d, e = .returned (.tuple #[aval R[i].1 d, .bool true]) ∧ New w d R[i].1.data w' := by
  have HR := Lib.hid (hasB_of hi)
  have hu := Upd.alloc (fun _ => False) w (.cells #[.int .i64 0, .int .i64 0, .int .i64 0, .bool false, .slice none 0 0] 89)
  obtain ⟨w1, hw1⟩ : ∃ w1, w1 = w.alloc (.cells #[.int .i64 0, .int .i64 0, .int .i64 0, .bool false, .slice none 0 0] 89) := ⟨_, rfl⟩
  have hx : w1.heap[w.heap.size]? = some (.cells #[.int .i64 0, .int .i64 0, .int .i64 0, .bool false, .slice none 0 0] 89 (0, 0)) := by
    rw [hw1]; exact hpTop _ _ _ rfl
  have hsz : w1.heap.size = w.heap.size + 1 := by rw [hw1]; simp
  rw [← hw1] at hu
  have H1 := Lib.hid (h.upd hu (fun _ _ h => h))
  have HU := Lib.hid hu
  have HW := Lib.hid hw1
  have HX := Lib.hid hx
  have HZ := Lib.hid hsz
  clear hu h hw1 hx hsz
  have HH := Lib.hid (hHas H1.out ((i : Int) + 1))
  obtain ⟨h0, h1, h2⟩ := H1.out.bx
  have hm := H1.out.dat _ (List.getElem_mem hi)
  have HV := Lib.hid (show Vw w1 R[i].2 R[i].1.data from hm.vw)
  have HL := Lib.hid (show R[i].1.data.length ≤ 64 from hm.len)
  obtain ⟨g, c, rfl, k0, k1, k2, k3, k4, k5⟩ := H1.out.at hi
  obtain ⟨da, dc, hd, -, -⟩ := H1.out.dslice hi
  rw [hd] at k4
  have HC := Lib.hid (show Calls Tryz.prog 109 #[.agg #[.int .i64 R[i].1.own, .int .i64 R[i].1.lab, .int .i64 R[i].1.life, .bool R[i].1.sh, .slice da R[i].1.data.length dc]] w1 fun e w' => ∃ d', e = .returned (aval R[i].1 d') ∧ New w1 d' R[i].1.data w' by rw [← hd]; exact hClone R[i].1 R[i].2 w1 HV.out HL.out)
  clear hd hm
  generalize R[i].1 = a at *
  generalize hn : a.data.length = n at *
  clear hn
  go_enter Tryz.func95, Tryz.ntmps95
  go_wp2_with fail
  rw [← HW.out]
  refine HH.out.mono ?_
  rw [HR.out]
  rintro e w2 ⟨rfl, rfl⟩
  go_wp2_with fail
  refine HC.out.mono ?_
  rintro e w2 ⟨d', rfl, hnew⟩
  obtain ⟨va, vc, rfl⟩ := ownsRow_slice hnew.1
  have hx := hpBlk hnew.2.1 HX.out (fun h => h)
  obtain ⟨c0, c1, c2, c3, c4, cf⟩ := five hx
  have f0 := cf 0; have f1 := cf 1; have f2 := cf 2; have f3 := cf 3; have f4 := cf 4
  have HE := Lib.hid hnew
  clear cf hx hnew h0 h1 h2 k0 k1 k2 k3 k4 k5
  obtain ⟨own1, lab1, life1, sh1, ys⟩ := a
  simp only [aval]
  go_wp2_with fail
  refine bodyPost_ret (v := .tuple #[aval ⟨own1, lab1, life1, sh1, ys⟩ (.slice va ys.length vc), .bool true]) (by simp only [results, Tryz.f95]; simp [go_sem, aval, c0, c1, c2, c3, c4, f0, f1, f2, f3, f4]) rfl ?_
  clear c0 c1 c2 c3 c4 f0 f1 f2 f3 f4
  have hZ := HZ.out
  refine ⟨_, rfl, hpNew HU.out HE.out (S := fun k => k = w.heap.size) ?_ (fun k hk => by omega) (fun k hk => by omega)⟩
  iterate 5 refine hpS ?_ (by simp)
  exact Upd.refl _ _
end
end Go.Proofs.YtdmadfahgkikkaaGreat

/- Package heap: what a heap is, plainly, and how one lies in memory. -/
import Derived.Test.YtdmadfahgkikkaaDoorBytes
import Derived.Deep.RegionHeld3
namespace Go.Proofs.YtdmadfahgkikkaaDoor
open Go.RowKit Go.ChangeShapes Go.WideShapes Go.Deep
set_option linter.unusedVariables false
set_option linter.unusedSimpArgs false

structure ArrM where
  own : Int
  lab : Int
  life : Int
  sh : Bool
  data : List Int
deriving DecidableEq, Inhabited
def ArrM.put (a : ArrM) (ys : List Int) : ArrM := ⟨a.own, a.lab, a.life, a.sh, ys⟩
structure HpM where
  size : Int
  arrs : List ArrM
def usedL (L : List ArrM) : Nat := (L.map (fun a => 8 + a.data.length)).sum
def usedP (L : List ArrM) : Nat := usedL (L.drop 2)
def labB (l : Int) : Bool := l == 3 || l == 4
def lifeB (l : Int) : Bool := l == 0 || l == 1 || l == 2
/-- may such an array be made? -/
def fitsB (m : HpM) (lab life n : Int) : Bool := labB lab && lifeB life && decide (0 ≤ n) && decide (n ≤ 64) && decide (8 + n ≤ m.size - (usedP m.arrs : Int))
def zeros (n : Nat) : List Int := List.replicate n 0
def newA (own lab life : Int) (sh : Bool) (n : Int) : ArrM := ⟨own, lab, life, sh, zeros n.toNat⟩
def HpM.add (m : HpM) (a : ArrM) : HpM := ⟨m.size, m.arrs ++ [a]⟩
/-- array i with other bytes -/
def HpM.lay (m : HpM) (i : Nat) (ys : List Int) : HpM := ⟨m.size, m.arrs.set i ((m.arrs.getD i default).put ys)⟩
def HpM.put (m : HpM) (i j : Nat) (y : Int) : HpM := m.lay i (((m.arrs.getD i default).data).set j y)
def endsB (a : ArrM) (life own : Int) : Bool := (life == 1 && (a.life == 1 || a.life == 2)) || (life == 2 && a.life == 2 && a.own == own)
def clrA (life own : Int) (a : ArrM) : ArrM := if endsB a life own then a.put (zeros a.data.length) else a
def HpM.clr (m : HpM) (life own : Int) : HpM := ⟨m.size, m.arrs.map (clrA life own)⟩
def goneN (L : List ArrM) (life own : Int) : Nat := (L.filter (fun a => endsB a life own)).length
def two (s : Int) : HpM := ⟨s, [⟨-1, 3, 0, false, []⟩, ⟨-1, 4, 0, false, []⟩]⟩

def acl (p : ArrM × Value) : List Value := [.int .i64 p.1.own, .int .i64 p.1.lab, .int .i64 p.1.life, .bool p.1.sh, p.2]
def aval (a : ArrM) (d : Value) : Value := .agg #[.int .i64 a.own, .int .i64 a.lab, .int .i64 a.life, .bool a.sh, d]
theorem acl_len (R : List (ArrM × Value)) : (R.flatMap acl).length = R.length * 5 := by
  induction R with
  | nil => rfl
  | cons p R ih => rw [List.flatMap_cons, List.length_append, ih, List.length_cons]; simp [acl]; omega
theorem acl_at : ∀ (R : List (ArrM × Value)) (i j : Nat) (hi : i < R.length), j < 5 → (R.flatMap acl)[i * 5 + j]? = (acl R[i])[j]?
  | [], i, j, hi, _ => by simp at hi
  | p :: R, 0, j, hi, hj => by
    rw [List.flatMap_cons, List.getElem?_append_left (by simp [acl]; omega)]; simp
  | p :: R, i + 1, j, hi, hj => by
    rw [List.flatMap_cons, List.getElem?_append_right (by simp [acl]; omega)]
    have := acl_at R i j (by simpa using hi) hj
    rw [show (i + 1) * 5 + j - (acl p).length = i * 5 + j by simp [acl]; omega, this]; simp
theorem acl_set : ∀ (R : List (ArrM × Value)) (i : Nat) (hi : i < R.length) (ys : List Int) (d : Value), (R.set i (R[i].1.put ys, d)).flatMap acl = (R.flatMap acl).set (i * 5 + 4) d
  | [], i, hi, _, _ => by simp at hi
  | p :: R, 0, hi, ys, d => by simp [acl, ArrM.put]
  | p :: R, i + 1, hi, ys, d => by
    rw [List.set_cons_succ, List.flatMap_cons, List.flatMap_cons, List.set_append_right _ _ (by simp [acl]; omega)]
    have := acl_set R i (by simpa using hi) ys d
    rw [show (i + 1) * 5 + 4 - (acl p).length = i * 5 + 4 by simp [acl]; omega]
    simp only [List.getElem_cons_succ]
    rw [this]
theorem setSame {α : Type} : ∀ (xs : List α) (n : Nat) (v : α), xs[n]? = some v → xs.set n v = xs
  | [], n, v, h => by simp at h
  | x :: xs, 0, v, h => by simp at h; simp [h]
  | x :: xs, n + 1, v, h => by simp at h; simp [setSame xs n v h]
theorem acl_keep (R : List (ArrM × Value)) (i : Nat) (hi : i < R.length) (ys : List Int) : (R.set i (R[i].1.put ys, R[i].2)).flatMap acl = R.flatMap acl := by
  rw [acl_set R i hi ys]
  refine setSame _ _ _ ?_
  rw [acl_at R i 4 hi (by omega)]
  rfl
theorem snd_set (R : List (ArrM × Value)) (i : Nat) (hi : i < R.length) (a : ArrM) (k : Nat) (hk : k < R.length) : ((R.set i (a, R[i].2))[k]'(by rw [List.length_set]; exact hk)).2 = R[k].2 := by
  rw [List.getElem_set]
  split
  · rename_i he
    subst he
    rfl
  · rfl
theorem acl_one (R : List (ArrM × Value)) (h : ∀ p ∈ R, p.2.oneCell' = true) : ∀ u ∈ R.flatMap acl, u.oneCell' = true := by
  intro u hu
  obtain ⟨p, hp, hu⟩ := List.mem_flatMap.1 hu
  simp [acl] at hu
  rcases hu with rfl | rfl | rfl | rfl | rfl
  all_goals first | rfl | exact h p hp

theorem hpSet {w : World} {base : Nat} {e : TypeId} {size g n cap : Nat} {xs : List Value} (h : w.ownsRow base e size (.slice (some ⟨g, 0, Option.none⟩) n cap) n xs) (q : Nat) (u : Value) :
    (w.setCell ⟨g, q, Option.none⟩ u).ownsRow base e size (.slice (some ⟨g, 0, Option.none⟩) n cap) n (xs.set q u) := by
  obtain ⟨hl, h⟩ := h
  rcases h with ⟨h, _⟩ | ⟨g', cap', cur, he, hb, hg, hc, hm, hcs, ht⟩
  · simp at h
  · simp at he
    obtain ⟨rfl, rfl⟩ := he
    refine ⟨by simpa using hl, .inr ⟨g, cap, cur.setIfInBounds q u, rfl, hb, ?_, hc, hm, by simpa using hcs, ?_⟩⟩
    · simp [World.setCell, Array.getElem?_modify, hg]
    · rw [Array.toList_setIfInBounds, ← ht, List.take_set]
theorem hpFrozen {w : World} {base : Nat} {e : TypeId} {size g n cap : Nat} {xs : List Value} (h : w.ownsRow base e size (.slice (some ⟨g, 0, Option.none⟩) n cap) n xs) (q : Nat) : w.frozen? ⟨g, q, Option.none⟩ = false := by
  obtain ⟨hl, h⟩ := h
  rcases h with ⟨h, _⟩ | ⟨g', cap', cur, he, hb, hg, hc, hm, hcs, ht⟩
  · simp at h
  · simp at he
    obtain ⟨rfl, rfl⟩ := he
    simp [World.frozen?, hg]
theorem hpBlk {S : Nat → Prop} {w w' : World} {k : Nat} {o : Obj} (hu : Upd S w w') (h : w.heap[k]? = some o) (hS : ¬ S k) : w'.heap[k]? = some o := (hu.block k (Array.getElem?_eq_some_iff.1 h).1 hS).trans h
theorem hpRowNe {w : World} {base base' : Nat} {e e' : TypeId} {sz sz' n n' : Nat} {v v' : Value} {xs xs' : List Value} (h : w.ownsRow base e sz v n xs) (h' : w.ownsRow base' e' sz' v' n' xs') (he : e ≠ e') : ∀ k, v.ownBlock = some k → ¬ v'.ownBlock = some k := by
  intro k hk hk'
  rcases h.2 with ⟨rfl, _⟩ | ⟨g, cap, cur, rfl, _, hg, _⟩
  · simp [Value.ownBlock] at hk
  · rcases h'.2 with ⟨rfl, _⟩ | ⟨g', cap', cur', rfl, _, hg', _⟩
    · simp [Value.ownBlock] at hk'
    · simp [Value.ownBlock] at hk hk'
      subst hk; subst hk'
      rw [hg] at hg'
      simp at hg'
      exact he hg'.2
theorem hpBoxNe {w : World} {base : Nat} {e e' : TypeId} {sz n b : Nat} {v : Value} {xs : List Value} {C : Array Value} {fr : Nat × Nat} (h : w.ownsRow base e sz v n xs) (h' : w.heap[b]? = some (.cells C e' fr)) (he : e ≠ e') : ¬ v.ownBlock = some b := by
  intro hk
  rcases h.2 with ⟨rfl, _⟩ | ⟨g, cap, cur, rfl, _, hg, _⟩
  · simp [Value.ownBlock] at hk
  · simp [Value.ownBlock] at hk
    subst hk
    rw [hg] at h'
    simp at h'
    exact he h'.2.1
theorem hpRowLt {w : World} {base : Nat} {e : TypeId} {sz n : Nat} {v : Value} {xs : List Value} (h : w.ownsRow base e sz v n xs) : ∀ k, v.ownBlock = some k → k < w.heap.size := by
  intro k hk
  rcases h.2 with ⟨rfl, _⟩ | ⟨g, cap, cur, rfl, _, hg, _⟩
  · simp [Value.ownBlock] at hk
  · simp [Value.ownBlock] at hk
    subst hk
    exact (Array.getElem?_eq_some_iff.1 hg).1

/-- an array's bytes, in a block of their own -/
structure Dat (F : Nat → Prop) (w : World) (p : ArrM × Value) : Prop where
  row : w.ownsRow 0 5 1 p.2 p.1.data.length (bv p.1.data)
  byt : ∀ y ∈ p.1.data, 0 ≤ y ∧ y ≤ 255
  inn : ∀ k, p.2.ownBlock = some k → F k
  len : p.1.data.length ≤ 64
theorem Dat.upd {F : Nat → Prop} {w w' : World} {p : ArrM × Value} {S : Nat → Prop} (h : Dat F w p) (hu : Upd S w w') (hS : ∀ k, p.2.ownBlock = some k → ¬ S k) : Dat F w' p :=
  ⟨ownsRow_upd h.row hu hS, h.byt, h.inn, h.len⟩
theorem Dat.vw {F : Nat → Prop} {w : World} {p : ArrM × Value} (h : Dat F w p) : Vw w p.2 p.1.data := vw_of_row h.row h.byt
def Apart2 (p q : ArrM × Value) : Prop := ∀ k, p.2.ownBlock = some k → ¬ q.2.ownBlock = some k
/-- a heap in memory, in the blocks F: a box of size and list, the list's row, each array's bytes -/
structure Hp (t : TypeId) (F : Nat → Prop) (w : World) (b : Nat) (sz : Int) (av : Value) (R : List (ArrM × Value)) : Prop where
  box : w.heap[b]? = some (.cells #[.int .i64 sz, av] t (0, 0))
  row : w.ownsRow 0 50 5 av R.length (R.flatMap acl)
  dat : ∀ p ∈ R, Dat F w p
  ap : R.Pairwise Apart2
  fb : F b
  fr : ∀ k, av.ownBlock = some k → F k
  lt : ∀ k, F k → k < w.heap.size
/-- the same, said of the plain one -/
def Hep (t : TypeId) (F : Nat → Prop) (w : World) (b : Nat) (m : HpM) : Prop := ∃ av R, Hp t F w b m.size av R ∧ R.map Prod.fst = m.arrs
def More (F : Nat → Prop) (w w' : World) (k : Nat) : Prop := F k ∨ (w.heap.size ≤ k ∧ k < w'.heap.size)

section
variable {t : TypeId} {F G : Nat → Prop} {w w' : World} {b : Nat} {sz : Int} {av : Value} {R : List (ArrM × Value)} {m : HpM}
theorem Hp.upd {S : Nat → Prop} (h : Hp t F w b sz av R) (hu : Upd S w w') (hS : ∀ k, F k → ¬ S k) : Hp t F w' b sz av R :=
  ⟨hpBlk hu h.box (hS b h.fb), ownsRow_upd h.row hu (fun k hk => hS k (h.fr k hk)), fun p hp => (h.dat p hp).upd hu (fun k hk => hS k ((h.dat p hp).inn k hk)), h.ap, h.fb, h.fr, fun k hk => Nat.lt_of_lt_of_le (h.lt k hk) hu.size⟩
theorem Dat.wide {p : ArrM × Value} (h : Dat F w p) (hF : ∀ k, F k → G k) : Dat G w p := ⟨h.row, h.byt, fun k hk => hF k (h.inn k hk), h.len⟩
theorem Hp.wide (h : Hp t F w b sz av R) (hF : ∀ k, F k → G k) (hl : ∀ k, G k → k < w.heap.size) : Hp t G w b sz av R :=
  ⟨h.box, h.row, fun p hp => (h.dat p hp).wide hF, h.ap, hF b h.fb, fun k hk => hF k (h.fr k hk), hl⟩
theorem Hep.upd {S : Nat → Prop} (h : Hep t F w b m) (hu : Upd S w w') (hS : ∀ k, F k → ¬ S k) : Hep t F w' b m := by
  obtain ⟨av, R, h, hR⟩ := h
  exact ⟨av, R, h.upd hu hS, hR⟩
theorem Hep.lt (h : Hep t F w b m) : ∀ k, F k → k < w.heap.size := by
  obtain ⟨av, R, h, hR⟩ := h
  exact h.lt
theorem Hep.more (h : Hep t F w b m) (hu : Upd (fun _ => False) w w') : Hep t (More F w w') w' b m := by
  obtain ⟨av, R, h, hR⟩ := h
  refine ⟨av, R, (h.upd hu (fun _ _ h => h)).wide (fun k hk => .inl hk) (fun k hk => ?_), hR⟩
  rcases hk with hk | hk
  · exact Nat.lt_of_lt_of_le (h.lt k hk) hu.size
  · exact hk.2
theorem Hp.bx (h : Hp t F w b sz av R) : w.cell? ⟨b, 0, none⟩ = some (.int .i64 sz) ∧ w.cell? ⟨b, 1, none⟩ = some av ∧ ∀ q, w.frozen? ⟨b, q, none⟩ = false := by
  have := h.box
  refine ⟨by simp [World.cell?, this], by simp [World.cell?, this], fun q => by simp [World.frozen?, this]⟩
theorem Hp.len (h : Hp t F w b sz av R) : ∃ a c, av = .slice a R.length c := ownsRow_slice h.row
theorem Hp.maxl (h : Hp t F w b sz av R) : R.length ≤ maxLen := by
  rcases h.row.2 with ⟨_, h0⟩ | ⟨g, cap, cur, rfl, hb, hg, hc, hm, hcs, ht⟩
  · omega
  · omega
/-- array i's cells -/
theorem Hp.at (h : Hp t F w b sz av R) {i : Nat} (hi : i < R.length) : ∃ g c, av = .slice (some ⟨g, 0, none⟩) R.length c ∧
    w.cell? ⟨g, i * 5, none⟩ = some (.int .i64 R[i].1.own) ∧ w.cell? ⟨g, i * 5 + 1, none⟩ = some (.int .i64 R[i].1.lab) ∧ w.cell? ⟨g, i * 5 + 2, none⟩ = some (.int .i64 R[i].1.life) ∧
    w.cell? ⟨g, i * 5 + 3, none⟩ = some (.bool R[i].1.sh) ∧ w.cell? ⟨g, i * 5 + 4, none⟩ = some R[i].2 ∧ ∀ q, w.frozen? ⟨g, q, none⟩ = false := by
  have hrow := h.row
  rcases h.row.2 with ⟨_, h0⟩ | ⟨g, cap, cur, rfl, hb, hg, hc, hm, hcs, ht⟩
  · omega
  · have hc := fun j (hj : j < 5) u (hu : (acl R[i])[j]? = some u) => by
      have := hrow.cells (g := g) rfl (i * 5 + j) u (by rw [acl_at R i j hi hj]; exact hu)
      rw [addr_add, Nat.zero_add] at this
      exact this
    exact ⟨g, cap, rfl, hc 0 (by omega) _ rfl, hc 1 (by omega) _ rfl, hc 2 (by omega) _ rfl, hc 3 (by omega) _ rfl, hc 4 (by omega) _ rfl, fun q => hpFrozen hrow q⟩
theorem Hp.dslice (h : Hp t F w b sz av R) {i : Nat} (hi : i < R.length) : ∃ a c, R[i].2 = .slice a R[i].1.data.length c ∧ R[i].1.data.length ≤ c ∧ c ≤ maxLen := (h.dat _ (List.getElem_mem hi)).vw.slice
/-- a byte of array i is turned -/
theorem Hp.poke (h : Hp t F w b sz av R) (ht : t ≠ 5) {i : Nat} (hi : i < R.length) {g c : Nat} (hd : R[i].2 = .slice (some ⟨g, 0, none⟩) R[i].1.data.length c) (j : Nat) (hj : j < R[i].1.data.length) (y : Int) (hy : 0 ≤ y ∧ y ≤ 255) :
    Hp t F (w.setCell ⟨g, j, none⟩ (.int .u8 y)) b sz av (R.set i (R[i].1.put (R[i].1.data.set j y), R[i].2)) := by
  have hm := h.dat _ (List.getElem_mem hi)
  have hu : Upd (fun k => k = g) w (w.setCell ⟨g, j, none⟩ (.int .u8 y)) := Upd.setCell (S := fun k => k = g) w (.inl rfl) _
  have hown : R[i].2.ownBlock = some g := by rw [hd]; rfl
  refine ⟨hpBlk hu h.box ?_, ?_, fun p hp => ?_, ?_, h.fb, h.fr, fun k hk => by simpa [World.setCell] using h.lt k hk⟩
  · rintro rfl
    exact hpBoxNe hm.row h.box (Ne.symm ht) hown
  · rw [List.length_set, acl_keep R i hi]
    exact ownsRow_upd h.row hu (fun k hk hkg => hpRowNe h.row hm.row (by decide) k hk (by rw [hkg]; exact hown))
  · obtain ⟨k, hk, rfl⟩ := List.mem_iff_getElem.1 hp
    rw [List.length_set] at hk
    rw [List.getElem_set]
    split
    · rename_i he
      refine ⟨?_, fun z hz => ?_, hm.inn, by simpa [ArrM.put] using hm.len⟩
      · have h1 := hm.row
        simp only [hd] at h1 ⊢
        have h2 := hpSet h1 j (.int .u8 y)
        simpa [ArrM.put, bv, List.map_set] using h2
      · simp only [ArrM.put] at hz
        rcases List.mem_or_eq_of_mem_set hz with hz | rfl
        · exact hm.byt z hz
        · exact hy
    · rename_i he
      refine (h.dat _ (List.getElem_mem hk)).upd hu (fun q hq hqg => ?_)
      subst hqg
      have hp2 := List.pairwise_iff_getElem.1 h.ap
      rcases Nat.lt_or_ge k i with h1 | h1
      · exact hp2 k i hk hi h1 _ hq hown
      · exact hp2 i k hi hk (by omega) _ hown hq
  · rw [List.pairwise_iff_getElem]
    intro k l hk hl hkl q hq hq'
    rw [List.length_set] at hk hl
    rw [snd_set R i hi _ k hk] at hq
    rw [snd_set R i hi _ l hl] at hq'
    exact List.pairwise_iff_getElem.1 h.ap k l hk hl hkl q hq hq'
/-- array i gets bytes in a block of their own -/
theorem Hp.give (h : Hp t F w b sz av R) (ht : t ≠ 50) {i : Nat} (hi : i < R.length) {g c : Nat} (hv : av = .slice (some ⟨g, 0, none⟩) R.length c) (d : Value) (ys : List Int)
    (hd : w.ownsRow 0 5 1 d ys.length (bv ys)) (hy : ∀ y ∈ ys, 0 ≤ y ∧ y ≤ 255) (hl : ys.length ≤ 64) (hn : ∀ k, d.ownBlock = some k → F k ∧ ∀ p ∈ R, ¬ p.2.ownBlock = some k) :
    Hp t F (w.setCell ⟨g, i * 5 + 4, none⟩ d) b sz av (R.set i (R[i].1.put ys, d)) := by
  have hu : Upd (fun k => k = g) w (w.setCell ⟨g, i * 5 + 4, none⟩ d) := Upd.setCell (S := fun k => k = g) w (.inl rfl) _
  have hown : av.ownBlock = some g := by rw [hv]; rfl
  have hrow := h.row
  refine ⟨hpBlk hu h.box ?_, ?_, fun p hp => ?_, ?_, h.fb, h.fr, fun k hk => by simpa [World.setCell] using h.lt k hk⟩
  · rintro rfl
    exact hpBoxNe hrow h.box (Ne.symm ht) hown
  · rw [List.length_set, acl_set R i hi]
    rw [hv] at hrow ⊢
    exact hpSet hrow _ _
  · obtain ⟨k, hk, rfl⟩ := List.mem_iff_getElem.1 hp
    rw [List.length_set] at hk
    rw [List.getElem_set]
    split
    · exact ⟨ownsRow_upd hd hu (fun k hk hkg => hpRowNe hd hrow (by decide) k hk (by rw [hkg]; exact hown)), hy, fun k hk => (hn k hk).1, hl⟩
    · have hm := h.dat _ (List.getElem_mem hk)
      exact hm.upd hu (fun q hq hqg => hpRowNe hm.row hrow (by decide) q hq (by rw [hqg]; exact hown))
  · rw [List.pairwise_iff_getElem]
    intro k l hk hl hkl q hq hq'
    rw [List.length_set] at hk hl
    rw [List.getElem_set] at hq hq'
    split at hq <;> split at hq'
    · omega
    · exact (hn q hq).2 _ (List.getElem_mem hl) hq'
    · exact (hn q hq').2 _ (List.getElem_mem hk) hq
    · exact List.pairwise_iff_getElem.1 h.ap k l hk hl hkl q hq hq'
/-- the box gets another list -/
theorem Hp.turn (hbox : w.heap[b]? = some (.cells #[.int .i64 sz, av] t (0, 0))) (hfb : F b) (hlt : ∀ k, F k → k < w.heap.size) (ht : t ≠ 5) (ht2 : t ≠ 50) (av' : Value) (R' : List (ArrM × Value))
    (hrow : w.ownsRow 0 50 5 av' R'.length (R'.flatMap acl)) (hdat : ∀ p ∈ R', Dat F w p) (hap : R'.Pairwise Apart2) (hfr : ∀ k, av'.ownBlock = some k → F k) :
    Hp t F (w.setCell ⟨b, 1, none⟩ av') b sz av' R' := by
  have hu : Upd (fun k => k = b) w (w.setCell ⟨b, 1, none⟩ av') := Upd.setCell (S := fun k => k = b) w (.inl rfl) _
  refine ⟨?_, ownsRow_upd hrow hu (fun k hk hkb => hpBoxNe hrow hbox (Ne.symm ht2) (by rw [← hkb]; exact hk)), fun p hp => (hdat p hp).upd hu (fun k hk hkb => hpBoxNe (hdat p hp).row hbox (Ne.symm ht) (by rw [← hkb]; exact hk)), hap, hfb, hfr, fun k hk => by simpa [World.setCell] using hlt k hk⟩
  simp [World.setCell, Array.getElem?_modify, hbox]
/-- one array more at the end -/
theorem ap_snoc {p : ArrM × Value} (h : R.Pairwise Apart2) (hn : ∀ k, p.2.ownBlock = some k → ∀ q ∈ R, ¬ q.2.ownBlock = some k) : (R ++ [p]).Pairwise Apart2 := by
  rw [List.pairwise_append]
  refine ⟨h, by simp, fun q hq r hr k hk hk' => ?_⟩
  simp at hr
  subst hr
  exact hn k hk' q hq hk
theorem zeros_byte (n : Nat) : ∀ y ∈ zeros n, 0 ≤ y ∧ y ≤ 255 := fun y hy => by
  obtain rfl := List.eq_of_mem_replicate hy
  omega
theorem zeros_len (n : Nat) : (zeros n).length = n := by simp [zeros]
theorem made_zeros (n : Nat) : (madeCells #[Value.int .u8 0] n).toList = bv (zeros n) := by
  simp [madeCells, bv, zeros]
  apply List.ext_getElem
  · simp
  · intro i h1 h2
    simp [Nat.mod_one]
end
end Go.Proofs.YtdmadfahgkikkaaDoor

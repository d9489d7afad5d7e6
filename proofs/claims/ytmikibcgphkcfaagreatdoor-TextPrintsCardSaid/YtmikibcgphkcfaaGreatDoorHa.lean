/- Package heap: what a heap is, plainly, and how one lies in memory. -/
import Derived.Test.YtmikibcgphkcfaaGreatDoorBytes
import Derived.Deep.RegionHeld3
namespace Go.Proofs.YtmikibcgphkcfaaGreatDoor
open Go.RowKit Go.ChangeShapes Go.WideShapes Go.Deep
set_option linter.unusedVariables false
set_option linter.unusedSimpArgs false

structure ArrM where
  own : Int
  lab : Int
  life : Int
  sh : Bool
  data : List Int
deriving DecidableEq, Inhabited
def ArrM.put (a : ArrM) (ys : List Int) : ArrM := ⟨a.own, a.lab, a.life, a.sh, ys⟩
structure HpM where
  size : Int
  arrs : List ArrM
def usedL (L : List ArrM) : Nat := (L.map (fun a => 8 + a.data.length)).sum
def usedP (L : List ArrM) : Nat := usedL (L.drop 2)
def labB (l : Int) : Bool := l == 3 || l == 4
def lifeB (l : Int) : Bool := l == 0 || l == 1 || l == 2
/-- may such an array be made? -/
def fitsB (m : HpM) (lab life n : Int) : Bool := labB lab && lifeB life && decide (0 ≤ n) && decide (n ≤ 64) && decide (8 + n ≤ m.size - (usedP m.arrs : Int))
def zeros (n : Nat) : List Int := List.replicate n 0
def newA (own lab life : Int) (sh : Bool) (n : Int) : ArrM := ⟨own, lab, life, sh, zeros n.toNat⟩
def HpM.add (m : HpM) (a : ArrM) : HpM := ⟨m.size, m.arrs ++ [a]⟩
/-- array i with other bytes -/
def HpM.lay (m : HpM) (i : Nat) (ys : List Int) : HpM := ⟨m.size, m.arrs.set i ((m.arrs.getD i default).put ys)⟩
def HpM.put (m : HpM) (i j : Nat) (y : Int) : HpM := m.lay i (((m.arrs.getD i default).data).set j y)
def endsB (a : ArrM) (life own : Int) : Bool := (life == 1 && (a.life == 1 || a.life == 2)) || (life == 2 && a.life == 2 && a.own == own)
def clrA (life own : Int) (a : ArrM) : ArrM := if endsB a life own then a.put (zeros a.data.length) else a
def HpM.clr (m : HpM) (life own : Int) : HpM := ⟨m.size, m.arrs.map (clrA life own)⟩
def goneN (L : List ArrM) (life own : Int) : Nat := (L.filter (fun a => endsB a life own)).length
def two (s : Int) : HpM := ⟨s, [⟨-1, 3, 0, false, []⟩, ⟨-1, 4, 0, false, []⟩]⟩

def acl (p : ArrM × Value) : List Value := [.int .i64 p.1.own, .int .i64 p.1.lab, .int .i64 p.1.life, .bool p.1.sh, p.2]
def aval (a : ArrM) (d : Value) : Value := .agg #[.int .i64 a.own, .int .i64 a.lab, .int .i64 a.life, .bool a.sh, d]
theorem acl_len (R : List (ArrM × Value)) : (R.flatMap acl).length = R.length * 5 := by
  induction R with
  | nil => rfl
  | cons p R ih => rw [List.flatMap_cons, List.length_append, ih, List.length_cons]; simp [acl]; omega
theorem acl_at : ∀ (R : List (ArrM × Value)) (i j : Nat) (hi : i < R.length), j < 5 → (R.flatMap acl)[i * 5 + j]? = (acl R[i])[j]?
  | [], i, j, hi, _ => by simp at hi
  | p :: R, 0, j, hi, hj => by
    rw [List.flatMap_cons, List.getElem?_append_left (by simp [acl]; omega)]; simp
  | p :: R, i + 1, j, hi, hj => by
    rw [List.flatMap_cons, List.getElem?_append_right (by simp [acl]; omega)]
    have := acl_at R i j (by simpa using hi) hj
    rw [show (i + 1) * 5 + j - (acl p).length = i * 5 + j by simp [acl]; omega, this]; simp
theorem acl_set : ∀ (R : List (ArrM × Value)) (i : Nat) (hi : i < R.length) (ys : List Int) (d : Value), (R.set i (R[i].1.put ys, d)).flatMap acl = (R.flatMap acl).set (i * 5 + 4) d
  | [], i, hi, _, _ => by simp at hi
  | p :: R, 0, hi, ys, d => by simp [acl, ArrM.put]
  | p :: R, i + 1, hi, ys, d => by
    rw [List.set_cons_succ, List.flatMap_cons, List.flatMap_cons, List.set_append_right _ _ (by simp [acl]; omega)]
    have := acl_set R i (by simpa using hi) ys d
    rw [show (i + 1) * 5 + 4 - (acl p).length = i * 5 + 4 by simp [acl]; omega]
    simp only [List.getElem_cons_succ]
    rw [this]
theorem setSame {α : Type} : ∀ (xs : List α) (n : Nat) (v : α), xs[n]? = some v → xs.set n v = xs
  | [], n, v, h => by simp at h
  | x :: xs, 0, v, h => by simp at h; simp [h]
  | x :: xs, n + 1, v, h => by simp at h; simp [setSame xs n v h]
theorem acl_keep (R : List (ArrM × Value)) (i : Nat) (hi : i < R.length) (ys : List Int) : (R.set i (R[i].1.put ys, R[i].2)).flatMap acl = R.flatMap acl := by
  rw [acl_set R i hi ys]
  refine setSame _ _ _ ?_
  rw [acl_at R i 4 hi (by omega)]
  rfl
theorem snd_set (R : List (ArrM × Value)) (i : Nat) (hi : i < R.length) (a : ArrM) (k : Nat) (hk : k < R.length) : ((R.set i (a, R[i].2))[k]'(by rw [List.length_set]; exact hk)).2 = R[k].2 := by
  rw [List.getElem_set]
  split
  · rename_i he
    subst he
    rfl
  · rfl
theorem acl_one (R : List (ArrM × Value)) (h : ∀ p ∈ R, p.2.oneCell' = true) : ∀ u ∈ R.flatMap acl, u.oneCell' = true := by
  intro u hu
  obtain ⟨p, hp, hu⟩ := List.mem_flatMap.1 hu
  simp [acl] at hu
  rcases hu with rfl | rfl | rfl | rfl | rfl
  all_goals first | rfl | exact h p hp

theorem hpSet {w : World} {base : Nat} {e : TypeId} {size g n cap : Nat} {xs : List Value} (h : w.ownsRow base e size (.slice (some ⟨g, 0, Option.none⟩) n cap) n xs) (q : Nat) (u : Value) :
    (w.setCell ⟨g, q, Option.none⟩ u).ownsRow base e size (.slice (some ⟨g, 0, Option.none⟩) n cap) n (xs.set q u) := by
  obtain ⟨hl, h⟩ := h
  rcases h with ⟨h, _⟩ | ⟨g', cap', cur, he, hb, hg, hc, hm, hcs, ht⟩
  · simp at h
  · simp at he
    obtain ⟨rfl, rfl⟩ := he
    refine ⟨by simpa using hl, .inr ⟨g, cap, cur.setIfInBounds q u, rfl, hb, ?_, hc, hm, by simpa using hcs, ?_⟩⟩
    · simp [World.setCell, Array.getElem?_modify, hg]
    · rw [Array.toList_setIfInBounds, ← ht, List.take_set]
theorem hpFrozen {w : World} {base : Nat} {e : TypeId} {size g n cap : Nat} {xs : List Value} (h : w.ownsRow base e size (.slice (some ⟨g, 0, Option.none⟩) n cap) n xs) (q : Nat) : w.frozen? ⟨g, q, Option.none⟩ = false := by
  obtain ⟨hl, h⟩ := h
  rcases h with ⟨h, _⟩ | ⟨g', cap', cur, he, hb, hg, hc, hm, hcs, ht⟩
  · simp at h
  · simp at he
    obtain ⟨rfl, rfl⟩ := he
    simp [World.frozen?, hg]
theorem hpBlk {S : Nat → Prop} {w w' : World} {k : Nat} {o : Obj} (hu : Upd S w w') (h : w.heap[k]? = some o) (hS : ¬ S k) : w'.heap[k]? = some o := (hu.block k (Array.getElem?_eq_some_iff.1 h).1 hS).trans h
theorem hpRowNe {w : World} {base base' : Nat} {e e' : TypeId} {sz sz' n n' : Nat} {v v' : Value} {xs xs' : List Value} (h : w.ownsRow base e sz v n xs) (h' : w.ownsRow base' e' sz' v' n' xs') (he : e ≠ e') : ∀ k, v.ownBlock = some k → ¬ v'.ownBlock = some k := by
  intro k hk hk'
  rcases h.2 with ⟨rfl, _⟩ | ⟨g, cap, cur, rfl, _, hg, _⟩
  · simp [Value.ownBlock] at hk
  · rcases h'.2 with ⟨rfl, _⟩ | ⟨g', cap', cur', rfl, _, hg', _⟩
    · simp [Value.ownBlock] at hk'
    · simp [Value.ownBlock] at hk hk'
      subst hk; subst hk'
      rw [hg] at hg'
      simp at hg'
      exact he hg'.2
theorem hpBoxNe {w : World} {base : Nat} {e e' : TypeId} {sz n b : Nat} {v : Value} {xs : List Value} {C : Array Value} {fr : Nat × Nat} (h : w.ownsRow base e sz v n xs) (h' : w.heap[b]? = some (.cells C e' fr)) (he : e ≠ e') : ¬ v.ownBlock = some b := by
  intro hk
  rcases h.2 with ⟨rfl, _⟩ | ⟨g, cap, cur, rfl, _, hg, _⟩
  · simp [Value.ownBlock] at hk
  · simp [Value.ownBlock] at hk
    subst hk
    rw [hg] at h'
    simp at h'
    exact he h'.2.1
theorem hpRowLt {w : World} {base : Nat} {e : TypeId} {sz n : Nat} {v : Value} {xs : List Value} (h : w.ownsRow base e sz v n xs) : ∀ k, v.ownBlock = some k → k < w.heap.size := by
  intro k hk
  rcases h.2 with ⟨rfl, _⟩ | ⟨g, cap, cur, rfl, _, hg, _⟩
  · simp [Value.ownBlock] at hk
  · simp [Value.ownBlock] at hk
    subst hk
    exact (Array.getElem?_eq_some_iff.1 hg).1

/-- an array's bytes, in a block of their own -/
structure Dat (F : Nat → Prop) (w : World) (p : ArrM × Value) : Prop where
  row : w.ownsRow 0 5 1 p.2 p.1.data.length (bv p.1.data)
  byt : ∀ y ∈ p.1.data, 0 ≤ y ∧ y ≤ 255
  inn : ∀ k, p.2.ownBlock = some k → F k
  len : p.1.data.length ≤ 64
theorem Dat.upd {F : Nat → Prop} {w w' : World} {p : ArrM × Value} {S : Nat → Prop} (h : Dat F w p) (hu : Upd S w w') (hS : ∀ k, p.2.ownBlock = some k → ¬ S k) : Dat F w' p :=
  ⟨ownsRow_upd h.row hu hS, h.byt, h.inn, h.len⟩
theorem Dat.vw {F : Nat → Prop} {w : World} {p : ArrM × Value} (h : Dat F w p) : Vw w p.2 p.1.data := vw_of_row h.row h.byt
def Apart2 (p q : ArrM × Value) : Prop := ∀ k, p.2.ownBlock = some k → ¬ q.2.ownBlock = some k
def More (F : Nat → Prop) (w w' : World) (k : Nat) : Prop := F k ∨ (w.heap.size ≤ k ∧ k < w'.heap.size)

section
variable {t : TypeId} {F G : Nat → Prop} {w w' : World} {b : Nat} {sz : Int} {av : Value} {R : List (ArrM × Value)} {m : HpM}
theorem Dat.wide {p : ArrM × Value} (h : Dat F w p) (hF : ∀ k, F k → G k) : Dat G w p := ⟨h.row, h.byt, fun k hk => hF k (h.inn k hk), h.len⟩
/-- one array more at the end -/
theorem ap_snoc {p : ArrM × Value} (h : R.Pairwise Apart2) (hn : ∀ k, p.2.ownBlock = some k → ∀ q ∈ R, ¬ q.2.ownBlock = some k) : (R ++ [p]).Pairwise Apart2 := by
  rw [List.pairwise_append]
  refine ⟨h, by simp, fun q hq r hr k hk hk' => ?_⟩
  simp at hr
  subst hr
  exact hn k hk' q hq hk
theorem zeros_byte (n : Nat) : ∀ y ∈ zeros n, 0 ≤ y ∧ y ≤ 255 := fun y hy => by
  obtain rfl := List.eq_of_mem_replicate hy
  omega
theorem zeros_len (n : Nat) : (zeros n).length = n := by simp [zeros]
theorem made_zeros (n : Nat) : (madeCells #[Value.int .u8 0] n).toList = bv (zeros n) := by
  simp [madeCells, bv, zeros]
  apply List.ext_getElem
  · simp
  · intro i h1 h2
    simp [Nat.mod_one]
end
end Go.Proofs.YtmikibcgphkcfaaGreatDoor

/- What octet's Reader does to the world: a contract for each call. -/
import Derived.Test.YtmikibcgphkcfaaGreatDoorSl
namespace Go.Proofs.YtmikibcgphkcfaaGreatDoor
open Go.RowKit
set_option linter.unusedVariables false

/-- A Reader of octet: two cells: the slice of what is left, and whether it lacks. -/
structure Rd (t : TypeId) (w : World) (b : Nat) (v : Value) (lk : Bool) (ys : List Int) : Prop where
  blk : w.heap[b]? = some (.cells #[v, .bool lk] t (0, 0))
  vw : Vw w v ys
  ne : v.ownBlock ≠ some b
  small : ys.length ≤ 140737488355327
  lacks : lk = true → ys = []
  inn : ∀ k, v.ownBlock = some k → k < w.heap.size

theorem Rd.cell0 {t : TypeId} {w : World} {b : Nat} {v : Value} {lk : Bool} {ys : List Int} (h : Rd t w b v lk ys) : w.cell? ⟨b, 0, none⟩ = some v := by have := h.blk; simp [World.cell?, this]
theorem Rd.cell1 {t : TypeId} {w : World} {b : Nat} {v : Value} {lk : Bool} {ys : List Int} (h : Rd t w b v lk ys) : w.cell? ⟨b, 1, none⟩ = some (.bool lk) := by have := h.blk; simp [World.cell?, this]
theorem Rd.free {t : TypeId} {w : World} {b : Nat} {v : Value} {lk : Bool} {ys : List Int} (h : Rd t w b v lk ys) (o : Nat) : w.frozen? ⟨b, o, none⟩ = false := by have := h.blk; simp [World.frozen?, this]
theorem Rd.lt {t : TypeId} {w : World} {b : Nat} {v : Value} {lk : Bool} {ys : List Int} (h : Rd t w b v lk ys) : b < w.heap.size := (Array.getElem?_eq_some_iff.1 h.blk).1
theorem Rd.upd {t : TypeId} {w w' : World} {b : Nat} {v : Value} {lk : Bool} {ys : List Int} {S : Nat → Prop} (h : Rd t w b v lk ys) (hu : Upd S w w') (hS : ∀ k, fp b v k → ¬ S k) : Rd t w' b v lk ys :=
  ⟨by rw [hu.block b h.lt (hS b (.inl rfl))]; exact h.blk, h.vw.upd hu (fun k hk => hS k (.inr hk)), h.ne, h.small, h.lacks, fun k hk => Nat.lt_of_lt_of_le (h.inn k hk) hu.size⟩

/-- what is taken of n bytes: the bytes, whether it lacks then, what is left -/
def takeP (n : Int) (lk : Bool) (ys : List Int) : List Int × Bool × List Int :=
  if n < 0 ∨ (ys.length : Int) < n then ([], true, []) else (ys.take n.toNat, lk, ys.drop n.toNat)

/-- behind a take of n bytes: the reader, and a view of what was taken -/
def Took (t : TypeId) (w : World) (b : Nat) (v : Value) (n : Int) (lk : Bool) (ys : List Int) (r : Value) (w' : World) : Prop :=
  ∃ v', Rd t w' b v' (takeP n lk ys).2.1 (takeP n lk ys).2.2 ∧ Vw w' r (takeP n lk ys).1 ∧ Upd (fun k => k = b) w w' ∧ (∀ k, v'.ownBlock = some k → v.ownBlock = some k) ∧ ∀ k, r.ownBlock = some k → v.ownBlock = some k

theorem took_ok {t : TypeId} {w : World} {b k c c' : Nat} {a a' : Option Addr} {lk : Bool} {ys : List Int} (h : Rd t w b (.slice a ys.length c) lk ys) (hk : k ≤ ys.length) (hc' : c' = c - k)
    (ha : (c = k ∧ a' = a) ∨ (c ≠ k ∧ a' = a.map (·.add k))) : Took t w b (.slice a ys.length c) (k : Int) lk ys (.slice a k c) (w.setCell ⟨b, 0, none⟩ (.slice a' (ys.length - k) c')) := by
  have hP : takeP (k : Int) lk ys = (ys.take k, lk, ys.drop k) := by unfold takeP; rw [if_neg (by omega)]; rfl
  unfold Took
  rw [hP]
  subst hc'
  have hu := Upd.setCell (S := fun k => k = b) w (p := ⟨b, 0, none⟩) (.inl rfl) (.slice a' (ys.length - k) (c - k))
  have hne : ∀ i, a.map (·.block) = some i → i ≠ b := fun i hi e => h.ne (by
    cases a with
    | none => simp at hi
    | some x => simp [Value.ownBlock] at hi ⊢; omega)
  have hblk : ∀ a0 n c0, (Value.slice a0 n c0).ownBlock = a0.map (·.block) := fun a0 n c0 => by cases a0 <;> rfl
  have hblk' : a'.map (·.block) = a.map (·.block) := by
    rcases ha with ⟨_, rfl⟩ | ⟨_, rfl⟩
    · rfl
    · cases a with
      | none => rfl
      | some x => simp [Addr.add]; split <;> rfl
  have htake := h.vw.take rfl k hk
  have hdrop : Vw w (.slice a' (ys.length - k) (c - k)) (ys.drop k) := by
    rcases h.vw.2 with ⟨⟨a0, he⟩, hys⟩ | ⟨g, off, c1, he, h1, h2, h3⟩
    · simp at he
      obtain ⟨rfl, hl0, rfl⟩ := he
      subst hys
      exact ⟨by simp, .inl ⟨⟨a', by simp⟩, by simp⟩⟩
    · simp at he
      obtain ⟨rfl, rfl⟩ := he
      have hg : ∃ off', a' = some ⟨g, off', none⟩ ∧ (k < ys.length → off' = off + k) := by
        rcases ha with ⟨e, rfl⟩ | ⟨_, rfl⟩
        · exact ⟨off, rfl, fun hlt => by omega⟩
        · exact ⟨off + k, by simp [addr_add], fun _ => rfl⟩
      obtain ⟨off', rfl, ho⟩ := hg
      exact h.vw.drop rfl k hk off' ho
  refine ⟨.slice a' (ys.length - k) (c - k), ⟨?_, hdrop.upd hu ?_, ?_, ?_, ?_, fun i hi => by rw [hblk, hblk'] at hi; exact Nat.lt_of_lt_of_le (h.inn i (by rw [hblk]; exact hi)) hu.size⟩, htake.upd hu ?_, hu, ?_, ?_⟩
  · have := h.blk
    simp [World.setCell, Array.getElem?_modify, this]
  · intro i hi
    rw [hblk, hblk'] at hi
    exact hne i hi
  · intro e
    rw [hblk, hblk'] at e
    exact hne b e rfl
  · have := h.small
    simp
    omega
  · intro hl
    rw [h.lacks hl]; simp
  · intro i hi
    rw [hblk] at hi
    exact hne i hi
  · intro i hi
    rw [hblk, hblk'] at hi
    rw [hblk]
    exact hi
  · intro i hi
    rw [hblk] at hi ⊢
    exact hi

/-- bytes as a number, the highest first -/
def beN (l : List Int) : Int := l.foldl (fun n b => 256 * n + b) 0
theorem beN_snoc (l : List Int) (b : Int) : beN (l ++ [b]) = 256 * beN l + b := by simp [beN]
theorem beN_acc (l : List Int) (h : ∀ y ∈ l, 0 ≤ y ∧ y ≤ 255) : ∀ acc : Int, 0 ≤ acc → 0 ≤ l.foldl (fun n b => 256 * n + b) acc ∧ l.foldl (fun n b => 256 * n + b) acc < (acc + 1) * 256 ^ l.length := by
  induction l with
  | nil => intro acc ha; simp; omega
  | cons b l ih =>
    intro acc ha
    have h2 := h b (by simp)
    have h1 := ih (fun y hy => h y (by simp [hy])) (256 * acc + b) (by omega)
    refine ⟨h1.1, Int.lt_of_lt_of_le h1.2 ?_⟩
    rw [List.length_cons, Int.pow_succ, Int.mul_comm (256 ^ l.length), ← Int.mul_assoc]
    exact Int.mul_le_mul_of_nonneg_right (by omega) (Int.pow_nonneg (by omega))
theorem beN_bd (l : List Int) (h : ∀ y ∈ l, 0 ≤ y ∧ y ≤ 255) : 0 ≤ beN l ∧ beN l < 256 ^ l.length := by
  have := beN_acc l h 0 (by omega)
  simpa [beN] using this
theorem pow_le3 {k : Nat} (h : k ≤ 3) : (256 : Int) ^ k ≤ 16777216 := by
  match k, h with
  | 0, _ => decide
  | 1, _ => decide
  | 2, _ => decide
  | 3, _ => decide
theorem or_shl (m q : Int) (h1 : 0 ≤ m) (h2 : m < 16777216) (h3 : 0 ≤ q) (h4 : q ≤ 255) : bits .or .u32 (m * 256) q = 256 * m + q := by
  obtain ⟨a, rfl⟩ := Int.eq_ofNat_of_zero_le h1
  obtain ⟨b, rfl⟩ := Int.eq_ofNat_of_zero_le h3
  rw [u32_or _ _ (by omega) (by omega) (by omega) (by omega)]
  have e : ((a : Int) * 256).toNat = 2 ^ 8 * a := by omega
  rw [e, Int.toNat_natCast, ← Nat.two_pow_add_eq_or_of_lt (by omega)]
  omega
theorem beN_take (l : List Int) (k : Nat) (hk : k < l.length) : beN (l.take (k + 1)) = 256 * beN (l.take k) + l.getD k 0 := by
  rw [List.take_succ_eq_append_getElem hk, beN_snoc]
  simp [List.getD, hk]

theorem taken_bd {ys : List Int} (h : ∀ y ∈ ys, 0 ≤ y ∧ y ≤ 255) (n : Int) (lk : Bool) (hn : 0 ≤ n) : 0 ≤ beN (takeP n lk ys).1 ∧ beN (takeP n lk ys).1 < 256 ^ n.toNat := by
  unfold takeP
  split
  · simp [beN, Int.pow_pos]
  · have := beN_bd (ys.take n.toNat) (fun y hy => h y (List.mem_of_mem_take hy))
    have hl : (ys.take n.toNat).length = n.toNat := by simp; omega
    rw [hl] at this
    exact this
/-- a number of 32 bits, read with a sign -/
def sgn (n : Int) : Int := if n < 2147483648 then n else n - 4294967296

theorem takeP_bd {ys : List Int} (h : ∀ y ∈ ys, 0 ≤ y ∧ y ≤ 255) (n : Int) (lk : Bool) : ∀ y ∈ (takeP n lk ys).1, 0 ≤ y ∧ y ≤ 255 := by
  unfold takeP
  split
  · simp
  · exact fun y hy => h y (List.mem_of_mem_take hy)
theorem takeP_sub (ys : List Int) (n : Int) (lk : Bool) : ∀ y ∈ (takeP n lk ys).2.2, y ∈ ys := by
  unfold takeP
  split
  · simp
  · exact fun y hy => List.mem_of_mem_drop hy
theorem takeP_len (ys : List Int) (n : Int) (lk : Bool) : (takeP n lk ys).1.length ≤ ys.length ∧ (takeP n lk ys).2.2.length ≤ ys.length := by
  unfold takeP
  split
  · simp
  · simp; omega

/-- behind a call that took the bytes p.1: a copy of them, and the reader with the rest -/
def Got (t : TypeId) (w : World) (b : Nat) (v : Value) (p : List Int × Bool × List Int) (r : Value) (w' : World) : Prop :=
  ∃ v', Rd t w' b v' p.2.1 p.2.2 ∧ w'.ownsRow 0 5 1 r p.1.length (bv p.1) ∧ Upd (fun k => k = b) w w' ∧ (∀ k, v'.ownBlock = some k → v.ownBlock = some k) ∧ ∀ k, r.ownBlock = some k → w.heap.size ≤ k

/-- a length, and so many bytes -/
def shortP (lk : Bool) (ys : List Int) : List Int × Bool × List Int := takeP (beN (takeP 1 lk ys).1) (takeP 1 lk ys).2.1 (takeP 1 lk ys).2.2

end Go.Proofs.YtmikibcgphkcfaaGreatDoor

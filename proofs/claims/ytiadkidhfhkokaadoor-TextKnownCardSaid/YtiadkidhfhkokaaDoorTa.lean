/- Package text, plainly: lines, words, numbers, kinds of lists of bytes; how a scan by runes finds a byte below 128. No program is named here. -/
import Derived.Test.YtiadkidhfhkokaaDoorIs
import Derived.Test.YtiadkidhfhkokaaDoorStr
import Derived.Lib.SpaceUEq
import Derived.Laws.Strings3
import Derived.Laws.DeepStrings4
namespace Go.Proofs.YtiadkidhfhkokaaDoor
open Go.RowKit Go.Lib
set_option linter.unusedVariables false
set_option linter.unusedSimpArgs false

abbrev By := List UInt8
def bs (l : By) : ByteArray := ⟨l.toArray⟩
theorem bs_data (l : By) : (bs l).data.toList = l := rfl
theorem bs_of (s : ByteArray) : bs s.data.toList = s := rfl
theorem bs_size (l : By) : (bs l).size = l.length := by simp [bs, ByteArray.size]
theorem bs_ext (l : By) (a b : Nat) : (bs l).extract a b = bs ((l.drop a).take (b - a)) := ByteArray.extract_mk l a b
theorem bs_inj {l m : By} (h : bs l = bs m) : l = m := by
  have := congrArg (fun s : ByteArray => s.data.toList) h
  exact this
theorem bs_list (l : By) : (bs l).toList = l := by rw [ByteArray.toList_eq]; rfl
theorem bs_same (l m : By) : ((bs l).toList == (bs m).toList) = decide (l = m) := by
  rw [bs_list, bs_list, Bool.eq_iff_iff]
  simp
/-- the byte at a place; 0 behind the end -/
def byAt (l : By) (j : Nat) : Nat := (l.getD j 0).toNat
/-- none of these bytes is c -/
def Free (c : Nat) (l : By) (a b : Nat) : Prop := ∀ j, a ≤ j → j < b → byAt l j ≠ c
theorem Free.more {c : Nat} {l : By} {a b d : Nat} (h : Free c l a b) (h2 : ∀ j, b ≤ j → j < d → byAt l j ≠ c) : Free c l a d := fun j h1 h3 => by
  by_cases hj : j < b
  · exact h j h1 hj
  · exact h2 j (by omega) h3
/-- one rune: either it is the byte c alone, or none of its bytes is c -/
theorem scan_step (l : By) (pos c : Nat) (hp : pos < l.length) (hc : c < 128) :
    1 ≤ (Utf8.decode (bs l) pos).2 ∧ pos + (Utf8.decode (bs l) pos).2 ≤ l.length ∧
      ((byAt l pos = c ∧ (Utf8.decode (bs l) pos).1 = c ∧ (Utf8.decode (bs l) pos).2 = 1) ∨
        ((Utf8.decode (bs l) pos).1 ≠ c ∧ ∀ j, pos ≤ j → j < pos + (Utf8.decode (bs l) pos).2 → byAt l j ≠ c)) := by
  have hd := decode_N (bs l) pos
  rw [bs_data] at hd
  have hcs := decodeN_conts (l.length - pos) (l.getD pos 0).toNat (l.getD (pos + 1) 0).toNat (l.getD (pos + 2) 0).toNat (l.getD (pos + 3) 0).toNat
  have hcases := decodeN_cases (l.length - pos) (l.getD pos 0).toNat (l.getD (pos + 1) 0).toNat (l.getD (pos + 2) 0).toNat (l.getD (pos + 3) 0).toNat
  have h1 := dec_width (bs l) pos
  rw [← hd] at hcs hcases
  generalize Utf8.decode (bs l) pos = q at *
  obtain ⟨r, d⟩ := q
  simp only at *
  obtain ⟨k1, k2, k3, k4⟩ := hcs
  refine ⟨h1, by omega, ?_⟩
  by_cases h0 : (l.getD pos 0).toNat < 128
  · have hq : r = (l.getD pos 0).toNat ∧ d = 1 := by
      rcases hcases with ⟨_, h⟩ | ⟨h, _⟩ | ⟨h, _⟩ | ⟨h, h'⟩ | h
      · simpa using h
      · omega
      · omega
      · unfold decodeN at hd
        rw [if_pos h0] at hd
        simp at hd
        omega
      · unfold decodeN at hd
        rw [if_pos h0] at hd
        simpa using hd
    obtain ⟨hr, rfl⟩ := hq
    by_cases he : (l.getD pos 0).toNat = c
    · exact .inl ⟨he, by omega, rfl⟩
    · refine .inr ⟨by omega, fun j j1 j2 => ?_⟩
      obtain rfl : j = pos := by omega
      exact he
  · refine .inr ⟨?_, fun j j1 j2 => ?_⟩
    · rcases hcases with ⟨h, _⟩ | ⟨_, _, _, h, e⟩ | ⟨_, _, _, _, h, e⟩ | ⟨h, _⟩ | e
      · omega
      · simp only [Prod.mk.injEq] at e; omega
      · simp only [Prod.mk.injEq] at e; omega
      · omega
      · simp only [Prod.mk.injEq] at e; omega
    · unfold byAt
      rcases (by omega : j = pos ∨ j = pos + 1 ∨ j = pos + 2 ∨ j = pos + 3) with rfl | rfl | rfl | rfl
      · omega
      · have := (k1 (by omega)).1; omega
      · have := (k2 (by omega)).1; omega
      · have := (k3 (by omega)).1; omega

/-- what stands ahead of the first c -/
def ahead (c : UInt8) (l : By) : By := l.takeWhile (fun b => b != c)
def behind (c : UInt8) (l : By) : By := l.dropWhile (fun b => b != c)
theorem byAt_cons (b : UInt8) (t : By) (j : Nat) : byAt (b :: t) (j + 1) = byAt t j := by simp [byAt, List.getD]
theorem free_tail {c : Nat} {b : UInt8} {t : By} {p : Nat} (h : Free c (b :: t) 0 (p + 1)) : Free c t 0 p := fun j _ hj => by
  have := h (j + 1) (by omega) (by omega)
  rwa [byAt_cons] at this
theorem ahead_of (c : UInt8) : ∀ (l : By) (p : Nat), Free c.toNat l 0 p → p ≤ l.length → (p = l.length ∨ byAt l p = c.toNat) → ahead c l = l.take p ∧ behind c l = l.drop p
  | [], p, _, hp, _ => by simp [ahead, behind]
  | b :: t, 0, _, _, he => by
    rcases he with he | he
    · simp at he
    · have : b = c := by
        have h2 : b.toNat = c.toNat := by simpa [byAt, List.getD] using he
        exact UInt8.toNat_inj.1 h2
      subst this
      simp [ahead, behind]
  | b :: t, p + 1, hf, hp, he => by
    have hb : b ≠ c := fun h => by
      have := hf 0 (Nat.le_refl _) (by omega)
      subst h
      exact this (by simp [byAt, List.getD])
    obtain ⟨h1, h2⟩ := ahead_of c t p (free_tail hf) (by simpa using hp) (by
      rcases he with he | he
      · left; simpa using he
      · right; rwa [byAt_cons] at he)
    constructor
    · rw [ahead, List.takeWhile_cons_of_pos (by simpa using hb), List.take_succ_cons, ← h1]; rfl
    · rw [behind, List.dropWhile_cons_of_pos (by simpa using hb), List.drop_succ_cons, ← h2]; rfl
/-- what stands ahead of a remark -/
def plainP (l : By) : By := ahead 35 l
/-- the first word, and what stands behind it -/
def nextP (l : By) : By × By := (ahead 32 (l.dropWhile (fun b => b == 32)), behind 32 (l.dropWhile (fun b => b == 32)))
theorem byAt_drop (l : By) (k j : Nat) : byAt (l.drop k) j = byAt l (k + j) := by simp [byAt, List.getD, List.getElem?_drop]
theorem blanks_off : ∀ (l : By) (k : Nat), k ≤ l.length → (∀ j, j < k → byAt l j = 32) → (k = l.length ∨ byAt l k ≠ 32) → l.dropWhile (fun b => b == 32) = l.drop k
  | [], k, _, _, _ => by simp
  | b :: t, 0, _, _, he => by
    have : b ≠ 32 := by
      rcases he with he | he
      · simp at he
      · intro h; subst h; exact he (by simp [byAt, List.getD])
    rw [List.dropWhile_cons_of_neg (by simpa using this), List.drop_zero]
  | b :: t, k + 1, hk, hf, he => by
    have hb : b = 32 := by
      have := hf 0 (by omega)
      have h2 : b.toNat = (32 : UInt8).toNat := by simpa [byAt, List.getD] using this
      exact UInt8.toNat_inj.1 h2
    subst hb
    rw [List.dropWhile_cons_of_pos (by simp), List.drop_succ_cons]
    refine blanks_off t k (by simpa using hk) (fun j hj => ?_) ?_
    · have := hf (j + 1) (by omega)
      rwa [byAt_cons] at this
    · rcases he with he | he
      · left; simpa using he
      · right; rwa [byAt_cons] at he
theorem next_split (l : By) (k p : Nat) (hk : ∀ j, j < k → byAt l j = 32) (hkp : k ≤ p) (hp : p ≤ l.length) (hf : Free 32 l k p) (he : p = l.length ∨ (k < p ∧ byAt l p = 32)) :
    nextP l = ((l.drop k).take (p - k), l.drop p) := by
  have h1 : l.dropWhile (fun b => b == 32) = l.drop k := blanks_off l k (by omega) hk (by
    rcases he with he | ⟨he, _⟩
    · by_cases h : k = p
      · left; omega
      · right; exact hf k (Nat.le_refl _) (by omega)
    · right; exact hf k (Nat.le_refl _) he)
  unfold nextP
  rw [h1]
  obtain ⟨h2, h3⟩ := ahead_of 32 (l.drop k) (p - k) (fun j _ hj => by rw [byAt_drop]; exact hf (k + j) (by omega) (by omega)) (by simp; omega) (by
    rcases he with he | ⟨_, he⟩
    · left; simp; omega
    · right; rw [byAt_drop, show k + (p - k) = p by omega]; exact he)
  rw [h2, h3, List.drop_drop, show k + (p - k) = p by omega]
/-- lines: what stands between line feeds; what stands behind the last one, too, if it is not empty -/
def linesP : By → List By
  | [] => []
  | b :: t => match b == 10 with
    | true => [] :: linesP t
    | false => match linesP t with
      | [] => [[b]]
      | x :: xs => (b :: x) :: xs
theorem lines_cut : ∀ (x t : By), (∀ b ∈ x, b ≠ 10) → linesP (x ++ 10 :: t) = x :: linesP t
  | [], t, _ => rfl
  | b :: x, t, h => by
    have hb : (b == 10) = false := by simpa using h b (by simp)
    have ih := lines_cut x t (fun b hb => h b (by simp [hb]))
    show (match b == 10 with | true => [] :: linesP (x ++ 10 :: t) | false => match linesP (x ++ 10 :: t) with | [] => [[b]] | x :: xs => (b :: x) :: xs) = _
    rw [hb, ih]
theorem lines_last : ∀ (x : By), (∀ b ∈ x, b ≠ 10) → x ≠ [] → linesP x = [x]
  | [], _, h => absurd rfl h
  | [b], h, _ => by
    have hb : (b == 10) = false := by simpa using h b (by simp)
    show (match b == 10 with | true => [] :: linesP [] | false => match linesP [] with | [] => [[b]] | x :: xs => (b :: x) :: xs) = _
    rw [hb]
    rfl
  | b :: c :: x, h, _ => by
    have hb : (b == 10) = false := by simpa using h b (by simp)
    have ih := lines_last (c :: x) (fun b hb => h b (by simp [hb])) (by simp)
    show (match b == 10 with | true => [] :: linesP (c :: x) | false => match linesP (c :: x) with | [] => [[b]] | x :: xs => (b :: x) :: xs) = _
    rw [hb, ih]
theorem lines_at (l : By) (k p : Nat) (hkp : k ≤ p) (hp : p < l.length) (hf : Free 10 l k p) (he : byAt l p = 10) : linesP (l.drop k) = ((l.drop k).take (p - k)) :: linesP (l.drop (p + 1)) := by
  have e : l.drop k = (l.drop k).take (p - k) ++ 10 :: l.drop (p + 1) := by
    have h1 : (l.drop k).drop (p - k) = 10 :: l.drop (p + 1) := by
      rw [List.drop_drop, show k + (p - k) = p by omega, List.drop_eq_getElem_cons hp]
      congr 1
      have : (l[p]).toNat = (10 : UInt8).toNat := by simpa [byAt, List.getD, hp] using he
      exact UInt8.toNat_inj.1 this
    rw [← h1, List.take_append_drop]
  have hx : ∀ b ∈ (l.drop k).take (p - k), b ≠ 10 := fun b hb h => by
    subst h
    obtain ⟨j, hj, hjb⟩ := List.mem_iff_getElem.1 hb
    simp only [List.length_take, List.length_drop] at hj
    have := hf (k + j) (by omega) (by omega)
    apply this
    rw [← byAt_drop]
    simp only [List.getElem_take] at hjb
    have hlt : j < (l.drop k).length := by rw [List.length_drop]; omega
    show ((l.drop k).getD j 0).toNat = 10
    rw [List.getD, List.getElem?_eq_getElem hlt, hjb]; rfl
  conv => lhs; rw [e]
  exact lines_cut _ _ hx
theorem lines_end (l : By) (k : Nat) (hk : k < l.length) (hf : Free 10 l k l.length) : linesP (l.drop k) = [l.drop k] := by
  refine lines_last _ (fun b hb h => ?_) (fun h => by have := congrArg List.length h; simp at this; omega)
  subst h
  obtain ⟨j, hj, hjb⟩ := List.mem_iff_getElem.1 hb
  simp only [List.length_drop] at hj
  have := hf (k + j) (by omega) (by omega)
  apply this
  rw [← byAt_drop]
  have hlt : j < (l.drop k).length := by rw [List.length_drop]; omega
  show ((l.drop k).getD j 0).toNat = 10
  rw [List.getD, List.getElem?_eq_getElem hlt, hjb]; rfl
end Go.Proofs.YtiadkidhfhkokaaDoor

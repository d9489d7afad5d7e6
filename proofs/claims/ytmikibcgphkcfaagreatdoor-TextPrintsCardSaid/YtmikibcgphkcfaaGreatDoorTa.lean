/- Package text, plainly: lines, words, numbers, kinds of lists of bytes; how a scan by runes finds a byte below 128. No program is named here. Package text: plain, and the words of a line: next, isEmpty, need. Package text: isEmpty, need, KindName, Kind, number. Package text: number. -/
import Derived.Test.YtmikibcgphkcfaaGreatDoorIs
import Derived.Lib.SpaceUEq
import Derived.Laws.Strings3
import Derived.Laws.DeepStrings4
import Derived.LoopTactic
import Derived.Test.YtmikibcgphkcfaaGreatDoorHand
import Derived.IntWalk
namespace Go.Proofs.YtmikibcgphkcfaaGreatDoor
section
open Go.RowKit Go.Lib
set_option linter.unusedVariables false
set_option linter.unusedSimpArgs false

abbrev By := List UInt8
def bs (l : By) : ByteArray := ⟨l.toArray⟩
theorem bs_data (l : By) : (bs l).data.toList = l := rfl
theorem bs_of (s : ByteArray) : bs s.data.toList = s := rfl
theorem bs_size (l : By) : (bs l).size = l.length := by simp [bs, ByteArray.size]
theorem bs_ext (l : By) (a b : Nat) : (bs l).extract a b = bs ((l.drop a).take (b - a)) := ByteArray.extract_mk l a b
theorem bs_inj {l m : By} (h : bs l = bs m) : l = m := by
  have := congrArg (fun s : ByteArray => s.data.toList) h
  exact this
theorem bs_list (l : By) : (bs l).toList = l := by rw [ByteArray.toList_eq]; rfl
theorem bs_same (l m : By) : ((bs l).toList == (bs m).toList) = decide (l = m) := by
  rw [bs_list, bs_list, Bool.eq_iff_iff]
  simp
/-- the byte at a place; 0 behind the end -/
def byAt (l : By) (j : Nat) : Nat := (l.getD j 0).toNat
/-- none of these bytes is c -/
def Free (c : Nat) (l : By) (a b : Nat) : Prop := ∀ j, a ≤ j → j < b → byAt l j ≠ c
theorem Free.more {c : Nat} {l : By} {a b d : Nat} (h : Free c l a b) (h2 : ∀ j, b ≤ j → j < d → byAt l j ≠ c) : Free c l a d := fun j h1 h3 => by
  by_cases hj : j < b
  · exact h j h1 hj
  · exact h2 j (by omega) h3
/-- one rune: either it is the byte c alone, or none of its bytes is c -/
theorem scan_step (l : By) (pos c : Nat) (hp : pos < l.length) (hc : c < 128) :
    1 ≤ (Utf8.decode (bs l) pos).2 ∧ pos + (Utf8.decode (bs l) pos).2 ≤ l.length ∧
      ((byAt l pos = c ∧ (Utf8.decode (bs l) pos).1 = c ∧ (Utf8.decode (bs l) pos).2 = 1) ∨
        ((Utf8.decode (bs l) pos).1 ≠ c ∧ ∀ j, pos ≤ j → j < pos + (Utf8.decode (bs l) pos).2 → byAt l j ≠ c)) := by
  have hd := decode_N (bs l) pos
  rw [bs_data] at hd
  have hcs := decodeN_conts (l.length - pos) (l.getD pos 0).toNat (l.getD (pos + 1) 0).toNat (l.getD (pos + 2) 0).toNat (l.getD (pos + 3) 0).toNat
  have hcases := decodeN_cases (l.length - pos) (l.getD pos 0).toNat (l.getD (pos + 1) 0).toNat (l.getD (pos + 2) 0).toNat (l.getD (pos + 3) 0).toNat
  have h1 := dec_width (bs l) pos
  rw [← hd] at hcs hcases
  generalize Utf8.decode (bs l) pos = q at *
  obtain ⟨r, d⟩ := q
  simp only at *
  obtain ⟨k1, k2, k3, k4⟩ := hcs
  refine ⟨h1, by omega, ?_⟩
  by_cases h0 : (l.getD pos 0).toNat < 128
  · have hq : r = (l.getD pos 0).toNat ∧ d = 1 := by
      rcases hcases with ⟨_, h⟩ | ⟨h, _⟩ | ⟨h, _⟩ | ⟨h, h'⟩ | h
      · simpa using h
      · omega
      · omega
      · unfold decodeN at hd
        rw [if_pos h0] at hd
        simp at hd
        omega
      · unfold decodeN at hd
        rw [if_pos h0] at hd
        simpa using hd
    obtain ⟨hr, rfl⟩ := hq
    by_cases he : (l.getD pos 0).toNat = c
    · exact .inl ⟨he, by omega, rfl⟩
    · refine .inr ⟨by omega, fun j j1 j2 => ?_⟩
      obtain rfl : j = pos := by omega
      exact he
  · refine .inr ⟨?_, fun j j1 j2 => ?_⟩
    · rcases hcases with ⟨h, _⟩ | ⟨_, _, _, h, e⟩ | ⟨_, _, _, _, h, e⟩ | ⟨h, _⟩ | e
      · omega
      · simp only [Prod.mk.injEq] at e; omega
      · simp only [Prod.mk.injEq] at e; omega
      · omega
      · simp only [Prod.mk.injEq] at e; omega
    · unfold byAt
      rcases (by omega : j = pos ∨ j = pos + 1 ∨ j = pos + 2 ∨ j = pos + 3) with rfl | rfl | rfl | rfl
      · omega
      · have := (k1 (by omega)).1; omega
      · have := (k2 (by omega)).1; omega
      · have := (k3 (by omega)).1; omega

/-- what stands ahead of the first c -/
def ahead (c : UInt8) (l : By) : By := l.takeWhile (fun b => b != c)
def behind (c : UInt8) (l : By) : By := l.dropWhile (fun b => b != c)
theorem byAt_cons (b : UInt8) (t : By) (j : Nat) : byAt (b :: t) (j + 1) = byAt t j := by simp [byAt, List.getD]
theorem free_tail {c : Nat} {b : UInt8} {t : By} {p : Nat} (h : Free c (b :: t) 0 (p + 1)) : Free c t 0 p := fun j _ hj => by
  have := h (j + 1) (by omega) (by omega)
  rwa [byAt_cons] at this
theorem ahead_of (c : UInt8) : ∀ (l : By) (p : Nat), Free c.toNat l 0 p → p ≤ l.length → (p = l.length ∨ byAt l p = c.toNat) → ahead c l = l.take p ∧ behind c l = l.drop p
  | [], p, _, hp, _ => by simp [ahead, behind]
  | b :: t, 0, _, _, he => by
    rcases he with he | he
    · simp at he
    · have : b = c := by
        have h2 : b.toNat = c.toNat := by simpa [byAt, List.getD] using he
        exact UInt8.toNat_inj.1 h2
      subst this
      simp [ahead, behind]
  | b :: t, p + 1, hf, hp, he => by
    have hb : b ≠ c := fun h => by
      have := hf 0 (Nat.le_refl _) (by omega)
      subst h
      exact this (by simp [byAt, List.getD])
    obtain ⟨h1, h2⟩ := ahead_of c t p (free_tail hf) (by simpa using hp) (by
      rcases he with he | he
      · left; simpa using he
      · right; rwa [byAt_cons] at he)
    constructor
    · rw [ahead, List.takeWhile_cons_of_pos (by simpa using hb), List.take_succ_cons, ← h1]; rfl
    · rw [behind, List.dropWhile_cons_of_pos (by simpa using hb), List.drop_succ_cons, ← h2]; rfl
/-- what stands ahead of a remark -/
def plainP (l : By) : By := ahead 35 l
/-- the first word, and what stands behind it -/
def nextP (l : By) : By × By := (ahead 32 (l.dropWhile (fun b => b == 32)), behind 32 (l.dropWhile (fun b => b == 32)))
theorem byAt_drop (l : By) (k j : Nat) : byAt (l.drop k) j = byAt l (k + j) := by simp [byAt, List.getD, List.getElem?_drop]
theorem blanks_off : ∀ (l : By) (k : Nat), k ≤ l.length → (∀ j, j < k → byAt l j = 32) → (k = l.length ∨ byAt l k ≠ 32) → l.dropWhile (fun b => b == 32) = l.drop k
  | [], k, _, _, _ => by simp
  | b :: t, 0, _, _, he => by
    have : b ≠ 32 := by
      rcases he with he | he
      · simp at he
      · intro h; subst h; exact he (by simp [byAt, List.getD])
    rw [List.dropWhile_cons_of_neg (by simpa using this), List.drop_zero]
  | b :: t, k + 1, hk, hf, he => by
    have hb : b = 32 := by
      have := hf 0 (by omega)
      have h2 : b.toNat = (32 : UInt8).toNat := by simpa [byAt, List.getD] using this
      exact UInt8.toNat_inj.1 h2
    subst hb
    rw [List.dropWhile_cons_of_pos (by simp), List.drop_succ_cons]
    refine blanks_off t k (by simpa using hk) (fun j hj => ?_) ?_
    · have := hf (j + 1) (by omega)
      rwa [byAt_cons] at this
    · rcases he with he | he
      · left; simpa using he
      · right; rwa [byAt_cons] at he
theorem next_split (l : By) (k p : Nat) (hk : ∀ j, j < k → byAt l j = 32) (hkp : k ≤ p) (hp : p ≤ l.length) (hf : Free 32 l k p) (he : p = l.length ∨ (k < p ∧ byAt l p = 32)) :
    nextP l = ((l.drop k).take (p - k), l.drop p) := by
  have h1 : l.dropWhile (fun b => b == 32) = l.drop k := blanks_off l k (by omega) hk (by
    rcases he with he | ⟨he, _⟩
    · by_cases h : k = p
      · left; omega
      · right; exact hf k (Nat.le_refl _) (by omega)
    · right; exact hf k (Nat.le_refl _) he)
  unfold nextP
  rw [h1]
  obtain ⟨h2, h3⟩ := ahead_of 32 (l.drop k) (p - k) (fun j _ hj => by rw [byAt_drop]; exact hf (k + j) (by omega) (by omega)) (by simp; omega) (by
    rcases he with he | ⟨_, he⟩
    · left; simp; omega
    · right; rw [byAt_drop, show k + (p - k) = p by omega]; exact he)
  rw [h2, h3, List.drop_drop, show k + (p - k) = p by omega]
/-- lines: what stands between line feeds; what stands behind the last one, too, if it is not empty -/
def linesP : By → List By
  | [] => []
  | b :: t => match b == 10 with
    | true => [] :: linesP t
    | false => match linesP t with
      | [] => [[b]]
      | x :: xs => (b :: x) :: xs
theorem lines_cut : ∀ (x t : By), (∀ b ∈ x, b ≠ 10) → linesP (x ++ 10 :: t) = x :: linesP t
  | [], t, _ => rfl
  | b :: x, t, h => by
    have hb : (b == 10) = false := by simpa using h b (by simp)
    have ih := lines_cut x t (fun b hb => h b (by simp [hb]))
    show (match b == 10 with | true => [] :: linesP (x ++ 10 :: t) | false => match linesP (x ++ 10 :: t) with | [] => [[b]] | x :: xs => (b :: x) :: xs) = _
    rw [hb, ih]
theorem lines_last : ∀ (x : By), (∀ b ∈ x, b ≠ 10) → x ≠ [] → linesP x = [x]
  | [], _, h => absurd rfl h
  | [b], h, _ => by
    have hb : (b == 10) = false := by simpa using h b (by simp)
    show (match b == 10 with | true => [] :: linesP [] | false => match linesP [] with | [] => [[b]] | x :: xs => (b :: x) :: xs) = _
    rw [hb]
    rfl
  | b :: c :: x, h, _ => by
    have hb : (b == 10) = false := by simpa using h b (by simp)
    have ih := lines_last (c :: x) (fun b hb => h b (by simp [hb])) (by simp)
    show (match b == 10 with | true => [] :: linesP (c :: x) | false => match linesP (c :: x) with | [] => [[b]] | x :: xs => (b :: x) :: xs) = _
    rw [hb, ih]
theorem lines_at (l : By) (k p : Nat) (hkp : k ≤ p) (hp : p < l.length) (hf : Free 10 l k p) (he : byAt l p = 10) : linesP (l.drop k) = ((l.drop k).take (p - k)) :: linesP (l.drop (p + 1)) := by
  have e : l.drop k = (l.drop k).take (p - k) ++ 10 :: l.drop (p + 1) := by
    have h1 : (l.drop k).drop (p - k) = 10 :: l.drop (p + 1) := by
      rw [List.drop_drop, show k + (p - k) = p by omega, List.drop_eq_getElem_cons hp]
      congr 1
      have : (l[p]).toNat = (10 : UInt8).toNat := by simpa [byAt, List.getD, hp] using he
      exact UInt8.toNat_inj.1 this
    rw [← h1, List.take_append_drop]
  have hx : ∀ b ∈ (l.drop k).take (p - k), b ≠ 10 := fun b hb h => by
    subst h
    obtain ⟨j, hj, hjb⟩ := List.mem_iff_getElem.1 hb
    simp only [List.length_take, List.length_drop] at hj
    have := hf (k + j) (by omega) (by omega)
    apply this
    rw [← byAt_drop]
    simp only [List.getElem_take] at hjb
    have hlt : j < (l.drop k).length := by rw [List.length_drop]; omega
    show ((l.drop k).getD j 0).toNat = 10
    rw [List.getD, List.getElem?_eq_getElem hlt, hjb]; rfl
  conv => lhs; rw [e]
  exact lines_cut _ _ hx
theorem lines_end (l : By) (k : Nat) (hk : k < l.length) (hf : Free 10 l k l.length) : linesP (l.drop k) = [l.drop k] := by
  refine lines_last _ (fun b hb h => ?_) (fun h => by have := congrArg List.length h; simp at this; omega)
  subst h
  obtain ⟨j, hj, hjb⟩ := List.mem_iff_getElem.1 hb
  simp only [List.length_drop] at hj
  have := hf (k + j) (by omega) (by omega)
  apply this
  rw [← byAt_drop]
  have hlt : j < (l.drop k).length := by rw [List.length_drop]; omega
  show ((l.drop k).getD j 0).toNat = 10
  rw [List.getD, List.getElem?_eq_getElem hlt, hjb]; rfl
end

section
open Go.RowKit Go.Lib
set_option linter.unusedVariables false
set_option linter.unusedSimpArgs false

theorem ret_str {a b : ByteArray} (h : a = b) : Ending.returned (.string a) = Ending.returned (.string b) := by rw [h]
theorem drop_zero_by (l : By) : l.drop 0 = l := rfl
set_option maxHeartbeats 1000000 in
theorem tPlain (l : By) (w : World) (hl : l.length ≤ maxLen) : Calls Tryz.prog 67 #[.string (bs l)] w fun e w' => e = .returned (.string (bs (plainP l))) ∧ Upd (fun _ => False) w w' := by
  unfold maxLen at hl
  have HSZ := Lib.hid (bs_size l)
  have HI0 := Lib.hid (upd_iter w (bs l) 0)
  have HF0 : Hid (Free 35 l 0 0) := Lib.hid (fun j h1 h2 => by omega)
  go_enter Tryz.func67, Tryz.ntmps67
  go_wp2_with fail
  go_loopw [7] (fun _ wr => ∃ pos : Nat, pos ≤ l.length ∧ Hid (wr.heap[w.heap.size]? = some (.stringIter (bs l) pos)) ∧ Hid (Upd (fun _ => False) w wr) ∧ Hid (Free 35 l 0 pos)) (fun _ wr => l.length - wr.iterPos w.heap.size)
  case atStart => exact ⟨0, Nat.zero_le _, Lib.hid (World.iter_heap _ _ _), HI0, HF0⟩
  case round =>
    obtain ⟨pos, hpl, HI, HU, HF⟩ := hrel
    by_cases hp : pos < l.length
    · have hnx := fun ty => Lib.run_next_any_at (P := Tryz.prog) wr w.heap.size (bs l) pos ty HI.out (by rw [bs_size]; exact hp)
      obtain ⟨hd1, hd2, hcs⟩ := scan_step l pos 35 hp (by omega)
      have hr := dec_rune (bs l) pos
      generalize (Utf8.decode (bs l) pos).1 = r at *
      generalize (Utf8.decode (bs l) pos).2 = d at *
      have HU2 := Lib.hid (upd_iterAt w.heap.size (bs l) (pos + d) HU.out (Nat.le_refl _))
      have HI2 : Hid ((wr.iterAt w.heap.size (bs l) (pos + d)).heap[w.heap.size]? = some (.stringIter (bs l) (pos + d))) := Lib.iterAt_heap _ _ _ _ _ HI.out
      have HP1 := Lib.hid (iterPos_of HI.out)
      have HP2 := Lib.hid (iterPos_of HI2.out)
      generalize wr.iterAt w.heap.size (bs l) (pos + d) = w2 at *
      rcases hcs with ⟨hb, rfl, rfl⟩ | ⟨hne, hfr⟩
      · have HE : Hid ((bs l).extract 0 pos = bs (plainP l)) := Lib.hid (by
          rw [bs_ext, drop_zero_by, Nat.sub_zero]
          exact congrArg bs ((ahead_of 35 l pos HF.out hpl (.inr hb)).1).symm)
        clear hb
        have hpi : (pos : Int) ≤ ((bs l).size : Int) := by rw [bs_size]; omega
        go_wp2_with fail
        go_ret
        exact ⟨ret_str HE.out, HU2.out⟩
      · have HF2 := Lib.hid (HF.out.more hfr)
        have hb : ((r : Int) == 35) = false := by simp; omega
        clear hfr hne
        go_wp2_with fail
        go_roundw
        case rel => exact ⟨pos + d, by omega, HI2, HU2, HF2⟩
        case measure => rw [HP1.out, HP2.out]; omega
    · obtain rfl : pos = l.length := by omega
      have hnx := fun ty => Lib.run_next_end_at (P := Tryz.prog) wr w.heap.size (bs l) l.length ty HI.out (by rw [bs_size]; omega)
      have HE : Hid (plainP l = l) := Lib.hid (by
        have := (ahead_of 35 l l.length HF.out (Nat.le_refl _) (.inl rfl)).1
        rwa [List.take_of_length_le (Nat.le_refl _)] at this)
      go_wp2_with fail
      go_ret
      exact ⟨ret_str (by rw [HE.out]), HU.out⟩

/-- the words of a line, in a box -/
def Wb (w : World) (b : Nat) (l : By) (bad : Bool) : Prop := w.heap[b]? = some (.cells #[.string (bs l), .bool bad] 100 (0, 0))
theorem Wb.cell {w : World} {b : Nat} {l : By} {bad : Bool} (h : Wb w b l bad) : w.cell? ⟨b, 0, none⟩ = some (.string (bs l)) ∧ w.cell? ⟨b, 1, none⟩ = some (.bool bad) ∧ w.frozen? ⟨b, 0, none⟩ = false ∧ w.frozen? ⟨b, 1, none⟩ = false := by
  refine ⟨by simp [World.cell?, show w.heap[b]? = _ from h], by simp [World.cell?, show w.heap[b]? = _ from h], by simp [World.frozen?, show w.heap[b]? = _ from h], by simp [World.frozen?, show w.heap[b]? = _ from h]⟩
theorem Wb.lt {w : World} {b : Nat} {l : By} {bad : Bool} (h : Wb w b l bad) : b < w.heap.size := (Array.getElem?_eq_some_iff.1 (show w.heap[b]? = _ from h)).1
theorem Wb.upd {S : Nat → Prop} {w w' : World} {b : Nat} {l : By} {bad : Bool} (h : Wb w b l bad) (hu : Upd S w w') (hS : ¬ S b) : Wb w' b l bad := (hu.block b h.lt hS).trans h
theorem Wb.set0 {w : World} {b : Nat} {l m : By} {bad : Bool} (h : Wb w b l bad) : Wb (w.setCell ⟨b, 0, none⟩ (.string (bs m))) b m bad := by
  simp [Wb, World.setCell, Array.getElem?_modify, show w.heap[b]? = _ from h]
theorem Wb.set1 {w : World} {b : Nat} {l : By} {bad q : Bool} (h : Wb w b l bad) : Wb (w.setCell ⟨b, 1, none⟩ (.bool q)) b l q := by
  simp [Wb, World.setCell, Array.getElem?_modify, show w.heap[b]? = _ from h]
theorem upd_one {w w' : World} (b q : Nat) (u : Value) (h : Upd (fun _ => False) w w') : Upd (fun k => k = b) w (w'.setCell ⟨b, q, none⟩ u) :=
  (h.mono (T := fun k => k = b) (fun _ h _ => h.elim)).trans (Upd.setCell (S := fun k => k = b) w' (.inl rfl) u) (fun _ h _ => h)
set_option maxHeartbeats 2000000 in
theorem tNext (l : By) (bad : Bool) (b : Nat) (w : World) (hw : Wb w b l bad) (hl : l.length ≤ maxLen) :
    Calls Tryz.prog 69 #[.pointer (some ⟨b, 0, none⟩)] w fun e w' => e = .returned (.string (bs (nextP l).1)) ∧ Wb w' b (nextP l).2 bad ∧ Upd (fun k => k = b) w w' := by
  unfold maxLen at hl
  have HSZ := Lib.hid (bs_size l)
  have HI0 := Lib.hid (upd_iter w (bs l) 0)
  have HF0 : Hid (Free 32 l 0 0) := Lib.hid (fun j h1 h2 => by omega)
  have HK0 : Hid (∀ j, j < 0 → byAt l j = 32) := Lib.hid (fun j h1 => by omega)
  have HW := Lib.hid hw
  obtain ⟨c0, c1, f0, f1⟩ := hw.cell
  have hbl : b < w.heap.size := hw.lt
  clear hw
  go_enter Tryz.func69, Tryz.ntmps69
  go_wp2_with fail
  clear c0 c1 f0 f1
  go_loopw [3, 13] (fun fr _ wr => ∃ k pos : Nat, k ≤ pos ∧ pos ≤ l.length ∧ fr = .int .i64 k ∧ Hid (wr.heap[w.heap.size]? = some (.stringIter (bs l) pos)) ∧ Hid (Upd (fun _ => False) w wr) ∧ Hid (Free 32 l k pos) ∧ Hid (∀ j, j < k → byAt l j = 32)) (fun _ _ wr => l.length - wr.iterPos w.heap.size)
  case atStart => exact ⟨0, 0, Nat.le_refl _, Nat.zero_le _, rfl, Lib.hid (World.iter_heap _ _ _), HI0, HF0, HK0⟩
  case round =>
    obtain ⟨k, pos, hkp, hpl, rfl, HI, HU, HF, HK⟩ := hrel
    by_cases hp : pos < l.length
    · have hnx := fun ty => Lib.run_next_any_at (P := Tryz.prog) wr w.heap.size (bs l) pos ty HI.out (by rw [bs_size]; exact hp)
      obtain ⟨hd1, hd2, hcs⟩ := scan_step l pos 32 hp (by omega)
      have hr := dec_rune (bs l) pos
      generalize (Utf8.decode (bs l) pos).1 = r at *
      generalize (Utf8.decode (bs l) pos).2 = d at *
      have HU2 := Lib.hid (upd_iterAt w.heap.size (bs l) (pos + d) HU.out (Nat.le_refl _))
      have HI2 : Hid ((wr.iterAt w.heap.size (bs l) (pos + d)).heap[w.heap.size]? = some (.stringIter (bs l) (pos + d))) := Lib.iterAt_heap _ _ _ _ _ HI.out
      have HP1 := Lib.hid (iterPos_of HI.out)
      have HP2 := Lib.hid (iterPos_of HI2.out)
      generalize wr.iterAt w.heap.size (bs l) (pos + d) = w2 at *
      rcases hcs with ⟨hb, rfl, rfl⟩ | ⟨hne, hfr⟩
      · by_cases hlt : k < pos
        · have HN := Lib.hid (next_split l k pos HK.out hkp hpl HF.out (.inr ⟨hlt, hb⟩))
          have HE : Hid ((bs l).extract k pos = bs (nextP l).1) := Lib.hid (by rw [HN.out, bs_ext])
          have HE2 : Hid ((bs l).extract pos (bs l).size = bs (nextP l).2) := Lib.hid (by rw [HN.out, bs_ext, bs_size, List.take_of_length_le (by simp)])
          have HW2 := Lib.hid (HW.out.upd HU2.out (fun h => h))
          obtain ⟨c0, c1, f0, f1⟩ := HW2.out.cell
          clear hb c1 f1
          have hpi : (pos : Int) ≤ ((bs l).size : Int) := by rw [bs_size]; omega
          have hki : (k : Int) ≤ (pos : Int) := by omega
          go_wp2_with fail
          go_ret
          rw [HE2.out]
          exact ⟨ret_str HE.out, HW2.out.set0, upd_one b 0 _ HU2.out⟩
        · obtain rfl : k = pos := by omega
          have HK2 : Hid (∀ j, j < k + 1 → byAt l j = 32) := Lib.hid (fun j hj => by
            by_cases h : j < k
            · exact HK.out j h
            · obtain rfl : j = k := by omega
              exact hb)
          have HF2 : Hid (Free 32 l (k + 1) (k + 1)) := Lib.hid (fun j h1 h2 => by omega)
          clear hb
          go_wp2_with fail
          go_roundw
          case rel => exact ⟨k + 1, k + 1, Nat.le_refl _, by omega, by go_num, HI2, HU2, HF2, HK2⟩
          case measure => rw [HP1.out, HP2.out]; omega
      · have HF2 := Lib.hid (HF.out.more hfr)
        have hb : ((r : Int) != 32) = true := by simp; omega
        clear hfr hne
        go_wp2_with fail
        go_roundw
        case rel => exact ⟨k, pos + d, by omega, by omega, rfl, HI2, HU2, HF2, HK⟩
        case measure => rw [HP1.out, HP2.out]; omega
    · obtain rfl : pos = l.length := by omega
      have hnx := fun ty => Lib.run_next_end_at (P := Tryz.prog) wr w.heap.size (bs l) l.length ty HI.out (by rw [bs_size]; omega)
      have HN := Lib.hid (next_split l k l.length HK.out hkp (Nat.le_refl _) HF.out (.inl rfl))
      have HE : Hid ((bs l).extract k (bs l).size = bs (nextP l).1) := Lib.hid (by rw [HN.out, bs_ext, bs_size])
      have HE2 : Hid (({ data := #[] } : ByteArray) = bs (nextP l).2) := Lib.hid (by rw [HN.out, List.drop_of_length_le (Nat.le_refl _)]; rfl)
      have HW2 := Lib.hid (HW.out.upd HU.out (fun h => h))
      obtain ⟨c0, c1, f0, f1⟩ := HW2.out.cell
      clear c1 f1
      have hki : (k : Int) ≤ ((bs l).size : Int) := by rw [bs_size]; omega
      go_wp2_with fail
      go_ret
      rw [HE2.out]
      exact ⟨ret_str HE.out, HW2.out.set0, upd_one b 0 _ HU.out⟩
end

section
open Go.RowKit Go.Lib
set_option linter.unusedVariables false
set_option linter.unusedSimpArgs false

def emptyP (l : By) : Bool := decide ((nextP l).1 = [])
theorem bs_empty (x : By) : (bs x).toList.isEmpty = decide (x = []) := by
  rw [bs_list, Bool.eq_iff_iff]
  simp
theorem tIsEmpty (l : By) (bad : Bool) (b : Nat) (w : World) (hw : Wb w b l bad) (hl : l.length ≤ maxLen) :
    Calls Tryz.prog 68 #[.pointer (some ⟨b, 0, none⟩)] w fun e w' => e = .returned (.bool (emptyP l)) ∧ Upd (fun _ => False) w w' := by
  obtain ⟨c0, c1, f0, f1⟩ := hw.cell
  obtain ⟨w1, hw1⟩ : ∃ w1, w1 = w.alloc (.cells #[.string (bs l), .bool bad] 100) := ⟨_, rfl⟩
  have hu1 : Upd (fun _ => False) w w1 := by rw [hw1]; exact Upd.alloc _ _ _
  have hx1 : Wb w1 w.heap.size l bad := by
    rw [hw1]
    show (w.heap.push _)[w.heap.size]? = _
    simp
  have HN := Lib.hid (tNext l bad w.heap.size w1 hx1 hl)
  have HE := Lib.hid (bs_empty (nextP l).1)
  have HP := Lib.hid (show emptyP l = decide ((nextP l).1 = []) from rfl)
  have HU := Lib.hid hu1
  have HW := Lib.hid hw1
  clear hw hu1 hx1 hw1 f0 f1
  go_enter Tryz.func68, Tryz.ntmps68
  go_wp2_with fail
  rw [← HW.out]
  refine HN.out.mono ?_
  rintro e w2 ⟨rfl, -, hu⟩
  have HU2 : Hid (Upd (fun _ => False) w w2) := Lib.hid (HU.out.trans hu (fun i hi hl => by omega))
  clear hu c0 c1
  go_wp2_with fail
  go_ret
  refine ⟨ret_bool ?_, HU2.out⟩
  rw [HP.out, ← HE.out]
theorem tNeed (l : By) (bad q : Bool) (b : Nat) (w : World) (hw : Wb w b l bad) :
    Calls Tryz.prog 91 #[.pointer (some ⟨b, 0, none⟩), .bool q] w fun e w' => e = .returned (.tuple #[]) ∧ Wb w' b l (bad || !q) ∧ Upd (fun k => k = b) w w' := by
  obtain ⟨c0, c1, f0, f1⟩ := hw.cell
  have HW := Lib.hid hw
  clear hw c0 f0
  cases bad <;> cases q
  all_goals
    go_enter Tryz.func91, Tryz.ntmps91
    go_wp2_with fail
    first | (refine bodyPost_end (results_none rfl _ _ _) rfl ?_) | (simp only [Exit.inBlock, Exit.then]; refine bodyPost_end (results_none rfl _ _ _) rfl ?_)
    exact ⟨rfl, HW.out.set1, upd_one b 1 _ (Upd.refl _ _)⟩
/-- a kind's word -/
def kindS (k : Nat) : By := match k with
  | 0 => [110, 111, 110, 101]
  | 1 => [112, 117, 98]
  | 2 => [115, 101, 99]
  | 3 => [112, 117, 98, 97]
  | 4 => [115, 101, 99, 97]
  | _ => []
def kindN (k : Int) : By := match decide (0 ≤ k) with
  | true => kindS k.toNat
  | false => []
/-- the kind of a word; -1 of others -/
def kindP (l : By) : Int := match (List.range 5).find? (fun k => decide (kindS k = l)) with
  | some k => (k : Int)
  | none => -1
theorem tKindName (k : Nat) (hk : k ≤ 4) (w : World) : Calls Tryz.prog 10 #[.int .i64 k] w fun e w' => e = .returned (.string (bs (kindS k))) ∧ w = w' := by
  rcases (by omega : k = 0 ∨ k = 1 ∨ k = 2 ∨ k = 3 ∨ k = 4) with rfl | rfl | rfl | rfl | rfl
  all_goals
    go_enter Tryz.func10, Tryz.ntmps10
    go_wp2_with fail
    go_ret
    exact ⟨rfl, rfl⟩
theorem tKindName_no (k : Int) (hk : k < 0 ∨ 4 < k) (w : World) : Calls Tryz.prog 10 #[.int .i64 k] w fun e w' => e = .returned (.string (bs [])) ∧ w = w' := by
  have e0 : (k == 0) = false := by simp; omega
  have e1 : (k == 1) = false := by simp; omega
  have e2 : (k == 2) = false := by simp; omega
  have e3 : (k == 3) = false := by simp; omega
  have e4 : (k == 4) = false := by simp; omega
  go_enter Tryz.func10, Tryz.ntmps10
  go_wp2_with fail
  go_ret
  exact ⟨rfl, rfl⟩
theorem range_find {p : Nat → Bool} {k : Nat} (hk : k < 5) (h : (List.range k).find? p = none) (hp : p k = true) : (List.range 5).find? p = some k := by
  have : List.range 5 = List.range k ++ (k :: (List.range (5 - k - 1)).map (fun i => k + 1 + i)) := by
    rcases (by omega : k = 0 ∨ k = 1 ∨ k = 2 ∨ k = 3 ∨ k = 4) with rfl | rfl | rfl | rfl | rfl <;> rfl
  rw [this, List.find?_append, h]
  simp [hp]
theorem range_miss {p : Nat → Bool} {k : Nat} (h : (List.range k).find? p = none) (hp : p k = false) : (List.range (k + 1)).find? p = none := by
  rw [List.range_succ, List.find?_append, h]
  simp [hp]
set_option maxHeartbeats 1000000 in
theorem tKind (l : By) (w : World) : Calls Tryz.prog 110 #[.string (bs l)] w fun e w' => e = .returned (.int .i64 (kindP l)) ∧ w = w' := by
  go_enter Tryz.func110, Tryz.ntmps110
  go_wp2_with fail
  go_loop [4, 3] (fun i _ => ∃ k : Nat, k ≤ 5 ∧ i = .int .i64 k ∧ Hid ((List.range k).find? (fun k => decide (kindS k = l)) = none)) (fun i _ => 5 - (intOf i).toNat)
  case atStart => exact ⟨0, by omega, rfl, rfl⟩
  case round =>
    obtain ⟨k, hk, rfl, HF⟩ := hrel
    have hki : (0 : Int) ≤ (k : Int) := Int.natCast_nonneg _
    by_cases hlt : k < 5
    · have HQ := Lib.hid (bs_same (kindS k) l)
      by_cases hq : kindS k = l
      · have hs : ((bs (kindS k)).toList == (bs l).toList) = true := by rw [HQ.out]; simpa using hq
        have HR : Hid (kindP l = k) := Lib.hid (by unfold kindP; rw [range_find hlt HF.out (by simpa using hq)])
        clear hq
        go_wp2_with ((with_reducible refine (tKindName k (by omega) _).mono ?_); rintro e w' ⟨rfl, rfl⟩)
        go_ret
        exact ⟨ret_i64 HR.out.symm, rfl⟩
      · have hs : ((bs (kindS k)).toList == (bs l).toList) = false := by rw [HQ.out]; simpa using hq
        have HF2 := Lib.hid (range_miss HF.out (by simpa using hq))
        clear hq
        go_wp2_with ((with_reducible refine (tKindName k (by omega) _).mono ?_); rintro e w' ⟨rfl, rfl⟩)
        go_round
        case rel => exact ⟨k + 1, by omega, by go_num, HF2⟩
        case measure => simp [intOf]; omega
    · obtain rfl : k = 5 := by omega
      have HR : Hid (kindP l = -1) := Lib.hid (by unfold kindP; rw [HF.out])
      go_wp2_with fail
      go_ret
      exact ⟨ret_i64 HR.out.symm, rfl⟩
/-- a sign ahead -/
def cutP (l : By) : By × Bool := match l with
  | [] => ([], false)
  | b :: t => match b == 45 with
    | true => (t, true)
    | false => (b :: t, false)
theorem cut_yes (l : By) (h : (cutP l).2 = true) : 1 ≤ l.length ∧ l.take 1 = [45] ∧ (cutP l).1 = l.drop 1 := by
  cases l with
  | nil => cases h
  | cons b t =>
    cases hb : b == 45 with
    | true => exact ⟨by simp, by simpa using hb, by simp [cutP, hb]⟩
    | false => simp [cutP, hb] at h
theorem cut_no (l : By) (h : (cutP l).2 = false) : (cutP l).1 = l ∧ l.take 1 ≠ [45] := by
  cases l with
  | nil => exact ⟨rfl, by simp⟩
  | cons b t =>
    cases hb : b == 45 with
    | true => simp [cutP, hb] at h
    | false => exact ⟨by simp [cutP, hb], by simpa using hb⟩
theorem tPre (l : By) (w : World) : Calls Tryz.prog 113 #[.string (bs l), .string { data := #[45] }] w fun e w' => e = .returned (.bool (cutP l).2) ∧ w = w' := by
  have HSZ := Lib.hid (bs_size l)
  have h1 : (({ data := #[45] } : ByteArray)).size = 1 := rfl
  have HX : Hid (((bs l).extract 0 1).toList = l.take 1) := Lib.hid (by rw [bs_ext, bs_list]; simp)
  cases hc : (cutP l).2 with
  | true =>
    obtain ⟨k1, k2, -⟩ := cut_yes l hc
    have hg : (1 : Int) ≤ ((bs l).size : Int) := by rw [bs_size]; omega
    have he : (((bs l).extract 0 1).toList == [45]) = true := by rw [HX.out, k2]; rfl
    clear hc k1 k2
    go_enter Tryz.func113, Tryz.ntmps113
    go_wp2_with fail
    go_ret
    exact ⟨rfl, rfl⟩
  | false =>
    obtain ⟨-, k2⟩ := cut_no l hc
    have he : (((bs l).extract 0 1).toList == [45]) = false := by rw [HX.out]; simpa using k2
    clear hc k2
    by_cases hl : 1 ≤ l.length
    · have hg : (1 : Int) ≤ ((bs l).size : Int) := by rw [bs_size]; omega
      go_enter Tryz.func113, Tryz.ntmps113
      go_wp2_with fail
      go_ret
      exact ⟨rfl, rfl⟩
    · have hg : ¬ (1 : Int) ≤ ((bs l).size : Int) := by rw [bs_size]; omega
      go_enter Tryz.func113, Tryz.ntmps113
      go_wp2_with fail
      go_ret
      exact ⟨rfl, rfl⟩
theorem tCut (l : By) (w : World) : Calls Tryz.prog 111 #[.string (bs l), .string { data := #[45] }] w fun e w' => e = .returned (.tuple #[.string (bs (cutP l).1), .bool (cutP l).2]) ∧ w = w' := by
  have H : Hid (∀ w : World, Calls Tryz.prog 112 #[.string (bs l), .string { data := #[45] }] w fun e w' => e = .returned (.tuple #[.string (bs (cutP l).1), .bool (cutP l).2]) ∧ w = w') := Lib.hid (fun w => by
    cases hc : (cutP l).2 with
    | true =>
      obtain ⟨k1, k2, k3⟩ := cut_yes l hc
      have HC := Lib.hid hc
      have HE : Hid ((bs l).extract 1 (bs l).size = bs (cutP l).1) := Lib.hid (by rw [k3, bs_ext, bs_size, List.take_of_length_le (by simp)])
      have hg : (1 : Int) ≤ ((bs l).size : Int) := by rw [bs_size]; omega
      clear hc k2 k3
      go_enter Tryz.func112, Tryz.ntmps112
      go_wp2_with (refine (tPre l _).mono ?_; rw [HC.out]; rintro e w' ⟨rfl, rfl⟩)
      refine bodyPost_ret (v := .tuple #[.string (bs (cutP l).1), .bool true]) (by simp only [results, Tryz.f112]; simp [go_sem, HE.out]) rfl ?_
      exact ⟨rfl, rfl⟩
    | false =>
      obtain ⟨k1, k2⟩ := cut_no l hc
      have HC := Lib.hid hc
      have HE := Lib.hid k1
      clear hc k1 k2
      go_enter Tryz.func112, Tryz.ntmps112
      go_wp2_with (refine (tPre l _).mono ?_; rw [HC.out]; rintro e w' ⟨rfl, rfl⟩)
      refine bodyPost_ret (v := .tuple #[.string (bs (cutP l).1), .bool false]) (by simp only [results, Tryz.f112]; simp [go_sem, HE.out]) rfl ?_
      exact ⟨rfl, rfl⟩)
  go_enter Tryz.func111, Tryz.ntmps111
  go_wp2_with (refine (H.out _).mono ?_; rintro e w' ⟨rfl, rfl⟩)
  refine bodyPost_ret (v := .tuple #[.string (bs (cutP l).1), .bool (cutP l).2]) (by simp only [results, Tryz.f111]; simp [go_sem]) rfl ?_
  exact ⟨rfl, rfl⟩
end

section
open Go.RowKit Go.Lib
set_option linter.unusedVariables false
set_option linter.unusedSimpArgs false

def digB (n : Nat) : Bool := decide (48 ≤ n ∧ n ≤ 57)
def numVal (ds : By) : Nat := ds.foldl (fun n b => 10 * n + (b.toNat - 48)) 0
def numOk (l : By) : Bool := decide ((cutP l).1 ≠ []) && (decide ((cutP l).1.length ≤ 10) && (!(decide (byAt (cutP l).1 0 = 48) && decide (l ≠ [48])) && (cutP l).1.all (fun b => digB b.toNat)))
def signV (sg : Bool) (n : Nat) : Int := match sg with
  | true => -(n : Int)
  | false => (n : Int)
def numP (l : By) : Int × Bool := match numOk l with
  | true => (signV (cutP l).2 (numVal (cutP l).1), true)
  | false => (0, false)
theorem num_no {l : By} (h : numOk l = false) : numP l = (0, false) := by unfold numP; rw [h]
theorem bs_get0 (ds : By) (h : 0 < (bs ds).size) : ((bs ds)[0]'h).toNat = byAt ds 0 := by
  have h2 : 0 < ds.length := by rw [bs_size] at h; exact h
  have e : (bs ds)[0]'h = ds[0] := rfl
  rw [e]
  simp [byAt, List.getD, h2]
theorem scan_any (l : By) (pos : Nat) (hp : pos < l.length) :
    (byAt l pos < 128 ∧ (Utf8.decode (bs l) pos).1 = byAt l pos ∧ (Utf8.decode (bs l) pos).2 = 1) ∨ (128 ≤ byAt l pos ∧ 128 ≤ (Utf8.decode (bs l) pos).1) := by
  by_cases h : byAt l pos < 128
  · obtain ⟨_, _, h1 | h1⟩ := scan_step l pos (byAt l pos) hp h
    · exact .inl ⟨h, h1.2⟩
    · exact absurd rfl (h1.2 pos (Nat.le_refl _) (by have := dec_width (bs l) pos; omega))
  · refine .inr ⟨by omega, ?_⟩
    by_cases hr : (Utf8.decode (bs l) pos).1 < 128
    · obtain ⟨_, _, h1 | h1⟩ := scan_step l pos _ hp hr
      · omega
      · exact absurd rfl h1.1
    · omega
theorem numVal_take (ds : By) (pos : Nat) (h : pos < ds.length) : numVal (ds.take (pos + 1)) = 10 * numVal (ds.take pos) + (byAt ds pos - 48) := by
  unfold numVal
  rw [List.take_add_one, List.foldl_append, List.getElem?_eq_getElem h]
  simp [byAt, List.getD, h]
theorem numVal_lt (ds : By) : ∀ pos, pos ≤ ds.length → (∀ j, j < pos → digB (byAt ds j) = true) → numVal (ds.take pos) < 10 ^ pos
  | 0, _, _ => by simp [numVal]
  | pos + 1, h, hd => by
    have ih := numVal_lt ds pos (by omega) (fun j hj => hd j (by omega))
    have h1 := hd pos (by omega)
    simp [digB] at h1
    rw [numVal_take ds pos (by omega), Nat.pow_succ]
    omega
theorem dig_all (ds : By) (h : ∀ j, j < ds.length → digB (byAt ds j) = true) : ds.all (fun b => digB b.toNat) = true := by
  rw [List.all_eq_true]
  intro b hb
  obtain ⟨j, hj, rfl⟩ := List.mem_iff_getElem.1 hb
  have := h j hj
  simpa [byAt, List.getD, hj] using this
theorem dig_no (ds : By) (j : Nat) (hj : j < ds.length) (h : digB (byAt ds j) = false) : ds.all (fun b => digB b.toNat) = false := by
  cases ha : ds.all (fun b => digB b.toNat) with
  | false => rfl
  | true =>
    have := List.all_eq_true.1 ha ds[j] (List.getElem_mem hj)
    have h2 : digB (ds[j].toNat) = false := by simpa [byAt, List.getD, hj] using h
    rw [h2] at this
    cases this
set_option maxHeartbeats 2000000 in
theorem tNumber (l : By) (w : World) (hl : l.length ≤ maxLen) : Calls Tryz.prog 106 #[.string (bs l)] w fun e w' => e = .returned (.tuple #[.int .i64 (numP l).1, .bool (numP l).2]) ∧ Upd (fun _ => False) w w' := by
  obtain ⟨ds, hds⟩ : ∃ ds, ds = (cutP l).1 := ⟨_, rfl⟩
  obtain ⟨sg, hsg⟩ : ∃ sg, sg = (cutP l).2 := ⟨_, rfl⟩
  have HC := Lib.hid (fun w => tCut l w)
  have hz := bs_size ds
  have HE := bs_empty ds
  rw [← hds, ← hsg] at HC
  have HOK := Lib.hid (show numOk l = (decide (ds ≠ []) && (decide (ds.length ≤ 10) && (!(decide (byAt ds 0 = 48) && decide (l ≠ [48])) && ds.all (fun b => digB b.toNat)))) by rw [hds]; rfl)
  have HDS := Lib.hid hds
  have HSG := Lib.hid hsg
  clear hds hsg
  by_cases h0 : ds = []
  · have HN := Lib.hid (num_no (l := l) (by rw [HOK.out]; simp [h0]))
    rw [show decide (ds = []) = true by simpa using h0] at HE
    clear h0
    go_enter Tryz.func106, Tryz.ntmps106
    go_wp2_with (refine (HC.out _).mono ?_; rintro e w' ⟨rfl, rfl⟩)
    refine bodyPost_ret (v := .tuple #[.int .i64 0, .bool false]) (by simp only [results, Tryz.f106]; simp [go_sem]) rfl ?_
    exact ⟨by rw [HN.out], Upd.refl _ _⟩
  · have hpos : 0 < ds.length := List.length_pos_iff.2 h0
    rw [show decide (ds = []) = false by simpa using h0] at HE
    by_cases h10 : 10 < ds.length
    · have HN := Lib.hid (num_no (l := l) (by rw [HOK.out]; simp; intro _ h; omega))
      have hg : (10 : Int) < ((bs ds).size : Int) := by rw [bs_size]; omega
      clear h0 hz
      go_enter Tryz.func106, Tryz.ntmps106
      go_wp2_with (refine (HC.out _).mono ?_; rintro e w' ⟨rfl, rfl⟩)
      refine bodyPost_ret (v := .tuple #[.int .i64 0, .bool false]) (by simp only [results, Tryz.f106]; simp [go_sem]) rfl ?_
      exact ⟨by rw [HN.out], Upd.refl _ _⟩
    · have hg : ¬ (10 : Int) < ((bs ds).size : Int) := by rw [bs_size]; omega
      have hg0 : (0 : Int) < ((bs ds).size : Int) := by rw [bs_size]; omega
      clear hz
      go_enter Tryz.func106, Tryz.ntmps106
      go_wp2_with (refine (HC.out _).mono ?_; rintro e w' ⟨rfl, rfl⟩)
      all_goals first
        | (refine bodyPost_ret (v := .tuple #[.int .i64 0, .bool false]) (by simp only [results, Tryz.f106]; simp [go_sem]) rfl ?_
           rename_i q1 q2 q3
           rw [bs_get0] at q2
           refine ⟨?_, Upd.refl _ _⟩
           rw [num_no (l := l) (by
             rw [HOK.out]
             have e1 : decide (byAt ds 0 = 48) = true := by simp; omega
             have e2 : decide (l ≠ [48]) = true := by
               rcases q3 with q3 | q3
               · exfalso; omega
               · simpa [bs_list] using q3
             rw [e1, e2]; simp)])
        | skip
      all_goals
        have HZ : Hid ((decide (byAt ds 0 = 48) && decide (l ≠ [48])) = false) := Lib.hid (by
          first
            | (rename_i q1 q2 q3 q4 q5
               rw [bs_get0] at q2
               have : l = [48] := by simpa [bs_list] using q3.2
               simp [this])
            | (rename_i q1 q2 q3 q4 q5
               rw [bs_get0] at q2
               simp; omega))
        have hl10 : ds.length ≤ 10 := by omega
        have HD0 : Hid (∀ j, j < 0 → digB (byAt ds j) = true) := Lib.hid (fun j h => by omega)
        have HI0 := Lib.hid (upd_iter w (bs ds) 0)
        clear HE hg hg0
        go_loopw [6, 32] (fun nv _ wr => ∃ pos : Nat, pos ≤ ds.length ∧ nv = .int .i64 (numVal (ds.take pos) : Nat) ∧ Hid (wr.heap[w.heap.size]? = some (.stringIter (bs ds) pos)) ∧ Hid (Upd (fun _ => False) w wr) ∧ Hid (∀ j, j < pos → digB (byAt ds j) = true)) (fun _ _ wr => ds.length - wr.iterPos w.heap.size)
        case atStart => exact ⟨0, Nat.zero_le _, rfl, Lib.hid (World.iter_heap _ _ _), HI0, HD0⟩
        case round =>
          obtain ⟨pos, hpl, rfl, HI, HU, HD⟩ := hrel
          have hlt10 := numVal_lt ds pos hpl HD.out
          have hle10 : 10 ^ pos ≤ 10 ^ 10 := Nat.pow_le_pow_right (by omega) (by omega)
          by_cases hp : pos < ds.length
          · have hnx := fun ty => Lib.run_next_any_at (P := Tryz.prog) wr w.heap.size (bs ds) pos ty HI.out (by rw [bs_size]; exact hp)
            have hcs := scan_any ds pos hp
            have hr := dec_rune (bs ds) pos
            have hw1 := dec_width (bs ds) pos
            have HV := Lib.hid (numVal_take ds pos hp)
            generalize (Utf8.decode (bs ds) pos).1 = r at *
            generalize (Utf8.decode (bs ds) pos).2 = d at *
            have HU2 := Lib.hid (upd_iterAt w.heap.size (bs ds) (pos + d) HU.out (Nat.le_refl _))
            have HI2 : Hid ((wr.iterAt w.heap.size (bs ds) (pos + d)).heap[w.heap.size]? = some (.stringIter (bs ds) (pos + d))) := Lib.iterAt_heap _ _ _ _ _ HI.out
            have HP1 := Lib.hid (iterPos_of HI.out)
            have HP2 := Lib.hid (iterPos_of HI2.out)
            generalize wr.iterAt w.heap.size (bs ds) (pos + d) = w2 at *
            by_cases hdg : 48 ≤ r ∧ r ≤ 57
            · obtain ⟨g1, g2⟩ := hdg
              obtain ⟨hb, rfl, rfl⟩ : byAt ds pos < 128 ∧ r = byAt ds pos ∧ d = 1 := by
                rcases hcs with h | ⟨_, h⟩
                · exact h
                · omega
              have HD2 : Hid (∀ j, j < pos + 1 → digB (byAt ds j) = true) := Lib.hid (fun j hj => by
                by_cases h : j < pos
                · exact HD.out j h
                · obtain rfl : j = pos := by omega
                  simp [digB]; omega)
              generalize hx : byAt ds pos = x at *
              generalize hn : numVal (ds.take pos) = n at *
              have hn10 : n < 10000000000 := by
                have : (10 : Nat) ^ 10 = 10000000000 := rfl
                omega
              have k1 : IntKind.i32.wrap ((x : Int) - 48) = (x : Int) - 48 := by rw [IntKind.wrap_i32]; omega
              have k2 : IntKind.i64.wrap (10 * (n : Int)) = 10 * (n : Int) := IntWalk.i64_in _ (by omega)
              have k3 : IntKind.i64.wrap (10 * (n : Int) + ((x : Int) - 48)) = 10 * (n : Int) + ((x : Int) - 48) := IntWalk.i64_in _ (by omega)
              have k4 : IntKind.i64.wrap ((x : Int) - 48) = (x : Int) - 48 := IntWalk.i64_in _ (by omega)
              have b1 : decide ((x : Int) < 48) = false := by simp; omega
              have b2 : decide (57 < (x : Int)) = false := by simp; omega
              have HX := Lib.hid hx
              have HNN := Lib.hid hn
              clear hlt10 hle10 hb hcs hx hn
              go_wp2_with fail
              go_roundw
              case rel => exact ⟨pos + 1, by omega, by rw [HV.out]; congr 1; omega, HI2, HU2, HD2⟩
              case measure => rw [HP1.out, HP2.out]; omega
            · have HN := Lib.hid (num_no (l := l) (by
                rw [HOK.out, dig_no ds pos hp (by
                  simp only [digB, decide_eq_false_iff_not]
                  rcases hcs with ⟨_, h, _⟩ | ⟨h, _⟩
                  · omega
                  · omega)]
                simp))
              clear hlt10 hle10 hcs
              go_wp2_with fail
              all_goals first
                | (exfalso; omega)
                | (refine bodyPost_ret (v := .tuple #[.int .i64 0, .bool false]) (by simp only [results, Tryz.f106]; simp [go_sem]) rfl ?_
                   exact ⟨by rw [HN.out], HU2.out⟩)
          · obtain rfl : pos = ds.length := by omega
            have hnx := fun ty => Lib.run_next_end_at (P := Tryz.prog) wr w.heap.size (bs ds) ds.length ty HI.out (by rw [bs_size]; omega)
            rw [List.take_of_length_le (Nat.le_refl _)] at hlt10
            have e1 : ds.take ds.length = ds := List.take_of_length_le (Nat.le_refl _)
            rw [e1]
            have HO : Hid (numOk l = true) := Lib.hid (by
              rw [HOK.out, HZ.out, dig_all ds HD.out]
              simp [h0, hl10])
            have HP : Hid (numP l = (signV sg (numVal ds), true)) := Lib.hid (by
              unfold numP
              rw [HO.out, ← HDS.out, ← HSG.out])
            generalize numVal ds = n at *
            have hn10 : n < 10000000000 := by
              have : (10 : Nat) ^ 10 = 10000000000 := rfl
              omega
            have k1 : IntKind.i64.wrap (-(n : Int)) = -(n : Int) := IntWalk.i64_in _ (by omega)
            clear hlt10 hle10 e1
            cases sg with
            | true =>
              have HP2 : Hid (numP l = (-(n : Int), true)) := HP
              go_wp2_with fail
              refine bodyPost_ret (v := .tuple #[.int .i64 (-(n : Int)), .bool true]) (by simp only [results, Tryz.f106]; simp [go_sem, k1]) rfl ?_
              exact ⟨by rw [HP2.out], HU.out⟩
            | false =>
              have HP2 : Hid (numP l = ((n : Int), true)) := HP
              go_wp2_with fail
              refine bodyPost_ret (v := .tuple #[.int .i64 (n : Int), .bool true]) (by simp only [results, Tryz.f106]; simp [go_sem]) rfl ?_
              exact ⟨by rw [HP2.out], HU.out⟩
end
end Go.Proofs.YtmikibcgphkcfaaGreatDoor

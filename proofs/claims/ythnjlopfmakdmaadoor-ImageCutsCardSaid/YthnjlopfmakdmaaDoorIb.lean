/- Which images are right, plainly; runes of a name. No program is named here. -/
import Derived.Test.YthnjlopfmakdmaaDoorIa
import Derived.Lib.ValidLaws
namespace Go.Proofs.YthnjlopfmakdmaaDoor
open Go.RowKit Go.Lib
set_option linter.unusedVariables false

/-- may a name have this rune? -/
def nmRune (r : Nat) : Bool := decide (97 ≤ r ∧ r ≤ 122) || (decide (48 ≤ r ∧ r ≤ 57) || (decide (r = 45) || (decide (r = 46) || decide (224 ≤ r ∧ r ≤ 255))))
def nmGo : Nat → List UInt8 → Bool
  | 0, _ => true
  | n + 1, l => if l = [] then true else nmRune (decodeL l).1 && nmGo n (l.drop (decodeL l).2)
/-- each rune of it may stand in a name -/
def nmR (l : List UInt8) : Bool := nmGo l.length l
theorem nmGo_nil : ∀ n, nmGo n [] = true
  | 0 => rfl
  | _ + 1 => by simp [nmGo]
theorem nmGo_fuel : ∀ (n m : Nat) (l : List UInt8), l.length ≤ n → l.length ≤ m → nmGo n l = nmGo m l
  | 0, m, l, hn, _ => by
    have : l = [] := List.eq_nil_of_length_eq_zero (by omega)
    subst this
    rw [nmGo_nil, nmGo_nil]
  | n + 1, 0, l, _, hm => by
    have : l = [] := List.eq_nil_of_length_eq_zero (by omega)
    subst this
    rw [nmGo_nil, nmGo_nil]
  | n + 1, m + 1, l, hn, hm => by
    unfold nmGo
    by_cases hne : l = []
    · simp [hne]
    · have hw := decodeL_width l
      have hl : 0 < l.length := List.length_pos_iff.2 hne
      rw [if_neg hne, if_neg hne, nmGo_fuel n m (l.drop (decodeL l).2) (by rw [List.length_drop]; omega) (by rw [List.length_drop]; omega)]
theorem nmR_nil : nmR [] = true := rfl
theorem nmR_step (l : List UInt8) (hne : l ≠ []) : nmR l = (nmRune (decodeL l).1 && nmR (l.drop (decodeL l).2)) := by
  have hl : 0 < l.length := List.length_pos_iff.2 hne
  have hw := decodeL_width l
  obtain ⟨n, hn⟩ : ∃ n, l.length = n + 1 := ⟨l.length - 1, by omega⟩
  unfold nmR
  rw [hn]
  show (if l = [] then true else _) = _
  rw [if_neg hne, nmGo_fuel n (l.drop (decodeL l).2).length _ (by rw [List.length_drop]; omega) (Nat.le_refl _)]
/-- what names may have is valid -/
theorem valid_of_nm (n : Nat) : ∀ l : List UInt8, l.length ≤ n → nmR l = true → validD l = true := by
  induction n with
  | zero =>
    intro l hn _
    have : l = [] := List.eq_nil_of_length_eq_zero (by omega)
    subst this; exact validD_nil
  | succ n ih =>
    intro l hn h
    by_cases hne : l = []
    · subst hne; exact validD_nil
    · have hl : 0 < l.length := List.length_pos_iff.2 hne
      have hw := decodeL_width l
      rw [nmR_step l hne, Bool.and_eq_true] at h
      rw [validD_step l hne, if_neg (by
        rintro ⟨h1, _⟩
        rw [h1] at h
        exact absurd h.1 (by decide))]
      exact ih _ (by rw [List.length_drop]; omega) h.2
/-- may it be a name? -/
def nmB (s : ByteArray) : Bool := decide (1 ≤ s.size ∧ s.size ≤ 16) && nmR s.data.toList
/-- the runes from a place on -/
def nmFrom (s : ByteArray) (pos : Nat) : Bool := nmR (s.data.toList.drop pos)
theorem nmFrom_zero (s : ByteArray) : nmFrom s 0 = nmR s.data.toList := by simp [nmFrom]
theorem nmFrom_end (s : ByteArray) (pos : Nat) (h : s.size ≤ pos) : nmFrom s pos = true := by
  unfold nmFrom
  rw [List.drop_eq_nil_of_le (by simpa using h)]
  rfl
theorem nmFrom_step (s : ByteArray) (pos : Nat) (h : pos < s.size) : nmFrom s pos = (nmRune (Utf8.decode s pos).1 && nmFrom s (pos + (Utf8.decode s pos).2)) := by
  unfold nmFrom
  rw [nmR_step _ (by simp; exact h), decodeL_drop, List.drop_drop]
theorem dec_width (s : ByteArray) (pos : Nat) : 1 ≤ (Utf8.decode s pos).2 := by rw [← decodeL_drop]; exact decodeL_width _
theorem dec_rune (s : ByteArray) (pos : Nat) : (Utf8.decode s pos).1 ≤ 1114111 := by rw [← decodeL_drop]; exact decodeL_rune _

def kindB (k : Int) : Bool := decide (1 ≤ k ∧ k ≤ 4)
def inB (n lo hi : Int) : Bool := decide (lo ≤ n ∧ n ≤ hi)
def kindsB (L : List Int) (most : Int) : Bool := decide ((L.length : Int) ≤ most) && L.all kindB
def callB (ps : List Int) (r : Int) : Bool := kindsB ps 4 && (r == 0 || kindB r)
def impB (m : ImpM) : Bool := nmB m.name && (inB m.exp 0 3 && callB m.params m.res)
def metB (q : InsM → Bool) (m : MetM) : Bool := callB m.params m.res && (kindsB m.locals (10 - m.params.length) && (decide (0 < m.code.length) && (decide (m.code.length ≤ 120) && m.code.all q)))
def firstB (L : List MetM) : Bool := decide ((L.getD 0 default).params.length = 0) && ((L.getD 0 default).res == 0)
def expB (n : Nat) (k : Int) : Bool := inB k 0 ((n : Int) - 1)
def imgB (q : InsM → Bool) (I : ImgM) : Bool :=
  nmB I.name && (kindsB I.fields 8 && ((decide (I.imports.length ≤ 4) && I.imports.all impB) && (decide (0 < I.methods.length) && ((decide (I.methods.length ≤ 8) && I.methods.all (metB q)) && (firstB I.methods && (decide (I.exports.length ≤ 4) && I.exports.all (expB I.methods.length)))))))
end Go.Proofs.YthnjlopfmakdmaaDoor

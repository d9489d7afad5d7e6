/- What images are, plainly; and when a value in memory reads as one. No program is named here. Which images are right, plainly; runes of a name. No program is named here. -/
import Derived.Test.YtkleofpiikbpmaaBase
import Derived.Lib.ValidLaws
namespace Go.Proofs.Ytkleofpiikbpmaa
section
open Go.RowKit
set_option linter.unusedVariables false

def wi64 (n : Int) : Prop := -9223372036854775808 ≤ n ∧ n ≤ 9223372036854775807

structure InsM where
  op : Int
  a : Int
  b : Int
deriving DecidableEq, Inhabited
structure ImpM where
  name : ByteArray
  exp : Int
  params : List Int
  res : Int
instance : Inhabited ImpM := ⟨⟨{ data := #[] }, 0, [], 0⟩⟩
structure MetM where
  params : List Int
  res : Int
  locals : List Int
  code : List InsM
instance : Inhabited MetM := ⟨⟨[], 0, [], []⟩⟩
structure ImgM where
  name : ByteArray
  fields : List Int
  imports : List ImpM
  methods : List MetM
  exports : List Int
instance : Inhabited ImgM := ⟨⟨{ data := #[] }, [], [], [], []⟩⟩

/-- a slice whose elements have sz cells each: cell j of element i is f i j -/
def Sl (w : World) (v : Value) (sz n : Nat) (f : Nat → Nat → Value) : Prop :=
  ∃ a c, v = .slice a n c ∧ n ≤ c ∧ c ≤ maxLen ∧ (n = 0 ∨ ∃ g off, a = some ⟨g, off, none⟩ ∧ ∀ i, i < n → ∀ j, j < sz → w.cell? ⟨g, off + i * sz + j, none⟩ = some (f i j))

section
variable {w w' W : World} {v : Value} {sz n : Nat} {f : Nat → Nat → Value}
theorem Sl.below {B : Nat} (h : Sl w v sz n f) (hb : Below B w w') (hlt : ∀ g off l c, v = .slice (some ⟨g, off, none⟩) l c → 0 < n → g < B) : Sl w' v sz n f := by
  obtain ⟨a, c, rfl, h1, h2, h3⟩ := h
  refine ⟨a, c, rfl, h1, h2, ?_⟩
  rcases h3 with h3 | ⟨g, off, rfl, h4⟩
  · exact .inl h3
  · rcases Nat.eq_zero_or_pos n with h0 | h0
    · exact .inl h0
    · refine .inr ⟨g, off, rfl, fun i hi j hj => ?_⟩
      rw [hb.cell (p := ⟨g, off + i * sz + j, none⟩) (hlt g off n c rfl h0)]
      exact h4 i hi j hj
theorem Sl.later (h : Sl W v sz n f) (hb : Below W.heap.size W w) : Sl w v sz n f := by
  obtain ⟨a, c, rfl, h1, h2, h3⟩ := h
  refine ⟨a, c, rfl, h1, h2, ?_⟩
  rcases h3 with h3 | ⟨g, off, rfl, h4⟩
  · exact .inl h3
  · refine .inr ⟨g, off, rfl, fun i hi j hj => ?_⟩
    have hc := h4 i hi j hj
    rw [hb.cell (p := ⟨g, off + i * sz + j, none⟩) (World.block_lt_of_cell? W _ hc)]
    exact hc
theorem Sl.congr {f' : Nat → Nat → Value} (h : Sl w v sz n f) (he : ∀ i, i < n → ∀ j, j < sz → f i j = f' i j) : Sl w v sz n f' := by
  obtain ⟨a, c, rfl, h1, h2, h3⟩ := h
  refine ⟨a, c, rfl, h1, h2, ?_⟩
  rcases h3 with h3 | ⟨g, off, rfl, h4⟩
  · exact .inl h3
  · exact .inr ⟨g, off, rfl, fun i hi j hj => by rw [← he i hi j hj]; exact h4 i hi j hj⟩
theorem Sl.slice (h : Sl w v sz n f) : ∃ a c, v = .slice a n c ∧ n ≤ c ∧ c ≤ maxLen := by
  obtain ⟨a, c, rfl, h1, h2, h3⟩ := h
  exact ⟨a, c, rfl, h1, h2⟩
/-- element k -/
theorem Sl.at {a : Option Addr} {l c k : Nat} (h : Sl w (.slice a l c) sz n f) (hk : k < n) : ∃ g off, a = some ⟨g, off, none⟩ ∧ ∀ j, j < sz → w.cell? ⟨g, off + k * sz + j, none⟩ = some (f k j) := by
  obtain ⟨a', c', he, h1, h2, h3⟩ := h
  simp at he
  obtain ⟨rfl, rfl, rfl⟩ := he
  rcases h3 with h3 | ⟨g, off, rfl, h4⟩
  · omega
  · exact ⟨g, off, rfl, h4 k hk⟩
theorem Sl.nil (w : World) (sz : Nat) (f : Nat → Nat → Value) : Sl w (.slice none 0 0) sz 0 f := ⟨none, 0, rfl, Nat.le_refl _, by unfold maxLen; omega, .inl rfl⟩
/-- an own row reads so -/
theorem Sl.own {base : Nat} {e : TypeId} {n : Nat} {xs : List Value} (h : w.ownsRow base e sz v n xs) : Sl w v sz n (fun i j => xs.getD (i * sz + j) (.int .i64 0)) := by
  obtain ⟨hl, h⟩ := h
  rcases h with ⟨rfl, rfl⟩ | ⟨g, cap, cur, rfl, hb, hg, hc, hm, hcs, ht⟩
  · exact Sl.nil _ _ _
  · have hown : w.ownsRow base e sz (.slice (some ⟨g, 0, none⟩) n cap) n xs := ⟨hl, .inr ⟨g, cap, cur, rfl, hb, hg, hc, hm, hcs, ht⟩⟩
    refine ⟨_, cap, rfl, hc, hm, .inr ⟨g, 0, rfl, fun i hi j hj => ?_⟩⟩
    have hlt : i * sz + j < xs.length := by
      rw [hl]
      have : (i + 1) * sz ≤ n * sz := Nat.mul_le_mul_right _ hi
      rw [Nat.add_mul] at this
      omega
    have := hown.cells (g := g) rfl (i * sz + j) (xs[i * sz + j]) (by simp [hlt])
    rw [addr_add] at this
    rw [Nat.zero_add] at this ⊢
    simpa [List.getD, hlt] using this
/-- a literal slice, in a new block -/
theorem Sl.lit (w : World) (e : TypeId) (fr : Nat × Nat) (C : Array Value) (sz n c : Nat) (hC : n * sz ≤ C.size) (hc : n ≤ c) (hm : c ≤ maxLen) : Sl (w.alloc (.cells C e fr)) (.slice (some ⟨w.heap.size, 0, none⟩) n c) sz n (fun i j => C.getD (i * sz + j) (.int .i64 0)) := by
  refine ⟨_, c, rfl, hc, hm, .inr ⟨_, 0, rfl, fun i hi j hj => ?_⟩⟩
  have hlt : i * sz + j < C.size := by
    have : (i + 1) * sz ≤ n * sz := Nat.mul_le_mul_right _ hi
    rw [Nat.add_mul] at this
    omega
  show (match (w.heap.push _)[w.heap.size]? with | some (.cells c _ _) => _ | _ => _) = _
  simp [hlt]
end

/-- numbers -/
def Ints (w : World) (v : Value) (L : List Int) : Prop := Sl w v 1 L.length (fun i _ => .int .i64 (L.getD i 0)) ∧ ∀ n ∈ L, wi64 n
/-- instructions -/
def insF (L : List InsM) (i j : Nat) : Value := .int .i64 (if j = 0 then (L.getD i default).op else if j = 1 then (L.getD i default).a else (L.getD i default).b)
def Inss (w : World) (v : Value) (L : List InsM) : Prop := Sl w v 3 L.length (insF L) ∧ ∀ x ∈ L, wi64 x.op ∧ wi64 x.a ∧ wi64 x.b
/-- imports, methods: what a list in one is, stands in p and q -/
def impF (L : List ImpM) (p : Nat → Value) (i j : Nat) : Value := if j = 0 then .string (L.getD i default).name else if j = 1 then .int .i64 (L.getD i default).exp else if j = 2 then p i else .int .i64 (L.getD i default).res
def Imps (w : World) (v : Value) (L : List ImpM) : Prop := ∃ p, Sl w v 4 L.length (impF L p) ∧ (∀ i, i < L.length → Ints w (p i) (L.getD i default).params) ∧ ∀ x ∈ L, wi64 x.exp ∧ wi64 x.res ∧ x.name.size ≤ maxLen
def metF (L : List MetM) (p q r : Nat → Value) (i j : Nat) : Value := if j = 0 then p i else if j = 1 then .int .i64 (L.getD i default).res else if j = 2 then q i else r i
def Mets (w : World) (v : Value) (L : List MetM) : Prop := ∃ p q r, Sl w v 4 L.length (metF L p q r) ∧ (∀ i, i < L.length → Ints w (p i) (L.getD i default).params ∧ Ints w (q i) (L.getD i default).locals ∧ Inss w (r i) (L.getD i default).code) ∧ ∀ x ∈ L, wi64 x.res

abbrev img5 (s : ByteArray) (f i m x : Value) : Value := .agg #[.string s, f, i, m, x]
/-- an image, by value -/
def Img (w : World) (v : Value) (I : ImgM) : Prop := ∃ f i m x, v = img5 I.name f i m x ∧ Ints w f I.fields ∧ Imps w i I.imports ∧ Mets w m I.methods ∧ Ints w x I.exports ∧ I.name.size ≤ maxLen
abbrev imp4 (s : ByteArray) (e : Int) (p : Value) (r : Int) : Value := .agg #[.string s, .int .i64 e, p, .int .i64 r]
abbrev met4 (p : Value) (r : Int) (l c : Value) : Value := .agg #[p, .int .i64 r, l, c]
def Imp (w : World) (v : Value) (m : ImpM) : Prop := ∃ p, v = imp4 m.name m.exp p m.res ∧ Ints w p m.params ∧ wi64 m.exp ∧ wi64 m.res ∧ m.name.size ≤ maxLen
def Met (w : World) (v : Value) (m : MetM) : Prop := ∃ p l c, v = met4 p m.res l c ∧ Ints w p m.params ∧ Ints w l m.locals ∧ Inss w c m.code ∧ wi64 m.res

section
variable {W w : World} {v : Value}
theorem Ints.later {L : List Int} (h : Ints W v L) (hb : Below W.heap.size W w) : Ints w v L := ⟨h.1.later hb, h.2⟩
theorem Inss.later {L : List InsM} (h : Inss W v L) (hb : Below W.heap.size W w) : Inss w v L := ⟨h.1.later hb, h.2⟩
theorem Imps.later {L : List ImpM} (h : Imps W v L) (hb : Below W.heap.size W w) : Imps w v L := by
  obtain ⟨p, h1, h2, h3⟩ := h
  exact ⟨p, h1.later hb, fun i hi => (h2 i hi).later hb, h3⟩
theorem Mets.later {L : List MetM} (h : Mets W v L) (hb : Below W.heap.size W w) : Mets w v L := by
  obtain ⟨p, q, r, h1, h2, h3⟩ := h
  exact ⟨p, q, r, h1.later hb, fun i hi => ⟨(h2 i hi).1.later hb, (h2 i hi).2.1.later hb, (h2 i hi).2.2.later hb⟩, h3⟩
theorem Img.later {I : ImgM} (h : Img W v I) (hb : Below W.heap.size W w) : Img w v I := by
  obtain ⟨f, i, m, x, rfl, h1, h2, h3, h4, h5⟩ := h
  exact ⟨f, i, m, x, rfl, h1.later hb, h2.later hb, h3.later hb, h4.later hb, h5⟩
theorem Imp.later {I : ImpM} (h : Imp W v I) (hb : Below W.heap.size W w) : Imp w v I := by
  obtain ⟨p, rfl, h1, h2⟩ := h
  exact ⟨p, rfl, h1.later hb, h2⟩
theorem Met.later {I : MetM} (h : Met W v I) (hb : Below W.heap.size W w) : Met w v I := by
  obtain ⟨p, l, c, rfl, h1, h2, h3, h4⟩ := h
  exact ⟨p, l, c, rfl, h1.later hb, h2.later hb, h3.later hb, h4⟩
theorem Ints.slice {L : List Int} (h : Ints w v L) : ∃ a c, v = .slice a L.length c ∧ L.length ≤ c ∧ c ≤ maxLen := h.1.slice
theorem Inss.slice {L : List InsM} (h : Inss w v L) : ∃ a c, v = .slice a L.length c ∧ L.length ≤ c ∧ c ≤ maxLen := h.1.slice
theorem Imps.slice {L : List ImpM} (h : Imps w v L) : ∃ a c, v = .slice a L.length c ∧ L.length ≤ c ∧ c ≤ maxLen := by
  obtain ⟨p, h1, _⟩ := h
  exact h1.slice
theorem Mets.slice {L : List MetM} (h : Mets w v L) : ∃ a c, v = .slice a L.length c ∧ L.length ≤ c ∧ c ≤ maxLen := by
  obtain ⟨p, q, r, h1, _⟩ := h
  exact h1.slice
variable {a : Option Addr} {l c k : Nat}
theorem mem_getD {α : Type} [Inhabited α] {L : List α} {k : Nat} (hk : k < L.length) : L.getD k default ∈ L := by
  simp [List.getD, hk]
theorem mem_getD0 {L : List Int} {k : Nat} (hk : k < L.length) : L.getD k 0 ∈ L := by
  simp [List.getD, hk]
theorem Ints.at {L : List Int} (h : Ints w (.slice a l c) L) (hk : k < L.length) : ∃ g off, a = some ⟨g, off, none⟩ ∧ w.cell? ⟨g, off + k, none⟩ = some (.int .i64 (L.getD k 0)) ∧ wi64 (L.getD k 0) := by
  obtain ⟨g, off, rfl, h1⟩ := h.1.at hk
  have := h1 0 (by omega)
  rw [Nat.mul_one, Nat.add_zero] at this
  exact ⟨g, off, rfl, this, h.2 _ (mem_getD0 hk)⟩
theorem Inss.at {L : List InsM} (h : Inss w (.slice a l c) L) (hk : k < L.length) : ∃ g off, a = some ⟨g, off, none⟩ ∧ w.cell? ⟨g, off + k * 3, none⟩ = some (.int .i64 (L.getD k default).op) ∧ w.cell? ⟨g, off + k * 3 + 1, none⟩ = some (.int .i64 (L.getD k default).a) ∧ w.cell? ⟨g, off + k * 3 + 2, none⟩ = some (.int .i64 (L.getD k default).b) ∧ wi64 (L.getD k default).op ∧ wi64 (L.getD k default).a ∧ wi64 (L.getD k default).b := by
  obtain ⟨g, off, rfl, h1⟩ := h.1.at hk
  exact ⟨g, off, rfl, h1 0 (by omega), h1 1 (by omega), h1 2 (by omega), h.2 _ (mem_getD hk)⟩
theorem Imps.at {L : List ImpM} (h : Imps w (.slice a l c) L) (hk : k < L.length) : ∃ g off p, a = some ⟨g, off, none⟩ ∧ w.cell? ⟨g, off + k * 4, none⟩ = some (.string (L.getD k default).name) ∧ w.cell? ⟨g, off + k * 4 + 1, none⟩ = some (.int .i64 (L.getD k default).exp) ∧ w.cell? ⟨g, off + k * 4 + 2, none⟩ = some p ∧ w.cell? ⟨g, off + k * 4 + 3, none⟩ = some (.int .i64 (L.getD k default).res) ∧
    Ints w p (L.getD k default).params ∧ wi64 (L.getD k default).exp ∧ wi64 (L.getD k default).res ∧ (L.getD k default).name.size ≤ maxLen := by
  obtain ⟨p, h0, h2, h3⟩ := h
  obtain ⟨g, off, rfl, h1⟩ := h0.at hk
  exact ⟨g, off, p k, rfl, h1 0 (by omega), h1 1 (by omega), h1 2 (by omega), h1 3 (by omega), h2 k hk, h3 _ (mem_getD hk)⟩
theorem Mets.at {L : List MetM} (h : Mets w (.slice a l c) L) (hk : k < L.length) : ∃ g off p q r, a = some ⟨g, off, none⟩ ∧ w.cell? ⟨g, off + k * 4, none⟩ = some p ∧ w.cell? ⟨g, off + k * 4 + 1, none⟩ = some (.int .i64 (L.getD k default).res) ∧ w.cell? ⟨g, off + k * 4 + 2, none⟩ = some q ∧ w.cell? ⟨g, off + k * 4 + 3, none⟩ = some r ∧
    Ints w p (L.getD k default).params ∧ Ints w q (L.getD k default).locals ∧ Inss w r (L.getD k default).code ∧ wi64 (L.getD k default).res := by
  obtain ⟨p, q, r, h0, h2, h3⟩ := h
  obtain ⟨g, off, rfl, h1⟩ := h0.at hk
  exact ⟨g, off, p k, q k, r k, rfl, h1 0 (by omega), h1 1 (by omega), h1 2 (by omega), h1 3 (by omega), (h2 k hk).1, (h2 k hk).2.1, (h2 k hk).2.2, h3 _ (mem_getD hk)⟩
end
end

section
open Go.RowKit Go.Lib
set_option linter.unusedVariables false

/-- may a name have this rune? -/
def nmRune (r : Nat) : Bool := decide (97 ≤ r ∧ r ≤ 122) || (decide (48 ≤ r ∧ r ≤ 57) || (decide (r = 45) || (decide (r = 46) || decide (224 ≤ r ∧ r ≤ 255))))
def nmGo : Nat → List UInt8 → Bool
  | 0, _ => true
  | n + 1, l => if l = [] then true else nmRune (decodeL l).1 && nmGo n (l.drop (decodeL l).2)
/-- each rune of it may stand in a name -/
def nmR (l : List UInt8) : Bool := nmGo l.length l
theorem nmGo_nil : ∀ n, nmGo n [] = true
  | 0 => rfl
  | _ + 1 => by simp [nmGo]
theorem nmGo_fuel : ∀ (n m : Nat) (l : List UInt8), l.length ≤ n → l.length ≤ m → nmGo n l = nmGo m l
  | 0, m, l, hn, _ => by
    have : l = [] := List.eq_nil_of_length_eq_zero (by omega)
    subst this
    rw [nmGo_nil, nmGo_nil]
  | n + 1, 0, l, _, hm => by
    have : l = [] := List.eq_nil_of_length_eq_zero (by omega)
    subst this
    rw [nmGo_nil, nmGo_nil]
  | n + 1, m + 1, l, hn, hm => by
    unfold nmGo
    by_cases hne : l = []
    · simp [hne]
    · have hw := decodeL_width l
      have hl : 0 < l.length := List.length_pos_iff.2 hne
      rw [if_neg hne, if_neg hne, nmGo_fuel n m (l.drop (decodeL l).2) (by rw [List.length_drop]; omega) (by rw [List.length_drop]; omega)]
theorem nmR_nil : nmR [] = true := rfl
theorem nmR_step (l : List UInt8) (hne : l ≠ []) : nmR l = (nmRune (decodeL l).1 && nmR (l.drop (decodeL l).2)) := by
  have hl : 0 < l.length := List.length_pos_iff.2 hne
  have hw := decodeL_width l
  obtain ⟨n, hn⟩ : ∃ n, l.length = n + 1 := ⟨l.length - 1, by omega⟩
  unfold nmR
  rw [hn]
  show (if l = [] then true else _) = _
  rw [if_neg hne, nmGo_fuel n (l.drop (decodeL l).2).length _ (by rw [List.length_drop]; omega) (Nat.le_refl _)]
/-- what names may have is valid -/
theorem valid_of_nm (n : Nat) : ∀ l : List UInt8, l.length ≤ n → nmR l = true → validD l = true := by
  induction n with
  | zero =>
    intro l hn _
    have : l = [] := List.eq_nil_of_length_eq_zero (by omega)
    subst this; exact validD_nil
  | succ n ih =>
    intro l hn h
    by_cases hne : l = []
    · subst hne; exact validD_nil
    · have hl : 0 < l.length := List.length_pos_iff.2 hne
      have hw := decodeL_width l
      rw [nmR_step l hne, Bool.and_eq_true] at h
      rw [validD_step l hne, if_neg (by
        rintro ⟨h1, _⟩
        rw [h1] at h
        exact absurd h.1 (by decide))]
      exact ih _ (by rw [List.length_drop]; omega) h.2
/-- may it be a name? -/
def nmB (s : ByteArray) : Bool := decide (1 ≤ s.size ∧ s.size ≤ 16) && nmR s.data.toList
/-- the runes from a place on -/
def nmFrom (s : ByteArray) (pos : Nat) : Bool := nmR (s.data.toList.drop pos)
theorem nmFrom_zero (s : ByteArray) : nmFrom s 0 = nmR s.data.toList := by simp [nmFrom]
theorem nmFrom_end (s : ByteArray) (pos : Nat) (h : s.size ≤ pos) : nmFrom s pos = true := by
  unfold nmFrom
  rw [List.drop_eq_nil_of_le (by simpa using h)]
  rfl
theorem nmFrom_step (s : ByteArray) (pos : Nat) (h : pos < s.size) : nmFrom s pos = (nmRune (Utf8.decode s pos).1 && nmFrom s (pos + (Utf8.decode s pos).2)) := by
  unfold nmFrom
  rw [nmR_step _ (by simp; exact h), decodeL_drop, List.drop_drop]
theorem dec_width (s : ByteArray) (pos : Nat) : 1 ≤ (Utf8.decode s pos).2 := by rw [← decodeL_drop]; exact decodeL_width _
theorem dec_rune (s : ByteArray) (pos : Nat) : (Utf8.decode s pos).1 ≤ 1114111 := by rw [← decodeL_drop]; exact decodeL_rune _

def kindB (k : Int) : Bool := decide (1 ≤ k ∧ k ≤ 4)
def inB (n lo hi : Int) : Bool := decide (lo ≤ n ∧ n ≤ hi)
def kindsB (L : List Int) (most : Int) : Bool := decide ((L.length : Int) ≤ most) && L.all kindB
def callB (ps : List Int) (r : Int) : Bool := kindsB ps 4 && (r == 0 || kindB r)
def impB (m : ImpM) : Bool := nmB m.name && (inB m.exp 0 3 && callB m.params m.res)
def metB (q : InsM → Bool) (m : MetM) : Bool := callB m.params m.res && (kindsB m.locals (10 - m.params.length) && (decide (0 < m.code.length) && (decide (m.code.length ≤ 120) && m.code.all q)))
def firstB (L : List MetM) : Bool := decide ((L.getD 0 default).params.length = 0) && ((L.getD 0 default).res == 0)
def expB (n : Nat) (k : Int) : Bool := inB k 0 ((n : Int) - 1)
def imgB (q : InsM → Bool) (I : ImgM) : Bool :=
  nmB I.name && (kindsB I.fields 8 && ((decide (I.imports.length ≤ 4) && I.imports.all impB) && (decide (0 < I.methods.length) && ((decide (I.methods.length ≤ 8) && I.methods.all (metB q)) && (firstB I.methods && (decide (I.exports.length ≤ 4) && I.exports.all (expB I.methods.length)))))))
end
end Go.Proofs.Ytkleofpiikbpmaa

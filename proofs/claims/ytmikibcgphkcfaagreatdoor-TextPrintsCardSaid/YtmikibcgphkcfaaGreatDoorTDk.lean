/- Package text, plainly: what is printed is parsed again. Package text, plainly: each line of an image is taken; all of them; with notes between; a wrong one among them. Package text: how long an image's lines are; lines counted; a line put between. -/
import Derived.Test.YtmikibcgphkcfaaGreatDoorTAk
import Derived.Test.YtmikibcgphkcfaaGreatDoorKTt
namespace Go.Proofs.YtmikibcgphkcfaaGreatDoor
section
open Go.RowKit Go.Lib
set_option linter.unusedVariables false
set_option linter.unusedSimpArgs false

/-- a byte of a word -/
def wb8 (b : UInt8) : Bool := b != 32 && (b != 35 && b != 10)
def Wd (x : By) : Prop := x ≠ [] ∧ x.all wb8 = true
instance (x : By) : Decidable (Wd x) := by unfold Wd; infer_instance
/-- words behind one another, a blank ahead of each -/
def tl : List By → By
  | [] => []
  | x :: xs => 32 :: (x ++ tl xs)
theorem tl_app : ∀ (a b : List By), tl (a ++ b) = tl a ++ tl b
  | [], b => rfl
  | x :: xs, b => by
    show 32 :: (x ++ tl (xs ++ b)) = 32 :: (x ++ tl xs) ++ tl b
    rw [tl_app xs b]
    simp
theorem join_tl : ∀ (x : By) (xs : List By), joinB (x :: xs) = x ++ tl xs
  | x, [] => by
    have e : joinB [x] = x := Lib.join_one x [32]
    rw [e]
    simp [tl]
  | x, y :: r => by rw [join_cons, join_tl y r]; rfl
theorem wb8_of {b : UInt8} (h : wb8 b = true) : (b != 32) = true ∧ (b != 35) = true ∧ (b != 10) = true := by
  unfold wb8 at h
  simp only [Bool.and_eq_true] at h
  exact h
theorem ahead_word {x : By} (hx : Wd x) (xs : List By) : ahead 32 (x ++ tl xs) = x ∧ behind 32 (x ++ tl xs) = tl xs := by
  have h1 : ∀ b ∈ x, (b != 32) = true := fun b hb => (wb8_of (List.all_eq_true.1 hx.2 b hb)).1
  unfold ahead behind
  rw [List.takeWhile_append_of_pos h1, List.dropWhile_append_of_pos h1]
  cases xs with
  | nil => simp [tl]
  | cons y r => simp [tl]
theorem next_word {x : By} (hx : Wd x) (xs : List By) : nextP (x ++ tl xs) = (x, tl xs) := by
  have h : (x ++ tl xs).dropWhile (fun b => b == 32) = x ++ tl xs := by
    obtain ⟨hne, ha⟩ := hx
    cases x with
    | nil => exact absurd rfl hne
    | cons b r =>
      have := (wb8_of (List.all_eq_true.1 ha b (by simp))).1
      rw [List.cons_append, List.dropWhile_cons_of_neg (by simpa using this)]
  unfold nextP
  rw [h, (ahead_word hx xs).1, (ahead_word hx xs).2]
theorem next_blank (l : By) : nextP (32 :: l) = nextP l := by
  unfold nextP
  rw [List.dropWhile_cons_of_pos (by simp)]
theorem next_tl {x : By} (hx : Wd x) (xs : List By) : nextP (tl (x :: xs)) = (x, tl xs) := by
  show nextP (32 :: (x ++ tl xs)) = _
  rw [next_blank, next_word hx]
theorem empty_nil : emptyP [] = true := rfl
theorem empty_tl {x : By} (hx : Wd x) (xs : List By) : emptyP (tl (x :: xs)) = false := by
  unfold emptyP
  rw [next_tl hx]
  simpa using hx.1
theorem plain_all {l : By} (h : ∀ b ∈ l, (b != 35) = true) : plainP l = l := by
  have := List.takeWhile_append_of_pos (l₂ := []) h
  simpa [plainP, ahead] using this
theorem plain_blank (l : By) : plainP (32 :: l) = 32 :: plainP l := by
  unfold plainP ahead
  rw [List.takeWhile_cons_of_pos (by decide)]
theorem takeD_blank (D : DrM) (l : By) : takeD D (32 :: l) = takeD D l := by
  unfold takeD emptyP
  rw [plain_blank, next_blank]
theorem takeD_blanks (D : DrM) (l : By) : ∀ k, takeD D (List.replicate k 32 ++ l) = takeD D l
  | 0 => rfl
  | k + 1 => by rw [List.replicate_succ, List.cons_append, takeD_blank, takeD_blanks D l k]
theorem tl_bytes : ∀ {xs : List By}, (∀ x ∈ xs, Wd x) → ∀ b ∈ tl xs, (b != 35) = true ∧ (b != 10) = true
  | [], _, b, hb => by simp [tl] at hb
  | x :: xs, h, b, hb => by
    have h1 : b = 32 ∨ b ∈ x ∨ b ∈ tl xs := by simpa [tl] using hb
    rcases h1 with rfl | h1 | h1
    · decide
    · exact (wb8_of (List.all_eq_true.1 (h x (by simp)).2 b h1)).2
    · exact tl_bytes (fun y hy => h y (by simp [hy])) b h1
theorem line_bytes {x : By} {xs : List By} (hx : Wd x) (h : ∀ y ∈ xs, Wd y) : ∀ b ∈ x ++ tl xs, (b != 35) = true ∧ (b != 10) = true := fun b hb => by
  rcases List.mem_append.1 hb with hb | hb
  · exact (wb8_of (List.all_eq_true.1 hx.2 b hb)).2
  · exact tl_bytes h b hb
theorem takeD_words (D : DrM) {x : By} {xs : List By} (hx : Wd x) (h : ∀ y ∈ xs, Wd y) : takeD D (x ++ tl xs) = lineP D x (tl xs) := by
  have hp : plainP (x ++ tl xs) = x ++ tl xs := plain_all fun b hb => (line_bytes hx h b hb).1
  unfold takeD
  rw [hp, next_word hx]
  have : emptyP (x ++ tl xs) = false := by
    unfold emptyP
    rw [next_word hx]
    simpa using hx.1
  rw [this]

theorem kind_word {k : Int} (h : 0 ≤ k ∧ k ≤ 4) : Wd (kindT k) ∧ kindP (kindT k) = k := by
  rcases (by omega : k = 0 ∨ k = 1 ∨ k = 2 ∨ k = 3 ∨ k = 4) with rfl | rfl | rfl | rfl | rfl <;> exact ⟨by decide +kernel, by kernel_rfl⟩
theorem num_word {x : By} {n : Int} (hn : numP x = (n, true)) (hx : Wd x) (xs : List By) : numW (tl (x :: xs), false) = (n, (tl xs, false)) := by
  unfold numW
  rw [next_tl hx, hn]
  rfl
theorem res_word {k : Int} (h : 0 ≤ k ∧ k ≤ 4) (xs : List By) : resW (tl (kindT k :: xs), false) = (k, (tl xs, false)) := by
  unfold resW
  rw [next_tl (kind_word h).1, (kind_word h).2]
  simp [h.1]
theorem kind1_word {k : Int} (h : 1 ≤ k ∧ k ≤ 4) (xs : List By) : kindW (tl (kindT k :: xs), false) = (k, (tl xs, false)) := by
  unfold kindW
  rw [res_word (by omega)]
  have : (k != 0) = true := by simp; omega
  simp [this]
theorem name_word {x : By} (hn : nmB (bs x) = true) (hx : Wd x) (xs : List By) : nameW (tl (x :: xs), false) = (x, (tl xs, false)) := by
  unfold nameW
  rw [next_tl hx, hn]
theorem kinds_words (most : Int) : ∀ (ks : List Int) (f : Nat) (L : List Int), (∀ k ∈ ks, 1 ≤ k ∧ k ≤ 4) → ((L.length + ks.length : Nat) : Int) ≤ most + 1 → ks.length < f →
    kindsGo f most L (tl (ks.map kindT), false) = (L ++ ks, ([], false))
  | [], 0, _, _, _, hf => by simp at hf
  | [], f + 1, L, _, _, _ => by
    rw [kinds_stop (by rfl)]
    simp [tl]
  | k :: ks, 0, _, _, _, hf => by simp at hf
  | k :: ks, f + 1, L, h, hm, hf => by
    have hk := h k (by simp)
    rw [List.map_cons, kinds_on (by rw [empty_tl (kind_word (by omega)).1]; rfl), kind1_word hk, addL_yes (by simp at hm ⊢; omega)]
    rw [kinds_words most ks f (L ++ [k]) (fun j hj => h j (by simp [hj])) (by simp at hm ⊢; omega) (by simpa using hf)]
    simp
theorem kinds_all {L : List Int} {n : Int} (h : kindsB L n = true) : ∀ k ∈ L, 1 ≤ k ∧ k ≤ 4 := by
  unfold kindsB at h
  simp only [Bool.and_eq_true, List.all_eq_true] at h
  intro k hk
  have := h.2 k hk
  simpa [kindB] using this
theorem tl_len : ∀ xs : List By, xs.length ≤ (tl xs).length
  | [] => Nat.le_refl _
  | x :: xs => by
    have := tl_len xs
    simp [tl]
    omega
theorem kindsW_words {most : Int} {ks : List Int} (h : kindsB ks most = true) : kindsW most (tl (ks.map kindT), false) = (ks, ([], false)) := by
  have hl := kinds_le h
  have h2 := tl_len (ks.map kindT)
  rw [List.length_map] at h2
  unfold kindsW
  rw [kinds_words most ks _ [] (kinds_all h) (by simp; omega) (by simp; omega)]
  rfl
theorem kinds_Wd {L : List Int} (h : ∀ k ∈ L, 1 ≤ k ∧ k ≤ 4) : ∀ y ∈ L.map kindT, Wd y := fun y hy => by
  obtain ⟨k, hk, rfl⟩ := List.mem_map.1 hy
  have := h k hk
  exact (kind_word (by omega)).1
theorem callT_tl (ps : List Int) (r : Int) : callT ps r = kindT r ++ tl (ps.map kindT) := by
  unfold callT
  cases ps with
  | nil => simp [tl]
  | cons p ps =>
    show kindT r ++ 32 :: joinB ((p :: ps).map kindT) = _
    rw [List.map_cons, join_tl]
    rfl
/-- names are words -/
theorem nm_free (c : Nat) (hc : c < 128) (hr : nmRune c = false) (l : By) : ∀ (n pos : Nat), l.length - pos ≤ n → nmFrom (bs l) pos = true → ∀ j, pos ≤ j → j < l.length → byAt l j ≠ c := by
  intro n
  induction n with
  | zero => intro pos hn _ j h1 h2; omega
  | succ n ih =>
    intro pos hn h j h1 h2
    obtain ⟨s1, s2, s3⟩ := scan_step l pos c (by omega) hc
    rw [nmFrom_step (bs l) pos (by rw [bs_size]; omega), Bool.and_eq_true] at h
    rcases s3 with ⟨_, e, _⟩ | ⟨_, e⟩
    · rw [e, hr] at h
      exact absurd h.1 (by decide)
    · by_cases hj : j < pos + (Utf8.decode (bs l) pos).2
      · exact e j h1 hj
      · exact ih _ (by omega) h.2 j (by omega) h2
theorem name_Wd {x : By} (h : nmB (bs x) = true) : Wd x := by
  have hs := h
  unfold nmB at hs
  simp only [Bool.and_eq_true, decide_eq_true_eq] at hs
  rw [bs_size] at hs
  have hf : nmFrom (bs x) 0 = true := by rw [nmFrom_zero]; exact hs.2
  refine ⟨fun e => by rw [e] at hs; simp at hs, List.all_eq_true.2 fun b hb => ?_⟩
  obtain ⟨j, hj, rfl⟩ := List.mem_iff_getElem.1 hb
  have hb : ∀ c : UInt8, c.toNat < 128 → nmRune c.toNat = false → x[j] ≠ c := fun c hc hr e => by
    refine nm_free c.toNat hc hr x _ 0 (Nat.le_refl _) hf j (by omega) hj ?_
    unfold byAt
    rw [List.getD, List.getElem?_eq_getElem hj, ← e]
    rfl
  unfold wb8
  have h1 := hb 32 (by decide) (by decide)
  have h2 := hb 35 (by decide) (by decide)
  have h3 := hb 10 (by decide) (by decide)
  simp [h1, h2, h3]
/-- numerals -/
theorem dec_all (u : Nat) : (decDigits u).all (fun b => digB b.toNat) = true := by
  induction u using Nat.strongRecOn with
  | _ u ih =>
    by_cases h : u < 10
    · rw [decDigits, dif_pos h]
      rcases (by omega : u = 0 ∨ u = 1 ∨ u = 2 ∨ u = 3 ∨ u = 4 ∨ u = 5 ∨ u = 6 ∨ u = 7 ∨ u = 8 ∨ u = 9) with rfl | rfl | rfl | rfl | rfl | rfl | rfl | rfl | rfl | rfl <;> decide
    · rw [decDigits, dif_neg h, List.all_append, ih (u / 10) (by omega)]
      have hm : u % 10 < 10 := Nat.mod_lt _ (by decide)
      generalize u % 10 = m at hm
      rcases (by omega : m = 0 ∨ m = 1 ∨ m = 2 ∨ m = 3 ∨ m = 4 ∨ m = 5 ∨ m = 6 ∨ m = 7 ∨ m = 8 ∨ m = 9) with rfl | rfl | rfl | rfl | rfl | rfl | rfl | rfl | rfl | rfl <;> decide
theorem dec_val (u : Nat) : numVal (decDigits u) = u := by
  induction u using Nat.strongRecOn with
  | _ u ih =>
    by_cases h : u < 10
    · rw [decDigits, dif_pos h]
      rcases (by omega : u = 0 ∨ u = 1 ∨ u = 2 ∨ u = 3 ∨ u = 4 ∨ u = 5 ∨ u = 6 ∨ u = 7 ∨ u = 8 ∨ u = 9) with rfl | rfl | rfl | rfl | rfl | rfl | rfl | rfl | rfl | rfl <;> decide
    · have ih' := ih (u / 10) (by omega)
      rw [decDigits, dif_neg h]
      unfold numVal at ih' ⊢
      rw [List.foldl_append, ih']
      have hm : u % 10 < 10 := Nat.mod_lt _ (by decide)
      have e : u = 10 * (u / 10) + u % 10 := by omega
      have e2 : (UInt8.ofNat (48 + u % 10)).toNat = 48 + u % 10 := by simp; omega
      simp only [List.foldl_cons, List.foldl_nil, e2]
      omega
theorem dec_ne (u : Nat) : decDigits u ≠ [] := fun e => by
  have h := nDigits_pos u
  rw [← decDigits_length, e] at h
  simp at h
theorem dec_head (u : Nat) (h : 1 ≤ u) : byAt (decDigits u) 0 ≠ 48 := by
  induction u using Nat.strongRecOn with
  | _ u ih =>
    by_cases h10 : u < 10
    · rw [decDigits, dif_pos h10]
      rcases (by omega : u = 1 ∨ u = 2 ∨ u = 3 ∨ u = 4 ∨ u = 5 ∨ u = 6 ∨ u = 7 ∨ u = 8 ∨ u = 9) with rfl | rfl | rfl | rfl | rfl | rfl | rfl | rfl | rfl <;> decide
    · have h1 := ih (u / 10) (by omega) (by omega)
      rw [decDigits, dif_neg h10]
      have hl : 0 < (decDigits (u / 10)).length := List.length_pos_iff.2 (dec_ne _)
      unfold byAt at h1 ⊢
      rw [List.getD, List.getElem?_append_left hl]
      exact h1
theorem nDigits_le10 (u : Nat) (h : u < 10000000000) : nDigits u ≤ 10 := by
  have e : ∀ k v, v < 10 ^ (k + 1) → nDigits v ≤ k + 1 := by
    intro k
    induction k with
    | zero => intro v hv; rw [nDigits_small (by simpa using hv)]; omega
    | succ k ih =>
      intro v hv
      by_cases h1 : v < 10
      · rw [nDigits_small h1]; omega
      · rw [nDigits_big h1]
        have := ih (v / 10) (by rw [Nat.pow_succ] at hv; omega)
        omega
  exact e 9 u (by simpa using h)
theorem itoa_word {n : Int} (h : -9999999999 ≤ n ∧ n ≤ 9999999999) : numP (itoa n) = (n, true) ∧ Wd (itoa n) := by
  have hd : ∀ u : Nat, ∀ b ∈ decDigits u, wb8 b = true := fun u b hb => by
    have := List.all_eq_true.1 (dec_all u) b hb
    unfold digB at this
    simp only [decide_eq_true_eq] at this
    unfold wb8
    have h1 : b ≠ 32 := fun e => by rw [e] at this; exact absurd this.1 (by decide)
    have h2 : b ≠ 35 := fun e => by rw [e] at this; exact absurd this.1 (by decide)
    have h3 : b ≠ 10 := fun e => by rw [e] at this; exact absurd this.1 (by decide)
    simp [h1, h2, h3]
  have hc : ∀ u : Nat, cutP (decDigits u) = (decDigits u, false) := fun u => by
    cases hq : decDigits u with
    | nil => rfl
    | cons b t =>
      have := List.all_eq_true.1 (dec_all u) b (by rw [hq]; simp)
      have h1 : (b == 45) = false := by
        rw [beq_eq_false_iff_ne]
        intro e
        rw [e] at this
        exact absurd this (by decide)
      show (match b == 45 with | true => (t, true) | false => (b :: t, false)) = _
      rw [h1]
  by_cases hneg : n < 0
  · obtain ⟨u, rfl⟩ : ∃ u : Nat, n = -(u : Int) := ⟨n.natAbs, by omega⟩
    have hu : 1 ≤ u := by omega
    rw [itoa_neg u hu]
    have hl : (decDigits u).length ≤ 10 := by rw [decDigits_length]; exact nDigits_le10 u (by omega)
    refine ⟨?_, by simp, ?_⟩
    · have hcut : cutP (45 :: decDigits u) = (decDigits u, true) := rfl
      have hok : numOk (45 :: decDigits u) = true := by
        unfold numOk
        rw [hcut]
        simp only [Bool.and_eq_true, decide_eq_true_eq, Bool.not_eq_true']
        exact ⟨dec_ne u, hl, by simp [dec_head u hu], dec_all u⟩
      unfold numP
      rw [hok, hcut]
      show (signV true (numVal (decDigits u)), true) = _
      rw [dec_val]
      rfl
    · rw [List.all_cons]
      simp only [Bool.and_eq_true]
      exact ⟨by decide, List.all_eq_true.2 (hd u)⟩
  · obtain ⟨u, rfl⟩ : ∃ u : Nat, n = (u : Int) := ⟨n.toNat, by omega⟩
    rw [itoa_nonneg]
    have hl : (decDigits u).length ≤ 10 := by rw [decDigits_length]; exact nDigits_le10 u (by omega)
    refine ⟨?_, dec_ne u, List.all_eq_true.2 (hd u)⟩
    have hok : numOk (decDigits u) = true := by
      unfold numOk
      rw [hc u]
      simp only [Bool.and_eq_true, decide_eq_true_eq, Bool.not_eq_true']
      refine ⟨dec_ne u, hl, ?_, dec_all u⟩
      by_cases h0 : u = 0
      · subst h0
        have e : decDigits 0 = [48] := by rw [decDigits, dif_pos (by omega)]; rfl
        rw [e]
        decide
      · simp [dec_head u (by omega)]
    unfold numP
    rw [hok, hc u]
    show (signV false (numVal (decDigits u)), true) = _
    rw [dec_val]
    rfl
end

section
open Go.RowKit Go.Lib
set_option linter.unusedVariables false
set_option linter.unusedSimpArgs false

def fieldN (k : Int) : By := wordK 1 ++ tl [kindT k]
def impN (m : ImpM) : By := wordK 2 ++ tl ([m.name.data.toList, itoa m.exp, kindT m.res] ++ m.params.map kindT)
def headN (m : MetM) : By := wordK 3 ++ tl (kindT m.res :: m.params.map kindT)
def locN (ks : List Int) : List By := match ks.isEmpty with
  | true => []
  | false => [wordK 4 ++ tl (ks.map kindT)]
def insN (x : InsM) : By := [32, 32] ++ (nmT x.op ++ tl ([itoa x.a, itoa x.b].take (opsB x.op).toNat))
def metN (m : MetM) : List By := headN m :: (locN m.locals ++ m.code.map insN)
def expN (n : Int) : By := wordK 5 ++ tl [itoa n]
def nameN (s : ByteArray) : By := wordK 0 ++ tl [s.data.toList]
/-- an image's lines, without their ends -/
def linesN (I : ImgM) : List By := nameN I.name :: (I.fields.map fieldN ++ (I.imports.map impN ++ (I.methods.flatMap metN ++ I.exports.map expN)))
def flat (Ls : List By) : By := Ls.flatMap (fun x => x ++ [10])
theorem flat_app (a b : List By) : flat (a ++ b) = flat a ++ flat b := by unfold flat; rw [List.flatMap_append]
theorem flat_cons (x : By) (b : List By) : flat (x :: b) = x ++ 10 :: flat b := by unfold flat; rw [List.flatMap_cons]; simp
theorem line_tl (x : By) (xs : List By) : lineT (x :: xs) = x ++ tl xs ++ [10] := by unfold lineT; rw [join_tl]
theorem tl_last (x : By) (d : List By) : tl [x ++ tl d] = tl (x :: d) := by simp [tl]
theorem flat_map {α : Type} (g : α → By) (l : List α) (f : α → By) (h : ∀ x, f x = g x ++ [10]) : l.flatMap f = flat (l.map g) := by
  unfold flat
  rw [List.flatMap_map]
  exact congrArg (fun q => l.flatMap q) (funext h)
theorem flat_flat {α : Type} (g : α → List By) (l : List α) (f : α → By) (h : ∀ x, f x = flat (g x)) : l.flatMap f = flat (l.flatMap g) := by
  induction l with
  | nil => rfl
  | cons x l ih => rw [List.flatMap_cons, List.flatMap_cons, flat_app, ih, h]
theorem lines_flat (I : ImgM) : linesI I = flat (linesN I) := by
  unfold linesI linesN
  rw [flat_cons, flat_app, flat_app, flat_app]
  rw [flat_map fieldN I.fields fieldL (fun k => line_tl _ _)]
  rw [flat_map impN I.imports impL (fun m => by
    unfold impL impN
    rw [line_tl, callT_tl]
    show _ ++ tl ([m.name.data.toList, itoa m.exp] ++ [kindT m.res ++ tl (m.params.map kindT)]) ++ [10] = _
    rw [tl_app, tl_last, ← tl_app]
    rfl)]
  rw [flat_flat metN I.methods metL (fun m => by
    unfold metL metN headT headN
    rw [flat_cons, flat_app, line_tl, callT_tl, tl_last]
    rw [show codeT m.code = flat (m.code.map insN) from flat_map insN m.code _ (fun x => by
      unfold insT insN
      rw [line_tl]
      simp)]
    rw [show locT m.locals = flat (locN m.locals) by
      unfold locT locN
      cases m.locals with
      | nil => rfl
      | cons k ks =>
        show lineT [_, joinB ((k :: ks).map kindT)] = flat [wordK 4 ++ tl ((k :: ks).map kindT)]
        rw [line_tl, List.map_cons, join_tl, tl_last, flat_cons]
        simp [flat, wordK]]
    simp [wordK])]
  rw [flat_map expN I.exports expL (fun n => line_tl _ _)]
  show lineT [wordK 0, I.name.data.toList] ++ _ = _
  rw [line_tl]
  simp [nameN]

theorem wordK_word (k : Nat) (hk : k < 6) : Wd (wordK k) ∧ clsP (wordK k) = k := by
  rcases (by omega : k = 0 ∨ k = 1 ∨ k = 2 ∨ k = 3 ∨ k = 4 ∨ k = 5) with rfl | rfl | rfl | rfl | rfl | rfl <;> exact ⟨by decide +kernel, by kernel_rfl⟩
theorem ops_words : (List.range 39).all (fun k => decide (Wd (nmT (k + 1))) && (clsP (nmT (k + 1)) == 6 && (opB (nameB (k + 1)) == (k : Int) + 1))) = true := by decide +kernel
theorem op_word {op : Int} (h : 1 ≤ op ∧ op ≤ 39) : Wd (nmT op) ∧ clsP (nmT op) = 6 ∧ opB (bs (nmT op)) = op := by
  obtain ⟨k, rfl⟩ : ∃ k : Nat, op = (k : Int) + 1 := ⟨(op - 1).toNat, by omega⟩
  have := List.all_eq_true.1 ops_words k (List.mem_range.2 (by omega))
  simp only [Bool.and_eq_true, decide_eq_true_eq, beq_iff_eq] at this
  exact this
theorem lineP_yes {D D' : DrM} {f r : By} (hm : mayT (clsP f) D.pos = true) (hp : putP f (D.setPos (rangeT (clsP f)).2.2) (r, false) = (D', ([], false))) : lineP D f r = some D' := by
  unfold lineP
  rw [hm]
  simp only [hp]
  rfl
theorem take_word {D D' : DrM} {x : By} {xs : List By} {c : Nat} (hx : Wd x) (h : ∀ y ∈ xs, Wd y) (hc : clsP x = c) (hm : mayT c D.pos = true) (hp : putP x (D.setPos (rangeT c).2.2) (tl xs, false) = (D', ([], false))) : takeD D (x ++ tl xs) = some D' := by
  subst hc
  rw [takeD_words D hx h]
  exact lineP_yes hm hp
section
variable {nm : ByteArray} {F : List Int} {Im : List ImpM} {M : List MetM} {X : List Int} {p : Int}
theorem take_name (x : By) (h : nmB (bs x) = true) : takeD d0 (wordK 0 ++ tl [x]) = some ⟨⟨bs x, [], [], [], []⟩, 1⟩ := by
  have hc := wordK_word 0 (by omega)
  refine take_word hc.1 (by simpa using name_Wd h) hc.2 (by decide) ?_
  unfold putP
  rw [hc.2]
  simp only [name_word h (name_Wd h)]
  rfl
theorem take_field {k : Int} (hk : 1 ≤ k ∧ k ≤ 4) (hl : F.length ≤ 8) : takeD ⟨⟨nm, F, Im, M, X⟩, 1⟩ (fieldN k) = some ⟨⟨nm, F ++ [k], Im, M, X⟩, 1⟩ := by
  have hc := wordK_word 1 (by omega)
  refine take_word hc.1 (by simpa using (kind_word (k := k) (by omega)).1) hc.2 (show mayT 1 1 = true by decide) ?_
  unfold putP
  rw [hc.2]
  simp only [kind1_word hk]
  show (DrM.mk ⟨nm, addL 8 F k, Im, M, X⟩ 1, _) = _
  rw [addL_yes (by omega)]
  rfl
theorem may2 (h : p = 1 ∨ p = 2) : mayT 2 p = true := by rcases h with rfl | rfl <;> decide
theorem may3 (h : 1 ≤ p ∧ p ≤ 4) : mayT 3 p = true := by simp [mayT, rangeT, h.1, h.2]
theorem may6 (h : p = 3 ∨ p = 4) : mayT 6 p = true := by rcases h with rfl | rfl <;> decide
theorem may5 (h : 3 ≤ p ∧ p ≤ 5) : mayT 5 p = true := by simp [mayT, rangeT, h.1, h.2]
theorem call_parts {ps : List Int} {r : Int} (h : callB ps r = true) : kindsB ps 4 = true ∧ 0 ≤ r ∧ r ≤ 4 := by
  unfold callB kindB at h
  simp only [Bool.and_eq_true, Bool.or_eq_true, beq_iff_eq, decide_eq_true_eq] at h
  exact ⟨h.1, by omega⟩
theorem take_imp {m : ImpM} (hp : p = 1 ∨ p = 2) (hm : impB m = true) (hl : Im.length ≤ 4) : takeD ⟨⟨nm, F, Im, M, X⟩, p⟩ (impN m) = some ⟨⟨nm, F, Im ++ [m], M, X⟩, 2⟩ := by
  have hc := wordK_word 2 (by omega)
  unfold impB inB at hm
  simp only [Bool.and_eq_true, decide_eq_true_eq] at hm
  obtain ⟨h1, h2, h3⟩ := hm
  obtain ⟨h4, h5⟩ := call_parts h3
  have h1' : nmB (bs m.name.data.toList) = true := h1
  have hi := itoa_word (n := m.exp) (by omega)
  have hk := kind_word h5
  refine take_word hc.1 (fun y hy => ?_) hc.2 (may2 hp) ?_
  · rcases List.mem_append.1 hy with hy | hy
    · simp at hy
      rcases hy with rfl | rfl | rfl
      · exact name_Wd h1'
      · exact hi.2
      · exact hk.1
    · exact kinds_Wd (kinds_all h4) y hy
  unfold putP
  rw [hc.2]
  have e : impW (tl ([m.name.data.toList, itoa m.exp, kindT m.res] ++ m.params.map kindT), false) = (m, ([], false)) := by
    unfold impW
    show (ImpM.mk _ _ _ _, _) = _
    have e1 := name_word h1' (name_Wd h1') (itoa m.exp :: kindT m.res :: m.params.map kindT)
    have e2 := num_word hi.1 hi.2 (kindT m.res :: m.params.map kindT)
    have e3 := res_word h5 (m.params.map kindT)
    have e4 := kindsW_words h4
    simp only [List.cons_append, List.nil_append, e1, e2, e3, e4]
    rfl
  simp only [e]
  show (DrM.mk ⟨nm, F, addL 4 Im m, M, X⟩ 2, _) = _
  rw [addL_yes (by omega)]
theorem take_head {m : MetM} (hp : 1 ≤ p ∧ p ≤ 4) (hm : callB m.params m.res = true) (hl : M.length ≤ 8) : takeD ⟨⟨nm, F, Im, M, X⟩, p⟩ (headN m) = some ⟨⟨nm, F, Im, M ++ [⟨m.params, m.res, [], []⟩], X⟩, 3⟩ := by
  have hc := wordK_word 3 (by omega)
  obtain ⟨h4, h5⟩ := call_parts hm
  refine take_word hc.1 (fun y hy => ?_) hc.2 (may3 hp) ?_
  · rcases List.mem_cons.1 hy with rfl | hy
    · exact (kind_word h5).1
    · exact kinds_Wd (kinds_all h4) y hy
  unfold putP
  rw [hc.2]
  have e : metW (tl (kindT m.res :: m.params.map kindT), false) = (⟨m.params, m.res, [], []⟩, ([], false)) := by
    unfold metW
    simp only [res_word h5 (m.params.map kindT), kindsW_words h4]
  simp only [e]
  show (DrM.mk ⟨nm, F, Im, addL 8 M _, X⟩ 3, _) = _
  rw [addL_yes (by omega)]
theorem last_app (M : List MetM) (m : MetM) (g : MetM → MetM) : lastM (M ++ [m]) g = M ++ [g m] := by
  unfold lastM
  have e : (M ++ [m]).length - 1 = M.length := by simp
  rw [e]
  have e2 : (M ++ [m]).getD M.length default = m := by simp [List.getD]
  rw [e2]
  simp
theorem take_loc {ps ks : List Int} {r : Int} (h : kindsB ks 10 = true) (hne : ks ≠ []) : takeD ⟨⟨nm, F, Im, M ++ [⟨ps, r, [], []⟩], X⟩, 3⟩ (wordK 4 ++ tl (ks.map kindT)) = some ⟨⟨nm, F, Im, M ++ [⟨ps, r, ks, []⟩], X⟩, 4⟩ := by
  have hc := wordK_word 4 (by omega)
  refine take_word hc.1 (kinds_Wd (kinds_all h)) hc.2 (show mayT 4 3 = true by decide) ?_
  unfold putP
  rw [hc.2]
  have e : locW (tl (ks.map kindT), false) = (ks, ([], false)) := by
    unfold locW
    have e1 : emptyP (tl (ks.map kindT)) = false := by
      cases ks with
      | nil => exact absurd rfl hne
      | cons k ks =>
        have := kinds_all h k (by simp)
        rw [List.map_cons, empty_tl (kind_word (by omega)).1]
    show kindsW 10 (tl (ks.map kindT), false || !(!emptyP (tl (ks.map kindT)))) = _
    rw [e1]
    exact kindsW_words h
  simp only [e]
  show (DrM.mk ⟨nm, F, Im, lastM (M ++ [⟨ps, r, [], []⟩]) (fun m => ⟨m.params, m.res, ks, m.code⟩), X⟩ 4, _) = _
  rw [last_app]
theorem ins_parts {x : InsM} (h : insB x = true) : (1 ≤ x.op ∧ x.op ≤ 39) ∧ (-9999999999 ≤ x.a ∧ x.a ≤ 9999999999) ∧ (-9999999999 ≤ x.b ∧ x.b ≤ 9999999999) ∧ (opsB x.op ≤ 0 → x.a = 0) ∧ (opsB x.op ≤ 1 → x.b = 0) := by
  have h := (right_iff x.op x.a x.b).1 h
  obtain ⟨h1, h2, h3, h4, h5⟩ := h
  refine ⟨⟨h1, h2⟩, ?_, by omega, fun h0 => ?_, fun h0 => ?_⟩
  · unfold lowB at h3
    unfold highB at h4
    constructor
    · repeat (first | omega | split at h3)
    · repeat (first | omega | split at h4)
  · unfold opsB at h0
    unfold lowB at h3
    unfold highB at h4
    split at h0 <;> (try split at h0) <;> (try omega)
  · rcases h5 with h5 | ⟨h5, _⟩
    · exact h5
    · rw [h5] at h0
      exact absurd h0 (by decide)
theorem take_ins {ps ls : List Int} {r : Int} {c : List InsM} {x : InsM} (hp : p = 3 ∨ p = 4) (h : insB x = true) (hl : c.length ≤ 120) :
    takeD ⟨⟨nm, F, Im, M ++ [⟨ps, r, ls, c⟩], X⟩, p⟩ (insN x) = some ⟨⟨nm, F, Im, M ++ [⟨ps, r, ls, c ++ [x]⟩], X⟩, 4⟩ := by
  obtain ⟨h1, h2, h3, h4, h5⟩ := ins_parts h
  obtain ⟨hw, hcl, hop⟩ := op_word h1
  have ha := itoa_word h2
  have hb := itoa_word h3
  show takeD _ (32 :: 32 :: (nmT x.op ++ _)) = _
  rw [takeD_blank, takeD_blank]
  refine take_word hw (fun y hy => ?_) hcl (may6 hp) ?_
  · have := List.mem_of_mem_take hy
    simp at this
    rcases this with rfl | rfl
    · exact ha.2
    · exact hb.2
  have e : insW (opB (bs (nmT x.op))) (tl ([itoa x.a, itoa x.b].take (opsB x.op).toNat), false) = (x, ([], false)) := by
    rw [hop]
    have hne : (x.op != 0) = true := by simp; omega
    unfold insW insBad
    rcases ops_three x.op with h0 | h0 | h0
    · have ea := h4 (by omega)
      have eb := h5 (by omega)
      rw [h0]
      simp only [hne]
      cases x
      simp only at ea eb
      subst ea eb
      rfl
    · have eb := h5 (by omega)
      rw [h0]
      have e1 := num_word ha.1 ha.2 []
      simp only [hne]
      show (InsM.mk _ (numW (tl [itoa x.a], false)).1 0, (numW (tl [itoa x.a], false)).2) = _
      rw [e1]
      cases x
      simp only at eb
      subst eb
      rfl
    · rw [h0]
      have e1 := num_word ha.1 ha.2 [itoa x.b]
      have e2 := num_word hb.1 hb.2 []
      simp only [hne]
      show (InsM.mk _ (numW (tl [itoa x.a, itoa x.b], false)).1 (numW (numW (tl [itoa x.a, itoa x.b], false)).2).1, (numW (numW (tl [itoa x.a, itoa x.b], false)).2).2) = _
      rw [e1]
      simp only [e2]
      rfl
  unfold putP
  rw [hcl]
  simp only [e]
  show (DrM.mk ⟨nm, F, Im, lastM (M ++ [⟨ps, r, ls, c⟩]) (fun m => ⟨m.params, m.res, m.locals, addL 120 m.code x⟩), X⟩ 4, _) = _
  rw [last_app]
  simp only [addL_yes (show ¬ (120 : Int) < (c.length : Int) by omega)]
theorem take_exp {n : Int} (hp : 3 ≤ p ∧ p ≤ 5) (hn : 0 ≤ n ∧ n ≤ 100) (hl : X.length ≤ 4) : takeD ⟨⟨nm, F, Im, M, X⟩, p⟩ (expN n) = some ⟨⟨nm, F, Im, M, X ++ [n]⟩, 5⟩ := by
  have hc := wordK_word 5 (by omega)
  have hi := itoa_word (n := n) (by omega)
  refine take_word hc.1 (by simpa using hi.2) hc.2 (may5 hp) ?_
  unfold putP
  rw [hc.2]
  simp only [num_word hi.1 hi.2]
  show (DrM.mk ⟨nm, F, Im, M, addL 4 X n⟩ 5, _) = _
  rw [addL_yes (by omega)]
  rfl
theorem pgo_fields : ∀ (ks F : List Int) (n : Nat) (rest : List By), (∀ k ∈ ks, 1 ≤ k ∧ k ≤ 4) → F.length + ks.length ≤ 9 → pgo ⟨⟨nm, F, Im, M, X⟩, 1⟩ n (ks.map fieldN ++ rest) = pgo ⟨⟨nm, F ++ ks, Im, M, X⟩, 1⟩ (n + ks.length) rest
  | [], F, n, rest, _, _ => by simp
  | k :: ks, F, n, rest, h, hl => by
    simp only [List.length_cons] at hl
    rw [List.map_cons, List.cons_append, pgo_some (take_field (h k (by simp)) (by omega)), pgo_fields ks (F ++ [k]) (n + 1) rest (fun j hj => h j (by simp [hj])) (by simp; omega)]
    simp [Nat.add_comm, Nat.add_left_comm]
theorem pgo_imps : ∀ (ms Im : List ImpM) (p : Int) (n : Nat) (rest : List By), (∀ m ∈ ms, impB m = true) → Im.length + ms.length ≤ 5 → p = 1 ∨ p = 2 → ∃ q : Int, (q = 1 ∨ q = 2) ∧ pgo ⟨⟨nm, F, Im, M, X⟩, p⟩ n (ms.map impN ++ rest) = pgo ⟨⟨nm, F, Im ++ ms, M, X⟩, q⟩ (n + ms.length) rest
  | [], Im, p, n, rest, _, _, hp => ⟨p, hp, by simp⟩
  | m :: ms, Im, p, n, rest, h, hl, hp => by
    simp only [List.length_cons] at hl
    obtain ⟨q, hq, e⟩ := pgo_imps ms (Im ++ [m]) 2 (n + 1) rest (fun j hj => h j (by simp [hj])) (by simp; omega) (.inr rfl)
    refine ⟨q, hq, ?_⟩
    rw [List.map_cons, List.cons_append, pgo_some (take_imp hp (h m (by simp)) (by omega)), e]
    simp [Nat.add_comm, Nat.add_left_comm]
theorem pgo_code {ps ls : List Int} {r : Int} : ∀ (xs c : List InsM) (n : Nat) (rest : List By), (∀ x ∈ xs, insB x = true) → c.length + xs.length ≤ 121 →
    pgo ⟨⟨nm, F, Im, M ++ [⟨ps, r, ls, c⟩], X⟩, 4⟩ n (xs.map insN ++ rest) = pgo ⟨⟨nm, F, Im, M ++ [⟨ps, r, ls, c ++ xs⟩], X⟩, 4⟩ (n + xs.length) rest
  | [], c, n, rest, _, _ => by simp
  | x :: xs, c, n, rest, h, hl => by
    simp only [List.length_cons] at hl
    rw [List.map_cons, List.cons_append, pgo_some (take_ins (.inr rfl) (h x (by simp)) (by omega)), pgo_code xs (c ++ [x]) (n + 1) rest (fun j hj => h j (by simp [hj])) (by simp; omega)]
    simp [Nat.add_comm, Nat.add_left_comm]
theorem pgo_met {m : MetM} (hm : metB insB m = true) (hl : M.length ≤ 8) (hp : 1 ≤ p ∧ p ≤ 4) (n : Nat) (rest : List By) :
    pgo ⟨⟨nm, F, Im, M, X⟩, p⟩ n (metN m ++ rest) = pgo ⟨⟨nm, F, Im, M ++ [m], X⟩, 4⟩ (n + (metN m).length) rest := by
  unfold metB at hm
  simp only [Bool.and_eq_true, decide_eq_true_eq, List.all_eq_true] at hm
  obtain ⟨h1, h2, h3, h4, h5⟩ := hm
  obtain ⟨ps, r, ls, c⟩ := m
  simp only at h1 h2 h3 h4 h5
  have hloc : kindsB ls 10 = true := by
    have := kinds_le h2
    unfold kindsB at h2 ⊢
    simp only [Bool.and_eq_true, decide_eq_true_eq] at h2 ⊢
    exact ⟨by omega, h2.2⟩
  unfold metN
  rw [List.cons_append, pgo_some (take_head (m := ⟨ps, r, ls, c⟩) hp h1 hl)]
  simp only
  cases c with
  | nil => simp at h3
  | cons x xs =>
    have hx := h5 x (by simp)
    have hxs : ∀ y ∈ xs, insB y = true := fun y hy => h5 y (by simp [hy])
    simp only [List.length_cons] at h4
    cases ls with
    | nil =>
      show pgo _ _ ([] ++ _ ++ rest) = _
      rw [List.nil_append, List.map_cons, List.cons_append, pgo_some (take_ins (.inl rfl) hx (by simp)), List.nil_append, pgo_code xs [x] _ rest hxs (by simp; omega)]
      simp [locN, Nat.add_comm, Nat.add_left_comm]
    | cons k ks =>
      show pgo _ _ ([wordK 4 ++ tl ((k :: ks).map kindT)] ++ _ ++ rest) = _
      rw [List.append_assoc, List.cons_append, pgo_some (take_loc hloc (by simp)), List.nil_append, List.map_cons, List.cons_append, pgo_some (take_ins (.inr rfl) hx (by simp)), List.nil_append, pgo_code xs [x] _ rest hxs (by simp; omega)]
      simp [locN, Nat.add_comm, Nat.add_left_comm]
theorem pgo_mets : ∀ (ms M : List MetM) (p : Int) (n : Nat) (rest : List By), (∀ m ∈ ms, metB insB m = true) → M.length + ms.length ≤ 9 → 1 ≤ p ∧ p ≤ 4 → ms ≠ [] → pgo ⟨⟨nm, F, Im, M, X⟩, p⟩ n (ms.flatMap metN ++ rest) = pgo ⟨⟨nm, F, Im, M ++ ms, X⟩, 4⟩ (n + (ms.flatMap metN).length) rest
  | [], M, p, n, rest, _, _, _, hne => absurd rfl hne
  | m :: ms, M, p, n, rest, h, hl, hp, _ => by
    simp only [List.length_cons] at hl
    rw [List.flatMap_cons, List.append_assoc, pgo_met (h m (by simp)) (by omega) hp]
    cases ms with
    | nil => simp
    | cons m2 ms =>
      rw [pgo_mets (m2 :: ms) (M ++ [m]) 4 _ rest (fun j hj => h j (by simp [hj])) (by simp at hl ⊢; omega) (by omega) (by simp)]
      simp only [List.append_assoc, List.cons_append, List.nil_append, List.length_append, Nat.add_assoc]
theorem pgo_exps : ∀ (ns X : List Int) (p : Int) (n : Nat), (∀ k ∈ ns, 0 ≤ k ∧ k ≤ 100) → X.length + ns.length ≤ 5 → 3 ≤ p ∧ p ≤ 5 → ∃ q : Int, pgo ⟨⟨nm, F, Im, M, X⟩, p⟩ n (ns.map expN) = (some ⟨⟨nm, F, Im, M, X ++ ns⟩, q⟩, n + ns.length)
  | [], X, p, n, _, _, hp => ⟨p, by simp [pgo]⟩
  | k :: ns, X, p, n, h, hl, hp => by
    simp only [List.length_cons] at hl
    obtain ⟨q, e⟩ := pgo_exps ns (X ++ [k]) 5 (n + 1) (fun j hj => h j (by simp [hj])) (by simp; omega) (by omega)
    refine ⟨q, ?_⟩
    rw [List.map_cons, pgo_some (take_exp hp (h k (by simp)) (by omega)), e]
    simp [Nat.add_comm, Nat.add_left_comm]
end
/-- all lines of a right image are taken -/
theorem pgo_lines {I : ImgM} (h : imgB insB I = true) (n : Nat) : ∃ q : Int, pgo d0 n (linesN I) = (some ⟨I, q⟩, n + (linesN I).length) := by
  unfold imgB at h
  simp only [Bool.and_eq_true, decide_eq_true_eq, List.all_eq_true] at h
  obtain ⟨h1, h2, ⟨h3, h4⟩, h9, ⟨h5, h6⟩, -, h7, h8⟩ := h
  obtain ⟨nm, F, Im, M, X⟩ := I
  simp only at h1 h2 h3 h4 h5 h6 h7 h8 h9
  have hF := kinds_le h2
  obtain ⟨q1, hq1, e1⟩ := pgo_imps (nm := nm) (F := F) (M := []) (X := []) Im [] 1 (n + 1 + F.length) (M.flatMap metN ++ X.map expN) h4 (by simp; omega) (.inl rfl)
  obtain ⟨q2, e2⟩ := pgo_exps (nm := nm) (F := F) (Im := Im) (M := M) X [] 4 (n + 1 + F.length + Im.length + (M.flatMap metN).length) (fun k hk => by
    have := h8 k hk
    unfold expB inB at this
    simp only [decide_eq_true_eq] at this
    omega) (by simp; omega) (by omega)
  refine ⟨q2, ?_⟩
  unfold linesN nameN
  simp only
  rw [pgo_some (take_name nm.data.toList h1)]
  rw [pgo_fields F [] (n + 1) _ (kinds_all h2) (by simp; omega)]
  simp only [List.nil_append] at e1 e2 ⊢
  rw [show (⟨bs nm.data.toList, F, [], [], []⟩ : ImgM) = ⟨nm, F, [], [], []⟩ from rfl, e1]
  rw [pgo_mets M [] q1 _ _ h6 (by simp; omega) (by omega) (fun e => by rw [e] at h9; simp at h9)]
  simp only [List.nil_append]
  rw [e2]
  simp only [List.length_cons, List.length_append, List.length_map, Prod.mk.injEq, true_and]
  omega
/-- no line's end within a line -/
def NoLf (x : By) : Prop := ∀ b ∈ x, b ≠ 10
instance (x : By) : Decidable (NoLf x) := by unfold NoLf; infer_instance
theorem noLf_words {x : By} {xs : List By} (hx : Wd x) (h : ∀ y ∈ xs, Wd y) : NoLf (x ++ tl xs) := fun b hb => by
  have := (line_bytes hx h b hb).2
  simpa using this
theorem noLf_lines {I : ImgM} (h : imgB insB I = true) : ∀ x ∈ linesN I, NoLf x ∧ emptyP (plainP x) = false := by
  have hw : ∀ {x : By} {xs : List By}, Wd x → (∀ y ∈ xs, Wd y) → NoLf (x ++ tl xs) ∧ emptyP (plainP (x ++ tl xs)) = false := fun hx h => by
    refine ⟨noLf_words hx h, ?_⟩
    rw [plain_all fun b hb => (line_bytes hx h b hb).1]
    unfold emptyP
    rw [next_word hx]
    simpa using hx.1
  unfold imgB at h
  simp only [Bool.and_eq_true, decide_eq_true_eq, List.all_eq_true] at h
  obtain ⟨h1, h2, ⟨h3, h4⟩, h9, ⟨h5, h6⟩, -, h7, h8⟩ := h
  intro x hx
  unfold linesN at hx
  rcases List.mem_cons.1 hx with rfl | hx
  · exact hw (wordK_word 0 (by omega)).1 (by simpa using name_Wd (x := I.name.data.toList) h1)
  rcases List.mem_append.1 hx with hx | hx
  · obtain ⟨k, hk, rfl⟩ := List.mem_map.1 hx
    have := kinds_all h2 k hk
    exact hw (wordK_word 1 (by omega)).1 (by simpa using (kind_word (k := k) (by omega)).1)
  rcases List.mem_append.1 hx with hx | hx
  · obtain ⟨m, hm, rfl⟩ := List.mem_map.1 hx
    have hm := h4 m hm
    unfold impB inB at hm
    simp only [Bool.and_eq_true, decide_eq_true_eq] at hm
    obtain ⟨g1, g2, g3⟩ := hm
    obtain ⟨g4, g5⟩ := call_parts g3
    refine hw (wordK_word 2 (by omega)).1 fun y hy => ?_
    rcases List.mem_append.1 hy with hy | hy
    · simp at hy
      rcases hy with rfl | rfl | rfl
      · exact name_Wd (x := m.name.data.toList) g1
      · exact (itoa_word (by omega)).2
      · exact (kind_word g5).1
    · exact kinds_Wd (kinds_all g4) y hy
  rcases List.mem_append.1 hx with hx | hx
  · obtain ⟨m, hm, hx⟩ := List.mem_flatMap.1 hx
    have hm := h6 m hm
    unfold metB at hm
    simp only [Bool.and_eq_true, decide_eq_true_eq, List.all_eq_true] at hm
    obtain ⟨g1, g2, g3, g4, g5⟩ := hm
    obtain ⟨g6, g7⟩ := call_parts g1
    unfold metN at hx
    rcases List.mem_cons.1 hx with rfl | hx
    · refine hw (wordK_word 3 (by omega)).1 fun y hy => ?_
      rcases List.mem_cons.1 hy with rfl | hy
      · exact (kind_word g7).1
      · exact kinds_Wd (kinds_all g6) y hy
    rcases List.mem_append.1 hx with hx | hx
    · unfold locN at hx
      split at hx
      · simp at hx
      · simp only [List.mem_singleton] at hx
        subst hx
        exact hw (wordK_word 4 (by omega)).1 (kinds_Wd (kinds_all g2))
    · obtain ⟨i, hi, rfl⟩ := List.mem_map.1 hx
      obtain ⟨k1, k2, k3, -, -⟩ := ins_parts (g5 i hi)
      have := hw (op_word k1).1 (xs := [itoa i.a, itoa i.b].take (opsB i.op).toNat) (fun y hy => by
        have := List.mem_of_mem_take hy
        simp at this
        rcases this with rfl | rfl
        · exact (itoa_word k2).2
        · exact (itoa_word k3).2)
      refine ⟨fun b hb => ?_, ?_⟩
      · unfold insN at hb
        rcases List.mem_append.1 hb with hb | hb
        · simp at hb
          subst hb
          decide
        · exact this.1 b hb
      · show emptyP (plainP (32 :: 32 :: _)) = false
        rw [plain_blank, plain_blank]
        unfold emptyP
        rw [next_blank, next_blank]
        exact this.2
  · obtain ⟨n, hn, rfl⟩ := List.mem_map.1 hx
    have := h8 n hn
    unfold expB inB at this
    simp only [decide_eq_true_eq] at this
    exact hw (wordK_word 5 (by omega)).1 (by simpa using (itoa_word (n := n) (by omega)).2)
theorem lines_of_flat : ∀ Ls : List By, (∀ x ∈ Ls, NoLf x) → linesP (flat Ls) = Ls
  | [], _ => rfl
  | x :: Ls, h => by rw [flat_cons, lines_cut x _ (h x (by simp)), lines_of_flat Ls (fun y hy => h y (by simp [hy]))]
/-- what is printed is parsed to the same -/
theorem parse_back {I : ImgM} (h : imgB insB I = true) : parseT (linesI I) = (I, 0, 0) := by
  obtain ⟨q, e⟩ := pgo_lines h 0
  unfold parseT
  rw [lines_flat, lines_of_flat _ (fun x hx => (noLf_lines h x hx).1), e, endP_yes h.symm]
/-- lines, with blank ones between, and blanks ahead of some -/
inductive Noted : List By → List By → Prop
  | nil : Noted [] []
  | line (k : Nat) (x : By) {Ls Ms : List By} : Noted Ls Ms → Noted (x :: Ls) ((List.replicate k 32 ++ x) :: Ms)
  | skip (y : By) {Ls Ms : List By} : emptyP (plainP y) = true → Noted Ls Ms → Noted Ls (y :: Ms)
theorem take_skip (D : DrM) {y : By} (h : emptyP (plainP y) = true) : takeD D y = some D := by
  unfold takeD
  rw [h]
theorem noted_pgo {Ls Ms : List By} (h : Noted Ls Ms) : ∀ (D : DrM) (n m : Nat), (pgo D n Ms).1 = (pgo D m Ls).1 := by
  induction h with
  | nil => intro D n m; rfl
  | line k x _ ih =>
    intro D n m
    cases ht : takeD D x with
    | none => rw [pgo_none (by rw [takeD_blanks, ht]), pgo_none ht]
    | some D' => rw [pgo_some (by rw [takeD_blanks]; exact ht), pgo_some ht]; exact ih D' _ _
  | skip y hy _ ih => intro D n m; rw [pgo_some (take_skip D hy)]; exact ih D _ _
theorem parse_noted {I : ImgM} (h : imgB insB I = true) {t : By} (ht : Noted (linesN I) (linesP t)) : parseT t = (I, 0, 0) := by
  obtain ⟨q, e⟩ := pgo_lines h 0
  have e1 := noted_pgo ht d0 0 0
  rw [e] at e1
  obtain ⟨r, hr⟩ : ∃ r, r = pgo d0 0 (linesP t) := ⟨_, rfl⟩
  unfold parseT
  rw [← hr] at e1 ⊢
  obtain ⟨o, n⟩ := r
  simp only at e1
  subst e1
  exact endP_yes h.symm
/-- what stands ahead of a list of lines that is taken -/
theorem pgo_app : ∀ (a b : List By) (D : DrM) (n : Nat), pgo D n (a ++ b) = match pgo D n a with
    | (some D', m) => pgo D' m b
    | (none, m) => (none, m)
  | [], b, D, n => rfl
  | x :: a, b, D, n => by
    rw [List.cons_append]
    cases ht : takeD D x with
    | none => rw [pgo_none ht, pgo_none ht]
    | some D' => rw [pgo_some ht, pgo_some ht]; exact pgo_app a b D' (n + 1)
theorem take_pos {D D' : DrM} {x : By} (h : takeD D x = some D') (hx : emptyP (plainP x) = false) : 1 ≤ D'.pos := by
  unfold takeD at h
  rw [hx] at h
  simp only at h
  unfold lineP at h
  split at h
  · split at h
    · simp only [Option.some.injEq] at h
      subst h
      rw [putP_pos]
      show 1 ≤ (rangeT _).2.2
      unfold rangeT
      split <;> decide
    · cases h
  · cases h
theorem pgo_pos : ∀ (a : List By) (D D' : DrM) (n m : Nat), pgo D n a = (some D', m) → (∀ x ∈ a, emptyP (plainP x) = false) → m = n + a.length ∧ (a ≠ [] → 1 ≤ D'.pos)
  | [], D, D', n, m, h, _ => by
    simp only [pgo, Prod.mk.injEq] at h
    exact ⟨by simp [h.2], fun hn => absurd rfl hn⟩
  | x :: a, D, D', n, m, h, ha => by
    cases ht : takeD D x with
    | none => rw [pgo_none ht] at h; simp at h
    | some D1 =>
      rw [pgo_some ht] at h
      obtain ⟨h1, h2⟩ := pgo_pos a D1 D' (n + 1) m h (fun y hy => ha y (by simp [hy]))
      refine ⟨by rw [h1]; simp; omega, fun _ => ?_⟩
      cases a with
      | nil =>
        simp only [pgo, Prod.mk.injEq, Option.some.injEq] at h
        rw [← h.1]
        exact take_pos ht (ha x (by simp))
      | cons y a => exact h2 (by simp)
/-- the law's wrong lines -/
def badL (k : Nat) : By := match k with
  | 0 => [110, 111, 110, 115, 101, 110, 115, 101]
  | 1 => [97, 112, 112, 108, 101, 116, 32, 97]
  | 2 => [109, 101, 116, 104, 111, 100, 32, 115, 111, 114, 116]
  | 3 => [112, 117, 115, 104]
  | _ => [101, 120, 112, 111, 114, 116, 32, 120]
theorem lineP_bad {D : DrM} {f r : By} (hp : ∀ D', (putP f D' (r, false)).2.2 = true) : lineP D f r = none := by
  unfold lineP
  split
  · rw [hp]
    rfl
  · rfl
theorem bad_line (k : Nat) (hk : k < 5) (D : DrM) (h : k = 1 → 1 ≤ D.pos) : takeD D (badL k) = none := by
  rcases (by omega : k = 0 ∨ k = 1 ∨ k = 2 ∨ k = 3 ∨ k = 4) with rfl | rfl | rfl | rfl | rfl
  · show takeD D ([110, 111, 110, 115, 101, 110, 115, 101] ++ tl []) = none
    rw [takeD_words D (by decide) (by simp)]
    refine lineP_bad fun D' => ?_
    unfold putP
    rw [show clsP [110, 111, 110, 115, 101, 110, 115, 101] = 6 by kernel_rfl]
    kernel_rfl
  · show takeD D (wordK 0 ++ tl [[97]]) = none
    rw [takeD_words D (wordK_word 0 (by omega)).1 (by decide)]
    unfold lineP
    rw [(wordK_word 0 (by omega)).2, show mayT 0 D.pos = false by have := h rfl; simp [mayT, rangeT]; omega]
  · show takeD D (wordK 3 ++ tl [[115, 111, 114, 116]]) = none
    rw [takeD_words D (wordK_word 3 (by omega)).1 (by decide)]
    refine lineP_bad fun D' => ?_
    unfold putP
    rw [(wordK_word 3 (by omega)).2]
    kernel_rfl
  · show takeD D ([112, 117, 115, 104] ++ tl []) = none
    rw [takeD_words D (by decide) (by simp)]
    refine lineP_bad fun D' => ?_
    unfold putP
    rw [show clsP [112, 117, 115, 104] = 6 by kernel_rfl]
    kernel_rfl
  · show takeD D (wordK 5 ++ tl [[120]]) = none
    rw [takeD_words D (wordK_word 5 (by omega)).1 (by decide)]
    refine lineP_bad fun D' => ?_
    unfold putP
    rw [(wordK_word 5 (by omega)).2]
    kernel_rfl
/-- a wrong line among an image's is told by its number -/
theorem parse_bad {I : ImgM} (h : imgB insB I = true) (k : Nat) (hk : k < 5) (at' : Nat) (ha : at' ≤ (linesN I).length) (h0 : at' = 0 → k ≠ 1) :
    parseT (flat ((linesN I).take at' ++ badL k :: (linesN I).drop at')) = (zImg, (at' : Int) + 1, 5) := by
  obtain ⟨q, e⟩ := pgo_lines h 0
  have hn := noLf_lines h
  have hb : NoLf (badL k) := by
    rcases (by omega : k = 0 ∨ k = 1 ∨ k = 2 ∨ k = 3 ∨ k = 4) with rfl | rfl | rfl | rfl | rfl <;> decide
  have hlen : ((linesN I).take at').length = at' := by simp; omega
  unfold parseT
  rw [lines_of_flat _ (fun x hx => by
    rcases List.mem_append.1 hx with hx | hx
    · exact (hn x (List.mem_of_mem_take hx)).1
    · rcases List.mem_cons.1 hx with rfl | hx
      · exact hb
      · exact (hn x (List.mem_of_mem_drop hx)).1)]
  rw [← List.take_append_drop at' (linesN I), pgo_app] at e
  rw [pgo_app]
  obtain ⟨r, hr⟩ : ∃ r, r = pgo d0 0 ((linesN I).take at') := ⟨_, rfl⟩
  rw [← hr] at e ⊢
  obtain ⟨o, m⟩ := r
  cases o with
  | none => simp at e
  | some D' =>
    simp only
    obtain ⟨h1, h2⟩ := pgo_pos _ _ _ _ _ hr.symm (fun x hx => (hn x (List.mem_of_mem_take hx)).2)
    rw [hlen] at h1
    rw [pgo_none (bad_line k hk D' (fun hk1 => h2 (fun e0 => by
      rw [e0] at hlen
      exact h0 hlen.symm hk1)))]
    subst h1
    show (zImg, ((0 + at' + 1 : Nat) : Int), (5 : Int)) = _
    simp
end

section
open Go.RowKit Go.Lib
set_option linter.unusedVariables false
set_option linter.unusedSimpArgs false

theorem right_len {I : ImgM} (h : imgB insB I = true) : (linesI I).length ≤ 2000000 := by
  have hb := bnd_of h.symm
  unfold imgB at h
  simp only [Bool.and_eq_true, decide_eq_true_eq, List.all_eq_true] at h
  obtain ⟨h1, h2, ⟨h3, h4⟩, h9, ⟨h5, h6⟩, -, h7, h8⟩ := h
  have hok : ∀ m ∈ I.methods, ∀ x ∈ m.code, okIn x := fun m hm x hx => by
    have := h6 m hm
    unfold metB at this
    simp only [Bool.and_eq_true, decide_eq_true_eq, List.all_eq_true] at this
    obtain ⟨k1, k2, k3, -, -⟩ := ins_parts (this.2.2.2.2 x hx)
    exact ⟨by unfold wi64; omega, by unfold wi64; omega, by unfold wi64; omega⟩
  have e1 := flat_len fieldL 100 I.fields (fun x _ => fieldL_len x)
  have e2 := flat_len impL 1000 I.imports (fun m hm => impL_len m (hb.imp m hm).1 (hb.imp m hm).2 (by
    have := h4 m hm
    unfold impB inB at this
    simp only [Bool.and_eq_true, decide_eq_true_eq] at this
    unfold wi64
    omega))
  have e3 := flat_len metL 110000 I.methods (fun m hm => metL_len m (hb.met m hm) (hok m hm))
  have e4 := flat_len expL 100 I.exports (fun x hx => expL_len x (by
    have := h8 x hx
    unfold expB inB at this
    simp only [decide_eq_true_eq] at this
    unfold wi64
    omega))
  have e5 : (nameL I.name).length ≤ 100 := by
    unfold nameL
    rw [line2_len]
    have := hb.name
    have : I.name.data.toList.length = I.name.size := by rw [Array.length_toList]; rfl
    simp
    omega
  have b1 := hb.fields
  have b2 := hb.imports
  have b3 := hb.methods
  have b4 := hb.exports
  unfold linesI
  simp only [List.length_append]
  omega
/-- how many lines end in it -/
def cntL (l : By) : Nat := (l.filter (fun b => b == 10)).length
theorem cnt_cons (b : UInt8) (t : By) : cntL (b :: t) = (match b == 10 with | true => 1 | false => 0) + cntL t := by
  unfold cntL
  cases h : b == 10 with
  | true => rw [List.filter_cons_of_pos (by simpa using h)]; simp; omega
  | false => rw [List.filter_cons_of_neg (by simpa using h)]; simp
theorem cnt_le (l : By) : cntL l ≤ l.length := List.length_filter_le _ _
theorem cnt_app (a b : By) : cntL (a ++ b) = cntL a + cntL b := by unfold cntL; rw [List.filter_append, List.length_append]
theorem cnt_noLf {x : By} (h : NoLf x) : cntL x = 0 := by
  unfold cntL
  rw [List.filter_eq_nil_iff.2 fun b hb => by simpa using h b hb]
  rfl
theorem cnt_flat : ∀ {Ls : List By}, (∀ x ∈ Ls, NoLf x) → cntL (flat Ls) = Ls.length
  | [], _ => rfl
  | x :: Ls, h => by
    have ih := cnt_flat (Ls := Ls) (fun y hy => h y (by simp [hy]))
    rw [flat_cons, cnt_app, cnt_noLf (h x (by simp)), cnt_cons, ih]
    simp
    omega
theorem drop_step {l : By} {k : Nat} (h : k < l.length) : l.drop k = l.getD k 0 :: l.drop (k + 1) := by
  rw [List.drop_eq_getElem_cons h]
  simp [List.getD, h]
theorem take_one {l : By} {k : Nat} (h : k < l.length) : (l.drop k).take 1 = [l.getD k 0] := by
  rw [drop_step h]
  rfl
/-- a line put behind line A -/
def insL : By → Nat → Nat → By → By
  | [], _, _, _ => []
  | b :: t, m, A, bad => match b == 10 with
    | true => match decide (m + 1 = A) with
      | true => b :: (bad ++ 10 :: insL t (m + 1) A bad)
      | false => b :: insL t (m + 1) A bad
    | false => b :: insL t m A bad
theorem ins_no {b : UInt8} (h : (b == 10) = false) (t : By) (m A : Nat) (bad : By) : insL (b :: t) m A bad = b :: insL t m A bad := by
  show (match b == 10 with | true => _ | false => _) = _
  rw [h]
theorem ins_else {b : UInt8} (h : (b == 10) = true) (t : By) (m A : Nat) (bad : By) (hm : m + 1 ≠ A) : insL (b :: t) m A bad = b :: insL t (m + 1) A bad := by
  show (match b == 10 with | true => (match decide (m + 1 = A) with | true => _ | false => _) | false => _) = _
  rw [h, show decide (m + 1 = A) = false by simpa using hm]
theorem ins_here {b : UInt8} (h : (b == 10) = true) (t : By) (m A : Nat) (bad : By) (hm : m + 1 = A) : insL (b :: t) m A bad = b :: (bad ++ 10 :: insL t (m + 1) A bad) := by
  show (match b == 10 with | true => (match decide (m + 1 = A) with | true => _ | false => _) | false => _) = _
  rw [h, show decide (m + 1 = A) = true by simpa using hm]
theorem ins_line (m A : Nat) (bad t : By) : ∀ {x : By}, NoLf x → insL (x ++ 10 :: t) m A bad = x ++ insL (10 :: t) m A bad
  | [], _ => rfl
  | b :: x, h => by
    have hb : (b == 10) = false := by simpa using h b (by simp)
    rw [List.cons_append, ins_no hb, ins_line m A bad t (fun c hc => h c (by simp [hc]))]
    rfl
theorem ins_past (A : Nat) (bad : By) : ∀ {Ls : List By} {m : Nat}, (∀ x ∈ Ls, NoLf x) → A ≤ m → insL (flat Ls) m A bad = flat Ls
  | [], m, _, _ => rfl
  | x :: Ls, m, h, hm => by
    rw [flat_cons, ins_line m A bad _ (h x (by simp)), ins_else (by rfl) _ _ _ _ (by omega), ins_past A bad (fun y hy => h y (by simp [hy])) (by omega)]
theorem ins_flat (A : Nat) (bad : By) : ∀ {Ls : List By} {m : Nat}, (∀ x ∈ Ls, NoLf x) → m < A → A ≤ m + Ls.length → insL (flat Ls) m A bad = flat (Ls.take (A - m) ++ bad :: Ls.drop (A - m))
  | [], m, _, h1, h2 => by simp at h2; omega
  | x :: Ls, m, h, h1, h2 => by
    have hx := h x (by simp)
    have hLs : ∀ y ∈ Ls, NoLf y := fun y hy => h y (by simp [hy])
    rw [flat_cons, ins_line m A bad _ hx]
    by_cases he : m + 1 = A
    · rw [ins_here (by rfl) _ _ _ _ he, ins_past A bad hLs (by omega), show A - m = 1 by omega]
      simp only [List.take_succ_cons, List.take_zero, List.drop_succ_cons, List.drop_zero, List.cons_append, List.nil_append, flat_cons]
    · simp only [List.length_cons] at h2
      rw [ins_else (by rfl) _ _ _ _ he, ins_flat A bad hLs (by omega) (by omega)]
      obtain ⟨d, hd⟩ : ∃ d, A - m = d + 1 := ⟨A - m - 1, by omega⟩
      rw [hd, show A - (m + 1) = d by omega]
      simp only [List.take_succ_cons, List.drop_succ_cons, List.cons_append, flat_cons]
theorem ins_len : ∀ (l : By) (m A : Nat) (bad : By), (insL l m A bad).length ≤ l.length * (bad.length + 2)
  | [], _, _, _ => by simp [insL]
  | b :: t, m, A, bad => by
    have h1 := ins_len t (m + 1) A bad
    have h2 := ins_len t m A bad
    cases hb : b == 10 with
    | false => rw [ins_no hb]; simp only [List.length_cons, Nat.add_mul]; omega
    | true =>
      by_cases he : m + 1 = A
      · rw [ins_here hb _ _ _ _ he]; simp only [List.length_cons, List.length_append, Nat.add_mul]; omega
      · rw [ins_else hb _ _ _ _ he]; simp only [List.length_cons, Nat.add_mul]; omega
theorem badL_len (k : Nat) : (badL k).length ≤ 11 := by
  unfold badL
  split <;> simp
theorem img_openE {w : World} {v : Value} {I : ImgM} (h : Img w v I) : ∃ fa fc ia ic ma mc xa xc, v = img5 I.name (.slice fa I.fields.length fc) (.slice ia I.imports.length ic) (.slice ma I.methods.length mc) (.slice xa I.exports.length xc) := by
  obtain ⟨f, i, m, x, rfl, hf, hi, hm, hx, -⟩ := h
  obtain ⟨fa, fc, rfl, -⟩ := ints_at hf (Upd.refl _ _)
  obtain ⟨xa, xc, rfl, -⟩ := ints_at hx (Upd.refl _ _)
  obtain ⟨p, ⟨ia, ic, rfl, -⟩, -⟩ := hi
  obtain ⟨p, q, r, ⟨ma, mc, rfl, -⟩, -⟩ := hm
  exact ⟨fa, fc, ia, ic, ma, mc, xa, xc, rfl⟩
end
end Go.Proofs.YtmikibcgphkcfaaGreatDoor

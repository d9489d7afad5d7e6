/- What the reference's Read reads, plainly, and that it is what the program's own reads. -/
import Derived.Test.YtmbdfmgidnjgeaaGreatDoorIbj
import Derived.Test.YtmbdfmgidnjgeaaGreatDoorRya
namespace Go.Proofs.YtmbdfmgidnjgeaaGreatDoor
open Go.RowKit Go.Lib
set_option linter.unusedVariables false

/-- a reader's state: behind a lack nothing is left -/
def St (p : Bool × List Int) : Prop := (p.1 = true → p.2 = []) ∧ Byts p.2
/-- the same state behind; the same value where nothing lacks -/
def Ag {α : Type} (p q : α × Bool × List Int) : Prop := p.2 = q.2 ∧ (q.2.1 = false → p.1 = q.1)
theorem Ag.refl {α : Type} (p : α × Bool × List Int) : Ag p p := ⟨rfl, fun _ => rfl⟩
theorem st_take {lk : Bool} {ys : List Int} (h : St (lk, ys)) (n : Int) : St (takeP n lk ys).2 := by
  refine ⟨fun hl => ?_, fun y hy => h.2 y (takeP_sub ys n lk y hy)⟩
  unfold takeP at hl ⊢
  split
  · rfl
  · rename_i h1
    rw [if_neg h1] at hl
    have := h.1 hl
    simp only at this ⊢
    subst this
    simp
theorem st_short {lk : Bool} {ys : List Int} (h : St (lk, ys)) : St (shortP lk ys).2 := st_take (st_take h 1) _
theorem take_false {n : Int} {lk : Bool} {ys : List Int} (h : (takeP n lk ys).2.1 = false) : lk = false := by
  unfold takeP at h
  split at h
  · cases h
  · exact h
theorem short_false {lk : Bool} {ys : List Int} (h : (shortP lk ys).2.1 = false) : lk = false := take_false (take_false h)
theorem take_lack {n : Int} {lk : Bool} {ys : List Int} (hs : St (lk, ys)) (hn : 0 < n) (h : (takeP n lk ys).2.1 = true) : (takeP n lk ys).1 = [] := by
  unfold takeP at h ⊢
  split
  · rfl
  · rename_i h1
    rw [if_neg h1] at h
    have := hs.1 h
    simp only at this
    subst this
    simp
theorem take_true (n : Int) (hn : 0 ≤ n) : takeP n true [] = ([], true, []) := by
  unfold takeP
  split <;> simp
theorem short_none : shortP true [] = ([], true, []) := by
  unfold shortP
  rw [take_true 1 (by omega)]
  exact take_true _ (by simp [beN])
theorem rList_ag {lk : Bool} {ys : List Int} (h : St (lk, ys)) : Ag (rListP lk ys) (shortP lk ys) := by
  cases lk with
  | false => exact rListP_short h.2
  | true =>
    obtain rfl : ys = [] := h.1 rfl
    rw [short_none]
    unfold rListP
    rw [take_true 1 (by omega)]
    exact ⟨by rw [listP_lacks], fun h => by cases h⟩

def rImpP (lk : Bool) (ys : List Int) : ImpM × Bool × List Int :=
  let a := shortP lk ys
  let b := takeP 1 a.2.1 a.2.2
  let c := rListP b.2.1 b.2.2
  let d := takeP 1 c.2.1 c.2.2
  (⟨strOfNums a.1, beN b.1, c.1, beN d.1⟩, d.2)
theorem rImp_ag {lk : Bool} {ys : List Int} (h : St (lk, ys)) : Ag (rImpP lk ys) (impP lk ys) := by
  have h1 := st_short h
  have h2 := st_take h1 1
  obtain ⟨e, f⟩ := rList_ag h2
  unfold rImpP impP
  simp only
  rw [e]
  refine ⟨rfl, fun hl => ?_⟩
  have := f (take_false hl)
  simp only [this]
theorem st_imp {lk : Bool} {ys : List Int} (h : St (lk, ys)) : St (impP lk ys).2 := st_take (st_short (st_take (st_short h) 1)) 1
theorem imp_none : (impP true []).2 = (true, []) := by decide
theorem st_eta {p : Bool × List Int} (h : St p) : St (p.1, p.2) := h
attribute [local irreducible] impP rImpP
theorem impsGo_none : ∀ n, (impsGo n true []).2 = (true, [])
  | 0 => rfl
  | n + 1 => by
    rw [impsGo, imp_none]
    exact impsGo_none n
def rImpsGo : Nat → Bool → List Int → List ImpM × Bool × List Int
  | 0, lk, ys => ([], lk, ys)
  | n + 1, lk, ys => if lk then ([], lk, ys) else ((rImpP lk ys).1 :: (rImpsGo n (rImpP lk ys).2.1 (rImpP lk ys).2.2).1, (rImpsGo n (rImpP lk ys).2.1 (rImpP lk ys).2.2).2)
theorem impsGo_false : ∀ (n : Nat) {lk : Bool} {ys : List Int}, St (lk, ys) → (impsGo n lk ys).2.1 = false → lk = false
  | n, true, ys, h, hl => by
    obtain rfl : ys = [] := h.1 rfl
    rw [impsGo_none] at hl
    cases hl
  | n, false, ys, h, hl => rfl
theorem rImps_ag : ∀ (n : Nat) {lk : Bool} {ys : List Int}, St (lk, ys) → Ag (rImpsGo n lk ys) (impsGo n lk ys)
  | 0, lk, ys, h => Ag.refl _
  | n + 1, true, ys, h => by
    obtain rfl : ys = [] := h.1 rfl
    have := impsGo_none (n + 1)
    refine ⟨by rw [this, rImpsGo]; rfl, fun hl => by rw [this] at hl; cases hl⟩
  | n + 1, false, ys, h => by
    obtain ⟨e, f⟩ := rImp_ag h
    have hs := st_eta (st_imp h)
    obtain ⟨e2, f2⟩ := rImps_ag n (lk := (impP false ys).2.1) (ys := (impP false ys).2.2) hs
    rw [rImpsGo, impsGo, if_neg (by simp), e]
    refine ⟨e2, fun hl => ?_⟩
    have h1 := impsGo_false n hs hl
    show (rImpP false ys).1 :: _ = (impP false ys).1 :: _
    rw [f h1, f2 hl]
theorem st_imps : ∀ (n : Nat) {lk : Bool} {ys : List Int}, St (lk, ys) → St (impsGo n lk ys).2
  | 0, lk, ys, h => h
  | n + 1, lk, ys, h => by
    rw [impsGo]
    exact st_imps n (st_eta (st_imp h))

def rMetP (lk : Bool) (ys : List Int) : Int × MetM × Bool × List Int :=
  let a := rListP lk ys
  let b := takeP 1 a.2.1 a.2.2
  let c := rListP b.2.1 b.2.2
  let d := takeP 1 c.2.1 c.2.2
  let g := codeGo (beN d.1).toNat d.2.1 d.2.2
  (g.1, ⟨a.1, beN b.1, c.1, g.2.1⟩, g.2.2)
theorem st_code : ∀ (n : Nat) {lk : Bool} {ys : List Int}, St (lk, ys) → (codeGo n lk ys).1 = 0 → St (codeGo n lk ys).2.2
  | 0, lk, ys, h, _ => h
  | n + 1, lk, ys, h, hz => by
    rw [codeGo] at hz ⊢
    by_cases he : errI lk ys = 0
    · rw [if_pos he] at hz ⊢
      obtain ⟨_, hy, _⟩ := instr_inv he h.2
      have hb : Byts (restI lk ys).2.2.2 := by
        have := h.2
        rw [hy] at this
        exact this.right
      exact st_code n (lk := false) (ys := (restI lk ys).2.2.2) ⟨fun h => (by cases h), hb⟩ hz
    · rw [if_neg he] at hz
      exact absurd hz he
theorem st_met {lk : Bool} {ys : List Int} (h : St (lk, ys)) (hz : (metP lk ys).1 = 0) : St (metP lk ys).2.2 := by
  have s1 := st_eta (st_short h)
  have s2 := st_eta (st_take s1 1)
  have s3 := st_eta (st_short s2)
  have s4 := st_eta (st_take s3 1)
  unfold metP at hz ⊢
  simp only at hz ⊢
  exact st_code _ s4 hz
theorem rMet_ag {lk : Bool} {ys : List Int} (h : St (lk, ys)) : (rMetP lk ys).1 = (metP lk ys).1 ∧ (rMetP lk ys).2.2 = (metP lk ys).2.2 ∧ ((metP lk ys).2.2.1 = false → (rMetP lk ys).2.1 = (metP lk ys).2.1) := by
  obtain ⟨e1, f1⟩ := rList_ag h
  have s1 := st_eta (st_short h)
  have s2 := st_eta (st_take s1 1)
  obtain ⟨e2, f2⟩ := rList_ag s2
  have s3 := st_eta (st_short s2)
  unfold rMetP metP
  simp only
  rw [e1, e2]
  refine ⟨rfl, rfl, fun hl => ?_⟩
  have hD0 : (takeP 1 (shortP (takeP 1 (shortP lk ys).2.1 (shortP lk ys).2.2).2.1 (takeP 1 (shortP lk ys).2.1 (shortP lk ys).2.2).2.2).2.1 (shortP (takeP 1 (shortP lk ys).2.1 (shortP lk ys).2.2).2.1 (takeP 1 (shortP lk ys).2.1 (shortP lk ys).2.2).2.2).2.2).2.1 = false := by
    cases hd : (takeP 1 (shortP (takeP 1 (shortP lk ys).2.1 (shortP lk ys).2.2).2.1 (takeP 1 (shortP lk ys).2.1 (shortP lk ys).2.2).2.2).2.1 (shortP (takeP 1 (shortP lk ys).2.1 (shortP lk ys).2.2).2.1 (takeP 1 (shortP lk ys).2.1 (shortP lk ys).2.2).2.2).2.2).2.1 with
    | false => rfl
    | true =>
      have h0 := take_lack s3 (by omega) hd
      rw [h0, hd] at hl
      exact absurd hl (by simp [beN, codeGo])
  have hC := take_false hD0
  have hA := take_false (short_false hC)
  rw [f1 hA, f2 hC]
theorem met_none : (metP true []).1 = 0 ∧ (metP true []).2.2 = (true, []) := by decide
attribute [local irreducible] metP rMetP
theorem metsGo_none : ∀ n, (metsGo n true []).1 = 0 ∧ (metsGo n true []).2.2 = (true, [])
  | 0 => ⟨rfl, rfl⟩
  | n + 1 => by
    rw [metsGo, if_pos met_none.1, met_none.2]
    exact metsGo_none n
def rMetsGo : Nat → Bool → List Int → Int × List MetM × Bool × List Int
  | 0, lk, ys => (0, [], lk, ys)
  | n + 1, lk, ys => if lk then (0, [], lk, ys) else
      if (rMetP lk ys).1 = 0 then ((rMetsGo n (rMetP lk ys).2.2.1 (rMetP lk ys).2.2.2).1, (rMetP lk ys).2.1 :: (rMetsGo n (rMetP lk ys).2.2.1 (rMetP lk ys).2.2.2).2.1, (rMetsGo n (rMetP lk ys).2.2.1 (rMetP lk ys).2.2.2).2.2) else ((rMetP lk ys).1, [], lk, ys)
theorem metsGo_false (n : Nat) {lk : Bool} {ys : List Int} (h : St (lk, ys)) (hl : (metsGo n lk ys).2.2.1 = false) : lk = false := by
  cases lk with
  | false => rfl
  | true =>
    obtain rfl : ys = [] := h.1 rfl
    rw [(metsGo_none n).2] at hl
    cases hl
theorem rMets_ag : ∀ (n : Nat) {lk : Bool} {ys : List Int}, St (lk, ys) → (rMetsGo n lk ys).1 = (metsGo n lk ys).1 ∧ ((metsGo n lk ys).1 = 0 → (rMetsGo n lk ys).2.2 = (metsGo n lk ys).2.2 ∧ St (metsGo n lk ys).2.2 ∧ ((metsGo n lk ys).2.2.1 = false → (rMetsGo n lk ys).2.1 = (metsGo n lk ys).2.1))
  | 0, lk, ys, h => ⟨rfl, fun _ => ⟨rfl, h, fun _ => rfl⟩⟩
  | n + 1, true, ys, h => by
    obtain rfl : ys = [] := h.1 rfl
    obtain ⟨h1, h2⟩ := metsGo_none (n + 1)
    refine ⟨by rw [h1, rMetsGo]; rfl, fun _ => ⟨by rw [h2, rMetsGo]; rfl, by rw [h2]; exact h, fun hl => by rw [h2] at hl; cases hl⟩⟩
  | n + 1, false, ys, h => by
    obtain ⟨e0, e, f⟩ := rMet_ag h
    rw [rMetsGo, metsGo, if_neg (by simp), e0, e]
    by_cases hz : (metP false ys).1 = 0
    · rw [if_pos hz, if_pos hz]
      have hs := st_eta (st_met h hz)
      obtain ⟨g0, g⟩ := rMets_ag n hs
      refine ⟨g0, fun hz2 => ?_⟩
      obtain ⟨g1, g2, g3⟩ := g hz2
      refine ⟨g1, g2, fun hl => ?_⟩
      show (rMetP false ys).2.1 :: _ = (metP false ys).2.1 :: _
      rw [f (metsGo_false n hs hl), g3 hl]
    · rw [if_neg hz, if_neg hz]
      exact ⟨rfl, fun h2 => absurd h2 hz⟩

/-- all parts behind the mark, as the reference reads them -/
def rPartsP (lk : Bool) (ys : List Int) : Int × ImgM × Bool × List Int :=
  let a := shortP lk ys
  let f := rListP a.2.1 a.2.2
  let n := takeP 1 f.2.1 f.2.2
  let i := rImpsGo (beN n.1).toNat n.2.1 n.2.2
  let k := takeP 1 i.2.1 i.2.2
  let m := rMetsGo (beN k.1).toNat k.2.1 k.2.2
  let x := rListP m.2.2.1 m.2.2.2
  (m.1, ⟨strOfNums a.1, f.1, i.1, m.2.1, x.1⟩, x.2)
theorem rParts_ag {lk : Bool} {ys : List Int} (h : St (lk, ys)) : (rPartsP lk ys).1 = (partsP lk ys).1 ∧ ((partsP lk ys).1 = 0 → (rPartsP lk ys).2.2 = (partsP lk ys).2.2 ∧ ((partsP lk ys).2.2.1 = false → (rPartsP lk ys).2.1 = (partsP lk ys).2.1)) := by
  unfold rPartsP partsP
  simp only
  have s1 := st_eta (st_short h)
  generalize shortP lk ys = A at *
  obtain ⟨e1, f1⟩ := rList_ag s1
  have s2 := st_eta (st_short s1)
  rw [e1]
  generalize rListP A.2.1 A.2.2 = F' at *
  generalize shortP A.2.1 A.2.2 = F at *
  have s3 := st_eta (st_take s2 1)
  have t3 := fun hl => take_false (n := 1) (lk := F.2.1) (ys := F.2.2) hl
  generalize takeP 1 F.2.1 F.2.2 = N at *
  obtain ⟨e2, f2⟩ := rImps_ag (beN N.1).toNat s3
  have s4 := st_eta (st_imps (beN N.1).toNat s3)
  have t4 := fun hl => impsGo_false (beN N.1).toNat s3 hl
  rw [e2]
  generalize rImpsGo (beN N.1).toNat N.2.1 N.2.2 = I' at *
  generalize impsGo (beN N.1).toNat N.2.1 N.2.2 = I at *
  have s5 := st_eta (st_take s4 1)
  have t5 := fun hl => take_false (n := 1) (lk := I.2.1) (ys := I.2.2) hl
  generalize takeP 1 I.2.1 I.2.2 = K at *
  obtain ⟨m0, m1⟩ := rMets_ag (beN K.1).toNat s5
  have t6 := fun hl => metsGo_false (beN K.1).toNat s5 hl
  generalize rMetsGo (beN K.1).toNat K.2.1 K.2.2 = M' at *
  generalize metsGo (beN K.1).toNat K.2.1 K.2.2 = M at *
  refine ⟨m0, fun hz => ?_⟩
  obtain ⟨g1, g2, g3⟩ := m1 hz
  obtain ⟨e3, f3⟩ := rList_ag (st_eta g2)
  rw [g1]
  refine ⟨e3, fun hl => ?_⟩
  have hm := short_false hl
  have hi := t5 (t6 hm)
  rw [g3 hm, f3 hl, f2 hi, f1 (t3 (t4 hi))]
/-- what the reference's Read answers: the error, or 0; the image -/
def rReadP (ys : List Int) : Int × ImgM :=
  if 8192 < ys.length then (6, imgN) else if markE ys ≠ 0 then (markE ys, imgN) else
  if (rPartsP false (takeP 5 false ys).2.2).1 ≠ 0 then ((rPartsP false (takeP 5 false ys).2.2).1, imgN) else
  if (rPartsP false (takeP 5 false ys).2.2).2.2.1 = true then (7, imgN) else
  if (rPartsP false (takeP 5 false ys).2.2).2.2.2 ≠ [] ∨ imgB insB (rPartsP false (takeP 5 false ys).2.2).2.1 = false then (5, imgN) else (0, (rPartsP false (takeP 5 false ys).2.2).2.1)
/-- any bytes read the same -/
theorem rRead_eq {ys : List Int} (hb : Byts ys) : rReadP ys = readP ys := by
  have h : St (false, (takeP 5 false ys).2.2) := ⟨fun h => (by cases h), fun y hy => hb y (takeP_sub ys 5 false y hy)⟩
  obtain ⟨e0, e1⟩ := rParts_ag h
  unfold rReadP readP
  rw [e0]
  generalize rPartsP false (takeP 5 false ys).2.2 = R at *
  generalize partsP false (takeP 5 false ys).2.2 = Q at *
  by_cases h1 : 8192 < ys.length
  · rw [if_pos h1, if_pos h1]
  · rw [if_neg h1, if_neg h1]
    by_cases h2 : markE ys ≠ 0
    · rw [if_pos h2, if_pos h2]
    · rw [if_neg h2, if_neg h2]
      by_cases h3 : Q.1 ≠ 0
      · rw [if_pos h3, if_pos h3]
      · rw [if_neg h3, if_neg h3]
        obtain ⟨g1, g2⟩ := e1 (by simpa using h3)
        rw [g1]
        by_cases h4 : Q.2.2.1 = true
        · rw [if_pos h4, if_pos h4]
        · rw [if_neg h4, if_neg h4, g2 (by simpa using h4)]
end Go.Proofs.YtmbdfmgidnjgeaaGreatDoor

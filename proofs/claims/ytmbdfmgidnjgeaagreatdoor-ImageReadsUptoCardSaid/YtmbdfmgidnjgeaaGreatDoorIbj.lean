/- What was laid of an image is read back, and what is read is laid as the same bytes: lists alone. What is read of bytes is laid as the same bytes; bytes that end early are none: lists alone. -/
import Derived.Test.YtmbdfmgidnjgeaaGreatDoorIy
import Derived.Test.YtmbdfmgidnjgeaaGreatDoorCBackP
namespace Go.Proofs.YtmbdfmgidnjgeaaGreatDoor
section
open Go.RowKit Go.Lib
set_option linter.unusedVariables false

theorem takeP_app (L l : List Int) (n : Int) (hn : n = L.length) : takeP n false (L ++ l) = (L, false, l) := by
  subst hn
  unfold takeP
  rw [if_neg (by simp; omega)]
  simp
theorem short_app (L l : List Int) (n : Int) (hn : n = L.length) : shortP false (n :: (L ++ l)) = (L, false, l) := by
  unfold shortP
  rw [take1]
  simp only [beN, List.foldl]
  exact takeP_app L l _ (by omega)
theorem numsL_eq {L : List Int} (hl : L.length < 256) (h : ∀ y ∈ L, 0 ≤ y ∧ y ≤ 255) : numsL L = (L.length : Int) :: L := by
  unfold numsL
  rw [Int.emod_eq_of_lt (by omega) (by omega)]
  congr 1
  have e : L.map (· % 256) = L.map id := List.map_congr_left (fun y hy => by
    have := h y hy
    simp only [id]
    omega)
  rw [e, List.map_id]
theorem kinds_fit {L : List Int} {k : Int} (h : kindsB L k = true) (hk : k ≤ 200) : L.length < 256 ∧ ∀ y ∈ L, 0 ≤ y ∧ y ≤ 255 := by
  unfold kindsB at h
  rw [Bool.and_eq_true, decide_eq_true_eq, List.all_eq_true] at h
  refine ⟨by omega, fun y hy => ?_⟩
  have := h.2 y hy
  unfold kindB at this
  rw [decide_eq_true_eq] at this
  omega
theorem call_fit {ps : List Int} {r : Int} (h : callB ps r = true) : (ps.length < 256 ∧ ∀ y ∈ ps, 0 ≤ y ∧ y ≤ 255) ∧ 0 ≤ r ∧ r ≤ 4 := by
  unfold callB at h
  rw [Bool.and_eq_true, Bool.or_eq_true] at h
  refine ⟨kinds_fit h.1 (by omega), ?_⟩
  rcases h.2 with h | h
  · have : r = 0 := by simpa using h
    omega
  · unfold kindB at h
    rw [decide_eq_true_eq] at h
    omega
theorem nm_fit {s : ByteArray} (h : nmB s = true) : 1 ≤ s.size ∧ s.size ≤ 16 := by
  unfold nmB at h
  rw [Bool.and_eq_true, decide_eq_true_eq] at h
  exact h.1
theorem imp_fit {m : ImpM} (h : impB m = true) : (1 ≤ m.name.size ∧ m.name.size ≤ 16) ∧ (0 ≤ m.exp ∧ m.exp ≤ 3) ∧ (m.params.length < 256 ∧ ∀ y ∈ m.params, 0 ≤ y ∧ y ≤ 255) ∧ 0 ≤ m.res ∧ m.res ≤ 4 := by
  unfold impB inB at h
  rw [Bool.and_eq_true, Bool.and_eq_true, decide_eq_true_eq] at h
  exact ⟨nm_fit h.1, h.2.1, call_fit h.2.2⟩
theorem met_fit {m : MetM} (h : metB insB m = true) : (m.params.length < 256 ∧ ∀ y ∈ m.params, 0 ≤ y ∧ y ≤ 255) ∧ (0 ≤ m.res ∧ m.res ≤ 4) ∧ (m.locals.length < 256 ∧ ∀ y ∈ m.locals, 0 ≤ y ∧ y ≤ 255) ∧ (0 < m.code.length ∧ m.code.length ≤ 120) ∧ ∀ i ∈ m.code, insB i = true := by
  unfold metB at h
  rw [Bool.and_eq_true, Bool.and_eq_true, Bool.and_eq_true, Bool.and_eq_true, decide_eq_true_eq, decide_eq_true_eq, List.all_eq_true] at h
  have hc := call_fit h.1
  exact ⟨hc.1, hc.2, kinds_fit h.2.1 (by omega), ⟨h.2.2.1, h.2.2.2.1⟩, h.2.2.2.2⟩
theorem md {x : Int} (h0 : 0 ≤ x) (h1 : x ≤ 255) : x % 256 = x := Int.emod_eq_of_lt h0 (by omega)

theorem impP_back {m : ImpM} (h : impB m = true) (more : List Int) : impP false (impL m ++ more) = (m, false, more) := by
  obtain ⟨h1, h2, h3, h4⟩ := imp_fit h
  have e : impL m ++ more = (m.name.size : Int) :: (nums m.name ++ (m.exp :: ((m.params.length : Int) :: (m.params ++ (m.res :: more))))) := by
    unfold impL nameL
    rw [numsL_eq h3.1 h3.2, md (x := m.exp) (by omega) (by omega), md (x := m.res) (by omega) (by omega)]
    simp
  have s1 := short_app (nums m.name) (m.exp :: ((m.params.length : Int) :: (m.params ++ (m.res :: more)))) (m.name.size : Int) (by rw [nums_len])
  have s2 := short_app m.params (m.res :: more) (m.params.length : Int) rfl
  simp only [impP, e, s1, s2, take1, beN, List.foldl, str_nums]
  simp
theorem impsGo_back (L : List ImpM) (h : ∀ m ∈ L, impB m = true) (more : List Int) : impsGo L.length false (impsL L ++ more) = (L, false, more) := by
  induction L with
  | nil => rfl
  | cons m L ih =>
    have e : impsL (m :: L) ++ more = impL m ++ (impsL L ++ more) := by simp [impsL]
    rw [List.length_cons, impsGo, e, impP_back (h m (by simp))]
    simp only
    rw [ih (fun x hx => h x (by simp [hx]))]
theorem codeGo_back (L : List InsM) (h : ∀ i ∈ L, insB i = true) (more : List Int) : codeGo L.length false (codeL L ++ more) = (0, L, false, more) := by
  induction L with
  | nil => rfl
  | cons i L ih =>
    have e : codeL (i :: L) ++ more = layB i.op i.a i.b ++ (codeL L ++ more) := by simp [codeL]
    obtain ⟨r1, r2, r3⟩ := read_back (op := i.op) (a := i.a) (b := i.b) (h i (by simp)) (codeL L ++ more)
    rw [List.length_cons, codeGo, e, if_pos r3, r1, r2]
    simp only
    rw [ih (fun x hx => h x (by simp [hx]))]
theorem metP_back {m : MetM} (h : metB insB m = true) (more : List Int) : metP false (metL m ++ more) = (0, m, false, more) := by
  obtain ⟨h1, h2, h3, h4, h5⟩ := met_fit h
  have e : metL m ++ more = (m.params.length : Int) :: (m.params ++ (m.res :: ((m.locals.length : Int) :: (m.locals ++ ((m.code.length : Int) :: (codeL m.code ++ more)))))) := by
    unfold metL
    rw [numsL_eq h1.1 h1.2, numsL_eq h3.1 h3.2, md (x := m.res) (by omega) (by omega), md (x := (m.code.length : Int)) (by omega) (by omega)]
    simp
  have s1 := short_app m.params (m.res :: ((m.locals.length : Int) :: (m.locals ++ ((m.code.length : Int) :: (codeL m.code ++ more))))) (m.params.length : Int) rfl
  have s2 := short_app m.locals ((m.code.length : Int) :: (codeL m.code ++ more)) (m.locals.length : Int) rfl
  have s3 := codeGo_back m.code h5 more
  have s4 : (256 * 0 + (m.code.length : Int)).toNat = m.code.length := by omega
  simp only [metP, e, s1, s2, take1, beN, List.foldl, s4, s3]
  simp
theorem metsGo_back (L : List MetM) (h : ∀ m ∈ L, metB insB m = true) (more : List Int) : metsGo L.length false (metsL L ++ more) = (0, L, false, more) := by
  induction L with
  | nil => rfl
  | cons m L ih =>
    have e : metsL (m :: L) ++ more = metL m ++ (metsL L ++ more) := by simp [metsL]
    rw [List.length_cons, metsGo, e, metP_back (h m (by simp))]
    simp only [if_true]
    rw [ih (fun x hx => h x (by simp [hx]))]
structure ImgFit (I : ImgM) : Prop where
  name : 1 ≤ I.name.size ∧ I.name.size ≤ 16
  fields : I.fields.length ≤ 8 ∧ ∀ y ∈ I.fields, 0 ≤ y ∧ y ≤ 255
  imps : I.imports.length ≤ 4 ∧ ∀ m ∈ I.imports, impB m = true
  mets : (0 < I.methods.length ∧ I.methods.length ≤ 8) ∧ ∀ m ∈ I.methods, metB insB m = true
  exps : I.exports.length ≤ 4 ∧ ∀ y ∈ I.exports, 0 ≤ y ∧ y ≤ 255
theorem img_fit {I : ImgM} (h : imgB insB I = true) : ImgFit I := by
  unfold imgB at h
  simp only [Bool.and_eq_true, decide_eq_true_eq, List.all_eq_true] at h
  obtain ⟨h1, h2, ⟨h3, h4⟩, h5, ⟨h6, h7⟩, h8, h9, h10⟩ := h
  have hf := kinds_fit h2 (by omega)
  have hf2 : (I.fields.length : Int) ≤ 8 := by
    unfold kindsB at h2
    rw [Bool.and_eq_true, decide_eq_true_eq] at h2
    exact h2.1
  refine ⟨nm_fit h1, ⟨by omega, hf.2⟩, ⟨h3, h4⟩, ⟨⟨h5, h6⟩, h7⟩, ⟨h9, fun y hy => ?_⟩⟩
  have := h10 y hy
  unfold expB inB at this
  rw [decide_eq_true_eq] at this
  omega
/-- what stands behind the mark -/
def partsL (I : ImgM) : List Int := nameL I.name ++ (numsL I.fields ++ ([(I.imports.length : Int) % 256] ++ (impsL I.imports ++ ([(I.methods.length : Int) % 256] ++ (metsL I.methods ++ numsL I.exports)))))
theorem imgL_eq (I : ImgM) : imgL I = markL ++ partsL I := rfl
theorem partsP_back {I : ImgM} (h : ImgFit I) (more : List Int) : partsP false (partsL I ++ more) = (0, I, false, more) := by
  obtain ⟨h1, h2, h3, h4, h5⟩ := h
  have e : partsL I ++ more = (I.name.size : Int) :: (nums I.name ++ ((I.fields.length : Int) :: (I.fields ++ ((I.imports.length : Int) :: (impsL I.imports ++ ((I.methods.length : Int) :: (metsL I.methods ++ ((I.exports.length : Int) :: (I.exports ++ more))))))))) := by
    unfold partsL nameL
    rw [numsL_eq (by omega) h2.2, numsL_eq (by omega) h5.2, md (x := (I.imports.length : Int)) (by omega) (by omega), md (x := (I.methods.length : Int)) (by omega) (by omega)]
    simp
  have s1 := short_app (nums I.name) ((I.fields.length : Int) :: (I.fields ++ ((I.imports.length : Int) :: (impsL I.imports ++ ((I.methods.length : Int) :: (metsL I.methods ++ ((I.exports.length : Int) :: (I.exports ++ more)))))))) (I.name.size : Int) (by rw [nums_len])
  have s2 := short_app I.fields ((I.imports.length : Int) :: (impsL I.imports ++ ((I.methods.length : Int) :: (metsL I.methods ++ ((I.exports.length : Int) :: (I.exports ++ more)))))) (I.fields.length : Int) rfl
  have s3 := impsGo_back I.imports h3.2 ((I.methods.length : Int) :: (metsL I.methods ++ ((I.exports.length : Int) :: (I.exports ++ more))))
  have s4 := metsGo_back I.methods h4.2 ((I.exports.length : Int) :: (I.exports ++ more))
  have s5 := short_app I.exports more (I.exports.length : Int) rfl
  have t1 : (256 * 0 + (I.imports.length : Int)).toNat = I.imports.length := by omega
  have t2 : (256 * 0 + (I.methods.length : Int)).toNat = I.methods.length := by omega
  simp only [partsP, e, s1, s2, s3, s4, s5, take1, beN, List.foldl, t1, t2, str_nums]
theorem imp_len {m : ImpM} (h : impB m = true) : (impL m).length ≤ 300 := by
  have h' := imp_fit h
  simp [impL, nameL, numsL, nums_len]
  omega
theorem kinds_len2 {L : List Int} {k : Int} (h : kindsB L k = true) : (L.length : Int) ≤ k := by
  unfold kindsB at h
  rw [Bool.and_eq_true, decide_eq_true_eq] at h
  exact h.1
theorem met_len {m : MetM} (h : metB insB m = true) : (metL m).length ≤ 650 := by
  have h5 := (met_fit h).2.2.2
  have hc : (codeL m.code).length ≤ m.code.length * 5 := flat_len m.code _ 5 (fun x _ => lay_len _ _ _)
  unfold metB callB at h
  simp only [Bool.and_eq_true] at h
  have k1 := kinds_len2 h.1.1
  have k2 := kinds_len2 h.2.1
  simp [metL, numsL]
  omega
theorem img_len2 {I : ImgM} (h : ImgFit I) : (imgL I).length ≤ 8100 := by
  obtain ⟨h1, h2, h3, h4, h5⟩ := h
  have hi : (impsL I.imports).length ≤ I.imports.length * 300 := flat_len I.imports _ 300 (fun x hx => imp_len (h3.2 x hx))
  have hm : (metsL I.methods).length ≤ I.methods.length * 650 := flat_len I.methods _ 650 (fun x hx => met_len (h4.2 x hx))
  have : (markL).length = 5 := rfl
  simp [imgL, nameL, numsL, nums_len, this]
  omega
theorem mark_app (l : List Int) : takeP 5 false (markL ++ l) = (markL, false, l) := takeP_app markL l 5 rfl
theorem markE_app (l : List Int) : markE (markL ++ l) = 0 := by
  unfold markE
  rw [mark_app]
  rfl
/-- what is laid is read back -/
theorem readP_back {I : ImgM} (h : imgB insB I = true) : readP (imgL I) = (0, I) := by
  have hf := img_fit h
  have hl := img_len2 hf
  have hp := partsP_back hf []
  rw [List.append_nil] at hp
  unfold readP
  rw [if_neg (by omega), imgL_eq, markE_app, mark_app]
  simp only [hp, h]
  simp
/-- with one more it is refused -/
theorem readP_more {I : ImgM} (h : imgB insB I = true) (x : Int) (l : List Int) : (readP (imgL I ++ x :: l)).1 ≠ 0 := by
  have hf := img_fit h
  have hp := partsP_back hf (x :: l)
  unfold readP
  rw [imgL_eq, List.append_assoc, markE_app, mark_app]
  simp only [hp]
  split <;> simp
end

section
open Go.RowKit Go.Lib
set_option linter.unusedVariables false

def Byts (l : List Int) : Prop := ∀ y ∈ l, 0 ≤ y ∧ y ≤ 255
theorem Byts.left {a b : List Int} (h : Byts (a ++ b)) : Byts a := fun y hy => h y (by simp [hy])
theorem Byts.right {a b : List Int} (h : Byts (a ++ b)) : Byts b := fun y hy => h y (by simp [hy])
theorem Byts.head {x : Int} {b : List Int} (h : Byts (x :: b)) : 0 ≤ x ∧ x ≤ 255 := h x (by simp)
theorem Byts.tail {x : Int} {b : List Int} (h : Byts (x :: b)) : Byts b := fun y hy => h y (by simp [hy])
theorem nums_str {l : List Int} (h : Byts l) : nums (strOfNums l) = l := by
  refine strOf_inj _ _ (nums_byte _) h ?_
  rw [str_nums]
theorem takeP_inv {n : Int} {lk : Bool} {ys A r : List Int} (h : takeP n lk ys = (A, false, r)) : lk = false ∧ ys = A ++ r ∧ (A.length : Int) = n := by
  unfold takeP at h
  split at h
  · simp at h
  · rename_i hn
    simp only [Prod.mk.injEq] at h
    obtain ⟨rfl, rfl, rfl⟩ := h
    refine ⟨rfl, (List.take_append_drop _ _).symm, ?_⟩
    rw [List.length_take]
    omega
theorem take1_inv {lk : Bool} {ys A r : List Int} (h : takeP 1 lk ys = (A, false, r)) : lk = false ∧ ∃ x, A = [x] ∧ ys = x :: r := by
  obtain ⟨h1, h2, h3⟩ := takeP_inv h
  obtain ⟨x, rfl⟩ := List.length_eq_one_iff.1 (show A.length = 1 by omega)
  exact ⟨h1, x, rfl, h2⟩
theorem short_inv {lk : Bool} {ys A r : List Int} (h : shortP lk ys = (A, false, r)) : lk = false ∧ ys = (A.length : Int) :: (A ++ r) := by
  unfold shortP at h
  rcases h1 : takeP 1 lk ys with ⟨B, lb, rb⟩
  rw [h1] at h
  obtain ⟨rfl, rfl, h3⟩ := takeP_inv h
  obtain ⟨rfl, x, rfl, rfl⟩ := take1_inv h1
  simp only [beN, List.foldl] at h3
  exact ⟨rfl, by rw [h3]; simp⟩
theorem numsL_byts {A : List Int} {r : List Int} (h : Byts ((A.length : Int) :: (A ++ r))) : numsL A = (A.length : Int) :: A :=
  numsL_eq (by have := h.head; omega) h.tail.left
/-- what lacks goes on lacking -/
theorem takeP_true (n : Int) (zs : List Int) : (takeP n true zs).2.1 = true := by
  unfold takeP
  split <;> rfl
theorem short_true (zs : List Int) : (shortP true zs).2.1 = true := by
  unfold shortP
  rw [takeP_true]
  exact takeP_true _ _
theorem impP_true (zs : List Int) : (impP true zs).2.1 = true := by
  simp only [impP, short_true, takeP_true]
theorem impsGo_true (n : Nat) : ∀ zs : List Int, (impsGo n true zs).2.1 = true := by
  induction n with
  | zero => intro zs; rfl
  | succ n ih =>
    intro zs
    rw [impsGo, impP_true]
    exact ih _
theorem rest_true (zs : List Int) : (restI true zs).2.2.1 = true := by
  unfold restI argI tailI
  simp only [takeP_true]
  repeat' split
  all_goals rfl
theorem codeGo_true (n : Nat) (zs : List Int) : (codeGo n true zs).2.2.1 = true := by
  cases n with
  | zero => rfl
  | succ n =>
    have he : errI true zs = 7 := by
      unfold errI
      rw [if_pos (rest_true zs)]
    rw [codeGo, if_neg (by omega)]
theorem metP_true (zs : List Int) : (metP true zs).2.2.1 = true := by
  simp only [metP, short_true, takeP_true, codeGo_true]
theorem metsGo_true (n : Nat) : ∀ zs : List Int, (metsGo n true zs).2.2.1 = true := by
  induction n with
  | zero => intro zs; rfl
  | succ n ih =>
    intro zs
    rw [metsGo]
    split
    · rw [metP_true]
      exact ih _
    · rfl
theorem off_of {lk : Bool} {f : Bool → Bool} (h : f lk = false) (ht : f true = true) : lk = false := by
  cases lk with
  | false => rfl
  | true => rw [ht] at h; simp at h
theorem impP_inv {lk : Bool} {ys r : List Int} {m : ImpM} (h : impP lk ys = (m, false, r)) (hb : Byts ys) : lk = false ∧ ys = impL m ++ r := by
  unfold impP at h
  rcases h1 : shortP lk ys with ⟨A, la, ra⟩
  simp only [h1] at h
  rcases h2 : takeP 1 la ra with ⟨B, lb, rb⟩
  simp only [h2] at h
  rcases h3 : shortP lb rb with ⟨C, lc, rc⟩
  simp only [h3] at h
  rcases h4 : takeP 1 lc rc with ⟨D, ld, rd⟩
  simp only [h4, Prod.mk.injEq] at h
  obtain ⟨rfl, rfl, rfl⟩ := h
  obtain ⟨rfl, z, rfl, rfl⟩ := take1_inv h4
  obtain ⟨rfl, rfl⟩ := short_inv h3
  obtain ⟨rfl, x, rfl, rfl⟩ := take1_inv h2
  obtain ⟨rfl, rfl⟩ := short_inv h1
  refine ⟨rfl, ?_⟩
  have hA := hb.tail.left
  have hB := hb.tail.right
  have hC := numsL_byts hB.tail
  have hz := (hB.tail.tail.right).head
  have hx := hB.head
  have hn := nums_str hA
  have hs : ((strOfNums A).size : Int) = A.length := by rw [← nums_len, hn]
  unfold impL nameL
  simp only [beN, List.foldl, hs, hn, hC]
  rw [md (x := 256 * 0 + x) (by omega) (by omega), md (x := 256 * 0 + z) (by omega) (by omega)]
  simp
theorem impsGo_inv (n : Nat) : ∀ {lk : Bool} {ys r : List Int} {L : List ImpM}, impsGo n lk ys = (L, false, r) → Byts ys → lk = false ∧ ys = impsL L ++ r ∧ L.length = n := by
  induction n with
  | zero =>
    intro lk ys r L h hb
    simp only [impsGo, Prod.mk.injEq] at h
    obtain ⟨rfl, rfl, rfl⟩ := h
    exact ⟨rfl, rfl, rfl⟩
  | succ n ih =>
    intro lk ys r L h hb
    rw [impsGo] at h
    rcases h1 : impP lk ys with ⟨m, la, ra⟩
    simp only [h1] at h
    rcases h2 : impsGo n la ra with ⟨M, lb, rb⟩
    simp only [h2, Prod.mk.injEq] at h
    obtain ⟨rfl, rfl, rfl⟩ := h
    have hbr : la = false → Byts ra := fun hl => by
      subst hl
      exact ((impP_inv h1 hb).2 ▸ hb).right
    have hla : la = false := off_of (f := fun l => (impsGo n l ra).2.1) (by rw [h2]) (impsGo_true n ra)
    subst hla
    obtain ⟨hl, e1⟩ := impP_inv h1 hb
    obtain ⟨-, e2, e3⟩ := ih h2 (hbr rfl)
    refine ⟨hl, ?_, by simp [e3]⟩
    rw [e1, e2]
    simp [impsL]
theorem instr_inv {lk : Bool} {ys : List Int} (h : errI lk ys = 0) (hb : Byts ys) : lk = false ∧ ys = layB (opI lk ys) (restI lk ys).1 (restI lk ys).2.1 ++ (restI lk ys).2.2.2 ∧ (restI lk ys).2.2.1 = false := by
  unfold errI at h
  split at h
  · omega
  rename_i h0
  split at h
  case isFalse => omega
  rename_i ho
  have h0' : (restI lk ys).2.2.1 = false := by simpa using h0
  clear h h0
  unfold restI opI at *
  rcases h1 : takeP 1 lk ys with ⟨A, la, ra⟩
  simp only [h1] at h0' ho ⊢
  generalize hop : beN A = op at *
  have key : la = false → lk = false ∧ ys = op :: ra := fun e => by
    subst e
    obtain ⟨rfl, x, rfl, rfl⟩ := take1_inv h1
    simp only [beN, List.foldl] at hop
    exact ⟨rfl, by rw [← hop]; simp⟩
  have hm : op % 256 = op := by omega
  unfold argI at h0' ⊢
  unfold layB
  rw [hm]
  by_cases c1 : op = 1
  · simp only [if_pos c1] at h0' ⊢
    rcases h2 : takeP 4 la ra with ⟨B, lb, rb⟩
    simp only [h2] at h0' ⊢
    subst h0'
    obtain ⟨rfl, rfl, hl⟩ := takeP_inv h2
    obtain ⟨k1, rfl⟩ := key rfl
    match B, hl with
    | [b0, b1, b2, b3], _ =>
      have p0 := hb b0 (by simp)
      have p1 := hb b1 (by simp)
      have p2 := hb b2 (by simp)
      have p3 := hb b3 (by simp)
      refine ⟨k1, ?_, rfl⟩
      simp only [beN, List.foldl]
      generalize hv : (256 * (256 * (256 * (256 * 0 + b0) + b1) + b2) + b3 : Int) = v
      have e0 : sgn v / 16777216 % 256 = b0 := by unfold sgn; split <;> omega
      have e1 : sgn v / 65536 % 256 = b1 := by unfold sgn; split <;> omega
      have e2 : sgn v / 256 % 256 = b2 := by unfold sgn; split <;> omega
      have e3 : sgn v % 256 = b3 := by unfold sgn; split <;> omega
      rw [e0, e1, e2, e3]
      simp
  · by_cases c2 : op = 23 ∨ op = 24
    · simp only [if_neg c1, if_pos c2] at h0' ⊢
      rcases h2 : takeP 2 la ra with ⟨B, lb, rb⟩
      simp only [h2] at h0' ⊢
      subst h0'
      obtain ⟨rfl, rfl, hl⟩ := takeP_inv h2
      obtain ⟨k1, rfl⟩ := key rfl
      match B, hl with
      | [b0, b1], _ =>
        have p0 := hb b0 (by simp)
        have p1 := hb b1 (by simp)
        refine ⟨k1, ?_, rfl⟩
        simp only [beN, List.foldl]
        have e0 : (256 * (256 * 0 + b0) + b1) / 256 % 256 = b0 := by omega
        have e1 : (256 * (256 * 0 + b0) + b1) % 256 = b1 := by omega
        rw [e0, e1]
        simp
    · simp only [if_neg c1, if_neg c2] at h0' ⊢
      unfold tailI at h0' ⊢
      unfold tailB
      rcases ops3 op with q | q | q
      · simp only [q] at h0' ⊢
        simp at h0' ⊢
        exact ⟨(key h0').1, (key h0').2, h0'⟩
      · simp only [q] at h0' ⊢
        simp only [show ¬ ((1 : Int) = 2) by omega, if_false, if_true] at h0' ⊢
        rcases h2 : takeP 1 la ra with ⟨B, lb, rb⟩
        simp only [h2] at h0' ⊢
        subst h0'
        obtain ⟨rfl, x, rfl, rfl⟩ := take1_inv h2
        obtain ⟨k1, rfl⟩ := key rfl
        have p0 := hb x (by simp)
        refine ⟨k1, ?_, rfl⟩
        simp only [beN, List.foldl]
        have e0 : (256 * 0 + x) % 256 = x := by omega
        rw [e0]
        simp
      · simp only [q, if_true] at h0' ⊢
        rcases h2 : takeP 1 la ra with ⟨B, lb, rb⟩
        simp only [h2] at h0' ⊢
        rcases h3 : takeP 1 lb rb with ⟨C, lc, rc⟩
        simp only [h3] at h0' ⊢
        subst h0'
        obtain ⟨rfl, z, rfl, rfl⟩ := take1_inv h3
        obtain ⟨rfl, x, rfl, rfl⟩ := take1_inv h2
        obtain ⟨k1, rfl⟩ := key rfl
        have p0 := hb x (by simp)
        have p1 := hb z (by simp)
        refine ⟨k1, ?_, rfl⟩
        simp only [beN, List.foldl]
        have e0 : (256 * 0 + x) % 256 = x := by omega
        have e1 : (256 * 0 + z) % 256 = z := by omega
        rw [e0, e1]
        simp
theorem codeGo_inv (n : Nat) : ∀ {lk : Bool} {ys r : List Int} {L : List InsM}, codeGo n lk ys = (0, L, false, r) → Byts ys → lk = false ∧ ys = codeL L ++ r ∧ L.length = n := by
  induction n with
  | zero =>
    intro lk ys r L h hb
    simp only [codeGo, Prod.mk.injEq] at h
    obtain ⟨-, rfl, rfl, rfl⟩ := h
    exact ⟨rfl, rfl, rfl⟩
  | succ n ih =>
    intro lk ys r L h hb
    rw [codeGo] at h
    by_cases he : errI lk ys = 0
    · rw [if_pos he] at h
      obtain ⟨k1, k2, k3⟩ := instr_inv he hb
      rcases h2 : codeGo n false (restI lk ys).2.2.2 with ⟨e, M, lb, rb⟩
      simp only [h2, Prod.mk.injEq] at h
      obtain ⟨rfl, rfl, rfl, rfl⟩ := h
      obtain ⟨-, e2, e3⟩ := ih h2 (k2 ▸ hb).right
      refine ⟨k1, ?_, by simp [e3]⟩
      rw [e2] at k2
      simp only [codeL, List.flatMap_cons, List.append_assoc] at k2 ⊢
      exact k2
    · rw [if_neg he] at h
      simp only [Prod.mk.injEq] at h
      exact absurd h.1 he
theorem metP_inv {lk : Bool} {ys r : List Int} {m : MetM} (h : metP lk ys = (0, m, false, r)) (hb : Byts ys) : lk = false ∧ ys = metL m ++ r := by
  unfold metP at h
  rcases h1 : shortP lk ys with ⟨A, la, ra⟩
  simp only [h1] at h
  rcases h2 : takeP 1 la ra with ⟨B, lb, rb⟩
  simp only [h2] at h
  rcases h3 : shortP lb rb with ⟨C, lc, rc⟩
  simp only [h3] at h
  rcases h4 : takeP 1 lc rc with ⟨D, ld, rd⟩
  simp only [h4] at h
  rcases h5 : codeGo (beN D).toNat ld rd with ⟨e, M, le, re⟩
  simp only [h5, Prod.mk.injEq] at h
  obtain ⟨rfl, rfl, rfl, rfl⟩ := h
  have lkd : ld = false := off_of (f := fun l => (codeGo (beN D).toNat l rd).2.2.1) (by rw [h5]) (codeGo_true _ rd)
  subst lkd
  obtain ⟨rfl, z, rfl, rfl⟩ := take1_inv h4
  obtain ⟨rfl, rfl⟩ := short_inv h3
  obtain ⟨rfl, x, rfl, rfl⟩ := take1_inv h2
  obtain ⟨rfl, rfl⟩ := short_inv h1
  have hB := hb.tail.right
  have hA := numsL_byts hb
  have hC := numsL_byts hB.tail
  have hz := (hB.tail.tail.right).head
  have hx := hB.head
  obtain ⟨-, e2, e3⟩ := codeGo_inv _ h5 (hB.tail.tail.right).tail
  refine ⟨rfl, ?_⟩
  unfold metL
  have hml : (M.length : Int) % 256 = z := by
    rw [e3]
    simp only [beN, List.foldl]
    omega
  simp only [beN, List.foldl, hA, hC, hml]
  rw [md (x := 256 * 0 + x) (by omega) (by omega), e2]
  simp
theorem metsGo_inv (n : Nat) : ∀ {lk : Bool} {ys r : List Int} {L : List MetM}, metsGo n lk ys = (0, L, false, r) → Byts ys → lk = false ∧ ys = metsL L ++ r ∧ L.length = n := by
  induction n with
  | zero =>
    intro lk ys r L h hb
    simp only [metsGo, Prod.mk.injEq] at h
    obtain ⟨-, rfl, rfl, rfl⟩ := h
    exact ⟨rfl, rfl, rfl⟩
  | succ n ih =>
    intro lk ys r L h hb
    rw [metsGo] at h
    rcases h1 : metP lk ys with ⟨e, m, la, ra⟩
    simp only [h1] at h
    by_cases he : e = 0
    · subst he
      simp only [if_true] at h
      rcases h2 : metsGo n la ra with ⟨e', M, lb, rb⟩
      simp only [h2, Prod.mk.injEq] at h
      obtain ⟨rfl, rfl, rfl, rfl⟩ := h
      have hla : la = false := off_of (f := fun l => (metsGo n l ra).2.2.1) (by rw [h2]) (metsGo_true n ra)
      subst hla
      obtain ⟨k1, e1⟩ := metP_inv h1 hb
      obtain ⟨-, e2, e3⟩ := ih h2 (e1 ▸ hb).right
      refine ⟨k1, ?_, by simp [e3]⟩
      rw [e1, e2]
      simp [metsL]
    · rw [if_neg he] at h
      simp only [Prod.mk.injEq] at h
      exact absurd h.1 he
theorem partsP_inv {lk : Bool} {ys r : List Int} {I : ImgM} (h : partsP lk ys = (0, I, false, r)) (hb : Byts ys) : lk = false ∧ ys = partsL I ++ r := by
  unfold partsP at h
  rcases h1 : shortP lk ys with ⟨A, la, ra⟩
  simp only [h1] at h
  rcases h2 : shortP la ra with ⟨F, lf, rf⟩
  simp only [h2] at h
  rcases h3 : takeP 1 lf rf with ⟨N, ln, rn⟩
  simp only [h3] at h
  rcases h4 : impsGo (beN N).toNat ln rn with ⟨M, li, ri⟩
  simp only [h4] at h
  rcases h5 : takeP 1 li ri with ⟨K, lq, rq⟩
  simp only [h5] at h
  rcases h6 : metsGo (beN K).toNat lq rq with ⟨e, Q, lm, rm⟩
  simp only [h6] at h
  rcases h7 : shortP lm rm with ⟨X, lx, rx⟩
  simp only [h7, Prod.mk.injEq] at h
  obtain ⟨rfl, rfl, rfl, rfl⟩ := h
  obtain ⟨rfl, rfl⟩ := short_inv h7
  have lkq : lq = false := off_of (f := fun l => (metsGo (beN K).toNat l rq).2.2.1) (by rw [h6]) (metsGo_true _ rq)
  subst lkq
  obtain ⟨rfl, z, rfl, rfl⟩ := take1_inv h5
  have lkn : ln = false := off_of (f := fun l => (impsGo (beN N).toNat l rn).2.1) (by rw [h4]) (impsGo_true _ rn)
  subst lkn
  obtain ⟨rfl, x, rfl, rfl⟩ := take1_inv h3
  obtain ⟨rfl, rfl⟩ := short_inv h2
  obtain ⟨rfl, rfl⟩ := short_inv h1
  have hA := hb.tail.left
  have hF := hb.tail.right
  have hFn := numsL_byts hF
  have hx := hF.tail.right.head
  obtain ⟨-, rfl, e3⟩ := impsGo_inv _ h4 hF.tail.right.tail
  have hz := hF.tail.right.tail.right.head
  obtain ⟨-, rfl, e5⟩ := metsGo_inv _ h6 hF.tail.right.tail.right.tail
  have hX := numsL_byts hF.tail.right.tail.right.tail.right
  have hn := nums_str hA
  have hs : ((strOfNums A).size : Int) = A.length := by rw [← nums_len, hn]
  refine ⟨rfl, ?_⟩
  have m1 : (M.length : Int) % 256 = x := by
    rw [e3]
    simp only [beN, List.foldl]
    omega
  have m2 : (Q.length : Int) % 256 = z := by
    rw [e5]
    simp only [beN, List.foldl]
    omega
  unfold partsL nameL
  simp only [hs, hn, hFn, hX, m1, m2]
  simp
theorem mark_inv {ys : List Int} (h : markE ys = 0) : ys = markL ++ (takeP 5 false ys).2.2 := by
  have hl := mark_lack h
  unfold markE at h
  rw [if_neg (by rw [hl]; simp)] at h
  split at h
  · rename_i e
    rcases q : takeP 5 false ys with ⟨A, l, r⟩
    rw [q] at hl e
    simp only at hl e
    subst hl
    subst e
    exact (takeP_inv q).2.1
  · omega
/-- what is read is right, and laid as the same bytes -/
theorem readP_inv {ys : List Int} (hb : Byts ys) (h : (readP ys).1 = 0) : imgB insB (readP ys).2 = true ∧ imgL (readP ys).2 = ys := by
  by_cases c1 : 8192 < ys.length
  · unfold readP at h
    rw [if_pos c1] at h
    simp at h
  by_cases c2 : markE ys ≠ 0
  · unfold readP at h
    rw [if_neg c1, if_pos c2] at h
    exact absurd h c2
  have hm : markE ys = 0 := by simpa using c2
  have hy := mark_inv hm
  have e : readP ys = (if (partsP false (takeP 5 false ys).2.2).1 ≠ 0 then ((partsP false (takeP 5 false ys).2.2).1, imgN) else
    if (partsP false (takeP 5 false ys).2.2).2.2.1 = true then (7, imgN) else
    if (partsP false (takeP 5 false ys).2.2).2.2.2 ≠ [] ∨ imgB insB (partsP false (takeP 5 false ys).2.2).2.1 = false then (5, imgN) else (0, (partsP false (takeP 5 false ys).2.2).2.1)) := by
    unfold readP
    rw [if_neg c1, if_neg c2]
  rw [e] at h ⊢
  clear e c1 c2
  generalize (takeP 5 false ys).2.2 = zs at *
  rcases q : partsP false zs with ⟨e, J, l, r⟩
  rw [q] at h
  simp only at h ⊢
  by_cases c3 : e ≠ 0
  · rw [if_pos c3] at h
    exact absurd h c3
  rw [if_neg c3] at h ⊢
  by_cases c4 : l = true
  · rw [if_pos c4] at h
    simp at h
  rw [if_neg c4] at h ⊢
  by_cases c5 : r ≠ [] ∨ imgB insB J = false
  · rw [if_pos c5] at h
    simp at h
  rw [if_neg c5]
  simp only [not_or, Classical.not_not, Bool.not_eq_false] at c5
  have c3' : e = 0 := by simpa using c3
  have c4' : l = false := by simpa using c4
  subst c3' c4'
  obtain ⟨-, hz⟩ := partsP_inv q (hy ▸ hb).right
  refine ⟨c5.2, ?_⟩
  rw [imgL_eq, hy, hz, c5.1]
  simp
theorem Byts.app {a b : List Int} (h : Byts a) (k : Byts b) : Byts (a ++ b) := fun y hy => (List.mem_append.1 hy).elim (h y) (k y)
theorem byts_mod (l : List Int) : Byts (l.map (· % 256)) := fun y hy => by
  obtain ⟨x, -, rfl⟩ := List.mem_map.1 hy
  omega
theorem byts_one (x : Int) : Byts [x % 256] := fun y hy => by simp at hy; omega
theorem byts_nums (L : List Int) : Byts (numsL L) := by
  unfold numsL
  intro y hy
  rcases List.mem_cons.1 hy with rfl | h
  · omega
  · exact byts_mod L y h
theorem byts_flat {α : Type} {L : List α} {f : α → List Int} (h : ∀ x ∈ L, Byts (f x)) : Byts (L.flatMap f) := fun y hy => by
  obtain ⟨x, hx, hy'⟩ := List.mem_flatMap.1 hy
  exact h x hx y hy'
theorem byts_name {s : ByteArray} (h : s.size ≤ 16) : Byts (nameL s) := by
  unfold nameL
  intro y hy
  rcases List.mem_cons.1 hy with rfl | h'
  · omega
  · exact nums_byte s y h'
theorem byts_ins (op a b : Int) : Byts (layB op a b) := by
  unfold layB tailB
  intro y hy
  rcases List.mem_cons.1 hy with rfl | h
  · omega
  · repeat' split at h
    all_goals simp at h
    all_goals omega
theorem imgL_byts {I : ImgM} (h : imgB insB I = true) : Byts (imgL I) := by
  obtain ⟨h1, h2, h3, h4, h5⟩ := img_fit h
  have hm : Byts markL := by intro y hy; simp [markL] at hy; omega
  refine hm.app ((byts_name (by omega)).app ((byts_nums _).app ((byts_one _).app (Byts.app (byts_flat fun m hm => ?_) ((byts_one _).app (Byts.app (byts_flat fun m hm => ?_) (byts_nums _)))))))
  · have := imp_fit (h3.2 m hm)
    exact (byts_name (by omega)).app ((byts_one _).app ((byts_nums _).app (byts_one _)))
  · exact (byts_nums _).app ((byts_one _).app ((byts_nums _).app ((byts_one _).app (byts_flat fun i _ => byts_ins _ _ _))))
/-- bytes that end early are none -/
theorem readP_cut {I : ImgM} (h : imgB insB I = true) {k : Nat} (hk : k < (imgL I).length) (hb : Byts (imgL I)) : (readP ((imgL I).take k)).1 ≠ 0 := by
  intro he
  have hbk : Byts ((imgL I).take k) := fun y hy => hb y (List.mem_of_mem_take hy)
  obtain ⟨h1, h2⟩ := readP_inv hbk he
  generalize (readP ((imgL I).take k)).2 = J at h1 h2
  have e : imgL I = imgL J ++ (imgL I).drop k := by rw [h2]; exact (List.take_append_drop _ _).symm
  have hd : (imgL I).drop k ≠ [] := by
    intro e0
    have := congrArg List.length e0
    rw [List.length_drop] at this
    simp at this
    omega
  cases hq : (imgL I).drop k with
  | nil => exact hd hq
  | cons x l =>
    rw [hq] at e
    have := readP_more h1 x l
    rw [← e, readP_back h] at this
    exact this rfl
end
end Go.Proofs.YtmbdfmgidnjgeaaGreatDoor

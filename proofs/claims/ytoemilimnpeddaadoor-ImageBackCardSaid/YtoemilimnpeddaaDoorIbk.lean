/- What was laid of an image is read back, and what is read is laid as the same bytes: lists alone. -/
import Derived.Test.YtoemilimnpeddaaDoorIy
import Derived.Test.YtoemilimnpeddaaDoorCBackP
namespace Go.Proofs.YtoemilimnpeddaaDoor
open Go.RowKit Go.Lib
set_option linter.unusedVariables false

theorem takeP_app (L l : List Int) (n : Int) (hn : n = L.length) : takeP n false (L ++ l) = (L, false, l) := by
  subst hn
  unfold takeP
  rw [if_neg (by simp; omega)]
  simp
theorem short_app (L l : List Int) (n : Int) (hn : n = L.length) : shortP false (n :: (L ++ l)) = (L, false, l) := by
  unfold shortP
  rw [take1]
  simp only [beN, List.foldl]
  exact takeP_app L l _ (by omega)
theorem numsL_eq {L : List Int} (hl : L.length < 256) (h : ∀ y ∈ L, 0 ≤ y ∧ y ≤ 255) : numsL L = (L.length : Int) :: L := by
  unfold numsL
  rw [Int.emod_eq_of_lt (by omega) (by omega)]
  congr 1
  have e : L.map (· % 256) = L.map id := List.map_congr_left (fun y hy => by
    have := h y hy
    simp only [id]
    omega)
  rw [e, List.map_id]
theorem kinds_fit {L : List Int} {k : Int} (h : kindsB L k = true) (hk : k ≤ 200) : L.length < 256 ∧ ∀ y ∈ L, 0 ≤ y ∧ y ≤ 255 := by
  unfold kindsB at h
  rw [Bool.and_eq_true, decide_eq_true_eq, List.all_eq_true] at h
  refine ⟨by omega, fun y hy => ?_⟩
  have := h.2 y hy
  unfold kindB at this
  rw [decide_eq_true_eq] at this
  omega
theorem call_fit {ps : List Int} {r : Int} (h : callB ps r = true) : (ps.length < 256 ∧ ∀ y ∈ ps, 0 ≤ y ∧ y ≤ 255) ∧ 0 ≤ r ∧ r ≤ 4 := by
  unfold callB at h
  rw [Bool.and_eq_true, Bool.or_eq_true] at h
  refine ⟨kinds_fit h.1 (by omega), ?_⟩
  rcases h.2 with h | h
  · have : r = 0 := by simpa using h
    omega
  · unfold kindB at h
    rw [decide_eq_true_eq] at h
    omega
theorem nm_fit {s : ByteArray} (h : nmB s = true) : 1 ≤ s.size ∧ s.size ≤ 16 := by
  unfold nmB at h
  rw [Bool.and_eq_true, decide_eq_true_eq] at h
  exact h.1
theorem imp_fit {m : ImpM} (h : impB m = true) : (1 ≤ m.name.size ∧ m.name.size ≤ 16) ∧ (0 ≤ m.exp ∧ m.exp ≤ 3) ∧ (m.params.length < 256 ∧ ∀ y ∈ m.params, 0 ≤ y ∧ y ≤ 255) ∧ 0 ≤ m.res ∧ m.res ≤ 4 := by
  unfold impB inB at h
  rw [Bool.and_eq_true, Bool.and_eq_true, decide_eq_true_eq] at h
  exact ⟨nm_fit h.1, h.2.1, call_fit h.2.2⟩
theorem met_fit {m : MetM} (h : metB insB m = true) : (m.params.length < 256 ∧ ∀ y ∈ m.params, 0 ≤ y ∧ y ≤ 255) ∧ (0 ≤ m.res ∧ m.res ≤ 4) ∧ (m.locals.length < 256 ∧ ∀ y ∈ m.locals, 0 ≤ y ∧ y ≤ 255) ∧ (0 < m.code.length ∧ m.code.length ≤ 120) ∧ ∀ i ∈ m.code, insB i = true := by
  unfold metB at h
  rw [Bool.and_eq_true, Bool.and_eq_true, Bool.and_eq_true, Bool.and_eq_true, decide_eq_true_eq, decide_eq_true_eq, List.all_eq_true] at h
  have hc := call_fit h.1
  exact ⟨hc.1, hc.2, kinds_fit h.2.1 (by omega), ⟨h.2.2.1, h.2.2.2.1⟩, h.2.2.2.2⟩
theorem md {x : Int} (h0 : 0 ≤ x) (h1 : x ≤ 255) : x % 256 = x := Int.emod_eq_of_lt h0 (by omega)

theorem impP_back {m : ImpM} (h : impB m = true) (more : List Int) : impP false (impL m ++ more) = (m, false, more) := by
  obtain ⟨h1, h2, h3, h4⟩ := imp_fit h
  have e : impL m ++ more = (m.name.size : Int) :: (nums m.name ++ (m.exp :: ((m.params.length : Int) :: (m.params ++ (m.res :: more))))) := by
    unfold impL nameL
    rw [numsL_eq h3.1 h3.2, md (x := m.exp) (by omega) (by omega), md (x := m.res) (by omega) (by omega)]
    simp
  have s1 := short_app (nums m.name) (m.exp :: ((m.params.length : Int) :: (m.params ++ (m.res :: more)))) (m.name.size : Int) (by rw [nums_len])
  have s2 := short_app m.params (m.res :: more) (m.params.length : Int) rfl
  simp only [impP, e, s1, s2, take1, beN, List.foldl, str_nums]
  simp
theorem impsGo_back (L : List ImpM) (h : ∀ m ∈ L, impB m = true) (more : List Int) : impsGo L.length false (impsL L ++ more) = (L, false, more) := by
  induction L with
  | nil => rfl
  | cons m L ih =>
    have e : impsL (m :: L) ++ more = impL m ++ (impsL L ++ more) := by simp [impsL]
    rw [List.length_cons, impsGo, e, impP_back (h m (by simp))]
    simp only
    rw [ih (fun x hx => h x (by simp [hx]))]
theorem codeGo_back (L : List InsM) (h : ∀ i ∈ L, insB i = true) (more : List Int) : codeGo L.length false (codeL L ++ more) = (0, L, false, more) := by
  induction L with
  | nil => rfl
  | cons i L ih =>
    have e : codeL (i :: L) ++ more = layB i.op i.a i.b ++ (codeL L ++ more) := by simp [codeL]
    obtain ⟨r1, r2, r3⟩ := read_back (op := i.op) (a := i.a) (b := i.b) (h i (by simp)) (codeL L ++ more)
    rw [List.length_cons, codeGo, e, if_pos r3, r1, r2]
    simp only
    rw [ih (fun x hx => h x (by simp [hx]))]
theorem metP_back {m : MetM} (h : metB insB m = true) (more : List Int) : metP false (metL m ++ more) = (0, m, false, more) := by
  obtain ⟨h1, h2, h3, h4, h5⟩ := met_fit h
  have e : metL m ++ more = (m.params.length : Int) :: (m.params ++ (m.res :: ((m.locals.length : Int) :: (m.locals ++ ((m.code.length : Int) :: (codeL m.code ++ more)))))) := by
    unfold metL
    rw [numsL_eq h1.1 h1.2, numsL_eq h3.1 h3.2, md (x := m.res) (by omega) (by omega), md (x := (m.code.length : Int)) (by omega) (by omega)]
    simp
  have s1 := short_app m.params (m.res :: ((m.locals.length : Int) :: (m.locals ++ ((m.code.length : Int) :: (codeL m.code ++ more))))) (m.params.length : Int) rfl
  have s2 := short_app m.locals ((m.code.length : Int) :: (codeL m.code ++ more)) (m.locals.length : Int) rfl
  have s3 := codeGo_back m.code h5 more
  have s4 : (256 * 0 + (m.code.length : Int)).toNat = m.code.length := by omega
  simp only [metP, e, s1, s2, take1, beN, List.foldl, s4, s3]
  simp
theorem metsGo_back (L : List MetM) (h : ∀ m ∈ L, metB insB m = true) (more : List Int) : metsGo L.length false (metsL L ++ more) = (0, L, false, more) := by
  induction L with
  | nil => rfl
  | cons m L ih =>
    have e : metsL (m :: L) ++ more = metL m ++ (metsL L ++ more) := by simp [metsL]
    rw [List.length_cons, metsGo, e, metP_back (h m (by simp))]
    simp only [if_true]
    rw [ih (fun x hx => h x (by simp [hx]))]
structure ImgFit (I : ImgM) : Prop where
  name : 1 ≤ I.name.size ∧ I.name.size ≤ 16
  fields : I.fields.length ≤ 8 ∧ ∀ y ∈ I.fields, 0 ≤ y ∧ y ≤ 255
  imps : I.imports.length ≤ 4 ∧ ∀ m ∈ I.imports, impB m = true
  mets : (0 < I.methods.length ∧ I.methods.length ≤ 8) ∧ ∀ m ∈ I.methods, metB insB m = true
  exps : I.exports.length ≤ 4 ∧ ∀ y ∈ I.exports, 0 ≤ y ∧ y ≤ 255
theorem img_fit {I : ImgM} (h : imgB insB I = true) : ImgFit I := by
  unfold imgB at h
  simp only [Bool.and_eq_true, decide_eq_true_eq, List.all_eq_true] at h
  obtain ⟨h1, h2, ⟨h3, h4⟩, h5, ⟨h6, h7⟩, h8, h9, h10⟩ := h
  have hf := kinds_fit h2 (by omega)
  have hf2 : (I.fields.length : Int) ≤ 8 := by
    unfold kindsB at h2
    rw [Bool.and_eq_true, decide_eq_true_eq] at h2
    exact h2.1
  refine ⟨nm_fit h1, ⟨by omega, hf.2⟩, ⟨h3, h4⟩, ⟨⟨h5, h6⟩, h7⟩, ⟨h9, fun y hy => ?_⟩⟩
  have := h10 y hy
  unfold expB inB at this
  rw [decide_eq_true_eq] at this
  omega
/-- what stands behind the mark -/
def partsL (I : ImgM) : List Int := nameL I.name ++ (numsL I.fields ++ ([(I.imports.length : Int) % 256] ++ (impsL I.imports ++ ([(I.methods.length : Int) % 256] ++ (metsL I.methods ++ numsL I.exports)))))
theorem imgL_eq (I : ImgM) : imgL I = markL ++ partsL I := rfl
theorem partsP_back {I : ImgM} (h : ImgFit I) (more : List Int) : partsP false (partsL I ++ more) = (0, I, false, more) := by
  obtain ⟨h1, h2, h3, h4, h5⟩ := h
  have e : partsL I ++ more = (I.name.size : Int) :: (nums I.name ++ ((I.fields.length : Int) :: (I.fields ++ ((I.imports.length : Int) :: (impsL I.imports ++ ((I.methods.length : Int) :: (metsL I.methods ++ ((I.exports.length : Int) :: (I.exports ++ more))))))))) := by
    unfold partsL nameL
    rw [numsL_eq (by omega) h2.2, numsL_eq (by omega) h5.2, md (x := (I.imports.length : Int)) (by omega) (by omega), md (x := (I.methods.length : Int)) (by omega) (by omega)]
    simp
  have s1 := short_app (nums I.name) ((I.fields.length : Int) :: (I.fields ++ ((I.imports.length : Int) :: (impsL I.imports ++ ((I.methods.length : Int) :: (metsL I.methods ++ ((I.exports.length : Int) :: (I.exports ++ more)))))))) (I.name.size : Int) (by rw [nums_len])
  have s2 := short_app I.fields ((I.imports.length : Int) :: (impsL I.imports ++ ((I.methods.length : Int) :: (metsL I.methods ++ ((I.exports.length : Int) :: (I.exports ++ more)))))) (I.fields.length : Int) rfl
  have s3 := impsGo_back I.imports h3.2 ((I.methods.length : Int) :: (metsL I.methods ++ ((I.exports.length : Int) :: (I.exports ++ more))))
  have s4 := metsGo_back I.methods h4.2 ((I.exports.length : Int) :: (I.exports ++ more))
  have s5 := short_app I.exports more (I.exports.length : Int) rfl
  have t1 : (256 * 0 + (I.imports.length : Int)).toNat = I.imports.length := by omega
  have t2 : (256 * 0 + (I.methods.length : Int)).toNat = I.methods.length := by omega
  simp only [partsP, e, s1, s2, s3, s4, s5, take1, beN, List.foldl, t1, t2, str_nums]
theorem imp_len {m : ImpM} (h : impB m = true) : (impL m).length ≤ 300 := by
  have h' := imp_fit h
  simp [impL, nameL, numsL, nums_len]
  omega
theorem kinds_len2 {L : List Int} {k : Int} (h : kindsB L k = true) : (L.length : Int) ≤ k := by
  unfold kindsB at h
  rw [Bool.and_eq_true, decide_eq_true_eq] at h
  exact h.1
theorem met_len {m : MetM} (h : metB insB m = true) : (metL m).length ≤ 650 := by
  have h5 := (met_fit h).2.2.2
  have hc : (codeL m.code).length ≤ m.code.length * 5 := flat_len m.code _ 5 (fun x _ => lay_len _ _ _)
  unfold metB callB at h
  simp only [Bool.and_eq_true] at h
  have k1 := kinds_len2 h.1.1
  have k2 := kinds_len2 h.2.1
  simp [metL, numsL]
  omega
theorem img_len2 {I : ImgM} (h : ImgFit I) : (imgL I).length ≤ 8100 := by
  obtain ⟨h1, h2, h3, h4, h5⟩ := h
  have hi : (impsL I.imports).length ≤ I.imports.length * 300 := flat_len I.imports _ 300 (fun x hx => imp_len (h3.2 x hx))
  have hm : (metsL I.methods).length ≤ I.methods.length * 650 := flat_len I.methods _ 650 (fun x hx => met_len (h4.2 x hx))
  have : (markL).length = 5 := rfl
  simp [imgL, nameL, numsL, nums_len, this]
  omega
theorem mark_app (l : List Int) : takeP 5 false (markL ++ l) = (markL, false, l) := takeP_app markL l 5 rfl
theorem markE_app (l : List Int) : markE (markL ++ l) = 0 := by
  unfold markE
  rw [mark_app]
  rfl
/-- what is laid is read back -/
theorem readP_back {I : ImgM} (h : imgB insB I = true) : readP (imgL I) = (0, I) := by
  have hf := img_fit h
  have hl := img_len2 hf
  have hp := partsP_back hf []
  rw [List.append_nil] at hp
  unfold readP
  rw [if_neg (by omega), imgL_eq, markE_app, mark_app]
  simp only [hp, h]
  simp
/-- with one more it is refused -/
theorem readP_more {I : ImgM} (h : imgB insB I = true) (x : Int) (l : List Int) : (readP (imgL I ++ x :: l)).1 ≠ 0 := by
  have hf := img_fit h
  have hp := partsP_back hf (x :: l)
  unfold readP
  rw [imgL_eq, List.append_assoc, markE_app, mark_app]
  simp only [hp]
  split <;> simp
end Go.Proofs.YtoemilimnpeddaaDoor

/- Package text: Print. -/
import Derived.Test.YtmikibcgphkcfaaGreatDoorTzk
namespace Go.Proofs.YtmikibcgphkcfaaGreatDoor
open Go.RowKit Go.Shelf Go.Lib
set_option linter.unusedVariables false
set_option linter.unusedSimpArgs false

def fieldL (k : Int) : By := lineT [[102, 105, 101, 108, 100], kindT k]
def impL (m : ImpM) : By := lineT [[105, 109, 112, 111, 114, 116], m.name.data.toList, itoa m.exp, callT m.params m.res]
def metL (m : MetM) : By := headT m ++ codeT m.code
def expL (n : Int) : By := lineT [[101, 120, 112, 111, 114, 116], itoa n]
def nameL (s : ByteArray) : By := lineT [[97, 112, 112, 108, 101, 116], s.data.toList]
theorem xStr : Builder.Extra Tryz.prog Tryz.laysStr_ren where
  sizeBuilder := by kernel_rfl
  liesBuilder := by kernel_rfl
  t5 := Tryz.underlying5
  a5 := Tryz.isAgg5
  z5 := Tryz.sizeOf5
  v5 := Tryz.zeroValue5
  infoByte := by kernel_rfl
  cellsByte := by kernel_rfl
  sizeByte := by kernel_rfl
  neB5 := by decide
/-- an image's lines -/
def linesI (I : ImgM) : By := nameL I.name ++ (I.fields.flatMap fieldL ++ (I.imports.flatMap impL ++ (I.methods.flatMap metL ++ I.exports.flatMap expL)))
/-- what Print answers -/
def printT (I : ImgM) : By × Int := match imgB insB I with
  | true => (linesI I, 0)
  | false => ([], 1)
theorem print_yes {I : ImgM} (h : true = imgB insB I) : printT I = (linesI I, 0) := by unfold printT; rw [← h]
theorem print_no {I : ImgM} (h : false = imgB insB I) : printT I = ([], 1) := by unfold printT; rw [← h]
/-- what of a right image bounds its lines -/
structure Bnd (I : ImgM) : Prop where
  name : I.name.size ≤ 16
  fields : I.fields.length ≤ 8
  imports : I.imports.length ≤ 4
  imp : ∀ m ∈ I.imports, m.name.size ≤ 16 ∧ m.params.length ≤ 4
  methods : I.methods.length ≤ 8
  met : ∀ m ∈ I.methods, m.params.length ≤ 100 ∧ m.locals.length ≤ 100 ∧ m.code.length ≤ 1000
  exports : I.exports.length ≤ 4
theorem nm16 {s : ByteArray} (h : nmB s = true) : s.size ≤ 16 := by
  unfold nmB at h
  simp at h
  exact h.1.2
theorem kinds_le {L : List Int} {n : Int} (h : kindsB L n = true) : (L.length : Int) ≤ n := by
  unfold kindsB at h
  simp at h
  exact h.1
theorem bnd_of {I : ImgM} (h : true = imgB insB I) : Bnd I := by
  replace h := h.symm
  unfold imgB at h
  simp only [Bool.and_eq_true, decide_eq_true_eq, List.all_eq_true] at h
  obtain ⟨h1, h2, ⟨h3, h4⟩, -, ⟨h5, h6⟩, -, h7, -⟩ := h
  refine ⟨nm16 h1, by have := kinds_le h2; omega, h3, fun m hm => ?_, h5, fun m hm => ?_, h7⟩
  · have := h4 m hm
    unfold impB callB at this
    simp only [Bool.and_eq_true] at this
    exact ⟨nm16 this.1, by have := kinds_le this.2.2.1; omega⟩
  · have := h6 m hm
    unfold metB callB at this
    simp only [Bool.and_eq_true, decide_eq_true_eq] at this
    exact ⟨by have := kinds_le this.1.1; omega, by have := kinds_le this.2.1; omega, by have := this.2.2.2.1; omega⟩
/-- the state of Print: from the world w1 where the builder was made -/
structure Pq (B : Nat) (w1 wr : World) (s : By) : Prop where
  bd : Bd B B wr s
  lo : Below B w1 wr
  sz : B < wr.heap.size
  tb : Tb B wr
section
variable {B : Nat} {w1 wr w2 : World} {s s2 : By}
theorem Pq.still (h : Pq B w1 wr s) (hu : Upd (fun _ => False) wr w2) : Pq B w1 w2 s :=
  ⟨h.bd.kept hu, h.lo.trans (Kb.of (b := B) hu (Nat.le_of_lt h.sz)).1, Nat.lt_of_lt_of_le h.sz hu.size, h.tb.kept (Kb.of (b := B) hu (Nat.le_of_lt h.sz)).1⟩
theorem Pq.line (h : Pq B w1 wr s) (hd : Bd B B w2 s2) (hk : Kb B B wr w2) : Pq B w1 w2 s2 :=
  ⟨hd, h.lo.trans hk.1, Nat.lt_of_lt_of_le h.sz hk.1.size, h.tb.kept hk.1⟩
end
theorem flat_take {α : Type} [Inhabited α] (f : α → By) (L : List α) (k : Nat) (hk : k < L.length) : (L.take (k + 1)).flatMap f = (L.take k).flatMap f ++ f (L.getD k default) := by
  rw [List.take_add_one, List.flatMap_append, List.getElem?_eq_getElem hk]
  simp [List.getD, hk]
theorem flat_len {α : Type} (f : α → By) (m : Nat) : ∀ (L : List α), (∀ x ∈ L, (f x).length ≤ m) → (L.flatMap f).length ≤ m * L.length
  | [], _ => by simp
  | x :: L, h => by
    have h1 := h x (by simp)
    have h2 := flat_len f m L (fun y hy => h y (List.mem_cons_of_mem _ hy))
    rw [List.flatMap_cons, List.length_append, List.length_cons, Nat.mul_add]
    omega
theorem fieldL_len (k : Int) : (fieldL k).length ≤ 100 := by
  unfold fieldL
  rw [line2_len]
  have := kindT_len k
  simp
  omega
theorem expL_len (k : Int) (h : wi64 k) : (expL k).length ≤ 100 := by
  unfold expL
  rw [line2_len]
  have := itoa_length_le k h.1 h.2
  simp
  omega
theorem impL_len (m : ImpM) (h1 : m.name.size ≤ 16) (h2 : m.params.length ≤ 4) (h3 : wi64 m.exp) : (impL m).length ≤ 1000 := by
  have h4 := itoa_length_le m.exp h3.1 h3.2
  have h5 := callT_len m.params m.res
  have h6 : m.name.data.toList.length = m.name.size := by rw [Array.length_toList]; rfl
  have h7 := join_len (m := 100) [[105, 109, 112, 111, 114, 116], m.name.data.toList, itoa m.exp, callT m.params m.res] (fun y hy => by
    simp at hy
    rcases hy with rfl | rfl | rfl | rfl
    · simp
    · omega
    · omega
    · omega)
  unfold impL lineT
  simp only [List.length_append, List.length_cons, List.length_nil] at h7 ⊢
  omega
theorem metL_len (m : MetM) (h : m.params.length ≤ 100 ∧ m.locals.length ≤ 100 ∧ m.code.length ≤ 1000) (ho : ∀ x ∈ m.code, okIn x) : (metL m).length ≤ 110000 := by
  have h1 := codeT_len m.code ho
  have h2 := callT_len m.params m.res
  have h3 := join_len (m := 4) (m.locals.map kindT) (fun x hx => by
    obtain ⟨y, -, rfl⟩ := List.mem_map.1 hx
    exact kindT_len y)
  have h4 : (locT m.locals).length ≤ 1000 := by
    unfold locT
    split
    · simp
    · rw [line2_len]
      simp only [List.length_map, List.length_cons, List.length_nil] at h3 ⊢
      omega
  unfold metL headT
  rw [List.length_append, List.length_append, line2_len]
  simp only [List.length_cons, List.length_nil]
  omega
theorem img_parts {w : World} {s : ByteArray} {f i m x : Value} {I : ImgM} (h : Img w (img5 s f i m x) I) : Ints w f I.fields ∧ Imps w i I.imports ∧ Mets w m I.methods ∧ Ints w x I.exports := by
  obtain ⟨f', i', m', x', he, h1, h2, h3, h4, -⟩ := h
  simp at he
  obtain ⟨-, rfl, rfl, rfl, rfl⟩ := he
  exact ⟨h1, h2, h3, h4⟩
theorem tBStr {B b : Nat} {w : World} {s : By} (h : Bd B b w s) (h0 : s ≠ []) : Calls Tryz.prog 19 #[.pointer (some ⟨b, 0, none⟩)] w fun e w' => e = .returned (.string (bs s)) ∧ Below B w w' := by
  refine (Any.Builder_String_f (ρ := Tryz.laysStr_ren) Tryz.laysStr xStr B b s w h h0).mono ?_
  rintro e w' ⟨rfl, -, hb⟩
  exact ⟨rfl, hb⟩
set_option maxRecDepth 100000 in
set_option maxHeartbeats 2000000 in
theorem tPrint {B0 : Nat} {w : World} {v : Value} {I : ImgM} (hI : Img w v I) (ht : Tb B0 w) (hB0 : B0 ≤ w.heap.size) : Calls Tryz.prog 7 #[v] w fun e w' => e = .returned (.tuple #[.string (bs (printT I).1), .int .i64 (printT I).2]) ∧ Upd (fun _ => False) w w' := by
  have HI := Lib.hid hI
  obtain ⟨fv, iv, mv, xv, rfl, hf, hi, hm, hx, -⟩ := hI
  obtain ⟨fa, fc, rfl, -⟩ := ints_at hf (Upd.refl _ _)
  obtain ⟨xa, xc, rfl, -⟩ := ints_at hx (Upd.refl _ _)
  obtain ⟨ia, ic, rfl⟩ : ∃ a c, iv = .slice a I.imports.length c := by obtain ⟨p, ⟨a, c, h, -⟩, -⟩ := hi; exact ⟨a, c, h⟩
  obtain ⟨ma, mc, rfl⟩ : ∃ a c, mv = .slice a I.methods.length c := by obtain ⟨p, q, r, ⟨a, c, h, -⟩, -⟩ := hm; exact ⟨a, c, h⟩
  have hT2 : Tb w.heap.size w := by obtain ⟨g, h1, h2, h3⟩ := ht; exact ⟨g, h1, by omega, h3⟩
  have HT := Lib.hid hT2
  obtain ⟨X, hX⟩ : ∃ X, X = w.heap.size := ⟨_, rfl⟩
  obtain ⟨w1, hw1⟩ : ∃ w1, w1 = w.alloc (.cells #[.string I.name, .slice fa I.fields.length fc, .slice ia I.imports.length ic, .slice ma I.methods.length mc, .slice xa I.exports.length xc] IMG) := ⟨_, rfl⟩
  have hu1 : Upd (fun _ => False) w w1 := by rw [hw1]; exact Upd.alloc (fun _ => False) _ _
  have HU1 := Lib.hid hu1
  have HBX : Hid (w1.heap[X]? = some (.cells #[.string I.name, .slice fa I.fields.length fc, .slice ia I.imports.length ic, .slice ma I.methods.length mc, .slice xa I.exports.length xc] IMG (0, 0))) := Lib.hid (by rw [hw1]; exact hp_new w _ _ hX)
  have HI1 := Lib.hid (HI.out.later (upd_below hu1))
  have HW1 := Lib.hid hw1
  have HX := Lib.hid hX
  obtain ⟨rt, hrt⟩ : ∃ rt, rt = imgB insB I := ⟨_, rfl⟩
  have HR := Lib.hid hrt
  clear hf hi hm hx ht hB0 hT2 hX hw1 hu1 hrt
  cases rt with
  | false =>
    go_enter Tryz.func7, Tryz.ntmps7
    go_wp2_with fail
    rw [← HX.out, ← HW1.out]
    refine (cImgRight w1 _ I HI1.out).mono ?_
    rw [← HR.out]
    rintro e w2 ⟨rfl, hu⟩
    have HU2 := Lib.hid (HU1.out.trans hu (fun _ h _ => h))
    clear hu
    go_wp2_with fail
    first | go_ret | go_ret2
    rw [print_no HR.out]
    exact ⟨rfl, HU2.out⟩
  | true =>
    have HN := Lib.hid (bnd_of HR.out)
    go_enter Tryz.func7, Tryz.ntmps7
    go_wp2_with fail
    rw [← HX.out, ← HW1.out]
    refine (cImgRight w1 _ I HI1.out).mono ?_
    rw [← HR.out]
    rintro e w2 ⟨rfl, hu⟩
    have HU2 := Lib.hid (HU1.out.trans hu (fun _ h _ => h))
    have HBX2 := Lib.hid (tBlk hu HBX.out (fun h => h))
    have HI2 := Lib.hid (HI1.out.later (upd_below hu))
    clear hu
    obtain ⟨B, hB⟩ : ∃ B, B = w2.heap.size := ⟨_, rfl⟩
    obtain ⟨w3, hw3⟩ : ∃ w3, w3 = w2.alloc (.cells #[.pointer none, .slice none 0 0] BT) := ⟨_, rfl⟩
    have HP3 : Hid (Pq B w2 w3 []) := Lib.hid (by
      rw [hw3, hB]
      have hT := HT.out.kept (Below.refl _ w)
      refine ⟨IsBuilderF.of (fresh_isBuilder BT BY w2), upd_below (Upd.alloc (fun _ => False) w2 _), by simp, ?_⟩
      obtain ⟨g, h1, h2, h3⟩ := HT.out
      have hs := HU2.out.size
      have hk : Tb w.heap.size w2 := HT.out.kept (upd_below HU2.out)
      obtain ⟨g, h1, h2, h3⟩ := hk
      exact (show Tb w2.heap.size w2 from ⟨g, h1, by omega, h3⟩).kept (upd_below (Upd.alloc (fun _ => False) w2 _)))
    have HBL : Hid (∀ w', Below B w2 w' → w'.heap[X]? = some (.cells #[.string I.name, .slice fa I.fields.length fc, .slice ia I.imports.length ic, .slice ma I.methods.length mc, .slice xa I.exports.length xc] IMG (0, 0)) ∧ Img w' (img5 I.name (.slice fa I.fields.length fc) (.slice ia I.imports.length ic) (.slice ma I.methods.length mc) (.slice xa I.exports.length xc)) I) := Lib.hid (fun w' h => by
      rw [hB] at h
      exact ⟨(h.block X (Array.getElem?_eq_some_iff.1 HBX2.out).1).trans HBX2.out, HI2.out.later h⟩)
    have HB := Lib.hid hB
    have HW3 := Lib.hid hw3
    have hb3 := (HBL.out w3 HP3.out.lo).1
    have c0 := (tCell hb3 0).1
    simp at c0
    rw [hw3] at c0
    clear hB hw3 hb3
    go_wp2_with fail
    rw [← HB.out, ← HW3.out]
    have HS3 : Hid (w3.heap.size = B + 1) := Lib.hid (by rw [HW3.out, HB.out]; simp)
    have HPL := Lib.hid (HP3.out.still (Upd.alloc _ w3 (.cells #[.string { data := #[97, 112, 112, 108, 101, 116] }, .string I.name] STR)))
    have HST := Lib.hid (strs_new w3 [[97, 112, 112, 108, 101, 116], I.name.data.toList] (by simp) #[.string { data := #[97, 112, 112, 108, 101, 116] }, .string I.name] rfl _ HS3.out)
    have HNL : Hid ((nameL I.name).length ≤ 100) := Lib.hid (by
      have h0 := line2_len [97, 112, 112, 108, 101, 116] I.name.data.toList
      have h1 := HN.out.name
      have h2 : I.name.data.toList.length = I.name.size := Array.length_toList
      rw [h2] at h0
      have h3 : (lineT [[97, 112, 112, 108, 101, 116], I.name.data.toList]).length = 6 + I.name.size + 2 := h0
      unfold nameL
      omega)
    refine (tPrintLine HPL.out.bd HST.out (by
      have h1 : (nameL I.name).length = (joinB [[97, 112, 112, 108, 101, 116], I.name.data.toList]).length + 1 := List.length_append
      have h2 := HNL.out
      have h3 : ([] : By).length = 0 := rfl
      omega) (Nat.le_of_lt HPL.out.sz)).mono ?_
    rintro e w4 ⟨rfl, hd, hk⟩
    have HP4 : Hid (Pq B w2 w4 (nameL I.name ++ (I.fields.take 0).flatMap fieldL)) := Lib.hid (by
      show Pq B w2 w4 (nameL I.name ++ [])
      rw [List.append_nil]
      exact HPL.out.line hd hk)
    clear hd hk HST HPL c0
    have c1 := (tCell (HBL.out w4 HP4.out.lo).1 1).1
    simp at c1
    go_wp2_with fail
    clear c1
    go_loopw [27] (fun iv wr => ∃ k : Nat, k ≤ I.fields.length ∧ iv = .int .i64 k ∧ Hid (Pq B w2 wr (nameL I.name ++ (I.fields.take k).flatMap fieldL))) (fun iv _ => I.fields.length - (RowKit.intOf iv).toNat)
    case atStart => exact ⟨0, Nat.zero_le _, rfl, HP4⟩
    case round =>
      obtain ⟨k, hk, rfl, HK⟩ := hrel
      clear HP4
      by_cases hlt : k < I.fields.length
      · obtain ⟨a', c', he, hat⟩ := ints_at (img_parts (HBL.out wr HK.out.lo).2).1 (Upd.refl _ wr)
        obtain ⟨g, off, hg, c0⟩ := hat k hlt
        simp at he
        obtain ⟨rfl, rfl⟩ := he
        subst hg
        clear hat
        have HT1 := Lib.hid (flat_take fieldL I.fields k hlt)
        have hk3 : (k : Int) + 1 ≤ 9223372036854775807 := by have := HN.out.fields; omega
        obtain ⟨x, hx⟩ : ∃ x, x = I.fields.getD k 0 := ⟨_, rfl⟩
        rw [← hx] at c0
        have HX1 : Hid (I.fields.getD k default = x) := Lib.hid hx.symm
        clear hx
        go_wp2_with fail
        refine (tKindT x wr).mono ?_
        rintro e w5 ⟨rfl, rfl⟩
        have HPL := Lib.hid (HK.out.still (Upd.alloc _ wr (.cells #[.string { data := #[102, 105, 101, 108, 100] }, .string (bs (kindT x))] STR)))
        have HST := Lib.hid (strs_new wr [[102, 105, 101, 108, 100], kindT x] (by simp) #[.string { data := #[102, 105, 101, 108, 100] }, .string (bs (kindT x))] rfl _ rfl)
        have HLINE : Hid ((nameL I.name ++ (I.fields.take k).flatMap fieldL).length + (joinB [[102, 105, 101, 108, 100], kindT x]).length + 1 ≤ 140737488355328) := Lib.hid (by
          have h1 := HNL.out
          have h2 := flat_len fieldL 100 (I.fields.take k) (fun y _ => fieldL_len y)
          have h3 := fieldL_len x
          have h4 := HN.out.fields
          unfold fieldL lineT at h3
          rw [List.length_take] at h2
          simp only [List.length_append, List.length_cons, List.length_nil] at h3 ⊢
          omega)
        go_wp2_with fail
        refine (tPrintLine HPL.out.bd HST.out HLINE.out (Nat.le_of_lt HPL.out.sz)).mono ?_
        rintro e w6 ⟨rfl, hd, hkb⟩
        have HP6 : Hid (Pq B w2 w6 (nameL I.name ++ (I.fields.take (k + 1)).flatMap fieldL)) := Lib.hid (by
          rw [HT1.out, ← List.append_assoc, HX1.out]
          exact HPL.out.line hd hkb)
        clear hd hkb
        go_wp2_with fail
        go_roundw
        case rel => exact ⟨k + 1, hlt, by go_num, HP6⟩
        case measure => simp [RowKit.intOf]; omega
      · obtain rfl : I.fields.length = k := by omega
        have c2 := (tCell (HBL.out wr HK.out.lo).1 2).1
        simp at c2
        go_wp2_with fail
        have HS5 : Hid ((nameL I.name ++ (I.fields.take I.fields.length).flatMap fieldL).length ≤ 1000) := Lib.hid (by
          have h1 := HNL.out
          have h2 := flat_len fieldL 100 (I.fields.take I.fields.length) (fun y _ => fieldL_len y)
          have h4 := HN.out.fields
          rw [List.length_take] at h2
          rw [List.length_append]
          omega)
        obtain ⟨s5, hs5⟩ : ∃ s5, s5 = nameL I.name ++ (I.fields.take I.fields.length).flatMap fieldL := ⟨_, rfl⟩
        rw [← hs5] at HS5 HK
        have HE5 : Hid (s5 = nameL I.name ++ I.fields.flatMap fieldL) := Lib.hid (by rw [hs5, List.take_length])
        obtain ⟨wF, hwF⟩ : ∃ wF, wF = wr := ⟨_, rfl⟩
        subst hwF
        have HP5 : Hid (Pq B w2 wF (s5 ++ (I.imports.take 0).flatMap impL)) := Lib.hid (by
          show Pq B w2 wF (s5 ++ [])
          rw [List.append_nil]
          exact HK.out)
        clear hs5 HK hk hlt c2
        go_loopw [40] (fun iv wr => ∃ k : Nat, k ≤ I.imports.length ∧ iv = .int .i64 k ∧ Hid (Pq B w2 wr (s5 ++ (I.imports.take k).flatMap impL))) (fun iv _ => I.imports.length - (RowKit.intOf iv).toNat)
        case atStart => exact ⟨0, Nat.zero_le _, rfl, HP5⟩
        case round =>
          obtain ⟨k, hk, rfl, HK⟩ := hrel
          clear HP5
          by_cases hlt : k < I.imports.length
          · obtain ⟨p, ⟨a', c', he, -, -, hcs⟩, hpar, hall⟩ := (img_parts (HBL.out wr HK.out.lo).2).2.1
            obtain ⟨g, off, hg, hcs2⟩ := hcs.resolve_left (by omega)
            simp at he
            obtain ⟨rfl, rfl⟩ := he
            subst hg
            obtain ⟨x, hx⟩ : ∃ x, x = I.imports.getD k default := ⟨_, rfl⟩
            have hmem : x ∈ I.imports := by rw [hx]; simp [List.getD, hlt]
            have hpx := hpar k hlt
            rw [← hx] at hpx
            obtain ⟨pa, pc, hpe, -⟩ := ints_at hpx (Upd.refl _ wr)
            rw [hpe] at hpx
            have i0 : wr.cell? ⟨g, off + k * 4, none⟩ = some (.string x.name) := by rw [hx]; exact hcs2 k hlt 0 (by omega)
            have i1 : wr.cell? ⟨g, off + k * 4 + 1, none⟩ = some (.int .i64 x.exp) := by rw [hx]; exact hcs2 k hlt 1 (by omega)
            have i2 : wr.cell? ⟨g, off + k * 4 + 2, none⟩ = some (.slice pa x.params.length pc) := by rw [← hpe]; exact hcs2 k hlt 2 (by omega)
            have i3 : wr.cell? ⟨g, off + k * 4 + 3, none⟩ = some (.int .i64 x.res) := by rw [hx]; exact hcs2 k hlt 3 (by omega)
            have HT1 := Lib.hid (flat_take impL I.imports k hlt)
            rw [← hx] at HT1
            have hk3 : (k : Int) + 1 ≤ 9223372036854775807 := by have := HN.out.imports; omega
            have HXB := Lib.hid (HN.out.imp x hmem)
            have HXE : Hid (wi64 x.exp) := Lib.hid (hall x hmem).1
            obtain ⟨wA, hwA⟩ : ∃ wA, wA = wr.alloc (.cells #[.string x.name, .int .i64 x.exp, .slice pa x.params.length pc, .int .i64 x.res] IMP) := ⟨_, rfl⟩
            have HWA := Lib.hid hwA
            have huA : Upd (fun _ => False) wr wA := by rw [hwA]; exact Upd.alloc (fun _ => False) _ _
            have hbY : wA.heap[wr.heap.size]? = some (.cells #[.string x.name, .int .i64 x.exp, .slice pa x.params.length pc, .int .i64 x.res] IMP (0, 0)) := by rw [hwA]; exact hp_new wr _ _ rfl
            have HPA := Lib.hid (HK.out.still huA)
            have HPI := Lib.hid (hpx.later (upd_below huA))
            obtain ⟨Y, hY⟩ : ∃ Y, Y = wr.heap.size := ⟨_, rfl⟩
            rw [← hY] at hbY
            have HY := Lib.hid hY
            have HYB := Lib.hid hbY
            have c0 := (tCell hbY 2).1
            have c1 := (tCell hbY 3).1
            simp at c0 c1
            rw [hwA] at c0 c1
            rw [hY] at c0 c1
            clear hcs hcs2 hpar hall hx hmem hpe hpx huA hwA hY hbY
            go_wp2_with fail
            rw [← HY.out, ← HWA.out]
            clear c0 c1
            refine (tCallNames wA _ x.params x.res HPI.out (by have := HXB.out; omega)).mono ?_
            rintro e w5 ⟨rfl, hu⟩
            have HU5 := Lib.hid hu
            have HP5 := Lib.hid (HPA.out.still hu)
            have HBY : Hid (∀ w', Upd (fun _ => False) wA w' → w'.cell? ⟨Y, 0, none⟩ = some (.string x.name) ∧ w'.cell? ⟨Y, 1, none⟩ = some (.int .i64 x.exp)) := Lib.hid (fun w' hu => by
              have hb := tBlk hu HYB.out (fun h => h)
              exact ⟨(tCell hb 0).1, (tCell hb 1).1⟩)
            have HUD : Hid (Upd (fun _ => False) wA w5.drew) := Lib.hid (hu.trans (Upd.drew (fun _ => False) w5) (fun _ h _ => h))
            have HPD := Lib.hid (HPA.out.still HUD.out)
            have HYN : Hid (Y ≠ B) := Lib.hid (by rw [HY.out]; have := HK.out.sz; omega)
            have HLINE : Hid ((s5 ++ (I.imports.take k).flatMap impL).length + (joinB [[105, 109, 112, 111, 114, 116], x.name.data.toList, itoa x.exp, callT x.params x.res]).length + 1 ≤ 140737488355328) := Lib.hid (by
              have h1 := HS5.out
              have h3 := impL_len x HXB.out.1 HXB.out.2 HXE.out
              have h2 : ((I.imports.take k).flatMap impL).length ≤ 1000 * (I.imports.take k).length := flat_len impL 1000 (I.imports.take k) (fun y hy => by
                have hy2 := List.mem_of_mem_take hy
                obtain ⟨p, -, -, hall⟩ := (img_parts (HBL.out w2 (Below.refl _ _)).2).2.1
                exact impL_len y (HN.out.imp y hy2).1 (HN.out.imp y hy2).2 (hall y hy2).1)
              have h4 := HN.out.imports
              have h5 : (impL x).length = (joinB [[105, 109, 112, 111, 114, 116], x.name.data.toList, itoa x.exp, callT x.params x.res]).length + 1 := List.length_append
              rw [List.length_take] at h2
              rw [List.length_append]
              omega)
            clear hu
            obtain ⟨cl, hcl⟩ : ∃ cl, cl = callT x.params x.res := ⟨_, rfl⟩
            rw [← hcl] at HLINE ⊢
            have HCL := Lib.hid hcl
            clear hcl
            go_wp2_with fail
            go_region_held3 (fun w' => w'.cell? ⟨Y, 0, none⟩ = some (.string x.name) ∧ w'.cell? ⟨Y, 1, none⟩ = some (.int .i64 x.exp)) (first
              | with_reducible exact HBY.out _ HUD.out
              | with_reducible exact HBY.out _ HU6.out
              | with_reducible exact HBY.out _ (HU6.out.trans (Upd.alloc (fun _ => False) _ _) (fun _ h _ => h))
              | with_reducible exact HC8.out) ((first
              | (go_at_call 17; (refine (tItoa (n := x.exp) HPD.out.tb HXE.out).mono ?_); rintro e w6 ⟨rfl, hu6⟩; have HU6 := Lib.hid (HUD.out.trans hu6 (fun _ h _ => h)); have HP6 := Lib.hid (HPD.out.still hu6); clear hu6; have HPL := Lib.hid (HP6.out.still (Upd.alloc _ w6 (.cells #[.string { data := #[105, 109, 112, 111, 114, 116] }, .string x.name, .string (bs (itoa x.exp)), .string (bs cl)] STR))); have HST := Lib.hid (strs_new w6 [[105, 109, 112, 111, 114, 116], x.name.data.toList, itoa x.exp, cl] (by simp) #[.string { data := #[105, 109, 112, 111, 114, 116] }, .string x.name, .string (bs (itoa x.exp)), .string (bs cl)] rfl _ rfl); have HYL := Lib.hid (tBlk (HU6.out.trans (Upd.alloc (fun _ => False) w6 (.cells #[.string { data := #[105, 109, 112, 111, 114, 116] }, .string x.name, .string (bs (itoa x.exp)), .string (bs cl)] STR)) (fun _ h _ => h)) HYB.out (fun h => h)))
              | (go_at_call 15; (refine (tPrintLine (xs := [[105, 109, 112, 111, 114, 116], x.name.data.toList, itoa x.exp, cl]) HPL.out.bd HST.out HLINE.out (Nat.le_of_lt HPL.out.sz)).mono ?_); rintro e w8 ⟨rfl, hd8, hk8⟩; have HD8 := Lib.hid hd8; have HK8 := Lib.hid hk8; have HC8 : Hid (w8.cell? ⟨Y, 0, none⟩ = some (.string x.name) ∧ w8.cell? ⟨Y, 1, none⟩ = some (.int .i64 x.exp)) := Lib.hid ⟨(tCell (hk8.box HYL.out (by decide) HYN.out) 0).1, (tCell (hk8.box HYL.out (by decide) HYN.out) 1).1⟩; clear hd8 hk8)))
            all_goals (
              have HP8 : Hid (Pq B w2 w8 (s5 ++ (I.imports.take (k + 1)).flatMap impL)) := Lib.hid (by
                rw [HT1.out, ← List.append_assoc]
                unfold impL
                rw [← HCL.out]
                exact HPL.out.line HD8.out HK8.out)
              go_wp2_with fail
              go_roundw
              case rel => exact ⟨k + 1, hlt, by go_num, HP8⟩
              case measure => simp [RowKit.intOf]; omega)
          · obtain rfl : I.imports.length = k := by omega
            have c2 := (tCell (HBL.out wr HK.out.lo).1 3).1
            simp at c2
            go_wp2_with fail
            have HS6 : Hid ((s5 ++ (I.imports.take I.imports.length).flatMap impL).length ≤ 10000) := Lib.hid (by
              have h1 := HS5.out
              have h2 : ((I.imports.take I.imports.length).flatMap impL).length ≤ 1000 * (I.imports.take I.imports.length).length := flat_len impL 1000 (I.imports.take I.imports.length) (fun y hy => by
                have hy2 := List.mem_of_mem_take hy
                obtain ⟨p, -, -, hall⟩ := (img_parts (HBL.out w2 (Below.refl _ _)).2).2.1
                exact impL_len y (HN.out.imp y hy2).1 (HN.out.imp y hy2).2 (hall y hy2).1)
              have h4 := HN.out.imports
              rw [List.length_take] at h2
              rw [List.length_append]
              omega)
            obtain ⟨s6, hs6⟩ : ∃ s6, s6 = s5 ++ (I.imports.take I.imports.length).flatMap impL := ⟨_, rfl⟩
            rw [← hs6] at HS6 HK
            have HE6 : Hid (s6 = s5 ++ I.imports.flatMap impL) := Lib.hid (by rw [hs6, List.take_length])
            obtain ⟨wG, hwG⟩ : ∃ wG, wG = wr := ⟨_, rfl⟩
            subst hwG
            have HP6 : Hid (Pq B w2 wG (s6 ++ (I.methods.take 0).flatMap metL)) := Lib.hid (by
              show Pq B w2 wG (s6 ++ [])
              rw [List.append_nil]
              exact HK.out)
            have HMO : Hid (∀ y ∈ I.methods, ∀ z ∈ y.code, okIn z) := Lib.hid (fun y hy => by
              obtain ⟨p, q, r, -, hpar, -⟩ := (img_parts (HBL.out w2 (Below.refl _ _)).2).2.2.1
              obtain ⟨i, hi, rfl⟩ := List.getElem_of_mem hy
              have := (hpar i hi).2.2.2
              have e : I.methods.getD i default = I.methods[i] := by simp [List.getD, hi]
              rw [e] at this
              exact this)
            clear hs6 HK hk hlt c2
            go_loopw [62] (fun iv wr => ∃ k : Nat, k ≤ I.methods.length ∧ iv = .int .i64 k ∧ Hid (Pq B w2 wr (s6 ++ (I.methods.take k).flatMap metL))) (fun iv _ => I.methods.length - (RowKit.intOf iv).toNat)
            case atStart => exact ⟨0, Nat.zero_le _, rfl, HP6⟩
            case round =>
              obtain ⟨k, hk, rfl, HK⟩ := hrel
              clear HP6
              by_cases hlt : k < I.methods.length
              · obtain ⟨p, q, r, ⟨a', c', he, -, -, hcs⟩, hpar, hall⟩ := (img_parts (HBL.out w2 (Below.refl _ _)).2).2.2.1
                obtain ⟨g, off, hg, hcs2⟩ := hcs.resolve_left (by omega)
                simp at he
                obtain ⟨rfl, rfl⟩ := he
                subst hg
                obtain ⟨x, hx⟩ : ∃ x, x = I.methods.getD k default := ⟨_, rfl⟩
                have hmem : x ∈ I.methods := by rw [hx]; simp [List.getD, hlt]
                have hpx := hpar k hlt
                rw [← hx] at hpx
                obtain ⟨hp1, hp2, hp3⟩ := hpx
                obtain ⟨pa, pc, hpe, -⟩ := ints_at hp1 (Upd.refl _ w2)
                obtain ⟨qa, qc, hqe, -⟩ := ints_at hp2 (Upd.refl _ w2)
                obtain ⟨ra, rc, hre⟩ : ∃ a c, r k = .slice a x.code.length c := by obtain ⟨a, c, h, -⟩ := hp3.1; exact ⟨a, c, h⟩
                have hat : ∀ j, j < 4 → wr.cell? ⟨g, off + k * 4 + j, none⟩ = some (metF I.methods p q r k j) := fun j hj => by
                  have h1 := hcs2 k hlt j hj
                  have hgl := World.block_lt_of_cell? w2 _ h1
                  rw [← h1]
                  exact World.cell?_of_block (HK.out.lo.block g (by rw [HB.out]; exact hgl))
                have i0 : wr.cell? ⟨g, off + k * 4, none⟩ = some (.slice pa x.params.length pc) := by rw [← hpe]; exact hat 0 (by omega)
                have i1 : wr.cell? ⟨g, off + k * 4 + 1, none⟩ = some (.int .i64 x.res) := by rw [hx]; exact hat 1 (by omega)
                have i2 : wr.cell? ⟨g, off + k * 4 + 2, none⟩ = some (.slice qa x.locals.length qc) := by rw [← hqe]; exact hat 2 (by omega)
                have i3 : wr.cell? ⟨g, off + k * 4 + 3, none⟩ = some (.slice ra x.code.length rc) := by rw [← hre]; exact hat 3 (by omega)
                have HME : Hid (Met w2 (met4 (.slice pa x.params.length pc) x.res (.slice qa x.locals.length qc) (.slice ra x.code.length rc)) x) := Lib.hid ⟨_, _, _, rfl, by rw [← hpe]; exact hp1, by rw [← hqe]; exact hp2, by rw [← hre]; exact hp3, hall x hmem⟩
                have HT1 := Lib.hid (flat_take metL I.methods k hlt)
                rw [← hx] at HT1
                have hk3 : (k : Int) + 1 ≤ 9223372036854775807 := by have := HN.out.methods; omega
                have HXB := Lib.hid (HN.out.met x hmem)
                obtain ⟨wA, hwA⟩ : ∃ wA, wA = wr.alloc (.cells #[.slice pa x.params.length pc, .int .i64 x.res, .slice qa x.locals.length qc, .slice ra x.code.length rc] MET) := ⟨_, rfl⟩
                have HWA := Lib.hid hwA
                have huA : Upd (fun _ => False) wr wA := by rw [hwA]; exact Upd.alloc (fun _ => False) _ _
                have HPA := Lib.hid (HK.out.still huA)
                have HLEN : Hid ((s6 ++ (I.methods.take k).flatMap metL).length ≤ 1000000000) := Lib.hid (by
                  have h1 := HS6.out
                  have h2 := flat_len metL 110000 (I.methods.take k) (fun y hy => metL_len y (HN.out.met y (List.mem_of_mem_take hy)) (HMO.out y (List.mem_of_mem_take hy)))
                  have h4 := HN.out.methods
                  rw [List.length_take] at h2
                  rw [List.length_append]
                  omega)
                clear hcs hcs2 hpar hall hx hmem hp1 hp2 hp3 hpe hqe hre hat huA hwA
                go_wp2_with fail
                rw [← HWA.out]
                refine (tPrintMethod (w0 := w2) HPA.out.bd HME.out HB.out.symm HPA.out.lo HPA.out.tb HPA.out.sz HXB.out.1 HXB.out.2.1 HXB.out.2.2 HLEN.out).mono ?_
                rintro e w8 ⟨rfl, hd8, hk8⟩
                have HP8 : Hid (Pq B w2 w8 (s6 ++ (I.methods.take (k + 1)).flatMap metL)) := Lib.hid (by
                  rw [HT1.out, ← List.append_assoc]
                  exact HPA.out.line hd8 hk8)
                clear hd8 hk8 i0 i1 i2 i3
                go_wp2_with fail
                go_roundw
                case rel => exact ⟨k + 1, hlt, by go_num, HP8⟩
                case measure => simp [RowKit.intOf]; omega
              · obtain rfl : I.methods.length = k := by omega
                have c2 := (tCell (HBL.out wr HK.out.lo).1 4).1
                simp at c2
                go_wp2_with fail
                have HS7 : Hid ((s6 ++ (I.methods.take I.methods.length).flatMap metL).length ≤ 1000000) := Lib.hid (by
                  have h1 := HS6.out
                  have h2 := flat_len metL 110000 (I.methods.take I.methods.length) (fun y hy => metL_len y (HN.out.met y (List.mem_of_mem_take hy)) (HMO.out y (List.mem_of_mem_take hy)))
                  have h4 := HN.out.methods
                  rw [List.length_take] at h2
                  rw [List.length_append]
                  omega)
                obtain ⟨s7, hs7⟩ : ∃ s7, s7 = s6 ++ (I.methods.take I.methods.length).flatMap metL := ⟨_, rfl⟩
                rw [← hs7] at HS7 HK
                have HE7 : Hid (s7 = s6 ++ I.methods.flatMap metL) := Lib.hid (by rw [hs7, List.take_length])
                obtain ⟨wH, hwH⟩ : ∃ wH, wH = wr := ⟨_, rfl⟩
                subst hwH
                have HP7 : Hid (Pq B w2 wH (s7 ++ (I.exports.take 0).flatMap expL)) := Lib.hid (by
                  show Pq B w2 wH (s7 ++ [])
                  rw [List.append_nil]
                  exact HK.out)
                have HXW : Hid (∀ y ∈ I.exports, wi64 y) := Lib.hid (img_parts (HBL.out w2 (Below.refl _ _)).2).2.2.2.2
                clear hs7 HK hk hlt c2
                go_loopw [73] (fun iv wr => ∃ k : Nat, k ≤ I.exports.length ∧ iv = .int .i64 k ∧ Hid (Pq B w2 wr (s7 ++ (I.exports.take k).flatMap expL))) (fun iv _ => I.exports.length - (RowKit.intOf iv).toNat)
                case atStart => exact ⟨0, Nat.zero_le _, rfl, HP7⟩
                case round =>
                  obtain ⟨k, hk, rfl, HK⟩ := hrel
                  clear HP7
                  by_cases hlt : k < I.exports.length
                  · obtain ⟨a', c', he, hat⟩ := ints_at (img_parts (HBL.out wr HK.out.lo).2).2.2.2 (Upd.refl _ wr)
                    obtain ⟨g, off, hg, c0⟩ := hat k hlt
                    simp at he
                    obtain ⟨rfl, rfl⟩ := he
                    subst hg
                    clear hat
                    have HT1 := Lib.hid (flat_take expL I.exports k hlt)
                    have hk3 : (k : Int) + 1 ≤ 9223372036854775807 := by have := HN.out.exports; omega
                    obtain ⟨x, hx⟩ : ∃ x, x = I.exports.getD k 0 := ⟨_, rfl⟩
                    rw [← hx] at c0
                    have HX1 : Hid (I.exports.getD k default = x) := Lib.hid hx.symm
                    have HXX : Hid (wi64 x) := Lib.hid (HXW.out x (by rw [hx]; simp [List.getD, hlt]))
                    clear hx
                    go_wp2_with fail
                    refine (tItoa HK.out.tb HXX.out).mono ?_
                    rintro e w5 ⟨rfl, hu5⟩
                    have HPI := Lib.hid (HK.out.still hu5)
                    clear hu5
                    have HPL := Lib.hid (HPI.out.still (Upd.alloc _ w5 (.cells #[.string { data := #[101, 120, 112, 111, 114, 116] }, .string (bs (itoa x))] STR)))
                    have HST := Lib.hid (strs_new w5 [[101, 120, 112, 111, 114, 116], itoa x] (by simp) #[.string { data := #[101, 120, 112, 111, 114, 116] }, .string (bs (itoa x))] rfl _ rfl)
                    have HLINE : Hid ((s7 ++ (I.exports.take k).flatMap expL).length + (joinB [[101, 120, 112, 111, 114, 116], itoa x]).length + 1 ≤ 140737488355328) := Lib.hid (by
                      have h1 := HS7.out
                      have h2 := flat_len expL 100 (I.exports.take k) (fun y hy => expL_len y (HXW.out y (List.mem_of_mem_take hy)))
                      have h3 := expL_len x HXX.out
                      have h4 := HN.out.exports
                      have h5 : (expL x).length = (joinB [[101, 120, 112, 111, 114, 116], itoa x]).length + 1 := List.length_append
                      rw [List.length_take] at h2
                      rw [List.length_append]
                      omega)
                    go_wp2_with fail
                    refine (tPrintLine HPL.out.bd HST.out HLINE.out (Nat.le_of_lt HPL.out.sz)).mono ?_
                    rintro e w6 ⟨rfl, hd, hkb⟩
                    have HP8 : Hid (Pq B w2 w6 (s7 ++ (I.exports.take (k + 1)).flatMap expL)) := Lib.hid (by
                      rw [HT1.out, ← List.append_assoc, HX1.out]
                      exact HPL.out.line hd hkb)
                    clear hd hkb
                    go_wp2_with fail
                    go_roundw
                    case rel => exact ⟨k + 1, hlt, by go_num, HP8⟩
                    case measure => simp [RowKit.intOf]; omega
                  · obtain rfl : I.exports.length = k := by omega
                    have HEQ : Hid (s7 ++ (I.exports.take I.exports.length).flatMap expL = linesI I) := Lib.hid (by
                      rw [List.take_length, HE7.out, HE6.out, HE5.out]
                      unfold linesI
                      simp only [List.append_assoc])
                    rw [HEQ.out] at HK
                    go_wp2_with fail
                    refine (tBStr HK.out.bd (by
                      unfold linesI nameL lineT
                      simp)).mono ?_
                    rintro e w9 ⟨rfl, hb9⟩
                    have HU9 : Hid (Upd (fun _ => False) w w9) := Lib.hid (by
                      have h1 := HK.out.lo.trans hb9
                      rw [HB.out] at h1
                      exact HU2.out.trans (upd_of_below h1) (fun _ h _ => h))
                    clear hb9
                    go_wp2_with fail
                    first | go_ret | go_ret2
                    rw [print_yes HR.out]
                    exact ⟨rfl, HU9.out⟩
end Go.Proofs.YtmikibcgphkcfaaGreatDoor

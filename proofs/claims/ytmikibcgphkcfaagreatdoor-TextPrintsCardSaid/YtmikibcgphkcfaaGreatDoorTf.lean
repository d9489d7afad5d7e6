/- Package text: the words of a line taken as a name, a number, a kind. Package text: kinds; what an import's, a method's, an instruction's line tells. -/
import Derived.Test.YtmikibcgphkcfaaGreatDoorTe
import Derived.Test.YtmikibcgphkcfaaGreatDoorSh
import Derived.Shelf.Strconv.Clone
namespace Go.Proofs.YtmikibcgphkcfaaGreatDoor
section
open Go.RowKit Go.Lib
set_option linter.unusedVariables false
set_option linter.unusedSimpArgs false

abbrev Ws := By × Bool
def nameW (x : Ws) : By × Ws := match nmB (bs (nextP x.1).1) with
  | true => ((nextP x.1).1, ((nextP x.1).2, x.2))
  | false => ([], ((nextP x.1).2, true))
def numW (x : Ws) : Int × Ws := ((numP (nextP x.1).1).1, ((nextP x.1).2, x.2 || !(numP (nextP x.1).1).2))
def resW (x : Ws) : Int × Ws := (kindP (nextP x.1).1, ((nextP x.1).2, x.2 || !(decide (0 ≤ kindP (nextP x.1).1))))
def kindW (x : Ws) : Int × Ws := ((resW x).1, ((resW x).2.1, (resW x).2.2 || !((resW x).1 != 0)))
theorem next_le (l : By) : (nextP l).1.length + (nextP l).2.length ≤ l.length := by
  have h : (nextP l).1 ++ (nextP l).2 = l.dropWhile (fun b => b == 32) := List.takeWhile_append_dropWhile
  have h2 : (l.dropWhile (fun b => b == 32)).length ≤ l.length := (List.dropWhile_sublist _).length_le
  rw [← h, List.length_append] at h2
  exact h2
theorem next_rest (l : By) : (nextP l).2.length ≤ l.length := by have := next_le l; omega
theorem next_less (l : By) (h : emptyP l = false) : (nextP l).2.length < l.length := by
  have := next_le l
  have h1 : (nextP l).1 ≠ [] := by simpa [emptyP] using h
  have := List.length_pos_iff.2 h1
  omega
theorem tStrClone (s : ByteArray) (w : World) (h : s.size ≤ 281474976710656) : Calls Tryz.prog 104 #[.string s] w fun e w' => e = .returned (.string s) ∧ Upd (fun _ => False) w w' := by
  have H := Lib.hid (show Calls Tryz.prog 109 #[.string s] w fun e w' => e = .returned (.string s) ∧ Below w.heap.size w w' from Any.stringslite_Clone Tryz.laysClone s w h)
  clear h
  go_enter Tryz.func104, Tryz.ntmps104
  go_wp2_with fail
  refine H.out.mono ?_
  rintro e w1 ⟨rfl, hu⟩
  have HU := Lib.hid (upd_of_below hu)
  clear hu
  go_wp2_with fail
  go_ret
  exact ⟨rfl, HU.out⟩
section
variable {w : World} {b : Nat} {l : By} {bad : Bool}
theorem nm_size16 {s : ByteArray} (h : nmB s = true) : s.size ≤ 16 := by
  simp [nmB] at h
  exact h.1.2
set_option maxHeartbeats 1000000 in
theorem tName (hw : Wb w b l bad) (hl : l.length ≤ maxLen) : Calls Tryz.prog 84 #[.pointer (some ⟨b, 0, none⟩)] w fun e w' => e = .returned (.string (bs (nameW (l, bad)).1)) ∧ Wb w' b (nameW (l, bad)).2.1 (nameW (l, bad)).2.2 ∧ Upd (fun k => k = b) w w' := by
  have H := Lib.hid (tNext l bad b w hw hl)
  have HSZ := Lib.hid (show (bs (nextP l).1).size ≤ maxLen by rw [bs_size]; have := next_le l; omega)
  obtain ⟨nw, hnw⟩ : ∃ nw, nw = nameW (l, bad) := ⟨_, rfl⟩
  have HB := Lib.hid hw.lt
  cases hq : nmB (bs (nextP l).1) with
  | true =>
    have HN : Hid (nw = ((nextP l).1, ((nextP l).2, bad))) := Lib.hid (by rw [hnw]; unfold nameW; simp only [hq])
    have HQ := Lib.hid hq
    rw [← hnw]
    clear hw hq hnw
    go_enter Tryz.func84, Tryz.ntmps84
    go_wp2_with fail
    refine H.out.mono ?_
    rintro e w1 ⟨rfl, hw1, hu⟩
    have HW1 := Lib.hid hw1
    have HU1 := Lib.hid hu
    clear hw1 hu
    go_wp2_with fail
    refine (cIsName (bs (nextP l).1) w1 HSZ.out).mono ?_
    rw [HQ.out]
    rintro e w2 ⟨rfl, hu⟩
    have HW2 := Lib.hid (HW1.out.upd hu (fun h => h))
    have HU2 := Lib.hid (HU1.out.trans (hu.mono (T := fun k => k = b) (fun _ h _ => h.elim)) (fun _ h _ => h))
    clear hu
    go_wp2_with fail
    refine (tStrClone (bs (nextP l).1) w2 (by have := nm_size16 HQ.out; omega)).mono ?_
    rintro e w3 ⟨rfl, hu⟩
    have HW3 := Lib.hid (HW2.out.upd hu (fun h => h))
    have HU3 := Lib.hid (HU2.out.trans (hu.mono (T := fun k => k = b) (fun _ h _ => h.elim)) (fun _ h _ => h))
    clear hu
    go_wp2_with fail
    go_ret
    rw [HN.out]
    exact ⟨rfl, HW3.out, HU3.out⟩
  | false =>
    have HN : Hid (nw = ([], ((nextP l).2, true))) := Lib.hid (by rw [hnw]; unfold nameW; simp only [hq])
    have HQ := Lib.hid hq
    rw [← hnw]
    clear hw hq hnw
    go_enter Tryz.func84, Tryz.ntmps84
    go_wp2_with fail
    refine H.out.mono ?_
    rintro e w1 ⟨rfl, hw1, hu⟩
    have HW1 := Lib.hid hw1
    have HU1 := Lib.hid hu
    clear hw1 hu
    go_wp2_with fail
    refine (cIsName (bs (nextP l).1) w1 HSZ.out).mono ?_
    rw [HQ.out]
    rintro e w2 ⟨rfl, hu⟩
    have HW2 := Lib.hid (HW1.out.upd hu (fun h => h))
    have HU2 := Lib.hid (HU1.out.trans (hu.mono (T := fun k => k = b) (fun _ h _ => h.elim)) (fun _ h _ => h))
    obtain ⟨c0, c1, f0, f1⟩ := HW2.out.cell
    clear hu c0 f0
    go_wp2_with fail
    go_ret
    rw [HN.out]
    exact ⟨rfl, HW2.out.set1, HU2.out.trans (upd_one b 1 _ (Upd.refl _ _)) (fun _ h _ => h)⟩
set_option maxHeartbeats 1000000 in
theorem tNum (hw : Wb w b l bad) (hl : l.length ≤ maxLen) : Calls Tryz.prog 94 #[.pointer (some ⟨b, 0, none⟩)] w fun e w' => e = .returned (.int .i64 (numW (l, bad)).1) ∧ Wb w' b (numW (l, bad)).2.1 (numW (l, bad)).2.2 ∧ Upd (fun k => k = b) w w' := by
  have H := Lib.hid (tNext l bad b w hw hl)
  have HSZ := Lib.hid (show (nextP l).1.length ≤ maxLen by have := next_le l; omega)
  have HN : Hid (numW (l, bad) = ((numP (nextP l).1).1, ((nextP l).2, bad || !(numP (nextP l).1).2))) := Lib.hid rfl
  generalize numW (l, bad) = nw at *
  obtain ⟨x, hx⟩ : ∃ x, x = numP (nextP l).1 := ⟨_, rfl⟩
  have HX := Lib.hid hx
  rw [← hx] at HN
  clear hw hl hx
  go_enter Tryz.func94, Tryz.ntmps94
  go_wp2_with fail
  refine H.out.mono ?_
  rintro e w1 ⟨rfl, hw1, hu⟩
  have HW1 := Lib.hid hw1
  have HU1 := Lib.hid hu
  clear hw1 hu
  go_wp2_with fail
  refine (tNumber (nextP l).1 w1 HSZ.out).mono ?_
  rw [← HX.out]
  rintro e w2 ⟨rfl, hu⟩
  have HW2 := Lib.hid (HW1.out.upd hu (fun h => h))
  have HU2 := Lib.hid (HU1.out.trans (hu.mono (T := fun k => k = b) (fun _ h _ => h.elim)) (fun _ h _ => h))
  clear hu
  go_wp2_with fail
  refine (tNeed _ bad x.2 b w2 HW2.out).mono ?_
  rintro e w3 ⟨rfl, hw3, hu⟩
  have HW3 := Lib.hid hw3
  have HU3 := Lib.hid (HU2.out.trans hu (fun _ h _ => h))
  clear hw3 hu
  go_wp2_with fail
  go_ret
  rw [HN.out]
  exact ⟨rfl, HW3.out, HU3.out⟩
theorem kind_range (l : By) : -1 ≤ kindP l ∧ kindP l ≤ 4 := by
  unfold kindP
  split
  · rename_i k hk
    have := List.mem_of_find?_eq_some hk
    simp at this
    omega
  · omega
set_option maxHeartbeats 1000000 in
theorem tRes (hw : Wb w b l bad) (hl : l.length ≤ maxLen) : Calls Tryz.prog 105 #[.pointer (some ⟨b, 0, none⟩)] w fun e w' => e = .returned (.int .i64 (resW (l, bad)).1) ∧ Wb w' b (resW (l, bad)).2.1 (resW (l, bad)).2.2 ∧ Upd (fun k => k = b) w w' := by
  have H := Lib.hid (tNext l bad b w hw hl)
  have HN : Hid (resW (l, bad) = (kindP (nextP l).1, ((nextP l).2, bad || !(decide (0 ≤ kindP (nextP l).1))))) := Lib.hid rfl
  generalize resW (l, bad) = nw at *
  obtain ⟨x, hx⟩ : ∃ x, x = kindP (nextP l).1 := ⟨_, rfl⟩
  have HX := Lib.hid hx
  rw [← hx] at HN
  clear hw hl hx
  go_enter Tryz.func105, Tryz.ntmps105
  go_wp2_with fail
  refine H.out.mono ?_
  rintro e w1 ⟨rfl, hw1, hu⟩
  have HW1 := Lib.hid hw1
  have HU1 := Lib.hid hu
  clear hw1 hu
  go_wp2_with fail
  refine (tKind (nextP l).1 w1).mono ?_
  rw [← HX.out]
  rintro e w2 ⟨rfl, rfl⟩
  go_wp2_with fail
  refine (tNeed _ bad (decide (0 ≤ x)) b w1 HW1.out).mono ?_
  rintro e w3 ⟨rfl, hw3, hu⟩
  have HW3 := Lib.hid hw3
  have HU3 := Lib.hid (HU1.out.trans hu (fun _ h _ => h))
  clear hw3 hu
  go_wp2_with fail
  go_ret
  rw [HN.out]
  exact ⟨rfl, HW3.out, HU3.out⟩
set_option maxHeartbeats 1000000 in
theorem tKnd (hw : Wb w b l bad) (hl : l.length ≤ maxLen) : Calls Tryz.prog 86 #[.pointer (some ⟨b, 0, none⟩)] w fun e w' => e = .returned (.int .i64 (kindW (l, bad)).1) ∧ Wb w' b (kindW (l, bad)).2.1 (kindW (l, bad)).2.2 ∧ Upd (fun k => k = b) w w' := by
  have H := Lib.hid (tRes hw hl)
  have HN : Hid (kindW (l, bad) = ((resW (l, bad)).1, ((resW (l, bad)).2.1, (resW (l, bad)).2.2 || !((resW (l, bad)).1 != 0)))) := Lib.hid rfl
  generalize kindW (l, bad) = nw at *
  generalize resW (l, bad) = x at *
  clear hw hl
  go_enter Tryz.func86, Tryz.ntmps86
  go_wp2_with fail
  refine H.out.mono ?_
  rintro e w1 ⟨rfl, hw1, hu⟩
  have HW1 := Lib.hid hw1
  have HU1 := Lib.hid hu
  clear hw1 hu
  go_wp2_with fail
  refine (tNeed _ x.2.2 (x.1 != 0) b w1 HW1.out).mono ?_
  rintro e w3 ⟨rfl, hw3, hu⟩
  have HW3 := Lib.hid hw3
  have HU3 := Lib.hid (HU1.out.trans hu (fun _ h _ => h))
  clear hw3 hu
  go_wp2_with fail
  go_ret
  rw [HN.out]
  exact ⟨rfl, HW3.out, HU3.out⟩
end
end

section
open Go.RowKit Go.Lib
set_option linter.unusedVariables false
set_option linter.unusedSimpArgs false

def kindsGo : Nat → Int → List Int → Ws → List Int × Ws
  | 0, _, L, x => (L, x)
  | f + 1, most, L, x => match !x.2 && !emptyP x.1 with
    | true => kindsGo f most (addL most L (kindW x).1) (kindW x).2
    | false => (L, x)
def kindsW (most : Int) (x : Ws) : List Int × Ws := kindsGo (x.1.length + 1) most [] x
theorem kinds_stop {f : Nat} {most : Int} {L : List Int} {x : Ws} (h : (!x.2 && !emptyP x.1) = false) : kindsGo (f + 1) most L x = (L, x) := by
  show (match !x.2 && !emptyP x.1 with | true => kindsGo f most (addL most L (kindW x).1) (kindW x).2 | false => (L, x)) = _
  rw [h]
theorem kinds_on {f : Nat} {most : Int} {L : List Int} {x : Ws} (h : (!x.2 && !emptyP x.1) = true) : kindsGo (f + 1) most L x = kindsGo f most (addL most L (kindW x).1) (kindW x).2 := by
  show (match !x.2 && !emptyP x.1 with | true => kindsGo f most (addL most L (kindW x).1) (kindW x).2 | false => (L, x)) = _
  rw [h]
theorem kindW_rest (x : Ws) : (kindW x).2.1 = (nextP x.1).2 := rfl
theorem kindW_range (x : Ws) : -1 ≤ (kindW x).1 ∧ (kindW x).1 ≤ 4 := kind_range _
def wbLen (w : World) (b : Nat) : Nat := match w.cell? ⟨b, 0, none⟩ with
  | some (.string s) => s.size
  | _ => 0
theorem Wb.len {w : World} {b : Nat} {l : By} {bad : Bool} (h : Wb w b l bad) : wbLen w b = l.length := by
  unfold wbLen
  rw [h.cell.1]
  exact bs_size l
/-- the list, so far: an own row, new since w -/
structure Kds (w wr : World) (b : Nat) (v : Value) (L : List Int) (x : Ws) : Prop where
  row : Row wr 3 1 intC v L
  wb : Wb wr b x.1 x.2
  up : Upd (fun k => k = b) w wr
  new : ∀ k, v.ownBlock = some k → w.heap.size ≤ k
  len : L.length ≤ 11
  xl : x.1.length ≤ maxLen
section
variable {w : World} {b : Nat} {l : By} {bad : Bool}
set_option maxHeartbeats 2000000 in
theorem tKinds (hw : Wb w b l bad) (hl : l.length ≤ maxLen) (most : Int) (hm : 0 ≤ most ∧ most ≤ 10) : Calls Tryz.prog 92 #[.pointer (some ⟨b, 0, none⟩), .int .i64 most] w fun e w' => ∃ r, e = .returned r ∧ Kds w w' b r (kindsW most (l, bad)).1 (kindsW most (l, bad)).2 := by
  obtain ⟨T, hT⟩ : ∃ T, T = kindsW most (l, bad) := ⟨_, rfl⟩
  rw [← hT]
  have H0 : Hid (∃ f, T = kindsGo f most [] (l, bad) ∧ (l, bad).1.length < f) := Lib.hid ⟨l.length + 1, hT, Nat.lt_succ_self _⟩
  have hbl : b < w.heap.size := hw.lt
  have HK0 : Hid (Kds w w b (.slice none 0 0) [] (l, bad)) := Lib.hid ⟨Row.nil _ _ _ _, hw, Upd.refl _ _, by simp [Value.ownBlock], by simp, hl⟩
  have HM := Lib.hid hm
  clear hw hl hT hm
  go_enter Tryz.func92, Tryz.ntmps92
  go_wp2_with fail
  go_loopw [5] (fun v wr => ∃ (L : List Int) (x : Ws), Hid (Kds w wr b v L x) ∧ Hid (∃ f, T = kindsGo f most L x ∧ x.1.length < f)) (fun _ wr => wbLen wr b)
  case atStart => exact ⟨[], (l, bad), HK0, H0⟩
  case round =>
    obtain ⟨L, x, HK, HF⟩ := hrel
    obtain ⟨l1, bad1⟩ := x
    obtain ⟨a, c, rfl⟩ := ownsRow_slice HK.out.row
    have HLEN := Lib.hid HK.out.wb.len
    obtain ⟨c0, c1, f0, f1⟩ := HK.out.wb.cell
    cases hb : bad1 with
    | true =>
      have HE : Hid (T = (L, (l1, true))) := Lib.hid (by
        obtain ⟨f, h1, h2⟩ := HF.out
        obtain ⟨g, rfl⟩ : ∃ g, f = g + 1 := ⟨f - 1, by omega⟩
        rw [h1, kinds_stop (by rw [hb]; rfl), hb])
      subst hb
      clear c0 f0
      go_wp2_with fail
      go_ret
      rw [HE.out]
      exact ⟨_, rfl, HK.out⟩
    | false =>
      subst hb
      have HEM := Lib.hid (tIsEmpty l1 false b wr HK.out.wb HK.out.xl)
      clear c0 f0
      cases he : emptyP l1 with
      | true =>
        have HE : Hid (T = (L, (l1, false))) := Lib.hid (by
          obtain ⟨f, h1, h2⟩ := HF.out
          obtain ⟨g, rfl⟩ : ∃ g, f = g + 1 := ⟨f - 1, by omega⟩
          rw [h1, kinds_stop (by simp [he])])
        have HEQ := Lib.hid he
        clear he
        go_wp2_with fail
        refine HEM.out.mono ?_
        rw [HEQ.out]
        rintro e w2 ⟨rfl, hu⟩
        have HK2 : Hid (Kds w w2 b (.slice a L.length c) L (l1, false)) := Lib.hid ⟨HK.out.row.upd hu (fun _ _ h => h), HK.out.wb.upd hu (fun h => h), HK.out.up.trans (hu.mono (T := fun k => k = b) (fun _ h _ => h.elim)) (fun _ h _ => h), HK.out.new, HK.out.len, HK.out.xl⟩
        clear hu
        go_wp2_with fail
        go_ret
        rw [HE.out]
        exact ⟨_, rfl, HK2.out⟩
      | false =>
        have HF2 : Hid (∃ f, T = kindsGo f most (addL most L (kindW (l1, false)).1) (kindW (l1, false)).2 ∧ (kindW (l1, false)).2.1.length < f) := Lib.hid (by
          obtain ⟨f, h1, h2⟩ := HF.out
          obtain ⟨g, rfl⟩ : ∃ g, f = g + 1 := ⟨f - 1, by omega⟩
          refine ⟨g, ?_, ?_⟩
          · rw [h1, kinds_on (by simp [he])]
          · rw [kindW_rest]
            have := next_less l1 he
            simp only at h2 ⊢
            omega)
        have HLS := Lib.hid (next_less l1 he)
        have HEQ := Lib.hid he
        clear he
        go_wp2_with fail
        refine HEM.out.mono ?_
        rw [HEQ.out]
        rintro e w2 ⟨rfl, hu⟩
        have HK2 : Hid (Kds w w2 b (.slice a L.length c) L (l1, false)) := Lib.hid ⟨HK.out.row.upd hu (fun _ _ h => h), HK.out.wb.upd hu (fun h => h), HK.out.up.trans (hu.mono (T := fun k => k = b) (fun _ h _ => h.elim)) (fun _ h _ => h), HK.out.new, HK.out.len, HK.out.xl⟩
        clear hu c1 f1
        go_wp2_with fail
        refine (tKnd (l := l1) (bad := false) HK2.out.wb HK2.out.xl).mono ?_
        rintro e w3 ⟨rfl, hwb, hu⟩
        have HNB : Hid (∀ k, (Value.slice a L.length c).ownBlock = some k → ¬ k = b) := Lib.hid (fun k hk hkb => by have := HK.out.new k hk; omega)
        have HR3 := Lib.hid (HK2.out.row.upd hu HNB.out)
        have HW3 := Lib.hid hwb
        have HU3 := Lib.hid (HK2.out.up.trans hu (fun _ h _ => h))
        clear hwb hu
        go_wp2_with fail
        refine (tAddInt w3 (.slice a L.length c) L most _ HR3.out (by have := HK.out.len; omega)).mono ?_
        rintro e w4 ⟨v', rfl, hr, hu, hf⟩
        have HK4 : Hid (Kds w w4 b v' (addL most L (kindW (l1, false)).1) (kindW (l1, false)).2) := Lib.hid ⟨hr, HW3.out.upd hu (fun h => HNB.out b h rfl), HU3.out.trans hu (fun i hi hl => by
          have := HK.out.new i hi; omega), fun k hk => by
          rcases hf k hk with h | h
          · exact HK.out.new k h
          · have := HU3.out.size; omega, addL_len HM.out.1 (by have := HM.out.2; omega) HK.out.len, by rw [kindW_rest]; have := next_rest l1; have := HK.out.xl; simp only at this ⊢; omega⟩
        have HLEN4 := Lib.hid HK4.out.wb.len
        obtain ⟨va, vc, rfl⟩ := ownsRow_slice hr
        clear hr hu hf
        go_wp2_with fail
        go_roundw
        case rel => exact ⟨_, _, HK4, HF2⟩
        case measure => rw [HLEN.out, HLEN4.out, kindW_rest]; exact HLS.out
end
end
end Go.Proofs.YtmikibcgphkcfaaGreatDoor

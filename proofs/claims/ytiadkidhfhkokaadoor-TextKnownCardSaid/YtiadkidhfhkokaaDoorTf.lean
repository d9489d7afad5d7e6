/- Package text: the words of a line taken as a name, a number, a kind. -/
import Derived.Test.YtiadkidhfhkokaaDoorTe
import Derived.Test.YtiadkidhfhkokaaDoorSh
import Derived.Shelf.Strconv.Clone
namespace Go.Proofs.YtiadkidhfhkokaaDoor
open Go.RowKit Go.Lib
set_option linter.unusedVariables false
set_option linter.unusedSimpArgs false

abbrev Ws := By × Bool
def nameW (x : Ws) : By × Ws := match nmB (bs (nextP x.1).1) with
  | true => ((nextP x.1).1, ((nextP x.1).2, x.2))
  | false => ([], ((nextP x.1).2, true))
def numW (x : Ws) : Int × Ws := ((numP (nextP x.1).1).1, ((nextP x.1).2, x.2 || !(numP (nextP x.1).1).2))
def resW (x : Ws) : Int × Ws := (kindP (nextP x.1).1, ((nextP x.1).2, x.2 || !(decide (0 ≤ kindP (nextP x.1).1))))
def kindW (x : Ws) : Int × Ws := ((resW x).1, ((resW x).2.1, (resW x).2.2 || !((resW x).1 != 0)))
theorem next_le (l : By) : (nextP l).1.length + (nextP l).2.length ≤ l.length := by
  have h : (nextP l).1 ++ (nextP l).2 = l.dropWhile (fun b => b == 32) := List.takeWhile_append_dropWhile
  have h2 : (l.dropWhile (fun b => b == 32)).length ≤ l.length := (List.dropWhile_sublist _).length_le
  rw [← h, List.length_append] at h2
  exact h2
theorem next_rest (l : By) : (nextP l).2.length ≤ l.length := by have := next_le l; omega
theorem next_less (l : By) (h : emptyP l = false) : (nextP l).2.length < l.length := by
  have := next_le l
  have h1 : (nextP l).1 ≠ [] := by simpa [emptyP] using h
  have := List.length_pos_iff.2 h1
  omega
theorem tStrClone (s : ByteArray) (w : World) (h : s.size ≤ 281474976710656) : Calls Tryd.prog 100 #[.string s] w fun e w' => e = .returned (.string s) ∧ Upd (fun _ => False) w w' := by
  have H := Lib.hid (show Calls Tryd.prog 115 #[.string s] w fun e w' => e = .returned (.string s) ∧ Below w.heap.size w w' from Any.stringslite_Clone Tryd.laysClone s w h)
  clear h
  go_enter Tryd.func100, Tryd.ntmps100
  go_wp2_with fail
  refine H.out.mono ?_
  rintro e w1 ⟨rfl, hu⟩
  have HU := Lib.hid (upd_of_below hu)
  clear hu
  go_wp2_with fail
  go_ret
  exact ⟨rfl, HU.out⟩
section
variable {w : World} {b : Nat} {l : By} {bad : Bool}
theorem nm_size16 {s : ByteArray} (h : nmB s = true) : s.size ≤ 16 := by
  simp [nmB] at h
  exact h.1.2
set_option maxHeartbeats 1000000 in
theorem tName (hw : Wb w b l bad) (hl : l.length ≤ maxLen) : Calls Tryd.prog 72 #[.pointer (some ⟨b, 0, none⟩)] w fun e w' => e = .returned (.string (bs (nameW (l, bad)).1)) ∧ Wb w' b (nameW (l, bad)).2.1 (nameW (l, bad)).2.2 ∧ Upd (fun k => k = b) w w' := by
  have H := Lib.hid (tNext l bad b w hw hl)
  have HSZ := Lib.hid (show (bs (nextP l).1).size ≤ maxLen by rw [bs_size]; have := next_le l; omega)
  obtain ⟨nw, hnw⟩ : ∃ nw, nw = nameW (l, bad) := ⟨_, rfl⟩
  have HB := Lib.hid hw.lt
  cases hq : nmB (bs (nextP l).1) with
  | true =>
    have HN : Hid (nw = ((nextP l).1, ((nextP l).2, bad))) := Lib.hid (by rw [hnw]; unfold nameW; simp only [hq])
    have HQ := Lib.hid hq
    rw [← hnw]
    clear hw hq hnw
    go_enter Tryd.func72, Tryd.ntmps72
    go_wp2_with fail
    refine H.out.mono ?_
    rintro e w1 ⟨rfl, hw1, hu⟩
    have HW1 := Lib.hid hw1
    have HU1 := Lib.hid hu
    clear hw1 hu
    go_wp2_with fail
    refine (cIsName (bs (nextP l).1) w1 HSZ.out).mono ?_
    rw [HQ.out]
    rintro e w2 ⟨rfl, hu⟩
    have HW2 := Lib.hid (HW1.out.upd hu (fun h => h))
    have HU2 := Lib.hid (HU1.out.trans (hu.mono (T := fun k => k = b) (fun _ h _ => h.elim)) (fun _ h _ => h))
    clear hu
    go_wp2_with fail
    refine (tStrClone (bs (nextP l).1) w2 (by have := nm_size16 HQ.out; omega)).mono ?_
    rintro e w3 ⟨rfl, hu⟩
    have HW3 := Lib.hid (HW2.out.upd hu (fun h => h))
    have HU3 := Lib.hid (HU2.out.trans (hu.mono (T := fun k => k = b) (fun _ h _ => h.elim)) (fun _ h _ => h))
    clear hu
    go_wp2_with fail
    go_ret
    rw [HN.out]
    exact ⟨rfl, HW3.out, HU3.out⟩
  | false =>
    have HN : Hid (nw = ([], ((nextP l).2, true))) := Lib.hid (by rw [hnw]; unfold nameW; simp only [hq])
    have HQ := Lib.hid hq
    rw [← hnw]
    clear hw hq hnw
    go_enter Tryd.func72, Tryd.ntmps72
    go_wp2_with fail
    refine H.out.mono ?_
    rintro e w1 ⟨rfl, hw1, hu⟩
    have HW1 := Lib.hid hw1
    have HU1 := Lib.hid hu
    clear hw1 hu
    go_wp2_with fail
    refine (cIsName (bs (nextP l).1) w1 HSZ.out).mono ?_
    rw [HQ.out]
    rintro e w2 ⟨rfl, hu⟩
    have HW2 := Lib.hid (HW1.out.upd hu (fun h => h))
    have HU2 := Lib.hid (HU1.out.trans (hu.mono (T := fun k => k = b) (fun _ h _ => h.elim)) (fun _ h _ => h))
    obtain ⟨c0, c1, f0, f1⟩ := HW2.out.cell
    clear hu c0 f0
    go_wp2_with fail
    go_ret
    rw [HN.out]
    exact ⟨rfl, HW2.out.set1, HU2.out.trans (upd_one b 1 _ (Upd.refl _ _)) (fun _ h _ => h)⟩
set_option maxHeartbeats 1000000 in
theorem tNum (hw : Wb w b l bad) (hl : l.length ≤ maxLen) : Calls Tryd.prog 82 #[.pointer (some ⟨b, 0, none⟩)] w fun e w' => e = .returned (.int .i64 (numW (l, bad)).1) ∧ Wb w' b (numW (l, bad)).2.1 (numW (l, bad)).2.2 ∧ Upd (fun k => k = b) w w' := by
  have H := Lib.hid (tNext l bad b w hw hl)
  have HSZ := Lib.hid (show (nextP l).1.length ≤ maxLen by have := next_le l; omega)
  have HN : Hid (numW (l, bad) = ((numP (nextP l).1).1, ((nextP l).2, bad || !(numP (nextP l).1).2))) := Lib.hid rfl
  generalize numW (l, bad) = nw at *
  obtain ⟨x, hx⟩ : ∃ x, x = numP (nextP l).1 := ⟨_, rfl⟩
  have HX := Lib.hid hx
  rw [← hx] at HN
  clear hw hl hx
  go_enter Tryd.func82, Tryd.ntmps82
  go_wp2_with fail
  refine H.out.mono ?_
  rintro e w1 ⟨rfl, hw1, hu⟩
  have HW1 := Lib.hid hw1
  have HU1 := Lib.hid hu
  clear hw1 hu
  go_wp2_with fail
  refine (tNumber (nextP l).1 w1 HSZ.out).mono ?_
  rw [← HX.out]
  rintro e w2 ⟨rfl, hu⟩
  have HW2 := Lib.hid (HW1.out.upd hu (fun h => h))
  have HU2 := Lib.hid (HU1.out.trans (hu.mono (T := fun k => k = b) (fun _ h _ => h.elim)) (fun _ h _ => h))
  clear hu
  go_wp2_with fail
  refine (tNeed _ bad x.2 b w2 HW2.out).mono ?_
  rintro e w3 ⟨rfl, hw3, hu⟩
  have HW3 := Lib.hid hw3
  have HU3 := Lib.hid (HU2.out.trans hu (fun _ h _ => h))
  clear hw3 hu
  go_wp2_with fail
  go_ret
  rw [HN.out]
  exact ⟨rfl, HW3.out, HU3.out⟩
theorem kind_range (l : By) : -1 ≤ kindP l ∧ kindP l ≤ 4 := by
  unfold kindP
  split
  · rename_i k hk
    have := List.mem_of_find?_eq_some hk
    simp at this
    omega
  · omega
set_option maxHeartbeats 1000000 in
theorem tRes (hw : Wb w b l bad) (hl : l.length ≤ maxLen) : Calls Tryd.prog 101 #[.pointer (some ⟨b, 0, none⟩)] w fun e w' => e = .returned (.int .i64 (resW (l, bad)).1) ∧ Wb w' b (resW (l, bad)).2.1 (resW (l, bad)).2.2 ∧ Upd (fun k => k = b) w w' := by
  have H := Lib.hid (tNext l bad b w hw hl)
  have HN : Hid (resW (l, bad) = (kindP (nextP l).1, ((nextP l).2, bad || !(decide (0 ≤ kindP (nextP l).1))))) := Lib.hid rfl
  generalize resW (l, bad) = nw at *
  obtain ⟨x, hx⟩ : ∃ x, x = kindP (nextP l).1 := ⟨_, rfl⟩
  have HX := Lib.hid hx
  rw [← hx] at HN
  clear hw hl hx
  go_enter Tryd.func101, Tryd.ntmps101
  go_wp2_with fail
  refine H.out.mono ?_
  rintro e w1 ⟨rfl, hw1, hu⟩
  have HW1 := Lib.hid hw1
  have HU1 := Lib.hid hu
  clear hw1 hu
  go_wp2_with fail
  refine (tKind (nextP l).1 w1).mono ?_
  rw [← HX.out]
  rintro e w2 ⟨rfl, rfl⟩
  go_wp2_with fail
  refine (tNeed _ bad (decide (0 ≤ x)) b w1 HW1.out).mono ?_
  rintro e w3 ⟨rfl, hw3, hu⟩
  have HW3 := Lib.hid hw3
  have HU3 := Lib.hid (HU1.out.trans hu (fun _ h _ => h))
  clear hw3 hu
  go_wp2_with fail
  go_ret
  rw [HN.out]
  exact ⟨rfl, HW3.out, HU3.out⟩
set_option maxHeartbeats 1000000 in
theorem tKnd (hw : Wb w b l bad) (hl : l.length ≤ maxLen) : Calls Tryd.prog 74 #[.pointer (some ⟨b, 0, none⟩)] w fun e w' => e = .returned (.int .i64 (kindW (l, bad)).1) ∧ Wb w' b (kindW (l, bad)).2.1 (kindW (l, bad)).2.2 ∧ Upd (fun k => k = b) w w' := by
  have H := Lib.hid (tRes hw hl)
  have HN : Hid (kindW (l, bad) = ((resW (l, bad)).1, ((resW (l, bad)).2.1, (resW (l, bad)).2.2 || !((resW (l, bad)).1 != 0)))) := Lib.hid rfl
  generalize kindW (l, bad) = nw at *
  generalize resW (l, bad) = x at *
  clear hw hl
  go_enter Tryd.func74, Tryd.ntmps74
  go_wp2_with fail
  refine H.out.mono ?_
  rintro e w1 ⟨rfl, hw1, hu⟩
  have HW1 := Lib.hid hw1
  have HU1 := Lib.hid hu
  clear hw1 hu
  go_wp2_with fail
  refine (tNeed _ x.2.2 (x.1 != 0) b w1 HW1.out).mono ?_
  rintro e w3 ⟨rfl, hw3, hu⟩
  have HW3 := Lib.hid hw3
  have HU3 := Lib.hid (HU1.out.trans hu (fun _ h _ => h))
  clear hw3 hu
  go_wp2_with fail
  go_ret
  rw [HN.out]
  exact ⟨rfl, HW3.out, HU3.out⟩
end
end Go.Proofs.YtiadkidhfhkokaaDoor

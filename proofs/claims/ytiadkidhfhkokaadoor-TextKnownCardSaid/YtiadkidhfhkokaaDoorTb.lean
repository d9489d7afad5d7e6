/- Package text: plain, and the words of a line: next, isEmpty, need. -/
import Derived.Test.YtiadkidhfhkokaaDoorTa
import Derived.LoopTactic
namespace Go.Proofs.YtiadkidhfhkokaaDoor
open Go.RowKit Go.Lib
set_option linter.unusedVariables false
set_option linter.unusedSimpArgs false

theorem ret_str {a b : ByteArray} (h : a = b) : Ending.returned (.string a) = Ending.returned (.string b) := by rw [h]
theorem drop_zero_by (l : By) : l.drop 0 = l := rfl
set_option maxHeartbeats 1000000 in
theorem tPlain (l : By) (w : World) (hl : l.length ≤ maxLen) : Calls Tryd.prog 41 #[.string (bs l)] w fun e w' => e = .returned (.string (bs (plainP l))) ∧ Upd (fun _ => False) w w' := by
  unfold maxLen at hl
  have HSZ := Lib.hid (bs_size l)
  have HI0 := Lib.hid (upd_iter w (bs l) 0)
  have HF0 : Hid (Free 35 l 0 0) := Lib.hid (fun j h1 h2 => by omega)
  go_enter Tryd.func41, Tryd.ntmps41
  go_wp2_with fail
  go_loopw [7] (fun _ wr => ∃ pos : Nat, pos ≤ l.length ∧ Hid (wr.heap[w.heap.size]? = some (.stringIter (bs l) pos)) ∧ Hid (Upd (fun _ => False) w wr) ∧ Hid (Free 35 l 0 pos)) (fun _ wr => l.length - wr.iterPos w.heap.size)
  case atStart => exact ⟨0, Nat.zero_le _, Lib.hid (World.iter_heap _ _ _), HI0, HF0⟩
  case round =>
    obtain ⟨pos, hpl, HI, HU, HF⟩ := hrel
    by_cases hp : pos < l.length
    · have hnx := fun ty => Lib.run_next_any_at (P := Tryd.prog) wr w.heap.size (bs l) pos ty HI.out (by rw [bs_size]; exact hp)
      obtain ⟨hd1, hd2, hcs⟩ := scan_step l pos 35 hp (by omega)
      have hr := dec_rune (bs l) pos
      generalize (Utf8.decode (bs l) pos).1 = r at *
      generalize (Utf8.decode (bs l) pos).2 = d at *
      have HU2 := Lib.hid (upd_iterAt w.heap.size (bs l) (pos + d) HU.out (Nat.le_refl _))
      have HI2 : Hid ((wr.iterAt w.heap.size (bs l) (pos + d)).heap[w.heap.size]? = some (.stringIter (bs l) (pos + d))) := Lib.iterAt_heap _ _ _ _ _ HI.out
      have HP1 := Lib.hid (iterPos_of HI.out)
      have HP2 := Lib.hid (iterPos_of HI2.out)
      generalize wr.iterAt w.heap.size (bs l) (pos + d) = w2 at *
      rcases hcs with ⟨hb, rfl, rfl⟩ | ⟨hne, hfr⟩
      · have HE : Hid ((bs l).extract 0 pos = bs (plainP l)) := Lib.hid (by
          rw [bs_ext, drop_zero_by, Nat.sub_zero]
          exact congrArg bs ((ahead_of 35 l pos HF.out hpl (.inr hb)).1).symm)
        clear hb
        have hpi : (pos : Int) ≤ ((bs l).size : Int) := by rw [bs_size]; omega
        go_wp2_with fail
        go_ret
        exact ⟨ret_str HE.out, HU2.out⟩
      · have HF2 := Lib.hid (HF.out.more hfr)
        have hb : ((r : Int) == 35) = false := by simp; omega
        clear hfr hne
        go_wp2_with fail
        go_roundw
        case rel => exact ⟨pos + d, by omega, HI2, HU2, HF2⟩
        case measure => rw [HP1.out, HP2.out]; omega
    · obtain rfl : pos = l.length := by omega
      have hnx := fun ty => Lib.run_next_end_at (P := Tryd.prog) wr w.heap.size (bs l) l.length ty HI.out (by rw [bs_size]; omega)
      have HE : Hid (plainP l = l) := Lib.hid (by
        have := (ahead_of 35 l l.length HF.out (Nat.le_refl _) (.inl rfl)).1
        rwa [List.take_of_length_le (Nat.le_refl _)] at this)
      go_wp2_with fail
      go_ret
      exact ⟨ret_str (by rw [HE.out]), HU.out⟩

/-- the words of a line, in a box -/
def Wb (w : World) (b : Nat) (l : By) (bad : Bool) : Prop := w.heap[b]? = some (.cells #[.string (bs l), .bool bad] 85 (0, 0))
theorem Wb.cell {w : World} {b : Nat} {l : By} {bad : Bool} (h : Wb w b l bad) : w.cell? ⟨b, 0, none⟩ = some (.string (bs l)) ∧ w.cell? ⟨b, 1, none⟩ = some (.bool bad) ∧ w.frozen? ⟨b, 0, none⟩ = false ∧ w.frozen? ⟨b, 1, none⟩ = false := by
  refine ⟨by simp [World.cell?, show w.heap[b]? = _ from h], by simp [World.cell?, show w.heap[b]? = _ from h], by simp [World.frozen?, show w.heap[b]? = _ from h], by simp [World.frozen?, show w.heap[b]? = _ from h]⟩
theorem Wb.lt {w : World} {b : Nat} {l : By} {bad : Bool} (h : Wb w b l bad) : b < w.heap.size := (Array.getElem?_eq_some_iff.1 (show w.heap[b]? = _ from h)).1
theorem Wb.upd {S : Nat → Prop} {w w' : World} {b : Nat} {l : By} {bad : Bool} (h : Wb w b l bad) (hu : Upd S w w') (hS : ¬ S b) : Wb w' b l bad := (hu.block b h.lt hS).trans h
theorem Wb.set0 {w : World} {b : Nat} {l m : By} {bad : Bool} (h : Wb w b l bad) : Wb (w.setCell ⟨b, 0, none⟩ (.string (bs m))) b m bad := by
  simp [Wb, World.setCell, Array.getElem?_modify, show w.heap[b]? = _ from h]
theorem Wb.set1 {w : World} {b : Nat} {l : By} {bad q : Bool} (h : Wb w b l bad) : Wb (w.setCell ⟨b, 1, none⟩ (.bool q)) b l q := by
  simp [Wb, World.setCell, Array.getElem?_modify, show w.heap[b]? = _ from h]
theorem upd_one {w w' : World} (b q : Nat) (u : Value) (h : Upd (fun _ => False) w w') : Upd (fun k => k = b) w (w'.setCell ⟨b, q, none⟩ u) :=
  (h.mono (T := fun k => k = b) (fun _ h _ => h.elim)).trans (Upd.setCell (S := fun k => k = b) w' (.inl rfl) u) (fun _ h _ => h)
set_option maxHeartbeats 2000000 in
theorem tNext (l : By) (bad : Bool) (b : Nat) (w : World) (hw : Wb w b l bad) (hl : l.length ≤ maxLen) :
    Calls Tryd.prog 43 #[.pointer (some ⟨b, 0, none⟩)] w fun e w' => e = .returned (.string (bs (nextP l).1)) ∧ Wb w' b (nextP l).2 bad ∧ Upd (fun k => k = b) w w' := by
  unfold maxLen at hl
  have HSZ := Lib.hid (bs_size l)
  have HI0 := Lib.hid (upd_iter w (bs l) 0)
  have HF0 : Hid (Free 32 l 0 0) := Lib.hid (fun j h1 h2 => by omega)
  have HK0 : Hid (∀ j, j < 0 → byAt l j = 32) := Lib.hid (fun j h1 => by omega)
  have HW := Lib.hid hw
  obtain ⟨c0, c1, f0, f1⟩ := hw.cell
  have hbl : b < w.heap.size := hw.lt
  clear hw
  go_enter Tryd.func43, Tryd.ntmps43
  go_wp2_with fail
  clear c0 c1 f0 f1
  go_loopw [3, 13] (fun fr _ wr => ∃ k pos : Nat, k ≤ pos ∧ pos ≤ l.length ∧ fr = .int .i64 k ∧ Hid (wr.heap[w.heap.size]? = some (.stringIter (bs l) pos)) ∧ Hid (Upd (fun _ => False) w wr) ∧ Hid (Free 32 l k pos) ∧ Hid (∀ j, j < k → byAt l j = 32)) (fun _ _ wr => l.length - wr.iterPos w.heap.size)
  case atStart => exact ⟨0, 0, Nat.le_refl _, Nat.zero_le _, rfl, Lib.hid (World.iter_heap _ _ _), HI0, HF0, HK0⟩
  case round =>
    obtain ⟨k, pos, hkp, hpl, rfl, HI, HU, HF, HK⟩ := hrel
    by_cases hp : pos < l.length
    · have hnx := fun ty => Lib.run_next_any_at (P := Tryd.prog) wr w.heap.size (bs l) pos ty HI.out (by rw [bs_size]; exact hp)
      obtain ⟨hd1, hd2, hcs⟩ := scan_step l pos 32 hp (by omega)
      have hr := dec_rune (bs l) pos
      generalize (Utf8.decode (bs l) pos).1 = r at *
      generalize (Utf8.decode (bs l) pos).2 = d at *
      have HU2 := Lib.hid (upd_iterAt w.heap.size (bs l) (pos + d) HU.out (Nat.le_refl _))
      have HI2 : Hid ((wr.iterAt w.heap.size (bs l) (pos + d)).heap[w.heap.size]? = some (.stringIter (bs l) (pos + d))) := Lib.iterAt_heap _ _ _ _ _ HI.out
      have HP1 := Lib.hid (iterPos_of HI.out)
      have HP2 := Lib.hid (iterPos_of HI2.out)
      generalize wr.iterAt w.heap.size (bs l) (pos + d) = w2 at *
      rcases hcs with ⟨hb, rfl, rfl⟩ | ⟨hne, hfr⟩
      · by_cases hlt : k < pos
        · have HN := Lib.hid (next_split l k pos HK.out hkp hpl HF.out (.inr ⟨hlt, hb⟩))
          have HE : Hid ((bs l).extract k pos = bs (nextP l).1) := Lib.hid (by rw [HN.out, bs_ext])
          have HE2 : Hid ((bs l).extract pos (bs l).size = bs (nextP l).2) := Lib.hid (by rw [HN.out, bs_ext, bs_size, List.take_of_length_le (by simp)])
          have HW2 := Lib.hid (HW.out.upd HU2.out (fun h => h))
          obtain ⟨c0, c1, f0, f1⟩ := HW2.out.cell
          clear hb c1 f1
          have hpi : (pos : Int) ≤ ((bs l).size : Int) := by rw [bs_size]; omega
          have hki : (k : Int) ≤ (pos : Int) := by omega
          go_wp2_with fail
          go_ret
          rw [HE2.out]
          exact ⟨ret_str HE.out, HW2.out.set0, upd_one b 0 _ HU2.out⟩
        · obtain rfl : k = pos := by omega
          have HK2 : Hid (∀ j, j < k + 1 → byAt l j = 32) := Lib.hid (fun j hj => by
            by_cases h : j < k
            · exact HK.out j h
            · obtain rfl : j = k := by omega
              exact hb)
          have HF2 : Hid (Free 32 l (k + 1) (k + 1)) := Lib.hid (fun j h1 h2 => by omega)
          clear hb
          go_wp2_with fail
          go_roundw
          case rel => exact ⟨k + 1, k + 1, Nat.le_refl _, by omega, by go_num, HI2, HU2, HF2, HK2⟩
          case measure => rw [HP1.out, HP2.out]; omega
      · have HF2 := Lib.hid (HF.out.more hfr)
        have hb : ((r : Int) != 32) = true := by simp; omega
        clear hfr hne
        go_wp2_with fail
        go_roundw
        case rel => exact ⟨k, pos + d, by omega, by omega, rfl, HI2, HU2, HF2, HK⟩
        case measure => rw [HP1.out, HP2.out]; omega
    · obtain rfl : pos = l.length := by omega
      have hnx := fun ty => Lib.run_next_end_at (P := Tryd.prog) wr w.heap.size (bs l) l.length ty HI.out (by rw [bs_size]; omega)
      have HN := Lib.hid (next_split l k l.length HK.out hkp (Nat.le_refl _) HF.out (.inl rfl))
      have HE : Hid ((bs l).extract k (bs l).size = bs (nextP l).1) := Lib.hid (by rw [HN.out, bs_ext, bs_size])
      have HE2 : Hid (({ data := #[] } : ByteArray) = bs (nextP l).2) := Lib.hid (by rw [HN.out, List.drop_of_length_le (Nat.le_refl _)]; rfl)
      have HW2 := Lib.hid (HW.out.upd HU.out (fun h => h))
      obtain ⟨c0, c1, f0, f1⟩ := HW2.out.cell
      clear c1 f1
      have hki : (k : Int) ≤ ((bs l).size : Int) := by rw [bs_size]; omega
      go_wp2_with fail
      go_ret
      rw [HE2.out]
      exact ⟨ret_str HE.out, HW2.out.set0, upd_one b 0 _ HU.out⟩
end Go.Proofs.YtiadkidhfhkokaaDoor

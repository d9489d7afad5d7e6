/- Package text: printLine. -/
import Derived.Test.YtiadkidhfhkokaaDoorTw
namespace Go.Proofs.YtiadkidhfhkokaaDoor
open Go.RowKit Go.Shelf Go.Lib
set_option linter.unusedVariables false
set_option linter.unusedSimpArgs false

/-- a line: words, and its end -/
def lineT (xs : List By) : By := joinB xs ++ [10]
theorem tPrintLine {B b : Nat} {w : World} {s : By} {v : Value} {xs : List By} (h : Bd B b w s) (hv : Strs w v xs) (hl : s.length + (joinB xs).length + 1 ≤ 140737488355328) (hB : B ≤ w.heap.size) : Calls Tryd.prog 24 #[.pointer (some ⟨b, 0, none⟩), v] w fun e w' => e = .returned (.tuple #[]) ∧ Bd B b w' (s ++ lineT xs) ∧ Kb B b w w' := by
  have HD := Lib.hid h
  have HV := Lib.hid hv
  have HL := Lib.hid hl
  have HB := Lib.hid hB
  obtain ⟨⟨a, c, rfl, -⟩, -⟩ := hv
  clear h hl hB
  go_enter Tryd.func24, Tryd.ntmps24
  go_wp2_with fail
  refine (tJoin HV.out (by have := HL.out; omega)).mono ?_
  rintro e w2 ⟨rfl, hu⟩
  have HD2 := Lib.hid (HD.out.kept hu)
  have HB2 : Hid (B ≤ w2.heap.size) := Lib.hid (Nat.le_trans HB.out hu.size)
  have HK2 := Lib.hid (Kb.of (B := B) (b := b) hu HB.out)
  clear hu
  go_wp2_with fail
  refine (tWS HD2.out (joinB xs) (by have := HL.out; omega) HB2.out).mono ?_
  rintro e w3 ⟨rfl, hd, hk⟩
  have HD3 := Lib.hid hd
  have HB3 : Hid (B ≤ w3.heap.size) := Lib.hid (Nat.le_trans HB2.out hk.1.size)
  have HK3 := Lib.hid (HK2.out.trans hk)
  clear hd hk
  go_wp2_with fail
  refine (tWB HD3.out (by have := HL.out; rw [List.length_append]; omega) HB3.out).mono ?_
  rintro e w4 ⟨rfl, hd, hk⟩
  have HD4 := Lib.hid hd
  have HK4 := Lib.hid (HK3.out.trans hk)
  clear hd hk
  go_wp2_with fail
  first | (refine bodyPost_end (results_none rfl _ _ _) rfl ?_) | (simp only [Exit.inBlock, Exit.then]; refine bodyPost_end (results_none rfl _ _ _) rfl ?_)
  refine ⟨rfl, ?_, HK4.out⟩
  have := HD4.out
  rwa [List.append_assoc] at this
/-- a row of strings that was just made -/
theorem strs_new (w : World) (xs : List By) (hl : xs.length ≤ 1000) (cs : Array Value) (hc : cs = (xs.map (fun x => Value.string (bs x))).toArray) (g : Nat) (hg : w.heap.size = g) : Strs (w.alloc (.cells cs STR)) (.slice (some ⟨g, 0, none⟩) xs.length xs.length) xs := by
  subst hc hg
  refine ⟨⟨_, _, rfl, Nat.le_refl _, by unfold maxLen; omega, .inr ⟨_, _, rfl, fun i hi j hj => ?_⟩⟩, by omega⟩
  obtain rfl : j = 0 := by omega
  have hh : (w.alloc (.cells (xs.map (fun x => Value.string (bs x))).toArray STR)).heap[w.heap.size]? = some (.cells (xs.map (fun x => Value.string (bs x))).toArray STR (0, 0)) := hp_new w _ _ rfl
  rw [(tCell hh _).1]
  simp [List.getD, hi]
end Go.Proofs.YtiadkidhfhkokaaDoor

/- The law's applets in a list; chapter 11's example. -/
import Derived.Test.YtkjmpobbbjljjaaDoorNE
import Derived.Test.YtkjmpobbbjljjaaDoorMu
import Derived.Test.YtkjmpobbbjljjaaDoorBn
namespace Go.Proofs.YtkjmpobbbjljjaaDoor
open Go.RowKit Go.Lib
set_option linter.unusedVariables false
set_option linter.unusedSimpArgs false

/-- what Applet lays, and where -/
def appP (N : Nat) (s s1 s2 : ByteArray) (C0 C1 C2 : List InsM) : PIm := (⟨s, [1, 2, 3, 4], appImps s1 s2, appMets C0 C1 C2, [1, 2]⟩, .slice (some ⟨N + 2, 0, none⟩) 4 4, .slice (some ⟨N + 7, 0, none⟩) 2 2, .slice (some ⟨N + 10, 0, none⟩) 3 3, .slice (some ⟨N + 3, 0, none⟩) 2 2)
theorem App.isP {w0 w : World} {N : Nat} {s s1 s2 : ByteArray} {c0 c1 c2 : Value} {C0 C1 C2 : List InsM} (h : App w0 w N s s1 s2 c0 c1 c2 C0 C1 C2) : IsP w (appP N s s1 s2 C0 C1 C2) :=
  ⟨Ints.blk h.b2 [1, 2, 3, 4] ⟨[], rfl⟩ 4 (by decide) (by decide) (by simp [wi64]), h.imps, h.mets, Ints.blk h.b3 [1, 2] ⟨[], rfl⟩ 2 (by decide) (by decide) (by simp [wi64]), by have := h.ns; show s.size ≤ maxLen; unfold maxLen; omega⟩
theorem imgs_lit1 {w : World} {p : PIm} (h : IsP w p) (e : TypeId) : Imgs (w.alloc (.cells #[.string p.1.name, p.2.1, p.2.2.1, p.2.2.2.1, p.2.2.2.2] e)) (.slice (some ⟨w.heap.size, 0, none⟩) 1 1) [p] := by
  refine ⟨(Sl.lit w e (0, 0) #[.string p.1.name, p.2.1, p.2.2.1, p.2.2.2.1, p.2.2.2.2] 5 1 1 (by simp) (by omega) (by decide)).congr fun i hi j hj => ?_, fun q hq => ?_⟩
  · obtain rfl : i = 0 := by omega
    rcases (by omega : j = 0 ∨ j = 1 ∨ j = 2 ∨ j = 3 ∨ j = 4) with rfl | rfl | rfl | rfl | rfl <;> rfl
  · simp at hq
    subst hq
    exact h.later (upd_below (Upd.alloc _ _ _))
theorem imgs_lit2 {w : World} {p q : PIm} (h : IsP w p) (g : IsP w q) (e : TypeId) : Imgs (w.alloc (.cells #[.string p.1.name, p.2.1, p.2.2.1, p.2.2.2.1, p.2.2.2.2, .string q.1.name, q.2.1, q.2.2.1, q.2.2.2.1, q.2.2.2.2] e)) (.slice (some ⟨w.heap.size, 0, none⟩) 2 2) [p, q] := by
  refine ⟨(Sl.lit w e (0, 0) #[.string p.1.name, p.2.1, p.2.2.1, p.2.2.2.1, p.2.2.2.2, .string q.1.name, q.2.1, q.2.2.1, q.2.2.2.1, q.2.2.2.2] 5 2 2 (by simp) (by omega) (by decide)).congr fun i hi j hj => ?_, fun r hr => ?_⟩
  · have hi2 : i < 2 := hi
    rcases (by omega : i = 0 ∨ i = 1) with rfl | rfl <;> rcases (by omega : j = 0 ∨ j = 1 ∨ j = 2 ∨ j = 3 ∨ j = 4) with rfl | rfl | rfl | rfl | rfl <;> rfl
  · simp at hr
    rcases hr with rfl | rfl
    · exact h.later (upd_below (Upd.alloc _ _ _))
    · exact g.later (upd_below (Upd.alloc _ _ _))
theorem findP_data (s : ByteArray) (L : List PIm) : findP s L = orNo (findI (fun p => p.1.name.data.toList == s.data.toList) L) := by
  have e : isNm s = fun p => p.1.name.data.toList == s.data.toList := funext fun p => by unfold isNm; rw [ByteArray.toList_eq, ByteArray.toList_eq]
  unfold findP
  rw [e]
section
variable (N N' : Nat) (t t' u : ByteArray) (C0 C1 C2 D0 D1 D2 : List InsM)
def two2 : List PIm := [appP N (nmOf 0) (nmOf (wrap64 (0 + 1))) t C0 C1 C2, appP N' (nmOf 1) u t' D0 D1 D2]
theorem known_no : resP (two2 N N' t t' u C0 C1 C2 D0 D1 D2) 0 2 = (0, 0, false) := by kernel_rfl
theorem known_to : rTo (two2 N N' t t' u C0 C1 C2 D0 D1 D2) 0 0 = 1 := by
  unfold rTo
  rw [findP_data]
  kernel_rfl
theorem known_yes : resP (two2 N N' t t' u C0 C1 C2 D0 D1 D2) 0 0 = (1, 1, true) := by
  unfold resP rOk rFit rHas rMth
  rw [known_to]
  kernel_rfl
end
theorem binsUpd {w w' : World} (h : Bins ⟨w, fun _ => False⟩) (hu : Upd (fun _ => False) w w') : Bins ⟨w', fun _ => False⟩ :=
  ⟨fun h => h, fun k hk => (hu.cell (World.block_lt_of_cell? _ _ (h.2 k hk)) id).trans (h.2 k hk)⟩
theorem raws_nil (w : World) : RawsAt w (.slice none 0 0) [] := .inl ⟨⟨none, 0, rfl⟩, rfl⟩

set_option maxRecDepth 100000 in
set_option maxHeartbeats 8000000 in
theorem lKnown (w : World) (hB : Bins ⟨w, fun _ => False⟩) : Calls Tryd.prog 7 #[] w fun e w' => e = .returned (.bool true) ∧ Upd (fun _ => False) w w' := by
  have HB := Lib.hid hB
  clear hB
  go_enter Tryd.func7, Tryd.ntmps7
  go_wp2_with fail
  refine (hAppletX _ 0 _ [] (raws_nil _) (by simp) HB.out).mono ?_
  rintro e w1 ⟨s, s1, s2, c0, c1, c2, C0, C1, C2, rfl, hA, -, rfl, rfl⟩
  have HA := Lib.hid hA
  have HB1 := Lib.hid (binsUpd HB.out hA.up)
  clear hA
  go_wp2_with fail
  refine (hAppletX _ 1 _ [] (raws_nil _) (by simp) HB1.out).mono ?_
  rintro e w2 ⟨z, z1, z2, d0, d1, d2, D0, D1, D2, rfl, hA, -, rfl, -⟩
  have HL : Hid (Imgs (w2.alloc (.cells #[.string (nmOf 0), .slice (some ⟨w.heap.size + 2, 0, none⟩) 4 4, .slice (some ⟨w.heap.size + 7, 0, none⟩) 2 2, .slice (some ⟨w.heap.size + 10, 0, none⟩) 3 3, .slice (some ⟨w.heap.size + 3, 0, none⟩) 2 2,
    .string (nmOf 1), .slice (some ⟨w1.heap.size + 2, 0, none⟩) 4 4, .slice (some ⟨w1.heap.size + 7, 0, none⟩) 2 2, .slice (some ⟨w1.heap.size + 10, 0, none⟩) 3 3, .slice (some ⟨w1.heap.size + 3, 0, none⟩) 2 2] 26)) (.slice (some ⟨w2.heap.size, 0, none⟩) 2 2) (two2 w.heap.size w1.heap.size s2 z2 z1 C0 C1 C2 D0 D1 D2)) := Lib.hid (imgs_lit2 (HA.out.keep hA.up).isP hA.isP 26)
  have HU := Lib.hid ((HA.out.up.trans hA.up (fun _ h _ => h)).trans (Upd.alloc (fun _ => False) w2 (.cells #[.string (nmOf 0), .slice (some ⟨w.heap.size + 2, 0, none⟩) 4 4, .slice (some ⟨w.heap.size + 7, 0, none⟩) 2 2, .slice (some ⟨w.heap.size + 10, 0, none⟩) 3 3, .slice (some ⟨w.heap.size + 3, 0, none⟩) 2 2,
    .string (nmOf 1), .slice (some ⟨w1.heap.size + 2, 0, none⟩) 4 4, .slice (some ⟨w1.heap.size + 7, 0, none⟩) 2 2, .slice (some ⟨w1.heap.size + 10, 0, none⟩) 3 3, .slice (some ⟨w1.heap.size + 3, 0, none⟩) 2 2] 26)) (fun _ h _ => h))
  have HN := Lib.hid (known_no w.heap.size w1.heap.size s2 z2 z1 C0 C1 C2 D0 D1 D2)
  have HY := Lib.hid (known_yes w.heap.size w1.heap.size s2 z2 z1 C0 C1 C2 D0 D1 D2)
  clear hA
  generalize two2 w.heap.size w1.heap.size s2 z2 z1 C0 C1 C2 D0 D1 D2 = L at *
  go_wp2_with fail
  refine (nResolve _ _ L HL.out 0 2).mono ?_
  rintro e w3 ⟨rfl, hu⟩
  rw [HN.out]
  have HU3 := Lib.hid (HU.out.trans hu (fun _ h _ => h))
  have HL3 := Lib.hid (HL.out.later (upd_below hu))
  clear hu HL HU
  unfold resV
  dsimp only
  go_wp2_with fail
  refine (nResolve _ _ L HL3.out 0 0).mono ?_
  rintro e w4 ⟨rfl, hu⟩
  rw [HY.out]
  have HU4 := Lib.hid (HU3.out.trans hu (fun _ h _ => h))
  clear hu HL3 HU3
  unfold resV
  dsimp only
  go_wp2_with fail
  go_ret
  exact ⟨rfl, HU4.out⟩
end Go.Proofs.YtkjmpobbbjljjaaDoor

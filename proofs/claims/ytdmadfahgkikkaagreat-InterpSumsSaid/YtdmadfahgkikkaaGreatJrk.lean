/- Package interp: what the statements run. -/
import Derived.Test.YtdmadfahgkikkaaGreatKJn
import Derived.Test.YtdmadfahgkikkaaGreatQBk
namespace Go.Proofs.YtdmadfahgkikkaaGreat
open Go.RowKit Go.Lib Go.ChangeShapes Go.WideShapes Go.Deep Go.MapKept Go.ChangeMaps
set_option linter.unusedVariables false
set_option linter.unusedSimpArgs false

def imgC (L : List InsM) : ImgM := ⟨{ data := #[97] }, [1], [], [⟨[], 0, [1], L⟩], []⟩
def X0 (L : List InsM) (fuel : Int) : McM := ⟨[newF (imgC L) 0], fuel, 0, []⟩
/-- a run is over: its machine and its room -/
def Ran (w' : World) (mb rb tb : Nat) (X : McM) (fl : List (List Int)) (I : ImgM) : Prop := ∃ c mp tv M Ps, Mc c w' mb rb mp tb tv X M Ps I ∧ M.fields = fl
def zeroJ (_ : Nat) : Nat := 0
theorem one_row {w : World} {g : Nat} {e : TypeId} {fr : Nat × Nat} {x : Int} (h : w.heap[g]? = some (.cells #[.int .i64 x] e fr)) (hx : wi64 x) : Ints w (.slice (some ⟨g, 0, none⟩) 1 1) [x] :=
  ⟨⟨_, 1, rfl, Nat.le_refl _, by unfold maxLen; omega, .inr ⟨g, 0, rfl, fun i hi j hj => by
    obtain rfl : i = 0 := by simpa using hi
    obtain rfl : j = 0 := by omega
    simp [World.cell?, h]⟩⟩, by simpa using hx⟩
theorem imgLit {w4 : World} {a : Option Addr} {n c g0 g1 g2 : Nat} {e0 e1 e2 : TypeId} {f0 f1 f2 : Nat × Nat} {L : List InsM} (hL : Inss w4 (.slice a n c) L) (h0 : w4.heap[g0]? = some (.cells #[.int .i64 1] e0 f0)) (h1 : w4.heap[g1]? = some (.cells #[.int .i64 1] e1 f1))
    (h2 : w4.heap[g2]? = some (.cells #[.slice none 0 0, .int .i64 0, .slice (some ⟨g1, 0, none⟩) 1 1, .slice a n c] e2 f2)) :
    Img w4 (.agg #[.string { data := #[97] }, .slice (some ⟨g0, 0, none⟩) 1 1, .slice none 0 0, .slice (some ⟨g2, 0, none⟩) 1 1, .slice none 0 0]) (imgC L) := by
  refine ⟨_, _, _, _, rfl, one_row h0 (by unfold wi64; omega), ⟨fun _ => .slice none 0 0, Sl.nil _ _ _, fun i hi => absurd hi (by simp [imgC]), by simp [imgC]⟩, ⟨fun _ => .slice none 0 0, fun _ => .slice (some ⟨g1, 0, none⟩) 1 1, fun _ => .slice a n c, ?_, fun i hi => ?_, by simp [imgC, wi64]⟩, ⟨Sl.nil _ _ _, by simp [imgC]⟩, by show 1 ≤ maxLen; unfold maxLen; omega⟩
  · refine ⟨_, 1, rfl, Nat.le_refl _, by unfold maxLen; omega, .inr ⟨g2, 0, rfl, fun i hi j hj => ?_⟩⟩
    obtain rfl : i = 0 := by simpa [imgC] using hi
    have hj4 : j = 0 ∨ j = 1 ∨ j = 2 ∨ j = 3 := by omega
    rcases hj4 with rfl | rfl | rfl | rfl <;> simp [World.cell?, h2, metF, imgC]
  · obtain rfl : i = 0 := by simpa [imgC] using hi
    exact ⟨⟨Sl.nil _ _ _, by simp [imgC]⟩, one_row h1 (by unfold wi64; omega), hL⟩
section
variable {w : World}
set_option maxRecDepth 100000 in
set_option maxHeartbeats 4000000 in
theorem run13 (fuel : Int) (hfu : 0 ≤ fuel ∧ fuel ≤ 100000) {v : Value} {L : List InsM} (hL : Inss w v L) (hll : L.length ≤ 1000) {k : Nat} {X' : McM} {fl' : List (List Int)} (hp : pRun (imgC L) k (X0 L fuel) [[0]] = some (X', fl')) :
    Calls Tryz.prog 7 #[.int .i64 fuel, v] w fun e w' => ∃ mb rb tb, e = .returned (.tuple #[.pointer (some ⟨mb, 0, none⟩), .pointer (some ⟨rb, 0, none⟩)]) ∧ Ran w' mb rb tb X' fl' (imgC L) ∧ Upd (fun _ => False) w w' := by
  obtain ⟨va, vc, rfl, -, -⟩ := hL.1.slice
  have HL := Lib.hid hL
  have HFU := Lib.hid hfu
  have HP := Lib.hid hp
  have HLL := Lib.hid hll
  have HN := Lib.hid (rNewRoom zeroJ 200 w (by omega) (by omega))
  clear hL hfu hp hll
  generalize hn : L.length = n at *
  have HLN := Lib.hid hn
  clear hn
  go_enter Tryz.func7, Tryz.ntmps7
  go_wp2_with fail
  refine HN.out.mono ?_
  rintro e w1 ⟨rb, c1, rfl, hx, hr⟩
  have HX1 := Lib.hid hx
  have HR1 := Lib.hid hr
  clear hx hr HN
  go_wp2_with fail
  obtain ⟨w2, hw2⟩ : ∃ w2, w2 = w1.alloc (.cells #[.int .i64 1] 3) := ⟨_, rfl⟩
  obtain ⟨w3, hw3⟩ : ∃ w3, w3 = w2.alloc (.cells #[.int .i64 1] 3) := ⟨_, rfl⟩
  obtain ⟨w4, hw4⟩ : ∃ w4, w4 = w3.alloc (.cells #[.slice none 0 0, .int .i64 0, .slice (some ⟨w1.heap.size + 1, 0, none⟩) 1 1, .slice va n vc] 55) := ⟨_, rfl⟩
  rw [← hw2, ← hw3, ← hw4]
  have s2 : w2.heap.size = w1.heap.size + 1 := by rw [hw2]; simp
  have s3 : w3.heap.size = w1.heap.size + 1 + 1 := by rw [hw3]; simp [s2]
  have u2 : Upd (fun _ => False) w1 w2 := by rw [hw2]; exact Upd.alloc _ _ _
  have u3 : Upd (fun _ => False) w2 w3 := by rw [hw3]; exact Upd.alloc _ _ _
  have u4 : Upd (fun _ => False) w3 w4 := by rw [hw4]; exact Upd.alloc _ _ _
  have hh0 : w4.heap[w1.heap.size]? = some (.cells #[.int .i64 1] 3 (0, 0)) := hpBlk u4 (hpBlk u3 (by rw [hw2]; exact hpTop w1 _ _ rfl) (fun h => h)) (fun h => h)
  have hh1 : w4.heap[w1.heap.size + 1]? = some (.cells #[.int .i64 1] 3 (0, 0)) := hpBlk u4 (by rw [hw3]; exact hpTop w2 _ _ s2.symm) (fun h => h)
  have hh2 : w4.heap[w1.heap.size + 1 + 1]? = some (.cells #[.slice none 0 0, .int .i64 0, .slice (some ⟨w1.heap.size + 1, 0, none⟩) 1 1, .slice va n vc] 55 (0, 0)) := by rw [hw4]; exact hpTop w3 _ _ s3.symm
  have u14 : Upd (fun _ => False) w1 w4 := (u2.trans u3 (fun _ h _ => h)).trans u4 (fun _ h _ => h)
  have u1 : Upd (fun _ => False) w w1 := HX1.out.upd.mono (fun q hq _ => hq)
  have hIn : Inss w4 (.slice va n vc) L := ⟨HL.out.1.later ((u1.trans u14 (fun _ h _ => h)).below (Nat.le_refl _) (fun _ h => h.elim)), HL.out.2⟩
  have hS : ImgS (imgC L) := ⟨by simp [imgC], by simp [imgC], by simp [imgC], by simp [imgC], by simp [imgC], by have h1 := HLL.out; have h2 := HLN.out; simp [imgC]; omega⟩
  have HI := Lib.hid (imgLit hIn hh0 hh1 hh2)
  have HSS := Lib.hid hS
  have HX4 := Lib.hid (HX1.out.trans (Ext.quiet c1 u14) (fun _ h => h))
  have HR4 := Lib.hid (HR1.out.quiet u14)
  clear hw2 hw3 hw4 s2 s3 u2 u3 u4 hh0 hh1 hh2 u14 u1 hIn hS
  refine (rAdd (RmI.of0 HR4.out rfl) (by decide) _ (imgC L) HI.out HSS.out).mono ?_
  rintro e w5 ⟨rfl, c5, P, hP, hx5, hR5⟩
  have HX5 := Lib.hid ((HX4.out.mono (T' := fun i => i ≠ 0) (fun _ h => h.elim)).trans (hx5.mono (T' := fun i => i ≠ 0) (fun i hi => by simp only [TA] at hi; omega)) (fun _ h => h))
  have HNW := Lib.hid (iNew hR5 ⟨P, rfl, hP, HSS.out⟩ fuel HFU.out (by show 0 < 1; omega) (by show 0 + 1 ≤ 1000; omega))
  clear hx5 hR5
  go_wp2_with fail
  refine HNW.out.mono ?_
  rintro e w6 ⟨mb, mp, tb, c6, tv, rfl, hx6, hm6⟩
  have HX6 := Lib.hid (HX5.out.trans (hx6.mono (T' := fun i => i ≠ 0) (fun i hi => by simp only [TN] at hi; omega)) (fun _ h => h))
  have HRU := Lib.hid (mRun hm6 rfl HP.out)
  clear hx6 hm6 HNW
  go_wp2_with fail
  refine HRU.out.mono ?_
  rintro e w7 ⟨rfl, c7, tv7, hx7, hm7⟩
  have HX7 := Lib.hid (HX6.out.trans (hx7.mono (T' := fun i => i ≠ 0) (fun i hi => hi.1)) (fun _ h => h))
  have HM7 := Lib.hid hm7
  clear hx7 hm7 HRU
  go_wp2_with fail
  go_ret2
  exact ⟨mb, rb, tb, rfl, ⟨c7, mp, tv7, _, _, HM7.out, rfl⟩, HX7.out.upd.mono (fun q hq _ => hq rfl)⟩
end
end Go.Proofs.YtdmadfahgkikkaaGreat

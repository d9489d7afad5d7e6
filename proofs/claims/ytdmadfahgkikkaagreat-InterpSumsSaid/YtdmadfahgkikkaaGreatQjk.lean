/- Package room: args as numbers. -/
import Derived.Test.YtdmadfahgkikkaaGreatQik
namespace Go.Proofs.YtdmadfahgkikkaaGreat
open Go.RowKit Go.Lib Go.ChangeShapes Go.WideShapes Go.Deep
set_option linter.unusedVariables false
set_option linter.unusedSimpArgs false

def arg (xs : List Int) (k : Nat) : Int := xs.getD k 0
def pad (xs : List Int) (k j : Nat) : Int := if j < k then arg xs j else 0
theorem pad_lt (xs : List Int) {k j : Nat} (h : j < k) : pad xs k j = arg xs j := if_pos h
theorem pad_ge (xs : List Int) {k j : Nat} (h : ¬ j < k) : pad xs k j = 0 := if_neg h
theorem pad_ne (xs : List Int) {k j : Nat} (h : j ≠ k) : pad xs (k + 1) j = pad xs k j := by
  unfold pad
  by_cases h1 : j < k
  · rw [if_pos h1, if_pos (by omega)]
  · rw [if_neg h1, if_neg (by omega)]
theorem pad_all (xs : List Int) {k j : Nat} (h : xs.length ≤ k) : pad xs k j = arg xs j := by
  unfold pad
  split
  · rfl
  · rename_i h1
    unfold arg
    rw [List.getD_eq_getElem?_getD, List.getElem?_eq_none (by omega)]; rfl
def five5 (xs : List Int) : Value := .agg #[.int .i64 (arg xs 0), .int .i64 (arg xs 1), .int .i64 (arg xs 2), .int .i64 (arg xs 3), .int .i64 (arg xs 4)]
set_option maxRecDepth 100000 in
set_option maxHeartbeats 4000000 in
theorem rNumbers (w : World) (v : Value) (xs : List Int) (h : I32 w v xs) (hl : xs.length ≤ 5) :
    Calls Tryz.prog 73 #[v] w fun e w' => e = .returned (five5 xs) ∧ Upd (fun _ => False) w w' := by
  have hr := h.1
  obtain ⟨-, a, cc, rfl, hc1, hc2, -⟩ := id h
  obtain ⟨w1, hw1⟩ : ∃ w1, w1 = (w.alloc (.cells #[.int .i64 0, .int .i64 0, .int .i64 0, .int .i64 0, .int .i64 0] 124)).alloc (.cells #[.int .i64 0, .int .i64 0, .int .i64 0, .int .i64 0, .int .i64 0] 124) := ⟨_, rfl⟩
  have hu1 : Upd (fun _ => False) w w1 := by rw [hw1]; exact (Upd.alloc _ _ _).trans (Upd.alloc _ _ _) (fun _ h _ => h)
  have hx1 : w1.heap[w.heap.size]? = some (.cells #[.int .i64 0, .int .i64 0, .int .i64 0, .int .i64 0, .int .i64 0] 124 (0, 0)) := by
    rw [hw1]; exact hpBlk (S := fun _ => False) (Upd.alloc _ _ _) (hpTop w _ _ rfl) (fun h => h)
  have hy1 : w1.heap[w.heap.size + 1]? = some (.cells #[.int .i64 0, .int .i64 0, .int .i64 0, .int .i64 0, .int .i64 0] 124 (0, 0)) := by
    rw [hw1]; exact hpTop _ _ _ (by simp)
  have hsz : w1.heap.size = w.heap.size + 2 := by rw [hw1]; simp
  have H1 := Lib.hid (h.upd hu1 (fun _ _ h => h))
  have HSZ := Lib.hid hsz
  have HGL : Hid (∀ g, (Value.slice a xs.length cc).ownBlock = some g → 0 < xs.length → g < w.heap.size) := Lib.hid (fun g hg h0 => by
    obtain ⟨g', off, rfl, -, hc⟩ := h.at h0
    simp [Value.ownBlock] at hg
    subst hg
    exact World.block_lt_of_cell? w _ hc)
  have HX := Lib.hid hx1
  have HY := Lib.hid hy1
  have HU := Lib.hid hu1
  have HW := Lib.hid hw1
  have HRG := Lib.hid hr
  have HU0 := Lib.hid (Upd.refl (fun k => k = w.heap.size + 1) w1)
  unfold maxLen at hc2
  clear h hu1 hx1 hy1 hw1 hr hsz
  go_enter Tryz.func73, Tryz.ntmps73
  go_wp2_with fail
  rw [← HW.out]
  go_loopw [9, 4, 5] (fun t _ _ wr => ∃ k : Nat, k ≤ xs.length ∧ t = .int .i64 k ∧ Hid (wr.heap[w.heap.size + 1]? = some (.cells #[.int .i64 (pad xs k 0), .int .i64 (pad xs k 1), .int .i64 (pad xs k 2), .int .i64 (pad xs k 3), .int .i64 (pad xs k 4)] 124 (0, 0))) ∧ Hid (Upd (fun k => k = w.heap.size + 1) w1 wr)) (fun t _ _ _ => xs.length - (intOf t).toNat)
  case atStart => exact ⟨0, Nat.zero_le _, rfl, HY, HU0⟩
  case round =>
    obtain ⟨k, hk, rfl, HB, HU2⟩ := hrel
    obtain ⟨e0, e1, e2, e3, e4, ef⟩ := five HB.out
    have f0 := ef 0; have f1 := ef 1; have f2 := ef 2; have f3 := ef 3; have f4 := ef 4
    by_cases hlt : k < xs.length
    · obtain ⟨g, off, rfl, -, hc⟩ := H1.out.at hlt
      have hgl : g < w.heap.size := HGL.out g rfl (by omega)
      have hcw : wr.cell? ⟨g, off + k, none⟩ = some (.int .i32 (arg xs k)) := (HU2.out.cell (p := ⟨g, off + k, none⟩) (by rw [HSZ.out]; show g < _; omega) (by show ¬ g = _; omega)).trans hc
      have hx : -2147483648 ≤ arg xs k ∧ arg xs k ≤ 2147483647 := HRG.out _ (by simp [arg, List.getD, hlt])
      have hwx : IntKind.i64.wrap (arg xs k) = arg xs k := IntWalk.i64_in _ (by omega)
      have hk5 : k = 0 ∨ k = 1 ∨ k = 2 ∨ k = 3 ∨ k = 4 := by omega
      have ek : wr.cell? ⟨w.heap.size + 1, k, none⟩ = some (.int .i64 (pad xs k k)) := by
        rcases hk5 with h | h | h | h | h <;> subst h <;> assumption
      have fk := ef k
      have HN : Hid ((wr.setCell ⟨w.heap.size + 1, k, none⟩ (.int .i64 (arg xs k))).heap[w.heap.size + 1]? = some (.cells #[.int .i64 (pad xs (k + 1) 0), .int .i64 (pad xs (k + 1) 1), .int .i64 (pad xs (k + 1) 2), .int .i64 (pad xs (k + 1) 3), .int .i64 (pad xs (k + 1) 4)] 124 (0, 0))) := Lib.hid (by
        have hb := HB.out
        rcases hk5 with h | h | h | h | h <;> subst h <;> simp [World.setCell, Array.getElem?_modify, hb, pad])
      have HU3 : Hid (Upd (fun k => k = w.heap.size + 1) w1 (wr.setCell ⟨w.heap.size + 1, k, none⟩ (.int .i64 (arg xs k)))) := Lib.hid (hpS HU2.out rfl)
      have hk0 : (0 : Int) ≤ (k : Int) := Int.natCast_nonneg _
      have hk6 : (k : Int) < 5 := by omega
      clear hc ef hk5 e0 e1 e2 e3 e4 f0 f1 f2 f3 f4 hx
      go_wp2_with fail
      go_roundw
      case rel => exact ⟨k + 1, by omega, by go_num, HN, HU3⟩
      case measure => simp [intOf]; omega
    · have HE : Hid (pad xs k 0 = arg xs 0 ∧ pad xs k 1 = arg xs 1 ∧ pad xs k 2 = arg xs 2 ∧ pad xs k 3 = arg xs 3 ∧ pad xs k 4 = arg xs 4) := Lib.hid ⟨pad_all xs (by omega), pad_all xs (by omega), pad_all xs (by omega), pad_all xs (by omega), pad_all xs (by omega)⟩
      obtain ⟨p0, p1, p2, p3, p4⟩ := HE.out
      rw [p0] at e0; rw [p1] at e1; rw [p2] at e2; rw [p3] at e3; rw [p4] at e4
      obtain ⟨d0, d1, d2, d3, d4, df⟩ := five (hpBlk HU2.out HX.out (by omega))
      have g0 := df 0; have g1 := df 1; have g2 := df 2; have g3 := df 3; have g4 := df 4
      clear p0 p1 p2 p3 p4 ef df HE
      go_wp2_with fail
      refine bodyPost_ret (v := five5 xs) (by simp only [results, Tryz.f73]; simp [go_sem, five5, d0, d1, d2, d3, d4, g0, g1, g2, g3, g4]) rfl ?_
      clear d0 d1 d2 d3 d4 g0 g1 g2 g3 g4 e0 e1 e2 e3 e4
      have hs : Upd (fun k => k = w.heap.size) wr (((((wr.setCell ⟨w.heap.size, 0, none⟩ (.int .i64 (arg xs 0))).setCell ⟨w.heap.size, 1, none⟩ (.int .i64 (arg xs 1))).setCell ⟨w.heap.size, 2, none⟩ (.int .i64 (arg xs 2))).setCell ⟨w.heap.size, 3, none⟩ (.int .i64 (arg xs 3))).setCell ⟨w.heap.size, 4, none⟩ (.int .i64 (arg xs 4))) := by
        iterate 5 refine hpS ?_ rfl
        exact Upd.refl _ _
      exact ⟨rfl, (HU.out.trans HU2.out (fun k hk hl => by omega)).trans hs (fun k hk hl => by omega)⟩
end Go.Proofs.YtdmadfahgkikkaaGreat

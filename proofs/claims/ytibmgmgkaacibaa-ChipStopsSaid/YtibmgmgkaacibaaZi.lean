/- Package thumb: Decode. -/
import Derived.Test.YtibmgmgkaacibaaZh
namespace Go.Proofs.Ytibmgmgkaacibaa
open Go.RowKit
set_option linter.unusedVariables false

def decFarA (h : Nat) : List Nat → I6 × Int × Int
  | [] => (I6.zero, 0, 7)
  | g :: _ => if endsB g then (⟨43, 0, 0, 0, farP h g, 0⟩, 2, 0) else (I6.zero, 0, 8)
def decA : List Nat → I6 × Int × Int
  | [] => (I6.zero, 0, 7)
  | h :: t => if isFarB h then decFarA h t else match decP h with
    | some i => (i, 1, 0)
    | none => (I6.zero, 0, 8)
abbrev decV (x : I6 × Int × Int) : Value := .tuple #[x.1.val, .int .i64 x.2.1, .int .i64 x.2.2]

set_option maxHeartbeats 1000000 in
theorem tDecodeFar (h : Nat) (t : List Nat) (g off c : Nat) (hh : h < 65536) (hy : ∀ y ∈ t, y < 65536) (h1 : t.length + 1 ≤ c) (h2 : c ≤ maxLen) (w : World)
    (hc : ∀ j, j < t.length + 1 → w.cell? ⟨g, off + j, none⟩ = some (.int .u16 (((h :: t).getD j 0 : Nat) : Int))) :
    Calls Try.prog 58 #[.slice (some ⟨g, off, none⟩) (t.length + 1) c] w fun e w' => e = .returned (decV (decFarA h t)) ∧ New w w' := by
  unfold maxLen at h2
  have c0 : w.cell? ⟨g, off, none⟩ = some (.int .u16 (h : Int)) := hc 0 (by omega)
  have hg := World.block_lt_of_cell? w _ c0
  simp only at hg
  cases t with
  | nil =>
    clear hc hy
    go_enter Try.func58, Try.ntmps58
    go_wp2
    refine bodyPost_ret (v := decV (decFarA h [])) (by simp only [results, Try.f58]; simp [go_sem, decFarA, I6.zero]) rfl ?_
    exact ⟨rfl, New.alloc _ _⟩
  | cons y t =>
    have c1 : w.cell? ⟨g, off + 1, none⟩ = some (.int .u16 (y : Int)) := hc 1 (by simp)
    have hy1 := hy y (by simp)
    clear hc hy
    obtain ⟨n, hn⟩ : ∃ n, (y :: t).length + 1 = n := ⟨_, rfl⟩
    rw [hn] at h1 ⊢
    have hn0 : (0 : Int) < (n : Int) := by simp at hn; omega
    have hn2 : 0 < n := by omega
    have hn3 : 1 < n := by simp at hn; omega
    have hn1 : (1 : Int) < (n : Int) := by simp at hn; omega
    clear hn
    cases he : endsB y
    · have HE : Hid (decFarA h (y :: t) = (I6.zero, 0, 8)) := Lib.hid (by simp [decFarA, he])
      go_enter Try.func58, Try.ntmps58
      go_wp2_with (with_reducible refine (tEndsFar y hy1 _).mono ?_; rintro e _ ⟨rfl, rfl⟩)
      rw [HE.out]
      refine bodyPost_ret (v := decV (I6.zero, 0, 8)) (by simp only [results, Try.f58]; simp [go_sem, I6.zero]) rfl ?_
      exact ⟨rfl, New.alloc _ _⟩
    · have HE : Hid (decFarA h (y :: t) = (⟨43, 0, 0, 0, farP h y, 0⟩, 2, 0)) := Lib.hid (by simp [decFarA, he])
      go_enter Try.func58, Try.ntmps58
      go_wp2_with (with_reducible refine (tEndsFar y hy1 _).mono ?_; rintro e _ ⟨rfl, rfl⟩)
      go_region_held3 (fun u => u.cell? ⟨g, off, none⟩ = some (.int .u16 (h : Int)) ∧ u.cell? ⟨g, off + 1, none⟩ = some (.int .u16 (y : Int))) (first
        | exact ⟨New.keep (by (repeat (first | exact Upd.refl _ _ | refine New.trans ?_ (Upd.drewN _ _ _) | refine New.trans ?_ (New.alloc _ _) | refine New.trans ?_ (Upd.drew _ _)))) c0, New.keep (by (repeat (first | exact Upd.refl _ _ | refine New.trans ?_ (Upd.drewN _ _ _) | refine New.trans ?_ (New.alloc _ _) | refine New.trans ?_ (Upd.drew _ _)))) c1⟩ | go_keep) (first
        | (go_at_call 82; (with_reducible refine (tTakeFar h y hh hy1 _).mono ?_); rintro e w' ⟨rfl, rfl⟩))
      all_goals
        go_wp2
        rw [HE.out]
        refine bodyPost_ret (v := decV (⟨43, 0, 0, 0, farP h y, 0⟩, 2, 0)) (by simp only [results, Try.f58]; simp [go_sem]) rfl ?_
        refine ⟨rfl, ?_⟩
        repeat (first | exact Upd.refl _ _ | refine New.set ?_ _ _ (by simp; done) | refine New.trans ?_ (Upd.drewN _ _ _) | refine New.trans ?_ (New.alloc _ _) | refine New.trans ?_ (Upd.drew _ _))
end Go.Proofs.Ytibmgmgkaacibaa

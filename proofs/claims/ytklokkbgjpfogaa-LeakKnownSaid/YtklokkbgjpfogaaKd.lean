/- Package leak: the laws' own trace of numbers, the chapter's example, LeakKnown. -/
import Derived.Test.YtklokkbgjpfogaaKc
namespace Go.Proofs.Ytklokkbgjpfogaa
open Go.RowKit Go.Lib Go.ChangeShapes Go.WideShapes Go.Deep
set_option linter.unusedVariables false
set_option linter.unusedSimpArgs false

theorem Trc.wide {F G : Nat → Prop} {w : World} {b : Nat} {L : List EvM} (h : Trc F w b L) (hF : ∀ k, F k → G k) (hl : ∀ k, G k → k < w.heap.size) : Trc G w b L := by
  obtain ⟨ev, h⟩ := h
  exact ⟨ev, h.box, h.row, hF b h.fb, fun k hk => hF k (h.fr k hk), hl⟩
/-- a trace made since w0, beside the blocks of K -/
def Own10 (K : Nat → Prop) (w0 w : World) (b : Nat) (L : List EvM) : Prop := Trc (fun k => ESince w0 w k ∧ ¬ K k) w b L ∧ Upd (fun _ => False) w0 w
def ev1 (n : Int) : EvM := ⟨1, n, 0, 0⟩
theorem step_since {w0 w w' : World} {F : Nat → Prop} {b : Nat} {L : List EvM} (hu0 : Upd (fun _ => False) w0 w) (hF : ∀ k, F k → w0.heap.size ≤ k) (h : Trc (EMore F w w') w' b L) (hu : Upd F w w') : Trc (ESince w0 w') w' b L ∧ Upd (fun _ => False) w0 w' := by
  refine ⟨h.wide (fun k hk => ?_) (fun k hk => hk.2), hu0.trans hu (fun i hi hl => by have := hF i hi; omega)⟩
  rcases hk with h1 | h1
  · exact ⟨hF k h1, h.lt k (.inl h1)⟩
  · have := hu0.size
    exact ⟨by omega, h1.2⟩
set_option maxHeartbeats 1000000 in
theorem ofC (w : World) (g : Nat) (n : Nat) (Ns : List Int) (hn : Ns.length = n) (hN : ∀ j, j < n → w.cell? ⟨g, j, none⟩ = some (.int .i64 (Ns.getD j 0))) (hl : n ≤ 1000) :
    Calls Try.prog 6 #[.slice (some ⟨g, 0, none⟩) n n] w fun e w' => ∃ b, e = .returned (.pointer (some ⟨b, 0, none⟩)) ∧ Trc (ESince w w') w' b (Ns.map ev1) ∧ Upd (fun _ => False) w w' := by
  have HN := Lib.hid hN
  have HL := Lib.hid hn
  clear hN hn
  go_enter Try.func6, Try.ntmps6
  go_wp2_with fail
  refine (tNew w).mono ?_
  rintro e w1 ⟨b, rfl, ht, hu⟩
  have HT : Hid (Trc (ESince w w1) w1 b ((Ns.take 0).map ev1)) := Lib.hid ht
  have HU := Lib.hid hu
  clear ht hu
  go_wp2_with fail
  go_loopw [4] (fun i wr => ∃ k : Nat, k ≤ n ∧ i = .int .i64 k ∧ Hid (Trc (ESince w wr) wr b ((Ns.take k).map ev1)) ∧ Hid (Upd (fun _ => False) w wr)) (fun i _ => n - (intOf i).toNat)
  case atStart => exact ⟨0, Nat.zero_le _, rfl, HT, HU⟩
  case round =>
    obtain ⟨k, hk, rfl, HT, HU⟩ := hrel
    have hki : (0 : Int) ≤ (k : Int) := Int.natCast_nonneg _
    by_cases hlt : k < n
    · have hc0 := HN.out k hlt
      have hc : wr.cell? ⟨g, k, none⟩ = some (.int .i64 (Ns.getD k 0)) := (HU.out.cell (World.block_lt_of_cell? w _ hc0) (fun h => h)).trans hc0
      have HE : Hid ((Ns.take (k + 1)).map ev1 = (Ns.take k).map ev1 ++ [ev1 (Ns.getD k 0)]) := Lib.hid (by
        rw [List.take_add_one, List.map_append, List.getElem?_eq_getElem (by rw [HL.out]; exact hlt)]
        simp [List.getD, HL.out, hlt])
      have hlen : ((Ns.take k).map ev1).length < 200000 := by simp; omega
      have HLN := Lib.hid hlen
      generalize Ns.getD k 0 = x at *
      clear hc0 hlen
      go_wp2_with fail
      refine (tAdd HT.out HLN.out 1 x 0 0).mono ?_
      rintro e w2 ⟨rfl, ht, hu⟩
      have h2 := step_since HU.out (fun k hk => hk.1) ht hu
      rw [show (⟨1, x, 0, 0⟩ : EvM) = ev1 x from rfl, ← HE.out] at h2
      have HT2 := Lib.hid h2.1
      have HU2 := Lib.hid h2.2
      clear h2 ht hu hc
      go_wp2_with fail
      go_roundw
      case rel => exact ⟨k + 1, by omega, by go_num, HT2, HU2⟩
      case measure => simp [intOf]; omega
    · have HT3 : Hid (Trc (ESince w wr) wr b (Ns.map ev1)) := Lib.hid (by
        have := HT.out
        rwa [List.take_of_length_le (by rw [HL.out]; omega)] at this)
      go_wp2_with fail
      go_ret
      exact ⟨b, rfl, HT3.out, HU.out⟩
/-- a literal of numbers -/
theorem lit_cells (w : World) (t : TypeId) (Ns : List Int) (C : Array Value) (hC : C = (Ns.map (Value.int .i64)).toArray) : ∀ j, j < Ns.length → (w.alloc (.cells C t)).cell? ⟨w.heap.size, j, none⟩ = some (.int .i64 (Ns.getD j 0)) := by
  subst hC
  intro j hj
  show (match (w.heap.push _)[w.heap.size]? with | some (.cells c _ _) => _ | _ => _) = _
  simp [hj, List.getD]
def e3 : List EvM := [ev1 1, ev1 2, ev1 3]
def e4 : List EvM := [ev1 1, ev1 2, ev1 4]
def e2 : List EvM := [ev1 1, ev1 2]
theorem parts34 : Parts e3 e4 2 := .inr ⟨2, rfl, by decide, by decide⟩
theorem parts32 : Parts e3 e2 2 := .inr ⟨2, rfl, by decide, by decide⟩
theorem parts30 : Parts e3 [] 0 := .inr ⟨0, rfl, by decide, by decide⟩
theorem of_lit (w : World) (Ns : List Int) (n : Nat) (C : Array Value) (hn : Ns.length = n) (hC : C = (Ns.map (Value.int .i64)).toArray) (hl : n ≤ 1000) :
    Calls Try.prog 6 #[.slice (some ⟨w.heap.size, 0, none⟩) n n] (w.alloc (.cells C 3)) fun e w' => ∃ b, e = .returned (.pointer (some ⟨b, 0, none⟩)) ∧ Trc (ESince w w') w' b (Ns.map ev1) ∧ Upd (fun _ => False) w w' := by
  refine (ofC _ _ n Ns hn (fun j hj => lit_cells w _ Ns C hC j (by omega)) hl).mono ?_
  rintro e w' ⟨b, rfl, ht, hu⟩
  exact ⟨b, rfl, ht.wide (fun k hk => ⟨by have := hk.1; simp at this; omega, hk.2⟩) (fun k hk => hk.2), (Upd.alloc _ w _).trans hu (fun _ h _ => h)⟩
set_option maxHeartbeats 1000000 in
theorem known10 (w : World) : Calls Try.prog 7 #[] w fun e w' => e = .returned (.bool true) ∧ Upd (fun _ => False) w w' := by
  go_enter Try.func7, Try.ntmps7
  go_wp2_with fail
  refine (of_lit w [1, 2, 3] 3 _ rfl rfl (by decide)).mono ?_
  rintro e w1 ⟨a, rfl, hta, hua⟩
  have HA : Hid (Trc (ESince w w1) w1 a e3) := Lib.hid hta
  have HUA := Lib.hid hua
  clear hta hua
  go_wp2_with fail
  refine (of_lit w1 [1, 2, 4] 3 _ rfl rfl (by decide)).mono ?_
  rintro e w2 ⟨b, rfl, htb, hub⟩
  have HB : Hid (Trc (ESince w1 w2) w2 b e4) := Lib.hid htb
  have HUB := Lib.hid (HUA.out.trans hub (fun _ h _ => h))
  have HA2 : Hid (Trc (ESince w w1) w2 a e3) := Lib.hid (HA.out.upd hub (fun _ _ h => h))
  clear htb hub
  go_wp2_with fail
  refine (tSame HA2.out.lst HB.out.lst parts34).mono ?_
  rintro e w3 ⟨rfl, hu⟩
  have HA3 := Lib.hid (HA2.out.upd hu (fun _ _ h => h))
  have HU3 := Lib.hid (HUB.out.trans hu (fun _ h _ => h))
  clear hu
  go_wp2_with fail
  refine (tSame HA3.out.lst HA3.out.lst (Parts.same _)).mono ?_
  rintro e w4 ⟨rfl, hu⟩
  have HU4 := Lib.hid (HU3.out.trans hu (fun _ h _ => h))
  clear hu
  go_wp2_with fail
  go_ret
  exact ⟨rfl, HU4.out⟩
end Go.Proofs.Ytklokkbgjpfogaa

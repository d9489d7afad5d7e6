/- HeapBytes: plainly; the first loop. -/
import Derived.Test.YteapemjkfncbjaaHl
import Derived.Test.YteapemjkfncbjaaHand
import Derived.Test.YteapemjkfncbjaaStr
import Derived.OwnWalk
import Derived.Deep.RegionLaw
import Derived.Deep.RegionHeld3
import Derived.Deep.Cut
import Derived.Deep.DeepCutAuto
namespace Go.Proofs.Yteapemjkfncbjaa
open Go.RowKit Go.Lib Go.ChangeShapes Go.WideShapes Go.Deep
set_option linter.unusedVariables false
set_option linter.unusedSimpArgs false

def aOf (p : List Int × Value) : ArrM := ⟨0, 3, 0, false, p.1⟩
def hbM (D : List (List Int × Value)) : HpM := ⟨4096, (two 4096).arrs ++ D.map aOf⟩
def hbU (D : List (List Int × Value)) : Nat := (D.map (fun p => 8 + p.1.length)).sum
theorem hbM_nil : hbM [] = two 4096 := rfl
theorem hbM_len (D : List (List Int × Value)) : (hbM D).arrs.length = D.length + 2 := by simp [hbM, two]
theorem hbM_add (D : List (List Int × Value)) (n : Nat) (d : Value) : (hbM D).add (newA 0 3 0 false n) = hbM (D ++ [(zeros n, d)]) := by
  simp [hbM, HpM.add, newA, aOf]
theorem hbM_get (D : List (List Int × Value)) {i : Nat} (hi : i < D.length) : (hbM D).arrs.getD (i + 2) default = aOf D[i] := by
  simp [hbM, two, List.getD, hi]
theorem hbM_put (D : List (List Int × Value)) {i : Nat} (hi : i < D.length) (j : Nat) (y : Int) : (hbM D).put (i + 2) j y = hbM (D.set i (D[i].1.set j y, D[i].2)) := by
  unfold HpM.put HpM.lay
  rw [hbM_get D hi]
  simp [hbM, two, ArrM.put, aOf, List.map_set]
theorem hbM_used (D : List (List Int × Value)) : usedP (hbM D).arrs = hbU D := by
  simp [usedP, usedL, hbM, two, hbU, aOf, Function.comp_def]
theorem hbU_take {D : List (List Int × Value)} {k : Nat} (hk : k < D.length) : hbU (D.take (k + 1)) = hbU (D.take k) + (8 + D[k].1.length) := by
  unfold hbU
  rw [List.take_add_one, List.getElem?_eq_getElem hk, List.map_append, List.sum_append]
  simp
theorem hbU_le {D : List (List Int × Value)} (h : ∀ p ∈ D, p.1.length ≤ 29) : hbU D ≤ 37 * D.length := by
  induction D with
  | nil => simp [hbU]
  | cons p D ih =>
    have h1 := h p (by simp)
    have h2 := ih (fun q hq => h q (by simp [hq]))
    simp [hbU] at h2 ⊢
    omega
theorem hbM_fits {D : List (List Int × Value)} (h : ∀ p ∈ D, p.1.length ≤ 29) (hl : D.length ≤ 40) (n : Nat) (hn : n ≤ 29) : fitsB (hbM D) 3 0 n = true := by
  have h1 := hbU_le h
  have h2 := hbM_used D
  unfold fitsB
  rw [h2]
  simp [labB, lifeB]
  have : (hbM D).size = 4096 := rfl
  rw [this]
  omega
theorem Own.turnK {K K' : Nat → Prop} {w0 w w' : World} {b : Nat} {m : HpM} (h : Own K w0 w b m) (h2 : Upd K w w') (hK : ∀ k, K k → w0.heap.size ≤ k) (hK' : ∀ k, K' k → K k ∨ (w.heap.size ≤ k ∧ k < w'.heap.size)) : Own K' w0 w' b m := by
  have s1 := h.up.size
  have s2 := h2.size
  refine ⟨(h.hp.upd h2 (fun k hk hk' => hk.2 hk')).wide (fun k hk => ⟨⟨hk.1.1, by have := hk.1.2; omega⟩, fun hk' => ?_⟩) (fun k hk => hk.1.2), h.up.trans h2 (fun k hk hl => by have := hK k hk; omega), fun k hk => ?_⟩
  · rcases hK' k hk' with h | h
    · exact hk.2 h
    · have := hk.1.2; omega
  · rcases hK' k hk with h3 | h3
    · have := h.kl k h3; omega
    · exact h3.2
theorem seven {w : World} {g : Nat} {v0 v1 v2 v3 v4 v5 v6 : Value} {t : TypeId} (h : w.heap[g]? = some (.cells #[v0, v1, v2, v3, v4, v5, v6] t (0, 0))) :
    w.cell? ⟨g, 0, none⟩ = some v0 ∧ w.cell? ⟨g, 1, none⟩ = some v1 ∧ w.cell? ⟨g, 2, none⟩ = some v2 ∧ w.cell? ⟨g, 3, none⟩ = some v3 ∧ w.cell? ⟨g, 4, none⟩ = some v4 ∧ w.cell? ⟨g, 5, none⟩ = some v5 ∧ w.cell? ⟨g, 6, none⟩ = some v6 := by
  refine ⟨?_, ?_, ?_, ?_, ?_, ?_, ?_⟩ <;> simp [World.cell?, h]
theorem rowInfo : (Try.prog.info? 31).map (fun i => (i.zero, i.size, i.bytes)) = some (some (.slice none 0 0), 1, 24) := by kernel_rfl
/-- what holds ahead of each step -/
def HB (W wr : World) (b : Nat) (ha : Option Addr) (hc n : Nat) (K : Nat → Prop) (D : List (List Int × Value)) : Prop :=
  D.length = n ∧ Own K W wr b (hbM D) ∧ Had K wr (.slice ha n hc) D ∧ (∀ k, K k → W.heap.size ≤ k) ∧ ∀ p ∈ D, p.1.length ≤ 29
theorem wrap8 (x : Int) : 0 ≤ IntKind.u8.wrap x ∧ IntKind.u8.wrap x ≤ 255 := by
  simp [IntKind.wrap, IntKind.bits, IntKind.signed]
  omega
theorem pick_range (x : Int) (m : Int) (hm : 0 < m) : ∃ N : Nat, x % m = (N : Int) ∧ (N : Int) < m := by
  have h1 := Int.emod_nonneg x (by omega : m ≠ 0)
  have h2 := Int.emod_lt_of_pos x hm
  exact ⟨(x % m).toNat, by omega, by omega⟩

theorem hbPush {W w4 w5 w9 : World} {b : Nat} {ha va : Option Addr} {hc vc N : Nat} {K : Nat → Prop} {D : List (List Int × Value)} (hO : Own K W w4 b (hbM (D ++ [(zeros N, .slice none 0 0)]))) (hD : Had K w4 (.slice ha D.length hc) D) (hu5 : Upd (fun _ => False) w4 w5)
    (hr : w5.ownsRow 0 5 1 (.slice (some ⟨w4.heap.size, 0, none⟩) N N) N (bv (zeros N))) {C : Array Value} {t : TypeId} (ho : w9.ownsRow 0 31 1 (.slice va (D.length + 1) vc) (D.length + 1) (D.map Prod.snd ++ [.slice (some ⟨w4.heap.size, 0, none⟩) N N]))
    (hg : (w5.alloc (.cells C t)).grownBy w9 (Value.slice ha D.length hc).ownBlock) (hf : Fresh (w5.alloc (.cells C t)) (.slice ha D.length hc) (.slice va (D.length + 1) vc)) (hK : ∀ q, K q → W.heap.size ≤ q) (hle : ∀ p ∈ D, p.1.length ≤ 29) (hN : N ≤ 29) :
    HB W w9 b va vc (D.length + 1) (fun q => K q ∨ (w4.heap.size ≤ q ∧ q < w9.heap.size)) (D ++ [(zeros N, .slice (some ⟨w4.heap.size, 0, none⟩) N N)]) := by
  have hu9 : Upd (fun q => (Value.slice ha D.length hc).ownBlock = some q) w5 w9 := (Upd.alloc _ w5 (.cells C t)).trans (Upd.grown (S := fun q => (Value.slice ha D.length hc).ownBlock = some q) hg (fun q hq => .inl hq)) (fun _ h _ => h)
  have s5 := hu5.size
  have s9 := hu9.size
  have hw := hO.up.size
  have hk : Upd K w4 w9 := (hu5.mono (T := K) (fun _ h _ => h.elim)).trans (hu9.mono (T := K) (fun q hq _ => hD.fr q hq)) (fun _ h _ => h)
  refine ⟨by simp, ?_, ?_, fun q hq => ?_, fun p hp => ?_⟩
  · have := hO.turnK (K' := fun q => K q ∨ (w4.heap.size ≤ q ∧ q < w9.heap.size)) hk hK (fun q hq => hq)
    have e : hbM (D ++ [(zeros N, Value.slice none 0 0)]) = hbM (D ++ [(zeros N, .slice (some ⟨w4.heap.size, 0, none⟩) N N)]) := by simp [hbM, aOf]
    rw [← e]; exact this
  · refine (hD.upd hu5 (fun _ _ h => h)).push hu9 ho hf (by simp) (by rw [zeros_len]; exact hr) (zeros_byte _) (fun q hq => ?_) (fun q hq => .inl hq) (fun q h1 h2 => .inr ⟨by omega, h2⟩)
    simp [Value.ownBlock] at hq
    subst hq
    have h5 := hpRowLt hr w4.heap.size rfl
    refine ⟨.inr ⟨Nat.le_refl _, by omega⟩, fun p hp hpq => ?_⟩
    have := hO.kl _ ((hD.dat p hp).2.2 _ hpq)
    omega
  · rcases hq with hq | hq
    · exact hK q hq
    · omega
  · rcases List.mem_append.1 hp with hp | hp
    · exact hle p hp
    · simp at hp
      subst hp
      simp [zeros]; omega
theorem hbDrew {W w : World} {b : Nat} {ha : Option Addr} {hc n : Nat} {K : Nat → Prop} {D : List (List Int × Value)} (h : HB W w b ha hc n K D) : HB W w.drew b ha hc n K D :=
  ⟨h.1, (h.2.1.quiet (Upd.drew (fun _ => False) w)).own, h.2.2.1.upd (Upd.drew (fun _ => False) w) (fun _ _ h => h), h.2.2.2.1, h.2.2.2.2⟩
theorem hbPoke {W w5 : World} {b : Nat} {ha : Option Addr} {hc : Nat} {K : Nat → Prop} {D : List (List Int × Value)} {kk at_ g8 rc : Nat} {y : Int} {hk0 : kk < D.length}
    (hO : Own K W w5 b (hbM (D.set kk ((D[kk]'hk0).1.set at_ y, (D[kk]'hk0).2)))) (hD : Had K w5 (.slice ha D.length hc) D) (hK : ∀ q, K q → W.heap.size ≤ q) (hle : ∀ p ∈ D, p.1.length ≤ 29) (hkD : kk < D.length)
    (hd : D[kk].2 = .slice (some ⟨g8, 0, none⟩) D[kk].1.length rc) (hin : at_ < D[kk].1.length) (hg : K g8) (hy : 0 ≤ y ∧ y ≤ 255) :
    HB W (w5.setCell ⟨g8, at_, none⟩ (.int .u8 y)) b ha hc D.length K (D.set kk (D[kk].1.set at_ y, D[kk].2)) := by
  refine ⟨by simp, hO.aside (Upd.setCell (S := K) w5 (p := ⟨g8, at_, none⟩) (.inl hg) _) hK, hD.poke hkD hd at_ hin y hy, hK, fun p hp => ?_⟩
  rcases List.mem_or_eq_of_mem_set hp with hp | rfl
  · exact hle p hp
  · simpa using hle _ (List.getElem_mem hkD)
end Go.Proofs.Yteapemjkfncbjaa

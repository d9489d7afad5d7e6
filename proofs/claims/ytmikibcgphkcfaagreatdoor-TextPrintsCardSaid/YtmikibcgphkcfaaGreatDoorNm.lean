/- The instructions' words: what 'named' yields, round by round; a contract for each call of a name. -/
import Derived.RangeFuncNested
import Derived.RangeFuncBound
import Derived.RangeFuncCalls
import Derived.RangeFuncLeaves
import Derived.Shelf.Abstract
import Derived.WalkKit
import Derived.OwnWalkIn
import Derived.TacticsInMore
import Derived.LoopNIn
import Derived.LoopIn
import Derived.RangeFuncFrom
import Derived.Lib.OthersKept
import Derived.Test.YtmikibcgphkcfaaGreatDoorBytes
namespace Go.Proofs.YtmikibcgphkcfaaGreatDoor
open Go.RowKit Go.Shelf
set_option linter.unusedVariables false
attribute [local go_sem] Oper.semAt_some

/-- the words, in the order of their numbers -/
def wordL : List (List UInt8) := [[112, 117, 115, 104], [108, 111, 97, 100], [115, 116, 111, 114, 101], [112, 111, 112], [100, 117, 112], [97, 100, 100], [115, 117, 98], [109, 117, 108], [97, 110, 100], [111, 114], [120, 111, 114], [115, 104, 108], [115, 104, 114], [115, 97, 114], [110, 101, 103], [110, 111, 116], [100, 105, 118], [114, 101, 109], [101, 113], [108, 116], [98, 101, 108, 111, 119], [112, 105, 99, 107], [106, 117, 109, 112], [106, 117, 109, 112, 105, 102], [110, 117, 108, 108], [105, 115, 110, 117, 108, 108], [110, 101, 119], [108, 101, 110], [103, 101, 116], [112, 117, 116], [99, 111, 112, 121], [115, 97, 109, 101], [103, 101, 116, 102], [112, 117, 116, 102], [98, 117, 102], [115, 101, 110, 100], [99, 97, 108, 108], [99, 97, 108, 108, 120], [114, 101, 116]]
/-- the words, a blank behind each -/
def nmL : List UInt8 := [112, 117, 115, 104, 32, 108, 111, 97, 100, 32, 115, 116, 111, 114, 101, 32, 112, 111, 112, 32, 100, 117, 112, 32, 97, 100, 100, 32, 115, 117, 98, 32, 109, 117, 108, 32, 97, 110, 100, 32, 111, 114, 32, 120, 111, 114, 32, 115, 104, 108, 32, 115, 104, 114, 32, 115, 97, 114, 32, 110, 101, 103, 32, 110, 111, 116, 32, 100, 105, 118, 32, 114, 101, 109, 32, 101, 113, 32, 108, 116, 32, 98, 101, 108, 111, 119, 32, 112, 105, 99, 107, 32, 106, 117, 109, 112, 32, 106, 117, 109, 112, 105, 102, 32, 110, 117, 108, 108, 32, 105, 115, 110, 117, 108, 108, 32, 110, 101, 119, 32, 108, 101, 110, 32, 103, 101, 116, 32, 112, 117, 116, 32, 99, 111, 112, 121, 32, 115, 97, 109, 101, 32, 103, 101, 116, 102, 32, 112, 117, 116, 102, 32, 98, 117, 102, 32, 115, 101, 110, 100, 32, 99, 97, 108, 108, 32, 99, 97, 108, 108, 120, 32, 114, 101, 116, 32]
/-- where each word begins -/
def stL : List Nat := [0, 5, 10, 16, 20, 24, 28, 32, 36, 40, 43, 47, 51, 55, 59, 63, 67, 71, 75, 78, 81, 87, 92, 97, 104, 109, 116, 120, 124, 128, 132, 137, 142, 147, 152, 156, 161, 166, 172, 176]


def nmS : ByteArray := { data := #[112, 117, 115, 104, 32, 108, 111, 97, 100, 32, 115, 116, 111, 114, 101, 32, 112, 111, 112, 32, 100, 117, 112, 32, 97, 100, 100, 32, 115, 117, 98, 32, 109, 117, 108, 32, 97, 110, 100, 32, 111, 114, 32, 120, 111, 114, 32, 115, 104, 108, 32, 115, 104, 114, 32, 115, 97, 114, 32, 110, 101, 103, 32, 110, 111, 116, 32, 100, 105, 118, 32, 114, 101, 109, 32, 101, 113, 32, 108, 116, 32, 98, 101, 108, 111, 119, 32, 112, 105, 99, 107, 32, 106, 117, 109, 112, 32, 106, 117, 109, 112, 105, 102, 32, 110, 117, 108, 108, 32, 105, 115, 110, 117, 108, 108, 32, 110, 101, 119, 32, 108, 101, 110, 32, 103, 101, 116, 32, 112, 117, 116, 32, 99, 111, 112, 121, 32, 115, 97, 109, 101, 32, 103, 101, 116, 102, 32, 112, 117, 116, 102, 32, 98, 117, 102, 32, 115, 101, 110, 100, 32, 99, 97, 108, 108, 32, 99, 97, 108, 108, 120, 32, 114, 101, 116, 32] }
def wordB (k : Nat) : ByteArray := ⟨(wordL.getD k []).toArray⟩
/-- number and word -/
def wordsP : List (Int × ByteArray) := (List.range 39).map fun (k : Nat) => (Int.ofNat k + 1, wordB k)
abbrev encs (p : Int × ByteArray) : Array Value := #[.int .i64 p.1, .string p.2]
def st (k : Nat) : Nat := stL.getD k 0

theorem nm_size : nmS.size = 176 := by kernel_rfl
theorem nm_scan : (List.range 39).all (fun k => decide (st (k + 1) ≤ 176) && decide (st k < st (k + 1)) && decide ((nmS.extract (st k) (st (k + 1) - 1)).data = (wordB k).data) &&
    (List.range 176).all (fun p => !(decide (st k ≤ p)) || !(decide (p < st (k + 1))) || (decide ((nmS.get! p).toNat < 128) && (((nmS.get! p).toNat == 32) == (p + 1 == st (k + 1)))))) = true := by decide +kernel
theorem nm_at {k : Nat} (hk : k < 39) : st (k + 1) ≤ 176 ∧ st k < st (k + 1) ∧ nmS.extract (st k) (st (k + 1) - 1) = wordB k ∧
    ∀ p (h : p < nmS.size), st k ≤ p → p < st (k + 1) → (nmS[p]'h).toNat < 128 ∧ ((nmS[p]'h).toNat = 32 ↔ p + 1 = st (k + 1)) := by
  have h := List.all_eq_true.1 nm_scan k (List.mem_range.2 hk)
  simp only [Bool.and_eq_true, decide_eq_true_eq] at h
  obtain ⟨⟨⟨h1, h2⟩, h3⟩, h4⟩ := h
  refine ⟨h1, h2, ByteArray.ext h3, fun p hp h5 h6 => ?_⟩
  have h7 := List.all_eq_true.1 h4 p (List.mem_range.2 (by rw [nm_size] at hp; exact hp))
  have e : nmS.get! p = nmS[p]'hp := by
    show nmS.data[p]! = nmS.data[p]'hp
    exact getElem!_pos nmS.data p hp
  rw [e] at h7
  simp only [h5, h6, decide_true, Bool.not_true, Bool.false_or, Bool.and_eq_true, decide_eq_true_eq] at h7
  refine ⟨h7.1, ?_⟩
  have := h7.2
  by_cases a : (nmS[p]'hp).toNat = 32 <;> by_cases b : p + 1 = st (k + 1) <;> simp [a, b] at this ⊢
theorem st39 : st 39 = 176 := by kernel_rfl
theorem words_len : wordsP.length = 39 := by kernel_rfl
theorem words_take {k : Nat} (hk : k < 39) : wordsP.take (k + 1) = wordsP.take k ++ [((k : Int) + 1, wordB k)] := by
  rw [List.take_succ_eq_append_getElem (by rw [words_len]; exact hk)]
  simp [wordsP]

set_option maxRecDepth 100000 in
set_option maxHeartbeats 1000000 in
theorem named_stops (F : Fence) (n : Nat) (h30 : F.fn 63) (hro : F.round = none) (hn : 1 ≤ n) (w : World) :
    SeqStopsK F n Tryz.prog 63 #[] encs KeepsWalks (fun xs => xs = wordsP) (fun pre => pre <+: wordsP) 39 w := fun l J Jx W hW hJ hJx hY h0 => by
  have HJ := Lib.hid hJ
  have HY := Lib.hid hY
  have HX := Lib.hid hJx
  have hlt0 : W.heap.size < (W.iter nmS 0).heap.size := by simp [World.iter]
  have H0 : Hid (J (wordsP.take 0) (W.iter nmS 0)) := hJ [] W _ none h0 (World.grownBy_alloc _ _ none) (fun r e => by cases e)
  clear hJ hY hJx h0 hW
  refine callsIn_of_wp Tryz.func63 rfl h30 ?_ hro
  simp only [Tryz.ntmps63, List.size_toArray, List.length_cons, List.length_nil, Nat.reduceAdd, Nat.reduceSub, Array.replicate_succ, Array.replicate_zero, List.push_toArray, List.append_toArray, List.nil_append, List.cons_append]
  gi_wp2
  rw [show ({ data := #[112, 117, 115, 104, 32, 108, 111, 97, 100, 32, 115, 116, 111, 114, 101, 32, 112, 111, 112, 32, 100, 117, 112, 32, 97, 100, 100, 32, 115, 117, 98, 32, 109, 117, 108, 32, 97, 110, 100, 32, 111, 114, 32, 120, 111, 114, 32, 115, 104, 108, 32, 115, 104, 114, 32, 115, 97, 114, 32, 110, 101, 103, 32, 110, 111, 116, 32, 100, 105, 118, 32, 114, 101, 109, 32, 101, 113, 32, 108, 116, 32, 98, 101, 108, 111, 119, 32, 112, 105, 99, 107, 32, 106, 117, 109, 112, 32, 106, 117, 109, 112, 105, 102, 32, 110, 117, 108, 108, 32, 105, 115, 110, 117, 108, 108, 32, 110, 101, 119, 32, 108, 101, 110, 32, 103, 101, 116, 32, 112, 117, 116, 32, 99, 111, 112, 121, 32, 115, 97, 109, 101, 32, 103, 101, 116, 102, 32, 112, 117, 116, 102, 32, 98, 117, 102, 32, 115, 101, 110, 100, 32, 99, 97, 108, 108, 32, 99, 97, 108, 108, 120, 32, 114, 101, 116, 32] } : ByteArray) = nmS from rfl]
  gi_loopw [2, 3, 4, 5] (fun op fr _ _ wr => ∃ (k pos : Nat), op = .int .i64 ((k : Int) + 1) ∧ fr = .int .i64 (st k : Nat) ∧ k ≤ 39 ∧ st k ≤ pos ∧ (k < 39 → pos < st (k + 1)) ∧ (k = 39 → pos = 176) ∧ Hid (wr.heap[W.heap.size]? = some (.stringIter nmS pos)) ∧ Hid (J (wordsP.take k) wr)) (fun _ _ _ _ wr => 176 - wr.iterPos W.heap.size)
  case atStart => exact ⟨0, 0, rfl, rfl, by omega, by decide, fun _ => by decide, by omega, Lib.hid (World.iter_heap _ _ _), H0⟩
  case round =>
    obtain ⟨k, pos, rfl, rfl, hk, hp1, hp2, hp3, HI, HJ1⟩ := hrel
    by_cases hk39 : k = 39
    · subst hk39
      obtain rfl := hp3 rfl
      have hnx := fun ty => Lib.run_next_end_at (P := Tryz.prog) wr W.heap.size nmS 176 ty HI.out (by rw [nm_size]; omega)
      clear hp1 hp2 hp3 hk
      gi_wp2
      go_end0
      exact ⟨⟨_, rfl⟩, .inl ⟨_, rfl, by have := HJ1.out; rwa [List.take_of_length_le (by rw [words_len]; omega)] at this⟩⟩
    · obtain ⟨hs1, hs2, hs3, hs4⟩ := nm_at (k := k) (by omega)
      have hp2' := hp2 (by omega)
      have hps : pos < nmS.size := by rw [nm_size]; omega
      obtain ⟨hasc, hiff⟩ := hs4 pos hps hp1 hp2'
      have hnx := fun ty => Lib.run_next_ascii_at (P := Tryz.prog) wr W.heap.size nmS pos ty HI.out hps hasc
      have HIlt : W.heap.size < wr.heap.size := (Array.getElem?_eq_some_iff.1 HI.out).1
      have hg : wr.grownBy (wr.iterAt W.heap.size nmS (pos + 1)) (some W.heap.size) := ⟨rfl, rfl, rfl, by rw [Lib.iterAt_size]; exact Nat.le_refl _, fun j hj hne => Lib.iterAt_other _ _ _ _ _ (fun e => hne (by rw [e]))⟩
      have HJ2 : Hid (J (wordsP.take k) (wr.iterAt W.heap.size nmS (pos + 1))) := HJ.out _ wr _ (some W.heap.size) HJ1.out hg (fun r e => by cases e; exact ⟨Nat.le_refl _, _, HI.out, rfl⟩)
      have HI2 : Hid ((wr.iterAt W.heap.size nmS (pos + 1)).heap[W.heap.size]? = some (.stringIter nmS (pos + 1))) := Lib.iterAt_heap _ _ _ _ _ HI.out
      have HP1 := Lib.hid (iterPos_of HI.out)
      have HP2 := Lib.hid (iterPos_of HI2.out)
      generalize hc : (nmS[pos]'hps).toNat = c at *
      have HC := Lib.hid hc
      have HIFF := Lib.hid hiff
      have HS3 := Lib.hid hs3
      clear hc hiff hs3 hs4 hp2 hp3 hg HI HJ1
      generalize wr.iterAt W.heap.size nmS (pos + 1) = w2 at *
      by_cases hc32 : c = 32
      · have hpe := HIFF.out.1 hc32
        subst hc32
        obtain ⟨fn, tmps, assign, body, hy, hR⟩ := HY.out (wordsP.take k) ((k : Int) + 1, wordB k) w2 HJ2.out (by simp [words_len]; omega)
        have HR := Lib.hid hR
        clear hR
        dsimp only [encs] at hy
        rw [← HS3.out, show st (k + 1) - 1 = pos by omega] at hy
        rw [show nmS = ({ data := #[112, 117, 115, 104, 32, 108, 111, 97, 100, 32, 115, 116, 111, 114, 101, 32, 112, 111, 112, 32, 100, 117, 112, 32, 97, 100, 100, 32, 115, 117, 98, 32, 109, 117, 108, 32, 97, 110, 100, 32, 111, 114, 32, 120, 111, 114, 32, 115, 104, 108, 32, 115, 104, 114, 32, 115, 97, 114, 32, 110, 101, 103, 32, 110, 111, 116, 32, 100, 105, 118, 32, 114, 101, 109, 32, 101, 113, 32, 108, 116, 32, 98, 101, 108, 111, 119, 32, 112, 105, 99, 107, 32, 106, 117, 109, 112, 32, 106, 117, 109, 112, 105, 102, 32, 110, 117, 108, 108, 32, 105, 115, 110, 117, 108, 108, 32, 110, 101, 119, 32, 108, 101, 110, 32, 103, 101, 116, 32, 112, 117, 116, 32, 99, 111, 112, 121, 32, 115, 97, 109, 101, 32, 103, 101, 116, 102, 32, 112, 117, 116, 102, 32, 98, 117, 102, 32, 115, 101, 110, 100, 32, 99, 97, 108, 108, 32, 99, 97, 108, 108, 120, 32, 114, 101, 116, 32] } : ByteArray) from rfl] at hy
        gi_wp2
        refine HR.out.mono ?_
        rintro e W3 (⟨rfl, hJ3, hk3⟩ | ⟨rfl, hX3⟩)
        · have HJ3 : Hid (J (wordsP.take (k + 1)) W3) := by rw [words_take (by omega)]; exact hJ3
          have HI3 := Lib.hid (hk3.same _ _ HI2.out rfl)
          have HP3 := Lib.hid (iterPos_of HI3.out)
          clear hJ3 hk3 hy hnx
          gi_wp2
          go_roundw
          case rel => exact ⟨k + 1, pos + 1, by go_num, by rw [← hpe]; go_num, by omega, by omega, fun h => by have := (nm_at (k := k + 1) (by omega)).2.1; omega, fun h => by have := st39; rw [← h] at this; omega, HI3, HJ3⟩
          case measure => rw [HP1.out, HP3.out]; omega
        · have HX3 := Lib.hid hX3
          clear hX3 hy hnx
          gi_wp2
          refine bodyPost_ret (results_none rfl _ _ _) rfl ?_
          exact ⟨⟨_, rfl⟩, .inr ⟨_, by rw [← words_take (by omega)]; exact List.take_prefix _ _, HX3.out⟩⟩
      · have hb : ((c : Int) != 32) = true := by simp; omega
        have hne : ¬ pos + 1 = st (k + 1) := fun h => hc32 (HIFF.out.2 h)
        clear hc32
        gi_wp2
        go_roundw
        case rel => exact ⟨k, pos + 1, rfl, rfl, hk, by omega, fun _ => by omega, fun h => by omega, HI2, HJ2⟩
        case measure => rw [HP1.out, HP2.out]; omega

theorem upd_of_below {w w' : World} (h : Below w.heap.size w w') : Upd (fun _ => False) w w' := ⟨h.os, h.tape, h.output, h.size, fun k hk _ => h.block k hk⟩

theorem new_cell (W : World) (v : Value) (t : TypeId) : (W.alloc (.cells #[v] t)).cell? ⟨W.heap.size, 0, none⟩ = some v ∧ (W.alloc (.cells #[v] t)).frozen? ⟨W.heap.size, 0, none⟩ = false := by
  constructor
  · simp
  · simp
theorem old_cell {W : World} {b : Nat} {v : Value} (o : Obj) (h : W.cell? ⟨b, 0, none⟩ = some v) : (W.alloc o).cell? ⟨b, 0, none⟩ = some v :=
  (World.cell?_of_block (w := W) (Below.heap_alloc _ _ _ (World.block_lt_of_cell? W _ h))).trans h

/-- the word of a number; empty of others -/
def nameB (op : Int) : ByteArray := ((wordsP.find? fun p => p.1 == op).map (·.2)).getD { data := #[] }
/-- the number of a word; 0 of others -/
def opB (s : ByteArray) : Int := ((wordsP.find? fun p => p.2.toList == s.toList).map (·.1)).getD 0
theorem find_hit {α : Type} {q : α → Bool} {pre : List α} {x : α} (h : pre.find? q = none) (hx : q x = true) : (pre ++ [x]).find? q = some x := by
  rw [List.find?_append, h]; simp [hx]
theorem find_miss {α : Type} {q : α → Bool} {pre : List α} {x : α} (h : pre.find? q = none) (hx : q x = false) : (pre ++ [x]).find? q = none := by
  rw [List.find?_append, h]; simp [hx]
theorem find_pre {α : Type} {q : α → Bool} {pre l : List α} {x : α} (hp : pre <+: l) (h : pre.find? q = some x) : l.find? q = some x := by
  obtain ⟨t, rfl⟩ := hp
  rw [List.find?_append, h]; rfl

set_option maxRecDepth 100000 in
set_option maxHeartbeats 2000000 in
theorem cName (op : Int) (w : World) : Calls Tryz.prog 43 #[.int .i64 op] w fun e w' => e = .returned (.string (nameB op)) ∧ Upd (fun _ => False) w w' := by
  refine (callsIn_wide (n := 4)).1 ?_
  refine callsIn_of_wp_marks Tryz.func43 rfl trivial ?_ rfl
  simp only [Tryz.ntmps43, List.size_toArray, List.length_cons, List.length_nil, Nat.reduceAdd, Nat.reduceSub, Array.replicate_succ, Array.replicate_zero, List.push_toArray, List.append_toArray, List.nil_append, List.cons_append]
  gi_wp2
  have c0 := new_cell w (.int .i64 op) 3
  have c1 := new_cell (w.alloc (.cells #[.int .i64 op] 3)) (.string { data := #[] }) 9
  simp only [World.size_alloc] at c1
  have hB0 : Below w.heap.size w ((w.alloc (.cells #[.int .i64 op] 3)).alloc (.cells #[.string { data := #[] }] 9)) := ((Below.refl _ w).alloc (Nat.le_refl _) _).alloc (by simp) _
  refine wpIn_rangeFunc_ownF rfl (by omega) (gf := 63) (lb := #[]) rfl trivial (enters_of Tryz.func63 (by kernel_rfl) rfl)
    (named_stops Fence.wide (4 - 1) trivial rfl (by omega) _) walksK_t walksK_b (Below.refl _ _) (fun _ => rfl)
    (fun pre W => (pre.find? (fun p => p.1 == op) = none ∧ W.cell? ⟨w.heap.size, 0, none⟩ = some (.int .i64 op) ∧ W.cell? ⟨w.heap.size + 1, 0, none⟩ = some (.string { data := #[] }) ∧ W.frozen? ⟨w.heap.size + 1, 0, none⟩ = false) ∧ Below w.heap.size w W)
    (fun c pre W => (c = .ret ∧ ∃ p, pre.find? (fun p => p.1 == op) = some p ∧ W.cell? ⟨w.heap.size + 1, 0, none⟩ = some (.string p.2)) ∧ Below w.heap.size w W)
    (OwnFrom.and (Own.from (fun s A B row hs hg hr => ⟨hs.1, cell_kept hs.2.1 hg hr, cell_kept hs.2.2.1 hg hr, (frozen_kept hs.2.2.1 hg hr).trans hs.2.2.2⟩) _) (ownFrom_below (Nat.le_refl _) (by simp; omega)))
    (fun c => OwnFrom.and (Own.from (fun s A B row hs hg hr => by obtain ⟨hc, p, hp, hcell⟩ := hs; exact ⟨hc, p, hp, cell_kept hcell hg hr⟩) _) (ownFrom_below (Nat.le_refl _) (by simp; omega)))
    ⟨⟨rfl, old_cell _ c0.1, c1.1, c1.2⟩, hB0⟩
    (fun x => { tmps := #[.int .i64 op, .pointer (some ⟨w.heap.size, 0, none⟩), .pointer (some ⟨w.heap.size + 1, 0, none⟩), .int .i64 x.1, .string x.2, .int .i64 x.1, .string x.2, undef, undef, undef, undef], defers := [] }) ?assign ?body ?done ?stop
  case assign =>
    intro l x W K hK
    gi_wp2
    exact hK
  case body =>
    rintro l pre x W ⟨⟨hp, hcw, hcr, hfr⟩, hB⟩ _
    gi_wp2
    · rename_i hx
      exact ⟨KeepsOthers.setCell _ _ _, ⟨rfl, x, find_hit hp (by simpa using hx), World.cell?_setCell_same' _ _ _ (by rw [hcr]; rfl)⟩, hB.setCell (p := ⟨w.heap.size + 1, 0, none⟩) (by simp) _⟩
    · rename_i hx
      exact ⟨KeepsOthers.refl _, KeepsWalks.refl _, ⟨find_miss hp (by simpa using hx), hcw, hcr, hfr⟩, hB⟩
  case done =>
    rintro D ys W hD rfl ⟨⟨hne, _, hcr, hfr⟩, hB⟩ hK
    gi_wp2
    have hK' := (KeepsOthers.setCell W ⟨w.heap.size + 1, 0, none⟩ (.string { data := #[] })).same D _ hK rfl
    refine ⟨by simp, .inl ⟨_, _, rfl, run_takeDeferred hK', ?_⟩⟩
    have hc5 := cell_kept (World.cell?_setCell_same' W ⟨w.heap.size + 1, 0, none⟩ (.string { data := #[] }) (by rw [hcr]; rfl)) (grownBy_putObj' _ D (.deferred none)) (fun r e => by cases e; exact ⟨_, hK', rfl⟩)
    refine ⟨.string { data := #[] }, ?_, by unfold nameB; rw [hne]; rfl, upd_of_below ((hB.setCell (p := ⟨w.heap.size + 1, 0, none⟩) (by simp) _).trans (belowK_b (w := w) (Nat.le_refl _) _ D _ _ (by simp at hD; omega) hK' rfl rfl))⟩
    simp [results, Tryz.f43, go_sem, hc5]
  case stop =>
    rintro D c pre W hD hpre ⟨⟨rfl, p, hp, hcr⟩, hB⟩ hK
    gi_wp2
    refine ⟨by simp, .inl ⟨_, _, rfl, run_takeDeferred hK, ?_⟩⟩
    have hc5 := cell_kept hcr (grownBy_putObj' _ D (.deferred none)) (fun r e => by cases e; exact ⟨_, hK, rfl⟩)
    refine ⟨.string p.2, ?_, by unfold nameB; rw [find_pre hpre hp]; rfl, upd_of_below (hB.trans (belowK_b (w := w) (Nat.le_refl _) W D _ _ (by simp at hD; omega) hK rfl rfl))⟩
    simp [results, Tryz.f43, go_sem, hc5]
set_option maxRecDepth 100000 in
set_option maxHeartbeats 2000000 in
theorem cOp (s : ByteArray) (w : World) : Calls Tryz.prog 97 #[.string s] w fun e w' => e = .returned (.int .i64 (opB s)) ∧ Upd (fun _ => False) w w' := by
  refine (callsIn_wide (n := 4)).1 ?_
  refine callsIn_of_wp_marks Tryz.func97 rfl trivial ?_ rfl
  simp only [Tryz.ntmps97, List.size_toArray, List.length_cons, List.length_nil, Nat.reduceAdd, Nat.reduceSub, Array.replicate_succ, Array.replicate_zero, List.push_toArray, List.append_toArray, List.nil_append, List.cons_append]
  gi_wp2
  have c0 := new_cell w (.string s) 9
  have c1 := new_cell (w.alloc (.cells #[.string s] 9)) (.int .i64 0) 3
  simp only [World.size_alloc] at c1
  have hB0 : Below w.heap.size w ((w.alloc (.cells #[.string s] 9)).alloc (.cells #[.int .i64 0] 3)) := ((Below.refl _ w).alloc (Nat.le_refl _) _).alloc (by simp) _
  refine wpIn_rangeFunc_ownF rfl (by omega) (gf := 63) (lb := #[]) rfl trivial (enters_of Tryz.func63 (by kernel_rfl) rfl)
    (named_stops Fence.wide (4 - 1) trivial rfl (by omega) _) walksK_t walksK_b (Below.refl _ _) (fun _ => rfl)
    (fun pre W => (pre.find? (fun p => p.2.toList == s.toList) = none ∧ W.cell? ⟨w.heap.size, 0, none⟩ = some (.string s) ∧ W.cell? ⟨w.heap.size + 1, 0, none⟩ = some (.int .i64 0) ∧ W.frozen? ⟨w.heap.size + 1, 0, none⟩ = false) ∧ Below w.heap.size w W)
    (fun c pre W => (c = .ret ∧ ∃ p, pre.find? (fun p => p.2.toList == s.toList) = some p ∧ W.cell? ⟨w.heap.size + 1, 0, none⟩ = some (.int .i64 p.1)) ∧ Below w.heap.size w W)
    (OwnFrom.and (Own.from (fun s A B row hs hg hr => ⟨hs.1, cell_kept hs.2.1 hg hr, cell_kept hs.2.2.1 hg hr, (frozen_kept hs.2.2.1 hg hr).trans hs.2.2.2⟩) _) (ownFrom_below (Nat.le_refl _) (by simp; omega)))
    (fun c => OwnFrom.and (Own.from (fun s A B row hs hg hr => by obtain ⟨hc, p, hp, hcell⟩ := hs; exact ⟨hc, p, hp, cell_kept hcell hg hr⟩) _) (ownFrom_below (Nat.le_refl _) (by simp; omega)))
    ⟨⟨rfl, old_cell _ c0.1, c1.1, c1.2⟩, hB0⟩
    (fun x => { tmps := #[.string s, .pointer (some ⟨w.heap.size, 0, none⟩), .pointer (some ⟨w.heap.size + 1, 0, none⟩), .int .i64 x.1, .string x.2, .int .i64 x.1, .string x.2, undef, undef, undef, undef], defers := [] }) ?assign ?body ?done ?stop
  case assign =>
    intro l x W K hK
    gi_wp2
    exact hK
  case body =>
    rintro l pre x W ⟨⟨hp, hcw, hcr, hfr⟩, hB⟩ _
    gi_wp2
    · rename_i hx
      exact ⟨KeepsOthers.setCell _ _ _, ⟨rfl, x, find_hit hp hx, World.cell?_setCell_same' _ _ _ (by rw [hcr]; rfl)⟩, hB.setCell (p := ⟨w.heap.size + 1, 0, none⟩) (by simp) _⟩
    · rename_i hx
      exact ⟨KeepsOthers.refl _, KeepsWalks.refl _, ⟨find_miss hp (by simpa using hx), hcw, hcr, hfr⟩, hB⟩
  case done =>
    rintro D ys W hD rfl ⟨⟨hne, _, hcr, hfr⟩, hB⟩ hK
    gi_wp2
    have hK' := (KeepsOthers.setCell W ⟨w.heap.size + 1, 0, none⟩ (.int .i64 0)).same D _ hK rfl
    refine ⟨by simp, .inl ⟨_, _, rfl, run_takeDeferred hK', ?_⟩⟩
    have hc5 := cell_kept (World.cell?_setCell_same' W ⟨w.heap.size + 1, 0, none⟩ (.int .i64 0) (by rw [hcr]; rfl)) (grownBy_putObj' _ D (.deferred none)) (fun r e => by cases e; exact ⟨_, hK', rfl⟩)
    refine ⟨.int .i64 0, ?_, by unfold opB; rw [hne]; rfl, upd_of_below ((hB.setCell (p := ⟨w.heap.size + 1, 0, none⟩) (by simp) _).trans (belowK_b (w := w) (Nat.le_refl _) _ D _ _ (by simp at hD; omega) hK' rfl rfl))⟩
    simp [results, Tryz.f97, go_sem, hc5]
  case stop =>
    rintro D c pre W hD hpre ⟨⟨rfl, p, hp, hcr⟩, hB⟩ hK
    gi_wp2
    refine ⟨by simp, .inl ⟨_, _, rfl, run_takeDeferred hK, ?_⟩⟩
    have hc5 := cell_kept hcr (grownBy_putObj' _ D (.deferred none)) (fun r e => by cases e; exact ⟨_, hK, rfl⟩)
    refine ⟨.int .i64 p.1, ?_, by unfold opB; rw [find_pre hpre hp]; rfl, upd_of_below (hB.trans (belowK_b (w := w) (Nat.le_refl _) W D _ _ (by simp at hD; omega) hK rfl rfl))⟩
    simp [results, Tryz.f97, go_sem, hc5]

/-- what the reference's list of names holds: an empty one ahead -/
def nthL : List ByteArray := [{ data := #[] }, { data := #[112, 117, 115, 104] }, { data := #[108, 111, 97, 100] }, { data := #[115, 116, 111, 114, 101] }, { data := #[112, 111, 112] }, { data := #[100, 117, 112] }, { data := #[97, 100, 100] }, { data := #[115, 117, 98] }, { data := #[109, 117, 108] }, { data := #[97, 110, 100] }, { data := #[111, 114] }, { data := #[120, 111, 114] }, { data := #[115, 104, 108] }, { data := #[115, 104, 114] }, { data := #[115, 97, 114] }, { data := #[110, 101, 103] }, { data := #[110, 111, 116] }, { data := #[100, 105, 118] }, { data := #[114, 101, 109] }, { data := #[101, 113] }, { data := #[108, 116] }, { data := #[98, 101, 108, 111, 119] }, { data := #[112, 105, 99, 107] }, { data := #[106, 117, 109, 112] }, { data := #[106, 117, 109, 112, 105, 102] }, { data := #[110, 117, 108, 108] }, { data := #[105, 115, 110, 117, 108, 108] }, { data := #[110, 101, 119] }, { data := #[108, 101, 110] }, { data := #[103, 101, 116] }, { data := #[112, 117, 116] }, { data := #[99, 111, 112, 121] }, { data := #[115, 97, 109, 101] }, { data := #[103, 101, 116, 102] }, { data := #[112, 117, 116, 102] }, { data := #[98, 117, 102] }, { data := #[115, 101, 110, 100] }, { data := #[99, 97, 108, 108] }, { data := #[99, 97, 108, 108, 120] }, { data := #[114, 101, 116] }]
def nth (k : Nat) : ByteArray := nthL.getD k { data := #[] }
theorem nth_word : (List.range 39).all (fun k => decide ((nth (k + 1)).data = (wordB k).data) && decide ((nameB ((k : Int) + 1)).data = (wordB k).data)) = true := by decide +kernel
theorem nth_at {k : Nat} (hk : k < 39) : nth (k + 1) = wordB k ∧ nameB ((k : Int) + 1) = wordB k := by
  have h := List.all_eq_true.1 nth_word k (List.mem_range.2 hk)
  simp only [Bool.and_eq_true, decide_eq_true_eq] at h
  exact ⟨ByteArray.ext h.1, ByteArray.ext h.2⟩
theorem words_mem {p : Int × ByteArray} (h : p ∈ wordsP) : 1 ≤ p.1 ∧ p.1 ≤ 39 := by
  unfold wordsP at h
  obtain ⟨k, hk, rfl⟩ := List.mem_map.1 h
  have := List.mem_range.1 hk
  simp only [Int.ofNat_eq_natCast]
  omega
theorem nameB_out {op : Int} (h : op < 1 ∨ 40 ≤ op) : nameB op = { data := #[] } := by
  unfold nameB
  rw [List.find?_eq_none.2 (fun p hp => by have := words_mem hp; simp; omega)]
  rfl
set_option maxRecDepth 100000 in
set_option maxHeartbeats 1000000 in
theorem rNames (w : World) : Calls Tryz.prog 49 #[] w fun e w' => e = .returned (.slice (some ⟨w.heap.size, 0, none⟩) 40 40) ∧ Upd (fun _ => False) w w' ∧
    ∀ k : Nat, k < 40 → w'.cell? ⟨w.heap.size, k, none⟩ = some (.string (nth k)) := by
  go_enter Tryz.func49, Tryz.ntmps49
  go_wp2
  go_ret
  refine ⟨rfl, Upd.alloc _ _ _, fun k hk => ?_⟩
  show (match (w.heap.push (Obj.cells (nthL.map Value.string).toArray 9 (0, 0)))[w.heap.size]? with | some (.cells c _ _) => c[k]? | _ => none) = _
  simp only [Array.getElem?_push_size]
  have hl : k < nthL.length := hk
  simp [nth, hl, List.getD]

set_option maxHeartbeats 1000000 in
theorem rName (op : Int) (w : World) : Calls Tryz.prog 23 #[.int .i64 op] w fun e w' => e = .returned (.string (nameB op)) ∧ Upd (fun _ => False) w w' := by
  by_cases h1 : op < 1
  · have HN := Lib.hid (nameB_out (op := op) (.inl h1))
    go_enter Tryz.func23, Tryz.ntmps23
    go_wp2_with fail
    refine (rNames _).mono ?_
    rintro e w1 ⟨rfl, hu, _⟩
    have HU := Lib.hid hu
    clear hu
    go_wp2_with fail
    go_ret
    exact ⟨by rw [HN.out]; rfl, HU.out⟩
  · by_cases h2 : 40 ≤ op
    · have HN := Lib.hid (nameB_out (op := op) (.inr h2))
      go_enter Tryz.func23, Tryz.ntmps23
      go_wp2_with fail
      refine (rNames _).mono ?_
      rintro e w1 ⟨rfl, hu, _⟩
      have HU := Lib.hid hu
      clear hu
      go_wp2_with fail
      go_ret
      exact ⟨by rw [HN.out]; rfl, HU.out⟩
    · obtain ⟨k, rfl⟩ : ∃ k : Nat, op = (k : Int) + 1 := ⟨(op - 1).toNat, by omega⟩
      have hk : k < 39 := by omega
      have HN := Lib.hid (nth_at hk)
      go_enter Tryz.func23, Tryz.ntmps23
      go_wp2_with fail
      refine (rNames _).mono ?_
      rintro e w1 ⟨rfl, hu, hc⟩
      have HU := Lib.hid hu
      have hc1 := hc (k + 1) (by omega)
      rw [HN.out.1] at hc1
      clear hu hc
      go_wp2_with fail
      go_ret
      exact ⟨by rw [HN.out.2]; rfl, HU.out⟩

end Go.Proofs.YtmikibcgphkcfaaGreatDoor

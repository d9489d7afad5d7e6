/- The instructions' words: what 'named' yields, round by round; a contract for each call of a name. -/
import Derived.RangeFuncNested
import Derived.RangeFuncBound
import Derived.RangeFuncCalls
import Derived.RangeFuncLeaves
import Derived.Shelf.Abstract
import Derived.WalkKit
import Derived.OwnWalkIn
import Derived.TacticsInMore
import Derived.LoopNIn
import Derived.LoopIn
import Derived.RangeFuncFrom
import Derived.Lib.OthersKept
import Derived.Test.YtdmadfahgkikkaaDoorBytes
namespace Go.Proofs.YtdmadfahgkikkaaDoor
open Go.RowKit Go.Shelf
set_option linter.unusedVariables false
attribute [local go_sem] Oper.semAt_some

/-- the words, in the order of their numbers -/
def wordL : List (List UInt8) := [[112, 117, 115, 104], [108, 111, 97, 100], [115, 116, 111, 114, 101], [112, 111, 112], [100, 117, 112], [97, 100, 100], [115, 117, 98], [109, 117, 108], [97, 110, 100], [111, 114], [120, 111, 114], [115, 104, 108], [115, 104, 114], [115, 97, 114], [110, 101, 103], [110, 111, 116], [100, 105, 118], [114, 101, 109], [101, 113], [108, 116], [98, 101, 108, 111, 119], [112, 105, 99, 107], [106, 117, 109, 112], [106, 117, 109, 112, 105, 102], [110, 117, 108, 108], [105, 115, 110, 117, 108, 108], [110, 101, 119], [108, 101, 110], [103, 101, 116], [112, 117, 116], [99, 111, 112, 121], [115, 97, 109, 101], [103, 101, 116, 102], [112, 117, 116, 102], [98, 117, 102], [115, 101, 110, 100], [99, 97, 108, 108], [99, 97, 108, 108, 120], [114, 101, 116]]
/-- the words, a blank behind each -/
def nmL : List UInt8 := [112, 117, 115, 104, 32, 108, 111, 97, 100, 32, 115, 116, 111, 114, 101, 32, 112, 111, 112, 32, 100, 117, 112, 32, 97, 100, 100, 32, 115, 117, 98, 32, 109, 117, 108, 32, 97, 110, 100, 32, 111, 114, 32, 120, 111, 114, 32, 115, 104, 108, 32, 115, 104, 114, 32, 115, 97, 114, 32, 110, 101, 103, 32, 110, 111, 116, 32, 100, 105, 118, 32, 114, 101, 109, 32, 101, 113, 32, 108, 116, 32, 98, 101, 108, 111, 119, 32, 112, 105, 99, 107, 32, 106, 117, 109, 112, 32, 106, 117, 109, 112, 105, 102, 32, 110, 117, 108, 108, 32, 105, 115, 110, 117, 108, 108, 32, 110, 101, 119, 32, 108, 101, 110, 32, 103, 101, 116, 32, 112, 117, 116, 32, 99, 111, 112, 121, 32, 115, 97, 109, 101, 32, 103, 101, 116, 102, 32, 112, 117, 116, 102, 32, 98, 117, 102, 32, 115, 101, 110, 100, 32, 99, 97, 108, 108, 32, 99, 97, 108, 108, 120, 32, 114, 101, 116, 32]
/-- where each word begins -/
def stL : List Nat := [0, 5, 10, 16, 20, 24, 28, 32, 36, 40, 43, 47, 51, 55, 59, 63, 67, 71, 75, 78, 81, 87, 92, 97, 104, 109, 116, 120, 124, 128, 132, 137, 142, 147, 152, 156, 161, 166, 172, 176]


def nmS : ByteArray := { data := #[112, 117, 115, 104, 32, 108, 111, 97, 100, 32, 115, 116, 111, 114, 101, 32, 112, 111, 112, 32, 100, 117, 112, 32, 97, 100, 100, 32, 115, 117, 98, 32, 109, 117, 108, 32, 97, 110, 100, 32, 111, 114, 32, 120, 111, 114, 32, 115, 104, 108, 32, 115, 104, 114, 32, 115, 97, 114, 32, 110, 101, 103, 32, 110, 111, 116, 32, 100, 105, 118, 32, 114, 101, 109, 32, 101, 113, 32, 108, 116, 32, 98, 101, 108, 111, 119, 32, 112, 105, 99, 107, 32, 106, 117, 109, 112, 32, 106, 117, 109, 112, 105, 102, 32, 110, 117, 108, 108, 32, 105, 115, 110, 117, 108, 108, 32, 110, 101, 119, 32, 108, 101, 110, 32, 103, 101, 116, 32, 112, 117, 116, 32, 99, 111, 112, 121, 32, 115, 97, 109, 101, 32, 103, 101, 116, 102, 32, 112, 117, 116, 102, 32, 98, 117, 102, 32, 115, 101, 110, 100, 32, 99, 97, 108, 108, 32, 99, 97, 108, 108, 120, 32, 114, 101, 116, 32] }
def wordB (k : Nat) : ByteArray := ⟨(wordL.getD k []).toArray⟩
/-- number and word -/
def wordsP : List (Int × ByteArray) := (List.range 39).map fun (k : Nat) => (Int.ofNat k + 1, wordB k)
abbrev encs (p : Int × ByteArray) : Array Value := #[.int .i64 p.1, .string p.2]
def st (k : Nat) : Nat := stL.getD k 0

theorem nm_size : nmS.size = 176 := by kernel_rfl
theorem nm_scan : (List.range 39).all (fun k => decide (st (k + 1) ≤ 176) && decide (st k < st (k + 1)) && decide ((nmS.extract (st k) (st (k + 1) - 1)).data = (wordB k).data) &&
    (List.range 176).all (fun p => !(decide (st k ≤ p)) || !(decide (p < st (k + 1))) || (decide ((nmS.get! p).toNat < 128) && (((nmS.get! p).toNat == 32) == (p + 1 == st (k + 1)))))) = true := by decide +kernel
theorem nm_at {k : Nat} (hk : k < 39) : st (k + 1) ≤ 176 ∧ st k < st (k + 1) ∧ nmS.extract (st k) (st (k + 1) - 1) = wordB k ∧
    ∀ p (h : p < nmS.size), st k ≤ p → p < st (k + 1) → (nmS[p]'h).toNat < 128 ∧ ((nmS[p]'h).toNat = 32 ↔ p + 1 = st (k + 1)) := by
  have h := List.all_eq_true.1 nm_scan k (List.mem_range.2 hk)
  simp only [Bool.and_eq_true, decide_eq_true_eq] at h
  obtain ⟨⟨⟨h1, h2⟩, h3⟩, h4⟩ := h
  refine ⟨h1, h2, ByteArray.ext h3, fun p hp h5 h6 => ?_⟩
  have h7 := List.all_eq_true.1 h4 p (List.mem_range.2 (by rw [nm_size] at hp; exact hp))
  have e : nmS.get! p = nmS[p]'hp := by
    show nmS.data[p]! = nmS.data[p]'hp
    exact getElem!_pos nmS.data p hp
  rw [e] at h7
  simp only [h5, h6, decide_true, Bool.not_true, Bool.false_or, Bool.and_eq_true, decide_eq_true_eq] at h7
  refine ⟨h7.1, ?_⟩
  have := h7.2
  by_cases a : (nmS[p]'hp).toNat = 32 <;> by_cases b : p + 1 = st (k + 1) <;> simp [a, b] at this ⊢
theorem st39 : st 39 = 176 := by kernel_rfl
theorem words_len : wordsP.length = 39 := by kernel_rfl
theorem words_take {k : Nat} (hk : k < 39) : wordsP.take (k + 1) = wordsP.take k ++ [((k : Int) + 1, wordB k)] := by
  rw [List.take_succ_eq_append_getElem (by rw [words_len]; exact hk)]
  simp [wordsP]

theorem upd_of_below {w w' : World} (h : Below w.heap.size w w') : Upd (fun _ => False) w w' := ⟨h.os, h.tape, h.output, h.size, fun k hk _ => h.block k hk⟩

theorem new_cell (W : World) (v : Value) (t : TypeId) : (W.alloc (.cells #[v] t)).cell? ⟨W.heap.size, 0, none⟩ = some v ∧ (W.alloc (.cells #[v] t)).frozen? ⟨W.heap.size, 0, none⟩ = false := by
  constructor
  · simp
  · simp
theorem old_cell {W : World} {b : Nat} {v : Value} (o : Obj) (h : W.cell? ⟨b, 0, none⟩ = some v) : (W.alloc o).cell? ⟨b, 0, none⟩ = some v :=
  (World.cell?_of_block (w := W) (Below.heap_alloc _ _ _ (World.block_lt_of_cell? W _ h))).trans h

/-- the word of a number; empty of others -/
def nameB (op : Int) : ByteArray := ((wordsP.find? fun p => p.1 == op).map (·.2)).getD { data := #[] }
/-- the number of a word; 0 of others -/
def opB (s : ByteArray) : Int := ((wordsP.find? fun p => p.2.toList == s.toList).map (·.1)).getD 0
theorem find_hit {α : Type} {q : α → Bool} {pre : List α} {x : α} (h : pre.find? q = none) (hx : q x = true) : (pre ++ [x]).find? q = some x := by
  rw [List.find?_append, h]; simp [hx]
theorem find_miss {α : Type} {q : α → Bool} {pre : List α} {x : α} (h : pre.find? q = none) (hx : q x = false) : (pre ++ [x]).find? q = none := by
  rw [List.find?_append, h]; simp [hx]
theorem find_pre {α : Type} {q : α → Bool} {pre l : List α} {x : α} (hp : pre <+: l) (h : pre.find? q = some x) : l.find? q = some x := by
  obtain ⟨t, rfl⟩ := hp
  rw [List.find?_append, h]; rfl

/-- what the reference's list of names holds: an empty one ahead -/
def nthL : List ByteArray := [{ data := #[] }, { data := #[112, 117, 115, 104] }, { data := #[108, 111, 97, 100] }, { data := #[115, 116, 111, 114, 101] }, { data := #[112, 111, 112] }, { data := #[100, 117, 112] }, { data := #[97, 100, 100] }, { data := #[115, 117, 98] }, { data := #[109, 117, 108] }, { data := #[97, 110, 100] }, { data := #[111, 114] }, { data := #[120, 111, 114] }, { data := #[115, 104, 108] }, { data := #[115, 104, 114] }, { data := #[115, 97, 114] }, { data := #[110, 101, 103] }, { data := #[110, 111, 116] }, { data := #[100, 105, 118] }, { data := #[114, 101, 109] }, { data := #[101, 113] }, { data := #[108, 116] }, { data := #[98, 101, 108, 111, 119] }, { data := #[112, 105, 99, 107] }, { data := #[106, 117, 109, 112] }, { data := #[106, 117, 109, 112, 105, 102] }, { data := #[110, 117, 108, 108] }, { data := #[105, 115, 110, 117, 108, 108] }, { data := #[110, 101, 119] }, { data := #[108, 101, 110] }, { data := #[103, 101, 116] }, { data := #[112, 117, 116] }, { data := #[99, 111, 112, 121] }, { data := #[115, 97, 109, 101] }, { data := #[103, 101, 116, 102] }, { data := #[112, 117, 116, 102] }, { data := #[98, 117, 102] }, { data := #[115, 101, 110, 100] }, { data := #[99, 97, 108, 108] }, { data := #[99, 97, 108, 108, 120] }, { data := #[114, 101, 116] }]
def nth (k : Nat) : ByteArray := nthL.getD k { data := #[] }
theorem nth_word : (List.range 39).all (fun k => decide ((nth (k + 1)).data = (wordB k).data) && decide ((nameB ((k : Int) + 1)).data = (wordB k).data)) = true := by decide +kernel
theorem nth_at {k : Nat} (hk : k < 39) : nth (k + 1) = wordB k ∧ nameB ((k : Int) + 1) = wordB k := by
  have h := List.all_eq_true.1 nth_word k (List.mem_range.2 hk)
  simp only [Bool.and_eq_true, decide_eq_true_eq] at h
  exact ⟨ByteArray.ext h.1, ByteArray.ext h.2⟩
theorem words_mem {p : Int × ByteArray} (h : p ∈ wordsP) : 1 ≤ p.1 ∧ p.1 ≤ 39 := by
  unfold wordsP at h
  obtain ⟨k, hk, rfl⟩ := List.mem_map.1 h
  have := List.mem_range.1 hk
  simp only [Int.ofNat_eq_natCast]
  omega
theorem nameB_out {op : Int} (h : op < 1 ∨ 40 ≤ op) : nameB op = { data := #[] } := by
  unfold nameB
  rw [List.find?_eq_none.2 (fun p hp => by have := words_mem hp; simp; omega)]
  rfl
end Go.Proofs.YtdmadfahgkikkaaDoor

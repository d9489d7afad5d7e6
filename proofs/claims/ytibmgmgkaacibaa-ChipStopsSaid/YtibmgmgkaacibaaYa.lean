/- Package mem: a memory plainly, and how one lies in memory; the same for the reference's. -/
import Derived.Test.YtibmgmgkaacibaaHand
import Derived.Test.YtibmgmgkaacibaaBase
import Derived.Deep.OwnRows
import Derived.IntWalk
namespace Go.Proofs.Ytibmgmgkaacibaa
open Go.RowKit Go.ChangeShapes Go.WideShapes Go.Deep
set_option linter.unusedVariables false
set_option linter.unusedSimpArgs false

def setM (M : Nat → Nat) (k v : Nat) : Nat → Nat := fun j => if j = k then v else M j
def wordM (M : Nat → Nat) (k : Nat) : Nat := M k + 256 * M (k + 1) + 65536 * M (k + 2) + 16777216 * M (k + 3)
def halfM (M : Nat → Nat) (k : Nat) : Nat := M k + 256 * M (k + 1)
def setWM (M : Nat → Nat) (k n : Nat) : Nat → Nat := setM (setM (setM (setM M k (n % 256)) (k + 1) (n / 256 % 256)) (k + 2) (n / 65536 % 256)) (k + 3) (n / 16777216 % 256)
def setHM (M : Nat → Nat) (k n : Nat) : Nat → Nat := setM (setM M k (n % 256)) (k + 1) (n / 256 % 256)
def loadM (M : Nat → Nat) (k : Nat) : List Nat → (Nat → Nat)
  | [] => M
  | h :: l => loadM (setHM M k h) (k + 2) l
theorem loadM_snoc (M : Nat → Nat) (k : Nat) (l : List Nat) (h : Nat) : loadM M k (l ++ [h]) = setHM (loadM M k l) (k + 2 * l.length) h := by
  induction l generalizing M k with
  | nil => rfl
  | cons x l ih => simp only [List.cons_append, loadM, ih, List.length_cons]; congr 1; omega
theorem loadM_take (M : Nat → Nat) (k : Nat) (l : List Nat) (i : Nat) (hi : i < l.length) : loadM M k (l.take (i + 1)) = setHM (loadM M k (l.take i)) (k + 2 * i) (l.getD i 0) := by
  rw [List.take_succ_eq_append_getElem hi, loadM_snoc]
  simp [Nat.min_eq_left (Nat.le_of_lt hi), List.getD, List.getElem?_eq_getElem hi]
def MOk (M : Nat → Nat) : Prop := ∀ j, M j < 256
theorem MOk.set {M : Nat → Nat} (h : MOk M) (k : Nat) {v : Nat} (hv : v < 256) : MOk (setM M k v) := by
  intro j
  unfold setM
  split
  · exact hv
  · exact h j
theorem MOk.setW {M : Nat → Nat} (h : MOk M) (k n : Nat) : MOk (setWM M k n) := ((((h.set k (by omega)).set _ (by omega)).set _ (by omega)).set _ (by omega))
theorem MOk.setH {M : Nat → Nat} (h : MOk M) (k n : Nat) : MOk (setHM M k n) := (h.set k (by omega)).set _ (by omega)
theorem MOk.load {M : Nat → Nat} (h : MOk M) (k : Nat) (l : List Nat) : MOk (loadM M k l) := by
  induction l generalizing M k with
  | nil => exact h
  | cons x l ih => exact ih (h.setH k x) (k + 2)
theorem wordM_lt {M : Nat → Nat} (h : MOk M) (k : Nat) : wordM M k < 4294967296 := by
  have := h k; have := h (k + 1); have := h (k + 2); have := h (k + 3)
  unfold wordM; omega
theorem halfM_lt {M : Nat → Nat} (h : MOk M) (k : Nat) : halfM M k < 65536 := by
  have := h k; have := h (k + 1)
  unfold halfM; omega

/-- a memory in memory: a box that holds one slice, and its row -/
structure Mm (t : TypeId) (w : World) (b g : Nat) (M : Nat → Nat) : Prop where
  box : w.heap[b]? = some (.cells #[.slice (some ⟨g, 0, none⟩) 262144 262144] t (0, 0))
  row : ∃ C, w.heap[g]? = some (.cells C 5 (0, 0)) ∧ ∀ j, j < 262144 → C[j]? = some (.int .u8 ((M j : Nat) : Int))
  ne : b ≠ g
  ok : MOk M

section
variable {t : TypeId} {w w' : World} {b g : Nat} {M : Nat → Nat}
theorem Mm.bx (h : Mm t w b g M) : w.cell? ⟨b, 0, none⟩ = some (.slice (some ⟨g, 0, none⟩) 262144 262144) := by
  have := h.box
  simp [World.cell?, this]
theorem Mm.cell (h : Mm t w b g M) (j : Nat) (hj : j < 262144) : w.cell? ⟨g, j, none⟩ = some (.int .u8 ((M j : Nat) : Int)) := by
  obtain ⟨C, hC, hc⟩ := h.row
  have := hc j hj
  simp [World.cell?, hC, this]
theorem Mm.fz (h : Mm t w b g M) (j : Nat) : w.frozen? ⟨g, j, none⟩ = false := by
  obtain ⟨C, hC, hc⟩ := h.row
  simp [World.frozen?, hC]
theorem Mm.lt (h : Mm t w b g M) : b < w.heap.size ∧ g < w.heap.size := by
  obtain ⟨C, hC, hc⟩ := h.row
  exact ⟨(Array.getElem?_eq_some_iff.1 h.box).1, (Array.getElem?_eq_some_iff.1 hC).1⟩
theorem Mm.upd {S : Nat → Prop} (h : Mm t w b g M) (hu : Upd S w w') (hb : ¬ S b) (hg : ¬ S g) : Mm t w' b g M := by
  obtain ⟨C, hC, hc⟩ := h.row
  exact ⟨(hu.block b h.lt.1 hb).trans h.box, ⟨C, (hu.block g h.lt.2 hg).trans hC, hc⟩, h.ne, h.ok⟩
theorem Mm.set (h : Mm t w b g M) (j : Nat) (hj : j < 262144) {v : Nat} (hv : v < 256) : Mm t (w.setCell ⟨g, j, none⟩ (.int .u8 ((v : Nat) : Int))) b g (setM M j v) := by
  obtain ⟨C, hC, hc⟩ := h.row
  refine ⟨?_, ⟨C.setIfInBounds j (.int .u8 ((v : Nat) : Int)), ?_, fun i hi => ?_⟩, h.ne, h.ok.set j hv⟩
  · exact (Below.heap_setCell _ _ _ _ (fun e => h.ne (by simpa using e))).trans h.box
  · simp [World.setCell, Array.getElem?_modify, hC]
  · rw [Array.getElem?_setIfInBounds]
    have hs := (Array.getElem?_eq_some_iff.1 (hc i hi)).1
    unfold setM
    by_cases e : j = i
    · subst e
      simp [hs]
    · rw [if_neg e, if_neg (fun e2 => e e2.symm)]
      exact hc i hi
theorem Mm.setU (w : World) (b g j : Nat) (v : Value) : Upd (fun k => k = g) w (w.setCell ⟨g, j, none⟩ v) := Upd.setCell (S := fun k => k = g) w (.inl rfl) v
end

/-- zeros, not to be looked into -/
def zeroC (n : Nat) : Array Value := madeCells #[.int .u8 0] n
theorem zeroC_at (n j : Nat) (h : j < n) : (zeroC n)[j]? = some (.int .u8 0) := by
  unfold zeroC madeCells
  simp [h, Nat.mod_one]
theorem info8 : (Try.prog.info? 5).map (fun i => (i.zero, i.size, i.bytes)) = some (some (.int .u8 0), 1, 1) := by kernel_rfl
theorem make_mem (w : World) (n : Nat) (hn : n ≤ 281474976710656) : (Instr.makeSlice 70 (.int .i64 (n : Int)) (.int .i64 (n : Int))).run Try.prog w = .ok (.slice (some ⟨w.heap.size, 0, none⟩) n n) (w.alloc (.cells (zeroC n) 5)) :=
  run_make_row' 70 5 (.int .u8 0) 1 Try.underlying70 info8 rfl .i64 .i64 n (by omega) (by omega) w
theorem make_262144 (w : World) : (Instr.makeSlice 70 (.int .i64 262144) (.int .i64 262144)).run Try.prog w = .ok (.slice (some ⟨w.heap.size, 0, none⟩) 262144 262144) (w.alloc (.cells (zeroC 262144) 5)) :=
  make_mem w 262144 (by omega)
theorem mm_new (t : TypeId) (w : World) : Mm t ((w.alloc (.cells (zeroC 262144) 5)).alloc (.cells #[.slice (some ⟨w.heap.size, 0, none⟩) 262144 262144] t)) (w.heap.size + 1) w.heap.size (fun _ => 0) := by
  refine ⟨?_, ⟨zeroC 262144, ?_, fun j hj => zeroC_at _ j hj⟩, by omega, fun j => by omega⟩
  · show (Array.push (Array.push w.heap _) _)[w.heap.size + 1]? = _
    rw [Array.getElem?_push]
    simp
  · show (Array.push (Array.push w.heap _) _)[w.heap.size]? = _
    rw [Array.getElem?_push, Array.getElem?_push]
    simp

/-- does it fit? -/
def mhasP (k n e : Int) : Bool := decide (0 ≤ k) && decide (n ≤ e - k)
def okBy (k : Int) : Bool := decide (0 ≤ k ∧ k < 262144)
def okWd (k : Int) : Bool := decide (0 ≤ k ∧ k < 262144 ∧ k % 4 = 0)
def okHf (k : Int) : Bool := decide (0 ≤ k ∧ k < 131072 ∧ k % 2 = 0)
def okSb (k : Int) : Bool := decide (131072 ≤ k ∧ k < 262144)
def okSw (k : Int) : Bool := decide (131072 ≤ k ∧ k < 262144 ∧ k % 4 = 0)
def okLd (k : Int) (n : Nat) : Bool := decide (0 ≤ k ∧ k % 2 = 0 ∧ k + 2 * (n : Int) ≤ 131072)
def byP (M : Nat → Nat) (k : Int) : Int := if okBy k then ((M k.toNat : Nat) : Int) else 0
def wdP (M : Nat → Nat) (k : Int) : Int := if okWd k then ((wordM M k.toNat : Nat) : Int) else 0
def hfP (M : Nat → Nat) (k : Int) : Int := if okHf k then ((halfM M k.toNat : Nat) : Int) else 0
def sbM (M : Nat → Nat) (k : Int) (v : Nat) : Nat → Nat := if okSb k then setM M k.toNat v else M
def swM (M : Nat → Nat) (k : Int) (n : Nat) : Nat → Nat := if okSw k then setWM M k.toNat n else M
def ldM (M : Nat → Nat) (k : Int) (l : List Nat) : Nat → Nat := if okLd k l.length then loadM M k.toNat l else M
theorem MOk.sb {M : Nat → Nat} (h : MOk M) (k : Int) {v : Nat} (hv : v < 256) : MOk (sbM M k v) := by unfold sbM; split <;> first | exact h | exact h.set _ hv
theorem MOk.sw {M : Nat → Nat} (h : MOk M) (k : Int) (n : Nat) : MOk (swM M k n) := by unfold swM; split <;> first | exact h.setW _ _ | exact h
theorem MOk.ld {M : Nat → Nat} (h : MOk M) (k : Int) (l : List Nat) : MOk (ldM M k l) := by unfold ldM; split <;> first | exact h | exact h.load _ _
/-- four bytes as a word, as the program spells it, and as the reference does -/
theorem or_bytes (a b c d : Nat) (ha : a < 256) (hb : b < 256) (hc : c < 256) (hd : d < 256) : ((a ||| b * 256) ||| c * 65536) ||| d * 16777216 = a + 256 * b + 65536 * c + 16777216 * d := by
  have h1 : a ||| b * 256 = a + 256 * b := by
    rw [Nat.or_comm, Nat.mul_comm b, show (256 : Nat) = 2 ^ 8 from rfl, ← Nat.two_pow_add_eq_or_of_lt (by omega : a < 2 ^ 8)]; omega
  have h2 : (a + 256 * b) ||| c * 65536 = a + 256 * b + 65536 * c := by
    rw [Nat.or_comm, Nat.mul_comm c, show (65536 : Nat) = 2 ^ 16 from rfl, ← Nat.two_pow_add_eq_or_of_lt (by omega : a + 256 * b < 2 ^ 16)]; omega
  have h3 : (a + 256 * b + 65536 * c) ||| d * 16777216 = a + 256 * b + 65536 * c + 16777216 * d := by
    rw [Nat.or_comm, Nat.mul_comm d, show (16777216 : Nat) = 2 ^ 24 from rfl, ← Nat.two_pow_add_eq_or_of_lt (by omega : a + 256 * b + 65536 * c < 2 ^ 24)]; omega
  rw [h1, h2, h3]
theorem or_half (a b : Nat) (ha : a < 256) (hb : b < 256) : a ||| b * 256 = a + 256 * b := by
  rw [Nat.or_comm, Nat.mul_comm b, show (256 : Nat) = 2 ^ 8 from rfl, ← Nat.two_pow_add_eq_or_of_lt (by omega : a < 2 ^ 8)]; omega
def rng64 (k : Int) : Prop := -9223372036854775808 ≤ k ∧ k ≤ 9223372036854775807
end Go.Proofs.Ytibmgmgkaacibaa

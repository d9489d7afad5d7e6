/- What the Writers of octet and of the reference do to the world: a contract for each call. -/
import Derived.Test.YtmbdfmgidnjgeaaGreatDoorBytes
import Derived.WalkLawsBesides
namespace Go.Proofs.YtmbdfmgidnjgeaaGreatDoor
open Go.RowKit
set_option linter.unusedVariables false

/-- A Writer: one cell, that holds the slice of what was laid. -/
structure Wr (t : TypeId) (w : World) (b : Nat) (v : Value) (xs : List Int) : Prop where
  blk : w.heap[b]? = some (.cells #[v] t (0, 0))
  own : w.ownsRow 0 5 1 v xs.length (bv xs)
  byte : ∀ y ∈ xs, 0 ≤ y ∧ y ≤ 255

theorem newWriter (w : World) : Calls Tryz.prog 65 #[] w fun e w' => e = .returned (.pointer (some ⟨w.heap.size, 0, none⟩)) ∧
    Wr 118 w' w.heap.size (.slice none 0 0) [] ∧ Upd (fun _ => False) w w' := by
  go_enter Tryz.func65, Tryz.ntmps65
  go_wp2
  go_ret
  refine ⟨rfl, ⟨?_, World.ownsRow_nil _ _ _ _, by simp⟩, Upd.alloc _ _ _⟩
  show (w.heap.push _)[w.heap.size]? = _
  simp
section
variable {t : TypeId} (ht : t ≠ 5) {w : World} {b : Nat} {v : Value} {xs : List Int}
theorem Wr.cell (h : Wr t w b v xs) : w.cell? ⟨b, 0, none⟩ = some v := by have := h.blk; simp [World.cell?, this]
theorem Wr.free (h : Wr t w b v xs) : w.frozen? ⟨b, 0, none⟩ = false := by have := h.blk; simp [World.frozen?, this]
theorem Wr.lt (h : Wr t w b v xs) : b < w.heap.size := (Array.getElem?_eq_some_iff.1 h.blk).1
include ht in
theorem Wr.ne (h : Wr t w b v xs) : v.ownBlock ≠ some b := by
  intro e
  rcases h.own.2 with ⟨rfl, _⟩ | ⟨g, cap, cur, rfl, _, hg, _⟩
  · simp [Value.ownBlock] at e
  · simp [Value.ownBlock] at e
    subst e
    have := h.blk
    rw [hg] at this
    simp at this
    exact ht this.2.symm
end
def fp (b : Nat) (v : Value) : Nat → Prop := fun k => k = b ∨ v.ownBlock = some k
/-- behind a call that has laid: now the Writer has zs -/
def Laid (t : TypeId) (w : World) (b : Nat) (v : Value) (zs : List Int) (w' : World) : Prop :=
  ∃ v', Wr t w' b v' zs ∧ Upd (fp b v) w w' ∧ ∀ k, v'.ownBlock = some k → v.ownBlock = some k ∨ w.heap.size ≤ k

theorem Wr.upd {t : TypeId} {w w' : World} {b : Nat} {v : Value} {xs : List Int} {S : Nat → Prop} (h : Wr t w b v xs) (hu : Upd S w w') (hS : ∀ k, fp b v k → ¬ S k) : Wr t w' b v xs :=
  ⟨by rw [hu.block b h.lt (hS b (.inl rfl))]; exact h.blk, ownsRow_upd h.own hu (fun k hk => hS k (.inr hk)), h.byte⟩
theorem Wr.vw {t : TypeId} {w : World} {b : Nat} {v : Value} {xs : List Int} (h : Wr t w b v xs) : Vw w v xs := vw_of_row h.own h.byte

/-- the store behind an append -/
theorem laid {t : TypeId} (ht : t ≠ 5) {w wa w1 : World} {b : Nat} {v v' : Value} {xs zs : List Int} {n : Nat} (h : Wr t w b v xs) (ha : Upd (fun _ => False) w wa) (hg : wa.grownBy w1 v.ownBlock) (ho : w1.ownsRow 0 5 1 v' n (bv zs)) (hn : n = zs.length) (hf : Fresh wa v v') (hz : ∀ y ∈ zs, 0 ≤ y ∧ y ≤ 255) :
    Laid t w b v zs (w1.setCell ⟨b, 0, none⟩ v') := by
  subst hn
  have hlt := h.lt
  have hs := ha.size
  have hblk : w1.heap[b]? = some (.cells #[v] t (0, 0)) := by
    rw [hg.block b (by omega) (fun e => h.ne ht e.symm), ha.block b hlt (fun e => e)]
    exact h.blk
  have hu : Upd (fp b v) w1 (w1.setCell ⟨b, 0, none⟩ v') := Upd.setCell _ (.inl (.inl rfl)) _
  refine ⟨v', ⟨?_, ?_, hz⟩, ?_, fun k hk => ?_⟩
  · simp [World.setCell, Array.getElem?_modify, hblk]
  · refine ownsRow_upd ho (S := fun k => k = b) (Upd.setCell (S := fun k => k = b) w1 (p := ⟨b, 0, none⟩) (.inl rfl) v') (fun k hk e => ?_)
    subst e
    rcases ho.2 with ⟨rfl, _⟩ | ⟨g, cap, cur, rfl, _, hgg, _⟩
    · simp [Value.ownBlock] at hk
    · simp [Value.ownBlock] at hk
      subst hk
      rw [hblk] at hgg
      simp at hgg
      exact ht hgg.2
  · refine (ha.mono (fun _ h _ => h.elim)).trans (T := fp b v) ((Upd.grown hg (fun k hk => .inl (.inr hk))).trans hu (fun i hi _ => hi)) (fun i hi _ => hi)
  · rcases hf k hk with h | h
    · exact .inl h
    · exact .inr (by omega)

theorem Laid.trans {t : TypeId} {w w1 w2 : World} {b : Nat} {v : Value} {ys zs : List Int} (h : Laid t w b v ys w1) (k : ∀ v', Wr t w1 b v' ys → Laid t w1 b v' zs w2) : Laid t w b v zs w2 := by
  obtain ⟨v1, h1, h2, h3⟩ := h
  obtain ⟨v2, k1, k2, k3⟩ := k v1 h1
  refine ⟨v2, k1, h2.trans k2 (fun i hi hlt => ?_), fun i hi => ?_⟩
  · rcases hi with rfl | hi
    · exact .inl rfl
    · rcases h3 i hi with h | h
      · exact .inr h
      · omega
  · have := h2.size
    rcases k3 i hi with h | h
    · exact h3 i h
    · exact .inr (by omega)
theorem byte_app {xs ys : List Int} (hx : ∀ y ∈ xs, 0 ≤ y ∧ y ≤ 255) (hy : ∀ y ∈ ys, 0 ≤ y ∧ y ≤ 255) : ∀ y ∈ xs ++ ys, 0 ≤ y ∧ y ≤ 255 := by
  intro y h
  rcases List.mem_append.1 h with h | h
  · exact hx y h
  · exact hy y h

set_option maxHeartbeats 400000 in
theorem wU8 (w : World) (b : Nat) (v : Value) (xs : List Int) (n : Int) (h : Wr 118 w b v xs) (hn : xs.length ≤ 1099511627776) :
    Calls Tryz.prog 69 #[.pointer (some ⟨b, 0, none⟩), .int .i64 n] w fun e w' => e = .returned (.tuple #[]) ∧ Laid 118 w b v (xs ++ [n % 256]) w' := by
  obtain ⟨i0, hi, hz0, hz1, hz2⟩ := info_parts info5
  have hc : w.cell? ⟨b, 0, none⟩ = some v := h.cell
  have hlt := h.lt
  go_enter Tryz.func69, Tryz.ntmps69
  go_wp2_with (at_builtin; go_loud (refine wpList_append_mine _ rfl _ _ 23 rfl 0 5 i0 (.int .u8 0) 1 1 Tryz.underlying23 hi hz0 hz1 hz2 rfl (by decide) v xs.length (bv xs) rfl (h.own.alloc _) 1 [.int .u8 (n % 256)] (Src.lit w 5 #[.int .u8 (n % 256)] (by simp [Value.oneCell']) 1 _ rfl) (by unfold maxLen; omega) (by omega) (Nat.zero_le _) ?_))
  intro v' w1 ho hg hf
  have hu := Upd.row (Upd.alloc _ w _) hg
  have hc1 := (hu.cell (p := ⟨b, 0, none⟩) hlt (h.ne (by decide))).trans hc
  have hf1 := (hu.frozen (p := ⟨b, 0, none⟩) hlt (h.ne (by decide))).trans h.free
  have ho' : w1.ownsRow 0 5 1 v' (xs.length + 1) (bv (xs ++ [n % 256])) := by rw [bv_append]; exact ho
  have HL := Lib.hid (laid (by decide) h (Upd.alloc _ _ _) hg ho' (by simp) hf (byte_app h.byte (by simp; omega)))
  obtain ⟨ao, co, rfl⟩ := ownsRow_slice ho
  clear ho ho' hg hf hu
  go_wp2
  go_end0
  exact ⟨rfl, HL.out⟩

set_option maxHeartbeats 400000 in
theorem wU16 (w : World) (b : Nat) (v : Value) (xs : List Int) (n : Int) (h : Wr 118 w b v xs) (hn : xs.length ≤ 1099511627776) :
    Calls Tryz.prog 102 #[.pointer (some ⟨b, 0, none⟩), .int .i64 n] w fun e w' => e = .returned (.tuple #[]) ∧ Laid 118 w b v (xs ++ [n / 256 % 256, n % 256]) w' := by
  obtain ⟨i0, hi, hz0, hz1, hz2⟩ := info_parts info5
  have hc : w.cell? ⟨b, 0, none⟩ = some v := h.cell
  have hlt := h.lt
  go_enter Tryz.func102, Tryz.ntmps102
  go_wp2_with (at_builtin; go_loud (refine wpList_append_mine _ rfl _ _ 23 rfl 0 5 i0 (.int .u8 0) 1 1 Tryz.underlying23 hi hz0 hz1 hz2 rfl (by decide) v xs.length (bv xs) rfl (h.own.alloc _) 2 [.int .u8 (n / 256 % 256), .int .u8 (n % 256)] (Src.lit w 5 #[.int .u8 (n / 256 % 256), .int .u8 (n % 256)] (by simp [Value.oneCell']) 2 _ rfl) (by unfold maxLen; omega) (by omega) (Nat.zero_le _) ?_))
  intro v' w1 ho hg hf
  have hu := Upd.row (Upd.alloc _ w _) hg
  have hc1 := (hu.cell (p := ⟨b, 0, none⟩) hlt (h.ne (by decide))).trans hc
  have hf1 := (hu.frozen (p := ⟨b, 0, none⟩) hlt (h.ne (by decide))).trans h.free
  have ho' : w1.ownsRow 0 5 1 v' (xs.length + 2) (bv (xs ++ [n / 256 % 256, n % 256])) := by rw [bv_append]; exact ho
  have HL := Lib.hid (laid (by decide) h (Upd.alloc _ _ _) hg ho' (by simp) hf (byte_app h.byte (by simp; omega)))
  obtain ⟨ao, co, rfl⟩ := ownsRow_slice ho
  clear ho ho' hg hf hu
  go_wp2
  go_end0
  exact ⟨rfl, HL.out⟩

set_option maxHeartbeats 400000 in
theorem wS32 (w : World) (b : Nat) (v : Value) (xs : List Int) (n : Int) (h : Wr 118 w b v xs) (hn : xs.length ≤ 1099511627776) :
    Calls Tryz.prog 101 #[.pointer (some ⟨b, 0, none⟩), .int .i64 n] w fun e w' => e = .returned (.tuple #[]) ∧ Laid 118 w b v (xs ++ [n / 16777216 % 256, n / 65536 % 256, n / 256 % 256, n % 256]) w' := by
  obtain ⟨i0, hi, hz0, hz1, hz2⟩ := info_parts info5
  have hc : w.cell? ⟨b, 0, none⟩ = some v := h.cell
  have hlt := h.lt
  go_enter Tryz.func101, Tryz.ntmps101
  go_wp2_with (at_builtin; go_loud (refine wpList_append_mine _ rfl _ _ 23 rfl 0 5 i0 (.int .u8 0) 1 1 Tryz.underlying23 hi hz0 hz1 hz2 rfl (by decide) v xs.length (bv xs) rfl (h.own.alloc _) 4 [.int .u8 (n / 16777216 % 256), .int .u8 (n / 65536 % 256), .int .u8 (n / 256 % 256), .int .u8 (n % 256)] (Src.lit w 5 #[.int .u8 (n / 16777216 % 256), .int .u8 (n / 65536 % 256), .int .u8 (n / 256 % 256), .int .u8 (n % 256)] (by simp [Value.oneCell']) 4 _ rfl) (by unfold maxLen; omega) (by omega) (Nat.zero_le _) ?_))
  intro v' w1 ho hg hf
  have hu := Upd.row (Upd.alloc _ w _) hg
  have hc1 := (hu.cell (p := ⟨b, 0, none⟩) hlt (h.ne (by decide))).trans hc
  have hf1 := (hu.frozen (p := ⟨b, 0, none⟩) hlt (h.ne (by decide))).trans h.free
  have ho' : w1.ownsRow 0 5 1 v' (xs.length + 4) (bv (xs ++ [n / 16777216 % 256, n / 65536 % 256, n / 256 % 256, n % 256])) := by rw [bv_append]; exact ho
  have HL := Lib.hid (laid (by decide) h (Upd.alloc _ _ _) hg ho' (by simp) hf (byte_app h.byte (by simp; omega)))
  obtain ⟨ao, co, rfl⟩ := ownsRow_slice ho
  clear ho ho' hg hf hu
  go_wp2
  go_end0
  exact ⟨rfl, HL.out⟩

set_option maxHeartbeats 400000 in
theorem raw (w : World) (b : Nat) (v x : Value) (xs ys : List Int) (h : Wr 118 w b v xs) (hy : Vw w x ys) (hn : xs.length + ys.length ≤ 140737488355328) :
    Calls Tryz.prog 66 #[.pointer (some ⟨b, 0, none⟩), x] w fun e w' => e = .returned (.tuple #[]) ∧ Laid 118 w b v (xs ++ ys) w' := by
  obtain ⟨i0, hi, hz0, hz1, hz2⟩ := info_parts info5
  have hc : w.cell? ⟨b, 0, none⟩ = some v := h.cell
  have hlt := h.lt
  have hsrc := hy.src
  go_enter Tryz.func66, Tryz.ntmps66
  go_wp2_with (at_builtin; go_loud (refine wpList_append_mine _ rfl _ _ 23 rfl 0 5 i0 (.int .u8 0) 1 1 Tryz.underlying23 hi hz0 hz1 hz2 rfl (by decide) v xs.length (bv xs) rfl h.own ys.length (bv ys) hsrc (by unfold maxLen; omega) (by omega) (Nat.zero_le _) ?_))
  intro v' w1 ho hg hf
  have hu := Upd.row (Upd.refl _ w) hg
  have hc1 := (hu.cell (p := ⟨b, 0, none⟩) hlt (h.ne (by decide))).trans hc
  have hf1 := (hu.frozen (p := ⟨b, 0, none⟩) hlt (h.ne (by decide))).trans h.free
  have ho' : w1.ownsRow 0 5 1 v' (xs.length + ys.length) (bv (xs ++ ys)) := by rw [bv_append]; exact ho
  have HL := Lib.hid (laid (by decide) h (Upd.refl _ _) hg ho' (by simp) hf (byte_app h.byte hy.1))
  obtain ⟨ao, co, rfl⟩ := ownsRow_slice ho
  clear ho ho' hg hf hu hsrc
  go_wp2
  go_end0
  exact ⟨rfl, HL.out⟩

set_option maxHeartbeats 400000 in
theorem rraw (w : World) (b : Nat) (v x : Value) (xs ys : List Int) (h : Wr 43 w b v xs) (hy : Vw w x ys) (hn : xs.length + ys.length ≤ 140737488355328) :
    Calls Tryz.prog 13 #[.pointer (some ⟨b, 0, none⟩), x] w fun e w' => e = .returned (.tuple #[]) ∧ Laid 43 w b v (xs ++ ys) w' := by
  obtain ⟨i0, hi, hz0, hz1, hz2⟩ := info_parts info5
  have hc : w.cell? ⟨b, 0, none⟩ = some v := h.cell
  have hlt := h.lt
  have hsrc := hy.src
  go_enter Tryz.func13, Tryz.ntmps13
  go_wp2_with (at_builtin; go_loud (refine wpList_append_mine _ rfl _ _ 23 rfl 0 5 i0 (.int .u8 0) 1 1 Tryz.underlying23 hi hz0 hz1 hz2 rfl (by decide) v xs.length (bv xs) rfl h.own ys.length (bv ys) hsrc (by unfold maxLen; omega) (by omega) (Nat.zero_le _) ?_))
  intro v' w1 ho hg hf
  have hu := Upd.row (Upd.refl _ w) hg
  have hc1 := (hu.cell (p := ⟨b, 0, none⟩) hlt (h.ne (by decide))).trans hc
  have hf1 := (hu.frozen (p := ⟨b, 0, none⟩) hlt (h.ne (by decide))).trans h.free
  have ho' : w1.ownsRow 0 5 1 v' (xs.length + ys.length) (bv (xs ++ ys)) := by rw [bv_append]; exact ho
  have HL := Lib.hid (laid (by decide) h (Upd.refl _ _) hg ho' (by simp) hf (byte_app h.byte hy.1))
  obtain ⟨ao, co, rfl⟩ := ownsRow_slice ho
  clear ho ho' hg hf hu hsrc
  go_wp2
  go_end0
  exact ⟨rfl, HL.out⟩

theorem short_no (w : World) (b : Nat) (x : Value) (ys : List Int) (hy : Vw w x ys) (hn : 255 < ys.length) :
    Calls Tryz.prog 67 #[.pointer (some ⟨b, 0, none⟩), x] w fun e w' => e = .returned (.bool false) ∧ w = w' := by
  obtain ⟨a, c, rfl, h1, h2⟩ := hy.slice
  unfold maxLen at h2
  have hlt : (255 : Int) < (ys.length : Int) := by omega
  go_enter Tryz.func67, Tryz.ntmps67
  go_wp2
  go_ret
  exact ⟨rfl, rfl⟩
set_option maxHeartbeats 400000 in
theorem short (w : World) (b : Nat) (v x : Value) (xs ys : List Int) (h : Wr 118 w b v xs) (hy : Vw w x ys) (hx : ∀ w', Upd (fp b v) w w' → Vw w' x ys) (hn : ys.length ≤ 255) (hl : xs.length ≤ 1099511627776) :
    Calls Tryz.prog 67 #[.pointer (some ⟨b, 0, none⟩), x] w fun e w' => e = .returned (.bool true) ∧ Laid 118 w b v (xs ++ ((ys.length : Int) :: ys)) w' := by
  obtain ⟨a, c, rfl, h1, h2⟩ := hy.slice
  unfold maxLen at h2
  have hlt : ¬ (255 : Int) < (ys.length : Int) := by omega
  go_enter Tryz.func67, Tryz.ntmps67
  go_wp2_with fail
  refine (wU8 _ b v xs _ h hl).mono ?_
  rintro e w1 ⟨rfl, hL⟩
  have hmod : ((ys.length : Int) % 256) = ys.length := by omega
  rw [hmod] at hL
  have HL := Lib.hid hL
  clear hL hmod
  go_wp2_with fail
  obtain ⟨v1, hw1, hu1, hf1⟩ := HL.out
  have hy1 := hx _ hu1
  refine (raw _ b v1 _ _ ys hw1 hy1 (by simp; omega)).mono ?_
  rintro e w2 ⟨rfl, hL2⟩
  have HL2 := Lib.hid hL2
  clear hL2
  go_wp2_with fail
  go_ret
  refine ⟨rfl, HL.out.trans fun v' hv' => ?_⟩
  have : v' = v1 := by have e1 := hv'.blk; rw [hw1.blk] at e1; simpa using e1.symm
  subst this
  simpa using HL2.out

end Go.Proofs.YtmbdfmgidnjgeaaGreatDoor

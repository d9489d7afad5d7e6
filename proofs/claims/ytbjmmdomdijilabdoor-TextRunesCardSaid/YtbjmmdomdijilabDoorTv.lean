/- Package text: the library's contracts that Print asks for, at this seat. -/
import Derived.Test.YtbjmmdomdijilabDoorTu
import Derived.Test.YtbjmmdomdijilabDoorSh
import Derived.Shelf.Strings.OnBuilder
import Derived.Shelf.Strings.BuilderK
import Derived.Shelf.Strconv.Itoa3
namespace Go.Proofs.YtbjmmdomdijilabDoor
open Go.RowKit Go.Shelf Go.Lib
set_option linter.unusedVariables false
set_option linter.unusedSimpArgs false

abbrev BT : TypeId := 51
abbrev BY : TypeId := 5
abbrev STR : TypeId := 9
theorem xJ : Builder.Extra Tryd.prog Tryd.laysJoin_ren where
  sizeBuilder := by kernel_rfl
  liesBuilder := by kernel_rfl
  t5 := Tryd.underlying5
  a5 := Tryd.isAgg5
  z5 := Tryd.sizeOf5
  v5 := Tryd.zeroValue5
  infoByte := by kernel_rfl
  cellsByte := by kernel_rfl
  sizeByte := by kernel_rfl
  neB5 := by decide
theorem lWS : Lays.n166 Tryd.prog Tryd.laysJoin_ren := { Tryd.laysJoin with }
def wbRen : Ren := ⟨fun | 167 => 36 | n => Tryd.laysJoin_ren.f n, Tryd.laysJoin_ren.t, Tryd.laysJoin_ren.g⟩
theorem lWB : Lays.n167 Tryd.prog wbRen := { Tryd.laysJoin with
  f167 := Tryd.func36.trans (congrArg some (by kernel_rfl))
  t5 := Tryd.underlying5
  a5 := Tryd.isAgg5
  z5 := Tryd.sizeOf5
  v5 := Tryd.zeroValue5 }
theorem xWB : Builder.Extra Tryd.prog wbRen where
  sizeBuilder := by kernel_rfl
  liesBuilder := by kernel_rfl
  t5 := Tryd.underlying5
  a5 := Tryd.isAgg5
  z5 := Tryd.sizeOf5
  v5 := Tryd.zeroValue5
  infoByte := by kernel_rfl
  cellsByte := by kernel_rfl
  sizeByte := by kernel_rfl
  neB5 := by decide
/-- the builder in block b, made from B on, holds the bytes s -/
def Bd (B b : Nat) (w : World) (s : By) : Prop := IsBuilderF BT BY B b (byteCells s) w
/-- only the builder has turned, rows of bytes from B on, and what is new -/
def Kb (B b : Nat) (w w' : World) : Prop := Below B w w' ∧ OthersKept BY (some b) w w'
theorem Kb.trans {B b : Nat} {x y z : World} (h : Kb B b x y) (k : Kb B b y z) : Kb B b x z := ⟨h.1.trans k.1, h.2.trans k.2⟩
theorem Kb.refl (B b : Nat) (w : World) : Kb B b w w := ⟨Below.refl _ _, OthersKept.refl _ _ _⟩
theorem Kb.of {B b : Nat} {w w' : World} (hu : Upd (fun _ => False) w w') (hB : B ≤ w.heap.size) : Kb B b w w' :=
  ⟨hu.below hB (fun k h => h.elim), fun k o hk _ _ => (hu.block k (Array.getElem?_eq_some_iff.1 hk).1 (fun h => h)).trans hk⟩
theorem Bd.kept {B b : Nat} {w w' : World} {s : By} (h : Bd B b w s) (hu : Upd (fun _ => False) w w') : Bd B b w' s := by
  have hk : ∀ p, BuilderAtF BT BY B b p (byteCells s) w → BuilderAtF BT BY B b p (byteCells s) w' := by
    rintro p ⟨hB, v, hb, hown, hne⟩
    refine ⟨hB, v, (hu.block b (Array.getElem?_eq_some_iff.1 hb).1 (fun h => h)).trans hb, ?_, hne⟩
    exact hown.kept (row := none) ⟨hu.os, hu.tape, hu.output, hu.size, fun k hk _ => hu.block k hk (fun h => h)⟩ (by
      by_cases ho : v.ownBlock = none
      · exact Or.inl ho
      · exact Or.inr ho)
  exact h.elim (fun x => .inl (hk _ x)) (fun x => .inr (hk _ x))
theorem tWS {B b : Nat} {w : World} {s : By} (h : Bd B b w s) (t : By) (hl : s.length + t.length ≤ 140737488355328) (hB : B ≤ w.heap.size) : Calls Tryd.prog 34 #[.pointer (some ⟨b, 0, none⟩), .string (bs t)] w fun e w' => e = .returned (.tuple #[.int .i64 t.length, .nilIface]) ∧ Bd B b w' (s ++ t) ∧ Kb B b w w' := by
  refine (Any.Builder_WriteString_k lWS xJ B b (byteCells s) (bs t) w h (by rw [byteCells_length, bs_size]; exact hl) hB).mono ?_
  rintro e w' ⟨rfl, h1, h2, h3⟩
  refine ⟨by rw [bs_size], .inr ?_, h2, h3⟩
  rw [byteCells_append]
  exact h1
theorem tWB {B b : Nat} {w : World} {s : By} (h : Bd B b w s) (hl : s.length + 1 ≤ 140737488355328) (hB : B ≤ w.heap.size) : Calls Tryd.prog 36 #[.pointer (some ⟨b, 0, none⟩), .int .u8 10] w fun e w' => e = .returned .nilIface ∧ Bd B b w' (s ++ [10]) ∧ Kb B b w w' := by
  refine (Any.Builder_WriteByte_k lWB xWB B b (byteCells s) 10 w h (by rw [byteCells_length]; exact hl) hB).mono ?_
  rintro e w' ⟨rfl, h1, h2, h3⟩
  refine ⟨rfl, .inr ?_, h2, h3⟩
  rw [byteCells_append]
  exact h1
/-- words in one line, or kinds -/
def joinB (xs : List By) : By := Lib.join xs [32]
/-- a slice value that reads as strings -/
def Strs (w : World) (v : Value) (xs : List By) : Prop := Sl w v 1 xs.length (fun i _ => .string (bs (xs.getD i []))) ∧ xs.length ≤ 140737488355328
theorem map_bs (xs : List By) : (xs.map bs).map (fun x => x.data.toList) = xs := by
  rw [List.map_map]
  exact (List.map_congr_left (fun x _ => rfl)).trans (List.map_id xs)
theorem tJoin {w : World} {v : Value} {xs : List By} (h : Strs w v xs) (hl : (joinB xs).length ≤ 140737488355328) : Calls Tryd.prog 35 #[v, .string { data := #[32] }] w fun e w' => e = .returned (.string (bs (joinB xs))) ∧ Upd (fun _ => False) w w' := by
  obtain ⟨⟨a, c, rfl, hc, -, hs⟩, hn⟩ := h
  rcases hs with h0 | ⟨g, off, rfl, hs⟩
  · obtain rfl : xs = [] := List.length_eq_zero_iff.1 h0
    refine (Any.strings_Join_none Tryd.laysJoin xJ a c { data := #[32] } w).mono ?_
    rintro e w' ⟨rfl, rfl⟩
    exact ⟨rfl, Upd.refl _ _⟩
  · by_cases h0 : xs = []
    · subst h0
      refine (Any.strings_Join_none Tryd.laysJoin xJ _ c { data := #[32] } w).mono ?_
      rintro e w' ⟨rfl, rfl⟩
      exact ⟨rfl, Upd.refl _ _⟩
    · have hp := List.length_pos_iff.2 h0
      have hj : Lib.join ((xs.map bs).map (fun x => x.data.toList)) [32] = joinB xs := by rw [map_bs]; rfl
      have hcell := hs 0 hp 0 (by omega)
      have hm := Any.strings_Join Tryd.laysJoin xJ g off c (xs.map bs) { data := #[32] } w (fun j x hx => by
        rw [List.getElem?_map] at hx
        obtain ⟨y, hy, rfl⟩ := Option.map_eq_some_iff.1 hx
        have hlt := (List.getElem?_eq_some_iff.1 hy).1
        have := hs j hlt 0 (by omega)
        simp [List.getD, hy] at this
        exact this) (World.block_lt_of_cell? w _ hcell) (by simpa using hn) (by simpa using hc) (by rw [hj]; exact hl)
      rw [List.length_map] at hm
      refine hm.mono ?_
      rintro e w' ⟨rfl, hb⟩
      exact ⟨by rw [hj]; rfl, upd_of_below hb⟩
end Go.Proofs.YtbjmmdomdijilabDoor

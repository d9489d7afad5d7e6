/- Package text: add, at each type of a list's parts. Made by mkte.py. -/
import Derived.Test.YtmikibcgphkcfaaGreatDoorTa
namespace Go.Proofs.YtmikibcgphkcfaaGreatDoor
open Go.RowKit Go.Lib
set_option linter.unusedVariables false
set_option linter.unusedSimpArgs false

theorem tInfoInt : (Tryz.prog.info? 3).map (fun i => (i.zero, i.size, i.bytes)) = some (some (.int .i64 0), 1, 8) := by kernel_rfl
theorem tInfoIns : (Tryz.prog.info? 41).map (fun i => (i.zero, i.size, i.bytes)) = some (some (.agg #[.int .i64 0, .int .i64 0, .int .i64 0]), 3, 24) := by kernel_rfl
theorem tInfoImp : (Tryz.prog.info? 43).map (fun i => (i.zero, i.size, i.bytes)) = some (some (.agg #[.string { data := #[] }, .int .i64 0, .slice none 0 0, .int .i64 0]), 4, 56) := by kernel_rfl
theorem tInfoMet : (Tryz.prog.info? 39).map (fun i => (i.zero, i.size, i.bytes)) = some (some (.agg #[.slice none 0 0, .int .i64 0, .slice none 0 0, .slice none 0 0]), 4, 80) := by kernel_rfl
theorem tSrc (w : World) (e : TypeId) (l : List Value) (cs : Array Value) (hcs : cs = l.toArray) (sz : Nat) (h1 : ∀ u ∈ l, u.oneCell' = true) (n c g : Nat) (hg : w.heap.size = g) (hn : l.length = n * sz) :
    Src (w.alloc (.cells cs e)) sz (.slice (some ⟨g, 0, none⟩) n c) n l := by
  subst hcs hg
  refine .inr ⟨_, _, rfl, hn, fun j u hj => ?_, h1⟩
  rw [addr_add]
  show (match (w.heap.push _)[w.heap.size]? with | some (.cells c _ _) => _ | _ => _) = _
  simpa using hj
def intC (n : Int) : List Value := [.int .i64 n]
def insC (i : InsM) : List Value := [.int .i64 i.op, .int .i64 i.a, .int .i64 i.b]
def impC (p : ImpM × Value) : List Value := [.string p.1.name, .int .i64 p.1.exp, p.2, .int .i64 p.1.res]
def metC (p : MetM × Value × Value × Value) : List Value := [p.2.1, .int .i64 p.1.res, p.2.2.1, p.2.2.2]
/-- a list with one more, but where there are more than most already -/
def addL {α : Type} (most : Int) (L : List α) (x : α) : List α := match decide (most < (L.length : Int)) with
  | true => L
  | false => L ++ [x]
theorem addL_no {α : Type} {most : Int} {L : List α} {x : α} (h : most < (L.length : Int)) : addL most L x = L := by unfold addL; rw [show decide (most < (L.length : Int)) = true by simpa using h]
theorem addL_yes {α : Type} {most : Int} {L : List α} {x : α} (h : ¬ most < (L.length : Int)) : addL most L x = L ++ [x] := by unfold addL; rw [show decide (most < (L.length : Int)) = false by simpa using h]
theorem addL_len {α : Type} {most : Int} {L : List α} {x : α} {m : Nat} (h0 : 0 ≤ most) (h1 : most + 1 ≤ m) (h : L.length ≤ m) : (addL most L x).length ≤ m := by
  unfold addL
  split
  · exact h
  · rename_i hd
    simp at hd ⊢
    omega
/-- an own row of these parts -/
def Row {α : Type} (w : World) (e : TypeId) (sz : Nat) (cl : α → List Value) (v : Value) (L : List α) : Prop := w.ownsRow 0 e sz v L.length (L.flatMap cl)
theorem Row.upd {α : Type} {w w' : World} {e : TypeId} {sz : Nat} {cl : α → List Value} {v : Value} {L : List α} {S : Nat → Prop} (h : Row w e sz cl v L) (hu : Upd S w w') (hS : ∀ k, v.ownBlock = some k → ¬ S k) : Row w' e sz cl v L := ownsRow_upd h hu hS
theorem Row.nil {α : Type} (w : World) (e : TypeId) (sz : Nat) (cl : α → List Value) : Row w e sz cl (.slice none 0 0) [] := World.ownsRow_nil _ _ _ _
/-- what add promises -/
def Added {α : Type} (e : TypeId) (sz : Nat) (cl : α → List Value) (w : World) (v : Value) (L : List α) (most : Int) (x : α) (ed : Ending) (w' : World) : Prop :=
  ∃ v', ed = .returned v' ∧ Row w' e sz cl v' (addL most L x) ∧ Upd (fun k => v.ownBlock = some k) w w' ∧ Fresh w v v'

set_option maxHeartbeats 2000000 in
theorem tAddInt (w : World) (v : Value) (L : List (Int)) (most : Int) (n : Int) (hv : Row w 3 1 intC v L) (hl : L.length ≤ 1000) :
    Calls Tryz.prog 85 #[v, .int .i64 n, .int .i64 most] w (Added 3 1 intC w v L most n) := by
  obtain ⟨i0, hi, hz0, hz1, hz2⟩ := info_parts tInfoInt
  obtain ⟨a, c, rfl⟩ := ownsRow_slice hv
  by_cases hm : most < (L.length : Int)
  · have HV := Lib.hid hv
    have HE : Hid (addL most L n = L) := Lib.hid (addL_no hm)
    clear hv
    go_enter Tryz.func85, Tryz.ntmps85
    go_wp2_with fail
    go_ret
    refine ⟨_, rfl, ?_, Upd.refl _ _, fun k hk => .inl hk⟩
    rw [HE.out]
    exact HV.out
  · have HE : Hid (addL most L n = L ++ [n]) := Lib.hid (addL_yes hm)
    obtain ⟨w1, hw1⟩ : ∃ w1, w1 = w := ⟨_, rfl⟩
    have hu1 : Upd (fun _ => False) w w1 := by rw [hw1]; exact Upd.refl _ _
    have hal : Upd (fun _ => False) w1 (w1.alloc (.cells #[.int .i64 n] 3)) := Upd.alloc _ _ _
    have HS : Hid (Src (w1.alloc (.cells #[.int .i64 n] 3)) 1 (.slice (some ⟨w1.heap.size, 0, none⟩) 1 1) 1 (intC n)) := Lib.hid (tSrc w1 3 (intC n) _ rfl 1 (by
      intro u hu
      simp [intC] at hu
      rcases hu with rfl
      all_goals first | with_reducible assumption | rfl) 1 1 _ rfl rfl)
    have HV : Hid (Row (w1.alloc (.cells #[.int .i64 n] 3)) 3 1 intC (.slice a L.length c) L) := Lib.hid ((hv.upd hu1 (fun _ _ h => h)).upd hal (fun _ _ h => h))
    have HU := Lib.hid (hu1.trans hal (fun _ h _ => h))
    have HLL := Lib.hid hl
    rw [hw1] at HS HV HU
    clear hv hal hl hu1 hw1
    clear w1
    
    go_enter Tryz.func85, Tryz.ntmps85
    go_wp2_with (at_builtin; go_loud (refine wpList_append_mine _ rfl _ _ 23 rfl 0 3 i0 (.int .i64 0) 1 8 Tryz.underlying23 hi hz0 hz1 hz2 rfl (by decide) (.slice a L.length c) L.length (L.flatMap intC) rfl HV.out 1 (intC n) HS.out (by have := HLL.out; unfold maxLen; omega) (by have := HLL.out; omega) (Nat.zero_le _) ?_))
    intro v' w2 ho hg hf
    obtain ⟨va, vc, rfl⟩ := ownsRow_slice ho
    have HO : Hid (Row w2 3 1 intC (.slice va (L.length + 1) vc) (L ++ [n])) := Lib.hid (by
      unfold Row
      rw [List.length_append, List.flatMap_append]
      simpa using ho)
    have HU2 := Lib.hid (Upd.row HU.out hg)
    have HF : Hid (Fresh w (.slice a L.length c) (.slice va (L.length + 1) vc)) := Lib.hid (fun k hk => by
      rcases hf k hk with h | h
      · exact .inl h
      · exact .inr (Nat.le_trans HU.out.size h))
    clear ho hg hf
    go_wp2_with fail
    go_ret
    refine ⟨_, rfl, ?_, HU2.out, HF.out⟩
    rw [HE.out]
    exact HO.out

set_option maxHeartbeats 2000000 in
theorem tAddIns (w : World) (v : Value) (L : List (InsM)) (most : Int) (n : InsM) (hv : Row w 41 3 insC v L) (hl : L.length ≤ 1000) :
    Calls Tryz.prog 95 #[v, .agg #[.int .i64 n.op, .int .i64 n.a, .int .i64 n.b], .int .i64 most] w (Added 41 3 insC w v L most n) := by
  obtain ⟨i0, hi, hz0, hz1, hz2⟩ := info_parts tInfoIns
  obtain ⟨a, c, rfl⟩ := ownsRow_slice hv
  by_cases hm : most < (L.length : Int)
  · have HV := Lib.hid hv
    have HE : Hid (addL most L n = L) := Lib.hid (addL_no hm)
    clear hv
    go_enter Tryz.func95, Tryz.ntmps95
    go_wp2_with fail
    go_ret
    refine ⟨_, rfl, ?_, Upd.alloc _ _ _, fun k hk => .inl hk⟩
    rw [HE.out]
    exact HV.out.upd (Upd.alloc (fun _ => False) w _) (fun _ _ h => h)
  · have HE : Hid (addL most L n = L ++ [n]) := Lib.hid (addL_yes hm)
    obtain ⟨w1, hw1⟩ : ∃ w1, w1 = w.alloc (.cells #[.int .i64 n.op, .int .i64 n.a, .int .i64 n.b] 41) := ⟨_, rfl⟩
    have hu1 : Upd (fun _ => False) w w1 := by rw [hw1]; exact Upd.alloc _ _ _
    have hal : Upd (fun _ => False) w1 (w1.alloc (.cells #[.int .i64 n.op, .int .i64 n.a, .int .i64 n.b] 41)) := Upd.alloc _ _ _
    have HS : Hid (Src (w1.alloc (.cells #[.int .i64 n.op, .int .i64 n.a, .int .i64 n.b] 41)) 3 (.slice (some ⟨w1.heap.size, 0, none⟩) 1 1) 1 (insC n)) := Lib.hid (tSrc w1 41 (insC n) _ rfl 3 (by
      intro u hu
      simp [insC] at hu
      rcases hu with rfl | rfl | rfl
      all_goals first | with_reducible assumption | rfl) 1 1 _ rfl rfl)
    have HV : Hid (Row (w1.alloc (.cells #[.int .i64 n.op, .int .i64 n.a, .int .i64 n.b] 41)) 41 3 insC (.slice a L.length c) L) := Lib.hid ((hv.upd hu1 (fun _ _ h => h)).upd hal (fun _ _ h => h))
    have HU := Lib.hid (hu1.trans hal (fun _ h _ => h))
    have HLL := Lib.hid hl
    rw [hw1] at HS HV HU
    clear hv hal hl hu1 hw1
    clear w1
    simp only [World.size_alloc] at HS
    go_enter Tryz.func95, Tryz.ntmps95
    go_wp2_with (at_builtin; go_loud (refine wpList_append_mine _ rfl _ _ 37 rfl 0 41 i0 (.agg #[.int .i64 0, .int .i64 0, .int .i64 0]) 3 24 Tryz.underlying37 hi hz0 hz1 hz2 rfl (by decide) (.slice a L.length c) L.length (L.flatMap insC) rfl HV.out 1 (insC n) HS.out (by have := HLL.out; unfold maxLen; omega) (by have := HLL.out; omega) (Nat.zero_le _) ?_))
    intro v' w2 ho hg hf
    obtain ⟨va, vc, rfl⟩ := ownsRow_slice ho
    have HO : Hid (Row w2 41 3 insC (.slice va (L.length + 1) vc) (L ++ [n])) := Lib.hid (by
      unfold Row
      rw [List.length_append, List.flatMap_append]
      simpa using ho)
    have HU2 := Lib.hid (Upd.row HU.out hg)
    have HF : Hid (Fresh w (.slice a L.length c) (.slice va (L.length + 1) vc)) := Lib.hid (fun k hk => by
      rcases hf k hk with h | h
      · exact .inl h
      · exact .inr (Nat.le_trans HU.out.size h))
    clear ho hg hf
    go_wp2_with fail
    go_ret
    refine ⟨_, rfl, ?_, HU2.out, HF.out⟩
    rw [HE.out]
    exact HO.out

set_option maxHeartbeats 2000000 in
theorem tAddImp (w : World) (v : Value) (L : List (ImpM × Value)) (most : Int) (n : ImpM × Value) (h1 : n.2.oneCell' = true) (hv : Row w 43 4 impC v L) (hl : L.length ≤ 1000) :
    Calls Tryz.prog 87 #[v, .agg #[.string n.1.name, .int .i64 n.1.exp, n.2, .int .i64 n.1.res], .int .i64 most] w (Added 43 4 impC w v L most n) := by
  obtain ⟨i0, hi, hz0, hz1, hz2⟩ := info_parts tInfoImp
  obtain ⟨a, c, rfl⟩ := ownsRow_slice hv
  by_cases hm : most < (L.length : Int)
  · have HV := Lib.hid hv
    have HE : Hid (addL most L n = L) := Lib.hid (addL_no hm)
    clear hv
    go_enter Tryz.func87, Tryz.ntmps87
    go_wp2_with fail
    go_ret
    refine ⟨_, rfl, ?_, Upd.alloc _ _ _, fun k hk => .inl hk⟩
    rw [HE.out]
    exact HV.out.upd (Upd.alloc (fun _ => False) w _) (fun _ _ h => h)
  · have HE : Hid (addL most L n = L ++ [n]) := Lib.hid (addL_yes hm)
    obtain ⟨w1, hw1⟩ : ∃ w1, w1 = w.alloc (.cells #[.string n.1.name, .int .i64 n.1.exp, n.2, .int .i64 n.1.res] 43) := ⟨_, rfl⟩
    have hu1 : Upd (fun _ => False) w w1 := by rw [hw1]; exact Upd.alloc _ _ _
    have hal : Upd (fun _ => False) w1 (w1.alloc (.cells #[.string n.1.name, .int .i64 n.1.exp, n.2, .int .i64 n.1.res] 43)) := Upd.alloc _ _ _
    have HS : Hid (Src (w1.alloc (.cells #[.string n.1.name, .int .i64 n.1.exp, n.2, .int .i64 n.1.res] 43)) 4 (.slice (some ⟨w1.heap.size, 0, none⟩) 1 1) 1 (impC n)) := Lib.hid (tSrc w1 43 (impC n) _ rfl 4 (by
      intro u hu
      simp [impC] at hu
      rcases hu with rfl | rfl | rfl | rfl
      all_goals first | with_reducible assumption | rfl) 1 1 _ rfl rfl)
    have HV : Hid (Row (w1.alloc (.cells #[.string n.1.name, .int .i64 n.1.exp, n.2, .int .i64 n.1.res] 43)) 43 4 impC (.slice a L.length c) L) := Lib.hid ((hv.upd hu1 (fun _ _ h => h)).upd hal (fun _ _ h => h))
    have HU := Lib.hid (hu1.trans hal (fun _ h _ => h))
    have HLL := Lib.hid hl
    rw [hw1] at HS HV HU
    clear hv hal hl hu1 hw1
    clear w1
    simp only [World.size_alloc] at HS
    go_enter Tryz.func87, Tryz.ntmps87
    go_wp2_with (at_builtin; go_loud (refine wpList_append_mine _ rfl _ _ 24 rfl 0 43 i0 (.agg #[.string { data := #[] }, .int .i64 0, .slice none 0 0, .int .i64 0]) 4 56 Tryz.underlying24 hi hz0 hz1 hz2 rfl (by decide) (.slice a L.length c) L.length (L.flatMap impC) rfl HV.out 1 (impC n) HS.out (by have := HLL.out; unfold maxLen; omega) (by have := HLL.out; omega) (Nat.zero_le _) ?_))
    intro v' w2 ho hg hf
    obtain ⟨va, vc, rfl⟩ := ownsRow_slice ho
    have HO : Hid (Row w2 43 4 impC (.slice va (L.length + 1) vc) (L ++ [n])) := Lib.hid (by
      unfold Row
      rw [List.length_append, List.flatMap_append]
      simpa using ho)
    have HU2 := Lib.hid (Upd.row HU.out hg)
    have HF : Hid (Fresh w (.slice a L.length c) (.slice va (L.length + 1) vc)) := Lib.hid (fun k hk => by
      rcases hf k hk with h | h
      · exact .inl h
      · exact .inr (Nat.le_trans HU.out.size h))
    clear ho hg hf
    go_wp2_with fail
    go_ret
    refine ⟨_, rfl, ?_, HU2.out, HF.out⟩
    rw [HE.out]
    exact HO.out

set_option maxHeartbeats 2000000 in
theorem tAddMet (w : World) (v : Value) (L : List (MetM × Value × Value × Value)) (most : Int) (n : MetM × Value × Value × Value) (h1 : n.2.1.oneCell' = true) (h2 : n.2.2.1.oneCell' = true) (h3 : n.2.2.2.oneCell' = true) (hv : Row w 39 4 metC v L) (hl : L.length ≤ 1000) :
    Calls Tryz.prog 89 #[v, .agg #[n.2.1, .int .i64 n.1.res, n.2.2.1, n.2.2.2], .int .i64 most] w (Added 39 4 metC w v L most n) := by
  obtain ⟨i0, hi, hz0, hz1, hz2⟩ := info_parts tInfoMet
  obtain ⟨a, c, rfl⟩ := ownsRow_slice hv
  by_cases hm : most < (L.length : Int)
  · have HV := Lib.hid hv
    have HE : Hid (addL most L n = L) := Lib.hid (addL_no hm)
    clear hv
    go_enter Tryz.func89, Tryz.ntmps89
    go_wp2_with fail
    go_ret
    refine ⟨_, rfl, ?_, Upd.alloc _ _ _, fun k hk => .inl hk⟩
    rw [HE.out]
    exact HV.out.upd (Upd.alloc (fun _ => False) w _) (fun _ _ h => h)
  · have HE : Hid (addL most L n = L ++ [n]) := Lib.hid (addL_yes hm)
    obtain ⟨w1, hw1⟩ : ∃ w1, w1 = w.alloc (.cells #[n.2.1, .int .i64 n.1.res, n.2.2.1, n.2.2.2] 39) := ⟨_, rfl⟩
    have hu1 : Upd (fun _ => False) w w1 := by rw [hw1]; exact Upd.alloc _ _ _
    have hal : Upd (fun _ => False) w1 (w1.alloc (.cells #[n.2.1, .int .i64 n.1.res, n.2.2.1, n.2.2.2] 39)) := Upd.alloc _ _ _
    have HS : Hid (Src (w1.alloc (.cells #[n.2.1, .int .i64 n.1.res, n.2.2.1, n.2.2.2] 39)) 4 (.slice (some ⟨w1.heap.size, 0, none⟩) 1 1) 1 (metC n)) := Lib.hid (tSrc w1 39 (metC n) _ rfl 4 (by
      intro u hu
      simp [metC] at hu
      rcases hu with rfl | rfl | rfl | rfl
      all_goals first | with_reducible assumption | rfl) 1 1 _ rfl rfl)
    have HV : Hid (Row (w1.alloc (.cells #[n.2.1, .int .i64 n.1.res, n.2.2.1, n.2.2.2] 39)) 39 4 metC (.slice a L.length c) L) := Lib.hid ((hv.upd hu1 (fun _ _ h => h)).upd hal (fun _ _ h => h))
    have HU := Lib.hid (hu1.trans hal (fun _ h _ => h))
    have HLL := Lib.hid hl
    rw [hw1] at HS HV HU
    clear hv hal hl hu1 hw1
    clear w1
    simp only [World.size_alloc] at HS
    go_enter Tryz.func89, Tryz.ntmps89
    go_wp2_with (at_builtin; go_loud (refine wpList_append_mine _ rfl _ _ 25 rfl 0 39 i0 (.agg #[.slice none 0 0, .int .i64 0, .slice none 0 0, .slice none 0 0]) 4 80 Tryz.underlying25 hi hz0 hz1 hz2 rfl (by decide) (.slice a L.length c) L.length (L.flatMap metC) rfl HV.out 1 (metC n) HS.out (by have := HLL.out; unfold maxLen; omega) (by have := HLL.out; omega) (Nat.zero_le _) ?_))
    intro v' w2 ho hg hf
    obtain ⟨va, vc, rfl⟩ := ownsRow_slice ho
    have HO : Hid (Row w2 39 4 metC (.slice va (L.length + 1) vc) (L ++ [n])) := Lib.hid (by
      unfold Row
      rw [List.length_append, List.flatMap_append]
      simpa using ho)
    have HU2 := Lib.hid (Upd.row HU.out hg)
    have HF : Hid (Fresh w (.slice a L.length c) (.slice va (L.length + 1) vc)) := Lib.hid (fun k hk => by
      rcases hf k hk with h | h
      · exact .inl h
      · exact .inr (Nat.le_trans HU.out.size h))
    clear ho hg hf
    go_wp2_with fail
    go_ret
    refine ⟨_, rfl, ?_, HU2.out, HF.out⟩
    rw [HE.out]
    exact HO.out
end Go.Proofs.YtmikibcgphkcfaaGreatDoor

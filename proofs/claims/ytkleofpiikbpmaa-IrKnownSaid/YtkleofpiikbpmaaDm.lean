/- Stage 17: MustBranch, and the law's own look at what it does. -/
import Derived.Test.YtkleofpiikbpmaaDk
import Derived.Defers
import Derived.Recover
import Derived.Laws.Pointers
import Derived.Laws.StructEq
namespace Go.Proofs.Ytkleofpiikbpmaa
open Go.RowKit Go.ChangeShapes Go.WideShapes Go.Deep
set_option linter.unusedVariables false
set_option linter.unusedSimpArgs false
/-- a node that is no Branch: what it stands as -/
def noBr (v : Value) : Prop := v = .nilIface ∨ ∃ t u, v = .iface t u ∧ t ≠ 37
theorem assertNo (v : Value) (hv : noBr v) (w : World) : ∃ h, (Instr.typeAssert v 52 37 false).run Try.prog w = .halt (.panic (.iface 15 (.pointer (some ⟨w.heap.size, 0, none⟩)))) (w.alloc (.cells #[typeHandle Try.prog 52, h, typeHandle Try.prog 37, strVal ""] 95)) := by
  rcases hv with rfl | ⟨t, u, rfl, ht⟩
  · refine ⟨.pointer none, ?_⟩
    rw [Instr.typeAssert]
    simp [run_underlying Try.underlying37, runtimePanic, go_sem, elemOf, run_underlying Try.underlying15, newVar]
  · refine ⟨typeHandle Try.prog t, ?_⟩
    rw [Instr.typeAssert]
    simp [run_underlying Try.underlying37, runtimePanic, go_sem, elemOf, run_underlying Try.underlying15, newVar, ht]
def PanE (e : Ending) : Prop := ∃ u pv, e = .panicked [{ v := .iface u pv, recovered := false }]
set_option maxHeartbeats 1000000 in
theorem irSureNo (w : World) (v : Value) (hv : noBr v) : Calls Try.prog 28 #[v] w fun e w' => PanE e ∧ Upd (fun _ => False) w w' := by
  obtain ⟨h, hA⟩ := assertNo v hv (w.alloc (.cells #[.int .i64 0, .int .i64 0] 37))
  clear hv
  go_enter Try.func28, Try.ntmps28
  go_wp2_with fail
  exact ⟨rfl, ⟨_, _, rfl⟩, (Upd.alloc (fun _ => False) w _).two (Upd.alloc _ _ _)⟩
set_option maxHeartbeats 1000000 in
theorem irMustNo (w : World) (v : Value) (hv : noBr v) : Calls Try.prog 17 #[v] w fun e w' => PanE e ∧ Upd (fun _ => False) w w' := by
  have HV := Lib.hid hv
  clear hv
  go_enter Try.func17, Try.ntmps17
  go_wp2_with fail
  refine (irSureNo _ v HV.out).mono ?_
  rintro e w1 ⟨⟨u, pv, rfl⟩, hu⟩
  dsimp only
  exact ⟨rfl, ⟨_, _, rfl⟩, (Upd.alloc (fun _ => False) w _).two hu⟩
set_option maxHeartbeats 1000000 in
theorem irSureYes (w : World) (c to : Int) : Calls Try.prog 28 #[.iface 37 (.agg #[.int .i64 c, .int .i64 to])] w fun e w' => e = .returned (.agg #[.int .i64 c, .int .i64 to]) ∧ Upd (fun _ => False) w w' := by
  have hA : ∀ w, (Instr.typeAssert (.iface 37 (.agg #[.int .i64 c, .int .i64 to])) 52 37 false).run Try.prog w = .ok (.agg #[.int .i64 c, .int .i64 to]) w := fun _ => by kernel_rfl
  go_enter Try.func28, Try.ntmps28
  go_wp2_with fail
  refine bodyPost_ret (v := .agg #[.int .i64 c, .int .i64 to]) (by simp [results, Try.f28, go_sem]) rfl ?_
  exact ⟨rfl, Upd.alloc _ _ _⟩
set_option maxHeartbeats 1000000 in
theorem irMustYes (w : World) (c to : Int) : Calls Try.prog 17 #[.iface 37 (.agg #[.int .i64 c, .int .i64 to])] w fun e w' => e = .returned (.agg #[.int .i64 c, .int .i64 to]) ∧ Upd (fun _ => False) w w' := by
  go_enter Try.func17, Try.ntmps17
  go_wp2_with fail
  refine (irSureYes _ c to).mono ?_
  rintro e w1 ⟨rfl, hu⟩
  have hx : w1.heap[w.heap.size]? = some (.cells #[.int .i64 0, .int .i64 0] 37) := (hu.block _ (by simp) (fun h => h)).trans (heap_topD w _)
  have k0 : w1.cell? ⟨w.heap.size, 0, none⟩ = some (.int .i64 0) := by simp [World.cell?, hx]
  have k1 : w1.cell? ⟨w.heap.size, 1, none⟩ = some (.int .i64 0) := by simp [World.cell?, hx]
  have f0 : ∀ q, w1.frozen? ⟨w.heap.size, q, none⟩ = false := fun q => by simp [World.frozen?, hx]
  have HU := Lib.hid ((Upd.alloc (fun _ => False) w _).two hu)
  clear hu hx
  go_wp2_with fail
  refine bodyPost_ret (v := .agg #[.int .i64 c, .int .i64 to]) (by simp [results, Try.f17, go_sem, k0, k1, f0]) rfl ?_
  refine ⟨rfl, HU.out.trans (((Upd.setCell (S := fun k => k = w.heap.size) w1 (p := ⟨w.heap.size, 0, none⟩) (.inl rfl) _).trans (Upd.setCell (S := fun k => k = w.heap.size) _ (p := ⟨w.heap.size, 1, none⟩) (.inl rfl) _) (fun _ h _ => h))) (fun k hk hl => by omega)⟩
theorem catch_panicking (p : Addr) (x : Int) (u : TypeId) (pv : Value) (older : List PanicEntry) (w : World) (hc : w.cell? p = some (.int .i64 x)) (hz : w.frozen? p = false) :
    CallsD Try.prog 16 #[.pointer (some p)] (.panicking ({ v := .iface u pv, recovered := false } :: older)) w fun e u' w' =>
      e = .returned (.tuple #[]) ∧ u' = .panicking ({ v := .iface u pv, recovered := true } :: older) ∧ w' = w.setCell p (.int .i64 2) := by
  refine callsD_of_wpS Try.func16 rfl fun c₀ cs hu => ?_
  apply wpS_seq
  apply wpS_region
  simp [wpOpsS, go_sem, recoverD, hu, Try.ntmps16, Exit.thenS]
  refine wpS_cond (t := true) (by simp [Act.eval, Array.replicate]) ?_
  simp only [if_true]
  apply wpS_region
  simp [wpOpsS, go_sem, hc, hz, bodyPostS, results, Try.results16]
theorem catch_idle (p : Addr) (w : World) :
    CallsD Try.prog 16 #[.pointer (some p)] .returning w fun e u' w' => e = .returned (.tuple #[]) ∧ u' = .returning ∧ w' = w := by
  refine callsD_of_wpS Try.func16 rfl fun c₀ cs hu => ?_
  apply wpS_seq
  apply wpS_region
  simp [wpOpsS, go_sem, recoverD, hu, Try.ntmps16, Exit.thenS]
  refine wpS_cond (t := false) (by simp [Act.eval, Array.replicate]) ?_
  simp only [Bool.false_eq_true, if_false]
  refine wpS_of_wp (wp_skip ?_)
  cases c₀
  simp_all [bodyPostS, results, Try.results16]
set_option maxHeartbeats 1000000 in
theorem mustNo (w : World) (v : Value) (hv : noBr v) : Calls Try.prog 6 #[v] w fun e w' => e = .returned (.int .i64 2) ∧ Upd (fun _ => False) w w' := by
  have hmf : ∀ (fn : Fn) (first cap : Array Value) (w : World), (Instr.makeFunc fn first cap).run Try.prog w = .ok (.func fn first cap) w := fun _ _ _ _ => rfl
  have HV := Lib.hid hv
  clear hv
  go_enter_defers Try.func6, Try.ntmps6
  go_wp2_with fail
  refine (irMustNo _ v HV.out).mono ?_
  rintro e w1 ⟨⟨u, pv, rfl⟩, hu⟩
  dsimp only
  have hx : w1.heap[w.heap.size]? = some (.cells #[.int .i64 0] 3) := (hu.block _ (by simp) (fun h => h)).trans (heap_topD w _)
  have k0 : w1.cell? ⟨w.heap.size, 0, none⟩ = some (.int .i64 0) := by simp [World.cell?, hx]
  have f0 : w1.frozen? ⟨w.heap.size, 0, none⟩ = false := by simp [World.frozen?, hx]
  refine leaves_cons (f := 16) (args := #[.pointer (some ⟨w.heap.size, 0, none⟩)]) (by first | rfl | simp) (by first | rfl | simp [go_sem]) ?_
  refine (catch_panicking ⟨w.heap.size, 0, none⟩ 0 u pv [] _ k0 f0).mono ?_
  rintro e u' w2 ⟨rfl, rfl, rfl⟩
  have HU := Lib.hid (((Upd.alloc (fun _ => False) w _).two hu).trans (Upd.setCell (S := fun k => k = w.heap.size) w1 (p := ⟨w.heap.size, 0, none⟩) (.inl rfl) (.int .i64 2)) (fun k hk hl => by omega))
  have hx2 : (w1.setCell ⟨w.heap.size, 0, none⟩ (.int .i64 2)).cell? ⟨w.heap.size, 0, none⟩ = some (.int .i64 2) := by simp [World.cell?, World.setCell, Array.getElem?_modify, hx]
  clear hu hx
  simp [Leaves, settle, results, Try.results6, go_sem, hx2]
  exact HU.out
set_option maxHeartbeats 1000000 in
theorem mustYes (w : World) (c to : Int) (hE : ∀ w, (binOp .eql 52 (.iface 37 (.agg #[.int .i64 c, .int .i64 to])) (.iface 37 (.agg #[.int .i64 c, .int .i64 to]))).run Try.prog w = .ok (.bool true) w) : Calls Try.prog 6 #[.iface 37 (.agg #[.int .i64 c, .int .i64 to])] w fun e w' => e = .returned (.int .i64 1) ∧ Upd (fun _ => False) w w' := by
  have hmf : ∀ (fn : Fn) (first cap : Array Value) (w : World), (Instr.makeFunc fn first cap).run Try.prog w = .ok (.func fn first cap) w := fun _ _ _ _ => rfl
  go_enter_defers Try.func6, Try.ntmps6
  go_wp2_with fail
  refine (irMustYes _ c to).mono ?_
  rintro e w1 ⟨rfl, hu⟩
  have hx : w1.heap[w.heap.size]? = some (.cells #[.int .i64 0] 3) := (hu.block _ (by simp) (fun h => h)).trans (heap_topD w _)
  have k0 : w1.cell? ⟨w.heap.size, 0, none⟩ = some (.int .i64 0) := by simp [World.cell?, hx]
  have f0 : w1.frozen? ⟨w.heap.size, 0, none⟩ = false := by simp [World.frozen?, hx]
  have hlt : w.heap.size < w1.heap.size := (Array.getElem?_eq_some_iff.1 hx).1
  have HU1 := Lib.hid ((Upd.alloc (fun _ => False) w _).two hu)
  clear hu hx
  have HX := Lib.hid (And.intro k0 hlt)
  go_wp2_with fail
  refine leaves_cons (f := 16) (args := #[.pointer (some ⟨w.heap.size, 0, none⟩)]) (by first | rfl | simp) (by first | rfl | simp [go_sem]) ?_
  refine (catch_idle ⟨w.heap.size, 0, none⟩ _).mono ?_
  rintro e u' w2 ⟨rfl, rfl, rfl⟩
  have HU2 := Lib.hid ((HU1.out.trans (Upd.setCell (S := fun k => k = w.heap.size) w1 (p := ⟨w.heap.size, 0, none⟩) (.inl rfl) (.int .i64 1)) (fun k hk hl => by omega)).two (Upd.alloc (fun _ => False) _ (.cells #[.int .i64 c, .int .i64 to] 37)))
  simp [Leaves, settle, results, Try.results6, go_sem, k0, hlt]
  exact HU2.out
end Go.Proofs.Ytkleofpiikbpmaa

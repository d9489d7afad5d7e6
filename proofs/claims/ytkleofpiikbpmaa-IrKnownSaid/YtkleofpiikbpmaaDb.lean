/- Package ir: Pure, Def, isTick. -/
import Derived.Test.YtkleofpiikbpmaaDa
import Derived.LoopTactic
import Derived.Deep.Light
namespace Go.Proofs.Ytkleofpiikbpmaa
open Go.RowKit Go.ChangeShapes Go.WideShapes
set_option linter.unusedVariables false
set_option linter.unusedSimpArgs false
def pureP : Nd → Bool
  | .const .. => true
  | .move .. => true
  | .bin .. => true
  | .un .. => true
  | .choose .. => true
  | .tick => true
  | .goto .. => true
  | .branch .. => true
  | _ => false
def tickP : Nd → Bool
  | .tick => true
  | _ => false
def defP : Nd → Int
  | .const d _ => d
  | .move d _ => d
  | .bin _ d _ _ => d
  | .un _ d _ => d
  | .choose d _ _ _ => d
  | .getf d _ => d
  | .serve _ _ _ d _ => d
  | .call _ d _ => d
  | .callx _ d _ => d
  | _ => -1
section
variable {w : World} {v : Value} {n : Nd}
set_option maxRecDepth 20000 in
set_option maxHeartbeats 2000000 in
theorem irPure (h : NdV w v n) : Calls Try.prog 15 #[v] w fun e w' => e = .returned (.bool (pureP n)) ∧ w = w' := by
  cases n with
  | nil =>
    obtain rfl := h
    obtain ⟨t0, t1, t2, t3, t4, t5, t6, t7, t8, t9, t10, t11, t12, t13⟩ := as_nil
    go_enter Try.func15, Try.ntmps15
    go_wp2_with fail
    go_ret
    exact ⟨rfl, rfl⟩
  | const d n =>
    obtain ⟨rfl, b0⟩ := h
    obtain ⟨t0, t1, t2, t3, t4, t5, t6, t7, t8, t9, t10, t11, t12, t13⟩ := as_const (.agg #[.int .i64 d, .int .i32 (si n)])
    go_enter Try.func15, Try.ntmps15
    go_wp2_with fail
    go_ret
    exact ⟨rfl, rfl⟩
  | move d s =>
    obtain ⟨rfl, b0, b1⟩ := h
    obtain ⟨t0, t1, t2, t3, t4, t5, t6, t7, t8, t9, t10, t11, t12, t13⟩ := as_move (.agg #[.int .i64 d, .int .i64 s])
    go_enter Try.func15, Try.ntmps15
    go_wp2_with fail
    go_ret
    exact ⟨rfl, rfl⟩
  | bin op d a b =>
    obtain ⟨rfl, b0, b1, b2, b3⟩ := h
    obtain ⟨t0, t1, t2, t3, t4, t5, t6, t7, t8, t9, t10, t11, t12, t13⟩ := as_bin (.agg #[.int .i64 op, .int .i64 d, .int .i64 a, .int .i64 b])
    go_enter Try.func15, Try.ntmps15
    go_wp2_with fail
    go_ret
    exact ⟨rfl, rfl⟩
  | un op d a =>
    obtain ⟨rfl, b0, b1, b2⟩ := h
    obtain ⟨t0, t1, t2, t3, t4, t5, t6, t7, t8, t9, t10, t11, t12, t13⟩ := as_un (.agg #[.int .i64 op, .int .i64 d, .int .i64 a])
    go_enter Try.func15, Try.ntmps15
    go_wp2_with fail
    go_ret
    exact ⟨rfl, rfl⟩
  | choose d c a b =>
    obtain ⟨rfl, b0, b1, b2, b3⟩ := h
    obtain ⟨t0, t1, t2, t3, t4, t5, t6, t7, t8, t9, t10, t11, t12, t13⟩ := as_choose (.agg #[.int .i64 d, .int .i64 c, .int .i64 a, .int .i64 b])
    go_enter Try.func15, Try.ntmps15
    go_wp2_with fail
    go_ret
    exact ⟨rfl, rfl⟩
  | tick =>
    obtain rfl := h
    obtain ⟨t0, t1, t2, t3, t4, t5, t6, t7, t8, t9, t10, t11, t12, t13⟩ := as_tick (.agg #[])
    go_enter Try.func15, Try.ntmps15
    go_wp2_with fail
    go_ret
    exact ⟨rfl, rfl⟩
  | goto to =>
    obtain ⟨rfl, b0⟩ := h
    obtain ⟨t0, t1, t2, t3, t4, t5, t6, t7, t8, t9, t10, t11, t12, t13⟩ := as_goto (.agg #[.int .i64 to])
    go_enter Try.func15, Try.ntmps15
    go_wp2_with fail
    go_ret
    exact ⟨rfl, rfl⟩
  | branch c to =>
    obtain ⟨rfl, b0, b1⟩ := h
    obtain ⟨t0, t1, t2, t3, t4, t5, t6, t7, t8, t9, t10, t11, t12, t13⟩ := as_branch (.agg #[.int .i64 c, .int .i64 to])
    go_enter Try.func15, Try.ntmps15
    go_wp2_with fail
    go_ret
    exact ⟨rfl, rfl⟩
  | getf d f =>
    obtain ⟨rfl, b0, b1⟩ := h
    obtain ⟨t0, t1, t2, t3, t4, t5, t6, t7, t8, t9, t10, t11, t12, t13⟩ := as_getf (.agg #[.int .i64 d, .int .i64 f])
    go_enter Try.func15, Try.ntmps15
    go_wp2_with fail
    go_ret
    exact ⟨rfl, rfl⟩
  | putf f s =>
    obtain ⟨rfl, b0, b1⟩ := h
    obtain ⟨t0, t1, t2, t3, t4, t5, t6, t7, t8, t9, t10, t11, t12, t13⟩ := as_putf (.agg #[.int .i64 f, .int .i64 s])
    go_enter Try.func15, Try.ntmps15
    go_wp2_with fail
    go_ret
    exact ⟨rfl, rfl⟩
  | serve op a b d l =>
    obtain ⟨s_, rfl, HL0, b0, b1, b2, b3⟩ := h
    have HL := Lib.hid HL0
    obtain ⟨sa, sc, rfl, hsn, hsm⟩ := HL0.1.slice
    clear HL0
    obtain ⟨t0, t1, t2, t3, t4, t5, t6, t7, t8, t9, t10, t11, t12, t13⟩ := as_serve (.agg #[.int .i64 op, .int .i64 a, .int .i64 b, .int .i64 d, (.slice sa l.length sc)])
    go_enter Try.func15, Try.ntmps15
    go_wp2_with fail
    go_ret
    exact ⟨rfl, rfl⟩
  | call m d l =>
    obtain ⟨s_, rfl, HL0, b0, b1⟩ := h
    have HL := Lib.hid HL0
    obtain ⟨sa, sc, rfl, hsn, hsm⟩ := HL0.1.slice
    clear HL0
    obtain ⟨t0, t1, t2, t3, t4, t5, t6, t7, t8, t9, t10, t11, t12, t13⟩ := as_call (.agg #[.int .i64 m, .int .i64 d, (.slice sa l.length sc)])
    go_enter Try.func15, Try.ntmps15
    go_wp2_with fail
    go_ret
    exact ⟨rfl, rfl⟩
  | callx i d l =>
    obtain ⟨s_, rfl, HL0, b0, b1⟩ := h
    have HL := Lib.hid HL0
    obtain ⟨sa, sc, rfl, hsn, hsm⟩ := HL0.1.slice
    clear HL0
    obtain ⟨t0, t1, t2, t3, t4, t5, t6, t7, t8, t9, t10, t11, t12, t13⟩ := as_callx (.agg #[.int .i64 i, .int .i64 d, (.slice sa l.length sc)])
    go_enter Try.func15, Try.ntmps15
    go_wp2_with fail
    go_ret
    exact ⟨rfl, rfl⟩
  | ret s =>
    obtain ⟨rfl, b0⟩ := h
    obtain ⟨t0, t1, t2, t3, t4, t5, t6, t7, t8, t9, t10, t11, t12, t13⟩ := as_ret (.agg #[.int .i64 s])
    go_enter Try.func15, Try.ntmps15
    go_wp2_with fail
    go_ret
    exact ⟨rfl, rfl⟩
set_option maxRecDepth 20000 in
set_option maxHeartbeats 2000000 in
theorem irTick (h : NdV w v n) : Calls Try.prog 20 #[v] w fun e w' => e = .returned (.bool (tickP n)) ∧ Upd (fun _ => False) w w' := by
  cases n with
  | nil =>
    obtain rfl := h
    obtain ⟨t0, t1, t2, t3, t4, t5, t6, t7, t8, t9, t10, t11, t12, t13⟩ := as_nil
    go_enter Try.func20, Try.ntmps20
    go_wp2_with fail
    go_ret
    exact ⟨rfl, by first | exact Upd.refl _ _ | exact Upd.alloc _ _ _⟩
  | const d n =>
    obtain ⟨rfl, b0⟩ := h
    obtain ⟨t0, t1, t2, t3, t4, t5, t6, t7, t8, t9, t10, t11, t12, t13⟩ := as_const (.agg #[.int .i64 d, .int .i32 (si n)])
    go_enter Try.func20, Try.ntmps20
    go_wp2_with fail
    go_ret
    exact ⟨rfl, by first | exact Upd.refl _ _ | exact Upd.alloc _ _ _⟩
  | move d s =>
    obtain ⟨rfl, b0, b1⟩ := h
    obtain ⟨t0, t1, t2, t3, t4, t5, t6, t7, t8, t9, t10, t11, t12, t13⟩ := as_move (.agg #[.int .i64 d, .int .i64 s])
    go_enter Try.func20, Try.ntmps20
    go_wp2_with fail
    go_ret
    exact ⟨rfl, by first | exact Upd.refl _ _ | exact Upd.alloc _ _ _⟩
  | bin op d a b =>
    obtain ⟨rfl, b0, b1, b2, b3⟩ := h
    obtain ⟨t0, t1, t2, t3, t4, t5, t6, t7, t8, t9, t10, t11, t12, t13⟩ := as_bin (.agg #[.int .i64 op, .int .i64 d, .int .i64 a, .int .i64 b])
    go_enter Try.func20, Try.ntmps20
    go_wp2_with fail
    go_ret
    exact ⟨rfl, by first | exact Upd.refl _ _ | exact Upd.alloc _ _ _⟩
  | un op d a =>
    obtain ⟨rfl, b0, b1, b2⟩ := h
    obtain ⟨t0, t1, t2, t3, t4, t5, t6, t7, t8, t9, t10, t11, t12, t13⟩ := as_un (.agg #[.int .i64 op, .int .i64 d, .int .i64 a])
    go_enter Try.func20, Try.ntmps20
    go_wp2_with fail
    go_ret
    exact ⟨rfl, by first | exact Upd.refl _ _ | exact Upd.alloc _ _ _⟩
  | choose d c a b =>
    obtain ⟨rfl, b0, b1, b2, b3⟩ := h
    obtain ⟨t0, t1, t2, t3, t4, t5, t6, t7, t8, t9, t10, t11, t12, t13⟩ := as_choose (.agg #[.int .i64 d, .int .i64 c, .int .i64 a, .int .i64 b])
    go_enter Try.func20, Try.ntmps20
    go_wp2_with fail
    go_ret
    exact ⟨rfl, by first | exact Upd.refl _ _ | exact Upd.alloc _ _ _⟩
  | tick =>
    obtain rfl := h
    obtain ⟨t0, t1, t2, t3, t4, t5, t6, t7, t8, t9, t10, t11, t12, t13⟩ := as_tick (.agg #[])
    go_enter Try.func20, Try.ntmps20
    go_wp2_with fail
    go_ret
    exact ⟨rfl, by first | exact Upd.refl _ _ | exact Upd.alloc _ _ _⟩
  | goto to =>
    obtain ⟨rfl, b0⟩ := h
    obtain ⟨t0, t1, t2, t3, t4, t5, t6, t7, t8, t9, t10, t11, t12, t13⟩ := as_goto (.agg #[.int .i64 to])
    go_enter Try.func20, Try.ntmps20
    go_wp2_with fail
    go_ret
    exact ⟨rfl, by first | exact Upd.refl _ _ | exact Upd.alloc _ _ _⟩
  | branch c to =>
    obtain ⟨rfl, b0, b1⟩ := h
    obtain ⟨t0, t1, t2, t3, t4, t5, t6, t7, t8, t9, t10, t11, t12, t13⟩ := as_branch (.agg #[.int .i64 c, .int .i64 to])
    go_enter Try.func20, Try.ntmps20
    go_wp2_with fail
    go_ret
    exact ⟨rfl, by first | exact Upd.refl _ _ | exact Upd.alloc _ _ _⟩
  | getf d f =>
    obtain ⟨rfl, b0, b1⟩ := h
    obtain ⟨t0, t1, t2, t3, t4, t5, t6, t7, t8, t9, t10, t11, t12, t13⟩ := as_getf (.agg #[.int .i64 d, .int .i64 f])
    go_enter Try.func20, Try.ntmps20
    go_wp2_with fail
    go_ret
    exact ⟨rfl, by first | exact Upd.refl _ _ | exact Upd.alloc _ _ _⟩
  | putf f s =>
    obtain ⟨rfl, b0, b1⟩ := h
    obtain ⟨t0, t1, t2, t3, t4, t5, t6, t7, t8, t9, t10, t11, t12, t13⟩ := as_putf (.agg #[.int .i64 f, .int .i64 s])
    go_enter Try.func20, Try.ntmps20
    go_wp2_with fail
    go_ret
    exact ⟨rfl, by first | exact Upd.refl _ _ | exact Upd.alloc _ _ _⟩
  | serve op a b d l =>
    obtain ⟨s_, rfl, HL0, b0, b1, b2, b3⟩ := h
    have HL := Lib.hid HL0
    obtain ⟨sa, sc, rfl, hsn, hsm⟩ := HL0.1.slice
    clear HL0
    obtain ⟨t0, t1, t2, t3, t4, t5, t6, t7, t8, t9, t10, t11, t12, t13⟩ := as_serve (.agg #[.int .i64 op, .int .i64 a, .int .i64 b, .int .i64 d, (.slice sa l.length sc)])
    go_enter Try.func20, Try.ntmps20
    go_wp2_with fail
    go_ret
    exact ⟨rfl, by first | exact Upd.refl _ _ | exact Upd.alloc _ _ _⟩
  | call m d l =>
    obtain ⟨s_, rfl, HL0, b0, b1⟩ := h
    have HL := Lib.hid HL0
    obtain ⟨sa, sc, rfl, hsn, hsm⟩ := HL0.1.slice
    clear HL0
    obtain ⟨t0, t1, t2, t3, t4, t5, t6, t7, t8, t9, t10, t11, t12, t13⟩ := as_call (.agg #[.int .i64 m, .int .i64 d, (.slice sa l.length sc)])
    go_enter Try.func20, Try.ntmps20
    go_wp2_with fail
    go_ret
    exact ⟨rfl, by first | exact Upd.refl _ _ | exact Upd.alloc _ _ _⟩
  | callx i d l =>
    obtain ⟨s_, rfl, HL0, b0, b1⟩ := h
    have HL := Lib.hid HL0
    obtain ⟨sa, sc, rfl, hsn, hsm⟩ := HL0.1.slice
    clear HL0
    obtain ⟨t0, t1, t2, t3, t4, t5, t6, t7, t8, t9, t10, t11, t12, t13⟩ := as_callx (.agg #[.int .i64 i, .int .i64 d, (.slice sa l.length sc)])
    go_enter Try.func20, Try.ntmps20
    go_wp2_with fail
    go_ret
    exact ⟨rfl, by first | exact Upd.refl _ _ | exact Upd.alloc _ _ _⟩
  | ret s =>
    obtain ⟨rfl, b0⟩ := h
    obtain ⟨t0, t1, t2, t3, t4, t5, t6, t7, t8, t9, t10, t11, t12, t13⟩ := as_ret (.agg #[.int .i64 s])
    go_enter Try.func20, Try.ntmps20
    go_wp2_with fail
    go_ret
    exact ⟨rfl, by first | exact Upd.refl _ _ | exact Upd.alloc _ _ _⟩
set_option maxRecDepth 20000 in
set_option maxHeartbeats 2000000 in
theorem irWritten (h : NdV w v n) : Calls Try.prog 23 #[v] w fun e w' => e = .returned (.int .i64 (defP n)) ∧ Upd (fun _ => False) w w' := by
  cases n with
  | nil =>
    obtain rfl := h
    obtain ⟨t0, t1, t2, t3, t4, t5, t6, t7, t8, t9, t10, t11, t12, t13⟩ := as_nil
    go_enter Try.func23, Try.ntmps23
    go_wp2_with fail
    go_ret
    exact ⟨rfl, by first | exact Upd.refl _ _ | exact Upd.alloc _ _ _⟩
  | const d n =>
    obtain ⟨rfl, b0⟩ := h
    obtain ⟨t0, t1, t2, t3, t4, t5, t6, t7, t8, t9, t10, t11, t12, t13⟩ := as_const (.agg #[.int .i64 d, .int .i32 (si n)])
    go_enter Try.func23, Try.ntmps23
    go_wp2_with fail
    go_ret
    exact ⟨rfl, by first | exact Upd.refl _ _ | exact Upd.alloc _ _ _⟩
  | move d s =>
    obtain ⟨rfl, b0, b1⟩ := h
    obtain ⟨t0, t1, t2, t3, t4, t5, t6, t7, t8, t9, t10, t11, t12, t13⟩ := as_move (.agg #[.int .i64 d, .int .i64 s])
    go_enter Try.func23, Try.ntmps23
    go_wp2_with fail
    go_ret
    exact ⟨rfl, by first | exact Upd.refl _ _ | exact Upd.alloc _ _ _⟩
  | bin op d a b =>
    obtain ⟨rfl, b0, b1, b2, b3⟩ := h
    obtain ⟨t0, t1, t2, t3, t4, t5, t6, t7, t8, t9, t10, t11, t12, t13⟩ := as_bin (.agg #[.int .i64 op, .int .i64 d, .int .i64 a, .int .i64 b])
    go_enter Try.func23, Try.ntmps23
    go_wp2_with fail
    go_ret
    exact ⟨rfl, by first | exact Upd.refl _ _ | exact Upd.alloc _ _ _⟩
  | un op d a =>
    obtain ⟨rfl, b0, b1, b2⟩ := h
    obtain ⟨t0, t1, t2, t3, t4, t5, t6, t7, t8, t9, t10, t11, t12, t13⟩ := as_un (.agg #[.int .i64 op, .int .i64 d, .int .i64 a])
    go_enter Try.func23, Try.ntmps23
    go_wp2_with fail
    go_ret
    exact ⟨rfl, by first | exact Upd.refl _ _ | exact Upd.alloc _ _ _⟩
  | choose d c a b =>
    obtain ⟨rfl, b0, b1, b2, b3⟩ := h
    obtain ⟨t0, t1, t2, t3, t4, t5, t6, t7, t8, t9, t10, t11, t12, t13⟩ := as_choose (.agg #[.int .i64 d, .int .i64 c, .int .i64 a, .int .i64 b])
    go_enter Try.func23, Try.ntmps23
    go_wp2_with fail
    go_ret
    exact ⟨rfl, by first | exact Upd.refl _ _ | exact Upd.alloc _ _ _⟩
  | tick =>
    obtain rfl := h
    obtain ⟨t0, t1, t2, t3, t4, t5, t6, t7, t8, t9, t10, t11, t12, t13⟩ := as_tick (.agg #[])
    go_enter Try.func23, Try.ntmps23
    go_wp2_with fail
    go_ret
    exact ⟨rfl, by first | exact Upd.refl _ _ | exact Upd.alloc _ _ _⟩
  | goto to =>
    obtain ⟨rfl, b0⟩ := h
    obtain ⟨t0, t1, t2, t3, t4, t5, t6, t7, t8, t9, t10, t11, t12, t13⟩ := as_goto (.agg #[.int .i64 to])
    go_enter Try.func23, Try.ntmps23
    go_wp2_with fail
    go_ret
    exact ⟨rfl, by first | exact Upd.refl _ _ | exact Upd.alloc _ _ _⟩
  | branch c to =>
    obtain ⟨rfl, b0, b1⟩ := h
    obtain ⟨t0, t1, t2, t3, t4, t5, t6, t7, t8, t9, t10, t11, t12, t13⟩ := as_branch (.agg #[.int .i64 c, .int .i64 to])
    go_enter Try.func23, Try.ntmps23
    go_wp2_with fail
    go_ret
    exact ⟨rfl, by first | exact Upd.refl _ _ | exact Upd.alloc _ _ _⟩
  | getf d f =>
    obtain ⟨rfl, b0, b1⟩ := h
    obtain ⟨t0, t1, t2, t3, t4, t5, t6, t7, t8, t9, t10, t11, t12, t13⟩ := as_getf (.agg #[.int .i64 d, .int .i64 f])
    go_enter Try.func23, Try.ntmps23
    go_wp2_with fail
    go_ret
    exact ⟨rfl, by first | exact Upd.refl _ _ | exact Upd.alloc _ _ _⟩
  | putf f s =>
    obtain ⟨rfl, b0, b1⟩ := h
    obtain ⟨t0, t1, t2, t3, t4, t5, t6, t7, t8, t9, t10, t11, t12, t13⟩ := as_putf (.agg #[.int .i64 f, .int .i64 s])
    go_enter Try.func23, Try.ntmps23
    go_wp2_with fail
    go_ret
    exact ⟨rfl, by first | exact Upd.refl _ _ | exact Upd.alloc _ _ _⟩
  | serve op a b d l =>
    obtain ⟨s_, rfl, HL0, b0, b1, b2, b3⟩ := h
    have HL := Lib.hid HL0
    obtain ⟨sa, sc, rfl, hsn, hsm⟩ := HL0.1.slice
    clear HL0
    obtain ⟨t0, t1, t2, t3, t4, t5, t6, t7, t8, t9, t10, t11, t12, t13⟩ := as_serve (.agg #[.int .i64 op, .int .i64 a, .int .i64 b, .int .i64 d, (.slice sa l.length sc)])
    go_enter Try.func23, Try.ntmps23
    go_wp2_with fail
    go_ret
    exact ⟨rfl, by first | exact Upd.refl _ _ | exact Upd.alloc _ _ _⟩
  | call m d l =>
    obtain ⟨s_, rfl, HL0, b0, b1⟩ := h
    have HL := Lib.hid HL0
    obtain ⟨sa, sc, rfl, hsn, hsm⟩ := HL0.1.slice
    clear HL0
    obtain ⟨t0, t1, t2, t3, t4, t5, t6, t7, t8, t9, t10, t11, t12, t13⟩ := as_call (.agg #[.int .i64 m, .int .i64 d, (.slice sa l.length sc)])
    go_enter Try.func23, Try.ntmps23
    go_wp2_with fail
    go_ret
    exact ⟨rfl, by first | exact Upd.refl _ _ | exact Upd.alloc _ _ _⟩
  | callx i d l =>
    obtain ⟨s_, rfl, HL0, b0, b1⟩ := h
    have HL := Lib.hid HL0
    obtain ⟨sa, sc, rfl, hsn, hsm⟩ := HL0.1.slice
    clear HL0
    obtain ⟨t0, t1, t2, t3, t4, t5, t6, t7, t8, t9, t10, t11, t12, t13⟩ := as_callx (.agg #[.int .i64 i, .int .i64 d, (.slice sa l.length sc)])
    go_enter Try.func23, Try.ntmps23
    go_wp2_with fail
    go_ret
    exact ⟨rfl, by first | exact Upd.refl _ _ | exact Upd.alloc _ _ _⟩
  | ret s =>
    obtain ⟨rfl, b0⟩ := h
    obtain ⟨t0, t1, t2, t3, t4, t5, t6, t7, t8, t9, t10, t11, t12, t13⟩ := as_ret (.agg #[.int .i64 s])
    go_enter Try.func23, Try.ntmps23
    go_wp2_with fail
    go_ret
    exact ⟨rfl, by first | exact Upd.refl _ _ | exact Upd.alloc _ _ _⟩
end
end Go.Proofs.Ytkleofpiikbpmaa

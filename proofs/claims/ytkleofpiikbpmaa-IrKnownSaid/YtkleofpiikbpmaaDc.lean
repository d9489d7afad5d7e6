/- Package ir: Uses, Next, and what they stand on. -/
import Derived.Test.YtkleofpiikbpmaaDb
import Derived.Test.YtkleofpiikbpmaaQx
namespace Go.Proofs.Ytkleofpiikbpmaa
open Go.RowKit Go.ChangeShapes Go.WideShapes Go.Deep
set_option linter.unusedVariables false
set_option linter.unusedSimpArgs false
theorem i64_inD (n : Int) (h : -9223372036854775808 ≤ n ∧ n ≤ 9223372036854775807) : IntKind.i64.wrap n = n := by rw [IntKind.wrap_i64]; omega
def intD (L : List Int) (i _j : Nat) : Value := .int .i64 (L.getD i 0)
theorem Sl.cloD {e : TypeId} {sz n : Nat} {w w' : World} {v : Value} {f : Nat → Nat → Value} (h : Clo e sz w v n (cellsQ sz n f) w') : Sl w' v sz n f := by
  refine (Sl.own h.1).congr fun i hi j hj => ?_
  rw [List.getD_eq_getElem?_getD, cellsQ_at hi hj]; rfl
theorem upd_below {w w' : World} (h : Upd (fun _ => False) w w') : Below w.heap.size w w' := h.below (Nat.le_refl _) (fun _ h => h.elim)
theorem Ints.stay {w w' : World} {v : Value} {L : List Int} (h : Ints w v L) (hu : Upd (fun _ => False) w w') : Ints w' v L := h.later (upd_below hu)
theorem NdV.stay {w w' : World} {v : Value} {n : Nd} (h : NdV w v n) (hu : Upd (fun _ => False) w w') : NdV w' v n := h.later (upd_below hu)
theorem Upd.two {w a b : World} (h : Upd (fun _ => False) w a) (k : Upd (fun _ => False) a b) : Upd (fun _ => False) w b := h.trans k (fun _ h _ => h)
theorem ints_lit (w : World) (T : TypeId) (L : List Int) (A : Array Value) (k n : Nat) (hA : A = (L.map (fun x => Value.int .i64 x)).toArray) (hk : k = w.heap.size) (hn : n = L.length) (hL : ∀ x ∈ L, wi64 x) (hm : L.length ≤ 1000) : Ints (w.alloc (.cells A T)) (.slice (some ⟨k, 0, none⟩) n n) L := by
  subst hk; subst hn
  refine ⟨(Sl.lit w T (0, 0) A 1 L.length L.length (by rw [hA]; simp) (Nat.le_refl _) (by unfold maxLen; omega)).congr fun i hi j hj => ?_, hL⟩
  obtain rfl : j = 0 := by omega
  rw [hA, List.getD_eq_getElem?_getD]
  simp [hi]
theorem ints_nil (w : World) : Ints w (.slice none 0 0) [] := ⟨Sl.nil _ _ _, fun _ h => absurd h (by simp)⟩
theorem irClone {w : World} {v : Value} {L : List Int} (h : Ints w v L) (hl : L.length ≤ 100000000) : Calls Try.prog 33 #[v] w fun e w' => ∃ v', e = .returned v' ∧ Ints w' v' L ∧ Upd (fun _ => False) w w' :=
  (clInts w v L.length _ h.1 (fun _ _ _ _ => rfl) hl).mono fun _ _ ⟨v', h1, h2⟩ => ⟨v', h1, ⟨Sl.cloD h2, h.2⟩, h2.2.1⟩
def srcP (s : Int) : List Int := if s = -1 then [] else [s]
theorem irSource (w : World) (s : Int) (hs : wi64 s) : Calls Try.prog 32 #[.int .i64 s] w fun e w' => ∃ v', e = .returned v' ∧ Ints w' v' (srcP s) ∧ Upd (fun _ => False) w w' := by
  unfold srcP
  by_cases h : s = -1
  · subst h
    rw [if_pos rfl]
    go_enter Try.func32, Try.ntmps32
    go_wp2_with fail
    go_ret
    exact ⟨_, rfl, ints_nil _, Upd.refl _ _⟩
  · rw [if_neg h]
    have hb : (s == -1) = false := by simpa using h
    go_enter Try.func32, Try.ntmps32
    go_wp2_with fail
    go_ret
    exact ⟨_, rfl, ints_lit _ _ [s] _ _ _ rfl rfl rfl (by intro x hx; simp at hx; subst hx; exact hs) (by simp), Upd.alloc _ _ _⟩
def argsP : Nd → List Int
  | .serve _ _ _ _ l => l
  | .call _ _ l => l
  | .callx _ _ l => l
  | _ => []
def usesP : Nd → List Int
  | .move _ s => srcP s
  | .bin _ _ a b => [a, b]
  | .un _ _ a => [a]
  | .choose _ c a b => [c, a, b]
  | .branch c _ => [c]
  | .putf _ s => srcP s
  | .serve _ _ _ _ l => l
  | .call _ _ l => l
  | .callx _ _ l => l
  | .ret s => srcP s
  | _ => []
def nextP (at_ : Int) : Nd → List Int
  | .goto t => [t]
  | .branch _ t => if t = at_ + 1 then [t] else [at_ + 1, t]
  | .nil => []
  | .ret _ => []
  | _ => [at_ + 1]
section
variable {w : World} {v : Value} {n : Nd}
set_option maxRecDepth 20000 in
set_option maxHeartbeats 4000000 in
theorem irRead (h : NdV w v n) (hl : (argsP n).length ≤ 100000000) : Calls Try.prog 24 #[v] w fun e w' => ∃ v', e = .returned v' ∧ Ints w' v' (usesP n) ∧ Upd (fun _ => False) w w' := by
  cases n with
  | nil =>
    obtain rfl := h
    obtain ⟨t0, t1, t2, t3, t4, t5, t6, t7, t8, t9, t10, t11, t12, t13⟩ := as_nil
    go_enter Try.func24, Try.ntmps24
    go_wp2_with fail
    go_ret
    exact ⟨_, rfl, ints_nil _, Upd.refl _ _⟩
  | const d n =>
    obtain ⟨rfl, b0⟩ := h
    obtain ⟨t0, t1, t2, t3, t4, t5, t6, t7, t8, t9, t10, t11, t12, t13⟩ := as_const (.agg #[.int .i64 d, .int .i32 (si n)])
    go_enter Try.func24, Try.ntmps24
    go_wp2_with fail
    go_ret
    exact ⟨_, rfl, ints_nil _, Upd.refl _ _⟩
  | move d s =>
    obtain ⟨rfl, b0, b1⟩ := h
    obtain ⟨t0, t1, t2, t3, t4, t5, t6, t7, t8, t9, t10, t11, t12, t13⟩ := as_move (.agg #[.int .i64 d, .int .i64 s])
    go_enter Try.func24, Try.ntmps24
    go_wp2_with fail
    refine (irSource _ s (by assumption)).mono ?_
    rintro e w' ⟨v', rfl, hI, hu⟩
    have HI := Lib.hid (And.intro hI ((Upd.alloc (fun _ => False) w _).two hu))
    clear hI hu
    go_wp2_with fail
    go_ret
    exact ⟨_, rfl, HI.out⟩
  | bin op d a b =>
    obtain ⟨rfl, b0, b1, b2, b3⟩ := h
    obtain ⟨t0, t1, t2, t3, t4, t5, t6, t7, t8, t9, t10, t11, t12, t13⟩ := as_bin (.agg #[.int .i64 op, .int .i64 d, .int .i64 a, .int .i64 b])
    go_enter Try.func24, Try.ntmps24
    go_wp2_with fail
    go_ret
    exact ⟨_, rfl, ints_lit _ _ [a, b] _ _ _ rfl (by simp) rfl (by intro x hx; simp at hx; rcases hx with rfl | rfl <;> assumption) (by simp), (Upd.alloc (fun _ => False) w _).two (Upd.alloc _ _ _)⟩
  | un op d a =>
    obtain ⟨rfl, b0, b1, b2⟩ := h
    obtain ⟨t0, t1, t2, t3, t4, t5, t6, t7, t8, t9, t10, t11, t12, t13⟩ := as_un (.agg #[.int .i64 op, .int .i64 d, .int .i64 a])
    go_enter Try.func24, Try.ntmps24
    go_wp2_with fail
    go_ret
    exact ⟨_, rfl, ints_lit _ _ [a] _ _ _ rfl (by simp) rfl (by intro x hx; simp at hx; subst hx; assumption) (by simp), (Upd.alloc (fun _ => False) w _).two (Upd.alloc _ _ _)⟩
  | choose d c a b =>
    obtain ⟨rfl, b0, b1, b2, b3⟩ := h
    obtain ⟨t0, t1, t2, t3, t4, t5, t6, t7, t8, t9, t10, t11, t12, t13⟩ := as_choose (.agg #[.int .i64 d, .int .i64 c, .int .i64 a, .int .i64 b])
    go_enter Try.func24, Try.ntmps24
    go_wp2_with fail
    go_ret
    exact ⟨_, rfl, ints_lit _ _ [c, a, b] _ _ _ rfl (by simp) rfl (by intro x hx; simp at hx; rcases hx with rfl | rfl | rfl <;> assumption) (by simp), (Upd.alloc (fun _ => False) w _).two (Upd.alloc _ _ _)⟩
  | tick =>
    obtain rfl := h
    obtain ⟨t0, t1, t2, t3, t4, t5, t6, t7, t8, t9, t10, t11, t12, t13⟩ := as_tick (.agg #[])
    go_enter Try.func24, Try.ntmps24
    go_wp2_with fail
    go_ret
    exact ⟨_, rfl, ints_nil _, Upd.refl _ _⟩
  | goto to =>
    obtain ⟨rfl, b0⟩ := h
    obtain ⟨t0, t1, t2, t3, t4, t5, t6, t7, t8, t9, t10, t11, t12, t13⟩ := as_goto (.agg #[.int .i64 to])
    go_enter Try.func24, Try.ntmps24
    go_wp2_with fail
    go_ret
    exact ⟨_, rfl, ints_nil _, Upd.refl _ _⟩
  | branch c to =>
    obtain ⟨rfl, b0, b1⟩ := h
    obtain ⟨t0, t1, t2, t3, t4, t5, t6, t7, t8, t9, t10, t11, t12, t13⟩ := as_branch (.agg #[.int .i64 c, .int .i64 to])
    go_enter Try.func24, Try.ntmps24
    go_wp2_with fail
    go_ret
    exact ⟨_, rfl, ints_lit _ _ [c] _ _ _ rfl (by simp) rfl (by intro x hx; simp at hx; subst hx; assumption) (by simp), (Upd.alloc (fun _ => False) w _).two (Upd.alloc _ _ _)⟩
  | getf d f =>
    obtain ⟨rfl, b0, b1⟩ := h
    obtain ⟨t0, t1, t2, t3, t4, t5, t6, t7, t8, t9, t10, t11, t12, t13⟩ := as_getf (.agg #[.int .i64 d, .int .i64 f])
    go_enter Try.func24, Try.ntmps24
    go_wp2_with fail
    go_ret
    exact ⟨_, rfl, ints_nil _, Upd.refl _ _⟩
  | putf f s =>
    obtain ⟨rfl, b0, b1⟩ := h
    obtain ⟨t0, t1, t2, t3, t4, t5, t6, t7, t8, t9, t10, t11, t12, t13⟩ := as_putf (.agg #[.int .i64 f, .int .i64 s])
    go_enter Try.func24, Try.ntmps24
    go_wp2_with fail
    refine (irSource _ s (by assumption)).mono ?_
    rintro e w' ⟨v', rfl, hI, hu⟩
    have HI := Lib.hid (And.intro hI ((Upd.alloc (fun _ => False) w _).two hu))
    clear hI hu
    go_wp2_with fail
    go_ret
    exact ⟨_, rfl, HI.out⟩
  | serve op a b d l =>
    obtain ⟨s_, rfl, HL0, b0, b1, b2, b3⟩ := h
    have HL := Lib.hid HL0
    obtain ⟨sa, sc, rfl, hsn, hsm⟩ := HL0.1.slice
    clear HL0
    obtain ⟨t0, t1, t2, t3, t4, t5, t6, t7, t8, t9, t10, t11, t12, t13⟩ := as_serve (.agg #[.int .i64 op, .int .i64 a, .int .i64 b, .int .i64 d, (.slice sa l.length sc)])
    go_enter Try.func24, Try.ntmps24
    go_wp2_with fail
    refine (irClone (HL.out.stay (Upd.alloc _ _ _)) hl).mono ?_
    rintro e w' ⟨v', rfl, hI, hu⟩
    have HI := Lib.hid (And.intro hI ((Upd.alloc (fun _ => False) w _).two hu))
    clear hI hu
    go_wp2_with fail
    go_ret
    exact ⟨_, rfl, HI.out⟩
  | call m d l =>
    obtain ⟨s_, rfl, HL0, b0, b1⟩ := h
    have HL := Lib.hid HL0
    obtain ⟨sa, sc, rfl, hsn, hsm⟩ := HL0.1.slice
    clear HL0
    obtain ⟨t0, t1, t2, t3, t4, t5, t6, t7, t8, t9, t10, t11, t12, t13⟩ := as_call (.agg #[.int .i64 m, .int .i64 d, (.slice sa l.length sc)])
    go_enter Try.func24, Try.ntmps24
    go_wp2_with fail
    refine (irClone (HL.out.stay (Upd.alloc _ _ _)) hl).mono ?_
    rintro e w' ⟨v', rfl, hI, hu⟩
    have HI := Lib.hid (And.intro hI ((Upd.alloc (fun _ => False) w _).two hu))
    clear hI hu
    go_wp2_with fail
    go_ret
    exact ⟨_, rfl, HI.out⟩
  | callx i d l =>
    obtain ⟨s_, rfl, HL0, b0, b1⟩ := h
    have HL := Lib.hid HL0
    obtain ⟨sa, sc, rfl, hsn, hsm⟩ := HL0.1.slice
    clear HL0
    obtain ⟨t0, t1, t2, t3, t4, t5, t6, t7, t8, t9, t10, t11, t12, t13⟩ := as_callx (.agg #[.int .i64 i, .int .i64 d, (.slice sa l.length sc)])
    go_enter Try.func24, Try.ntmps24
    go_wp2_with fail
    refine (irClone (HL.out.stay (Upd.alloc _ _ _)) hl).mono ?_
    rintro e w' ⟨v', rfl, hI, hu⟩
    have HI := Lib.hid (And.intro hI ((Upd.alloc (fun _ => False) w _).two hu))
    clear hI hu
    go_wp2_with fail
    go_ret
    exact ⟨_, rfl, HI.out⟩
  | ret s =>
    obtain ⟨rfl, b0⟩ := h
    obtain ⟨t0, t1, t2, t3, t4, t5, t6, t7, t8, t9, t10, t11, t12, t13⟩ := as_ret (.agg #[.int .i64 s])
    go_enter Try.func24, Try.ntmps24
    go_wp2_with fail
    refine (irSource _ s (by assumption)).mono ?_
    rintro e w' ⟨v', rfl, hI, hu⟩
    have HI := Lib.hid (And.intro hI ((Upd.alloc (fun _ => False) w _).two hu))
    clear hI hu
    go_wp2_with fail
    go_ret
    exact ⟨_, rfl, HI.out⟩
set_option maxRecDepth 20000 in
set_option maxHeartbeats 4000000 in
theorem irBehind (h : NdV w v n) (at_ : Int) (h0 : 0 ≤ at_) (h1 : at_ ≤ 1000000000) : Calls Try.prog 25 #[v, .int .i64 at_] w fun e w' => ∃ v', e = .returned v' ∧ Ints w' v' (nextP at_ n) ∧ Upd (fun _ => False) w w' := by
  obtain ⟨nx, hnx⟩ : ∃ nx, at_ + 1 = nx := ⟨_, rfl⟩
  have ha : IntKind.i64.wrap (at_ + 1) = nx := by rw [hnx]; exact i64_inD _ (by omega)
  have hnw : wi64 nx := by unfold wi64; omega
  unfold nextP
  rw [hnx]
  clear hnx h0 h1
  cases n with
  | nil =>
    obtain rfl := h
    obtain ⟨t0, t1, t2, t3, t4, t5, t6, t7, t8, t9, t10, t11, t12, t13⟩ := as_nil
    dsimp only
    go_enter Try.func25, Try.ntmps25
    go_wp2_with fail
    go_ret
    exact ⟨_, rfl, ints_nil _, Upd.refl _ _⟩
  | const d n =>
    obtain ⟨rfl, b0⟩ := h
    obtain ⟨t0, t1, t2, t3, t4, t5, t6, t7, t8, t9, t10, t11, t12, t13⟩ := as_const (.agg #[.int .i64 d, .int .i32 (si n)])
    dsimp only
    go_enter Try.func25, Try.ntmps25
    go_wp2_with fail
    go_ret
    exact ⟨_, rfl, ints_lit _ _ [nx] _ _ _ rfl (by simp) rfl (by intro x hx; simp at hx; subst hx; assumption) (by simp), Upd.alloc _ _ _⟩
  | move d s =>
    obtain ⟨rfl, b0, b1⟩ := h
    obtain ⟨t0, t1, t2, t3, t4, t5, t6, t7, t8, t9, t10, t11, t12, t13⟩ := as_move (.agg #[.int .i64 d, .int .i64 s])
    dsimp only
    go_enter Try.func25, Try.ntmps25
    go_wp2_with fail
    go_ret
    exact ⟨_, rfl, ints_lit _ _ [nx] _ _ _ rfl (by simp) rfl (by intro x hx; simp at hx; subst hx; assumption) (by simp), Upd.alloc _ _ _⟩
  | bin op d a b =>
    obtain ⟨rfl, b0, b1, b2, b3⟩ := h
    obtain ⟨t0, t1, t2, t3, t4, t5, t6, t7, t8, t9, t10, t11, t12, t13⟩ := as_bin (.agg #[.int .i64 op, .int .i64 d, .int .i64 a, .int .i64 b])
    dsimp only
    go_enter Try.func25, Try.ntmps25
    go_wp2_with fail
    go_ret
    exact ⟨_, rfl, ints_lit _ _ [nx] _ _ _ rfl (by simp) rfl (by intro x hx; simp at hx; subst hx; assumption) (by simp), Upd.alloc _ _ _⟩
  | un op d a =>
    obtain ⟨rfl, b0, b1, b2⟩ := h
    obtain ⟨t0, t1, t2, t3, t4, t5, t6, t7, t8, t9, t10, t11, t12, t13⟩ := as_un (.agg #[.int .i64 op, .int .i64 d, .int .i64 a])
    dsimp only
    go_enter Try.func25, Try.ntmps25
    go_wp2_with fail
    go_ret
    exact ⟨_, rfl, ints_lit _ _ [nx] _ _ _ rfl (by simp) rfl (by intro x hx; simp at hx; subst hx; assumption) (by simp), Upd.alloc _ _ _⟩
  | choose d c a b =>
    obtain ⟨rfl, b0, b1, b2, b3⟩ := h
    obtain ⟨t0, t1, t2, t3, t4, t5, t6, t7, t8, t9, t10, t11, t12, t13⟩ := as_choose (.agg #[.int .i64 d, .int .i64 c, .int .i64 a, .int .i64 b])
    dsimp only
    go_enter Try.func25, Try.ntmps25
    go_wp2_with fail
    go_ret
    exact ⟨_, rfl, ints_lit _ _ [nx] _ _ _ rfl (by simp) rfl (by intro x hx; simp at hx; subst hx; assumption) (by simp), Upd.alloc _ _ _⟩
  | tick =>
    obtain rfl := h
    obtain ⟨t0, t1, t2, t3, t4, t5, t6, t7, t8, t9, t10, t11, t12, t13⟩ := as_tick (.agg #[])
    dsimp only
    go_enter Try.func25, Try.ntmps25
    go_wp2_with fail
    go_ret
    exact ⟨_, rfl, ints_lit _ _ [nx] _ _ _ rfl (by simp) rfl (by intro x hx; simp at hx; subst hx; assumption) (by simp), Upd.alloc _ _ _⟩
  | goto to =>
    obtain ⟨rfl, b0⟩ := h
    obtain ⟨t0, t1, t2, t3, t4, t5, t6, t7, t8, t9, t10, t11, t12, t13⟩ := as_goto (.agg #[.int .i64 to])
    dsimp only
    go_enter Try.func25, Try.ntmps25
    go_wp2_with fail
    go_ret
    exact ⟨_, rfl, ints_lit _ _ [to] _ _ _ rfl (by simp) rfl (by intro x hx; simp at hx; subst hx; assumption) (by simp), (Upd.alloc (fun _ => False) w _).two (Upd.alloc _ _ _)⟩
  | branch c to =>
    obtain ⟨rfl, b0, b1⟩ := h
    obtain ⟨t0, t1, t2, t3, t4, t5, t6, t7, t8, t9, t10, t11, t12, t13⟩ := as_branch (.agg #[.int .i64 c, .int .i64 to])
    dsimp only
    by_cases hto : to = nx
    · rw [if_pos hto]
      have hb : (to == nx) = true := by simpa using hto
      clear hto
      go_enter Try.func25, Try.ntmps25
      go_wp2_with fail
      go_ret
      exact ⟨_, rfl, ints_lit _ _ [to] _ _ _ rfl (by simp) rfl (by intro x hx; simp at hx; subst hx; assumption) (by simp), (Upd.alloc (fun _ => False) w _).two (Upd.alloc _ _ _)⟩
    · rw [if_neg hto]
      have hb : (to == nx) = false := by simpa using hto
      clear hto
      go_enter Try.func25, Try.ntmps25
      go_wp2_with fail
      go_ret
      exact ⟨_, rfl, ints_lit _ _ [nx, to] _ _ _ rfl (by simp) rfl (by intro x hx; simp at hx; rcases hx with rfl | rfl <;> assumption) (by simp), (Upd.alloc (fun _ => False) w _).two (Upd.alloc _ _ _)⟩
  | getf d f =>
    obtain ⟨rfl, b0, b1⟩ := h
    obtain ⟨t0, t1, t2, t3, t4, t5, t6, t7, t8, t9, t10, t11, t12, t13⟩ := as_getf (.agg #[.int .i64 d, .int .i64 f])
    dsimp only
    go_enter Try.func25, Try.ntmps25
    go_wp2_with fail
    go_ret
    exact ⟨_, rfl, ints_lit _ _ [nx] _ _ _ rfl (by simp) rfl (by intro x hx; simp at hx; subst hx; assumption) (by simp), Upd.alloc _ _ _⟩
  | putf f s =>
    obtain ⟨rfl, b0, b1⟩ := h
    obtain ⟨t0, t1, t2, t3, t4, t5, t6, t7, t8, t9, t10, t11, t12, t13⟩ := as_putf (.agg #[.int .i64 f, .int .i64 s])
    dsimp only
    go_enter Try.func25, Try.ntmps25
    go_wp2_with fail
    go_ret
    exact ⟨_, rfl, ints_lit _ _ [nx] _ _ _ rfl (by simp) rfl (by intro x hx; simp at hx; subst hx; assumption) (by simp), Upd.alloc _ _ _⟩
  | serve op a b d l =>
    obtain ⟨s_, rfl, HL0, b0, b1, b2, b3⟩ := h
    have HL := Lib.hid HL0
    obtain ⟨sa, sc, rfl, hsn, hsm⟩ := HL0.1.slice
    clear HL0
    obtain ⟨t0, t1, t2, t3, t4, t5, t6, t7, t8, t9, t10, t11, t12, t13⟩ := as_serve (.agg #[.int .i64 op, .int .i64 a, .int .i64 b, .int .i64 d, (.slice sa l.length sc)])
    dsimp only
    go_enter Try.func25, Try.ntmps25
    go_wp2_with fail
    go_ret
    exact ⟨_, rfl, ints_lit _ _ [nx] _ _ _ rfl (by simp) rfl (by intro x hx; simp at hx; subst hx; assumption) (by simp), Upd.alloc _ _ _⟩
  | call m d l =>
    obtain ⟨s_, rfl, HL0, b0, b1⟩ := h
    have HL := Lib.hid HL0
    obtain ⟨sa, sc, rfl, hsn, hsm⟩ := HL0.1.slice
    clear HL0
    obtain ⟨t0, t1, t2, t3, t4, t5, t6, t7, t8, t9, t10, t11, t12, t13⟩ := as_call (.agg #[.int .i64 m, .int .i64 d, (.slice sa l.length sc)])
    dsimp only
    go_enter Try.func25, Try.ntmps25
    go_wp2_with fail
    go_ret
    exact ⟨_, rfl, ints_lit _ _ [nx] _ _ _ rfl (by simp) rfl (by intro x hx; simp at hx; subst hx; assumption) (by simp), Upd.alloc _ _ _⟩
  | callx i d l =>
    obtain ⟨s_, rfl, HL0, b0, b1⟩ := h
    have HL := Lib.hid HL0
    obtain ⟨sa, sc, rfl, hsn, hsm⟩ := HL0.1.slice
    clear HL0
    obtain ⟨t0, t1, t2, t3, t4, t5, t6, t7, t8, t9, t10, t11, t12, t13⟩ := as_callx (.agg #[.int .i64 i, .int .i64 d, (.slice sa l.length sc)])
    dsimp only
    go_enter Try.func25, Try.ntmps25
    go_wp2_with fail
    go_ret
    exact ⟨_, rfl, ints_lit _ _ [nx] _ _ _ rfl (by simp) rfl (by intro x hx; simp at hx; subst hx; assumption) (by simp), Upd.alloc _ _ _⟩
  | ret s =>
    obtain ⟨rfl, b0⟩ := h
    obtain ⟨t0, t1, t2, t3, t4, t5, t6, t7, t8, t9, t10, t11, t12, t13⟩ := as_ret (.agg #[.int .i64 s])
    dsimp only
    go_enter Try.func25, Try.ntmps25
    go_wp2_with fail
    go_ret
    exact ⟨_, rfl, ints_nil _, Upd.refl _ _⟩
end
end Go.Proofs.Ytkleofpiikbpmaa

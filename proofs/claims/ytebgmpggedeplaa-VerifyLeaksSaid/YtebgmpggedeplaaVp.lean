/- Package verify's law VerifyJoins: two ways to one place. -/
import Derived.Test.YtebgmpggedeplaaVo
namespace Go.Proofs.Ytebgmpggedeplaa
open Go.RowKit Go.Lib Go.ChangeShapes Go.WideShapes
set_option linter.unusedVariables false
set_option linter.unusedSimpArgs false

theorem inInfo : (Try.prog.info? 34).map (fun i => (i.zero, i.size, i.bytes)) = some (some (.agg #[.int .i64 0, .int .i64 0, .int .i64 0]), 3, 24) := by kernel_rfl
/-- a code in own memory -/
def COwn (w : World) (v : Value) (C : List InsM) : Prop := w.ownsRow 0 34 3 v C.length (insCells C) ∧ C.all wiI = true
theorem COwn.inss {w : World} {v : Value} {C : List InsM} (h : COwn w v C) : Inss w v C := by
  refine ⟨(Sl.own h.1).congr (fun i hi j hj => insCells_at C i j hi hj), wiI_all h.2⟩
theorem COwn.lit (w : World) (CC : Array Value) (C : List InsM) (n : Nat) (hC : CC.toList = insCells C) (hn : C.length = n) (hw : C.all wiI = true) (hm : n ≤ maxLen) :
    COwn (w.alloc (.cells CC 34)) (.slice (some ⟨w.heap.size, 0, none⟩) n n) C := by
  subst hn
  have h := World.ownsRow_lit (e := 34) (size := 3) (base := 0) w CC C.length (Nat.zero_le _) hm (by rw [← Array.length_toList, hC, insCells_len])
  rw [hC] at h
  exact ⟨h, hw⟩
theorem COwn.upd {w w' : World} {v : Value} {C : List InsM} (h : COwn w v C) (hu : Upd (fun _ => False) w w') : COwn w' v C := ⟨ownsRow_upd h.1 hu (fun _ _ h => h), h.2⟩
theorem inss_src {w : World} {v : Value} {C : List InsM} (h : Inss w v C) (h0 : 0 < C.length) : Src w 3 v C.length (insCells C) := by
  obtain ⟨⟨a, c, rfl, h1, h2, h3⟩, hw⟩ := h
  rcases h3 with h3 | ⟨g, off, rfl, h4⟩
  · omega
  · refine .inr ⟨_, c, rfl, insCells_len C, fun j u hj => ?_, fun u hu => ?_⟩
    · rw [addr_add]
      have hlt : j < C.length * 3 := by
        have := (List.getElem?_eq_some_iff.1 hj).1
        rwa [insCells_len] at this
      have h5 := h4 (j / 3) (by omega) (j % 3) (Nat.mod_lt _ (by omega))
      rw [show off + j / 3 * 3 + j % 3 = off + j by omega] at h5
      rw [h5, ← insCells_at C (j / 3) (j % 3) (by omega) (Nat.mod_lt _ (by omega)), show j / 3 * 3 + j % 3 = j by omega]
      simp [List.getD, hj]
    · have : ∀ (C : List InsM) (u : Value), u ∈ insCells C → u.oneCell' = true := by
        intro C
        induction C with
        | nil => intro u h; simp [insCells] at h
        | cons x r ih =>
          intro u h
          simp only [insCells, List.mem_cons] at h
          rcases h with rfl | rfl | rfl | h
          · rfl
          · rfl
          · rfl
          · exact ih u h
      exact this C u hu
/-- append of instructions -/
theorem wp_append_code {P : Program} (w : World) {ops : Array Oper} {rest : List Oper} {o : Oper} {a : Act} {Q : Exit → Act → World → Prop} (hgd : o.guard = none) (s x : Operand) (t : TypeId)
    (ho : o.op = .call { callee := .builtin .append, args := #[s, x], argTypes := #[t, t] })
    (i : TypeInfo) (z : Value) (ht : P.underlying t = some (.slice 34)) (hi : P.info? 34 = some i) (hz : i.zero = some z)
    (hsize : i.size = 3) (hby : i.bytes = 24) (hzs : z.cells.size = 3)
    (v : Value) (C : List InsM) (n : Nat) (hn : C.length = n) (hs : a.eval s = v) (hown : COwn w v C)
    (D : List InsM) (u : Value) (hu : a.eval x = u) (hx : Inss w u D) (hd : D.all wiI = true) (h0 : 0 < D.length) (m : Nat) (hm : D.length = m)
    (h63 : n + m ≤ 100000)
    (h : ∀ b c w', COwn w' (.slice b (n + m) c) (C ++ D) → Upd (fun k => v.ownBlock = some k) w w' → (∀ k, (Value.slice b (n + m) c).ownBlock = some k → v.ownBlock = some k ∨ w.heap.size ≤ k) → wpList P ops Q rest (a.put o.dst (.slice b (n + m) c)) w') : wpList P ops Q (o :: rest) a w := by
  subst hn hm
  refine wpList_append_mine w hgd s x t ho 0 _ i z 3 24 ht hi hz hsize hby hzs (by omega) v C.length (insCells C) hs hown.1 D.length (insCells D) (by rw [hu]; exact inss_src hx h0) (by unfold maxLen; omega) (by omega) (Nat.zero_le _) ?_
  intro v' w' h1 h2 h3
  obtain ⟨b, c, rfl⟩ := ownsRow_slice h1
  refine h b c w' ⟨by rw [insCells_append, List.length_append]; exact h1, by rw [List.all_append, hown.2, hd]; rfl⟩ (Upd.row (Upd.refl _ _) h2) h3

theorem app_up {w w1 w2 : World} {v v' : Value} (HU : Upd (fun _ => False) w w1) (HF : ∀ k, v.ownBlock = some k → w.heap.size ≤ k) (hu : Upd (fun k => v.ownBlock = some k) w1 w2) (hf : ∀ k, v'.ownBlock = some k → v.ownBlock = some k ∨ w1.heap.size ≤ k) :
    Upd (fun _ => False) w w2 ∧ ∀ k, v'.ownBlock = some k → w.heap.size ≤ k := by
  refine ⟨HU.trans hu (fun i h hlt => by have := HF i h; omega), fun k hk => ?_⟩
  rcases hf k hk with h | h
  · exact HF k h
  · exact Nat.le_trans HU.size h
def wayL (b : Bool) : List InsM := [⟨35, if b then 2 else 1, 0⟩, ⟨1, 0, 0⟩, ⟨29, 0, 0⟩]
set_option maxRecDepth 100000 in
theorem lWay (w : World) (b : Bool) : Calls Try.prog 12 #[.bool b] w fun e w' => ∃ r c, e = .returned (.slice r 3 c) ∧ Inss w' (.slice r 3 c) (wayL b) ∧ Upd (fun _ => False) w w' := by
  cases b
  all_goals
    go_enter Try.func12, Try.ntmps12
    go_wp2_with fail
    go_ret
    exact ⟨_, _, rfl, inss_lit _ _ _ _ (wayL _) 3 _ rfl rfl rfl rfl (by unfold maxLen; omega), Upd.alloc _ _ _⟩
theorem way_ok (b : Bool) : (wayL b).all wiI = true := by cases b <;> rfl

def endI (ask : Bool) : InsM := if ask then ⟨27, 3, 0⟩ else ⟨4, 0, 0⟩
def J1 : List InsM := [⟨1, 1, 0⟩, ⟨24, 6, 0⟩]
def J2 (l : Bool) : List InsM := J1 ++ wayL l
def J3 (l : Bool) : List InsM := J2 l ++ [⟨23, 9, 0⟩]
def J4 (l r : Bool) : List InsM := J3 l ++ wayL r
def codeJ (l r ask : Bool) : List InsM := J4 l r ++ [endI ask, ⟨39, 0, 0⟩]
def badJ (l r ask : Bool) : Bool := ask && (l || r)
theorem vJ (l r ask : Bool) : verifyP (oneI (codeJ l r ask)) 100 = some (0, if badJ l r ask then 9 else 0, if badJ l r ask then 12 else 0) := by
  cases l <;> cases r <;> cases ask <;> kernel_rfl
def mJ (l r ask : Bool) : List PlM := ((methP (oneI (codeJ l r ask)) 0 100).getD ([], 0, 0)).1
theorem mJ_is (l r ask : Bool) (h : badJ l r ask = false) : methP (oneI (codeJ l r ask)) 0 100 = some (mJ l r ask, 0, 0) ∧ (mJ l r ask).length = 11 ∧ ((mJ l r ask).getD 9 default).st = [if l || r then 2 else 1] := by
  cases l <;> cases r <;> cases ask <;> first | (cases h; done) | exact ⟨by kernel_rfl, by kernel_rfl, by kernel_rfl⟩

/-- a box of five cells -/
theorem cell5a {w w' : World} {x0 x1 x2 x3 x4 : Value} {t : TypeId} {g : Nat} (hg : g = w.heap.size) (hu : Upd (fun _ => False) (w.alloc (.cells #[x0, x1, x2, x3, x4] t)) w') :
    w'.cell? ⟨g, 0, none⟩ = some x0 ∧ w'.cell? ⟨g, 1, none⟩ = some x1 ∧ w'.cell? ⟨g, 2, none⟩ = some x2 ∧ w'.cell? ⟨g, 3, none⟩ = some x3 ∧ w'.cell? ⟨g, 4, none⟩ = some x4 := by
  subst hg
  exact cell5 hu (fun h => h)
set_option maxRecDepth 100000 in
set_option maxHeartbeats 16000000 in
theorem joins_walk (l r ask : Bool) (w : World) : Calls Try.prog 5 #[.bool l, .bool r, .bool ask] w fun e w' => e = .returned (.bool true) ∧ Upd (fun _ => False) w w' := by
  obtain ⟨i0, hi, hz0, hz1, hz2⟩ := info_parts inInfo
  have HO0 := Lib.hid (COwn.lit w #[.int .i64 1, .int .i64 1, .int .i64 0, .int .i64 24, .int .i64 6, .int .i64 0] J1 2 rfl rfl rfl (by unfold maxLen; omega))
  have HU0 := Lib.hid (Upd.alloc (fun _ => False) w (.cells #[.int .i64 1, .int .i64 1, .int .i64 0, .int .i64 24, .int .i64 6, .int .i64 0] 34))
  have HF0 : Hid (∀ k, (Value.slice (some ⟨w.heap.size, 0, none⟩) 2 2).ownBlock = some k → w.heap.size ≤ k) := Lib.hid (by intro k hk; simp [Value.ownBlock] at hk; omega)
  cases ask
  · go_enter Try.func5, Try.ntmps5
    go_wp2_with fail
    refine (lWay _ l).mono ?_
    rintro e w1 ⟨ra, rc, rfl, hin, hu⟩
    have HO1 := Lib.hid (HO0.out.upd hu)
    have HU1 := Lib.hid (HU0.out.trans hu (fun _ h _ => h))
    have HI1 := Lib.hid hin
    clear hin hu
    go_wp2_with (at_builtin; go_loud (refine wp_append_code _ rfl _ _ 40 rfl i0 (.agg #[.int .i64 0, .int .i64 0, .int .i64 0]) Try.underlying40 hi hz0 hz1 hz2 rfl _ J1 2 rfl rfl HO1.out (wayL l) _ rfl HI1.out (way_ok l) (by show 0 < 3; omega) 3 rfl (by omega) ?_))
    intro b2 c2 w2 ho hu hf
    have HO2 : Hid (COwn w2 (.slice b2 5 c2) (J2 l)) := Lib.hid ho
    have HUF := app_up HU1.out HF0.out hu hf
    have HU2 := Lib.hid HUF.1
    have HF2 := Lib.hid HUF.2
    clear ho hu hf HUF
    have HA2 := Lib.hid (Upd.alloc (fun _ => False) w2 (.cells #[.int .i64 23, .int .i64 9, .int .i64 0] 34))
    have HUA2 := Lib.hid (HU2.out.trans HA2.out (fun _ h _ => h))
    go_wp2_with (at_builtin; go_loud (refine wp_append_code _ rfl _ _ 40 rfl i0 (.agg #[.int .i64 0, .int .i64 0, .int .i64 0]) Try.underlying40 hi hz0 hz1 hz2 rfl _ (J2 l) 5 rfl rfl (HO2.out.upd HA2.out) [⟨23, 9, 0⟩] _ rfl (inss_lit _ _ _ _ _ 1 _ (by simp) rfl rfl rfl (by unfold maxLen; omega)) rfl (by decide) 1 rfl (by omega) ?_))
    intro b3 c3 w3 ho hu hf
    have HO3 : Hid (COwn w3 (.slice b3 6 c3) (J3 l)) := Lib.hid ho
    have HUF := app_up HUA2.out HF2.out hu (fun k hk => by have h := hf k hk; simpa using h)
    have HU3 := Lib.hid HUF.1
    have HF3 := Lib.hid HUF.2
    clear ho hu hf HUF
    go_wp2_with fail
    refine (lWay _ r).mono ?_
    rintro e w4 ⟨sa, sc, rfl, hin, hu⟩
    have HO4 := Lib.hid (HO3.out.upd hu)
    have HU4 := Lib.hid (HU3.out.trans hu (fun _ h _ => h))
    have HI4 := Lib.hid hin
    clear hin hu
    go_wp2_with (at_builtin; go_loud (refine wp_append_code _ rfl _ _ 40 rfl i0 (.agg #[.int .i64 0, .int .i64 0, .int .i64 0]) Try.underlying40 hi hz0 hz1 hz2 rfl _ (J3 l) 6 rfl rfl HO4.out (wayL r) _ rfl HI4.out (way_ok r) (by show 0 < 3; omega) 3 rfl (by omega) ?_))
    intro b5 c5 w5 ho hu hf
    have HO5 : Hid (COwn w5 (.slice b5 9 c5) (J4 l r)) := Lib.hid ho
    have HUF := app_up HU4.out HF3.out hu hf
    have HU5 := Lib.hid HUF.1
    have HF5 := Lib.hid HUF.2
    clear ho hu hf HUF
    have HA5 := Lib.hid ((Upd.alloc (fun _ => False) w5 (.cells #[.int .i64 4, .int .i64 0, .int .i64 0] 34)).trans (Upd.alloc (fun _ => False) _ (.cells #[.int .i64 4, .int .i64 0, .int .i64 0, .int .i64 39, .int .i64 0, .int .i64 0] 34)) (fun _ h _ => h))
    have HUA5 := Lib.hid (HU5.out.trans HA5.out (fun _ h _ => h))
    go_wp2_with (at_builtin; go_loud (refine wp_append_code _ rfl _ _ 40 rfl i0 (.agg #[.int .i64 0, .int .i64 0, .int .i64 0]) Try.underlying40 hi hz0 hz1 hz2 rfl _ (J4 l r) 9 rfl rfl (HO5.out.upd HA5.out) [endI false, ⟨39, 0, 0⟩] _ rfl (inss_lit _ _ _ _ _ 2 _ (by simp) rfl rfl rfl (by unfold maxLen; omega)) rfl (by decide) 2 rfl (by omega) ?_))
    intro b6 c6 w6 ho hu hf
    have HO6 : Hid (COwn w6 (.slice b6 11 c6) (codeJ l r false)) := Lib.hid ho
    have HUF := app_up HUA5.out HF5.out hu (fun k hk => by have h := hf k hk; simpa using h)
    have HU6 := Lib.hid HUF.1
    clear ho hu hf HUF
    have HA6 := Lib.hid (Upd.alloc (fun _ => False) w6 (.cells #[.slice none 0 0, .int .i64 0, .slice none 0 0, .slice b6 11 c6] 43))
    have HM6 := Lib.hid (mets_lit1 (w := w6) (e := 43) (fr := (0, 0)) (P := .slice none 0 0) (Q := .slice none 0 0) (R := .slice b6 11 c6) (M := ⟨[], 0, [], codeJ l r false⟩) (g := w6.heap.size) rfl (Ints.nil _) (Ints.nil _) (HO6.out.inss.later (lbBelow HA6.out)) (show wi64 0 from wi_small (by omega) (by omega)))
    have HB6 := Lib.hid (Upd.alloc (fun _ => False) (w6.alloc (.cells #[.slice none 0 0, .int .i64 0, .slice none 0 0, .slice b6 11 c6] 43)) (.cells #[.string aName, .slice none 0 0, .slice none 0 0, .slice (some ⟨w6.heap.size, 0, none⟩) 1 1, .slice none 0 0] 31))
    have HIM := Lib.hid (show Img ((w6.alloc (.cells #[.slice none 0 0, .int .i64 0, .slice none 0 0, .slice b6 11 c6] 43)).alloc (.cells #[.string aName, .slice none 0 0, .slice none 0 0, .slice (some ⟨w6.heap.size, 0, none⟩) 1 1, .slice none 0 0] 31)) (img5 aName (.slice none 0 0) (.slice none 0 0) (.slice (some ⟨w6.heap.size, 0, none⟩) 1 1) (.slice none 0 0)) (oneI (codeJ l r false)) from ⟨_, _, _, _, rfl, Ints.nil _, Imps.nil _, HM6.out.later (lbBelow HB6.out), Ints.nil _, by show (1 : Nat) ≤ maxLen; unfold maxLen; omega⟩)
    have HU6B := Lib.hid (HU6.out.trans (HA6.out.trans HB6.out (fun _ h _ => h)) (fun _ h _ => h))
    go_wp2_with fail
    refine (vVerify _ _ (oneI (codeJ l r false)) HIM.out 100 0 _ _ (vJ l r false)).mono ?_
    rintro e w7 ⟨rfl, hu7⟩
    have HU7 := Lib.hid (HU6B.out.trans hu7 (fun _ h _ => h))
    have HC7 := Lib.hid (cell5a (g := w6.heap.size + 1) (by simp) hu7)
    have HIM7 := Lib.hid (HIM.out.later (lbBelow hu7))
    clear hu7
    cases l
    · cases r
      · have HA7 := Lib.hid (Upd.alloc (fun _ => False) w7 (.cells #[.int .i64 0, .int .i64 0] 23))
        have HM7 := Lib.hid (mJ_is false false false rfl)
        have HU7A := Lib.hid (HU7.out.trans HA7.out (fun _ h _ => h))
        obtain ⟨d0, d1, d2, d3, d4⟩ := keep5 HA7.out HC7.out
        go_wp2_with fail
        refine (vStates _ _ (oneI (codeJ false false false)) (HIM7.out.later (lbBelow HA7.out)) 100 0 0 (vJ false false false) 0 (by decide) _ 0 HM7.out.1 (by rw [HM7.out.2.1]; omega)).mono ?_
        rw [HM7.out.2.1]
        rintro e w8 ⟨gs, rfl, hs, hu8⟩
        have HU8 := Lib.hid (HU7A.out.trans hu8 (fun _ h _ => h))
        have HS8 := Lib.hid hs
        clear hs hu8 d0 d1 d2 d3 d4
        go_wp2_with fail
        refine (known7 _).mono ?_
        rintro e w9 ⟨rfl, hu9⟩
        have HU9 := Lib.hid (HU8.out.trans hu9 (fun _ h _ => h))
        obtain ⟨v9, s9, hs9⟩ := (HS8.out.upd hu9).2 9 (by decide)
        have hr9 := (hs9 (by decide)).1
        rw [HM7.out.2.2] at hr9
        obtain ⟨a9, n9, rfl, -, -⟩ := hr9.slice
        obtain ⟨g9, o9, rfl, c9, -⟩ := hr9.at (k := 0) (by decide)
        clear hu9 hs9 hr9
        simp only [List.getD_cons_zero, List.length_cons, List.length_nil, Nat.zero_add, Nat.add_zero, Bool.or_false, Bool.or_true, Bool.false_eq_true, if_false, if_true] at s9 c9
        go_wp2_with fail
        go_ret
        exact ⟨rfl, HU9.out⟩
      · have HA7 := Lib.hid (Upd.alloc (fun _ => False) w7 (.cells #[.int .i64 0, .int .i64 0] 23))
        have HM7 := Lib.hid (mJ_is false true false rfl)
        have HU7A := Lib.hid (HU7.out.trans HA7.out (fun _ h _ => h))
        obtain ⟨d0, d1, d2, d3, d4⟩ := keep5 HA7.out HC7.out
        go_wp2_with fail
        refine (vStates _ _ (oneI (codeJ false true false)) (HIM7.out.later (lbBelow HA7.out)) 100 0 0 (vJ false true false) 0 (by decide) _ 0 HM7.out.1 (by rw [HM7.out.2.1]; omega)).mono ?_
        rw [HM7.out.2.1]
        rintro e w8 ⟨gs, rfl, hs, hu8⟩
        have HU8 := Lib.hid (HU7A.out.trans hu8 (fun _ h _ => h))
        have HS8 := Lib.hid hs
        clear hs hu8 d0 d1 d2 d3 d4
        go_wp2_with fail
        refine (known7 _).mono ?_
        rintro e w9 ⟨rfl, hu9⟩
        have HU9 := Lib.hid (HU8.out.trans hu9 (fun _ h _ => h))
        obtain ⟨v9, s9, hs9⟩ := (HS8.out.upd hu9).2 9 (by decide)
        have hr9 := (hs9 (by decide)).1
        rw [HM7.out.2.2] at hr9
        obtain ⟨a9, n9, rfl, -, -⟩ := hr9.slice
        obtain ⟨g9, o9, rfl, c9, -⟩ := hr9.at (k := 0) (by decide)
        clear hu9 hs9 hr9
        simp only [List.getD_cons_zero, List.length_cons, List.length_nil, Nat.zero_add, Nat.add_zero, Bool.or_false, Bool.or_true, Bool.false_eq_true, if_false, if_true] at s9 c9
        go_wp2_with fail
        go_ret
        exact ⟨rfl, HU9.out⟩
    · cases r
      · have HA7 := Lib.hid (Upd.alloc (fun _ => False) w7 (.cells #[.int .i64 0, .int .i64 0] 23))
        have HM7 := Lib.hid (mJ_is true false false rfl)
        have HU7A := Lib.hid (HU7.out.trans HA7.out (fun _ h _ => h))
        obtain ⟨d0, d1, d2, d3, d4⟩ := keep5 HA7.out HC7.out
        go_wp2_with fail
        refine (vStates _ _ (oneI (codeJ true false false)) (HIM7.out.later (lbBelow HA7.out)) 100 0 0 (vJ true false false) 0 (by decide) _ 0 HM7.out.1 (by rw [HM7.out.2.1]; omega)).mono ?_
        rw [HM7.out.2.1]
        rintro e w8 ⟨gs, rfl, hs, hu8⟩
        have HU8 := Lib.hid (HU7A.out.trans hu8 (fun _ h _ => h))
        have HS8 := Lib.hid hs
        clear hs hu8 d0 d1 d2 d3 d4
        go_wp2_with fail
        refine (known7 _).mono ?_
        rintro e w9 ⟨rfl, hu9⟩
        have HU9 := Lib.hid (HU8.out.trans hu9 (fun _ h _ => h))
        obtain ⟨v9, s9, hs9⟩ := (HS8.out.upd hu9).2 9 (by decide)
        have hr9 := (hs9 (by decide)).1
        rw [HM7.out.2.2] at hr9
        obtain ⟨a9, n9, rfl, -, -⟩ := hr9.slice
        obtain ⟨g9, o9, rfl, c9, -⟩ := hr9.at (k := 0) (by decide)
        clear hu9 hs9 hr9
        simp only [List.getD_cons_zero, List.length_cons, List.length_nil, Nat.zero_add, Nat.add_zero, Bool.or_false, Bool.or_true, Bool.false_eq_true, if_false, if_true] at s9 c9
        go_wp2_with fail
        go_ret
        exact ⟨rfl, HU9.out⟩
      · have HA7 := Lib.hid (Upd.alloc (fun _ => False) w7 (.cells #[.int .i64 0, .int .i64 0] 23))
        have HM7 := Lib.hid (mJ_is true true false rfl)
        have HU7A := Lib.hid (HU7.out.trans HA7.out (fun _ h _ => h))
        obtain ⟨d0, d1, d2, d3, d4⟩ := keep5 HA7.out HC7.out
        go_wp2_with fail
        refine (vStates _ _ (oneI (codeJ true true false)) (HIM7.out.later (lbBelow HA7.out)) 100 0 0 (vJ true true false) 0 (by decide) _ 0 HM7.out.1 (by rw [HM7.out.2.1]; omega)).mono ?_
        rw [HM7.out.2.1]
        rintro e w8 ⟨gs, rfl, hs, hu8⟩
        have HU8 := Lib.hid (HU7A.out.trans hu8 (fun _ h _ => h))
        have HS8 := Lib.hid hs
        clear hs hu8 d0 d1 d2 d3 d4
        go_wp2_with fail
        refine (known7 _).mono ?_
        rintro e w9 ⟨rfl, hu9⟩
        have HU9 := Lib.hid (HU8.out.trans hu9 (fun _ h _ => h))
        obtain ⟨v9, s9, hs9⟩ := (HS8.out.upd hu9).2 9 (by decide)
        have hr9 := (hs9 (by decide)).1
        rw [HM7.out.2.2] at hr9
        obtain ⟨a9, n9, rfl, -, -⟩ := hr9.slice
        obtain ⟨g9, o9, rfl, c9, -⟩ := hr9.at (k := 0) (by decide)
        clear hu9 hs9 hr9
        simp only [List.getD_cons_zero, List.length_cons, List.length_nil, Nat.zero_add, Nat.add_zero, Bool.or_false, Bool.or_true, Bool.false_eq_true, if_false, if_true] at s9 c9
        go_wp2_with fail
        go_ret
        exact ⟨rfl, HU9.out⟩
  · go_enter Try.func5, Try.ntmps5
    go_wp2_with fail
    refine (lWay _ l).mono ?_
    rintro e w1 ⟨ra, rc, rfl, hin, hu⟩
    have HO1 := Lib.hid (HO0.out.upd hu)
    have HU1 := Lib.hid (HU0.out.trans hu (fun _ h _ => h))
    have HI1 := Lib.hid hin
    clear hin hu
    go_wp2_with (at_builtin; go_loud (refine wp_append_code _ rfl _ _ 40 rfl i0 (.agg #[.int .i64 0, .int .i64 0, .int .i64 0]) Try.underlying40 hi hz0 hz1 hz2 rfl _ J1 2 rfl rfl HO1.out (wayL l) _ rfl HI1.out (way_ok l) (by show 0 < 3; omega) 3 rfl (by omega) ?_))
    intro b2 c2 w2 ho hu hf
    have HO2 : Hid (COwn w2 (.slice b2 5 c2) (J2 l)) := Lib.hid ho
    have HUF := app_up HU1.out HF0.out hu hf
    have HU2 := Lib.hid HUF.1
    have HF2 := Lib.hid HUF.2
    clear ho hu hf HUF
    have HA2 := Lib.hid (Upd.alloc (fun _ => False) w2 (.cells #[.int .i64 23, .int .i64 9, .int .i64 0] 34))
    have HUA2 := Lib.hid (HU2.out.trans HA2.out (fun _ h _ => h))
    go_wp2_with (at_builtin; go_loud (refine wp_append_code _ rfl _ _ 40 rfl i0 (.agg #[.int .i64 0, .int .i64 0, .int .i64 0]) Try.underlying40 hi hz0 hz1 hz2 rfl _ (J2 l) 5 rfl rfl (HO2.out.upd HA2.out) [⟨23, 9, 0⟩] _ rfl (inss_lit _ _ _ _ _ 1 _ (by simp) rfl rfl rfl (by unfold maxLen; omega)) rfl (by decide) 1 rfl (by omega) ?_))
    intro b3 c3 w3 ho hu hf
    have HO3 : Hid (COwn w3 (.slice b3 6 c3) (J3 l)) := Lib.hid ho
    have HUF := app_up HUA2.out HF2.out hu (fun k hk => by have h := hf k hk; simpa using h)
    have HU3 := Lib.hid HUF.1
    have HF3 := Lib.hid HUF.2
    clear ho hu hf HUF
    go_wp2_with fail
    refine (lWay _ r).mono ?_
    rintro e w4 ⟨sa, sc, rfl, hin, hu⟩
    have HO4 := Lib.hid (HO3.out.upd hu)
    have HU4 := Lib.hid (HU3.out.trans hu (fun _ h _ => h))
    have HI4 := Lib.hid hin
    clear hin hu
    go_wp2_with (at_builtin; go_loud (refine wp_append_code _ rfl _ _ 40 rfl i0 (.agg #[.int .i64 0, .int .i64 0, .int .i64 0]) Try.underlying40 hi hz0 hz1 hz2 rfl _ (J3 l) 6 rfl rfl HO4.out (wayL r) _ rfl HI4.out (way_ok r) (by show 0 < 3; omega) 3 rfl (by omega) ?_))
    intro b5 c5 w5 ho hu hf
    have HO5 : Hid (COwn w5 (.slice b5 9 c5) (J4 l r)) := Lib.hid ho
    have HUF := app_up HU4.out HF3.out hu hf
    have HU5 := Lib.hid HUF.1
    have HF5 := Lib.hid HUF.2
    clear ho hu hf HUF
    have HA5 := Lib.hid ((Upd.alloc (fun _ => False) w5 (.cells #[.int .i64 27, .int .i64 3, .int .i64 0] 34)).trans (Upd.alloc (fun _ => False) _ (.cells #[.int .i64 27, .int .i64 3, .int .i64 0, .int .i64 39, .int .i64 0, .int .i64 0] 34)) (fun _ h _ => h))
    have HUA5 := Lib.hid (HU5.out.trans HA5.out (fun _ h _ => h))
    go_wp2_with (at_builtin; go_loud (refine wp_append_code _ rfl _ _ 40 rfl i0 (.agg #[.int .i64 0, .int .i64 0, .int .i64 0]) Try.underlying40 hi hz0 hz1 hz2 rfl _ (J4 l r) 9 rfl rfl (HO5.out.upd HA5.out) [endI true, ⟨39, 0, 0⟩] _ rfl (inss_lit _ _ _ _ _ 2 _ (by simp) rfl rfl rfl (by unfold maxLen; omega)) rfl (by decide) 2 rfl (by omega) ?_))
    intro b6 c6 w6 ho hu hf
    have HO6 : Hid (COwn w6 (.slice b6 11 c6) (codeJ l r true)) := Lib.hid ho
    have HUF := app_up HUA5.out HF5.out hu (fun k hk => by have h := hf k hk; simpa using h)
    have HU6 := Lib.hid HUF.1
    clear ho hu hf HUF
    have HA6 := Lib.hid (Upd.alloc (fun _ => False) w6 (.cells #[.slice none 0 0, .int .i64 0, .slice none 0 0, .slice b6 11 c6] 43))
    have HM6 := Lib.hid (mets_lit1 (w := w6) (e := 43) (fr := (0, 0)) (P := .slice none 0 0) (Q := .slice none 0 0) (R := .slice b6 11 c6) (M := ⟨[], 0, [], codeJ l r true⟩) (g := w6.heap.size) rfl (Ints.nil _) (Ints.nil _) (HO6.out.inss.later (lbBelow HA6.out)) (show wi64 0 from wi_small (by omega) (by omega)))
    have HB6 := Lib.hid (Upd.alloc (fun _ => False) (w6.alloc (.cells #[.slice none 0 0, .int .i64 0, .slice none 0 0, .slice b6 11 c6] 43)) (.cells #[.string aName, .slice none 0 0, .slice none 0 0, .slice (some ⟨w6.heap.size, 0, none⟩) 1 1, .slice none 0 0] 31))
    have HIM := Lib.hid (show Img ((w6.alloc (.cells #[.slice none 0 0, .int .i64 0, .slice none 0 0, .slice b6 11 c6] 43)).alloc (.cells #[.string aName, .slice none 0 0, .slice none 0 0, .slice (some ⟨w6.heap.size, 0, none⟩) 1 1, .slice none 0 0] 31)) (img5 aName (.slice none 0 0) (.slice none 0 0) (.slice (some ⟨w6.heap.size, 0, none⟩) 1 1) (.slice none 0 0)) (oneI (codeJ l r true)) from ⟨_, _, _, _, rfl, Ints.nil _, Imps.nil _, HM6.out.later (lbBelow HB6.out), Ints.nil _, by show (1 : Nat) ≤ maxLen; unfold maxLen; omega⟩)
    have HU6B := Lib.hid (HU6.out.trans (HA6.out.trans HB6.out (fun _ h _ => h)) (fun _ h _ => h))
    go_wp2_with fail
    refine (vVerify _ _ (oneI (codeJ l r true)) HIM.out 100 0 _ _ (vJ l r true)).mono ?_
    rintro e w7 ⟨rfl, hu7⟩
    have HU7 := Lib.hid (HU6B.out.trans hu7 (fun _ h _ => h))
    have HC7 := Lib.hid (cell5a (g := w6.heap.size + 1) (by simp) hu7)
    have HIM7 := Lib.hid (HIM.out.later (lbBelow hu7))
    clear hu7
    cases l
    · cases r
      · have HA7 := Lib.hid (Upd.alloc (fun _ => False) w7 (.cells #[.int .i64 0, .int .i64 0] 23))
        have HM7 := Lib.hid (mJ_is false false true rfl)
        have HU7A := Lib.hid (HU7.out.trans HA7.out (fun _ h _ => h))
        obtain ⟨d0, d1, d2, d3, d4⟩ := keep5 HA7.out HC7.out
        go_wp2_with fail
        refine (vStates _ _ (oneI (codeJ false false true)) (HIM7.out.later (lbBelow HA7.out)) 100 0 0 (vJ false false true) 0 (by decide) _ 0 HM7.out.1 (by rw [HM7.out.2.1]; omega)).mono ?_
        rw [HM7.out.2.1]
        rintro e w8 ⟨gs, rfl, hs, hu8⟩
        have HU8 := Lib.hid (HU7A.out.trans hu8 (fun _ h _ => h))
        have HS8 := Lib.hid hs
        clear hs hu8 d0 d1 d2 d3 d4
        go_wp2_with fail
        refine (known7 _).mono ?_
        rintro e w9 ⟨rfl, hu9⟩
        have HU9 := Lib.hid (HU8.out.trans hu9 (fun _ h _ => h))
        obtain ⟨v9, s9, hs9⟩ := (HS8.out.upd hu9).2 9 (by decide)
        have hr9 := (hs9 (by decide)).1
        rw [HM7.out.2.2] at hr9
        obtain ⟨a9, n9, rfl, -, -⟩ := hr9.slice
        obtain ⟨g9, o9, rfl, c9, -⟩ := hr9.at (k := 0) (by decide)
        clear hu9 hs9 hr9
        simp only [List.getD_cons_zero, List.length_cons, List.length_nil, Nat.zero_add, Nat.add_zero, Bool.or_false, Bool.or_true, Bool.false_eq_true, if_false, if_true] at s9 c9
        go_wp2_with fail
        go_ret
        exact ⟨rfl, HU9.out⟩
      · have HA7 := Lib.hid (Upd.alloc (fun _ => False) w7 (.cells #[.int .i64 0, .int .i64 9] 23))
        have HU7A := Lib.hid (HU7.out.trans HA7.out (fun _ h _ => h))
        go_wp2_with fail
        refine (known7 _).mono ?_
        rintro e w9 ⟨rfl, hu9⟩
        have HU9 := Lib.hid (HU7A.out.trans hu9 (fun _ h _ => h))
        obtain ⟨y0, y1⟩ := box2c hu9
        clear hu9
        go_wp2_with fail
        go_ret
        exact ⟨rfl, HU9.out⟩
    · cases r
      · have HA7 := Lib.hid (Upd.alloc (fun _ => False) w7 (.cells #[.int .i64 0, .int .i64 9] 23))
        have HU7A := Lib.hid (HU7.out.trans HA7.out (fun _ h _ => h))
        go_wp2_with fail
        refine (known7 _).mono ?_
        rintro e w9 ⟨rfl, hu9⟩
        have HU9 := Lib.hid (HU7A.out.trans hu9 (fun _ h _ => h))
        obtain ⟨y0, y1⟩ := box2c hu9
        clear hu9
        go_wp2_with fail
        go_ret
        exact ⟨rfl, HU9.out⟩
      · have HA7 := Lib.hid (Upd.alloc (fun _ => False) w7 (.cells #[.int .i64 0, .int .i64 9] 23))
        have HU7A := Lib.hid (HU7.out.trans HA7.out (fun _ h _ => h))
        go_wp2_with fail
        refine (known7 _).mono ?_
        rintro e w9 ⟨rfl, hu9⟩
        have HU9 := Lib.hid (HU7A.out.trans hu9 (fun _ h _ => h))
        obtain ⟨y0, y1⟩ := box2c hu9
        clear hu9
        go_wp2_with fail
        go_ret
        exact ⟨rfl, HU9.out⟩

theorem joins_below (l r ask : Bool) (w : World) : Calls Try.prog 5 #[.bool l, .bool r, .bool ask] w fun e w' => e = .returned (.bool true) ∧ Below w.heap.size w w' := (joins_walk l r ask w).mono fun _ _ h => ⟨h.1, lbBelow h.2⟩
theorem verifyKnown_below (w : World) : Calls Try.prog 3 #[] w fun e w' => e = .returned (.bool true) ∧ Below w.heap.size w w' := (verifyKnown_walk w).mono fun _ _ h => ⟨h.1, lbBelow h.2⟩
end Go.Proofs.Ytebgmpggedeplaa

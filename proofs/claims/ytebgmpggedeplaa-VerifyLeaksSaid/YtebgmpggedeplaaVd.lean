/- Package verify: Concat, IndexFunc, which instructions are astray. -/
import Derived.Test.YtebgmpggedeplaaVc
namespace Go.Proofs.Ytebgmpggedeplaa
open Go.RowKit Go.Lib Go.ChangeShapes Go.WideShapes
set_option linter.unusedVariables false
set_option linter.unusedSimpArgs false

theorem run_append_zero {P : Program} (w : World) (base : Nat) (t ty e : TypeId) (i : TypeInfo) (size : Nat) (ht : P.underlying t = some (.slice e)) (hi : P.info? e = some i)
    (v : Value) (n : Nat) (xs : List Value) (hown : w.ownsRow base e size v n xs) (b : Option Addr) (c : Nat) :
    (Builtin.append_ #[t, t] ty #[v, .slice b 0 c]).run P w = .ok v w := by
  have hf : (Builtin.firstCells i.size 0 (.slice b 0 c)).run P w = .ok #[] w := by
    cases b with
    | none => exact run_firstCells_none w i.size 0 0 c
    | some a => exact run_firstCells_some w i.size 0 a 0 c [] (by simp) (by simp)
  rcases hown.2 with ⟨rfl, rfl⟩ | ⟨g, cap, cur, rfl, _, _, hnc, _⟩
  · simp [Builtin.append_, run_underlying ht, sizeOf, typeInfo, hi, Builtin.lenOf, hf]
  · simp [Builtin.append_, run_underlying ht, sizeOf, typeInfo, hi, Builtin.lenOf, hf, hnc, storeCells]

theorem ints_src {w : World} {v : Value} {L : List Int} (h : Ints w v L) (h0 : 0 < L.length) : Src w 1 v L.length (lv L) := by
  obtain ⟨⟨a, c, rfl, h1, h2, h3⟩, hw⟩ := h
  rcases h3 with h3 | ⟨g, off, rfl, h4⟩
  · omega
  · refine .inr ⟨_, c, rfl, by rw [lv_len, Nat.mul_one], fun j u hj => ?_, fun u hu => ?_⟩
    · rw [addr_add]
      have hlt : j < L.length := by
        have := (List.getElem?_eq_some_iff.1 hj).1
        rwa [lv_len] at this
      have := h4 j hlt 0 (by omega)
      rw [Nat.mul_one, Nat.add_zero] at this
      rw [this]
      simp [lv, hlt] at hj
      simp [List.getD, hlt, hj]
    · obtain ⟨n, _, rfl⟩ := List.mem_map.1 hu
      rfl

theorem wp_append_ints {P : Program} (w : World) {ops : Array Oper} {rest : List Oper} {o : Oper} {a : Act} {Q : Exit → Act → World → Prop} (hgd : o.guard = none) (s x : Operand) (t : TypeId)
    (ho : o.op = .call { callee := .builtin .append, args := #[s, x], argTypes := #[t, t] })
    (e : TypeId) (i : TypeInfo) (z : Value) (ht : P.underlying t = some (.slice e)) (hi : P.info? e = some i) (hz : i.zero = some z)
    (hsize : i.size = 1) (hby : i.bytes = 8) (hzs : z.cells.size = 1)
    (v : Value) (n : Nat) (xs : List Value) (hs : a.eval s = v) (hown : w.ownsRow 0 e 1 v n xs)
    (L : List Int) (u : Value) (hu : a.eval x = u) (hx : Ints w u L)
    (h63 : n + L.length ≤ 100000)
    (h : ∀ v' w', w'.ownsRow 0 e 1 v' (n + L.length) (xs ++ lv L) → w.grownBy w' v.ownBlock → Fresh w v v' → wpList P ops Q rest (a.put o.dst v') w') : wpList P ops Q (o :: rest) a w := by
  rcases Nat.eq_zero_or_pos L.length with h0 | h0
  · obtain ⟨b, c, hv, -, -⟩ := hx.slice
    have hL : L = [] := List.eq_nil_of_length_eq_zero h0
    subst hL
    rw [hv] at hu
    refine Lib.wpList_append_run w hgd s x t t ho v (.slice b 0 c) hs hu v w (run_append_zero w 0 t o.type e i 1 ht hi v n xs hown b c) (h v w (by simpa [lv] using hown) ⟨rfl, rfl, rfl, Nat.le_refl _, fun _ _ _ => rfl⟩ (fun k hk => .inl hk))
  · exact wpList_append_mine w hgd s x t ho 0 e i z 1 8 ht hi hz hsize hby hzs (by omega) v n xs hs hown L.length (lv L) (by rw [hu]; exact ints_src hx h0) (by unfold maxLen; omega) (by omega) (Nat.zero_le _) h

theorem vwrap (a b : Nat) (h : a + b ≤ 1000) : IntKind.i64.wrap ((a : Int) + (b : Int)) = ((a + b : Nat) : Int) := by
  rw [IntWalk.i64_in _ (by omega)]; omega
set_option maxRecDepth 100000 in
set_option maxHeartbeats 4000000 in
theorem vConcat (w : World) (g off : Nat) (va vb : Value) (A B : List Int) (h0 : w.cell? ⟨g, off, none⟩ = some va) (h1 : w.cell? ⟨g, off + 1, none⟩ = some vb) (hA : Ints w va A) (hB : Ints w vb B) (hl : A.length + B.length ≤ 1000) :
    Calls Try.prog 37 #[.slice (some ⟨g, off, none⟩) 2 2] w fun e w' => ∃ r, e = .returned r ∧ Ints w' r (A ++ B) ∧ Upd (fun _ => False) w w' ∧ Newer w.heap.size r := by
  obtain ⟨i0, hi, hz0, hz1, hz2⟩ := info_parts lbInfo
  have HA := Lib.hid hA
  have HB := Lib.hid hB
  have H0 := Lib.hid h0
  have H1 := Lib.hid h1
  obtain ⟨a, ca, rfl, h11, h12⟩ := hA.slice
  obtain ⟨b, cb, rfl, h21, h22⟩ := hB.slice
  have hw1 : IntKind.i64.wrap ((A.length : Int) + (B.length : Int)) = ((A.length + B.length : Nat) : Int) := vwrap _ _ hl
  have hw0 : IntKind.i64.wrap (A.length : Int) = (A.length : Int) := IntWalk.i64_in _ (by omega)
  have HL := Lib.hid hl
  obtain ⟨N, hN⟩ : ∃ N, N = A.length + B.length := ⟨_, rfl⟩
  rw [← hN] at hw1
  have HN := Lib.hid hN
  have hN0 : ¬ ((N : Int) < 0) := by omega
  have hA0 : ¬ ((A.length : Int) < 0) := by omega
  unfold maxLen at h12 h22
  clear hA hB hl hN
  go_enter Try.func37, Try.ntmps37
  go_wp2_with fail
  go_loop [3, 11, 5] (fun sz i _ => (i = .int .i64 0 ∧ sz = .int .i64 0) ∨ (i = .int .i64 1 ∧ sz = .int .i64 (A.length : Int)) ∨ (i = .int .i64 2 ∧ sz = .int .i64 (N : Int))) (fun _ i _ => 2 - (intOf i).toNat)
  case atStart => exact .inl ⟨rfl, rfl⟩
  case round =>
    rcases hrel with ⟨rfl, rfl⟩ | ⟨rfl, rfl⟩ | ⟨rfl, rfl⟩
    · go_wp2_with fail
      go_round
      case rel => exact .inr (.inl ⟨rfl, rfl⟩)
      case measure => simp [intOf]
    · go_wp2_with fail
      go_round
      case rel => exact .inr (.inr ⟨rfl, rfl⟩)
      case measure => simp [intOf]
    · clear h0 h1
      go_wp2_with fail
      refine (vGrow w N (by rw [HN.out]; exact HL.out)).mono ?_
      rintro e w1 ⟨r, rfl, ho, hu, hnw⟩
      obtain ⟨ra, rc, rfl⟩ := ownsRow_slice ho
      have HO := Lib.hid ho
      have HU := Lib.hid hu
      have HW := Lib.hid hnw
      have hc0 := (hu.cell (p := ⟨g, off, none⟩) (World.block_lt_of_cell? _ _ H0.out) (fun h => h)).trans H0.out
      have hc1 := (hu.cell (p := ⟨g, off + 1, none⟩) (World.block_lt_of_cell? _ _ H1.out) (fun h => h)).trans H1.out
      clear ho hu hnw hc0 hc1
      go_wp2_with fail
      go_loopw [6, 27, 8] (fun v i _ wr => Hid (Upd (fun _ => False) w wr) ∧ Hid (Newer w.heap.size v) ∧ ((i = .int .i64 0 ∧ ∃ na nc, v = .slice na 0 nc ∧ Hid (wr.ownsRow 0 3 1 (.slice na 0 nc) 0 [])) ∨ (i = .int .i64 1 ∧ ∃ na nc, v = .slice na A.length nc ∧ Hid (wr.ownsRow 0 3 1 (.slice na A.length nc) A.length (lv A))) ∨ (i = .int .i64 2 ∧ ∃ na nc, v = .slice na N nc ∧ Hid (wr.ownsRow 0 3 1 (.slice na N nc) N (lv A ++ lv B))))) (fun _ i _ _ => 2 - (intOf i).toNat)
      case atStart => exact ⟨HU, HW, .inl ⟨rfl, _, _, rfl, HO⟩⟩
      case round =>
        obtain ⟨HU, HW, ⟨rfl, na, nc, rfl, HR⟩ | ⟨rfl, na, nc, rfl, HR⟩ | ⟨rfl, na, nc, rfl, HR⟩⟩ := hrel
        · have hc0 := (HU.out.cell (p := ⟨g, off, none⟩) (World.block_lt_of_cell? _ _ H0.out) (fun h => h)).trans H0.out
          have HAw := Lib.hid (HA.out.later (lbBelow HU.out))
          go_wp2_with (at_builtin; go_loud (refine wp_append_ints _ rfl _ _ 27 rfl 3 i0 (.int .i64 0) Try.underlying27 hi hz0 hz1 hz2 rfl (.slice na 0 nc) 0 [] rfl HR.out A _ rfl HAw.out (by have := HL.out; omega) ?_))
          intro v' w2 ho hg hf
          obtain ⟨va, vc, rfl⟩ := ownsRow_slice ho
          have HR2 : Hid (w2.ownsRow 0 3 1 (.slice va A.length vc) A.length (lv A)) := Lib.hid (by simpa using ho)
          have HW2 : Hid (Newer w.heap.size (.slice va A.length vc)) := Lib.hid (by
            intro b off s n c e
            simp at e
            obtain ⟨rfl, -, -⟩ := e
            rcases hf b rfl with h | h
            · cases na with
              | none => simp [Value.ownBlock] at h
              | some q =>
                obtain ⟨qb, qo, qs⟩ := q
                simp [Value.ownBlock] at h
                subst h
                exact HW.out _ _ _ _ _ rfl
            · exact Nat.le_trans HU.out.size h)
          have HU2 : Hid (Upd (fun _ => False) w w2) := Lib.hid (HU.out.trans (Upd.row (Upd.refl _ _) hg) (fun i h hlt => by
            cases na with
            | none => simp [Value.ownBlock] at h
            | some q =>
              obtain ⟨qb, qo, qs⟩ := q
              simp [Value.ownBlock] at h
              subst h
              have := HW.out _ _ _ _ _ rfl
              omega))
          clear ho hg hf hc0
          go_wp2_with fail
          go_roundw
          case rel => exact ⟨HU2, HW2, .inr (.inl ⟨rfl, _, _, rfl, HR2⟩)⟩
          case measure => simp [intOf]
        · have hc1 := (HU.out.cell (p := ⟨g, off + 1, none⟩) (World.block_lt_of_cell? _ _ H1.out) (fun h => h)).trans H1.out
          have HBw := Lib.hid (HB.out.later (lbBelow HU.out))
          go_wp2_with (at_builtin; go_loud (refine wp_append_ints _ rfl _ _ 27 rfl 3 i0 (.int .i64 0) Try.underlying27 hi hz0 hz1 hz2 rfl (.slice na A.length nc) A.length (lv A) rfl HR.out B _ rfl HBw.out (by have := HL.out; omega) ?_))
          intro v' w2 ho hg hf
          obtain ⟨va, vc, rfl⟩ := ownsRow_slice ho
          rw [← HN.out] at ho
          have HR2 : Hid (w2.ownsRow 0 3 1 (.slice va N vc) N (lv A ++ lv B)) := Lib.hid ho
          have HW2 : Hid (Newer w.heap.size (.slice va N vc)) := Lib.hid (by
            intro b off s n c e
            simp at e
            obtain ⟨rfl, -, -⟩ := e
            rcases hf b rfl with h | h
            · cases na with
              | none => simp [Value.ownBlock] at h
              | some q =>
                obtain ⟨qb, qo, qs⟩ := q
                simp [Value.ownBlock] at h
                subst h
                exact HW.out _ _ _ _ _ rfl
            · exact Nat.le_trans HU.out.size h)
          have HU2 : Hid (Upd (fun _ => False) w w2) := Lib.hid (HU.out.trans (Upd.row (Upd.refl _ _) hg) (fun i h hlt => by
            cases na with
            | none => simp [Value.ownBlock] at h
            | some q =>
              obtain ⟨qb, qo, qs⟩ := q
              simp [Value.ownBlock] at h
              subst h
              have := HW.out _ _ _ _ _ rfl
              omega))
          clear ho hg hf hc1
          go_wp2_with fail
          go_roundw
          case rel => rw [← HN.out]; exact ⟨HU2, HW2, .inr (.inr ⟨rfl, _, _, rfl, HR2⟩)⟩
          case measure => simp [intOf]
        · go_wp2_with fail
          go_ret
          refine ⟨_, rfl, ?_, HU.out, HW.out⟩
          have hr : ORow _ (.slice na N nc) (A ++ B) := ⟨by
            have h := HR.out
            rw [show lv A ++ lv B = lv (A ++ B) by simp [lv], show N = (A ++ B).length by rw [List.length_append]; exact HN.out] at h
            rw [List.length_append, ← HN.out] at h ⊢
            exact h, fun y hy => by
            rcases List.mem_append.1 hy with h | h
            · exact HA.out.2 y h
            · exact HB.out.2 y h⟩
          exact hr.ints

/-- a body, by value: an image's five cells, and three more -/
abbrev body8 (s : ByteArray) (f i m x l : Value) (r : Int) (c : Value) : Value := .agg #[.string s, f, i, m, x, l, .int .i64 r, c]
def Body (w : World) (v : Value) (B : BodyM) : Prop := ∃ f i m x l c, v = body8 B.img.name f i m x l B.res c ∧ Img w (img5 B.img.name f i m x) B.img ∧ Ints w l B.locals ∧ Inss w c B.code ∧ wi64 B.res
theorem Body.later {W w : World} {v : Value} {B : BodyM} (h : Body W v B) (hb : Below W.heap.size W w) : Body w v B := by
  obtain ⟨f, i, m, x, l, c, rfl, h1, h2, h3, h4⟩ := h
  exact ⟨f, i, m, x, l, c, rfl, h1.later hb, h2.later hb, h3.later hb, h4⟩
/-- the values of a body's cells -/
theorem Body.open {w : World} {v : Value} {B : BodyM} (h : Body w v B) : ∃ fa fc ia ic ma mc xa xc la lc ca cc, v = body8 B.img.name (.slice fa B.img.fields.length fc) (.slice ia B.img.imports.length ic) (.slice ma B.img.methods.length mc) (.slice xa B.img.exports.length xc) (.slice la B.locals.length lc) B.res (.slice ca B.code.length cc) ∧
    Ints w (.slice fa B.img.fields.length fc) B.img.fields ∧ Imps w (.slice ia B.img.imports.length ic) B.img.imports ∧ Mets w (.slice ma B.img.methods.length mc) B.img.methods ∧ Ints w (.slice la B.locals.length lc) B.locals ∧ Inss w (.slice ca B.code.length cc) B.code ∧ wi64 B.res := by
  obtain ⟨f, im, m, x, l, c, rfl, ⟨f', im', m', x', he, hf, hi, hm, hx, hsz⟩, hl, hc, hr⟩ := h
  simp only [img5, Value.agg.injEq, Array.mk.injEq, List.cons.injEq, and_true, true_and] at he
  obtain ⟨rfl, rfl, rfl, rfl⟩ := he
  obtain ⟨fa, fc, rfl, -, -⟩ := hf.slice
  obtain ⟨ia, ic, rfl, -, -⟩ := hi.slice
  obtain ⟨ma, mc, rfl, -, -⟩ := hm.slice
  obtain ⟨xa, xc, rfl, -, -⟩ := hx.slice
  obtain ⟨la, lc, rfl, -, -⟩ := hl.slice
  obtain ⟨ca, cc, rfl, -, -⟩ := hc.slice
  exact ⟨fa, fc, ia, ic, ma, mc, xa, xc, la, lc, ca, cc, rfl, hf, hi, hm, hl, hc, hr⟩

set_option maxRecDepth 100000 in
set_option maxHeartbeats 4000000 in
theorem vAstray (w : World) (v : Value) (B : BodyM) (h : Body w v B) (i : InsM) : Calls Try.prog 28 #[v, ins i.op i.a i.b] w fun e w' => e = .returned (.bool (astrayB B i)) ∧ Upd (fun _ => False) w w' := by
  obtain ⟨op, ia, ib⟩ := i
  obtain ⟨fa, fc, ia', ic, ma, mc, xa, xc, la, lc, ca, cc, rfl, -⟩ := h.open
  have HA := Lib.hid ((Upd.alloc (fun _ => False) w (.cells #[.string B.img.name, .slice fa B.img.fields.length fc, .slice ia' B.img.imports.length ic, .slice ma B.img.methods.length mc, .slice xa B.img.exports.length xc, .slice la B.locals.length lc, .int .i64 B.res, .slice ca B.code.length cc] 67)).trans (Upd.alloc (fun _ => False) _ (.cells #[.int .i64 op, .int .i64 ia, .int .i64 ib] 34)) (fun _ h _ => h))
  have HP := Lib.hid (show astrayB B ⟨op, ia, ib⟩ = (if op == 2 || op == 3 then decide ((B.locals.length : Int) ≤ ia)
    else if op == 23 || op == 24 then decide ((B.code.length : Int) ≤ ia)
    else if op == 33 || op == 34 then decide ((B.img.fields.length : Int) ≤ ia)
    else if op == 37 then decide ((B.img.methods.length : Int) ≤ ia)
    else if op == 38 then decide ((B.img.imports.length : Int) ≤ ia)
    else false) from rfl)
  clear h
  cases h2 : op == 2 <;> cases h3 : op == 3 <;> cases h23 : op == 23 <;> cases h24 : op == 24 <;> cases h33 : op == 33 <;> cases h34 : op == 34 <;> cases h37 : op == 37 <;> cases h38 : op == 38
  all_goals first
    | (exfalso; simp only [beq_iff_eq, beq_eq_false_iff_ne] at *; omega)
    | skip
  all_goals
    have HC := Lib.hid (And.intro h2 (And.intro h3 (And.intro h23 (And.intro h24 (And.intro h33 (And.intro h34 (And.intro h37 h38)))))))
    go_enter Try.func28, Try.ntmps28
    go_wp2_with fail
    go_ret
    exact ⟨lbRet (by rw [HP.out]; obtain ⟨g2, g3, g23, g24, g33, g34, g37, g38⟩ := HC.out; simp [g2, g3, g23, g24, g33, g34, g37, g38]), HA.out⟩
end Go.Proofs.Ytebgmpggedeplaa

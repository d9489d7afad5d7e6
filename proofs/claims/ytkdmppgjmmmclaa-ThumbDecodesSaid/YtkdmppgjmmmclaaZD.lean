/- The walk of ThumbApart. -/
import Derived.Test.YtkdmppgjmmmclaaZA
import Derived.Test.YtkdmppgjmmmclaaZz
import Derived.Deep.RegionWith
namespace Go.Proofs.Ytkdmppgjmmmclaa
open Go.RowKit
set_option linter.unusedVariables false
set_option linter.unusedSimpArgs false

theorem lInsL (a b c d e f : Int) (h : (⟨a, b, c, d, e, f⟩ : I6).Ok) (w : World) : Calls Try.prog 14 #[.agg #[.int .i64 a, .int .i64 b, .int .i64 c, .int .i64 d, .int .i64 e, .int .i64 f]] w fun e w' => (∃ j : I6, j.Ok ∧ e = .returned j.val) ∧ New w w' := lIns _ h w
theorem tEncodeL (a b c d e f : Int) (h : (⟨a, b, c, d, e, f⟩ : I6).Ok) (w : World) : Calls Try.prog 10 #[.agg #[.int .i64 a, .int .i64 b, .int .i64 c, .int .i64 d, .int .i64 e, .int .i64 f]] w fun x w' =>
    ((rightP ⟨a, b, c, d, e, f⟩ = false ∧ x = .returned (.tuple #[.slice none 0 0, .int .i64 1])) ∨ (rightP ⟨a, b, c, d, e, f⟩ = true ∧ ∃ v, x = .returned (.tuple #[v, .int .i64 0]) ∧ VwH w' v (encP ⟨a, b, c, d, e, f⟩))) ∧ New w w' := tEncode _ h w
theorem rel10 {w2 wr : World} {i : I6} {b9 B : Nat} (a b c d e f : Int) (hok : (⟨a, b, c, d, e, f⟩ : I6).Ok) (h9 : wr.heap[b9]? = some (.cells i.cells 23 (0, 0)))
    (h10 : wr.heap[B]? = some (.cells #[.int .i64 a, .int .i64 b, .int .i64 c, .int .i64 d, .int .i64 e, .int .i64 f] 23 (0, 0))) (hn : New w2 wr) :
    ∃ (j2 : I6) (b10 : Nat), Value.pointer (some ⟨B, 0, none⟩) = .pointer (some ⟨b10, 0, none⟩) ∧ Hid j2.Ok ∧ Hid (wr.heap[b9]? = some (.cells i.cells 23 (0, 0))) ∧ Hid (wr.heap[b10]? = some (.cells j2.cells 23 (0, 0))) ∧ Hid (New w2 wr) :=
  ⟨⟨a, b, c, d, e, f⟩, B, rfl, Lib.hid hok, Lib.hid h9, Lib.hid h10, Lib.hid hn⟩
set_option maxRecDepth 20000 in
set_option maxHeartbeats 4000000 in
theorem thumbApart_walk (x y : I6) (near : Bool) (turn : Int) (hx : x.Ok) (hy : y.Ok) (w : World) : Calls Try.prog 8 #[x.val, y.val, .bool near, .int .i64 turn] w fun e w' => e = .returned (.bool true) ∧ New w w' := by
  have HX := Lib.hid hx
  have HY := Lib.hid hy
  clear hx hy
  go_enter Try.func8, Try.ntmps8
  go_wp2_with fail
  refine (lIns x HX.out _).mono ?_
  rintro e w1 ⟨⟨i, hi, rfl⟩, h1⟩
  obtain ⟨hk0, k0, k1, k2, k3, k4, k5⟩ : w.heap.size + 1 < w1.heap.size ∧ w1.cell? ⟨w.heap.size + 1, 0, none⟩ = some (.int .i64 y.op) ∧ w1.cell? ⟨w.heap.size + 1, 1, none⟩ = some (.int .i64 y.d) ∧ w1.cell? ⟨w.heap.size + 1, 2, none⟩ = some (.int .i64 y.n) ∧ w1.cell? ⟨w.heap.size + 1, 3, none⟩ = some (.int .i64 y.m) ∧ w1.cell? ⟨w.heap.size + 1, 4, none⟩ = some (.int .i64 y.imm) ∧ w1.cell? ⟨w.heap.size + 1, 5, none⟩ = some (.int .i64 y.cond) := by
    have h2 := I6.kept (w := w.alloc _) (i := y) h1
    simpa using h2
  have HI := Lib.hid hi
  have HW1 := Lib.hid (New.trans (New.trans (New.alloc _ _) (New.alloc _ _)) h1)
  clear hi h1
  generalize hb5 : w.heap.size + 1 = b5 at *
  clear hb5
  go_wp2_with fail
  refine (lIns y HY.out _).mono ?_
  rintro e w2 ⟨⟨j, hj, rfl⟩, h2⟩
  have hB := (I6.kept h2).1
  have hB9 : Hid (w2.heap[w1.heap.size]? = some (.cells i.cells 23 (0, 0))) := Lib.hid (by
    rw [h2.block _ (by simp) (fun h => h)]; exact heap_alloc_last w1 _)
  have HJ := Lib.hid hj
  have HW2 := Lib.hid (New.trans HW1.out (New.trans (New.alloc _ _) h2))
  clear hj h2 k0 k1 k2 k3 k4 k5 hk0
  generalize hb9 : w1.heap.size = b9 at *
  clear hb9
  go_upto_if 19 with fail
  go_cut [10] (fun t wr => ∃ (j2 : I6) (b10 : Nat), t = .pointer (some ⟨b10, 0, none⟩) ∧ Hid j2.Ok ∧ Hid (wr.heap[b9]? = some (.cells i.cells 23 (0, 0))) ∧ Hid (wr.heap[b10]? = some (.cells j2.cells 23 (0, 0))) ∧ Hid (New w2 wr))
  case first =>
    obtain ⟨c0, c1, c2, c3, c4, c5, cf, -⟩ := I6.box hB9.out
    cases near
    · go_wp2_with fail
      go_meet
      refine ⟨j, _, rfl, HJ, Lib.hid ?_, Lib.hid (heap_alloc_last _ _), Lib.hid (New.alloc _ _)⟩
      rw [(New.alloc w2 _).block b9 hB (fun h => h)]; exact hB9.out
    · cases n0 : (turn % 4 == 0)
      · cases n1 : (turn % 4 == 1)
        · cases n2 : (turn % 4 == 2)
          · go_wp2_with (with_reducible refine (hPick _ _ _ (by decide) (by decide)).mono ?_; rintro e w' ⟨rfl, rfl⟩)
            go_meet
            first
              | refine rel10 _ _ _ _ _ _ ?_ ?_ (heap_alloc_last _ _) ?_
              | refine rel10 _ _ _ _ _ _ ?_ ?_ (set_box (heap_alloc_last _ _)) ?_
            · have := HI.out
              refine ⟨?_, ?_, ?_, ?_, ?_, ?_⟩ <;> first | exact this.op | exact this.d | exact this.n | exact this.m | exact this.imm | exact this.cond | exact i64R_mod _ _ (by decide) (by decide) | exact i64R_wrap _ | exact i64R_wrap' _ | (unfold i64R; simp only; omega)
            · refine Eq.trans (Upd.block (S := fun _ => False) (w := w2) ?_ b9 hB (fun h => h)) hB9.out
              repeat (first | exact Upd.refl _ _ | refine New.set ?_ _ _ (by simp) | refine New.trans ?_ (Upd.drewN _ _ _) | refine New.trans ?_ (New.alloc _ _) | refine New.trans ?_ (Upd.drew _ _))
            · repeat (first | exact Upd.refl _ _ | refine New.set ?_ _ _ (by simp) | refine New.trans ?_ (Upd.drewN _ _ _) | refine New.trans ?_ (New.alloc _ _) | refine New.trans ?_ (Upd.drew _ _))
          · go_wp2_with (with_reducible refine (hPick _ _ _ (by decide) (by decide)).mono ?_; rintro e w' ⟨rfl, rfl⟩)
            go_region_with (with_reducible refine (hPick _ _ _ (by decide) (by decide)).mono ?_; rintro e w' ⟨rfl, rfl⟩)
            all_goals
              go_wp2
              go_meet
              first
                | refine rel10 _ _ _ _ _ _ ?_ ?_ (heap_alloc_last _ _) ?_
                | refine rel10 _ _ _ _ _ _ ?_ ?_ (set_box (heap_alloc_last _ _)) ?_
              · have := HI.out
                refine ⟨?_, ?_, ?_, ?_, ?_, ?_⟩ <;> first | exact this.op | exact this.d | exact this.n | exact this.m | exact this.imm | exact this.cond | exact i64R_mod _ _ (by decide) (by decide) | exact i64R_wrap _ | exact i64R_wrap' _ | (unfold i64R; simp only; omega)
              · refine Eq.trans (Upd.block (S := fun _ => False) (w := w2) ?_ b9 hB (fun h => h)) hB9.out
                repeat (first | exact Upd.refl _ _ | refine New.set ?_ _ _ (by simp) | refine New.trans ?_ (Upd.drewN _ _ _) | refine New.trans ?_ (New.alloc _ _) | refine New.trans ?_ (Upd.drew _ _))
              · repeat (first | exact Upd.refl _ _ | refine New.set ?_ _ _ (by simp) | refine New.trans ?_ (Upd.drewN _ _ _) | refine New.trans ?_ (New.alloc _ _) | refine New.trans ?_ (Upd.drew _ _))
        · go_wp2_with (with_reducible refine (hPick _ _ _ (by decide) (by decide)).mono ?_; rintro e w' ⟨rfl, rfl⟩)
          go_meet
          first
            | refine rel10 _ _ _ _ _ _ ?_ ?_ (heap_alloc_last _ _) ?_
            | refine rel10 _ _ _ _ _ _ ?_ ?_ (set_box (heap_alloc_last _ _)) ?_
          · have := HI.out
            refine ⟨?_, ?_, ?_, ?_, ?_, ?_⟩ <;> first | exact this.op | exact this.d | exact this.n | exact this.m | exact this.imm | exact this.cond | exact i64R_mod _ _ (by decide) (by decide) | exact i64R_wrap _ | exact i64R_wrap' _ | (unfold i64R; simp only; omega)
          · refine Eq.trans (Upd.block (S := fun _ => False) (w := w2) ?_ b9 hB (fun h => h)) hB9.out
            repeat (first | exact Upd.refl _ _ | refine New.set ?_ _ _ (by simp) | refine New.trans ?_ (Upd.drewN _ _ _) | refine New.trans ?_ (New.alloc _ _) | refine New.trans ?_ (Upd.drew _ _))
          · repeat (first | exact Upd.refl _ _ | refine New.set ?_ _ _ (by simp) | refine New.trans ?_ (Upd.drewN _ _ _) | refine New.trans ?_ (New.alloc _ _) | refine New.trans ?_ (Upd.drew _ _))
      · go_wp2_with (with_reducible refine (hPick _ _ _ (by decide) (by decide)).mono ?_; rintro e w' ⟨rfl, rfl⟩)
        go_meet
        first
          | refine rel10 _ _ _ _ _ _ ?_ ?_ (heap_alloc_last _ _) ?_
          | refine rel10 _ _ _ _ _ _ ?_ ?_ (set_box (heap_alloc_last _ _)) ?_
        · have := HI.out
          refine ⟨?_, ?_, ?_, ?_, ?_, ?_⟩ <;> first | exact this.op | exact this.d | exact this.n | exact this.m | exact this.imm | exact this.cond | exact i64R_mod _ _ (by decide) (by decide) | exact i64R_wrap _ | exact i64R_wrap' _ | (unfold i64R; simp only; omega)
        · refine Eq.trans (Upd.block (S := fun _ => False) (w := w2) ?_ b9 hB (fun h => h)) hB9.out
          repeat (first | exact Upd.refl _ _ | refine New.set ?_ _ _ (by simp) | refine New.trans ?_ (Upd.drewN _ _ _) | refine New.trans ?_ (New.alloc _ _) | refine New.trans ?_ (Upd.drew _ _))
        · repeat (first | exact Upd.refl _ _ | refine New.set ?_ _ _ (by simp) | refine New.trans ?_ (Upd.drewN _ _ _) | refine New.trans ?_ (New.alloc _ _) | refine New.trans ?_ (Upd.drew _ _))
  case rest =>
    obtain ⟨j2, b10, rfl, HJ2, H9, H10, HN⟩ := hcut
    obtain ⟨a0, a1, a2, a3, a4, a5, af, al⟩ := I6.box H9.out
    obtain ⟨b0, b1, b2, b3, b4, b5', bf, bl⟩ := I6.box H10.out
    have HWc := Lib.hid (New.trans HW2.out HN.out)
    clear HN HJ HX HY
    go_wp2_with fail
    refine (tEncode i HI.out _).mono ?_
    rintro e w3 ⟨hres, h3⟩
    replace a0 := h3.keep a0
    replace a1 := h3.keep a1
    replace a2 := h3.keep a2
    replace a3 := h3.keep a3
    replace a4 := h3.keep a4
    replace a5 := h3.keep a5
    replace b0 := h3.keep b0
    replace b1 := h3.keep b1
    replace b2 := h3.keep b2
    replace b3 := h3.keep b3
    replace b4 := h3.keep b4
    replace b5' := h3.keep b5'
    have HW3 := Lib.hid (New.trans HWc.out h3)
    clear h3 af bf al bl
    rcases hres with ⟨hr, rfl⟩ | ⟨hr, v, rfl, hv⟩
    · clear hr
      go_wp2_with fail
      refine (tEncode j2 HJ2.out _).mono ?_
      rintro e w4 ⟨hres, h4⟩
      have HW4 := Lib.hid (New.trans HW3.out h4)
      clear h4 a0 a1 a2 a3 a4 a5 b0 b1 b2 b3 b4 b5'
      rcases hres with ⟨hr, rfl⟩ | ⟨hr, v, rfl, hv⟩
      all_goals
        (try obtain ⟨va, vc, rfl, -⟩ := hv.slice)
        go_wp2_with (with_reducible refine (known14 _).mono ?_; rintro e w5 ⟨rfl, h5⟩)
        go_ret
        exact ⟨rfl, New.trans (New.trans HW4.out (by assumption)) h5⟩
    · have HR := Lib.hid hr
      have HV := Lib.hid hv
      obtain ⟨va, vc, rfl, -⟩ := hv.slice
      clear hr hv
      go_wp2_with fail
      refine (tEncode j2 HJ2.out _).mono ?_
      rintro e w4 ⟨hres, h4⟩
      replace a0 := h4.keep a0
      replace a1 := h4.keep a1
      replace a2 := h4.keep a2
      replace a3 := h4.keep a3
      replace a4 := h4.keep a4
      replace a5 := h4.keep a5
      replace b0 := h4.keep b0
      replace b1 := h4.keep b1
      replace b2 := h4.keep b2
      replace b3 := h4.keep b3
      replace b4 := h4.keep b4
      replace b5' := h4.keep b5'
      have HW4 := Lib.hid (New.trans HW3.out h4)
      have HV4 := Lib.hid (HV.out.new h4)
      clear h4 HV
      rcases hres with ⟨hr, rfl⟩ | ⟨hr, u, rfl, hu⟩
      · clear hr a0 a1 a2 a3 a4 a5 b0 b1 b2 b3 b4 b5'
        go_wp2_with (with_reducible refine (known14 _).mono ?_; rintro e w5 ⟨rfl, h5⟩)
        go_ret
        exact ⟨rfl, New.trans (New.trans HW4.out (by assumption)) h5⟩
      · have HR2 := Lib.hid hr
        have HU := Lib.hid hu
        obtain ⟨ua, uc, rfl, -⟩ := hu.slice
        clear hr hu
        go_wp2_with fail
        refine (known14 _).mono ?_
        rintro e w5 ⟨rfl, h5⟩
        replace a0 := h5.keep a0
        replace a1 := h5.keep a1
        replace a2 := h5.keep a2
        replace a3 := h5.keep a3
        replace a4 := h5.keep a4
        replace a5 := h5.keep a5
        replace b0 := h5.keep b0
        replace b1 := h5.keep b1
        replace b2 := h5.keep b2
        replace b3 := h5.keep b3
        replace b4 := h5.keep b4
        replace b5' := h5.keep b5'
        have HW5 := Lib.hid (New.trans HW4.out h5)
        have HV5 := Lib.hid (HV4.out.new h5)
        have HU5 := Lib.hid (HU.out.new h5)
        have HD : Hid (decide (encP i = encP j2) = decide (i = j2)) := Lib.hid (by
          by_cases h : i = j2
          · subst h; simp
          · have h' : ¬ encP i = encP j2 := fun e => h (enc_inj HR.out HR2.out e)
            rw [decide_eq_false h, decide_eq_false h'])
        have hq : ∀ u, (binOp .eql 23 (.agg #[.int .i64 i.op, .int .i64 i.d, .int .i64 i.n, .int .i64 i.m, .int .i64 i.imm, .int .i64 i.cond]) (.agg #[.int .i64 j2.op, .int .i64 j2.d, .int .i64 j2.n, .int .i64 j2.m, .int .i64 j2.imm, .int .i64 j2.cond])).run Try.prog u = .ok (.bool (decide (i = j2))) u := fun u => insEql u _ _ _ _ _ _ _ _ _ _ _ _
        have HH : Hid (∀ q, Calls Try.prog 17 #[.slice va (encP i).length vc, .slice ua (encP j2).length uc] (w5.drewN q) fun e w' => e = .returned (.bool (decide (i = j2))) ∧ ∃ m, w' = w5.drewN m) := Lib.hid (fun q => by
          rw [← HD.out]
          exact Calls.quiet_of (lHalves _ _ _ _ _ (HV5.out.new (Upd.drewN _ _ _)) (HU5.out.new (Upd.drewN _ _ _))))
        clear h5 HV4 HU
        go_wp2_with fail
        go_quiet (with_reducible exact HH.out _)
        go_wp2
        go_ret
        exact ⟨rfl, New.trans HW5.out (Upd.drewN _ _ _)⟩
theorem thumbApart_below (x y : I6) (near : Bool) (turn : Int) (hx : x.Ok) (hy : y.Ok) (w : World) : Calls Try.prog 8 #[x.val, y.val, .bool near, .int .i64 turn] w fun e w' => e = .returned (.bool true) ∧ Below w.heap.size w w' := (thumbApart_walk x y near turn hx hy w).mono fun _ _ h => ⟨h.1, h.2.below (Nat.le_refl _) (fun _ h => h.elim)⟩
end Go.Proofs.Ytkdmppgjmmmclaa

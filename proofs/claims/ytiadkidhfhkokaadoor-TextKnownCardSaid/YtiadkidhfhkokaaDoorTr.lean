/- Package text: lines: what it yields. -/
import Derived.Test.YtiadkidhfhkokaaDoorTq
namespace Go.Proofs.YtiadkidhfhkokaaDoor
open Go.RowKit Go.Shelf
set_option linter.unusedVariables false
set_option linter.unusedSimpArgs false
attribute [local go_sem] Oper.semAt_some

abbrev LF : FuncId := 40
/-- a line that is no longer than any string may be -/
def cap (x : By) : By := if x.length ≤ maxLen then x else []
theorem cap_eq {x : By} (h : x.length ≤ maxLen) : cap x = x := if_pos h
theorem cap_le (x : By) : (cap x).length ≤ maxLen := by
  unfold cap
  split
  · assumption
  · exact Nat.zero_le _
theorem map_cap : ∀ (L : List By), (∀ x ∈ L, x.length ≤ maxLen) → L.map cap = L
  | [], _ => rfl
  | x :: L, h => by rw [List.map_cons, cap_eq (h x (by simp)), map_cap L (fun y hy => h y (by simp [hy]))]
abbrev encL (x : By) : Array Value := #[.string (bs (cap x))]
/-- what a round keeps: the walks, and the box of the string -/
def KpL (bx : Nat) (W W' : World) : Prop := KeepsWalks W W' ∧ W'.heap[bx]? = W.heap[bx]?
theorem kpL_t {bx : Nat} {A B C : World} (h : KpL bx A B) (k : KpL bx B C) : KpL bx A C := ⟨walksK_t h.1 k.1, k.2.trans h.2⟩
theorem kpL_b {bx : Nat} {w : World} (hb : bx < w.heap.size) (W : World) (l : Nat) (o o' : Obj) (h1 : w.heap.size ≤ l) (h2 : W.heap[l]? = some o) (h3 : o.isCells = false) (h4 : o.isWalk = false) : KpL bx W (W.putObj l o') :=
  ⟨walksK_b (w := w) W l o o' h1 h2 h3 h4, by simp only [World.putObj, Array.getElem?_setIfInBounds]; rw [if_neg (by omega)]⟩
set_option maxRecDepth 100000 in
set_option maxHeartbeats 2000000 in
theorem lines_stops (F : Fence) (n : Nat) (hF : F.fn LF) (hro : F.round = none) (hn : 1 ≤ n) (l : By) (hl : l.length ≤ maxLen) (bx : Nat) (w : World) (hbx : w.heap[bx]? = some (.cells #[.string (bs l)] 9 (0, 0))) :
    SeqStopsK F n Tryd.prog LF #[.pointer (some ⟨bx, 0, none⟩)] encL (KpL bx) (fun xs => xs = linesP l) (fun pre => pre <+: linesP l) (linesP l).length w := fun lp J Jx W hW hJ hJx hY h0 => by
  have HJ := Lib.hid hJ
  have HY := Lib.hid hY
  have HX := Lib.hid hJx
  have hbl : bx < w.heap.size := (Array.getElem?_eq_some_iff.1 hbx).1
  have hbW : W.heap[bx]? = some (.cells #[.string (bs l)] 9 (0, 0)) := (hW.block bx hbl).trans hbx
  have hblW : bx < W.heap.size := Nat.lt_of_lt_of_le hbl hW.size
  have HB0 : Hid ((W.iter (bs l) 0).heap[bx]? = some (.cells #[.string (bs l)] 9 (0, 0))) := Lib.hid ((upd_iter W (bs l) 0).block bx hblW (fun h => h) |>.trans hbW)
  have H0 : Hid (J [] (W.iter (bs l) 0)) := hJ [] W _ none h0 (World.grownBy_alloc _ _ none) (fun r e => by cases e)
  have HSZ := Lib.hid (bs_size l)
  have HP0 : Hid ([] ++ linesP (l.drop 0) = linesP l) := Lib.hid rfl
  have HF0 : Hid (Free 10 l 0 0) := Lib.hid (fun j h1 h2 => by omega)
  have HLL := Lib.hid hl
  have c0 := (tCell hbW 0).1
  simp at c0
  clear hJ hY hJx h0 hW hl hbW hbx
  refine callsIn_of_wp Tryd.func40 rfl hF ?_ hro
  simp only [Tryd.ntmps40, List.size_toArray, List.length_cons, List.length_nil, Nat.reduceAdd, Nat.reduceSub, Array.replicate_succ, Array.replicate_zero, List.push_toArray, List.append_toArray, List.nil_append, List.cons_append]
  gi_wp2
  gi_loopw [3, 4, 5] (fun fr _ _ wr => ∃ (k pos : Nat) (pre : List By), fr = .int .i64 (k : Nat) ∧ k ≤ pos ∧ pos ≤ l.length ∧ Hid (Free 10 l k pos) ∧ Hid (pre ++ linesP (l.drop k) = linesP l) ∧ Hid (wr.heap[W.heap.size]? = some (.stringIter (bs l) pos)) ∧ Hid (wr.heap[bx]? = some (.cells #[.string (bs l)] 9 (0, 0))) ∧ Hid (J pre wr)) (fun _ _ _ wr => l.length - wr.iterPos W.heap.size)
  case atStart => exact ⟨0, 0, [], rfl, Nat.le_refl _, Nat.zero_le _, HF0, HP0, Lib.hid (World.iter_heap _ _ _), HB0, H0⟩
  case round =>
    obtain ⟨k, pos, pre, rfl, hkp, hpl, HF, HPR, HI, HB, HJ1⟩ := hrel
    clear c0
    have HIlt : W.heap.size < wr.heap.size := (Array.getElem?_eq_some_iff.1 HI.out).1
    by_cases hp : pos < l.length
    · have hnx := fun ty => Lib.run_next_any_at (P := Tryd.prog) wr W.heap.size (bs l) pos ty HI.out (by rw [bs_size]; exact hp)
      obtain ⟨hd1, hd2, hcs⟩ := scan_step l pos 10 hp (by omega)
      have hr := dec_rune (bs l) pos
      generalize (Utf8.decode (bs l) pos).1 = r at *
      generalize (Utf8.decode (bs l) pos).2 = d at *
      have hg : wr.grownBy (wr.iterAt W.heap.size (bs l) (pos + d)) (some W.heap.size) := ⟨rfl, rfl, rfl, by rw [Lib.iterAt_size]; exact Nat.le_refl _, fun j hj hne => Lib.iterAt_other _ _ _ _ _ (fun e => hne (by rw [e]))⟩
      have HJ2 : Hid (J pre (wr.iterAt W.heap.size (bs l) (pos + d))) := HJ.out _ wr _ (some W.heap.size) HJ1.out hg (fun r e => by cases e; exact ⟨Nat.le_refl _, _, HI.out, rfl⟩)
      have HI2 : Hid ((wr.iterAt W.heap.size (bs l) (pos + d)).heap[W.heap.size]? = some (.stringIter (bs l) (pos + d))) := Lib.iterAt_heap _ _ _ _ _ HI.out
      have HB2 : Hid ((wr.iterAt W.heap.size (bs l) (pos + d)).heap[bx]? = some (.cells #[.string (bs l)] 9 (0, 0))) := Lib.hid ((Lib.iterAt_other _ _ _ _ _ (by omega)).trans HB.out)
      have HP1 := Lib.hid (iterPos_of HI.out)
      have HP2 := Lib.hid (iterPos_of HI2.out)
      clear hg HI HJ1 HB
      generalize wr.iterAt W.heap.size (bs l) (pos + d) = w2 at *
      rcases hcs with ⟨hb, rfl, rfl⟩ | ⟨hne, hfr⟩
      · have HLN := Lib.hid (lines_at l k pos hkp hp HF.out hb)
        have HE : Hid ((bs l).extract k pos = bs ((l.drop k).take (pos - k))) := Lib.hid (bs_ext _ _ _)
        obtain ⟨x, hx⟩ : ∃ x, x = (l.drop k).take (pos - k) := ⟨_, rfl⟩
        rw [← hx] at HLN HE
        have HPR2 : Hid ((pre ++ [x]) ++ linesP (l.drop (pos + 1)) = linesP l) := Lib.hid (by
          have := HPR.out
          rw [HLN.out] at this
          rw [← this]
          simp)
        obtain ⟨fn, tmps, assign, body, hy, hR⟩ := HY.out pre x w2 HJ2.out (by
          have := congrArg List.length HPR2.out
          simp only [List.length_append, List.length_cons, List.length_nil] at this
          omega)
        have HR := Lib.hid hR
        have hxl : x.length ≤ maxLen := by have h1 := HLL.out; rw [hx]; simp; omega
        clear hR hb hx
        dsimp only [encL] at hy
        rw [cap_eq hxl] at hy
        clear hxl
        rw [← HE.out] at hy
        have hpi : (pos : Int) ≤ ((bs l).size : Int) := by rw [bs_size]; omega
        have hki : (k : Int) ≤ (pos : Int) := by omega
        have hp9 : (pos : Int) + 1 ≤ 9223372036854775807 := by have := HLL.out; unfold maxLen at this; omega
        have c0 := (tCell HB2.out 0).1
        simp at c0
        gi_wp2
        refine HR.out.mono ?_
        rintro e W3 (⟨rfl, hJ3, hk3⟩ | ⟨rfl, hX3⟩)
        · have HJ3 := Lib.hid hJ3
          have HI3 := Lib.hid (hk3.1.same _ _ HI2.out rfl)
          have HB3 := Lib.hid (hk3.2.trans HB2.out)
          have HP3 := Lib.hid (iterPos_of HI3.out)
          have HF3 : Hid (Free 10 l (pos + 1) (pos + 1)) := Lib.hid (fun j h1 h2 => by omega)
          clear hJ3 hk3 hy hnx c0
          gi_wp2
          go_roundw
          case rel => exact ⟨pos + 1, pos + 1, pre ++ [x], by go_num, Nat.le_refl _, hp, HF3, HPR2, HI3, HB3, HJ3⟩
          case measure => rw [HP1.out, HP3.out]; omega
        · have HX3 := Lib.hid hX3
          clear hX3 hy hnx c0
          gi_wp2
          refine bodyPost_ret (results_none rfl _ _ _) rfl ?_
          exact ⟨⟨_, rfl⟩, .inr ⟨_, ⟨_, HPR2.out⟩, HX3.out⟩⟩
      · have HF2 := Lib.hid (HF.out.more hfr)
        have hb : ((r : Int) != 10) = true := by simp; omega
        clear hfr hne
        gi_wp2
        go_roundw
        case rel => exact ⟨k, pos + d, pre, rfl, by omega, by omega, HF2, HPR, HI2, HB2, HJ2⟩
        case measure => rw [HP1.out, HP2.out]; omega
    · obtain rfl : pos = l.length := by omega
      have hnx := fun ty => Lib.run_next_end_at (P := Tryd.prog) wr W.heap.size (bs l) l.length ty HI.out (by rw [bs_size]; omega)
      have c0 := (tCell HB.out 0).1
      simp at c0
      by_cases hk : k < l.length
      · have HLN := Lib.hid (lines_end l k hk HF.out)
        have HE : Hid ((bs l).extract k (bs l).size = bs (l.drop k)) := Lib.hid (by rw [bs_ext, bs_size, List.take_of_length_le (by simp)])
        obtain ⟨x, hx⟩ : ∃ x, x = l.drop k := ⟨_, rfl⟩
        rw [← hx] at HLN HE
        have HPR2 : Hid (pre ++ [x] = linesP l) := Lib.hid (by
          have := HPR.out
          rw [← hx, HLN.out] at this
          exact this)
        obtain ⟨fn, tmps, assign, body, hy, hR⟩ := HY.out pre x wr HJ1.out (by
          have := congrArg List.length HPR2.out
          simp only [List.length_append, List.length_cons, List.length_nil] at this
          omega)
        have HR := Lib.hid hR
        have hxl : x.length ≤ maxLen := by have h1 := HLL.out; rw [hx]; simp; omega
        clear hR hx
        dsimp only [encL] at hy
        rw [cap_eq hxl] at hy
        clear hxl
        rw [← HE.out] at hy
        have hki : (k : Int) < ((bs l).size : Int) := by rw [bs_size]; omega
        have hki2 : (k : Int) ≤ ((bs l).size : Int) := by omega
        gi_wp2
        refine HR.out.mono ?_
        rintro e W3 (⟨rfl, hJ3, hk3⟩ | ⟨rfl, hX3⟩)
        · have HJ3 := Lib.hid hJ3
          clear hJ3 hk3 hy hnx c0
          gi_wp2
          go_end0
          exact ⟨⟨_, rfl⟩, .inl ⟨_, HPR2.out, HJ3.out⟩⟩
        · have HX3 := Lib.hid hX3
          clear hX3 hy hnx c0
          gi_wp2
          go_end0
          exact ⟨⟨_, rfl⟩, .inr ⟨_, ⟨[], by rw [List.append_nil]; exact HPR2.out⟩, HX3.out⟩⟩
      · obtain rfl : k = l.length := by omega
        have HPR2 : Hid (pre = linesP l) := Lib.hid (by
          have := HPR.out
          rw [List.drop_of_length_le (Nat.le_refl _)] at this
          simpa [linesP] using this)
        have hki : ¬ ((l.length : Nat) : Int) < ((bs l).size : Int) := by rw [bs_size]; omega
        gi_wp2
        go_end0
        first
          | exact ⟨⟨_, rfl⟩, .inl ⟨_, HPR2.out, HJ1.out⟩⟩
          | exact ⟨⟨_, rfl⟩, .inl (by rw [← HPR2.out]; exact HJ1.out)⟩
end Go.Proofs.YtiadkidhfhkokaaDoor

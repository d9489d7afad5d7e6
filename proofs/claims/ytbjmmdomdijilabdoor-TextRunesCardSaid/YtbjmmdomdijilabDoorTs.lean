/- Package text: lines: what it yields. Package text: the numbers of a draft are in range; a draft's image reads as an image. -/
import Derived.Test.YtbjmmdomdijilabDoorTq
namespace Go.Proofs.YtbjmmdomdijilabDoor
section
open Go.RowKit Go.Shelf
set_option linter.unusedVariables false
set_option linter.unusedSimpArgs false
attribute [local go_sem] Oper.semAt_some

abbrev LF : FuncId := 41
/-- a line that is no longer than any string may be -/
def cap (x : By) : By := if x.length ≤ maxLen then x else []
theorem cap_eq {x : By} (h : x.length ≤ maxLen) : cap x = x := if_pos h
theorem cap_le (x : By) : (cap x).length ≤ maxLen := by
  unfold cap
  split
  · assumption
  · exact Nat.zero_le _
theorem map_cap : ∀ (L : List By), (∀ x ∈ L, x.length ≤ maxLen) → L.map cap = L
  | [], _ => rfl
  | x :: L, h => by rw [List.map_cons, cap_eq (h x (by simp)), map_cap L (fun y hy => h y (by simp [hy]))]
abbrev encL (x : By) : Array Value := #[.string (bs (cap x))]
/-- what a round keeps: the walks, and the box of the string -/
def KpL (bx : Nat) (W W' : World) : Prop := KeepsWalks W W' ∧ W'.heap[bx]? = W.heap[bx]?
theorem kpL_t {bx : Nat} {A B C : World} (h : KpL bx A B) (k : KpL bx B C) : KpL bx A C := ⟨walksK_t h.1 k.1, k.2.trans h.2⟩
theorem kpL_b {bx : Nat} {w : World} (hb : bx < w.heap.size) (W : World) (l : Nat) (o o' : Obj) (h1 : w.heap.size ≤ l) (h2 : W.heap[l]? = some o) (h3 : o.isCells = false) (h4 : o.isWalk = false) : KpL bx W (W.putObj l o') :=
  ⟨walksK_b (w := w) W l o o' h1 h2 h3 h4, by simp only [World.putObj, Array.getElem?_setIfInBounds]; rw [if_neg (by omega)]⟩
set_option maxRecDepth 100000 in
set_option maxHeartbeats 2000000 in
theorem lines_stops (F : Fence) (n : Nat) (hF : F.fn LF) (hro : F.round = none) (hn : 1 ≤ n) (l : By) (hl : l.length ≤ maxLen) (bx : Nat) (w : World) (hbx : w.heap[bx]? = some (.cells #[.string (bs l)] 9 (0, 0))) :
    SeqStopsK F n Tryd.prog LF #[.pointer (some ⟨bx, 0, none⟩)] encL (KpL bx) (fun xs => xs = linesP l) (fun pre => pre <+: linesP l) (linesP l).length w := fun lp J Jx W hW hJ hJx hY h0 => by
  have HJ := Lib.hid hJ
  have HY := Lib.hid hY
  have HX := Lib.hid hJx
  have hbl : bx < w.heap.size := (Array.getElem?_eq_some_iff.1 hbx).1
  have hbW : W.heap[bx]? = some (.cells #[.string (bs l)] 9 (0, 0)) := (hW.block bx hbl).trans hbx
  have hblW : bx < W.heap.size := Nat.lt_of_lt_of_le hbl hW.size
  have HB0 : Hid ((W.iter (bs l) 0).heap[bx]? = some (.cells #[.string (bs l)] 9 (0, 0))) := Lib.hid ((upd_iter W (bs l) 0).block bx hblW (fun h => h) |>.trans hbW)
  have H0 : Hid (J [] (W.iter (bs l) 0)) := hJ [] W _ none h0 (World.grownBy_alloc _ _ none) (fun r e => by cases e)
  have HSZ := Lib.hid (bs_size l)
  have HP0 : Hid ([] ++ linesP (l.drop 0) = linesP l) := Lib.hid rfl
  have HF0 : Hid (Free 10 l 0 0) := Lib.hid (fun j h1 h2 => by omega)
  have HLL := Lib.hid hl
  have c0 := (tCell hbW 0).1
  simp at c0
  clear hJ hY hJx h0 hW hl hbW hbx
  refine callsIn_of_wp Tryd.func41 rfl hF ?_ hro
  simp only [Tryd.ntmps41, List.size_toArray, List.length_cons, List.length_nil, Nat.reduceAdd, Nat.reduceSub, Array.replicate_succ, Array.replicate_zero, List.push_toArray, List.append_toArray, List.nil_append, List.cons_append]
  gi_wp2
  gi_loopw [3, 4, 5] (fun fr _ _ wr => ∃ (k pos : Nat) (pre : List By), fr = .int .i64 (k : Nat) ∧ k ≤ pos ∧ pos ≤ l.length ∧ Hid (Free 10 l k pos) ∧ Hid (pre ++ linesP (l.drop k) = linesP l) ∧ Hid (wr.heap[W.heap.size]? = some (.stringIter (bs l) pos)) ∧ Hid (wr.heap[bx]? = some (.cells #[.string (bs l)] 9 (0, 0))) ∧ Hid (J pre wr)) (fun _ _ _ wr => l.length - wr.iterPos W.heap.size)
  case atStart => exact ⟨0, 0, [], rfl, Nat.le_refl _, Nat.zero_le _, HF0, HP0, Lib.hid (World.iter_heap _ _ _), HB0, H0⟩
  case round =>
    obtain ⟨k, pos, pre, rfl, hkp, hpl, HF, HPR, HI, HB, HJ1⟩ := hrel
    clear c0
    have HIlt : W.heap.size < wr.heap.size := (Array.getElem?_eq_some_iff.1 HI.out).1
    by_cases hp : pos < l.length
    · have hnx := fun ty => Lib.run_next_any_at (P := Tryd.prog) wr W.heap.size (bs l) pos ty HI.out (by rw [bs_size]; exact hp)
      obtain ⟨hd1, hd2, hcs⟩ := scan_step l pos 10 hp (by omega)
      have hr := dec_rune (bs l) pos
      generalize (Utf8.decode (bs l) pos).1 = r at *
      generalize (Utf8.decode (bs l) pos).2 = d at *
      have hg : wr.grownBy (wr.iterAt W.heap.size (bs l) (pos + d)) (some W.heap.size) := ⟨rfl, rfl, rfl, by rw [Lib.iterAt_size]; exact Nat.le_refl _, fun j hj hne => Lib.iterAt_other _ _ _ _ _ (fun e => hne (by rw [e]))⟩
      have HJ2 : Hid (J pre (wr.iterAt W.heap.size (bs l) (pos + d))) := HJ.out _ wr _ (some W.heap.size) HJ1.out hg (fun r e => by cases e; exact ⟨Nat.le_refl _, _, HI.out, rfl⟩)
      have HI2 : Hid ((wr.iterAt W.heap.size (bs l) (pos + d)).heap[W.heap.size]? = some (.stringIter (bs l) (pos + d))) := Lib.iterAt_heap _ _ _ _ _ HI.out
      have HB2 : Hid ((wr.iterAt W.heap.size (bs l) (pos + d)).heap[bx]? = some (.cells #[.string (bs l)] 9 (0, 0))) := Lib.hid ((Lib.iterAt_other _ _ _ _ _ (by omega)).trans HB.out)
      have HP1 := Lib.hid (iterPos_of HI.out)
      have HP2 := Lib.hid (iterPos_of HI2.out)
      clear hg HI HJ1 HB
      generalize wr.iterAt W.heap.size (bs l) (pos + d) = w2 at *
      rcases hcs with ⟨hb, rfl, rfl⟩ | ⟨hne, hfr⟩
      · have HLN := Lib.hid (lines_at l k pos hkp hp HF.out hb)
        have HE : Hid ((bs l).extract k pos = bs ((l.drop k).take (pos - k))) := Lib.hid (bs_ext _ _ _)
        obtain ⟨x, hx⟩ : ∃ x, x = (l.drop k).take (pos - k) := ⟨_, rfl⟩
        rw [← hx] at HLN HE
        have HPR2 : Hid ((pre ++ [x]) ++ linesP (l.drop (pos + 1)) = linesP l) := Lib.hid (by
          have := HPR.out
          rw [HLN.out] at this
          rw [← this]
          simp)
        obtain ⟨fn, tmps, assign, body, hy, hR⟩ := HY.out pre x w2 HJ2.out (by
          have := congrArg List.length HPR2.out
          simp only [List.length_append, List.length_cons, List.length_nil] at this
          omega)
        have HR := Lib.hid hR
        have hxl : x.length ≤ maxLen := by have h1 := HLL.out; rw [hx]; simp; omega
        clear hR hb hx
        dsimp only [encL] at hy
        rw [cap_eq hxl] at hy
        clear hxl
        rw [← HE.out] at hy
        have hpi : (pos : Int) ≤ ((bs l).size : Int) := by rw [bs_size]; omega
        have hki : (k : Int) ≤ (pos : Int) := by omega
        have hp9 : (pos : Int) + 1 ≤ 9223372036854775807 := by have := HLL.out; unfold maxLen at this; omega
        have c0 := (tCell HB2.out 0).1
        simp at c0
        gi_wp2
        refine HR.out.mono ?_
        rintro e W3 (⟨rfl, hJ3, hk3⟩ | ⟨rfl, hX3⟩)
        · have HJ3 := Lib.hid hJ3
          have HI3 := Lib.hid (hk3.1.same _ _ HI2.out rfl)
          have HB3 := Lib.hid (hk3.2.trans HB2.out)
          have HP3 := Lib.hid (iterPos_of HI3.out)
          have HF3 : Hid (Free 10 l (pos + 1) (pos + 1)) := Lib.hid (fun j h1 h2 => by omega)
          clear hJ3 hk3 hy hnx c0
          gi_wp2
          go_roundw
          case rel => exact ⟨pos + 1, pos + 1, pre ++ [x], by go_num, Nat.le_refl _, hp, HF3, HPR2, HI3, HB3, HJ3⟩
          case measure => rw [HP1.out, HP3.out]; omega
        · have HX3 := Lib.hid hX3
          clear hX3 hy hnx c0
          gi_wp2
          refine bodyPost_ret (results_none rfl _ _ _) rfl ?_
          exact ⟨⟨_, rfl⟩, .inr ⟨_, ⟨_, HPR2.out⟩, HX3.out⟩⟩
      · have HF2 := Lib.hid (HF.out.more hfr)
        have hb : ((r : Int) != 10) = true := by simp; omega
        clear hfr hne
        gi_wp2
        go_roundw
        case rel => exact ⟨k, pos + d, pre, rfl, by omega, by omega, HF2, HPR, HI2, HB2, HJ2⟩
        case measure => rw [HP1.out, HP2.out]; omega
    · obtain rfl : pos = l.length := by omega
      have hnx := fun ty => Lib.run_next_end_at (P := Tryd.prog) wr W.heap.size (bs l) l.length ty HI.out (by rw [bs_size]; omega)
      have c0 := (tCell HB.out 0).1
      simp at c0
      by_cases hk : k < l.length
      · have HLN := Lib.hid (lines_end l k hk HF.out)
        have HE : Hid ((bs l).extract k (bs l).size = bs (l.drop k)) := Lib.hid (by rw [bs_ext, bs_size, List.take_of_length_le (by simp)])
        obtain ⟨x, hx⟩ : ∃ x, x = l.drop k := ⟨_, rfl⟩
        rw [← hx] at HLN HE
        have HPR2 : Hid (pre ++ [x] = linesP l) := Lib.hid (by
          have := HPR.out
          rw [← hx, HLN.out] at this
          exact this)
        obtain ⟨fn, tmps, assign, body, hy, hR⟩ := HY.out pre x wr HJ1.out (by
          have := congrArg List.length HPR2.out
          simp only [List.length_append, List.length_cons, List.length_nil] at this
          omega)
        have HR := Lib.hid hR
        have hxl : x.length ≤ maxLen := by have h1 := HLL.out; rw [hx]; simp; omega
        clear hR hx
        dsimp only [encL] at hy
        rw [cap_eq hxl] at hy
        clear hxl
        rw [← HE.out] at hy
        have hki : (k : Int) < ((bs l).size : Int) := by rw [bs_size]; omega
        have hki2 : (k : Int) ≤ ((bs l).size : Int) := by omega
        gi_wp2
        refine HR.out.mono ?_
        rintro e W3 (⟨rfl, hJ3, hk3⟩ | ⟨rfl, hX3⟩)
        · have HJ3 := Lib.hid hJ3
          clear hJ3 hk3 hy hnx c0
          gi_wp2
          go_end0
          exact ⟨⟨_, rfl⟩, .inl ⟨_, HPR2.out, HJ3.out⟩⟩
        · have HX3 := Lib.hid hX3
          clear hX3 hy hnx c0
          gi_wp2
          go_end0
          exact ⟨⟨_, rfl⟩, .inr ⟨_, ⟨[], by rw [List.append_nil]; exact HPR2.out⟩, HX3.out⟩⟩
      · obtain rfl : k = l.length := by omega
        have HPR2 : Hid (pre = linesP l) := Lib.hid (by
          have := HPR.out
          rw [List.drop_of_length_le (Nat.le_refl _)] at this
          simpa [linesP] using this)
        have hki : ¬ ((l.length : Nat) : Int) < ((bs l).size : Int) := by rw [bs_size]; omega
        gi_wp2
        go_end0
        first
          | exact ⟨⟨_, rfl⟩, .inl ⟨_, HPR2.out, HJ1.out⟩⟩
          | exact ⟨⟨_, rfl⟩, .inl (by rw [← HPR2.out]; exact HJ1.out)⟩
end

section
open Go.RowKit Go.Lib
set_option linter.unusedVariables false
set_option linter.unusedSimpArgs false

def okN (L : List Int) : Prop := ∀ n ∈ L, wi64 n
def okIm (m : ImpM) : Prop := m.name.size ≤ maxLen ∧ wi64 m.exp ∧ wi64 m.res ∧ okN m.params
def okIn (x : InsM) : Prop := wi64 x.op ∧ wi64 x.a ∧ wi64 x.b
def okMe (m : MetM) : Prop := okN m.params ∧ wi64 m.res ∧ okN m.locals ∧ ∀ x ∈ m.code, okIn x
structure OkI (I : ImgM) : Prop where
  name : I.name.size ≤ maxLen
  fields : okN I.fields
  imports : ∀ m ∈ I.imports, okIm m
  methods : ∀ m ∈ I.methods, okMe m
  exports : okN I.exports
theorem wi_small {n : Int} (h : -10000000000 ≤ n ∧ n ≤ 10000000000) : wi64 n := by unfold wi64; omega
theorem numP_range (l : By) : -10000000000 ≤ (numP l).1 ∧ (numP l).1 ≤ 10000000000 := by
  unfold numP
  split
  · rename_i h
    unfold numOk at h
    simp only [Bool.and_eq_true, decide_eq_true_eq] at h
    obtain ⟨_, h2, _, h4⟩ := h
    have hd := numVal_lt (cutP l).1 (cutP l).1.length (Nat.le_refl _) (fun j hj => by
      have := List.all_eq_true.1 h4 (cutP l).1[j] (List.getElem_mem hj)
      simpa [byAt, List.getD, hj] using this)
    rw [List.take_of_length_le (Nat.le_refl _)] at hd
    have h10 : 10 ^ (cutP l).1.length ≤ 10 ^ 10 := Nat.pow_le_pow_right (by omega) h2
    have : (10 : Nat) ^ 10 = 10000000000 := rfl
    unfold signV
    split <;> omega
  · omega
theorem numW_wi (x : Ws) : wi64 (numW x).1 := wi_small (numP_range _)
theorem kind_wi (x : Ws) : wi64 (kindW x).1 := by have := kind_range (nextP x.1).1; exact wi_small ⟨by show -10000000000 ≤ kindP _; omega, by show kindP _ ≤ 10000000000; omega⟩
theorem resW_wi (x : Ws) : wi64 (resW x).1 := by have := kind_range (nextP x.1).1; exact wi_small ⟨by show -10000000000 ≤ kindP _; omega, by show kindP _ ≤ 10000000000; omega⟩
theorem addL_all {α : Type} {p : α → Prop} {most : Int} {L : List α} {x : α} (h : ∀ y ∈ L, p y) (hx : p x) : ∀ y ∈ addL most L x, p y := fun y hy => by
  rcases addL_mem hy with h1 | h1
  · exact h y h1
  · rw [h1]; exact hx
theorem kindsGo_ok : ∀ (f : Nat) (most : Int) (L : List Int) (x : Ws), okN L → okN (kindsGo f most L x).1
  | 0, _, _, _, h => h
  | f + 1, most, L, x, h => by
    cases hq : (!x.2 && !emptyP x.1) with
    | true =>
      rw [kinds_on hq]
      exact kindsGo_ok f most _ _ (addL_all h (kind_wi x))
    | false => rw [kinds_stop hq]; exact h
theorem kindsW_ok (most : Int) (x : Ws) : okN (kindsW most x).1 := kindsGo_ok _ _ _ _ (by simp [okN])
theorem nameW_size (x : Ws) : (bs (nameW x).1).size ≤ maxLen := by
  unfold nameW
  split
  · rename_i h
    have := nm_size16 h
    unfold maxLen
    simp only
    omega
  · show (bs []).size ≤ maxLen
    unfold maxLen
    rw [bs_size]
    simp
theorem opB_range (s : ByteArray) : 0 ≤ opB s ∧ opB s ≤ 39 := by
  unfold opB
  cases h : wordsP.find? (fun p => p.2.toList == s.toList) with
  | none => simp
  | some p =>
    have := words_mem (List.mem_of_find?_eq_some h)
    simp
    omega
theorem insW_ok (s : ByteArray) (x : Ws) : okIn (insW (opB s) x).1 := by
  have h0 := opB_range s
  have hz : wi64 0 := wi_small (by omega)
  have hop : wi64 (opB s) := wi_small (by omega)
  unfold insW
  split
  · exact ⟨hop, hz, hz⟩
  · split
    · exact ⟨hop, numW_wi _, hz⟩
    · exact ⟨hop, numW_wi _, numW_wi _⟩
theorem lastM_ok {L : List MetM} {g : MetM → MetM} (h : ∀ m ∈ L, okMe m) (hg : ∀ m, okMe m → okMe (g m)) : ∀ m ∈ lastM L g, okMe m := fun m hm => by
  unfold lastM at hm
  by_cases h0 : L = []
  · subst h0; simp at hm
  · rcases List.mem_or_eq_of_mem_set hm with h1 | h1
    · exact h m h1
    · subst h1
      have hl := List.length_pos_iff.2 h0
      refine hg _ (h _ ?_)
      simp [List.getD, (by omega : L.length - 1 < L.length)]
theorem putP_ok (f : By) (D : DrM) (x : Ws) (h : OkI D.img) : OkI (putP f D x).1.img := by
  unfold putP
  split
  · exact ⟨nameW_size x, h.fields, h.imports, h.methods, h.exports⟩
  · exact ⟨h.name, addL_all h.fields (kind_wi x), h.imports, h.methods, h.exports⟩
  · exact ⟨h.name, h.fields, addL_all h.imports ⟨nameW_size x, numW_wi _, resW_wi _, kindsW_ok _ _⟩, h.methods, h.exports⟩
  · exact ⟨h.name, h.fields, h.imports, addL_all h.methods ⟨kindsW_ok _ _, resW_wi _, (show ∀ n ∈ ([] : List Int), wi64 n by simp), (show ∀ n ∈ ([] : List InsM), okIn n by simp)⟩, h.exports⟩
  · exact ⟨h.name, h.fields, h.imports, lastM_ok (g := fun m => ⟨m.params, m.res, (locW x).1, m.code⟩) h.methods (fun m hm => ⟨hm.1, hm.2.1, kindsW_ok 10 (x.1, x.2 || !(!emptyP x.1)), hm.2.2.2⟩), h.exports⟩
  · exact ⟨h.name, h.fields, h.imports, h.methods, addL_all h.exports (numW_wi x)⟩
  · exact ⟨h.name, h.fields, h.imports, lastM_ok (g := fun m => ⟨m.params, m.res, m.locals, addL 120 m.code (insW (opB (bs f)) x).1⟩) h.methods (fun m hm => ⟨hm.1, hm.2.1, hm.2.2.1, addL_all hm.2.2.2 (insW_ok _ x)⟩), h.exports⟩
theorem takeD_ok {D D' : DrM} {line : By} (h : OkI D.img) (ht : takeD D line = some D') : OkI D'.img := by
  unfold takeD at ht
  split at ht
  · simp at ht; subst ht; exact h
  · unfold lineP at ht
    split at ht
    · split at ht
      · simp at ht; subst ht; exact putP_ok _ (D.setPos _) _ h
      · cases ht
    · cases ht
section
variable {B b : Nat} {w : World} {D : DrM} {V : DrV}
theorem flatInt (L : List Int) : L.flatMap intC = L.map (.int .i64) := by
  induction L with
  | nil => rfl
  | cons x L ih => rw [List.flatMap_cons, ih]; rfl
theorem Row.ints {v : Value} {L : List Int} (h : Row w INT 1 intC v L) (ho : okN L) : Ints w v L := by
  refine ⟨(Sl.own h).congr (fun i hi j hj => ?_), ho⟩
  obtain rfl : j = 0 := by omega
  rw [flatInt]
  simp [hi, List.getD]
theorem flatAt {α : Type} [Inhabited α] (f : α → List Value) (sz : Nat) (d : Value) (hf : ∀ x, (f x).length = sz) : ∀ (L : List α) (i j : Nat), i < L.length → j < sz → (L.flatMap f).getD (i * sz + j) d = (f (L.getD i default)).getD j d
  | [], i, j, hi, _ => by simp at hi
  | x :: r, 0, j, _, hj => by
    simp [List.getD, List.getElem?_append, hf, hj]
  | x :: r, i + 1, j, hi, hj => by
    have := flatAt f sz d hf r i j (by simpa using hi) hj
    rw [List.flatMap_cons, List.getD_eq_getElem?_getD, List.getElem?_append_right (by rw [hf, Nat.add_mul]; omega), hf, show (i + 1) * sz + j - sz = i * sz + j by rw [Nat.add_mul]; omega, ← List.getD_eq_getElem?_getD, this]
    simp [List.getD]
theorem Row.inss {v : Value} {L : List InsM} (h : Row w INS 3 insC v L) (ho : ∀ x ∈ L, okIn x) : Inss w v L := by
  refine ⟨(Sl.own h).congr (fun i hi j hj => ?_), ho⟩
  rw [flatAt insC 3 _ (fun _ => rfl) L i j hi hj]
  unfold insF insC
  match j, hj with
  | 0, _ => rfl
  | 1, _ => rfl
  | 2, _ => rfl
theorem mapGet {α β : Type} [Inhabited α] [Inhabited β] (L : List α) (g : α → β) (i : Nat) (hi : i < L.length) : (L.map g).getD i default = g (L[i]) := by simp [List.getD, hi]
theorem DrAt.imps (h : DrAt B w b D V) (ho : OkI D.img) : Imps w V.iv D.img.imports := by
  have hlen : D.img.imports.length = V.P.length := by rw [← h.pI]; simp
  refine ⟨fun i => (V.P.getD i (default, .slice none 0 0)).2, ?_, fun i hi => ?_, fun m hm => ⟨(ho.imports m hm).2.1, (ho.imports m hm).2.2.1, (ho.imports m hm).1⟩⟩
  · rw [hlen]
    letI : Inhabited PI := ⟨(default, .slice none 0 0)⟩
    refine (Sl.own h.irow).congr (fun i hi j hj => ?_)
    rw [flatAt impC 4 _ (fun _ => rfl) V.P i j hi hj]
    have e1 : V.P.getD i default = V.P[i] := by simp [List.getD, hi]
    have e2 : V.P.getD i (default, .slice none 0 0) = V.P[i] := by simp [List.getD, hi]
    have e3 : D.img.imports.getD i default = V.P[i].1 := by rw [← h.pI, mapGet V.P Prod.fst i hi]
    unfold impF impC
    rw [e1, e3]
    simp only [e2]
    match j, hj with
    | 0, _ => rfl
    | 1, _ => rfl
    | 2, _ => rfl
    | 3, _ => rfl
  · have hi2 : i < V.P.length := by omega
    have e2 : V.P.getD i (default, .slice none 0 0) = V.P[i] := by simp [List.getD, hi2]
    have e3 : D.img.imports.getD i default = V.P[i].1 := by
      letI : Inhabited PI := ⟨(default, .slice none 0 0)⟩
      rw [← h.pI, mapGet V.P Prod.fst i hi2]
    rw [e3]
    simp only [e2]
    exact (h.prow _ (List.getElem_mem hi2)).ints (ho.imports _ (by rw [← h.pI]; exact List.mem_map.2 ⟨_, List.getElem_mem hi2, rfl⟩)).2.2.2
theorem DrAt.mets (h : DrAt B w b D V) (ho : OkI D.img) : Mets w V.mv D.img.methods := by
  have hlen : D.img.methods.length = V.M.length := by rw [← h.mI]; simp
  letI : Inhabited PM := ⟨(default, .slice none 0 0, .slice none 0 0, .slice none 0 0)⟩
  have e3 : ∀ i (hi : i < V.M.length), D.img.methods.getD i default = V.M[i].1 := fun i hi => by rw [← h.mI, mapGet V.M Prod.fst i hi]
  have e2 : ∀ i (hi : i < V.M.length), V.M.getD i default = V.M[i] := fun i hi => by simp [List.getD, hi]
  refine ⟨fun i => (V.M.getD i default).2.1, fun i => (V.M.getD i default).2.2.1, fun i => (V.M.getD i default).2.2.2, ?_, fun i hi => ?_, fun m hm => (ho.methods m hm).2.1⟩
  · rw [hlen]
    refine (Sl.own h.mrow).congr (fun i hi j hj => ?_)
    rw [flatAt metC 4 _ (fun _ => rfl) V.M i j hi hj]
    unfold metF metC
    simp only [e2 i hi, e3 i hi]
    match j, hj with
    | 0, _ => rfl
    | 1, _ => rfl
    | 2, _ => rfl
    | 3, _ => rfl
  · have hi2 : i < V.M.length := by omega
    have hq := h.qrow _ (List.getElem_mem hi2)
    have hm := ho.methods V.M[i].1 (by rw [← h.mI]; exact List.mem_map.2 ⟨_, List.getElem_mem hi2, rfl⟩)
    simp only [e2 i hi2, e3 i hi2]
    exact ⟨hq.1.ints hm.1, hq.2.1.ints hm.2.2.1, hq.2.2.inss hm.2.2.2⟩
/-- a draft's image, by value -/
theorem DrAt.img (h : DrAt B w b D V) (ho : OkI D.img) : Img w (img5 D.img.name V.fv V.iv V.mv V.xv) D.img :=
  ⟨_, _, _, _, rfl, h.frow.ints ho.fields, h.imps ho, h.mets ho, h.xrow.ints ho.exports, ho.name⟩
end
end
end Go.Proofs.YtbjmmdomdijilabDoor

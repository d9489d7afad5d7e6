/- The hand's Bent: an applet with something turned reads as some applet. -/
import Derived.Test.YtkjmpobbbjljjaaDoorBn
namespace Go.Proofs.YtkjmpobbbjljjaaDoor
open Go.RowKit Go.Lib
set_option linter.unusedVariables false
set_option linter.unusedSimpArgs false

theorem hPickN (n m : Int) (w : World) (hm : 1 ≤ m) (hm2 : m ≤ 9223372036854775807) :
    Calls Tryd.prog 9 #[.int .i64 n, .int .i64 m] w fun e w' => ∃ k : Nat, e = .returned (.int .i64 k) ∧ (k : Int) < m ∧ w = w' := by
  refine (hPick n m w hm hm2).mono fun e w' ⟨h1, h2⟩ => ?_
  have h3 := Int.emod_nonneg n (b := m) (by omega)
  have h4 := Int.emod_lt_of_pos n (b := m) (by omega)
  exact ⟨(n % m).toNat, by rw [h1]; congr 2; omega, by omega, h2⟩
theorem Img.parts {w : World} {v : Value} {I : ImgM} (h : Img w v I) : ∃ fa fc ia ic ma mc xa xc, v = img5 I.name (.slice fa I.fields.length fc) (.slice ia I.imports.length ic) (.slice ma I.methods.length mc) (.slice xa I.exports.length xc) ∧
    Ints w (.slice fa I.fields.length fc) I.fields ∧ Imps w (.slice ia I.imports.length ic) I.imports ∧ Mets w (.slice ma I.methods.length mc) I.methods ∧ Ints w (.slice xa I.exports.length xc) I.exports ∧ I.name.size ≤ maxLen := by
  obtain ⟨f, i, m, x, rfl, hf, hi, hm, hx, hsz⟩ := h
  obtain ⟨fa, fc, rfl, -, -⟩ := hf.slice
  obtain ⟨ia, ic, rfl, -, -⟩ := hi.slice
  obtain ⟨ma, mc, rfl, -, -⟩ := hm.slice
  obtain ⟨xa, xc, rfl, -, -⟩ := hx.slice
  exact ⟨fa, fc, ia, ic, ma, mc, xa, xc, rfl, hf, hi, hm, hx, hsz⟩

theorem bnEmpty (w : World) (e : TypeId) (sz g : Nat) (hg : g = w.heap.size) : (w.alloc (.cells #[] e)).ownsRow 0 e sz (.slice (some ⟨g, 0, none⟩) 0 0) 0 [] := by
  subst hg
  refine ⟨by simp, .inr ⟨w.heap.size, 0, #[], rfl, Nat.zero_le _, ?_, Nat.le_refl _, by unfold maxLen; omega, by simp, by simp⟩⟩
  show (w.heap.push _)[w.heap.size]? = _
  simp
theorem bnFresh {w wa w1 : World} {g : Nat} {v v' : Value} (hg : g = w.heap.size) (hw : wa.heap.size = w.heap.size + 1) (hv : ∀ k, v.ownBlock = some k → k = g) (hf : Fresh wa v v') : ∀ k, v'.ownBlock = some k → w.heap.size ≤ k := by
  intro k hk
  rcases hf k hk with h | h
  · have := hv k h; omega
  · omega
theorem Inss.upd {w w' : World} {v : Value} {C : List InsM} {S : Nat → Prop} (h : Inss w v C) (hu : Upd S w w') (hS : ∀ k, v.ownBlock = some k → ¬ S k) : Inss w' v C := ⟨h.1.upd hu hS, h.2⟩
theorem cells_at {w : World} {g : Nat} {C : Array Value} {e : TypeId} {fr : Nat × Nat} (h : w.heap[g]? = some (.cells C e fr)) (j : Nat) (x : Value) (hx : C[j]? = some x) : w.cell? ⟨g, j, none⟩ = some x := by
  show (match w.heap[g]? with | some (.cells c _ _) => _ | _ => _) = _
  rw [h]
  simpa using hx
theorem cells_fr {w : World} {g : Nat} {C : Array Value} {e : TypeId} (h : w.heap[g]? = some (.cells C e (0, 0))) (j : Nat) : w.frozen? ⟨g, j, none⟩ = false := by simp [World.frozen?, h]
theorem blk_top' (w : World) (o : Obj) (k : Nat) (h : k = w.heap.size) : (w.alloc o).heap[k]? = some o := by
  subst h
  show (w.heap.push _)[w.heap.size]? = _
  simp
theorem set_keep {w : World} {p : Addr} {v : Value} {g : Nat} {o : Obj} (h : w.heap[g]? = some o) (hne : p.block ≠ g) : (w.setCell p v).heap[g]? = some o := by
  rw [Below.heap_setCell _ _ _ _ (fun e => hne e.symm)]; exact h

theorem setAt (w : World) (g q : Nat) (v : Value) : Upd (fun j => j = g) w (w.setCell ⟨g, q, none⟩ v) := Upd.setCell (S := fun j => j = g) w (p := ⟨g, q, none⟩) (.inl rfl) v
theorem bnBelow {w w' : World} (h : Upd (fun _ => False) w w') : Below w.heap.size w w' := h.below (Nat.le_refl _) (fun _ h => h.elim)
theorem bnNext {w4 WA w' : World} {v v' : Value} (hU : Upd (fun _ => False) w4 WA) (hv : ∀ k, v.ownBlock = some k → w4.heap.size ≤ k) (hg : WA.grownBy w' v.ownBlock) (hf : Fresh WA v v') : Upd (fun _ => False) w4 w' ∧ ∀ k, v'.ownBlock = some k → w4.heap.size ≤ k :=
  ⟨hU.trans (Upd.grown (S := fun k => w4.heap.size ≤ k) hg (fun k hk => .inl (hv k hk))) (fun k hk hl => by omega), fun k hk => by
    rcases hf k hk with h | h
    · exact hv k h
    · have := hU.size; omega⟩
theorem wpOp_mk {P : Program} {ops : Array Oper} {Q : Exit → Act → World → Prop} {i : Nat} {o : Oper} {K : Act → World → Prop} {a : Act} {w : World} (ho : ops[i]? = some o)
    (h : if Region.wanted o (yielded ops a.tmps) = true then Oper.wp P o a w K Q else K (a.put o.dst undef) w) : wpOp P ops Q i K a w := by
  unfold wpOp
  simp only [ho]
  split
  · rename_i hw
    rw [if_pos hw] at h
    exact .inl h
  · rename_i hw
    rw [if_neg hw] at h
    exact h
/-- two may come up: either is carried out -/
theorem wpHL_two {P : Program} {ops : Array Oper} {Q : Exit → Act → World → Prop} {md : Region.Mode} {S : World → Prop} {n i j : Nat} {oi oj : Oper} {L : Array Bool → Act → World → Prop} {f : Nat} {listed : Array Bool} {a : Act} {w : World} (hoi : ops[i]? = some oi) (hoj : ops[j]? = some oj) (hr : Region.ready md ops listed = [i, j]) (hin : i < n) (hjn : j < n)
    (h1 : ∀ K : Act → World → Prop, (∀ a' w', S w' → wpHL P md ops Q S n L f (listed.setIfInBounds i true) a' w' → K a' w') → if Region.wanted oi (yielded ops a.tmps) = true then Oper.wp P oi a w K Q else K (a.put oi.dst undef) w)
    (h2 : ∀ K : Act → World → Prop, (∀ a' w', S w' → wpHL P md ops Q S n L f (listed.setIfInBounds j true) a' w' → K a' w') → if Region.wanted oj (yielded ops a.tmps) = true then Oper.wp P oj a w K Q else K (a.put oj.dst undef) w) : wpHL P md ops Q S n L (f + 1) listed a w := by
  refine ⟨by rw [hr]; simp, fun k hk => ?_⟩
  rw [hr] at hk
  simp at hk
  rcases hk with rfl | rfl
  · exact ⟨hin, wpOp_mk hoi (h1 _ (fun a' w' g1 g2 => ⟨g1, g2⟩))⟩
  · exact ⟨hjn, wpOp_mk hoj (h2 _ (fun a' w' g1 g2 => ⟨g1, g2⟩))⟩
theorem set_blk {w : World} {g j : Nat} {v : Value} {C : Array Value} {e : TypeId} {fr : Nat × Nat} (h : w.heap[g]? = some (.cells C e fr)) : (w.setCell ⟨g, j, none⟩ v).heap[g]? = some (.cells (C.setIfInBounds j v) e fr) := by
  simp [World.setCell, Array.getElem?_modify, h]
theorem set_code {L : List MetM} {k i : Nat} {C : List InsM} (hi : i < L.length) : (L.set k { L.getD k default with code := C }).getD i default = if i = k then { L.getD k default with code := C } else L.getD i default := by
  by_cases h : i = k
  · subst h
    rw [if_pos rfl]
    simp [List.getD, hi]
  · rw [if_neg h]
    simp [List.getD, List.getElem?_set, Ne.symm h]
theorem bent_end {w w4 : World} {I : ImgM} {gm gc capm k : Nat} {fa ia ma xa : Option Addr} {fc ic mc xc : Nat} {p q r : Nat → Value} (hk : k < I.methods.length) (b1 : gm ≠ w.heap.size) (b2 : gm ≠ w.heap.size + 1) (b3 : gc ≠ w.heap.size) (b4 : gc ≠ w.heap.size + 1) (b5 : gc ≠ gm) (b6 : gc < w4.heap.size) (b7 : gm < w4.heap.size) (b8 : w.heap.size ≤ gm) (b9 : w.heap.size ≤ gc)
    (hO : w4.ownsRow 0 33 4 (.slice (some ⟨gm, 0, none⟩) I.methods.length capm) I.methods.length (cellsL 4 I.methods.length (metF I.methods p q r)))
    (hB : w4.heap[w.heap.size]? = some (.cells #[.string I.name, .slice fa I.fields.length fc, .slice ia I.imports.length ic, .slice ma I.methods.length mc, .slice xa I.exports.length xc] 26 (0, 0))) (hZ : w4.heap[w.heap.size + 1]? = some (.cells #[.string { data := #[] }, .slice none 0 0, .slice none 0 0, .slice none 0 0, .slice none 0 0] 26 (0, 0)))
    (hRW : ∀ i, i < I.methods.length → Ints w (p i) (I.methods.getD i default).params ∧ Ints w (q i) (I.methods.getD i default).locals ∧ Inss w (r i) (I.methods.getD i default).code)
    (hres : ∀ m ∈ I.methods, wi64 m.res) (hf : Ints w (.slice fa I.fields.length fc) I.fields) (hi : Imps w (.slice ia I.imports.length ic) I.imports) (hx : Ints w (.slice xa I.exports.length xc) I.exports) (hs : I.name.size ≤ maxLen) (hu : Upd (fun _ => False) w w4) :
    ∀ (wr : World) (ca : Option Addr) (nn cc : Nat) (C' : List InsM), Upd (fun j => j = gc) w4 wr → Inss wr (.slice ca nn cc) C' → (∀ j, (Value.slice ca nn cc).ownBlock = some j → j = gc ∨ w4.heap.size ≤ j) →
      (∃ z, wr.cell? ⟨gm, k * 4 + 3, none⟩ = some z) ∧ wr.frozen? ⟨gm, k * 4 + 3, none⟩ = false ∧
      (wr.setCell ⟨gm, k * 4 + 3, none⟩ (.slice ca nn cc)).heap[w.heap.size]? = some (.cells #[.string I.name, .slice fa I.fields.length fc, .slice ia I.imports.length ic, .slice ma I.methods.length mc, .slice xa I.exports.length xc] 26 (0, 0)) ∧ (wr.setCell ⟨gm, k * 4 + 3, none⟩ (.slice ca nn cc)).heap[w.heap.size + 1]? = some (.cells #[.string { data := #[] }, .slice none 0 0, .slice none 0 0, .slice none 0 0, .slice none 0 0] 26 (0, 0)) ∧
      (∀ w', Upd (fun j => j = w.heap.size + 1) ((wr.setCell ⟨gm, k * 4 + 3, none⟩ (.slice ca nn cc)).setCell ⟨w.heap.size, 3, none⟩ (.slice (some ⟨gm, 0, none⟩) I.methods.length capm)) w' →
        Img w' (img5 I.name (.slice fa I.fields.length fc) (.slice ia I.imports.length ic) (.slice (some ⟨gm, 0, none⟩) I.methods.length capm) (.slice xa I.exports.length xc)) { I with methods := I.methods.set k { I.methods.getD k default with code := C' } } ∧ Upd (fun _ => False) w w') := by
  intro wr ca nn cc C' hur hI hfx
  have hOr := ownsRow_upd hO hur (fun j hj h => by simp [Value.ownBlock] at hj; omega)
  have hSr := Sl.of_row hOr
  obtain ⟨g', off, he, hat⟩ := hSr.at hk
  simp at he
  obtain ⟨rfl, rfl⟩ := he
  have h3 := hat 3 (by omega)
  rw [Nat.zero_add] at h3
  have hBr := (hur.block w.heap.size (by have := hu.size; have := Array.getElem?_eq_some_iff.1 hB; obtain ⟨h, _⟩ := this; exact h) (fun h => b3 h.symm)).trans hB
  have hZr := (hur.block (w.heap.size + 1) (by have := Array.getElem?_eq_some_iff.1 hZ; obtain ⟨h, _⟩ := this; exact h) (fun h => b4 h.symm)).trans hZ
  refine ⟨⟨_, h3⟩, row_thaw hOr _, set_keep hBr b1, set_keep hZr b2, fun w' hw' => ?_⟩
  have hA : Upd (fun j => j = gm) wr (wr.setCell ⟨gm, k * 4 + 3, none⟩ (.slice ca nn cc)) := setAt _ _ _ _
  have hAB : Upd (fun j => j = w.heap.size) (wr.setCell ⟨gm, k * 4 + 3, none⟩ (.slice ca nn cc)) ((wr.setCell ⟨gm, k * 4 + 3, none⟩ (.slice ca nn cc)).setCell ⟨w.heap.size, 3, none⟩ (.slice (some ⟨gm, 0, none⟩) I.methods.length capm)) := setAt _ _ _ _
  have hBW : Upd (fun j => j = w.heap.size ∨ j = w.heap.size + 1) (wr.setCell ⟨gm, k * 4 + 3, none⟩ (.slice ca nn cc)) w' := (hAB.mono (fun i h _ => .inl h)).trans hw' (fun i h _ => .inr h)
  have hALL : Upd (fun j => j = gm ∨ j = w.heap.size ∨ j = w.heap.size + 1) wr w' := (hA.mono (fun i h _ => .inl h)).trans hBW (fun i h _ => .inr h)
  have hU : Upd (fun _ => False) w w' := (hu.trans hur (fun i h hl => by omega)).trans hALL (fun i h hl => by omega)
  have hb := bnBelow hU
  refine ⟨⟨_, _, _, _, rfl, hf.later hb, hi.later hb, ⟨p, q, fun i => if i = k then .slice ca nn cc else r i, ?_, fun i hi' => ?_, fun m hm => ?_⟩, hx.later hb, hs⟩, hU⟩
  · have h5 := hSr.put (k := k) (l := 3) hk (by omega) (.slice ca nn cc)
    rw [Nat.zero_add] at h5
    have h6 := (h5.upd hBW (fun j hj h => by simp [Value.ownBlock] at hj; omega)).congr (f' := metF (I.methods.set k { I.methods.getD k default with code := C' }) p q (fun i => if i = k then .slice ca nn cc else r i)) (fun i hi' j hj => by
      unfold metF
      rw [set_code hi']
      by_cases hik : i = k
      · subst hik
        match j, hj with
        | 0, _ => simp
        | 1, _ => simp
        | 2, _ => simp
        | 3, _ => simp
      · simp [hik])
    show Sl w' _ 4 (I.methods.set k _).length _
    rw [List.length_set]
    exact h6
  · simp only [List.length_set] at hi'
    rw [set_code hi']
    obtain ⟨g1, g2, g3⟩ := hRW i hi'
    by_cases hik : i = k
    · rw [if_pos hik]
      show Ints w' (p i) _ ∧ Ints w' (q i) _ ∧ Inss w' (if i = k then .slice ca nn cc else r i) _
      rw [if_pos hik]
      subst hik
      exact ⟨g1.later hb, g2.later hb, hI.upd hALL (fun j hj h => by
        rcases hfx j hj with h1 | h1
        · omega
        · have := Array.getElem?_eq_some_iff.1 hZ; obtain ⟨h2, _⟩ := this; omega)⟩
    · rw [if_neg hik]
      show Ints w' (p i) _ ∧ Ints w' (q i) _ ∧ Inss w' (if i = k then .slice ca nn cc else r i) _
      rw [if_neg hik]
      exact ⟨g1.later hb, g2.later hb, g3.later hb⟩
  · simp only at hm
    rcases List.mem_or_eq_of_mem_set hm with h1 | rfl
    · exact hres m h1
    · exact hres (I.methods.getD k default) (mem_getD hk)
end Go.Proofs.YtkjmpobbbjljjaaDoor

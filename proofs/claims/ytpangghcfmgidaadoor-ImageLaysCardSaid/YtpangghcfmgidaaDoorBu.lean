/- The law's own bent: an applet of raw statements, with something turned, reads as some applet. -/
import Derived.Test.YtpangghcfmgidaaDoorBt
import Derived.Test.YtpangghcfmgidaaDoorMu
namespace Go.Proofs.YtpangghcfmgidaaDoor
open Go.RowKit Go.Lib
set_option linter.unusedVariables false
set_option linter.unusedSimpArgs false

section
variable {w w' : World} {R : Nat} {v : Value}
def NoInt (w : World) (R : Nat) : Prop := ∀ o k m, w.cell? ⟨R, o, none⟩ ≠ some (.int k m)
theorem Sl.off {sz n : Nat} {f : Nat → Nat → Value} (h : Sl w v sz n f) (hu : Upd (fun j => j = R) w w') (hR : NoInt w R) (j0 : Nat) (hj0 : j0 < sz) (hint : ∀ i, i < n → ∃ k m, f i j0 = .int k m) : Sl w' v sz n f := by
  obtain ⟨a, c, rfl, h1, h2, h3⟩ := h
  refine ⟨a, c, rfl, h1, h2, ?_⟩
  rcases h3 with h3 | ⟨g, off, rfl, h4⟩
  · exact .inl h3
  · refine .inr ⟨g, off, rfl, fun i hi j hj => ?_⟩
    have hc := h4 i hi j hj
    rw [hu.cell (World.block_lt_of_cell? w _ hc) (fun hg => ?_)]
    · exact hc
    · have h0 := h4 i hi j0 hj0
      obtain ⟨k, m, e⟩ := hint i hi
      rw [e] at h0
      simp only at hg
      rw [hg] at h0
      exact hR _ _ _ h0
theorem Ints.off {L : List Int} (h : Ints w v L) (hu : Upd (fun j => j = R) w w') (hR : NoInt w R) : Ints w' v L := ⟨h.1.off hu hR 0 (by omega) (fun i _ => ⟨_, _, rfl⟩), h.2⟩
theorem Inss.off {L : List InsM} (h : Inss w v L) (hu : Upd (fun j => j = R) w w') (hR : NoInt w R) : Inss w' v L := ⟨h.1.off hu hR 0 (by omega) (fun i _ => ⟨_, _, rfl⟩), h.2⟩
theorem Imps.off {L : List ImpM} (h : Imps w v L) (hu : Upd (fun j => j = R) w w') (hR : NoInt w R) : Imps w' v L := by
  obtain ⟨p, h1, h2, h3⟩ := h
  exact ⟨p, h1.off hu hR 1 (by omega) (fun i _ => ⟨_, _, rfl⟩), fun i hi => (h2 i hi).off hu hR, h3⟩
theorem Mets.off {L : List MetM} (h : Mets w v L) (hu : Upd (fun j => j = R) w w') (hR : NoInt w R) : Mets w' v L := by
  obtain ⟨p, q, r, h1, h2, h3⟩ := h
  exact ⟨p, q, r, h1.off hu hR 1 (by omega) (fun i _ => ⟨_, _, rfl⟩), fun i hi => ⟨(h2 i hi).1.off hu hR, (h2 i hi).2.1.off hu hR, (h2 i hi).2.2.off hu hR⟩, h3⟩
theorem Img.off {I : ImgM} (h : Img w v I) (hu : Upd (fun j => j = R) w w') (hR : NoInt w R) : Img w' v I := by
  obtain ⟨f, i, m, x, rfl, h1, h2, h3, h4, h5⟩ := h
  exact ⟨f, i, m, x, rfl, h1.off hu hR, h2.off hu hR, h3.off hu hR, h4.off hu hR, h5⟩
end
theorem noInt {w : World} {R : Nat} {s : ByteArray} {e : TypeId} {fr : Nat × Nat} {ab bb cb db : Option Addr} {an bn cn dn ac bc cc dc : Nat} (h : w.heap[R]? = some (.cells #[.string s, .slice ab an ac, .slice bb bn bc, .slice cb cn cc, .slice db dn dc] e fr)) : NoInt w R := by
  intro o k m hc
  unfold World.cell? at hc
  simp only [h] at hc
  simp at hc
  match o, hc with
  | 0, h => simp at h
  | 1, h => simp at h
  | 2, h => simp at h
  | 3, h => simp at h
  | 4, h => simp at h
  | o + 5, h => simp at h

theorem img_mk {w : World} {s : ByteArray} {f i m x : Value} {F X : List Int} {P : List ImpM} {M : List MetM} (hs : s.size ≤ maxLen) (h1 : Ints w f F) (h2 : Imps w i P) (h3 : Mets w m M) (h4 : Ints w x X) : Img w (img5 s f i m x) ⟨s, F, P, M, X⟩ := ⟨_, _, _, _, rfl, h1, h2, h3, h4, hs⟩
theorem Sl.snoc {w : World} {e : TypeId} {v : Value} {n : Nat} {f : Nat → Nat → Value} {a b c d : Value} (h : w.ownsRow 0 e 4 v (n + 1) (cellsL 4 n f ++ [a, b, c, d])) : Sl w v 4 (n + 1) (fun i j => if i < n then f i j else [a, b, c, d].getD j (.int .i64 0)) := by
  refine (Sl.own h).congr fun i hi j hj => ?_
  by_cases hin : i < n
  · rw [if_pos hin]
    have hlt : i * 4 + j < (cellsL 4 n f).length := by rw [cellsL_len]; omega
    have e1 := cellsL_at (f := f) (d := .int .i64 0) hin hj
    rw [← e1]
    simp only [List.getD, List.getElem?_append_left hlt]
  · rw [if_neg hin]
    have e2 : i = n := by omega
    subst e2
    have hge : (cellsL 4 i f).length ≤ i * 4 + j := by rw [cellsL_len]; omega
    simp only [List.getD, List.getElem?_append_right hge]
    rw [cellsL_len, show i * 4 + j - i * 4 = j by omega]
theorem getD_snoc {α : Type} [Inhabited α] (L : List α) (x : α) (i : Nat) (hi : i < L.length + 1) : (L ++ [x]).getD i default = if i < L.length then L.getD i default else x := by
  by_cases h : i < L.length
  · rw [if_pos h]; simp [List.getD, List.getElem?_append_left h]
  · rw [if_neg h]
    have : i = L.length := by omega
    subst this
    simp [List.getD]
theorem imps_snoc {w : World} {v : Value} {P : List ImpM} {p : Nat → Value} {s : ByteArray} {x r : Int} (h : w.ownsRow 0 44 4 v (P.length + 1) (cellsL 4 P.length (impF P p) ++ [.string s, .int .i64 x, .slice none 0 0, .int .i64 r])) (hp : ∀ i, i < P.length → Ints w (p i) (P.getD i default).params) (hw : ∀ y ∈ P, wi64 y.exp ∧ wi64 y.res ∧ y.name.size ≤ maxLen) (hx : wi64 x) (hr : wi64 r) (hs : s.size ≤ maxLen) : Imps w v (P ++ [(⟨s, x, [], r⟩ : ImpM)]) := by
  refine ⟨fun i => if i < P.length then p i else .slice none 0 0, ?_, fun i hi => ?_, fun y hy => ?_⟩
  · have hl : (P ++ [(⟨s, x, [], r⟩ : ImpM)]).length = P.length + 1 := by simp
    rw [hl]
    refine (Sl.snoc h).congr fun i hi j hj => ?_
    unfold impF
    rw [getD_snoc _ _ _ hi]
    by_cases hin : i < P.length
    · simp only [if_pos hin]
    · simp only [if_neg hin]
      match j, hj with
      | 0, _ => rfl
      | 1, _ => rfl
      | 2, _ => rfl
      | 3, _ => rfl
  · have hl : (P ++ [(⟨s, x, [], r⟩ : ImpM)]).length = P.length + 1 := by simp
    rw [hl] at hi
    rw [getD_snoc _ _ _ hi]
    by_cases hin : i < P.length
    · simp only [if_pos hin]; exact hp i hin
    · simp only [if_neg hin]; exact ⟨Sl.nil _ _ _, by simp⟩
  · rcases List.mem_append.1 hy with h1 | h1
    · exact hw y h1
    · simp at h1; subst h1; exact ⟨hx, hr, hs⟩
theorem mets_snoc {w : World} {v : Value} {M : List MetM} {p q r : Nat → Value} {a c : Value} {A : List Int} {C : List InsM} (h : w.ownsRow 0 49 4 v (M.length + 1) (cellsL 4 M.length (metF M p q r) ++ [a, .int .i64 0, .slice none 0 0, c])) (hp : ∀ i, i < M.length → Ints w (p i) (M.getD i default).params ∧ Ints w (q i) (M.getD i default).locals ∧ Inss w (r i) (M.getD i default).code) (hw : ∀ y ∈ M, wi64 y.res) (ha : Ints w a A) (hc : Inss w c C) : Mets w v (M ++ [(⟨A, 0, [], C⟩ : MetM)]) := by
  refine ⟨fun i => if i < M.length then p i else a, fun i => if i < M.length then q i else .slice none 0 0, fun i => if i < M.length then r i else c, ?_, fun i hi => ?_, fun y hy => ?_⟩
  · have hl : (M ++ [(⟨A, 0, [], C⟩ : MetM)]).length = M.length + 1 := by simp
    rw [hl]
    refine (Sl.snoc h).congr fun i hi j hj => ?_
    unfold metF
    rw [getD_snoc _ _ _ hi]
    by_cases hin : i < M.length
    · simp only [if_pos hin]
    · simp only [if_neg hin]
      match j, hj with
      | 0, _ => rfl
      | 1, _ => rfl
      | 2, _ => rfl
      | 3, _ => rfl
  · have hl : (M ++ [(⟨A, 0, [], C⟩ : MetM)]).length = M.length + 1 := by simp
    rw [hl] at hi
    rw [getD_snoc _ _ _ hi]
    by_cases hin : i < M.length
    · simp only [if_pos hin]; exact hp i hin
    · simp only [if_neg hin]; exact ⟨ha, ⟨Sl.nil _ _ _, by simp⟩, hc⟩
  · rcases List.mem_append.1 hy with h1 | h1
    · exact hw y h1
    · simp at h1; subst h1; show wi64 0; unfold wi64; omega
theorem mets_tail {w : World} {a : Option Addr} {n c : Nat} {M : List MetM} (h : Mets w (.slice a n c) M) (h0 : 0 < n) : ∃ a' c', (if c = 1 then a else a.map (·.add 4)) = a' ∧ c - 1 = c' ∧ Mets w (.slice a' (n - 1) c') (M.drop 1) := by
  obtain ⟨p, q, r, h1, h2, h3⟩ := h
  have hn : n = M.length := by
    obtain ⟨_, _, e, _⟩ := h1
    simp at e
    exact e.2.1
  subst hn
  refine ⟨_, _, rfl, rfl, fun i => p (i + 1), fun i => q (i + 1), fun i => r (i + 1), ?_, fun i hi => ?_, fun y hy => h3 y (List.mem_of_mem_drop hy)⟩
  · have h4 := h1.cutL (k := 1) (by omega)
    rw [Nat.one_mul] at h4
    rw [List.length_drop]
    refine h4.congr fun i hi j hj => ?_
    unfold metF
    have : (M.drop 1).getD i default = M.getD (i + 1) default := by simp [List.getD, Nat.add_comm]
    rw [this]
  · rw [List.length_drop] at hi
    have : (M.drop 1).getD i default = M.getD (i + 1) default := by simp [List.getD, Nat.add_comm]
    rw [this]
    exact h2 (i + 1) (by omega)
theorem step_make_full {P : Program} {ops : Array Oper} {o : Oper} {a : Act} {w : World} {K : Act → World → Prop} {Q : Exit → Act → World → Prop} {E : Prop}
    (hg : o.guard = none) (l c : Operand) (t : TypeId) (hop : o.op = Op.makeSlice t l c) (e : TypeId) (i : TypeInfo) (z : Value) (size : Nat) (h1 : P.underlying t = some (.slice e)) (h2 : P.info? e = some i) (h3 : i.zero = some z) (h4 : i.size = size)
    (n : Nat) (hl : a.eval l = .int .i64 (n : Int)) (hc : a.eval c = .int .i64 (n : Int)) (b2 : i.bytes * n ≤ 281474976710656) (b3 : n ≤ maxLen)
    (hK : ∀ w', w'.ownsRow 0 e size (.slice (some ⟨w.heap.size, 0, none⟩) n n) n (madeCells z.cells (n * size)).toList → w.grownBy w' none → K (a.put o.dst (.slice (some ⟨w.heap.size, 0, none⟩) n n)) w') :
    if Region.wanted o (yielded ops a.tmps) = true then Oper.wp P o a w K Q else E := by
  have hw : Region.wanted o (yielded ops a.tmps) = true := by simp [Region.wanted, hg]
  rw [if_pos hw]
  obtain ⟨w', hrun, r1, r2⟩ := run_make_full (P := P) w 0 t e i z size h1 h2 h3 h4 .i64 .i64 n b2 b3 (Nat.zero_le _)
  have hK' := hK w' r1 r2
  unfold Oper.wp
  simp [execOp, hop, hl, hc, hrun, Result.andThen]
  exact hK'
theorem row_of_blk {w : World} {g n sz : Nat} {C : Array Value} {e : TypeId} (h : w.heap[g]? = some (.cells C e (0, 0))) (hC : C.size = n * sz) (hm : n ≤ maxLen) : w.ownsRow 0 e sz (.slice (some ⟨g, 0, none⟩) n n) n C.toList :=
  ⟨by simp [hC], .inr ⟨g, n, C, rfl, Nat.zero_le _, h, Nat.le_refl _, hm, hC, List.take_of_length_le (by simp [hC])⟩⟩
theorem made_rep (n : Nat) : (madeCells #[Value.int .i64 0] n).toList = List.replicate n (.int .i64 0) := by
  refine List.ext_getElem (by simp [madeCells]) fun i h1 h2 => ?_
  simp [madeCells, Nat.mod_one]
theorem made_iv (n : Nat) : (madeCells (Value.int .i64 0).cells n).toList = iv (List.replicate n 0) := by
  show (madeCells #[Value.int .i64 0] n).toList = _
  rw [made_rep]
  simp [iv]
theorem blk_lt {w : World} {g : Nat} {ob : Obj} (h : w.heap[g]? = some ob) : g < w.heap.size := by
  obtain ⟨h1, _⟩ := Array.getElem?_eq_some_iff.1 h
  exact h1
theorem and7 (m : Int) (h0 : 0 ≤ m) (h1 : m < 8) : ∃ z : Nat, bits .and .i64 m 7 = (z : Int) ∧ z ≤ 7 := by
  have : m = 0 ∨ m = 1 ∨ m = 2 ∨ m = 3 ∨ m = 4 ∨ m = 5 ∨ m = 6 ∨ m = 7 := by omega
  rcases this with rfl | rfl | rfl | rfl | rfl | rfl | rfl | rfl
  · exact ⟨0, by decide +kernel, by omega⟩
  · exact ⟨1, by decide +kernel, by omega⟩
  · exact ⟨2, by decide +kernel, by omega⟩
  · exact ⟨3, by decide +kernel, by omega⟩
  · exact ⟨4, by decide +kernel, by omega⟩
  · exact ⟨5, by decide +kernel, by omega⟩
  · exact ⟨6, by decide +kernel, by omega⟩
  · exact ⟨7, by decide +kernel, by omega⟩
theorem wpHL_three {P : Program} {ops : Array Oper} {Q : Exit → Act → World → Prop} {md : Region.Mode} {S : World → Prop} {n i j l : Nat} {oi oj ol : Oper} {L : Array Bool → Act → World → Prop} {f : Nat} {listed : Array Bool} {a : Act} {w : World} (hoi : ops[i]? = some oi) (hoj : ops[j]? = some oj) (hol : ops[l]? = some ol) (hr : Region.ready md ops listed = [i, j, l]) (hin : i < n) (hjn : j < n) (hln : l < n)
    (h1 : ∀ K : Act → World → Prop, (∀ a' w', S w' → wpHL P md ops Q S n L f (listed.setIfInBounds i true) a' w' → K a' w') → if Region.wanted oi (yielded ops a.tmps) = true then Oper.wp P oi a w K Q else K (a.put oi.dst undef) w)
    (h2 : ∀ K : Act → World → Prop, (∀ a' w', S w' → wpHL P md ops Q S n L f (listed.setIfInBounds j true) a' w' → K a' w') → if Region.wanted oj (yielded ops a.tmps) = true then Oper.wp P oj a w K Q else K (a.put oj.dst undef) w)
    (h3 : ∀ K : Act → World → Prop, (∀ a' w', S w' → wpHL P md ops Q S n L f (listed.setIfInBounds l true) a' w' → K a' w') → if Region.wanted ol (yielded ops a.tmps) = true then Oper.wp P ol a w K Q else K (a.put ol.dst undef) w) : wpHL P md ops Q S n L (f + 1) listed a w := by
  refine ⟨by rw [hr]; simp, fun k hk => ?_⟩
  rw [hr] at hk
  simp at hk
  rcases hk with rfl | rfl | rfl
  · exact ⟨hin, wpOp_mk hoi (h1 _ (fun a' w' g1 g2 => ⟨g1, g2⟩))⟩
  · exact ⟨hjn, wpOp_mk hoj (h2 _ (fun a' w' g1 g2 => ⟨g1, g2⟩))⟩
  · exact ⟨hln, wpOp_mk hol (h3 _ (fun a' w' g1 g2 => ⟨g1, g2⟩))⟩
theorem wpHL_1 {P : Program} {ops : Array Oper} {Q : Exit → Act → World → Prop} {md : Region.Mode} {S : World → Prop} {n i : Nat} {o : Oper} {L : Array Bool → Act → World → Prop} {f : Nat} {listed : Array Bool} {a : Act} {w : World} (ho : ops[i]? = some o) (hr : Region.ready md ops listed = [i]) (hin : i < n)
    (h : ∀ K : Act → World → Prop, Hid (∀ a' w', S w' → wpHL P md ops Q S n L f (listed.setIfInBounds i true) a' w' → K a' w') → if Region.wanted o (yielded ops a.tmps) = true then Oper.wp P o a w K Q else K (a.put o.dst undef) w) : wpHL P md ops Q S n L (f + 1) listed a w := wpHL_step ho hr hin (fun K hK => h K (Lib.hid hK))
theorem wpHL_2 {P : Program} {ops : Array Oper} {Q : Exit → Act → World → Prop} {md : Region.Mode} {S : World → Prop} {n i j : Nat} {oi oj : Oper} {L : Array Bool → Act → World → Prop} {f : Nat} {listed : Array Bool} {a : Act} {w : World} (hoi : ops[i]? = some oi) (hoj : ops[j]? = some oj) (hr : Region.ready md ops listed = [i, j]) (hin : i < n) (hjn : j < n)
    (h1 : ∀ K : Act → World → Prop, Hid (∀ a' w', S w' → wpHL P md ops Q S n L f (listed.setIfInBounds i true) a' w' → K a' w') → if Region.wanted oi (yielded ops a.tmps) = true then Oper.wp P oi a w K Q else K (a.put oi.dst undef) w)
    (h2 : ∀ K : Act → World → Prop, Hid (∀ a' w', S w' → wpHL P md ops Q S n L f (listed.setIfInBounds j true) a' w' → K a' w') → if Region.wanted oj (yielded ops a.tmps) = true then Oper.wp P oj a w K Q else K (a.put oj.dst undef) w) : wpHL P md ops Q S n L (f + 1) listed a w := wpHL_two hoi hoj hr hin hjn (fun K hK => h1 K (Lib.hid hK)) (fun K hK => h2 K (Lib.hid hK))
theorem wpHL_3 {P : Program} {ops : Array Oper} {Q : Exit → Act → World → Prop} {md : Region.Mode} {S : World → Prop} {n i j l : Nat} {oi oj ol : Oper} {L : Array Bool → Act → World → Prop} {f : Nat} {listed : Array Bool} {a : Act} {w : World} (hoi : ops[i]? = some oi) (hoj : ops[j]? = some oj) (hol : ops[l]? = some ol) (hr : Region.ready md ops listed = [i, j, l]) (hin : i < n) (hjn : j < n) (hln : l < n)
    (h1 : ∀ K : Act → World → Prop, Hid (∀ a' w', S w' → wpHL P md ops Q S n L f (listed.setIfInBounds i true) a' w' → K a' w') → if Region.wanted oi (yielded ops a.tmps) = true then Oper.wp P oi a w K Q else K (a.put oi.dst undef) w)
    (h2 : ∀ K : Act → World → Prop, Hid (∀ a' w', S w' → wpHL P md ops Q S n L f (listed.setIfInBounds j true) a' w' → K a' w') → if Region.wanted oj (yielded ops a.tmps) = true then Oper.wp P oj a w K Q else K (a.put oj.dst undef) w)
    (h3 : ∀ K : Act → World → Prop, Hid (∀ a' w', S w' → wpHL P md ops Q S n L f (listed.setIfInBounds l true) a' w' → K a' w') → if Region.wanted ol (yielded ops a.tmps) = true then Oper.wp P ol a w K Q else K (a.put ol.dst undef) w) : wpHL P md ops Q S n L (f + 1) listed a w := wpHL_three hoi hoj hol hr hin hjn hln (fun K hK => h1 K (Lib.hid hK)) (fun K hK => h2 K (Lib.hid hK)) (fun K hK => h3 K (Lib.hid hK))
theorem bent4_end {w wr : World} {X0 : Nat} {s : ByteArray} {f i m x : Value} {J : ImgM} (hX : wr.heap[X0]? = some (.cells #[.string s, f, i, m, x] 27 (0, 0)))
    (hR : wr.heap[w.heap.size]? = some (.cells #[.string { data := #[] }, .slice none 0 0, .slice none 0 0, .slice none 0 0, .slice none 0 0] 27 (0, 0))) (hI : Img wr (img5 s f i m x) J) (hU : Upd (fun _ => False) w wr) :
    wr.cell? ⟨X0, 0, none⟩ = some (.string s) ∧ wr.cell? ⟨X0, 1, none⟩ = some f ∧ wr.cell? ⟨X0, 2, none⟩ = some i ∧ wr.cell? ⟨X0, 3, none⟩ = some m ∧ wr.cell? ⟨X0, 4, none⟩ = some x ∧
    wr.cell? ⟨w.heap.size, 0, none⟩ = some (.string { data := #[] }) ∧ wr.cell? ⟨w.heap.size, 1, none⟩ = some (.slice none 0 0) ∧ wr.cell? ⟨w.heap.size, 2, none⟩ = some (.slice none 0 0) ∧ wr.cell? ⟨w.heap.size, 3, none⟩ = some (.slice none 0 0) ∧ wr.cell? ⟨w.heap.size, 4, none⟩ = some (.slice none 0 0) ∧
    wr.frozen? ⟨w.heap.size, 0, none⟩ = false ∧ wr.frozen? ⟨w.heap.size, 1, none⟩ = false ∧ wr.frozen? ⟨w.heap.size, 2, none⟩ = false ∧ wr.frozen? ⟨w.heap.size, 3, none⟩ = false ∧ wr.frozen? ⟨w.heap.size, 4, none⟩ = false ∧
    (∀ w', Upd (fun j => j = w.heap.size) wr w' → Img w' (img5 s f i m x) J ∧ Upd (fun _ => False) w w') :=
  ⟨cells_at hX 0 _ rfl, cells_at hX 1 _ rfl, cells_at hX 2 _ rfl, cells_at hX 3 _ rfl, cells_at hX 4 _ rfl, cells_at hR 0 _ rfl, cells_at hR 1 _ rfl, cells_at hR 2 _ rfl, cells_at hR 3 _ rfl, cells_at hR 4 _ rfl, cells_fr hR 0, cells_fr hR 1, cells_fr hR 2, cells_fr hR 3, cells_fr hR 4,
    fun w' hu => ⟨hI.off hu (noInt hR), hU.trans hu (fun j h hl => by omega)⟩⟩
theorem img_set3 {w w2 un : World} {s : ByteArray} {F X : List Int} {P : List ImpM} {M : List MetM} {f i m x a c : Value} {p q r : Nat → Value} {A : List Int} {C : List InsM} {v6b v6cap : Nat}
    (hF : Ints w2 f F) (hP : Imps w2 i P) (hX : Ints w2 x X) (hs : s.size ≤ maxLen) (hRm : ∀ i, i < M.length → Ints w2 (p i) (M.getD i default).params ∧ Ints w2 (q i) (M.getD i default).locals ∧ Inss w2 (r i) (M.getD i default).code) (hWm : ∀ y ∈ M, wi64 y.res)
    (hXn : un.heap[w2.heap.size]? = some (.cells #[.string s, f, i, m, x] 27 (0, 0))) (hV : Upd (fun _ => False) w2 un) (hU : Upd (fun _ => False) w w2) (hR2 : w2.heap[w.heap.size]? = some (.cells #[.string { data := #[] }, .slice none 0 0, .slice none 0 0, .slice none 0 0, .slice none 0 0] 27 (0, 0)))
    (hO : un.ownsRow 0 49 4 (.slice (some ⟨v6b, 0, none⟩) (M.length + 1) v6cap) (M.length + 1) (cellsL 4 M.length (metF M p q r) ++ [a, .int .i64 0, .slice none 0 0, c])) (h6 : w2.heap.size < v6b)
    (hA : WRow un a A) (hAb : ∀ k, a.ownBlock = some k → w2.heap.size < k) (hC : CRow un c C) (hCb : ∀ k, c.ownBlock = some k → w2.heap.size < k) :
    (un.setCell ⟨w2.heap.size, 3, none⟩ (.slice (some ⟨v6b, 0, none⟩) (M.length + 1) v6cap)).heap[w2.heap.size]? = some (.cells #[.string s, f, i, .slice (some ⟨v6b, 0, none⟩) (M.length + 1) v6cap, x] 27 (0, 0)) ∧
    (un.setCell ⟨w2.heap.size, 3, none⟩ (.slice (some ⟨v6b, 0, none⟩) (M.length + 1) v6cap)).heap[w.heap.size]? = some (.cells #[.string { data := #[] }, .slice none 0 0, .slice none 0 0, .slice none 0 0, .slice none 0 0] 27 (0, 0)) ∧
    Img (un.setCell ⟨w2.heap.size, 3, none⟩ (.slice (some ⟨v6b, 0, none⟩) (M.length + 1) v6cap)) (img5 s f i (.slice (some ⟨v6b, 0, none⟩) (M.length + 1) v6cap) x) ⟨s, F, P, M ++ [⟨A, 0, [], C⟩], X⟩ ∧
    Upd (fun _ => False) w (un.setCell ⟨w2.heap.size, 3, none⟩ (.slice (some ⟨v6b, 0, none⟩) (M.length + 1) v6cap)) := by
  have hRX := blk_lt hR2
  have hU7 := setAt un w2.heap.size 3 (.slice (some ⟨v6b, 0, none⟩) (M.length + 1) v6cap)
  have hb7 := ((hV.mono (T := fun j => j = w2.heap.size) (fun _ h _ => h.elim)).trans hU7 (fun _ h _ => h)).below (B := w2.heap.size) (Nat.le_refl _) (fun k h => by omega)
  refine ⟨set_blk hXn, set_keep ((hV.block w.heap.size hRX (fun h => h)).trans hR2) (by simp; omega), img_mk hs (hF.later hb7) (hP.later hb7) ?_ (hX.later hb7), (hU.trans hV (fun _ h _ => h)).trans hU7 (fun j h hl => by omega)⟩
  exact mets_snoc (ownsRow_upd hO hU7 (fun k hk h => by simp [Value.ownBlock] at hk; omega)) (fun i hi => by obtain ⟨g1, g2, g3⟩ := hRm i hi; exact ⟨g1.later hb7, g2.later hb7, g3.later hb7⟩) hWm ((hA.upd hU7 (fun k hk h => by have := hAb k hk; omega)).ints) ((hC.upd hU7 (fun k hk h => by have := hCb k hk; omega)).inss)
set_option maxRecDepth 100000 in
set_option maxHeartbeats 8000000 in
theorem hBent4 (w : World) (k : Int) (lv : Value) (L : List RawR) (how at' by' : Int) (hl : RawsAt w lv L) (hL : L.length ≤ 4398046511104) (hB : Bins ⟨w, fun _ => False⟩) (wh : wi64 how) (wa0 : 0 ≤ at') (wa1 : at' < 1000) (wb0 : 0 ≤ by') (wb1 : by' < 1000) :
    Calls Tryd.prog 5 #[.int .i64 k, lv, .int .i64 how, .int .i64 at', .int .i64 by'] w fun e w' => ∃ v J, e = .returned v ∧ Img w' v J ∧ Upd (fun _ => False) w w' := by
  obtain ⟨i0, hi, hz0, hz1, hz2⟩ := info_parts infoMet
  obtain ⟨j0, hj, hy0, hy1, hy2⟩ := info_parts infoInt
  obtain ⟨m0, hm', hx0, hx1, hx2⟩ := info_parts infoImp
  obtain ⟨la, lc, rfl⟩ := hl.slice
  obtain ⟨wh1, wh2⟩ := wh
  have HU0 : Hid (Upd (fun _ => False) w (w.alloc (.cells #[.string { data := #[] }, .slice none 0 0, .slice none 0 0, .slice none 0 0, .slice none 0 0] 27))) := Lib.hid (Upd.alloc _ _ _)
  have HL := Lib.hid (hl.later (bnBelow HU0.out))
  have HB : Hid (Bins ⟨w.alloc (.cells #[.string { data := #[] }, .slice none 0 0, .slice none 0 0, .slice none 0 0, .slice none 0 0] 27), fun _ => False⟩) := Lib.hid ⟨fun h => h, fun k hk => (HU0.out.cell (World.block_lt_of_cell? _ _ (hB.2 k hk)) (fun h => h)).trans (hB.2 k hk)⟩
  clear hl hB
  go_enter Tryd.func5, Tryd.ntmps5
  go_wp2_with fail
  refine (hApplet _ k _ L HL.out hL HB.out).mono ?_
  rintro e w1 ⟨v1, I, rfl, hI, hcode, ⟨n3, n4, n2, n2'⟩, hu1⟩
  have HI1 := Lib.hid hI
  have HU1 := Lib.hid (HU0.out.trans hu1 (fun _ h _ => h))
  have HR1 := Lib.hid ((hu1.block w.heap.size (by simp) (fun h => h)).trans (blk_top' w _ _ rfl))
  have HC1 := Lib.hid hcode
  have HN := Lib.hid (And.intro n3 (And.intro n4 (And.intro n2 n2')))
  obtain ⟨fa, fc, ia, ic, ma, mc, xa, xc, rfl, -⟩ := hI.parts
  clear hI hcode n3 n4 n2 n2' hu1 HL HB HU0
  go_wp2_with fail
  refine (hBent w1 _ I how at' by' HI1.out (by rw [HN.out.1]; omega) (by rw [HN.out.1]; omega) HC1.out ⟨wh1, wh2⟩ (by unfold wi64; omega) (by unfold wi64; omega)).mono ?_
  rintro e w2 ⟨v2, M, rfl, hI2, hM, hu2⟩
  have HU2 := Lib.hid (HU1.out.trans hu2 (fun _ h _ => h))
  have HR2 := Lib.hid ((hu2.block w.heap.size (by have h := Array.getElem?_eq_some_iff.1 HR1.out; obtain ⟨h, _⟩ := h; exact h) (fun h => h)).trans HR1.out)
  have hRX : w.heap.size < w2.heap.size := by have h := Array.getElem?_eq_some_iff.1 HR2.out; obtain ⟨h, _⟩ := h; exact h
  obtain ⟨n3, n4, n2, n2'⟩ := HN.out
  rw [n3] at hM
  obtain ⟨fb, fd, ib, id, mb, md, xb, xd, rfl, hf, hi', hm, hx, hsz⟩ := hI2.parts
  clear HI1 HU1 HR1 HC1 HN n3 hI2 hu2
  obtain ⟨s, F, P, M1, X⟩ := I
  simp only at n4 n2 n2' hf hi' hm hx hsz ⊢
  have lF : 0 < F.length ∧ F.length ≤ 8 := by omega
  have lP : 0 < P.length ∧ P.length ≤ 8 := by omega
  have lX : 0 < X.length ∧ X.length ≤ 8 := by omega
  have lM : 0 < M.length ∧ M.length ≤ 8 := by omega
  obtain ⟨lF0, lF1⟩ := lF
  obtain ⟨lP0, lP1⟩ := lP
  obtain ⟨lX0, lX1⟩ := lX
  obtain ⟨lM0, lM1⟩ := lM
  have HF := Lib.hid hf
  have HP := Lib.hid hi'
  have HM := Lib.hid hm
  have HX := Lib.hid hx
  have HS := Lib.hid hsz
  clear n4 n2 n2' hM hf hi' hm hx hsz
  have HT7 : Hid (wi64 (by' % 7)) := Lib.hid (by unfold wi64; omega)
  have HT5 : Hid (wi64 (by' % 5)) := Lib.hid (by unfold wi64; omega)
  have HT6 : Hid (wi64 (by' % 6)) := Lib.hid (by unfold wi64; omega)
  have HA6 : Hid (wi64 (at' % 6)) := Lib.hid (by unfold wi64; omega)
  go_wp2_with fail
  refine (hPickN _ _ _ (by omega) (by omega)).mono ?_
  rintro e _ ⟨qq, rfl, hqq, rfl⟩
  have hway : qq = 0 ∨ qq = 1 ∨ qq = 2 ∨ qq = 3 ∨ qq = 4 ∨ qq = 5 ∨ qq = 6 ∨ qq = 7 ∨ 8 ≤ qq := by omega
  rcases hway with rfl | rfl | rfl | rfl | rfl | rfl | rfl | rfl | h9
  · skip
    obtain ⟨cX0, cX1, cX2, cX3, cX4, r0, r1, r2, r3, r4, s0, s1, s2, s3, s4, hfin⟩ := bent4_end (w := w) (wr := w2.alloc (.cells #[.string { data := #[78, 111] }, .slice fb F.length fd, .slice ib P.length id, .slice mb M.length md, .slice xb X.length xd] 27)) (X0 := w2.heap.size) (blk_top' w2 _ _ rfl) ((Below.heap_alloc _ _ _ hRX).trans HR2.out) ((img_mk (w := w2.alloc (.cells #[.string { data := #[78, 111] }, .slice fb F.length fd, .slice ib P.length id, .slice mb M.length md, .slice xb X.length xd] 27)) (show ({ data := #[78, 111] } : ByteArray).size ≤ maxLen by show 2 ≤ maxLen; unfold maxLen; omega) (HF.out.later (bnBelow (Upd.alloc (fun _ => False) w2 _))) (HP.out.later (bnBelow (Upd.alloc (fun _ => False) w2 _))) (HM.out.later (bnBelow (Upd.alloc (fun _ => False) w2 _))) (HX.out.later (bnBelow (Upd.alloc (fun _ => False) w2 _))))) (HU2.out.trans (Upd.alloc _ _ _) (fun _ h _ => h))
    have HFIN := Lib.hid hfin
    clear hfin hRX HF HP HM HX HS HU2 HR2 HT7 HT5 HT6 HA6
    go_wp2_with fail
    all_goals
      refine bodyPost_ret (v := .agg #[.string { data := #[78, 111] }, .slice fb F.length fd, .slice ib P.length id, .slice mb M.length md, .slice xb X.length xd]) (by simp [results, Tryd.f5, go_sem, r0, r1, r2, r3, r4]) rfl ?_
      obtain ⟨hfin, hup⟩ := HFIN.out _ (((((setAt _ _ _ _).trans (setAt _ _ _ _) (fun _ h _ => h)).trans (setAt _ _ _ _) (fun _ h _ => h)).trans (setAt _ _ _ _) (fun _ h _ => h)).trans (setAt _ _ _ _) (fun _ h _ => h))
      first | exact ⟨_, _, rfl, hfin, hup⟩ | exact ⟨_, rfl, _, hfin, hup⟩
  · skip
    have HE : Hid (((w2.alloc (.cells #[.string s, .slice fb F.length fd, .slice ib P.length id, .slice mb M.length md, .slice xb X.length xd] 27)).alloc (.cells #[] 3)).ownsRow 0 3 1 (.slice (some ⟨w2.heap.size + 1, 0, none⟩) 0 0) 0 []) := Lib.hid (bnEmpty _ _ _ _ (by simp))
    have HU3 : Hid (Upd (fun _ => False) w2 ((w2.alloc (.cells #[.string s, .slice fb F.length fd, .slice ib P.length id, .slice mb M.length md, .slice xb X.length xd] 27)).alloc (.cells #[] 3))) := Lib.hid ((Upd.alloc _ _ _).trans (Upd.alloc _ _ _) (fun _ h _ => h))
    have HSRC : Hid (Src ((w2.alloc (.cells #[.string s, .slice fb F.length fd, .slice ib P.length id, .slice mb M.length md, .slice xb X.length xd] 27)).alloc (.cells #[] 3)) 1 (.slice fb F.length fd) F.length (iv F)) := Lib.hid ((Ints.src HF.out lF0).upd HU3.out (fun _ _ h => h))
    go_wp2_with (at_builtin; go_loud (refine wpList_append_mine _ rfl _ _ 23 rfl 0 3 j0 (.int .i64 0) 1 8 Tryd.underlying23 hj hy0 hy1 hy2 rfl (by decide) (.slice (some ⟨w2.heap.size + 1, 0, none⟩) 0 0) 0 [] rfl HE.out F.length (iv F) HSRC.out (by unfold maxLen; omega) (by omega) (Nat.zero_le _) ?_))
    intro v5 w5 ho hg hf
    have hu5 : Upd (fun _ => False) (w2.alloc (.cells #[.string s, .slice fb F.length fd, .slice ib P.length id, .slice mb M.length md, .slice xb X.length xd] 27)) w5 := (Upd.alloc (fun _ => False) _ (.cells #[] 3)).trans (Upd.grown (S := fun k => w2.heap.size + 1 ≤ k) hg (fun k hk => .inl (by simp [Value.ownBlock] at hk; omega))) (fun k hk hl => by simp at hl; omega)
    have hf5 := bnFresh (w := (w2.alloc (.cells #[.string s, .slice fb F.length fd, .slice ib P.length id, .slice mb M.length md, .slice xb X.length xd] 27))) (g := w2.heap.size + 1) (w1 := w5) (by simp) (by simp) (fun k hk => by simp [Value.ownBlock] at hk; omega) hf
    try rw [Nat.zero_add] at ho
    try rw [List.nil_append] at ho
    obtain ⟨va, vc, rfl⟩ := ownsRow_slice ho
    have HO5 := Lib.hid ho
    have HU5 := Lib.hid ((Upd.alloc (fun _ => False) w2 (.cells #[.string s, .slice fb F.length fd, .slice ib P.length id, .slice mb M.length md, .slice xb X.length xd] 27)).trans hu5 (fun _ h _ => h))
    have HN5 := Lib.hid hf5
    have HX5 := Lib.hid ((hu5.block w2.heap.size (by simp) (fun h => h)).trans (blk_top' w2 _ _ rfl))
    have HSR := Lib.hid (srcAt w5 3 #[.int .i64 (by' % 7)] [.int .i64 (by' % 7)] rfl 1 (by simp [Value.oneCell']) 1 1 w5.heap.size rfl rfl)
    clear ho hg hf hu5 hf5 HE HU3 HSRC
    go_wp2_with (at_builtin; go_loud (refine wpList_append_mine _ rfl _ _ 23 rfl 0 3 j0 (.int .i64 0) 1 8 Tryd.underlying23 hj hy0 hy1 hy2 rfl (by decide) (.slice va F.length vc) F.length (iv F) rfl (HO5.out.alloc _) 1 [.int .i64 (by' % 7)] HSR.out (by unfold maxLen; omega) (by omega) (Nat.zero_le _) ?_))
    intro v6 w6 ho hg hf
    have hu6 : Upd (fun k => (Value.slice va F.length vc).ownBlock = some k) w5 w6 := Upd.row (Upd.alloc _ w5 _) hg
    have hx6 := (hu6.block w2.heap.size (by have := HU5.out.size; have h := Array.getElem?_eq_some_iff.1 HX5.out; obtain ⟨h, _⟩ := h; exact h) (fun h => by have := HN5.out _ h; simp at this; omega)).trans HX5.out
    have hU6 : Upd (fun _ => False) w2 w6 := HU5.out.trans hu6 (fun k h hl => by have := HN5.out _ h; simp at this; omega)
    obtain ⟨v6a, v6c, rfl⟩ := ownsRow_slice ho
    have cc0 := cells_at hx6 1 _ rfl
    have ff0 := cells_fr hx6 1
    have hU7 : Upd (fun j => j = w2.heap.size) w6 (w6.setCell ⟨w2.heap.size, 1, none⟩ (.slice v6a (F.length + 1) v6c)) := setAt _ _ _ _
    have hb7 : Below w2.heap.size w2 (w6.setCell ⟨w2.heap.size, 1, none⟩ (.slice v6a (F.length + 1) v6c)) := ((hU6.mono (T := fun j => j = w2.heap.size) (fun _ h _ => h.elim)).trans hU7 (fun _ h _ => h)).below (Nat.le_refl _) (fun k h => by omega)
    have hfr6 : ∀ k, (Value.slice v6a (F.length + 1) v6c).ownBlock = some k → w2.heap.size + 1 ≤ k := fun k hk => by
      rcases hf k hk with h | h
      · have := HN5.out _ h; simp at this; omega
      · have := HU5.out.size; have h9 := Array.getElem?_eq_some_iff.1 HX5.out; obtain ⟨h9, _⟩ := h9; simp at h; omega
    have hread : Ints (w6.setCell ⟨w2.heap.size, 1, none⟩ (.slice v6a (F.length + 1) v6c)) (.slice v6a (F.length + 1) v6c) (F ++ [by' % 7]) := by
      have e : (F ++ [by' % 7]).length = F.length + 1 := by simp
      have hw : WRow w6 (.slice v6a (F.length + 1) v6c) (F ++ [by' % 7]) := ⟨by rw [e]; simpa [iv] using ho, fun n hn => by
        rcases List.mem_append.1 hn with h | h
        · exact HF.out.2 n h
        · simp at h; subst h; exact HT7.out⟩
      exact (hw.upd hU7 (fun k hk h => by have := hfr6 k hk; omega)).ints
    have HHX := Lib.hid (set_blk (j := 1) (v := .slice v6a (F.length + 1) v6c) hx6)
    have HHR := Lib.hid (set_keep (p := ⟨w2.heap.size, 1, none⟩) (v := .slice v6a (F.length + 1) v6c) ((hU6.block w.heap.size hRX (fun h => h)).trans HR2.out) (by simp; omega))
    have HHB := Lib.hid hb7
    have HHI := Lib.hid hread
    have HHU := Lib.hid ((HU2.out.trans hU6 (fun _ h _ => h)).trans hU7 (fun j h hl => by omega))
    clear ho hg hf hu6 hx6 hU6 hU7 hb7 hfr6 hread HO5 HU5 HN5 HX5 HSR
    obtain ⟨cX0, cX1, cX2, cX3, cX4, r0, r1, r2, r3, r4, s0, s1, s2, s3, s4, hfin⟩ := bent4_end (w := w) (wr := w6.setCell ⟨w2.heap.size, 1, none⟩ (.slice v6a (F.length + 1) v6c)) (X0 := w2.heap.size) (HHX.out) (HHR.out) ((img_mk (w := w6.setCell ⟨w2.heap.size, 1, none⟩ (.slice v6a (F.length + 1) v6c)) HS.out HHI.out (HP.out.later HHB.out) (HM.out.later HHB.out) (HX.out.later HHB.out))) (HHU.out)
    have HFIN := Lib.hid hfin
    clear hfin hRX HF HP HM HX HS HU2 HR2 HT7 HT5 HT6 HA6
    go_wp2_with fail
    all_goals
      refine bodyPost_ret (v := .agg #[.string s, .slice v6a (F.length + 1) v6c, .slice ib P.length id, .slice mb M.length md, .slice xb X.length xd]) (by simp [results, Tryd.f5, go_sem, r0, r1, r2, r3, r4]) rfl ?_
      obtain ⟨hfin, hup⟩ := HFIN.out _ (((((setAt _ _ _ _).trans (setAt _ _ _ _) (fun _ h _ => h)).trans (setAt _ _ _ _) (fun _ h _ => h)).trans (setAt _ _ _ _) (fun _ h _ => h)).trans (setAt _ _ _ _) (fun _ h _ => h))
      first | exact ⟨_, _, rfl, hfin, hup⟩ | exact ⟨_, rfl, _, hfin, hup⟩
  · skip
    have HE : Hid (((w2.alloc (.cells #[.string s, .slice fb F.length fd, .slice ib P.length id, .slice mb M.length md, .slice xb X.length xd] 27)).alloc (.cells #[] 3)).ownsRow 0 3 1 (.slice (some ⟨w2.heap.size + 1, 0, none⟩) 0 0) 0 []) := Lib.hid (bnEmpty _ _ _ _ (by simp))
    have HU3 : Hid (Upd (fun _ => False) w2 ((w2.alloc (.cells #[.string s, .slice fb F.length fd, .slice ib P.length id, .slice mb M.length md, .slice xb X.length xd] 27)).alloc (.cells #[] 3))) := Lib.hid ((Upd.alloc _ _ _).trans (Upd.alloc _ _ _) (fun _ h _ => h))
    have HSRC : Hid (Src ((w2.alloc (.cells #[.string s, .slice fb F.length fd, .slice ib P.length id, .slice mb M.length md, .slice xb X.length xd] 27)).alloc (.cells #[] 3)) 1 (.slice xb X.length xd) X.length (iv X)) := Lib.hid ((Ints.src HX.out lX0).upd HU3.out (fun _ _ h => h))
    go_wp2_with (at_builtin; go_loud (refine wpList_append_mine _ rfl _ _ 23 rfl 0 3 j0 (.int .i64 0) 1 8 Tryd.underlying23 hj hy0 hy1 hy2 rfl (by decide) (.slice (some ⟨w2.heap.size + 1, 0, none⟩) 0 0) 0 [] rfl HE.out X.length (iv X) HSRC.out (by unfold maxLen; omega) (by omega) (Nat.zero_le _) ?_))
    intro v5 w5 ho hg hf
    have hu5 : Upd (fun _ => False) (w2.alloc (.cells #[.string s, .slice fb F.length fd, .slice ib P.length id, .slice mb M.length md, .slice xb X.length xd] 27)) w5 := (Upd.alloc (fun _ => False) _ (.cells #[] 3)).trans (Upd.grown (S := fun k => w2.heap.size + 1 ≤ k) hg (fun k hk => .inl (by simp [Value.ownBlock] at hk; omega))) (fun k hk hl => by simp at hl; omega)
    have hf5 := bnFresh (w := (w2.alloc (.cells #[.string s, .slice fb F.length fd, .slice ib P.length id, .slice mb M.length md, .slice xb X.length xd] 27))) (g := w2.heap.size + 1) (w1 := w5) (by simp) (by simp) (fun k hk => by simp [Value.ownBlock] at hk; omega) hf
    try rw [Nat.zero_add] at ho
    try rw [List.nil_append] at ho
    obtain ⟨va, vc, rfl⟩ := ownsRow_slice ho
    have HO5 := Lib.hid ho
    have HU5 := Lib.hid ((Upd.alloc (fun _ => False) w2 (.cells #[.string s, .slice fb F.length fd, .slice ib P.length id, .slice mb M.length md, .slice xb X.length xd] 27)).trans hu5 (fun _ h _ => h))
    have HN5 := Lib.hid hf5
    have HX5 := Lib.hid ((hu5.block w2.heap.size (by simp) (fun h => h)).trans (blk_top' w2 _ _ rfl))
    have HSR := Lib.hid (srcAt w5 3 #[.int .i64 (by' % 5)] [.int .i64 (by' % 5)] rfl 1 (by simp [Value.oneCell']) 1 1 w5.heap.size rfl rfl)
    clear ho hg hf hu5 hf5 HE HU3 HSRC
    go_wp2_with (at_builtin; go_loud (refine wpList_append_mine _ rfl _ _ 23 rfl 0 3 j0 (.int .i64 0) 1 8 Tryd.underlying23 hj hy0 hy1 hy2 rfl (by decide) (.slice va X.length vc) X.length (iv X) rfl (HO5.out.alloc _) 1 [.int .i64 (by' % 5)] HSR.out (by unfold maxLen; omega) (by omega) (Nat.zero_le _) ?_))
    intro v6 w6 ho hg hf
    have hu6 : Upd (fun k => (Value.slice va X.length vc).ownBlock = some k) w5 w6 := Upd.row (Upd.alloc _ w5 _) hg
    have hx6 := (hu6.block w2.heap.size (by have := HU5.out.size; have h := Array.getElem?_eq_some_iff.1 HX5.out; obtain ⟨h, _⟩ := h; exact h) (fun h => by have := HN5.out _ h; simp at this; omega)).trans HX5.out
    have hU6 : Upd (fun _ => False) w2 w6 := HU5.out.trans hu6 (fun k h hl => by have := HN5.out _ h; simp at this; omega)
    obtain ⟨v6a, v6c, rfl⟩ := ownsRow_slice ho
    have cc0 := cells_at hx6 4 _ rfl
    have ff0 := cells_fr hx6 4
    have hU7 : Upd (fun j => j = w2.heap.size) w6 (w6.setCell ⟨w2.heap.size, 4, none⟩ (.slice v6a (X.length + 1) v6c)) := setAt _ _ _ _
    have hb7 : Below w2.heap.size w2 (w6.setCell ⟨w2.heap.size, 4, none⟩ (.slice v6a (X.length + 1) v6c)) := ((hU6.mono (T := fun j => j = w2.heap.size) (fun _ h _ => h.elim)).trans hU7 (fun _ h _ => h)).below (Nat.le_refl _) (fun k h => by omega)
    have hfr6 : ∀ k, (Value.slice v6a (X.length + 1) v6c).ownBlock = some k → w2.heap.size + 1 ≤ k := fun k hk => by
      rcases hf k hk with h | h
      · have := HN5.out _ h; simp at this; omega
      · have := HU5.out.size; have h9 := Array.getElem?_eq_some_iff.1 HX5.out; obtain ⟨h9, _⟩ := h9; simp at h; omega
    have hread : Ints (w6.setCell ⟨w2.heap.size, 4, none⟩ (.slice v6a (X.length + 1) v6c)) (.slice v6a (X.length + 1) v6c) (X ++ [by' % 5]) := by
      have e : (X ++ [by' % 5]).length = X.length + 1 := by simp
      have hw : WRow w6 (.slice v6a (X.length + 1) v6c) (X ++ [by' % 5]) := ⟨by rw [e]; simpa [iv] using ho, fun n hn => by
        rcases List.mem_append.1 hn with h | h
        · exact HX.out.2 n h
        · simp at h; subst h; exact HT5.out⟩
      exact (hw.upd hU7 (fun k hk h => by have := hfr6 k hk; omega)).ints
    have HHX := Lib.hid (set_blk (j := 4) (v := .slice v6a (X.length + 1) v6c) hx6)
    have HHR := Lib.hid (set_keep (p := ⟨w2.heap.size, 4, none⟩) (v := .slice v6a (X.length + 1) v6c) ((hU6.block w.heap.size hRX (fun h => h)).trans HR2.out) (by simp; omega))
    have HHB := Lib.hid hb7
    have HHI := Lib.hid hread
    have HHU := Lib.hid ((HU2.out.trans hU6 (fun _ h _ => h)).trans hU7 (fun j h hl => by omega))
    clear ho hg hf hu6 hx6 hU6 hU7 hb7 hfr6 hread HO5 HU5 HN5 HX5 HSR
    obtain ⟨cX0, cX1, cX2, cX3, cX4, r0, r1, r2, r3, r4, s0, s1, s2, s3, s4, hfin⟩ := bent4_end (w := w) (wr := w6.setCell ⟨w2.heap.size, 4, none⟩ (.slice v6a (X.length + 1) v6c)) (X0 := w2.heap.size) (HHX.out) (HHR.out) ((img_mk (w := w6.setCell ⟨w2.heap.size, 4, none⟩ (.slice v6a (X.length + 1) v6c)) HS.out (HF.out.later HHB.out) (HP.out.later HHB.out) (HM.out.later HHB.out) HHI.out)) (HHU.out)
    have HFIN := Lib.hid hfin
    clear hfin hRX HF HP HM HX HS HU2 HR2 HT7 HT5 HT6 HA6
    go_wp2_with fail
    all_goals
      refine bodyPost_ret (v := .agg #[.string s, .slice fb F.length fd, .slice ib P.length id, .slice mb M.length md, .slice v6a (X.length + 1) v6c]) (by simp [results, Tryd.f5, go_sem, r0, r1, r2, r3, r4]) rfl ?_
      obtain ⟨hfin, hup⟩ := HFIN.out _ (((((setAt _ _ _ _).trans (setAt _ _ _ _) (fun _ h _ => h)).trans (setAt _ _ _ _) (fun _ h _ => h)).trans (setAt _ _ _ _) (fun _ h _ => h)).trans (setAt _ _ _ _) (fun _ h _ => h))
      first | exact ⟨_, _, rfl, hfin, hup⟩ | exact ⟨_, rfl, _, hfin, hup⟩
  · skip
    obtain ⟨p, hSp, hRp, hWp⟩ := HP.out
    have HSp := Lib.hid hSp
    have HRp := Lib.hid hRp
    have HWp := Lib.hid hWp
    clear hSp hRp hWp
    have HE : Hid (((w2.alloc (.cells #[.string s, .slice fb F.length fd, .slice ib P.length id, .slice mb M.length md, .slice xb X.length xd] 27)).alloc (.cells #[] 44)).ownsRow 0 44 4 (.slice (some ⟨w2.heap.size + 1, 0, none⟩) 0 0) 0 []) := Lib.hid (bnEmpty _ _ _ _ (by simp))
    have HU3 : Hid (Upd (fun _ => False) w2 ((w2.alloc (.cells #[.string s, .slice fb F.length fd, .slice ib P.length id, .slice mb M.length md, .slice xb X.length xd] 27)).alloc (.cells #[] 44))) := Lib.hid ((Upd.alloc _ _ _).trans (Upd.alloc _ _ _) (fun _ h _ => h))
    have HSRC : Hid (Src ((w2.alloc (.cells #[.string s, .slice fb F.length fd, .slice ib P.length id, .slice mb M.length md, .slice xb X.length xd] 27)).alloc (.cells #[] 44)) 4 (.slice ib P.length id) P.length (cellsL 4 P.length (impF P p))) := Lib.hid ((Imps.src HSp.out HRp.out lP0).upd HU3.out (fun _ _ h => h))
    go_wp2_with (at_builtin; go_loud (refine wpList_append_mine _ rfl _ _ 24 rfl 0 44 m0 (.agg #[.string { data := #[] }, .int .i64 0, .slice none 0 0, .int .i64 0]) 4 56 Tryd.underlying24 hm' hx0 hx1 hx2 rfl (by decide) (.slice (some ⟨w2.heap.size + 1, 0, none⟩) 0 0) 0 [] rfl HE.out P.length (cellsL 4 P.length (impF P p)) HSRC.out (by unfold maxLen; omega) (by omega) (Nat.zero_le _) ?_))
    intro v5 w5 ho hg hf
    have hu5 : Upd (fun _ => False) (w2.alloc (.cells #[.string s, .slice fb F.length fd, .slice ib P.length id, .slice mb M.length md, .slice xb X.length xd] 27)) w5 := (Upd.alloc (fun _ => False) _ (.cells #[] 44)).trans (Upd.grown (S := fun k => w2.heap.size + 1 ≤ k) hg (fun k hk => .inl (by simp [Value.ownBlock] at hk; omega))) (fun k hk hl => by simp at hl; omega)
    have hf5 := bnFresh (w := (w2.alloc (.cells #[.string s, .slice fb F.length fd, .slice ib P.length id, .slice mb M.length md, .slice xb X.length xd] 27))) (g := w2.heap.size + 1) (w1 := w5) (by simp) (by simp) (fun k hk => by simp [Value.ownBlock] at hk; omega) hf
    try rw [Nat.zero_add] at ho
    try rw [List.nil_append] at ho
    obtain ⟨va, vc, rfl⟩ := ownsRow_slice ho
    have HO5 := Lib.hid ho
    have HU5 := Lib.hid ((Upd.alloc (fun _ => False) w2 (.cells #[.string s, .slice fb F.length fd, .slice ib P.length id, .slice mb M.length md, .slice xb X.length xd] 27)).trans hu5 (fun _ h _ => h))
    have HN5 := Lib.hid hf5
    have HX5 := Lib.hid ((hu5.block w2.heap.size (by simp) (fun h => h)).trans (blk_top' w2 _ _ rfl))
    have HSR := Lib.hid (srcAt w5 44 #[.string { data := #[97] }, .int .i64 (by' % 6), .slice none 0 0, .int .i64 (at' % 6)] [.string { data := #[97] }, .int .i64 (by' % 6), .slice none 0 0, .int .i64 (at' % 6)] rfl 4 (by simp [Value.oneCell']) 1 1 w5.heap.size rfl rfl)
    clear ho hg hf hu5 hf5 HE HU3 HSRC
    go_wp2_with (at_builtin; go_loud (refine wpList_append_mine _ rfl _ _ 24 rfl 0 44 m0 (.agg #[.string { data := #[] }, .int .i64 0, .slice none 0 0, .int .i64 0]) 4 56 Tryd.underlying24 hm' hx0 hx1 hx2 rfl (by decide) (.slice va P.length vc) P.length (cellsL 4 P.length (impF P p)) rfl (HO5.out.alloc _) 1 [.string { data := #[97] }, .int .i64 (by' % 6), .slice none 0 0, .int .i64 (at' % 6)] HSR.out (by unfold maxLen; omega) (by omega) (Nat.zero_le _) ?_))
    intro v6 w6 ho hg hf
    have hu6 : Upd (fun k => (Value.slice va P.length vc).ownBlock = some k) w5 w6 := Upd.row (Upd.alloc _ w5 _) hg
    have hx6 := (hu6.block w2.heap.size (by have := HU5.out.size; have h := Array.getElem?_eq_some_iff.1 HX5.out; obtain ⟨h, _⟩ := h; exact h) (fun h => by have := HN5.out _ h; simp at this; omega)).trans HX5.out
    have hU6 : Upd (fun _ => False) w2 w6 := HU5.out.trans hu6 (fun k h hl => by have := HN5.out _ h; simp at this; omega)
    obtain ⟨v6a, v6c, rfl⟩ := ownsRow_slice ho
    have cc0 := cells_at hx6 2 _ rfl
    have ff0 := cells_fr hx6 2
    have hU7 : Upd (fun j => j = w2.heap.size) w6 (w6.setCell ⟨w2.heap.size, 2, none⟩ (.slice v6a (P.length + 1) v6c)) := setAt _ _ _ _
    have hb7 : Below w2.heap.size w2 (w6.setCell ⟨w2.heap.size, 2, none⟩ (.slice v6a (P.length + 1) v6c)) := ((hU6.mono (T := fun j => j = w2.heap.size) (fun _ h _ => h.elim)).trans hU7 (fun _ h _ => h)).below (Nat.le_refl _) (fun k h => by omega)
    have hfr6 : ∀ k, (Value.slice v6a (P.length + 1) v6c).ownBlock = some k → w2.heap.size + 1 ≤ k := fun k hk => by
      rcases hf k hk with h | h
      · have := HN5.out _ h; simp at this; omega
      · have := HU5.out.size; have h9 := Array.getElem?_eq_some_iff.1 HX5.out; obtain ⟨h9, _⟩ := h9; simp at h; omega
    have hread := (imps_snoc (ownsRow_upd ho hU7 (fun k hk h => by have := hfr6 k hk; omega)) (fun i hi => (HRp.out i hi).later hb7) HWp.out HT6.out HA6.out (by decide))
    have HHX := Lib.hid (set_blk (j := 2) (v := .slice v6a (P.length + 1) v6c) hx6)
    have HHR := Lib.hid (set_keep (p := ⟨w2.heap.size, 2, none⟩) (v := .slice v6a (P.length + 1) v6c) ((hU6.block w.heap.size hRX (fun h => h)).trans HR2.out) (by simp; omega))
    have HHB := Lib.hid hb7
    have HHI := Lib.hid hread
    have HHU := Lib.hid ((HU2.out.trans hU6 (fun _ h _ => h)).trans hU7 (fun j h hl => by omega))
    clear ho hg hf hu6 hx6 hU6 hU7 hb7 hfr6 hread HO5 HU5 HN5 HX5 HSR
    obtain ⟨cX0, cX1, cX2, cX3, cX4, r0, r1, r2, r3, r4, s0, s1, s2, s3, s4, hfin⟩ := bent4_end (w := w) (wr := w6.setCell ⟨w2.heap.size, 2, none⟩ (.slice v6a (P.length + 1) v6c)) (X0 := w2.heap.size) (HHX.out) (HHR.out) ((img_mk (w := w6.setCell ⟨w2.heap.size, 2, none⟩ (.slice v6a (P.length + 1) v6c)) HS.out (HF.out.later HHB.out) HHI.out (HM.out.later HHB.out) (HX.out.later HHB.out))) (HHU.out)
    have HFIN := Lib.hid hfin
    clear hfin hRX HF HP HM HX HS HU2 HR2 HT7 HT5 HT6 HA6
    go_wp2_with fail
    all_goals
      refine bodyPost_ret (v := .agg #[.string s, .slice fb F.length fd, .slice v6a (P.length + 1) v6c, .slice mb M.length md, .slice xb X.length xd]) (by simp [results, Tryd.f5, go_sem, r0, r1, r2, r3, r4]) rfl ?_
      obtain ⟨hfin, hup⟩ := HFIN.out _ (((((setAt _ _ _ _).trans (setAt _ _ _ _) (fun _ h _ => h)).trans (setAt _ _ _ _) (fun _ h _ => h)).trans (setAt _ _ _ _) (fun _ h _ => h)).trans (setAt _ _ _ _) (fun _ h _ => h))
      first | exact ⟨_, _, rfl, hfin, hup⟩ | exact ⟨_, rfl, _, hfin, hup⟩
  · skip
    obtain ⟨p, q, r, hSm, hRm, hWm⟩ := HM.out
    have HSm := Lib.hid hSm
    have HRm := Lib.hid hRm
    have HWm := Lib.hid hWm
    clear hSm hRm hWm
    obtain ⟨z, hz, hz7⟩ := and7 (by' % 6) (by omega) (by omega)
    have hrem : by'.tmod 6 = by' % 6 := Int.tmod_eq_emod_of_nonneg wb0
    have hwr : IntKind.i64.wrap (by' % 6) = by' % 6 := Go.IntWalk.i64_in _ (by omega)
    go_upto_region 12 with fail
    refine wp_region_last (S := fun w' => w'.cell? ⟨w2.heap.size, 3, none⟩ = some (.slice mb M.length md)) 14 _ (by kernel_rfl) (by kernel_rfl) rfl ?_
    change wpHL _ _ _ _ _ _ _ _ _ _ (w2.alloc (.cells #[.string s, .slice fb F.length fd, .slice ib P.length id, .slice mb M.length md, .slice xb X.length xd] 27)).drew
    have HV0 : Hid (Upd (fun _ => False) w2 (w2.alloc (.cells #[.string s, .slice fb F.length fd, .slice ib P.length id, .slice mb M.length md, .slice xb X.length xd] 27)).drew) := Lib.hid ((Upd.alloc _ _ _).trans (Upd.drew _ _) (fun _ h _ => h))
    have HX0 : Hid ((w2.alloc (.cells #[.string s, .slice fb F.length fd, .slice ib P.length id, .slice mb M.length md, .slice xb X.length xd] 27)).drew.heap[w2.heap.size]? = some (.cells #[.string s, .slice fb F.length fd, .slice ib P.length id, .slice mb M.length md, .slice xb X.length xd] 27 (0, 0))) := Lib.hid (blk_top' w2 _ _ rfl)
    generalize (w2.alloc (.cells #[.string s, .slice fb F.length fd, .slice ib P.length id, .slice mb M.length md, .slice xb X.length xd] 27)).drew = u0 at HV0 HX0 ⊢
    have HSS : Hid (∀ w' : World, w'.heap[w2.heap.size]? = some (.cells #[.string s, .slice fb F.length fd, .slice ib P.length id, .slice mb M.length md, .slice xb X.length xd] 27 (0, 0)) → (fun w' => w'.cell? ⟨w2.heap.size, 3, none⟩ = some (.slice mb M.length md)) w') := Lib.hid (fun w' h => cells_at h 3 _ rfl)
    have hHeld := HSS.out _ HX0.out
    refine wpHL_take (i := 1) (v := ?_) rfl (by kernel_rfl) (fun _ _ _ h => h) hHeld (Or.inl ⟨by rfl, ?_⟩) ?_
    rotate_left
    · (intro w hSw; (try dsimp only at hSw); go_simp; try with_reducible rfl)
    simp only [Act.put, List.getElem_toArray, List.getElem_cons_succ, List.getElem_cons_zero, List.setIfInBounds_toArray, List.set_cons_zero, List.set_cons_succ]
    refine wpHL_take (i := 2) (v := ?_) rfl (by kernel_rfl) (fun _ _ _ h => h) hHeld (Or.inl ⟨by rfl, ?_⟩) ?_
    rotate_left
    · (intro w hSw; (try dsimp only at hSw); go_simp; try with_reducible rfl)
    simp only [Act.put, List.getElem_toArray, List.getElem_cons_succ, List.getElem_cons_zero, List.setIfInBounds_toArray, List.set_cons_zero, List.set_cons_succ]
    refine wpHL_take (i := 4) (v := ?_) rfl (by kernel_rfl) (fun _ _ _ h => h) hHeld (Or.inl ⟨by rfl, ?_⟩) ?_
    rotate_left
    · (intro w hSw; (try dsimp only at hSw); go_simp; try with_reducible rfl)
    simp only [Act.put, List.getElem_toArray, List.getElem_cons_succ, List.getElem_cons_zero, List.setIfInBounds_toArray, List.set_cons_zero, List.set_cons_succ]
    refine wpHL_take (i := 5) (v := ?_) rfl (by kernel_rfl) (fun _ _ _ h => h) hHeld (Or.inl ⟨by rfl, ?_⟩) ?_
    rotate_left
    · (intro w hSw; (try dsimp only at hSw); go_simp; try with_reducible rfl)
    simp only [Act.put, List.getElem_toArray, List.getElem_cons_succ, List.getElem_cons_zero, List.setIfInBounds_toArray, List.set_cons_zero, List.set_cons_succ]
    refine wpHL_take (i := 6) (v := ?_) rfl (by kernel_rfl) (fun _ _ _ h => h) hHeld (Or.inl ⟨by rfl, ?_⟩) ?_
    rotate_left
    · (intro w hSw; (try dsimp only at hSw); go_simp; try with_reducible rfl)
    simp only [Act.put, List.getElem_toArray, List.getElem_cons_succ, List.getElem_cons_zero, List.setIfInBounds_toArray, List.set_cons_zero, List.set_cons_succ]
    refine wpHL_take (i := 8) (v := .agg #[.int .i64 39, .int .i64 0, .int .i64 0]) rfl (by kernel_rfl) (fun _ _ _ h => h) hHeld (Or.inl ⟨by rfl, ?_⟩) ?_
    · (intro w hSw; kernel_rfl)
    simp only [Act.put, List.getElem_toArray, List.getElem_cons_succ, List.getElem_cons_zero, List.setIfInBounds_toArray, List.set_cons_zero, List.set_cons_succ]
    clear hHeld hz hrem hwr
    have hlt0 : w2.heap.size < u0.heap.size := blk_lt HX0.out
    refine wpHL_3 (i := 0) (j := 7) (l := 9) rfl rfl rfl (by kernel_rfl) (by decide) (by decide) (by decide) (fun K HK0 => ?_) (fun K HK0 => ?_) (fun K HK0 => ?_)
    · skip
      go_simp
      have HXn : Hid ((u0.alloc (.cells #[] 49)).heap[w2.heap.size]? = some (.cells #[.string s, .slice fb F.length fd, .slice ib P.length id, .slice mb M.length md, .slice xb X.length xd] 27 (0, 0))) := Lib.hid ((Below.heap_alloc _ _ _ hlt0).trans HX0.out)
      refine HK0.out _ _ (HSS.out _ HXn.out) ?_
      try simp only [Act.put, List.getElem_toArray, List.getElem_cons_succ, List.getElem_cons_zero, List.setIfInBounds_toArray, List.set_cons_zero, List.set_cons_succ]
      clear HK0
      have hun : Upd (fun _ => False) u0 (u0.alloc (.cells #[] 49)) := Upd.alloc _ _ _
      have hbn : (u0.alloc (.cells #[] 49)).heap[u0.heap.size]? = some (.cells #[] 49 (0, 0)) := blk_top' _ _ _ rfl
      have hent := bnEmpty u0 49 4 _ rfl
      generalize u0.alloc (.cells #[] 49) = u1 at HXn hun hbn hent ⊢
      have HX1 := HXn
      have hlt1 : w2.heap.size < u1.heap.size := blk_lt HX1.out
      have hst1 : u0.heap.size < u1.heap.size := blk_lt hbn
      have HV1 := Lib.hid (HV0.out.trans hun (fun _ h _ => h))
      have HE := Lib.hid hent
      clear hent
      clear HXn hun hbn
      refine wpHL_3 (i := 3) (j := 7) (l := 9) rfl rfl rfl (by kernel_rfl) (by decide) (by decide) (by decide) (fun K HK0 => ?_) (fun K HK0 => ?_) (fun K HK0 => ?_)
      · skip
        have HSA : Hid (Src u1 4 (.slice mb M.length md) M.length (cellsL 4 M.length (metF M p q r))) := Lib.hid ((Mets.src HSm.out HRm.out lM0).upd HV1.out (fun _ _ h => h))
        refine step_append_mine rfl (.tmp 63) (.tmp 65) 25 rfl 0 49 i0 (.agg #[.slice none 0 0, .int .i64 0, .slice none 0 0, .slice none 0 0]) 4 80 Tryd.underlying25 hi hz0 hz1 hz2 rfl (by decide) (.slice (some ⟨u0.heap.size, 0, none⟩) 0 0) 0 [] rfl HE.out M.length (cellsL 4 M.length (metF M p q r)) HSA.out (by unfold maxLen; omega) (by omega) (Nat.zero_le _) ?_
        intro va u2 ho hg hf
        have hun : Upd (fun k => (Value.slice (some ⟨u0.heap.size, 0, none⟩) 0 0).ownBlock = some k) u1 u2 := Upd.grown hg (fun k h => .inl h)
        have HX2 : Hid (u2.heap[w2.heap.size]? = some (.cells #[.string s, .slice fb F.length fd, .slice ib P.length id, .slice mb M.length md, .slice xb X.length xd] 27 (0, 0))) := Lib.hid ((hun.block _ hlt1 (fun h => by simp [Value.ownBlock] at h; omega)).trans HX1.out)
        refine HK0.out _ _ (HSS.out _ HX2.out) ?_
        try simp only [Act.put, List.getElem_toArray, List.getElem_cons_succ, List.getElem_cons_zero, List.setIfInBounds_toArray, List.set_cons_zero, List.set_cons_succ]
        clear HK0 HSA
        have hlt2 : w2.heap.size < u2.heap.size := blk_lt HX2.out
        have hst2 : u1.heap.size ≤ u2.heap.size := hun.size
        have HV2 := Lib.hid (HV1.out.trans hun (fun j h hl => by simp [Value.ownBlock] at h; omega))
        rw [Nat.zero_add, List.nil_append] at ho
        skip
        obtain ⟨vb, vcap, rfl, -, -, hvb2⟩ := row_head ho lM0
        have hvb1 : vb = u0.heap.size ∨ u1.heap.size ≤ vb := by
          rcases hf vb rfl with h | h
          · simp [Value.ownBlock] at h; omega
          · exact .inr h
        have HA := Lib.hid ho
        clear ho hg hf hun HE
        refine wpHL_2 (i := 7) (j := 9) rfl rfl (by kernel_rfl) (by decide) (by decide) (fun K HK0 => ?_) (fun K HK0 => ?_)
        · skip
          refine step_make_full rfl (.tmp 69) (.tmp 69) 23 rfl 3 j0 (.int .i64 0) 1 Tryd.underlying23 hj hy0 hy1 z rfl rfl (by rw [hy2]; omega) (by unfold maxLen; omega) ?_
          intro u3 ho hg
          have hun : Upd (fun _ => False) u2 u3 := Upd.grown hg (fun k hk => by cases hk)
          have HX3 : Hid (u3.heap[w2.heap.size]? = some (.cells #[.string s, .slice fb F.length fd, .slice ib P.length id, .slice mb M.length md, .slice xb X.length xd] 27 (0, 0))) := Lib.hid ((hun.block _ hlt2 (fun h => h)).trans HX2.out)
          refine HK0.out _ _ (HSS.out _ HX3.out) ?_
          try simp only [Act.put, List.getElem_toArray, List.getElem_cons_succ, List.getElem_cons_zero, List.setIfInBounds_toArray, List.set_cons_zero, List.set_cons_succ]
          clear HK0
          have hlt3 : w2.heap.size < u3.heap.size := blk_lt HX3.out
          have hst3 : u2.heap.size < u3.heap.size := (ho.lt _ rfl).2
          have HV3 := Lib.hid (HV2.out.trans hun (fun _ h _ => h))
          replace HA := Lib.hid (ownsRow_upd HA.out hun (fun _ _ h => h))
          have HKK : Hid (WRow u3 (.slice (some ⟨u2.heap.size, 0, none⟩) z z) (List.replicate z 0)) := Lib.hid ⟨by rw [List.length_replicate, ← made_iv]; simpa using ho, fun n hn => by rw [List.eq_of_mem_replicate hn]; unfold wi64; omega⟩
          clear ho hg hun
          refine wpHL_1 (i := 9) rfl (by kernel_rfl) (by decide) (fun K HK0 => ?_)
          go_simp
          have HXn : Hid ((u3.alloc (.cells #[.int .i64 39, .int .i64 0, .int .i64 0] 46)).heap[w2.heap.size]? = some (.cells #[.string s, .slice fb F.length fd, .slice ib P.length id, .slice mb M.length md, .slice xb X.length xd] 27 (0, 0))) := Lib.hid ((Below.heap_alloc _ _ _ hlt3).trans HX3.out)
          refine HK0.out _ _ (HSS.out _ HXn.out) ?_
          try simp only [Act.put, List.getElem_toArray, List.getElem_cons_succ, List.getElem_cons_zero, List.setIfInBounds_toArray, List.set_cons_zero, List.set_cons_succ]
          clear HK0
          have hun : Upd (fun _ => False) u3 (u3.alloc (.cells #[.int .i64 39, .int .i64 0, .int .i64 0] 46)) := Upd.alloc _ _ _
          have hbn : (u3.alloc (.cells #[.int .i64 39, .int .i64 0, .int .i64 0] 46)).heap[u3.heap.size]? = some (.cells #[.int .i64 39, .int .i64 0, .int .i64 0] 46 (0, 0)) := blk_top' _ _ _ rfl
          generalize u3.alloc (.cells #[.int .i64 39, .int .i64 0, .int .i64 0] 46) = u4 at HXn hun hbn  ⊢
          have HX4 := HXn
          have hlt4 : w2.heap.size < u4.heap.size := blk_lt HX4.out
          have hst4 : u3.heap.size < u4.heap.size := blk_lt hbn
          have HV4 := Lib.hid (HV3.out.trans hun (fun _ h _ => h))
          replace HA := Lib.hid (ownsRow_upd HA.out hun (fun _ _ h => h))
          replace HKK := Lib.hid (HKK.out.upd hun (fun _ _ h => h))
          have HCC : Hid (CRow u4 (.slice (some ⟨u3.heap.size, 0, none⟩) 1 1) [⟨39, 0, 0⟩]) := Lib.hid ⟨row_of_blk hbn rfl (by unfold maxLen; omega), fun x hx => by simp at hx; subst hx; exact ⟨by unfold wi64; decide, by unfold wi64; decide, by unfold wi64; decide⟩⟩
          clear HXn hun hbn
          have hHeld := HSS.out _ HX4.out
          refine wpHL_take (i := 10) (v := .agg #[.slice (some ⟨u2.heap.size, 0, none⟩) z z, .int .i64 0, .slice none 0 0, .slice (some ⟨u3.heap.size, 0, none⟩) 1 1]) rfl (by kernel_rfl) (fun _ _ _ h => h) hHeld (Or.inl ⟨by rfl, ?_⟩) ?_
          · (intro w hSw; kernel_rfl)
          simp only [Act.put, List.getElem_toArray, List.getElem_cons_succ, List.getElem_cons_zero, List.setIfInBounds_toArray, List.set_cons_zero, List.set_cons_succ]
          clear hHeld
          refine wpHL_1 (i := 11) rfl (by kernel_rfl) (by decide) (fun K HK0 => ?_)
          go_simp
          have HXn : Hid ((u4.alloc (.cells #[.slice (some ⟨u2.heap.size, 0, none⟩) z z, .int .i64 0, .slice none 0 0, .slice (some ⟨u3.heap.size, 0, none⟩) 1 1] 49)).heap[w2.heap.size]? = some (.cells #[.string s, .slice fb F.length fd, .slice ib P.length id, .slice mb M.length md, .slice xb X.length xd] 27 (0, 0))) := Lib.hid ((Below.heap_alloc _ _ _ hlt4).trans HX4.out)
          refine HK0.out _ _ (HSS.out _ HXn.out) ?_
          try simp only [Act.put, List.getElem_toArray, List.getElem_cons_succ, List.getElem_cons_zero, List.setIfInBounds_toArray, List.set_cons_zero, List.set_cons_succ]
          clear HK0
          have hun : Upd (fun _ => False) u4 (u4.alloc (.cells #[.slice (some ⟨u2.heap.size, 0, none⟩) z z, .int .i64 0, .slice none 0 0, .slice (some ⟨u3.heap.size, 0, none⟩) 1 1] 49)) := Upd.alloc _ _ _
          have hbn : (u4.alloc (.cells #[.slice (some ⟨u2.heap.size, 0, none⟩) z z, .int .i64 0, .slice none 0 0, .slice (some ⟨u3.heap.size, 0, none⟩) 1 1] 49)).heap[u4.heap.size]? = some (.cells #[.slice (some ⟨u2.heap.size, 0, none⟩) z z, .int .i64 0, .slice none 0 0, .slice (some ⟨u3.heap.size, 0, none⟩) 1 1] 49 (0, 0)) := blk_top' _ _ _ rfl
          have hent := srcAt u4 49 #[.slice (some ⟨u2.heap.size, 0, none⟩) z z, .int .i64 0, .slice none 0 0, .slice (some ⟨u3.heap.size, 0, none⟩) 1 1] [.slice (some ⟨u2.heap.size, 0, none⟩) z z, .int .i64 0, .slice none 0 0, .slice (some ⟨u3.heap.size, 0, none⟩) 1 1] rfl 4 (by simp [Value.oneCell']) 1 1 _ rfl rfl
          generalize u4.alloc (.cells #[.slice (some ⟨u2.heap.size, 0, none⟩) z z, .int .i64 0, .slice none 0 0, .slice (some ⟨u3.heap.size, 0, none⟩) 1 1] 49) = u5 at HXn hun hbn hent ⊢
          have HX5 := HXn
          have hlt5 : w2.heap.size < u5.heap.size := blk_lt HX5.out
          have hst5 : u4.heap.size < u5.heap.size := blk_lt hbn
          have HV5 := Lib.hid (HV4.out.trans hun (fun _ h _ => h))
          replace HA := Lib.hid (ownsRow_upd HA.out hun (fun _ _ h => h))
          replace HKK := Lib.hid (HKK.out.upd hun (fun _ _ h => h))
          replace HCC := Lib.hid (HCC.out.upd hun (fun _ _ h => h))
          have HTT := Lib.hid hent
          clear hent
          clear HXn hun hbn
          refine wpHL_1 (i := 12) rfl (by kernel_rfl) (by decide) (fun K HK0 => ?_)
          refine step_append_mine rfl (.tmp 66) (.tmp 74) 25 rfl 0 49 i0 (.agg #[.slice none 0 0, .int .i64 0, .slice none 0 0, .slice none 0 0]) 4 80 Tryd.underlying25 hi hz0 hz1 hz2 rfl (by decide) (.slice (some ⟨vb, 0, none⟩) M.length vcap) M.length (cellsL 4 M.length (metF M p q r)) rfl HA.out 1 [.slice (some ⟨u2.heap.size, 0, none⟩) z z, .int .i64 0, .slice none 0 0, .slice (some ⟨u3.heap.size, 0, none⟩) 1 1] HTT.out (by unfold maxLen; omega) (by omega) (Nat.zero_le _) ?_
          intro v6 u6 ho hg hf
          have hun : Upd (fun k => (Value.slice (some ⟨vb, 0, none⟩) M.length vcap).ownBlock = some k) u5 u6 := Upd.grown hg (fun k h => .inl h)
          have HX6 : Hid (u6.heap[w2.heap.size]? = some (.cells #[.string s, .slice fb F.length fd, .slice ib P.length id, .slice mb M.length md, .slice xb X.length xd] 27 (0, 0))) := Lib.hid ((hun.block _ hlt5 (fun h => by simp [Value.ownBlock] at h; omega)).trans HX5.out)
          refine HK0.out _ _ (HSS.out _ HX6.out) ?_
          try simp only [Act.put, List.getElem_toArray, List.getElem_cons_succ, List.getElem_cons_zero, List.setIfInBounds_toArray, List.set_cons_zero, List.set_cons_succ]
          clear HK0
          have HV6 := Lib.hid (HV5.out.trans hun (fun j h hl => by simp [Value.ownBlock] at h; omega))
          replace HKK := Lib.hid (HKK.out.upd hun (fun j hj h => by simp [Value.ownBlock] at hj h; omega))
          replace HCC := Lib.hid (HCC.out.upd hun (fun j hj h => by simp [Value.ownBlock] at hj h; omega))
          obtain ⟨v6b, v6cap, rfl, -, -, hv62⟩ := row_head ho (by omega)
          have hv61 : w2.heap.size < v6b := by
            rcases hf v6b rfl with h | h
            · simp [Value.ownBlock] at h; omega
            · omega
          have HO6 := Lib.hid ho
          clear ho hg hf hun HA HTT
          have hHeld := HSS.out _ HX6.out
          refine wpHL_take (i := 13) (v := ?_) rfl (by kernel_rfl) (fun _ _ _ h => h) hHeld (Or.inl ⟨by rfl, ?_⟩) ?_
          rotate_left
          · (intro w hSw; (try dsimp only at hSw); go_simp; try with_reducible rfl)
          simp only [Act.put, List.getElem_toArray, List.getElem_cons_succ, List.getElem_cons_zero, List.setIfInBounds_toArray, List.set_cons_zero, List.set_cons_succ]
          clear hHeld
          refine wpHL_last (by kernel_rfl) ?_
          have cc3 := cells_at HX6.out 3 _ rfl
          have ff3 := cells_fr HX6.out 3
          obtain ⟨g1, g2, g3, g4⟩ := img_set3 HF.out HP.out HX.out HS.out HRm.out HWm.out HX6.out HV6.out HU2.out HR2.out HO6.out hv61 HKK.out (fun k hk => by simp [Value.ownBlock] at hk; omega) HCC.out (fun k hk => by simp [Value.ownBlock] at hk; omega)
          obtain ⟨cX0, cX1, cX2, cX3, cX4, r0, r1, r2, r3, r4, s0, s1, s2, s3, s4, hfin⟩ := bent4_end g1 g2 g3 g4
          clear g1 g2 g3 g4 HO6 HKK HCC HSm HRm HWm HSS
          have HFIN := Lib.hid hfin
          clear hfin hRX HF HP HM HX HS HU2 HR2 HT7 HT5 HT6 HA6
          go_wp2_with fail
          all_goals
            refine bodyPost_ret (v := .agg #[.string s, .slice fb F.length fd, .slice ib P.length id, .slice (some ⟨v6b, 0, none⟩) (M.length + 1) v6cap, .slice xb X.length xd]) (by simp [results, Tryd.f5, go_sem, r0, r1, r2, r3, r4]) rfl ?_
            obtain ⟨hfin, hup⟩ := HFIN.out _ (((((setAt _ _ _ _).trans (setAt _ _ _ _) (fun _ h _ => h)).trans (setAt _ _ _ _) (fun _ h _ => h)).trans (setAt _ _ _ _) (fun _ h _ => h)).trans (setAt _ _ _ _) (fun _ h _ => h))
            first | exact ⟨_, _, rfl, hfin, hup⟩ | exact ⟨_, rfl, _, hfin, hup⟩
        · skip
          go_simp
          have HXn : Hid ((u2.alloc (.cells #[.int .i64 39, .int .i64 0, .int .i64 0] 46)).heap[w2.heap.size]? = some (.cells #[.string s, .slice fb F.length fd, .slice ib P.length id, .slice mb M.length md, .slice xb X.length xd] 27 (0, 0))) := Lib.hid ((Below.heap_alloc _ _ _ hlt2).trans HX2.out)
          refine HK0.out _ _ (HSS.out _ HXn.out) ?_
          try simp only [Act.put, List.getElem_toArray, List.getElem_cons_succ, List.getElem_cons_zero, List.setIfInBounds_toArray, List.set_cons_zero, List.set_cons_succ]
          clear HK0
          have hun : Upd (fun _ => False) u2 (u2.alloc (.cells #[.int .i64 39, .int .i64 0, .int .i64 0] 46)) := Upd.alloc _ _ _
          have hbn : (u2.alloc (.cells #[.int .i64 39, .int .i64 0, .int .i64 0] 46)).heap[u2.heap.size]? = some (.cells #[.int .i64 39, .int .i64 0, .int .i64 0] 46 (0, 0)) := blk_top' _ _ _ rfl
          generalize u2.alloc (.cells #[.int .i64 39, .int .i64 0, .int .i64 0] 46) = u3 at HXn hun hbn  ⊢
          have HX3 := HXn
          have hlt3 : w2.heap.size < u3.heap.size := blk_lt HX3.out
          have hst3 : u2.heap.size < u3.heap.size := blk_lt hbn
          have HV3 := Lib.hid (HV2.out.trans hun (fun _ h _ => h))
          replace HA := Lib.hid (ownsRow_upd HA.out hun (fun _ _ h => h))
          have HCC : Hid (CRow u3 (.slice (some ⟨u2.heap.size, 0, none⟩) 1 1) [⟨39, 0, 0⟩]) := Lib.hid ⟨row_of_blk hbn rfl (by unfold maxLen; omega), fun x hx => by simp at hx; subst hx; exact ⟨by unfold wi64; decide, by unfold wi64; decide, by unfold wi64; decide⟩⟩
          clear HXn hun hbn
          refine wpHL_1 (i := 7) rfl (by kernel_rfl) (by decide) (fun K HK0 => ?_)
          refine step_make_full rfl (.tmp 69) (.tmp 69) 23 rfl 3 j0 (.int .i64 0) 1 Tryd.underlying23 hj hy0 hy1 z rfl rfl (by rw [hy2]; omega) (by unfold maxLen; omega) ?_
          intro u4 ho hg
          have hun : Upd (fun _ => False) u3 u4 := Upd.grown hg (fun k hk => by cases hk)
          have HX4 : Hid (u4.heap[w2.heap.size]? = some (.cells #[.string s, .slice fb F.length fd, .slice ib P.length id, .slice mb M.length md, .slice xb X.length xd] 27 (0, 0))) := Lib.hid ((hun.block _ hlt3 (fun h => h)).trans HX3.out)
          refine HK0.out _ _ (HSS.out _ HX4.out) ?_
          try simp only [Act.put, List.getElem_toArray, List.getElem_cons_succ, List.getElem_cons_zero, List.setIfInBounds_toArray, List.set_cons_zero, List.set_cons_succ]
          clear HK0
          have hlt4 : w2.heap.size < u4.heap.size := blk_lt HX4.out
          have hst4 : u3.heap.size < u4.heap.size := (ho.lt _ rfl).2
          have HV4 := Lib.hid (HV3.out.trans hun (fun _ h _ => h))
          replace HA := Lib.hid (ownsRow_upd HA.out hun (fun _ _ h => h))
          replace HCC := Lib.hid (HCC.out.upd hun (fun _ _ h => h))
          have HKK : Hid (WRow u4 (.slice (some ⟨u3.heap.size, 0, none⟩) z z) (List.replicate z 0)) := Lib.hid ⟨by rw [List.length_replicate, ← made_iv]; simpa using ho, fun n hn => by rw [List.eq_of_mem_replicate hn]; unfold wi64; omega⟩
          clear ho hg hun
          have hHeld := HSS.out _ HX4.out
          refine wpHL_take (i := 10) (v := .agg #[.slice (some ⟨u3.heap.size, 0, none⟩) z z, .int .i64 0, .slice none 0 0, .slice (some ⟨u2.heap.size, 0, none⟩) 1 1]) rfl (by kernel_rfl) (fun _ _ _ h => h) hHeld (Or.inl ⟨by rfl, ?_⟩) ?_
          · (intro w hSw; kernel_rfl)
          simp only [Act.put, List.getElem_toArray, List.getElem_cons_succ, List.getElem_cons_zero, List.setIfInBounds_toArray, List.set_cons_zero, List.set_cons_succ]
          clear hHeld
          refine wpHL_1 (i := 11) rfl (by kernel_rfl) (by decide) (fun K HK0 => ?_)
          go_simp
          have HXn : Hid ((u4.alloc (.cells #[.slice (some ⟨u3.heap.size, 0, none⟩) z z, .int .i64 0, .slice none 0 0, .slice (some ⟨u2.heap.size, 0, none⟩) 1 1] 49)).heap[w2.heap.size]? = some (.cells #[.string s, .slice fb F.length fd, .slice ib P.length id, .slice mb M.length md, .slice xb X.length xd] 27 (0, 0))) := Lib.hid ((Below.heap_alloc _ _ _ hlt4).trans HX4.out)
          refine HK0.out _ _ (HSS.out _ HXn.out) ?_
          try simp only [Act.put, List.getElem_toArray, List.getElem_cons_succ, List.getElem_cons_zero, List.setIfInBounds_toArray, List.set_cons_zero, List.set_cons_succ]
          clear HK0
          have hun : Upd (fun _ => False) u4 (u4.alloc (.cells #[.slice (some ⟨u3.heap.size, 0, none⟩) z z, .int .i64 0, .slice none 0 0, .slice (some ⟨u2.heap.size, 0, none⟩) 1 1] 49)) := Upd.alloc _ _ _
          have hbn : (u4.alloc (.cells #[.slice (some ⟨u3.heap.size, 0, none⟩) z z, .int .i64 0, .slice none 0 0, .slice (some ⟨u2.heap.size, 0, none⟩) 1 1] 49)).heap[u4.heap.size]? = some (.cells #[.slice (some ⟨u3.heap.size, 0, none⟩) z z, .int .i64 0, .slice none 0 0, .slice (some ⟨u2.heap.size, 0, none⟩) 1 1] 49 (0, 0)) := blk_top' _ _ _ rfl
          have hent := srcAt u4 49 #[.slice (some ⟨u3.heap.size, 0, none⟩) z z, .int .i64 0, .slice none 0 0, .slice (some ⟨u2.heap.size, 0, none⟩) 1 1] [.slice (some ⟨u3.heap.size, 0, none⟩) z z, .int .i64 0, .slice none 0 0, .slice (some ⟨u2.heap.size, 0, none⟩) 1 1] rfl 4 (by simp [Value.oneCell']) 1 1 _ rfl rfl
          generalize u4.alloc (.cells #[.slice (some ⟨u3.heap.size, 0, none⟩) z z, .int .i64 0, .slice none 0 0, .slice (some ⟨u2.heap.size, 0, none⟩) 1 1] 49) = u5 at HXn hun hbn hent ⊢
          have HX5 := HXn
          have hlt5 : w2.heap.size < u5.heap.size := blk_lt HX5.out
          have hst5 : u4.heap.size < u5.heap.size := blk_lt hbn
          have HV5 := Lib.hid (HV4.out.trans hun (fun _ h _ => h))
          replace HA := Lib.hid (ownsRow_upd HA.out hun (fun _ _ h => h))
          replace HKK := Lib.hid (HKK.out.upd hun (fun _ _ h => h))
          replace HCC := Lib.hid (HCC.out.upd hun (fun _ _ h => h))
          have HTT := Lib.hid hent
          clear hent
          clear HXn hun hbn
          refine wpHL_1 (i := 12) rfl (by kernel_rfl) (by decide) (fun K HK0 => ?_)
          refine step_append_mine rfl (.tmp 66) (.tmp 74) 25 rfl 0 49 i0 (.agg #[.slice none 0 0, .int .i64 0, .slice none 0 0, .slice none 0 0]) 4 80 Tryd.underlying25 hi hz0 hz1 hz2 rfl (by decide) (.slice (some ⟨vb, 0, none⟩) M.length vcap) M.length (cellsL 4 M.length (metF M p q r)) rfl HA.out 1 [.slice (some ⟨u3.heap.size, 0, none⟩) z z, .int .i64 0, .slice none 0 0, .slice (some ⟨u2.heap.size, 0, none⟩) 1 1] HTT.out (by unfold maxLen; omega) (by omega) (Nat.zero_le _) ?_
          intro v6 u6 ho hg hf
          have hun : Upd (fun k => (Value.slice (some ⟨vb, 0, none⟩) M.length vcap).ownBlock = some k) u5 u6 := Upd.grown hg (fun k h => .inl h)
          have HX6 : Hid (u6.heap[w2.heap.size]? = some (.cells #[.string s, .slice fb F.length fd, .slice ib P.length id, .slice mb M.length md, .slice xb X.length xd] 27 (0, 0))) := Lib.hid ((hun.block _ hlt5 (fun h => by simp [Value.ownBlock] at h; omega)).trans HX5.out)
          refine HK0.out _ _ (HSS.out _ HX6.out) ?_
          try simp only [Act.put, List.getElem_toArray, List.getElem_cons_succ, List.getElem_cons_zero, List.setIfInBounds_toArray, List.set_cons_zero, List.set_cons_succ]
          clear HK0
          have HV6 := Lib.hid (HV5.out.trans hun (fun j h hl => by simp [Value.ownBlock] at h; omega))
          replace HKK := Lib.hid (HKK.out.upd hun (fun j hj h => by simp [Value.ownBlock] at hj h; omega))
          replace HCC := Lib.hid (HCC.out.upd hun (fun j hj h => by simp [Value.ownBlock] at hj h; omega))
          obtain ⟨v6b, v6cap, rfl, -, -, hv62⟩ := row_head ho (by omega)
          have hv61 : w2.heap.size < v6b := by
            rcases hf v6b rfl with h | h
            · simp [Value.ownBlock] at h; omega
            · omega
          have HO6 := Lib.hid ho
          clear ho hg hf hun HA HTT
          have hHeld := HSS.out _ HX6.out
          refine wpHL_take (i := 13) (v := ?_) rfl (by kernel_rfl) (fun _ _ _ h => h) hHeld (Or.inl ⟨by rfl, ?_⟩) ?_
          rotate_left
          · (intro w hSw; (try dsimp only at hSw); go_simp; try with_reducible rfl)
          simp only [Act.put, List.getElem_toArray, List.getElem_cons_succ, List.getElem_cons_zero, List.setIfInBounds_toArray, List.set_cons_zero, List.set_cons_succ]
          clear hHeld
          refine wpHL_last (by kernel_rfl) ?_
          have cc3 := cells_at HX6.out 3 _ rfl
          have ff3 := cells_fr HX6.out 3
          obtain ⟨g1, g2, g3, g4⟩ := img_set3 HF.out HP.out HX.out HS.out HRm.out HWm.out HX6.out HV6.out HU2.out HR2.out HO6.out hv61 HKK.out (fun k hk => by simp [Value.ownBlock] at hk; omega) HCC.out (fun k hk => by simp [Value.ownBlock] at hk; omega)
          obtain ⟨cX0, cX1, cX2, cX3, cX4, r0, r1, r2, r3, r4, s0, s1, s2, s3, s4, hfin⟩ := bent4_end g1 g2 g3 g4
          clear g1 g2 g3 g4 HO6 HKK HCC HSm HRm HWm HSS
          have HFIN := Lib.hid hfin
          clear hfin hRX HF HP HM HX HS HU2 HR2 HT7 HT5 HT6 HA6
          go_wp2_with fail
          all_goals
            refine bodyPost_ret (v := .agg #[.string s, .slice fb F.length fd, .slice ib P.length id, .slice (some ⟨v6b, 0, none⟩) (M.length + 1) v6cap, .slice xb X.length xd]) (by simp [results, Tryd.f5, go_sem, r0, r1, r2, r3, r4]) rfl ?_
            obtain ⟨hfin, hup⟩ := HFIN.out _ (((((setAt _ _ _ _).trans (setAt _ _ _ _) (fun _ h _ => h)).trans (setAt _ _ _ _) (fun _ h _ => h)).trans (setAt _ _ _ _) (fun _ h _ => h)).trans (setAt _ _ _ _) (fun _ h _ => h))
            first | exact ⟨_, _, rfl, hfin, hup⟩ | exact ⟨_, rfl, _, hfin, hup⟩
      · skip
        refine step_make_full rfl (.tmp 69) (.tmp 69) 23 rfl 3 j0 (.int .i64 0) 1 Tryd.underlying23 hj hy0 hy1 z rfl rfl (by rw [hy2]; omega) (by unfold maxLen; omega) ?_
        intro u2 ho hg
        have hun : Upd (fun _ => False) u1 u2 := Upd.grown hg (fun k hk => by cases hk)
        have HX2 : Hid (u2.heap[w2.heap.size]? = some (.cells #[.string s, .slice fb F.length fd, .slice ib P.length id, .slice mb M.length md, .slice xb X.length xd] 27 (0, 0))) := Lib.hid ((hun.block _ hlt1 (fun h => h)).trans HX1.out)
        refine HK0.out _ _ (HSS.out _ HX2.out) ?_
        try simp only [Act.put, List.getElem_toArray, List.getElem_cons_succ, List.getElem_cons_zero, List.setIfInBounds_toArray, List.set_cons_zero, List.set_cons_succ]
        clear HK0
        have hlt2 : w2.heap.size < u2.heap.size := blk_lt HX2.out
        have hst2 : u1.heap.size < u2.heap.size := (ho.lt _ rfl).2
        have HV2 := Lib.hid (HV1.out.trans hun (fun _ h _ => h))
        replace HE := Lib.hid (ownsRow_upd HE.out hun (fun _ _ h => h))
        have HKK : Hid (WRow u2 (.slice (some ⟨u1.heap.size, 0, none⟩) z z) (List.replicate z 0)) := Lib.hid ⟨by rw [List.length_replicate, ← made_iv]; simpa using ho, fun n hn => by rw [List.eq_of_mem_replicate hn]; unfold wi64; omega⟩
        clear ho hg hun
        refine wpHL_2 (i := 3) (j := 9) rfl rfl (by kernel_rfl) (by decide) (by decide) (fun K HK0 => ?_) (fun K HK0 => ?_)
        · skip
          have HSA : Hid (Src u2 4 (.slice mb M.length md) M.length (cellsL 4 M.length (metF M p q r))) := Lib.hid ((Mets.src HSm.out HRm.out lM0).upd HV2.out (fun _ _ h => h))
          refine step_append_mine rfl (.tmp 63) (.tmp 65) 25 rfl 0 49 i0 (.agg #[.slice none 0 0, .int .i64 0, .slice none 0 0, .slice none 0 0]) 4 80 Tryd.underlying25 hi hz0 hz1 hz2 rfl (by decide) (.slice (some ⟨u0.heap.size, 0, none⟩) 0 0) 0 [] rfl HE.out M.length (cellsL 4 M.length (metF M p q r)) HSA.out (by unfold maxLen; omega) (by omega) (Nat.zero_le _) ?_
          intro va u3 ho hg hf
          have hun : Upd (fun k => (Value.slice (some ⟨u0.heap.size, 0, none⟩) 0 0).ownBlock = some k) u2 u3 := Upd.grown hg (fun k h => .inl h)
          have HX3 : Hid (u3.heap[w2.heap.size]? = some (.cells #[.string s, .slice fb F.length fd, .slice ib P.length id, .slice mb M.length md, .slice xb X.length xd] 27 (0, 0))) := Lib.hid ((hun.block _ hlt2 (fun h => by simp [Value.ownBlock] at h; omega)).trans HX2.out)
          refine HK0.out _ _ (HSS.out _ HX3.out) ?_
          try simp only [Act.put, List.getElem_toArray, List.getElem_cons_succ, List.getElem_cons_zero, List.setIfInBounds_toArray, List.set_cons_zero, List.set_cons_succ]
          clear HK0 HSA
          have hlt3 : w2.heap.size < u3.heap.size := blk_lt HX3.out
          have hst3 : u2.heap.size ≤ u3.heap.size := hun.size
          have HV3 := Lib.hid (HV2.out.trans hun (fun j h hl => by simp [Value.ownBlock] at h; omega))
          replace HKK := Lib.hid (HKK.out.upd hun (fun j hj h => by simp [Value.ownBlock] at hj h; omega))
          rw [Nat.zero_add, List.nil_append] at ho
          skip
          obtain ⟨vb, vcap, rfl, -, -, hvb2⟩ := row_head ho lM0
          have hvb1 : vb = u0.heap.size ∨ u2.heap.size ≤ vb := by
            rcases hf vb rfl with h | h
            · simp [Value.ownBlock] at h; omega
            · exact .inr h
          have HA := Lib.hid ho
          clear ho hg hf hun HE
          refine wpHL_1 (i := 9) rfl (by kernel_rfl) (by decide) (fun K HK0 => ?_)
          go_simp
          have HXn : Hid ((u3.alloc (.cells #[.int .i64 39, .int .i64 0, .int .i64 0] 46)).heap[w2.heap.size]? = some (.cells #[.string s, .slice fb F.length fd, .slice ib P.length id, .slice mb M.length md, .slice xb X.length xd] 27 (0, 0))) := Lib.hid ((Below.heap_alloc _ _ _ hlt3).trans HX3.out)
          refine HK0.out _ _ (HSS.out _ HXn.out) ?_
          try simp only [Act.put, List.getElem_toArray, List.getElem_cons_succ, List.getElem_cons_zero, List.setIfInBounds_toArray, List.set_cons_zero, List.set_cons_succ]
          clear HK0
          have hun : Upd (fun _ => False) u3 (u3.alloc (.cells #[.int .i64 39, .int .i64 0, .int .i64 0] 46)) := Upd.alloc _ _ _
          have hbn : (u3.alloc (.cells #[.int .i64 39, .int .i64 0, .int .i64 0] 46)).heap[u3.heap.size]? = some (.cells #[.int .i64 39, .int .i64 0, .int .i64 0] 46 (0, 0)) := blk_top' _ _ _ rfl
          generalize u3.alloc (.cells #[.int .i64 39, .int .i64 0, .int .i64 0] 46) = u4 at HXn hun hbn  ⊢
          have HX4 := HXn
          have hlt4 : w2.heap.size < u4.heap.size := blk_lt HX4.out
          have hst4 : u3.heap.size < u4.heap.size := blk_lt hbn
          have HV4 := Lib.hid (HV3.out.trans hun (fun _ h _ => h))
          replace HA := Lib.hid (ownsRow_upd HA.out hun (fun _ _ h => h))
          replace HKK := Lib.hid (HKK.out.upd hun (fun _ _ h => h))
          have HCC : Hid (CRow u4 (.slice (some ⟨u3.heap.size, 0, none⟩) 1 1) [⟨39, 0, 0⟩]) := Lib.hid ⟨row_of_blk hbn rfl (by unfold maxLen; omega), fun x hx => by simp at hx; subst hx; exact ⟨by unfold wi64; decide, by unfold wi64; decide, by unfold wi64; decide⟩⟩
          clear HXn hun hbn
          have hHeld := HSS.out _ HX4.out
          refine wpHL_take (i := 10) (v := .agg #[.slice (some ⟨u1.heap.size, 0, none⟩) z z, .int .i64 0, .slice none 0 0, .slice (some ⟨u3.heap.size, 0, none⟩) 1 1]) rfl (by kernel_rfl) (fun _ _ _ h => h) hHeld (Or.inl ⟨by rfl, ?_⟩) ?_
          · (intro w hSw; kernel_rfl)
          simp only [Act.put, List.getElem_toArray, List.getElem_cons_succ, List.getElem_cons_zero, List.setIfInBounds_toArray, List.set_cons_zero, List.set_cons_succ]
          clear hHeld
          refine wpHL_1 (i := 11) rfl (by kernel_rfl) (by decide) (fun K HK0 => ?_)
          go_simp
          have HXn : Hid ((u4.alloc (.cells #[.slice (some ⟨u1.heap.size, 0, none⟩) z z, .int .i64 0, .slice none 0 0, .slice (some ⟨u3.heap.size, 0, none⟩) 1 1] 49)).heap[w2.heap.size]? = some (.cells #[.string s, .slice fb F.length fd, .slice ib P.length id, .slice mb M.length md, .slice xb X.length xd] 27 (0, 0))) := Lib.hid ((Below.heap_alloc _ _ _ hlt4).trans HX4.out)
          refine HK0.out _ _ (HSS.out _ HXn.out) ?_
          try simp only [Act.put, List.getElem_toArray, List.getElem_cons_succ, List.getElem_cons_zero, List.setIfInBounds_toArray, List.set_cons_zero, List.set_cons_succ]
          clear HK0
          have hun : Upd (fun _ => False) u4 (u4.alloc (.cells #[.slice (some ⟨u1.heap.size, 0, none⟩) z z, .int .i64 0, .slice none 0 0, .slice (some ⟨u3.heap.size, 0, none⟩) 1 1] 49)) := Upd.alloc _ _ _
          have hbn : (u4.alloc (.cells #[.slice (some ⟨u1.heap.size, 0, none⟩) z z, .int .i64 0, .slice none 0 0, .slice (some ⟨u3.heap.size, 0, none⟩) 1 1] 49)).heap[u4.heap.size]? = some (.cells #[.slice (some ⟨u1.heap.size, 0, none⟩) z z, .int .i64 0, .slice none 0 0, .slice (some ⟨u3.heap.size, 0, none⟩) 1 1] 49 (0, 0)) := blk_top' _ _ _ rfl
          have hent := srcAt u4 49 #[.slice (some ⟨u1.heap.size, 0, none⟩) z z, .int .i64 0, .slice none 0 0, .slice (some ⟨u3.heap.size, 0, none⟩) 1 1] [.slice (some ⟨u1.heap.size, 0, none⟩) z z, .int .i64 0, .slice none 0 0, .slice (some ⟨u3.heap.size, 0, none⟩) 1 1] rfl 4 (by simp [Value.oneCell']) 1 1 _ rfl rfl
          generalize u4.alloc (.cells #[.slice (some ⟨u1.heap.size, 0, none⟩) z z, .int .i64 0, .slice none 0 0, .slice (some ⟨u3.heap.size, 0, none⟩) 1 1] 49) = u5 at HXn hun hbn hent ⊢
          have HX5 := HXn
          have hlt5 : w2.heap.size < u5.heap.size := blk_lt HX5.out
          have hst5 : u4.heap.size < u5.heap.size := blk_lt hbn
          have HV5 := Lib.hid (HV4.out.trans hun (fun _ h _ => h))
          replace HA := Lib.hid (ownsRow_upd HA.out hun (fun _ _ h => h))
          replace HKK := Lib.hid (HKK.out.upd hun (fun _ _ h => h))
          replace HCC := Lib.hid (HCC.out.upd hun (fun _ _ h => h))
          have HTT := Lib.hid hent
          clear hent
          clear HXn hun hbn
          refine wpHL_1 (i := 12) rfl (by kernel_rfl) (by decide) (fun K HK0 => ?_)
          refine step_append_mine rfl (.tmp 66) (.tmp 74) 25 rfl 0 49 i0 (.agg #[.slice none 0 0, .int .i64 0, .slice none 0 0, .slice none 0 0]) 4 80 Tryd.underlying25 hi hz0 hz1 hz2 rfl (by decide) (.slice (some ⟨vb, 0, none⟩) M.length vcap) M.length (cellsL 4 M.length (metF M p q r)) rfl HA.out 1 [.slice (some ⟨u1.heap.size, 0, none⟩) z z, .int .i64 0, .slice none 0 0, .slice (some ⟨u3.heap.size, 0, none⟩) 1 1] HTT.out (by unfold maxLen; omega) (by omega) (Nat.zero_le _) ?_
          intro v6 u6 ho hg hf
          have hun : Upd (fun k => (Value.slice (some ⟨vb, 0, none⟩) M.length vcap).ownBlock = some k) u5 u6 := Upd.grown hg (fun k h => .inl h)
          have HX6 : Hid (u6.heap[w2.heap.size]? = some (.cells #[.string s, .slice fb F.length fd, .slice ib P.length id, .slice mb M.length md, .slice xb X.length xd] 27 (0, 0))) := Lib.hid ((hun.block _ hlt5 (fun h => by simp [Value.ownBlock] at h; omega)).trans HX5.out)
          refine HK0.out _ _ (HSS.out _ HX6.out) ?_
          try simp only [Act.put, List.getElem_toArray, List.getElem_cons_succ, List.getElem_cons_zero, List.setIfInBounds_toArray, List.set_cons_zero, List.set_cons_succ]
          clear HK0
          have HV6 := Lib.hid (HV5.out.trans hun (fun j h hl => by simp [Value.ownBlock] at h; omega))
          replace HKK := Lib.hid (HKK.out.upd hun (fun j hj h => by simp [Value.ownBlock] at hj h; omega))
          replace HCC := Lib.hid (HCC.out.upd hun (fun j hj h => by simp [Value.ownBlock] at hj h; omega))
          obtain ⟨v6b, v6cap, rfl, -, -, hv62⟩ := row_head ho (by omega)
          have hv61 : w2.heap.size < v6b := by
            rcases hf v6b rfl with h | h
            · simp [Value.ownBlock] at h; omega
            · omega
          have HO6 := Lib.hid ho
          clear ho hg hf hun HA HTT
          have hHeld := HSS.out _ HX6.out
          refine wpHL_take (i := 13) (v := ?_) rfl (by kernel_rfl) (fun _ _ _ h => h) hHeld (Or.inl ⟨by rfl, ?_⟩) ?_
          rotate_left
          · (intro w hSw; (try dsimp only at hSw); go_simp; try with_reducible rfl)
          simp only [Act.put, List.getElem_toArray, List.getElem_cons_succ, List.getElem_cons_zero, List.setIfInBounds_toArray, List.set_cons_zero, List.set_cons_succ]
          clear hHeld
          refine wpHL_last (by kernel_rfl) ?_
          have cc3 := cells_at HX6.out 3 _ rfl
          have ff3 := cells_fr HX6.out 3
          obtain ⟨g1, g2, g3, g4⟩ := img_set3 HF.out HP.out HX.out HS.out HRm.out HWm.out HX6.out HV6.out HU2.out HR2.out HO6.out hv61 HKK.out (fun k hk => by simp [Value.ownBlock] at hk; omega) HCC.out (fun k hk => by simp [Value.ownBlock] at hk; omega)
          obtain ⟨cX0, cX1, cX2, cX3, cX4, r0, r1, r2, r3, r4, s0, s1, s2, s3, s4, hfin⟩ := bent4_end g1 g2 g3 g4
          clear g1 g2 g3 g4 HO6 HKK HCC HSm HRm HWm HSS
          have HFIN := Lib.hid hfin
          clear hfin hRX HF HP HM HX HS HU2 HR2 HT7 HT5 HT6 HA6
          go_wp2_with fail
          all_goals
            refine bodyPost_ret (v := .agg #[.string s, .slice fb F.length fd, .slice ib P.length id, .slice (some ⟨v6b, 0, none⟩) (M.length + 1) v6cap, .slice xb X.length xd]) (by simp [results, Tryd.f5, go_sem, r0, r1, r2, r3, r4]) rfl ?_
            obtain ⟨hfin, hup⟩ := HFIN.out _ (((((setAt _ _ _ _).trans (setAt _ _ _ _) (fun _ h _ => h)).trans (setAt _ _ _ _) (fun _ h _ => h)).trans (setAt _ _ _ _) (fun _ h _ => h)).trans (setAt _ _ _ _) (fun _ h _ => h))
            first | exact ⟨_, _, rfl, hfin, hup⟩ | exact ⟨_, rfl, _, hfin, hup⟩
        · skip
          go_simp
          have HXn : Hid ((u2.alloc (.cells #[.int .i64 39, .int .i64 0, .int .i64 0] 46)).heap[w2.heap.size]? = some (.cells #[.string s, .slice fb F.length fd, .slice ib P.length id, .slice mb M.length md, .slice xb X.length xd] 27 (0, 0))) := Lib.hid ((Below.heap_alloc _ _ _ hlt2).trans HX2.out)
          refine HK0.out _ _ (HSS.out _ HXn.out) ?_
          try simp only [Act.put, List.getElem_toArray, List.getElem_cons_succ, List.getElem_cons_zero, List.setIfInBounds_toArray, List.set_cons_zero, List.set_cons_succ]
          clear HK0
          have hun : Upd (fun _ => False) u2 (u2.alloc (.cells #[.int .i64 39, .int .i64 0, .int .i64 0] 46)) := Upd.alloc _ _ _
          have hbn : (u2.alloc (.cells #[.int .i64 39, .int .i64 0, .int .i64 0] 46)).heap[u2.heap.size]? = some (.cells #[.int .i64 39, .int .i64 0, .int .i64 0] 46 (0, 0)) := blk_top' _ _ _ rfl
          generalize u2.alloc (.cells #[.int .i64 39, .int .i64 0, .int .i64 0] 46) = u3 at HXn hun hbn  ⊢
          have HX3 := HXn
          have hlt3 : w2.heap.size < u3.heap.size := blk_lt HX3.out
          have hst3 : u2.heap.size < u3.heap.size := blk_lt hbn
          have HV3 := Lib.hid (HV2.out.trans hun (fun _ h _ => h))
          replace HE := Lib.hid (ownsRow_upd HE.out hun (fun _ _ h => h))
          replace HKK := Lib.hid (HKK.out.upd hun (fun _ _ h => h))
          have HCC : Hid (CRow u3 (.slice (some ⟨u2.heap.size, 0, none⟩) 1 1) [⟨39, 0, 0⟩]) := Lib.hid ⟨row_of_blk hbn rfl (by unfold maxLen; omega), fun x hx => by simp at hx; subst hx; exact ⟨by unfold wi64; decide, by unfold wi64; decide, by unfold wi64; decide⟩⟩
          clear HXn hun hbn
          have hHeld := HSS.out _ HX3.out
          refine wpHL_take (i := 10) (v := .agg #[.slice (some ⟨u1.heap.size, 0, none⟩) z z, .int .i64 0, .slice none 0 0, .slice (some ⟨u2.heap.size, 0, none⟩) 1 1]) rfl (by kernel_rfl) (fun _ _ _ h => h) hHeld (Or.inl ⟨by rfl, ?_⟩) ?_
          · (intro w hSw; kernel_rfl)
          simp only [Act.put, List.getElem_toArray, List.getElem_cons_succ, List.getElem_cons_zero, List.setIfInBounds_toArray, List.set_cons_zero, List.set_cons_succ]
          clear hHeld
          refine wpHL_2 (i := 3) (j := 11) rfl rfl (by kernel_rfl) (by decide) (by decide) (fun K HK0 => ?_) (fun K HK0 => ?_)
          · skip
            have HSA : Hid (Src u3 4 (.slice mb M.length md) M.length (cellsL 4 M.length (metF M p q r))) := Lib.hid ((Mets.src HSm.out HRm.out lM0).upd HV3.out (fun _ _ h => h))
            refine step_append_mine rfl (.tmp 63) (.tmp 65) 25 rfl 0 49 i0 (.agg #[.slice none 0 0, .int .i64 0, .slice none 0 0, .slice none 0 0]) 4 80 Tryd.underlying25 hi hz0 hz1 hz2 rfl (by decide) (.slice (some ⟨u0.heap.size, 0, none⟩) 0 0) 0 [] rfl HE.out M.length (cellsL 4 M.length (metF M p q r)) HSA.out (by unfold maxLen; omega) (by omega) (Nat.zero_le _) ?_
            intro va u4 ho hg hf
            have hun : Upd (fun k => (Value.slice (some ⟨u0.heap.size, 0, none⟩) 0 0).ownBlock = some k) u3 u4 := Upd.grown hg (fun k h => .inl h)
            have HX4 : Hid (u4.heap[w2.heap.size]? = some (.cells #[.string s, .slice fb F.length fd, .slice ib P.length id, .slice mb M.length md, .slice xb X.length xd] 27 (0, 0))) := Lib.hid ((hun.block _ hlt3 (fun h => by simp [Value.ownBlock] at h; omega)).trans HX3.out)
            refine HK0.out _ _ (HSS.out _ HX4.out) ?_
            try simp only [Act.put, List.getElem_toArray, List.getElem_cons_succ, List.getElem_cons_zero, List.setIfInBounds_toArray, List.set_cons_zero, List.set_cons_succ]
            clear HK0 HSA
            have hlt4 : w2.heap.size < u4.heap.size := blk_lt HX4.out
            have hst4 : u3.heap.size ≤ u4.heap.size := hun.size
            have HV4 := Lib.hid (HV3.out.trans hun (fun j h hl => by simp [Value.ownBlock] at h; omega))
            replace HKK := Lib.hid (HKK.out.upd hun (fun j hj h => by simp [Value.ownBlock] at hj h; omega))
            replace HCC := Lib.hid (HCC.out.upd hun (fun j hj h => by simp [Value.ownBlock] at hj h; omega))
            rw [Nat.zero_add, List.nil_append] at ho
            skip
            obtain ⟨vb, vcap, rfl, -, -, hvb2⟩ := row_head ho lM0
            have hvb1 : vb = u0.heap.size ∨ u3.heap.size ≤ vb := by
              rcases hf vb rfl with h | h
              · simp [Value.ownBlock] at h; omega
              · exact .inr h
            have HA := Lib.hid ho
            clear ho hg hf hun HE
            refine wpHL_1 (i := 11) rfl (by kernel_rfl) (by decide) (fun K HK0 => ?_)
            go_simp
            have HXn : Hid ((u4.alloc (.cells #[.slice (some ⟨u1.heap.size, 0, none⟩) z z, .int .i64 0, .slice none 0 0, .slice (some ⟨u2.heap.size, 0, none⟩) 1 1] 49)).heap[w2.heap.size]? = some (.cells #[.string s, .slice fb F.length fd, .slice ib P.length id, .slice mb M.length md, .slice xb X.length xd] 27 (0, 0))) := Lib.hid ((Below.heap_alloc _ _ _ hlt4).trans HX4.out)
            refine HK0.out _ _ (HSS.out _ HXn.out) ?_
            try simp only [Act.put, List.getElem_toArray, List.getElem_cons_succ, List.getElem_cons_zero, List.setIfInBounds_toArray, List.set_cons_zero, List.set_cons_succ]
            clear HK0
            have hun : Upd (fun _ => False) u4 (u4.alloc (.cells #[.slice (some ⟨u1.heap.size, 0, none⟩) z z, .int .i64 0, .slice none 0 0, .slice (some ⟨u2.heap.size, 0, none⟩) 1 1] 49)) := Upd.alloc _ _ _
            have hbn : (u4.alloc (.cells #[.slice (some ⟨u1.heap.size, 0, none⟩) z z, .int .i64 0, .slice none 0 0, .slice (some ⟨u2.heap.size, 0, none⟩) 1 1] 49)).heap[u4.heap.size]? = some (.cells #[.slice (some ⟨u1.heap.size, 0, none⟩) z z, .int .i64 0, .slice none 0 0, .slice (some ⟨u2.heap.size, 0, none⟩) 1 1] 49 (0, 0)) := blk_top' _ _ _ rfl
            have hent := srcAt u4 49 #[.slice (some ⟨u1.heap.size, 0, none⟩) z z, .int .i64 0, .slice none 0 0, .slice (some ⟨u2.heap.size, 0, none⟩) 1 1] [.slice (some ⟨u1.heap.size, 0, none⟩) z z, .int .i64 0, .slice none 0 0, .slice (some ⟨u2.heap.size, 0, none⟩) 1 1] rfl 4 (by simp [Value.oneCell']) 1 1 _ rfl rfl
            generalize u4.alloc (.cells #[.slice (some ⟨u1.heap.size, 0, none⟩) z z, .int .i64 0, .slice none 0 0, .slice (some ⟨u2.heap.size, 0, none⟩) 1 1] 49) = u5 at HXn hun hbn hent ⊢
            have HX5 := HXn
            have hlt5 : w2.heap.size < u5.heap.size := blk_lt HX5.out
            have hst5 : u4.heap.size < u5.heap.size := blk_lt hbn
            have HV5 := Lib.hid (HV4.out.trans hun (fun _ h _ => h))
            replace HA := Lib.hid (ownsRow_upd HA.out hun (fun _ _ h => h))
            replace HKK := Lib.hid (HKK.out.upd hun (fun _ _ h => h))
            replace HCC := Lib.hid (HCC.out.upd hun (fun _ _ h => h))
            have HTT := Lib.hid hent
            clear hent
            clear HXn hun hbn
            refine wpHL_1 (i := 12) rfl (by kernel_rfl) (by decide) (fun K HK0 => ?_)
            refine step_append_mine rfl (.tmp 66) (.tmp 74) 25 rfl 0 49 i0 (.agg #[.slice none 0 0, .int .i64 0, .slice none 0 0, .slice none 0 0]) 4 80 Tryd.underlying25 hi hz0 hz1 hz2 rfl (by decide) (.slice (some ⟨vb, 0, none⟩) M.length vcap) M.length (cellsL 4 M.length (metF M p q r)) rfl HA.out 1 [.slice (some ⟨u1.heap.size, 0, none⟩) z z, .int .i64 0, .slice none 0 0, .slice (some ⟨u2.heap.size, 0, none⟩) 1 1] HTT.out (by unfold maxLen; omega) (by omega) (Nat.zero_le _) ?_
            intro v6 u6 ho hg hf
            have hun : Upd (fun k => (Value.slice (some ⟨vb, 0, none⟩) M.length vcap).ownBlock = some k) u5 u6 := Upd.grown hg (fun k h => .inl h)
            have HX6 : Hid (u6.heap[w2.heap.size]? = some (.cells #[.string s, .slice fb F.length fd, .slice ib P.length id, .slice mb M.length md, .slice xb X.length xd] 27 (0, 0))) := Lib.hid ((hun.block _ hlt5 (fun h => by simp [Value.ownBlock] at h; omega)).trans HX5.out)
            refine HK0.out _ _ (HSS.out _ HX6.out) ?_
            try simp only [Act.put, List.getElem_toArray, List.getElem_cons_succ, List.getElem_cons_zero, List.setIfInBounds_toArray, List.set_cons_zero, List.set_cons_succ]
            clear HK0
            have HV6 := Lib.hid (HV5.out.trans hun (fun j h hl => by simp [Value.ownBlock] at h; omega))
            replace HKK := Lib.hid (HKK.out.upd hun (fun j hj h => by simp [Value.ownBlock] at hj h; omega))
            replace HCC := Lib.hid (HCC.out.upd hun (fun j hj h => by simp [Value.ownBlock] at hj h; omega))
            obtain ⟨v6b, v6cap, rfl, -, -, hv62⟩ := row_head ho (by omega)
            have hv61 : w2.heap.size < v6b := by
              rcases hf v6b rfl with h | h
              · simp [Value.ownBlock] at h; omega
              · omega
            have HO6 := Lib.hid ho
            clear ho hg hf hun HA HTT
            have hHeld := HSS.out _ HX6.out
            refine wpHL_take (i := 13) (v := ?_) rfl (by kernel_rfl) (fun _ _ _ h => h) hHeld (Or.inl ⟨by rfl, ?_⟩) ?_
            rotate_left
            · (intro w hSw; (try dsimp only at hSw); go_simp; try with_reducible rfl)
            simp only [Act.put, List.getElem_toArray, List.getElem_cons_succ, List.getElem_cons_zero, List.setIfInBounds_toArray, List.set_cons_zero, List.set_cons_succ]
            clear hHeld
            refine wpHL_last (by kernel_rfl) ?_
            have cc3 := cells_at HX6.out 3 _ rfl
            have ff3 := cells_fr HX6.out 3
            obtain ⟨g1, g2, g3, g4⟩ := img_set3 HF.out HP.out HX.out HS.out HRm.out HWm.out HX6.out HV6.out HU2.out HR2.out HO6.out hv61 HKK.out (fun k hk => by simp [Value.ownBlock] at hk; omega) HCC.out (fun k hk => by simp [Value.ownBlock] at hk; omega)
            obtain ⟨cX0, cX1, cX2, cX3, cX4, r0, r1, r2, r3, r4, s0, s1, s2, s3, s4, hfin⟩ := bent4_end g1 g2 g3 g4
            clear g1 g2 g3 g4 HO6 HKK HCC HSm HRm HWm HSS
            have HFIN := Lib.hid hfin
            clear hfin hRX HF HP HM HX HS HU2 HR2 HT7 HT5 HT6 HA6
            go_wp2_with fail
            all_goals
              refine bodyPost_ret (v := .agg #[.string s, .slice fb F.length fd, .slice ib P.length id, .slice (some ⟨v6b, 0, none⟩) (M.length + 1) v6cap, .slice xb X.length xd]) (by simp [results, Tryd.f5, go_sem, r0, r1, r2, r3, r4]) rfl ?_
              obtain ⟨hfin, hup⟩ := HFIN.out _ (((((setAt _ _ _ _).trans (setAt _ _ _ _) (fun _ h _ => h)).trans (setAt _ _ _ _) (fun _ h _ => h)).trans (setAt _ _ _ _) (fun _ h _ => h)).trans (setAt _ _ _ _) (fun _ h _ => h))
              first | exact ⟨_, _, rfl, hfin, hup⟩ | exact ⟨_, rfl, _, hfin, hup⟩
          · skip
            go_simp
            have HXn : Hid ((u3.alloc (.cells #[.slice (some ⟨u1.heap.size, 0, none⟩) z z, .int .i64 0, .slice none 0 0, .slice (some ⟨u2.heap.size, 0, none⟩) 1 1] 49)).heap[w2.heap.size]? = some (.cells #[.string s, .slice fb F.length fd, .slice ib P.length id, .slice mb M.length md, .slice xb X.length xd] 27 (0, 0))) := Lib.hid ((Below.heap_alloc _ _ _ hlt3).trans HX3.out)
            refine HK0.out _ _ (HSS.out _ HXn.out) ?_
            try simp only [Act.put, List.getElem_toArray, List.getElem_cons_succ, List.getElem_cons_zero, List.setIfInBounds_toArray, List.set_cons_zero, List.set_cons_succ]
            clear HK0
            have hun : Upd (fun _ => False) u3 (u3.alloc (.cells #[.slice (some ⟨u1.heap.size, 0, none⟩) z z, .int .i64 0, .slice none 0 0, .slice (some ⟨u2.heap.size, 0, none⟩) 1 1] 49)) := Upd.alloc _ _ _
            have hbn : (u3.alloc (.cells #[.slice (some ⟨u1.heap.size, 0, none⟩) z z, .int .i64 0, .slice none 0 0, .slice (some ⟨u2.heap.size, 0, none⟩) 1 1] 49)).heap[u3.heap.size]? = some (.cells #[.slice (some ⟨u1.heap.size, 0, none⟩) z z, .int .i64 0, .slice none 0 0, .slice (some ⟨u2.heap.size, 0, none⟩) 1 1] 49 (0, 0)) := blk_top' _ _ _ rfl
            have hent := srcAt u3 49 #[.slice (some ⟨u1.heap.size, 0, none⟩) z z, .int .i64 0, .slice none 0 0, .slice (some ⟨u2.heap.size, 0, none⟩) 1 1] [.slice (some ⟨u1.heap.size, 0, none⟩) z z, .int .i64 0, .slice none 0 0, .slice (some ⟨u2.heap.size, 0, none⟩) 1 1] rfl 4 (by simp [Value.oneCell']) 1 1 _ rfl rfl
            generalize u3.alloc (.cells #[.slice (some ⟨u1.heap.size, 0, none⟩) z z, .int .i64 0, .slice none 0 0, .slice (some ⟨u2.heap.size, 0, none⟩) 1 1] 49) = u4 at HXn hun hbn hent ⊢
            have HX4 := HXn
            have hlt4 : w2.heap.size < u4.heap.size := blk_lt HX4.out
            have hst4 : u3.heap.size < u4.heap.size := blk_lt hbn
            have HV4 := Lib.hid (HV3.out.trans hun (fun _ h _ => h))
            replace HE := Lib.hid (ownsRow_upd HE.out hun (fun _ _ h => h))
            replace HKK := Lib.hid (HKK.out.upd hun (fun _ _ h => h))
            replace HCC := Lib.hid (HCC.out.upd hun (fun _ _ h => h))
            have HTT := Lib.hid hent
            clear hent
            clear HXn hun hbn
            refine wpHL_1 (i := 3) rfl (by kernel_rfl) (by decide) (fun K HK0 => ?_)
            have HSA : Hid (Src u4 4 (.slice mb M.length md) M.length (cellsL 4 M.length (metF M p q r))) := Lib.hid ((Mets.src HSm.out HRm.out lM0).upd HV4.out (fun _ _ h => h))
            refine step_append_mine rfl (.tmp 63) (.tmp 65) 25 rfl 0 49 i0 (.agg #[.slice none 0 0, .int .i64 0, .slice none 0 0, .slice none 0 0]) 4 80 Tryd.underlying25 hi hz0 hz1 hz2 rfl (by decide) (.slice (some ⟨u0.heap.size, 0, none⟩) 0 0) 0 [] rfl HE.out M.length (cellsL 4 M.length (metF M p q r)) HSA.out (by unfold maxLen; omega) (by omega) (Nat.zero_le _) ?_
            intro va u5 ho hg hf
            have hun : Upd (fun k => (Value.slice (some ⟨u0.heap.size, 0, none⟩) 0 0).ownBlock = some k) u4 u5 := Upd.grown hg (fun k h => .inl h)
            have HX5 : Hid (u5.heap[w2.heap.size]? = some (.cells #[.string s, .slice fb F.length fd, .slice ib P.length id, .slice mb M.length md, .slice xb X.length xd] 27 (0, 0))) := Lib.hid ((hun.block _ hlt4 (fun h => by simp [Value.ownBlock] at h; omega)).trans HX4.out)
            refine HK0.out _ _ (HSS.out _ HX5.out) ?_
            try simp only [Act.put, List.getElem_toArray, List.getElem_cons_succ, List.getElem_cons_zero, List.setIfInBounds_toArray, List.set_cons_zero, List.set_cons_succ]
            clear HK0 HSA
            have hlt5 : w2.heap.size < u5.heap.size := blk_lt HX5.out
            have hst5 : u4.heap.size ≤ u5.heap.size := hun.size
            have HV5 := Lib.hid (HV4.out.trans hun (fun j h hl => by simp [Value.ownBlock] at h; omega))
            replace HKK := Lib.hid (HKK.out.upd hun (fun j hj h => by simp [Value.ownBlock] at hj h; omega))
            replace HCC := Lib.hid (HCC.out.upd hun (fun j hj h => by simp [Value.ownBlock] at hj h; omega))
            replace HTT := Lib.hid (HTT.out.upd hun (fun j hj h => by simp [Value.ownBlock] at hj h; omega))
            rw [Nat.zero_add, List.nil_append] at ho
            skip
            obtain ⟨vb, vcap, rfl, -, -, hvb2⟩ := row_head ho lM0
            have hvb1 : vb = u0.heap.size ∨ u4.heap.size ≤ vb := by
              rcases hf vb rfl with h | h
              · simp [Value.ownBlock] at h; omega
              · exact .inr h
            have HA := Lib.hid ho
            clear ho hg hf hun HE
            refine wpHL_1 (i := 12) rfl (by kernel_rfl) (by decide) (fun K HK0 => ?_)
            refine step_append_mine rfl (.tmp 66) (.tmp 74) 25 rfl 0 49 i0 (.agg #[.slice none 0 0, .int .i64 0, .slice none 0 0, .slice none 0 0]) 4 80 Tryd.underlying25 hi hz0 hz1 hz2 rfl (by decide) (.slice (some ⟨vb, 0, none⟩) M.length vcap) M.length (cellsL 4 M.length (metF M p q r)) rfl HA.out 1 [.slice (some ⟨u1.heap.size, 0, none⟩) z z, .int .i64 0, .slice none 0 0, .slice (some ⟨u2.heap.size, 0, none⟩) 1 1] HTT.out (by unfold maxLen; omega) (by omega) (Nat.zero_le _) ?_
            intro v6 u6 ho hg hf
            have hun : Upd (fun k => (Value.slice (some ⟨vb, 0, none⟩) M.length vcap).ownBlock = some k) u5 u6 := Upd.grown hg (fun k h => .inl h)
            have HX6 : Hid (u6.heap[w2.heap.size]? = some (.cells #[.string s, .slice fb F.length fd, .slice ib P.length id, .slice mb M.length md, .slice xb X.length xd] 27 (0, 0))) := Lib.hid ((hun.block _ hlt5 (fun h => by simp [Value.ownBlock] at h; omega)).trans HX5.out)
            refine HK0.out _ _ (HSS.out _ HX6.out) ?_
            try simp only [Act.put, List.getElem_toArray, List.getElem_cons_succ, List.getElem_cons_zero, List.setIfInBounds_toArray, List.set_cons_zero, List.set_cons_succ]
            clear HK0
            have HV6 := Lib.hid (HV5.out.trans hun (fun j h hl => by simp [Value.ownBlock] at h; omega))
            replace HKK := Lib.hid (HKK.out.upd hun (fun j hj h => by simp [Value.ownBlock] at hj h; omega))
            replace HCC := Lib.hid (HCC.out.upd hun (fun j hj h => by simp [Value.ownBlock] at hj h; omega))
            obtain ⟨v6b, v6cap, rfl, -, -, hv62⟩ := row_head ho (by omega)
            have hv61 : w2.heap.size < v6b := by
              rcases hf v6b rfl with h | h
              · simp [Value.ownBlock] at h; omega
              · omega
            have HO6 := Lib.hid ho
            clear ho hg hf hun HA HTT
            have hHeld := HSS.out _ HX6.out
            refine wpHL_take (i := 13) (v := ?_) rfl (by kernel_rfl) (fun _ _ _ h => h) hHeld (Or.inl ⟨by rfl, ?_⟩) ?_
            rotate_left
            · (intro w hSw; (try dsimp only at hSw); go_simp; try with_reducible rfl)
            simp only [Act.put, List.getElem_toArray, List.getElem_cons_succ, List.getElem_cons_zero, List.setIfInBounds_toArray, List.set_cons_zero, List.set_cons_succ]
            clear hHeld
            refine wpHL_last (by kernel_rfl) ?_
            have cc3 := cells_at HX6.out 3 _ rfl
            have ff3 := cells_fr HX6.out 3
            obtain ⟨g1, g2, g3, g4⟩ := img_set3 HF.out HP.out HX.out HS.out HRm.out HWm.out HX6.out HV6.out HU2.out HR2.out HO6.out hv61 HKK.out (fun k hk => by simp [Value.ownBlock] at hk; omega) HCC.out (fun k hk => by simp [Value.ownBlock] at hk; omega)
            obtain ⟨cX0, cX1, cX2, cX3, cX4, r0, r1, r2, r3, r4, s0, s1, s2, s3, s4, hfin⟩ := bent4_end g1 g2 g3 g4
            clear g1 g2 g3 g4 HO6 HKK HCC HSm HRm HWm HSS
            have HFIN := Lib.hid hfin
            clear hfin hRX HF HP HM HX HS HU2 HR2 HT7 HT5 HT6 HA6
            go_wp2_with fail
            all_goals
              refine bodyPost_ret (v := .agg #[.string s, .slice fb F.length fd, .slice ib P.length id, .slice (some ⟨v6b, 0, none⟩) (M.length + 1) v6cap, .slice xb X.length xd]) (by simp [results, Tryd.f5, go_sem, r0, r1, r2, r3, r4]) rfl ?_
              obtain ⟨hfin, hup⟩ := HFIN.out _ (((((setAt _ _ _ _).trans (setAt _ _ _ _) (fun _ h _ => h)).trans (setAt _ _ _ _) (fun _ h _ => h)).trans (setAt _ _ _ _) (fun _ h _ => h)).trans (setAt _ _ _ _) (fun _ h _ => h))
              first | exact ⟨_, _, rfl, hfin, hup⟩ | exact ⟨_, rfl, _, hfin, hup⟩
      · skip
        go_simp
        have HXn : Hid ((u1.alloc (.cells #[.int .i64 39, .int .i64 0, .int .i64 0] 46)).heap[w2.heap.size]? = some (.cells #[.string s, .slice fb F.length fd, .slice ib P.length id, .slice mb M.length md, .slice xb X.length xd] 27 (0, 0))) := Lib.hid ((Below.heap_alloc _ _ _ hlt1).trans HX1.out)
        refine HK0.out _ _ (HSS.out _ HXn.out) ?_
        try simp only [Act.put, List.getElem_toArray, List.getElem_cons_succ, List.getElem_cons_zero, List.setIfInBounds_toArray, List.set_cons_zero, List.set_cons_succ]
        clear HK0
        have hun : Upd (fun _ => False) u1 (u1.alloc (.cells #[.int .i64 39, .int .i64 0, .int .i64 0] 46)) := Upd.alloc _ _ _
        have hbn : (u1.alloc (.cells #[.int .i64 39, .int .i64 0, .int .i64 0] 46)).heap[u1.heap.size]? = some (.cells #[.int .i64 39, .int .i64 0, .int .i64 0] 46 (0, 0)) := blk_top' _ _ _ rfl
        generalize u1.alloc (.cells #[.int .i64 39, .int .i64 0, .int .i64 0] 46) = u2 at HXn hun hbn  ⊢
        have HX2 := HXn
        have hlt2 : w2.heap.size < u2.heap.size := blk_lt HX2.out
        have hst2 : u1.heap.size < u2.heap.size := blk_lt hbn
        have HV2 := Lib.hid (HV1.out.trans hun (fun _ h _ => h))
        replace HE := Lib.hid (ownsRow_upd HE.out hun (fun _ _ h => h))
        have HCC : Hid (CRow u2 (.slice (some ⟨u1.heap.size, 0, none⟩) 1 1) [⟨39, 0, 0⟩]) := Lib.hid ⟨row_of_blk hbn rfl (by unfold maxLen; omega), fun x hx => by simp at hx; subst hx; exact ⟨by unfold wi64; decide, by unfold wi64; decide, by unfold wi64; decide⟩⟩
        clear HXn hun hbn
        refine wpHL_2 (i := 3) (j := 7) rfl rfl (by kernel_rfl) (by decide) (by decide) (fun K HK0 => ?_) (fun K HK0 => ?_)
        · skip
          have HSA : Hid (Src u2 4 (.slice mb M.length md) M.length (cellsL 4 M.length (metF M p q r))) := Lib.hid ((Mets.src HSm.out HRm.out lM0).upd HV2.out (fun _ _ h => h))
          refine step_append_mine rfl (.tmp 63) (.tmp 65) 25 rfl 0 49 i0 (.agg #[.slice none 0 0, .int .i64 0, .slice none 0 0, .slice none 0 0]) 4 80 Tryd.underlying25 hi hz0 hz1 hz2 rfl (by decide) (.slice (some ⟨u0.heap.size, 0, none⟩) 0 0) 0 [] rfl HE.out M.length (cellsL 4 M.length (metF M p q r)) HSA.out (by unfold maxLen; omega) (by omega) (Nat.zero_le _) ?_
          intro va u3 ho hg hf
          have hun : Upd (fun k => (Value.slice (some ⟨u0.heap.size, 0, none⟩) 0 0).ownBlock = some k) u2 u3 := Upd.grown hg (fun k h => .inl h)
          have HX3 : Hid (u3.heap[w2.heap.size]? = some (.cells #[.string s, .slice fb F.length fd, .slice ib P.length id, .slice mb M.length md, .slice xb X.length xd] 27 (0, 0))) := Lib.hid ((hun.block _ hlt2 (fun h => by simp [Value.ownBlock] at h; omega)).trans HX2.out)
          refine HK0.out _ _ (HSS.out _ HX3.out) ?_
          try simp only [Act.put, List.getElem_toArray, List.getElem_cons_succ, List.getElem_cons_zero, List.setIfInBounds_toArray, List.set_cons_zero, List.set_cons_succ]
          clear HK0 HSA
          have hlt3 : w2.heap.size < u3.heap.size := blk_lt HX3.out
          have hst3 : u2.heap.size ≤ u3.heap.size := hun.size
          have HV3 := Lib.hid (HV2.out.trans hun (fun j h hl => by simp [Value.ownBlock] at h; omega))
          replace HCC := Lib.hid (HCC.out.upd hun (fun j hj h => by simp [Value.ownBlock] at hj h; omega))
          rw [Nat.zero_add, List.nil_append] at ho
          skip
          obtain ⟨vb, vcap, rfl, -, -, hvb2⟩ := row_head ho lM0
          have hvb1 : vb = u0.heap.size ∨ u2.heap.size ≤ vb := by
            rcases hf vb rfl with h | h
            · simp [Value.ownBlock] at h; omega
            · exact .inr h
          have HA := Lib.hid ho
          clear ho hg hf hun HE
          refine wpHL_1 (i := 7) rfl (by kernel_rfl) (by decide) (fun K HK0 => ?_)
          refine step_make_full rfl (.tmp 69) (.tmp 69) 23 rfl 3 j0 (.int .i64 0) 1 Tryd.underlying23 hj hy0 hy1 z rfl rfl (by rw [hy2]; omega) (by unfold maxLen; omega) ?_
          intro u4 ho hg
          have hun : Upd (fun _ => False) u3 u4 := Upd.grown hg (fun k hk => by cases hk)
          have HX4 : Hid (u4.heap[w2.heap.size]? = some (.cells #[.string s, .slice fb F.length fd, .slice ib P.length id, .slice mb M.length md, .slice xb X.length xd] 27 (0, 0))) := Lib.hid ((hun.block _ hlt3 (fun h => h)).trans HX3.out)
          refine HK0.out _ _ (HSS.out _ HX4.out) ?_
          try simp only [Act.put, List.getElem_toArray, List.getElem_cons_succ, List.getElem_cons_zero, List.setIfInBounds_toArray, List.set_cons_zero, List.set_cons_succ]
          clear HK0
          have hlt4 : w2.heap.size < u4.heap.size := blk_lt HX4.out
          have hst4 : u3.heap.size < u4.heap.size := (ho.lt _ rfl).2
          have HV4 := Lib.hid (HV3.out.trans hun (fun _ h _ => h))
          replace HA := Lib.hid (ownsRow_upd HA.out hun (fun _ _ h => h))
          replace HCC := Lib.hid (HCC.out.upd hun (fun _ _ h => h))
          have HKK : Hid (WRow u4 (.slice (some ⟨u3.heap.size, 0, none⟩) z z) (List.replicate z 0)) := Lib.hid ⟨by rw [List.length_replicate, ← made_iv]; simpa using ho, fun n hn => by rw [List.eq_of_mem_replicate hn]; unfold wi64; omega⟩
          clear ho hg hun
          have hHeld := HSS.out _ HX4.out
          refine wpHL_take (i := 10) (v := .agg #[.slice (some ⟨u3.heap.size, 0, none⟩) z z, .int .i64 0, .slice none 0 0, .slice (some ⟨u1.heap.size, 0, none⟩) 1 1]) rfl (by kernel_rfl) (fun _ _ _ h => h) hHeld (Or.inl ⟨by rfl, ?_⟩) ?_
          · (intro w hSw; kernel_rfl)
          simp only [Act.put, List.getElem_toArray, List.getElem_cons_succ, List.getElem_cons_zero, List.setIfInBounds_toArray, List.set_cons_zero, List.set_cons_succ]
          clear hHeld
          refine wpHL_1 (i := 11) rfl (by kernel_rfl) (by decide) (fun K HK0 => ?_)
          go_simp
          have HXn : Hid ((u4.alloc (.cells #[.slice (some ⟨u3.heap.size, 0, none⟩) z z, .int .i64 0, .slice none 0 0, .slice (some ⟨u1.heap.size, 0, none⟩) 1 1] 49)).heap[w2.heap.size]? = some (.cells #[.string s, .slice fb F.length fd, .slice ib P.length id, .slice mb M.length md, .slice xb X.length xd] 27 (0, 0))) := Lib.hid ((Below.heap_alloc _ _ _ hlt4).trans HX4.out)
          refine HK0.out _ _ (HSS.out _ HXn.out) ?_
          try simp only [Act.put, List.getElem_toArray, List.getElem_cons_succ, List.getElem_cons_zero, List.setIfInBounds_toArray, List.set_cons_zero, List.set_cons_succ]
          clear HK0
          have hun : Upd (fun _ => False) u4 (u4.alloc (.cells #[.slice (some ⟨u3.heap.size, 0, none⟩) z z, .int .i64 0, .slice none 0 0, .slice (some ⟨u1.heap.size, 0, none⟩) 1 1] 49)) := Upd.alloc _ _ _
          have hbn : (u4.alloc (.cells #[.slice (some ⟨u3.heap.size, 0, none⟩) z z, .int .i64 0, .slice none 0 0, .slice (some ⟨u1.heap.size, 0, none⟩) 1 1] 49)).heap[u4.heap.size]? = some (.cells #[.slice (some ⟨u3.heap.size, 0, none⟩) z z, .int .i64 0, .slice none 0 0, .slice (some ⟨u1.heap.size, 0, none⟩) 1 1] 49 (0, 0)) := blk_top' _ _ _ rfl
          have hent := srcAt u4 49 #[.slice (some ⟨u3.heap.size, 0, none⟩) z z, .int .i64 0, .slice none 0 0, .slice (some ⟨u1.heap.size, 0, none⟩) 1 1] [.slice (some ⟨u3.heap.size, 0, none⟩) z z, .int .i64 0, .slice none 0 0, .slice (some ⟨u1.heap.size, 0, none⟩) 1 1] rfl 4 (by simp [Value.oneCell']) 1 1 _ rfl rfl
          generalize u4.alloc (.cells #[.slice (some ⟨u3.heap.size, 0, none⟩) z z, .int .i64 0, .slice none 0 0, .slice (some ⟨u1.heap.size, 0, none⟩) 1 1] 49) = u5 at HXn hun hbn hent ⊢
          have HX5 := HXn
          have hlt5 : w2.heap.size < u5.heap.size := blk_lt HX5.out
          have hst5 : u4.heap.size < u5.heap.size := blk_lt hbn
          have HV5 := Lib.hid (HV4.out.trans hun (fun _ h _ => h))
          replace HA := Lib.hid (ownsRow_upd HA.out hun (fun _ _ h => h))
          replace HKK := Lib.hid (HKK.out.upd hun (fun _ _ h => h))
          replace HCC := Lib.hid (HCC.out.upd hun (fun _ _ h => h))
          have HTT := Lib.hid hent
          clear hent
          clear HXn hun hbn
          refine wpHL_1 (i := 12) rfl (by kernel_rfl) (by decide) (fun K HK0 => ?_)
          refine step_append_mine rfl (.tmp 66) (.tmp 74) 25 rfl 0 49 i0 (.agg #[.slice none 0 0, .int .i64 0, .slice none 0 0, .slice none 0 0]) 4 80 Tryd.underlying25 hi hz0 hz1 hz2 rfl (by decide) (.slice (some ⟨vb, 0, none⟩) M.length vcap) M.length (cellsL 4 M.length (metF M p q r)) rfl HA.out 1 [.slice (some ⟨u3.heap.size, 0, none⟩) z z, .int .i64 0, .slice none 0 0, .slice (some ⟨u1.heap.size, 0, none⟩) 1 1] HTT.out (by unfold maxLen; omega) (by omega) (Nat.zero_le _) ?_
          intro v6 u6 ho hg hf
          have hun : Upd (fun k => (Value.slice (some ⟨vb, 0, none⟩) M.length vcap).ownBlock = some k) u5 u6 := Upd.grown hg (fun k h => .inl h)
          have HX6 : Hid (u6.heap[w2.heap.size]? = some (.cells #[.string s, .slice fb F.length fd, .slice ib P.length id, .slice mb M.length md, .slice xb X.length xd] 27 (0, 0))) := Lib.hid ((hun.block _ hlt5 (fun h => by simp [Value.ownBlock] at h; omega)).trans HX5.out)
          refine HK0.out _ _ (HSS.out _ HX6.out) ?_
          try simp only [Act.put, List.getElem_toArray, List.getElem_cons_succ, List.getElem_cons_zero, List.setIfInBounds_toArray, List.set_cons_zero, List.set_cons_succ]
          clear HK0
          have HV6 := Lib.hid (HV5.out.trans hun (fun j h hl => by simp [Value.ownBlock] at h; omega))
          replace HKK := Lib.hid (HKK.out.upd hun (fun j hj h => by simp [Value.ownBlock] at hj h; omega))
          replace HCC := Lib.hid (HCC.out.upd hun (fun j hj h => by simp [Value.ownBlock] at hj h; omega))
          obtain ⟨v6b, v6cap, rfl, -, -, hv62⟩ := row_head ho (by omega)
          have hv61 : w2.heap.size < v6b := by
            rcases hf v6b rfl with h | h
            · simp [Value.ownBlock] at h; omega
            · omega
          have HO6 := Lib.hid ho
          clear ho hg hf hun HA HTT
          have hHeld := HSS.out _ HX6.out
          refine wpHL_take (i := 13) (v := ?_) rfl (by kernel_rfl) (fun _ _ _ h => h) hHeld (Or.inl ⟨by rfl, ?_⟩) ?_
          rotate_left
          · (intro w hSw; (try dsimp only at hSw); go_simp; try with_reducible rfl)
          simp only [Act.put, List.getElem_toArray, List.getElem_cons_succ, List.getElem_cons_zero, List.setIfInBounds_toArray, List.set_cons_zero, List.set_cons_succ]
          clear hHeld
          refine wpHL_last (by kernel_rfl) ?_
          have cc3 := cells_at HX6.out 3 _ rfl
          have ff3 := cells_fr HX6.out 3
          obtain ⟨g1, g2, g3, g4⟩ := img_set3 HF.out HP.out HX.out HS.out HRm.out HWm.out HX6.out HV6.out HU2.out HR2.out HO6.out hv61 HKK.out (fun k hk => by simp [Value.ownBlock] at hk; omega) HCC.out (fun k hk => by simp [Value.ownBlock] at hk; omega)
          obtain ⟨cX0, cX1, cX2, cX3, cX4, r0, r1, r2, r3, r4, s0, s1, s2, s3, s4, hfin⟩ := bent4_end g1 g2 g3 g4
          clear g1 g2 g3 g4 HO6 HKK HCC HSm HRm HWm HSS
          have HFIN := Lib.hid hfin
          clear hfin hRX HF HP HM HX HS HU2 HR2 HT7 HT5 HT6 HA6
          go_wp2_with fail
          all_goals
            refine bodyPost_ret (v := .agg #[.string s, .slice fb F.length fd, .slice ib P.length id, .slice (some ⟨v6b, 0, none⟩) (M.length + 1) v6cap, .slice xb X.length xd]) (by simp [results, Tryd.f5, go_sem, r0, r1, r2, r3, r4]) rfl ?_
            obtain ⟨hfin, hup⟩ := HFIN.out _ (((((setAt _ _ _ _).trans (setAt _ _ _ _) (fun _ h _ => h)).trans (setAt _ _ _ _) (fun _ h _ => h)).trans (setAt _ _ _ _) (fun _ h _ => h)).trans (setAt _ _ _ _) (fun _ h _ => h))
            first | exact ⟨_, _, rfl, hfin, hup⟩ | exact ⟨_, rfl, _, hfin, hup⟩
        · skip
          refine step_make_full rfl (.tmp 69) (.tmp 69) 23 rfl 3 j0 (.int .i64 0) 1 Tryd.underlying23 hj hy0 hy1 z rfl rfl (by rw [hy2]; omega) (by unfold maxLen; omega) ?_
          intro u3 ho hg
          have hun : Upd (fun _ => False) u2 u3 := Upd.grown hg (fun k hk => by cases hk)
          have HX3 : Hid (u3.heap[w2.heap.size]? = some (.cells #[.string s, .slice fb F.length fd, .slice ib P.length id, .slice mb M.length md, .slice xb X.length xd] 27 (0, 0))) := Lib.hid ((hun.block _ hlt2 (fun h => h)).trans HX2.out)
          refine HK0.out _ _ (HSS.out _ HX3.out) ?_
          try simp only [Act.put, List.getElem_toArray, List.getElem_cons_succ, List.getElem_cons_zero, List.setIfInBounds_toArray, List.set_cons_zero, List.set_cons_succ]
          clear HK0
          have hlt3 : w2.heap.size < u3.heap.size := blk_lt HX3.out
          have hst3 : u2.heap.size < u3.heap.size := (ho.lt _ rfl).2
          have HV3 := Lib.hid (HV2.out.trans hun (fun _ h _ => h))
          replace HE := Lib.hid (ownsRow_upd HE.out hun (fun _ _ h => h))
          replace HCC := Lib.hid (HCC.out.upd hun (fun _ _ h => h))
          have HKK : Hid (WRow u3 (.slice (some ⟨u2.heap.size, 0, none⟩) z z) (List.replicate z 0)) := Lib.hid ⟨by rw [List.length_replicate, ← made_iv]; simpa using ho, fun n hn => by rw [List.eq_of_mem_replicate hn]; unfold wi64; omega⟩
          clear ho hg hun
          have hHeld := HSS.out _ HX3.out
          refine wpHL_take (i := 10) (v := .agg #[.slice (some ⟨u2.heap.size, 0, none⟩) z z, .int .i64 0, .slice none 0 0, .slice (some ⟨u1.heap.size, 0, none⟩) 1 1]) rfl (by kernel_rfl) (fun _ _ _ h => h) hHeld (Or.inl ⟨by rfl, ?_⟩) ?_
          · (intro w hSw; kernel_rfl)
          simp only [Act.put, List.getElem_toArray, List.getElem_cons_succ, List.getElem_cons_zero, List.setIfInBounds_toArray, List.set_cons_zero, List.set_cons_succ]
          clear hHeld
          refine wpHL_2 (i := 3) (j := 11) rfl rfl (by kernel_rfl) (by decide) (by decide) (fun K HK0 => ?_) (fun K HK0 => ?_)
          · skip
            have HSA : Hid (Src u3 4 (.slice mb M.length md) M.length (cellsL 4 M.length (metF M p q r))) := Lib.hid ((Mets.src HSm.out HRm.out lM0).upd HV3.out (fun _ _ h => h))
            refine step_append_mine rfl (.tmp 63) (.tmp 65) 25 rfl 0 49 i0 (.agg #[.slice none 0 0, .int .i64 0, .slice none 0 0, .slice none 0 0]) 4 80 Tryd.underlying25 hi hz0 hz1 hz2 rfl (by decide) (.slice (some ⟨u0.heap.size, 0, none⟩) 0 0) 0 [] rfl HE.out M.length (cellsL 4 M.length (metF M p q r)) HSA.out (by unfold maxLen; omega) (by omega) (Nat.zero_le _) ?_
            intro va u4 ho hg hf
            have hun : Upd (fun k => (Value.slice (some ⟨u0.heap.size, 0, none⟩) 0 0).ownBlock = some k) u3 u4 := Upd.grown hg (fun k h => .inl h)
            have HX4 : Hid (u4.heap[w2.heap.size]? = some (.cells #[.string s, .slice fb F.length fd, .slice ib P.length id, .slice mb M.length md, .slice xb X.length xd] 27 (0, 0))) := Lib.hid ((hun.block _ hlt3 (fun h => by simp [Value.ownBlock] at h; omega)).trans HX3.out)
            refine HK0.out _ _ (HSS.out _ HX4.out) ?_
            try simp only [Act.put, List.getElem_toArray, List.getElem_cons_succ, List.getElem_cons_zero, List.setIfInBounds_toArray, List.set_cons_zero, List.set_cons_succ]
            clear HK0 HSA
            have hlt4 : w2.heap.size < u4.heap.size := blk_lt HX4.out
            have hst4 : u3.heap.size ≤ u4.heap.size := hun.size
            have HV4 := Lib.hid (HV3.out.trans hun (fun j h hl => by simp [Value.ownBlock] at h; omega))
            replace HKK := Lib.hid (HKK.out.upd hun (fun j hj h => by simp [Value.ownBlock] at hj h; omega))
            replace HCC := Lib.hid (HCC.out.upd hun (fun j hj h => by simp [Value.ownBlock] at hj h; omega))
            rw [Nat.zero_add, List.nil_append] at ho
            skip
            obtain ⟨vb, vcap, rfl, -, -, hvb2⟩ := row_head ho lM0
            have hvb1 : vb = u0.heap.size ∨ u3.heap.size ≤ vb := by
              rcases hf vb rfl with h | h
              · simp [Value.ownBlock] at h; omega
              · exact .inr h
            have HA := Lib.hid ho
            clear ho hg hf hun HE
            refine wpHL_1 (i := 11) rfl (by kernel_rfl) (by decide) (fun K HK0 => ?_)
            go_simp
            have HXn : Hid ((u4.alloc (.cells #[.slice (some ⟨u2.heap.size, 0, none⟩) z z, .int .i64 0, .slice none 0 0, .slice (some ⟨u1.heap.size, 0, none⟩) 1 1] 49)).heap[w2.heap.size]? = some (.cells #[.string s, .slice fb F.length fd, .slice ib P.length id, .slice mb M.length md, .slice xb X.length xd] 27 (0, 0))) := Lib.hid ((Below.heap_alloc _ _ _ hlt4).trans HX4.out)
            refine HK0.out _ _ (HSS.out _ HXn.out) ?_
            try simp only [Act.put, List.getElem_toArray, List.getElem_cons_succ, List.getElem_cons_zero, List.setIfInBounds_toArray, List.set_cons_zero, List.set_cons_succ]
            clear HK0
            have hun : Upd (fun _ => False) u4 (u4.alloc (.cells #[.slice (some ⟨u2.heap.size, 0, none⟩) z z, .int .i64 0, .slice none 0 0, .slice (some ⟨u1.heap.size, 0, none⟩) 1 1] 49)) := Upd.alloc _ _ _
            have hbn : (u4.alloc (.cells #[.slice (some ⟨u2.heap.size, 0, none⟩) z z, .int .i64 0, .slice none 0 0, .slice (some ⟨u1.heap.size, 0, none⟩) 1 1] 49)).heap[u4.heap.size]? = some (.cells #[.slice (some ⟨u2.heap.size, 0, none⟩) z z, .int .i64 0, .slice none 0 0, .slice (some ⟨u1.heap.size, 0, none⟩) 1 1] 49 (0, 0)) := blk_top' _ _ _ rfl
            have hent := srcAt u4 49 #[.slice (some ⟨u2.heap.size, 0, none⟩) z z, .int .i64 0, .slice none 0 0, .slice (some ⟨u1.heap.size, 0, none⟩) 1 1] [.slice (some ⟨u2.heap.size, 0, none⟩) z z, .int .i64 0, .slice none 0 0, .slice (some ⟨u1.heap.size, 0, none⟩) 1 1] rfl 4 (by simp [Value.oneCell']) 1 1 _ rfl rfl
            generalize u4.alloc (.cells #[.slice (some ⟨u2.heap.size, 0, none⟩) z z, .int .i64 0, .slice none 0 0, .slice (some ⟨u1.heap.size, 0, none⟩) 1 1] 49) = u5 at HXn hun hbn hent ⊢
            have HX5 := HXn
            have hlt5 : w2.heap.size < u5.heap.size := blk_lt HX5.out
            have hst5 : u4.heap.size < u5.heap.size := blk_lt hbn
            have HV5 := Lib.hid (HV4.out.trans hun (fun _ h _ => h))
            replace HA := Lib.hid (ownsRow_upd HA.out hun (fun _ _ h => h))
            replace HKK := Lib.hid (HKK.out.upd hun (fun _ _ h => h))
            replace HCC := Lib.hid (HCC.out.upd hun (fun _ _ h => h))
            have HTT := Lib.hid hent
            clear hent
            clear HXn hun hbn
            refine wpHL_1 (i := 12) rfl (by kernel_rfl) (by decide) (fun K HK0 => ?_)
            refine step_append_mine rfl (.tmp 66) (.tmp 74) 25 rfl 0 49 i0 (.agg #[.slice none 0 0, .int .i64 0, .slice none 0 0, .slice none 0 0]) 4 80 Tryd.underlying25 hi hz0 hz1 hz2 rfl (by decide) (.slice (some ⟨vb, 0, none⟩) M.length vcap) M.length (cellsL 4 M.length (metF M p q r)) rfl HA.out 1 [.slice (some ⟨u2.heap.size, 0, none⟩) z z, .int .i64 0, .slice none 0 0, .slice (some ⟨u1.heap.size, 0, none⟩) 1 1] HTT.out (by unfold maxLen; omega) (by omega) (Nat.zero_le _) ?_
            intro v6 u6 ho hg hf
            have hun : Upd (fun k => (Value.slice (some ⟨vb, 0, none⟩) M.length vcap).ownBlock = some k) u5 u6 := Upd.grown hg (fun k h => .inl h)
            have HX6 : Hid (u6.heap[w2.heap.size]? = some (.cells #[.string s, .slice fb F.length fd, .slice ib P.length id, .slice mb M.length md, .slice xb X.length xd] 27 (0, 0))) := Lib.hid ((hun.block _ hlt5 (fun h => by simp [Value.ownBlock] at h; omega)).trans HX5.out)
            refine HK0.out _ _ (HSS.out _ HX6.out) ?_
            try simp only [Act.put, List.getElem_toArray, List.getElem_cons_succ, List.getElem_cons_zero, List.setIfInBounds_toArray, List.set_cons_zero, List.set_cons_succ]
            clear HK0
            have HV6 := Lib.hid (HV5.out.trans hun (fun j h hl => by simp [Value.ownBlock] at h; omega))
            replace HKK := Lib.hid (HKK.out.upd hun (fun j hj h => by simp [Value.ownBlock] at hj h; omega))
            replace HCC := Lib.hid (HCC.out.upd hun (fun j hj h => by simp [Value.ownBlock] at hj h; omega))
            obtain ⟨v6b, v6cap, rfl, -, -, hv62⟩ := row_head ho (by omega)
            have hv61 : w2.heap.size < v6b := by
              rcases hf v6b rfl with h | h
              · simp [Value.ownBlock] at h; omega
              · omega
            have HO6 := Lib.hid ho
            clear ho hg hf hun HA HTT
            have hHeld := HSS.out _ HX6.out
            refine wpHL_take (i := 13) (v := ?_) rfl (by kernel_rfl) (fun _ _ _ h => h) hHeld (Or.inl ⟨by rfl, ?_⟩) ?_
            rotate_left
            · (intro w hSw; (try dsimp only at hSw); go_simp; try with_reducible rfl)
            simp only [Act.put, List.getElem_toArray, List.getElem_cons_succ, List.getElem_cons_zero, List.setIfInBounds_toArray, List.set_cons_zero, List.set_cons_succ]
            clear hHeld
            refine wpHL_last (by kernel_rfl) ?_
            have cc3 := cells_at HX6.out 3 _ rfl
            have ff3 := cells_fr HX6.out 3
            obtain ⟨g1, g2, g3, g4⟩ := img_set3 HF.out HP.out HX.out HS.out HRm.out HWm.out HX6.out HV6.out HU2.out HR2.out HO6.out hv61 HKK.out (fun k hk => by simp [Value.ownBlock] at hk; omega) HCC.out (fun k hk => by simp [Value.ownBlock] at hk; omega)
            obtain ⟨cX0, cX1, cX2, cX3, cX4, r0, r1, r2, r3, r4, s0, s1, s2, s3, s4, hfin⟩ := bent4_end g1 g2 g3 g4
            clear g1 g2 g3 g4 HO6 HKK HCC HSm HRm HWm HSS
            have HFIN := Lib.hid hfin
            clear hfin hRX HF HP HM HX HS HU2 HR2 HT7 HT5 HT6 HA6
            go_wp2_with fail
            all_goals
              refine bodyPost_ret (v := .agg #[.string s, .slice fb F.length fd, .slice ib P.length id, .slice (some ⟨v6b, 0, none⟩) (M.length + 1) v6cap, .slice xb X.length xd]) (by simp [results, Tryd.f5, go_sem, r0, r1, r2, r3, r4]) rfl ?_
              obtain ⟨hfin, hup⟩ := HFIN.out _ (((((setAt _ _ _ _).trans (setAt _ _ _ _) (fun _ h _ => h)).trans (setAt _ _ _ _) (fun _ h _ => h)).trans (setAt _ _ _ _) (fun _ h _ => h)).trans (setAt _ _ _ _) (fun _ h _ => h))
              first | exact ⟨_, _, rfl, hfin, hup⟩ | exact ⟨_, rfl, _, hfin, hup⟩
          · skip
            go_simp
            have HXn : Hid ((u3.alloc (.cells #[.slice (some ⟨u2.heap.size, 0, none⟩) z z, .int .i64 0, .slice none 0 0, .slice (some ⟨u1.heap.size, 0, none⟩) 1 1] 49)).heap[w2.heap.size]? = some (.cells #[.string s, .slice fb F.length fd, .slice ib P.length id, .slice mb M.length md, .slice xb X.length xd] 27 (0, 0))) := Lib.hid ((Below.heap_alloc _ _ _ hlt3).trans HX3.out)
            refine HK0.out _ _ (HSS.out _ HXn.out) ?_
            try simp only [Act.put, List.getElem_toArray, List.getElem_cons_succ, List.getElem_cons_zero, List.setIfInBounds_toArray, List.set_cons_zero, List.set_cons_succ]
            clear HK0
            have hun : Upd (fun _ => False) u3 (u3.alloc (.cells #[.slice (some ⟨u2.heap.size, 0, none⟩) z z, .int .i64 0, .slice none 0 0, .slice (some ⟨u1.heap.size, 0, none⟩) 1 1] 49)) := Upd.alloc _ _ _
            have hbn : (u3.alloc (.cells #[.slice (some ⟨u2.heap.size, 0, none⟩) z z, .int .i64 0, .slice none 0 0, .slice (some ⟨u1.heap.size, 0, none⟩) 1 1] 49)).heap[u3.heap.size]? = some (.cells #[.slice (some ⟨u2.heap.size, 0, none⟩) z z, .int .i64 0, .slice none 0 0, .slice (some ⟨u1.heap.size, 0, none⟩) 1 1] 49 (0, 0)) := blk_top' _ _ _ rfl
            have hent := srcAt u3 49 #[.slice (some ⟨u2.heap.size, 0, none⟩) z z, .int .i64 0, .slice none 0 0, .slice (some ⟨u1.heap.size, 0, none⟩) 1 1] [.slice (some ⟨u2.heap.size, 0, none⟩) z z, .int .i64 0, .slice none 0 0, .slice (some ⟨u1.heap.size, 0, none⟩) 1 1] rfl 4 (by simp [Value.oneCell']) 1 1 _ rfl rfl
            generalize u3.alloc (.cells #[.slice (some ⟨u2.heap.size, 0, none⟩) z z, .int .i64 0, .slice none 0 0, .slice (some ⟨u1.heap.size, 0, none⟩) 1 1] 49) = u4 at HXn hun hbn hent ⊢
            have HX4 := HXn
            have hlt4 : w2.heap.size < u4.heap.size := blk_lt HX4.out
            have hst4 : u3.heap.size < u4.heap.size := blk_lt hbn
            have HV4 := Lib.hid (HV3.out.trans hun (fun _ h _ => h))
            replace HE := Lib.hid (ownsRow_upd HE.out hun (fun _ _ h => h))
            replace HKK := Lib.hid (HKK.out.upd hun (fun _ _ h => h))
            replace HCC := Lib.hid (HCC.out.upd hun (fun _ _ h => h))
            have HTT := Lib.hid hent
            clear hent
            clear HXn hun hbn
            refine wpHL_1 (i := 3) rfl (by kernel_rfl) (by decide) (fun K HK0 => ?_)
            have HSA : Hid (Src u4 4 (.slice mb M.length md) M.length (cellsL 4 M.length (metF M p q r))) := Lib.hid ((Mets.src HSm.out HRm.out lM0).upd HV4.out (fun _ _ h => h))
            refine step_append_mine rfl (.tmp 63) (.tmp 65) 25 rfl 0 49 i0 (.agg #[.slice none 0 0, .int .i64 0, .slice none 0 0, .slice none 0 0]) 4 80 Tryd.underlying25 hi hz0 hz1 hz2 rfl (by decide) (.slice (some ⟨u0.heap.size, 0, none⟩) 0 0) 0 [] rfl HE.out M.length (cellsL 4 M.length (metF M p q r)) HSA.out (by unfold maxLen; omega) (by omega) (Nat.zero_le _) ?_
            intro va u5 ho hg hf
            have hun : Upd (fun k => (Value.slice (some ⟨u0.heap.size, 0, none⟩) 0 0).ownBlock = some k) u4 u5 := Upd.grown hg (fun k h => .inl h)
            have HX5 : Hid (u5.heap[w2.heap.size]? = some (.cells #[.string s, .slice fb F.length fd, .slice ib P.length id, .slice mb M.length md, .slice xb X.length xd] 27 (0, 0))) := Lib.hid ((hun.block _ hlt4 (fun h => by simp [Value.ownBlock] at h; omega)).trans HX4.out)
            refine HK0.out _ _ (HSS.out _ HX5.out) ?_
            try simp only [Act.put, List.getElem_toArray, List.getElem_cons_succ, List.getElem_cons_zero, List.setIfInBounds_toArray, List.set_cons_zero, List.set_cons_succ]
            clear HK0 HSA
            have hlt5 : w2.heap.size < u5.heap.size := blk_lt HX5.out
            have hst5 : u4.heap.size ≤ u5.heap.size := hun.size
            have HV5 := Lib.hid (HV4.out.trans hun (fun j h hl => by simp [Value.ownBlock] at h; omega))
            replace HKK := Lib.hid (HKK.out.upd hun (fun j hj h => by simp [Value.ownBlock] at hj h; omega))
            replace HCC := Lib.hid (HCC.out.upd hun (fun j hj h => by simp [Value.ownBlock] at hj h; omega))
            replace HTT := Lib.hid (HTT.out.upd hun (fun j hj h => by simp [Value.ownBlock] at hj h; omega))
            rw [Nat.zero_add, List.nil_append] at ho
            skip
            obtain ⟨vb, vcap, rfl, -, -, hvb2⟩ := row_head ho lM0
            have hvb1 : vb = u0.heap.size ∨ u4.heap.size ≤ vb := by
              rcases hf vb rfl with h | h
              · simp [Value.ownBlock] at h; omega
              · exact .inr h
            have HA := Lib.hid ho
            clear ho hg hf hun HE
            refine wpHL_1 (i := 12) rfl (by kernel_rfl) (by decide) (fun K HK0 => ?_)
            refine step_append_mine rfl (.tmp 66) (.tmp 74) 25 rfl 0 49 i0 (.agg #[.slice none 0 0, .int .i64 0, .slice none 0 0, .slice none 0 0]) 4 80 Tryd.underlying25 hi hz0 hz1 hz2 rfl (by decide) (.slice (some ⟨vb, 0, none⟩) M.length vcap) M.length (cellsL 4 M.length (metF M p q r)) rfl HA.out 1 [.slice (some ⟨u2.heap.size, 0, none⟩) z z, .int .i64 0, .slice none 0 0, .slice (some ⟨u1.heap.size, 0, none⟩) 1 1] HTT.out (by unfold maxLen; omega) (by omega) (Nat.zero_le _) ?_
            intro v6 u6 ho hg hf
            have hun : Upd (fun k => (Value.slice (some ⟨vb, 0, none⟩) M.length vcap).ownBlock = some k) u5 u6 := Upd.grown hg (fun k h => .inl h)
            have HX6 : Hid (u6.heap[w2.heap.size]? = some (.cells #[.string s, .slice fb F.length fd, .slice ib P.length id, .slice mb M.length md, .slice xb X.length xd] 27 (0, 0))) := Lib.hid ((hun.block _ hlt5 (fun h => by simp [Value.ownBlock] at h; omega)).trans HX5.out)
            refine HK0.out _ _ (HSS.out _ HX6.out) ?_
            try simp only [Act.put, List.getElem_toArray, List.getElem_cons_succ, List.getElem_cons_zero, List.setIfInBounds_toArray, List.set_cons_zero, List.set_cons_succ]
            clear HK0
            have HV6 := Lib.hid (HV5.out.trans hun (fun j h hl => by simp [Value.ownBlock] at h; omega))
            replace HKK := Lib.hid (HKK.out.upd hun (fun j hj h => by simp [Value.ownBlock] at hj h; omega))
            replace HCC := Lib.hid (HCC.out.upd hun (fun j hj h => by simp [Value.ownBlock] at hj h; omega))
            obtain ⟨v6b, v6cap, rfl, -, -, hv62⟩ := row_head ho (by omega)
            have hv61 : w2.heap.size < v6b := by
              rcases hf v6b rfl with h | h
              · simp [Value.ownBlock] at h; omega
              · omega
            have HO6 := Lib.hid ho
            clear ho hg hf hun HA HTT
            have hHeld := HSS.out _ HX6.out
            refine wpHL_take (i := 13) (v := ?_) rfl (by kernel_rfl) (fun _ _ _ h => h) hHeld (Or.inl ⟨by rfl, ?_⟩) ?_
            rotate_left
            · (intro w hSw; (try dsimp only at hSw); go_simp; try with_reducible rfl)
            simp only [Act.put, List.getElem_toArray, List.getElem_cons_succ, List.getElem_cons_zero, List.setIfInBounds_toArray, List.set_cons_zero, List.set_cons_succ]
            clear hHeld
            refine wpHL_last (by kernel_rfl) ?_
            have cc3 := cells_at HX6.out 3 _ rfl
            have ff3 := cells_fr HX6.out 3
            obtain ⟨g1, g2, g3, g4⟩ := img_set3 HF.out HP.out HX.out HS.out HRm.out HWm.out HX6.out HV6.out HU2.out HR2.out HO6.out hv61 HKK.out (fun k hk => by simp [Value.ownBlock] at hk; omega) HCC.out (fun k hk => by simp [Value.ownBlock] at hk; omega)
            obtain ⟨cX0, cX1, cX2, cX3, cX4, r0, r1, r2, r3, r4, s0, s1, s2, s3, s4, hfin⟩ := bent4_end g1 g2 g3 g4
            clear g1 g2 g3 g4 HO6 HKK HCC HSm HRm HWm HSS
            have HFIN := Lib.hid hfin
            clear hfin hRX HF HP HM HX HS HU2 HR2 HT7 HT5 HT6 HA6
            go_wp2_with fail
            all_goals
              refine bodyPost_ret (v := .agg #[.string s, .slice fb F.length fd, .slice ib P.length id, .slice (some ⟨v6b, 0, none⟩) (M.length + 1) v6cap, .slice xb X.length xd]) (by simp [results, Tryd.f5, go_sem, r0, r1, r2, r3, r4]) rfl ?_
              obtain ⟨hfin, hup⟩ := HFIN.out _ (((((setAt _ _ _ _).trans (setAt _ _ _ _) (fun _ h _ => h)).trans (setAt _ _ _ _) (fun _ h _ => h)).trans (setAt _ _ _ _) (fun _ h _ => h)).trans (setAt _ _ _ _) (fun _ h _ => h))
              first | exact ⟨_, _, rfl, hfin, hup⟩ | exact ⟨_, rfl, _, hfin, hup⟩
    · skip
      refine step_make_full rfl (.tmp 69) (.tmp 69) 23 rfl 3 j0 (.int .i64 0) 1 Tryd.underlying23 hj hy0 hy1 z rfl rfl (by rw [hy2]; omega) (by unfold maxLen; omega) ?_
      intro u1 ho hg
      have hun : Upd (fun _ => False) u0 u1 := Upd.grown hg (fun k hk => by cases hk)
      have HX1 : Hid (u1.heap[w2.heap.size]? = some (.cells #[.string s, .slice fb F.length fd, .slice ib P.length id, .slice mb M.length md, .slice xb X.length xd] 27 (0, 0))) := Lib.hid ((hun.block _ hlt0 (fun h => h)).trans HX0.out)
      refine HK0.out _ _ (HSS.out _ HX1.out) ?_
      try simp only [Act.put, List.getElem_toArray, List.getElem_cons_succ, List.getElem_cons_zero, List.setIfInBounds_toArray, List.set_cons_zero, List.set_cons_succ]
      clear HK0
      have hlt1 : w2.heap.size < u1.heap.size := blk_lt HX1.out
      have hst1 : u0.heap.size < u1.heap.size := (ho.lt _ rfl).2
      have HV1 := Lib.hid (HV0.out.trans hun (fun _ h _ => h))
      have HKK : Hid (WRow u1 (.slice (some ⟨u0.heap.size, 0, none⟩) z z) (List.replicate z 0)) := Lib.hid ⟨by rw [List.length_replicate, ← made_iv]; simpa using ho, fun n hn => by rw [List.eq_of_mem_replicate hn]; unfold wi64; omega⟩
      clear ho hg hun
      refine wpHL_2 (i := 0) (j := 9) rfl rfl (by kernel_rfl) (by decide) (by decide) (fun K HK0 => ?_) (fun K HK0 => ?_)
      · skip
        go_simp
        have HXn : Hid ((u1.alloc (.cells #[] 49)).heap[w2.heap.size]? = some (.cells #[.string s, .slice fb F.length fd, .slice ib P.length id, .slice mb M.length md, .slice xb X.length xd] 27 (0, 0))) := Lib.hid ((Below.heap_alloc _ _ _ hlt1).trans HX1.out)
        refine HK0.out _ _ (HSS.out _ HXn.out) ?_
        try simp only [Act.put, List.getElem_toArray, List.getElem_cons_succ, List.getElem_cons_zero, List.setIfInBounds_toArray, List.set_cons_zero, List.set_cons_succ]
        clear HK0
        have hun : Upd (fun _ => False) u1 (u1.alloc (.cells #[] 49)) := Upd.alloc _ _ _
        have hbn : (u1.alloc (.cells #[] 49)).heap[u1.heap.size]? = some (.cells #[] 49 (0, 0)) := blk_top' _ _ _ rfl
        have hent := bnEmpty u1 49 4 _ rfl
        generalize u1.alloc (.cells #[] 49) = u2 at HXn hun hbn hent ⊢
        have HX2 := HXn
        have hlt2 : w2.heap.size < u2.heap.size := blk_lt HX2.out
        have hst2 : u1.heap.size < u2.heap.size := blk_lt hbn
        have HV2 := Lib.hid (HV1.out.trans hun (fun _ h _ => h))
        replace HKK := Lib.hid (HKK.out.upd hun (fun _ _ h => h))
        have HE := Lib.hid hent
        clear hent
        clear HXn hun hbn
        refine wpHL_2 (i := 3) (j := 9) rfl rfl (by kernel_rfl) (by decide) (by decide) (fun K HK0 => ?_) (fun K HK0 => ?_)
        · skip
          have HSA : Hid (Src u2 4 (.slice mb M.length md) M.length (cellsL 4 M.length (metF M p q r))) := Lib.hid ((Mets.src HSm.out HRm.out lM0).upd HV2.out (fun _ _ h => h))
          refine step_append_mine rfl (.tmp 63) (.tmp 65) 25 rfl 0 49 i0 (.agg #[.slice none 0 0, .int .i64 0, .slice none 0 0, .slice none 0 0]) 4 80 Tryd.underlying25 hi hz0 hz1 hz2 rfl (by decide) (.slice (some ⟨u1.heap.size, 0, none⟩) 0 0) 0 [] rfl HE.out M.length (cellsL 4 M.length (metF M p q r)) HSA.out (by unfold maxLen; omega) (by omega) (Nat.zero_le _) ?_
          intro va u3 ho hg hf
          have hun : Upd (fun k => (Value.slice (some ⟨u1.heap.size, 0, none⟩) 0 0).ownBlock = some k) u2 u3 := Upd.grown hg (fun k h => .inl h)
          have HX3 : Hid (u3.heap[w2.heap.size]? = some (.cells #[.string s, .slice fb F.length fd, .slice ib P.length id, .slice mb M.length md, .slice xb X.length xd] 27 (0, 0))) := Lib.hid ((hun.block _ hlt2 (fun h => by simp [Value.ownBlock] at h; omega)).trans HX2.out)
          refine HK0.out _ _ (HSS.out _ HX3.out) ?_
          try simp only [Act.put, List.getElem_toArray, List.getElem_cons_succ, List.getElem_cons_zero, List.setIfInBounds_toArray, List.set_cons_zero, List.set_cons_succ]
          clear HK0 HSA
          have hlt3 : w2.heap.size < u3.heap.size := blk_lt HX3.out
          have hst3 : u2.heap.size ≤ u3.heap.size := hun.size
          have HV3 := Lib.hid (HV2.out.trans hun (fun j h hl => by simp [Value.ownBlock] at h; omega))
          replace HKK := Lib.hid (HKK.out.upd hun (fun j hj h => by simp [Value.ownBlock] at hj h; omega))
          rw [Nat.zero_add, List.nil_append] at ho
          skip
          obtain ⟨vb, vcap, rfl, -, -, hvb2⟩ := row_head ho lM0
          have hvb1 : vb = u1.heap.size ∨ u2.heap.size ≤ vb := by
            rcases hf vb rfl with h | h
            · simp [Value.ownBlock] at h; omega
            · exact .inr h
          have HA := Lib.hid ho
          clear ho hg hf hun HE
          refine wpHL_1 (i := 9) rfl (by kernel_rfl) (by decide) (fun K HK0 => ?_)
          go_simp
          have HXn : Hid ((u3.alloc (.cells #[.int .i64 39, .int .i64 0, .int .i64 0] 46)).heap[w2.heap.size]? = some (.cells #[.string s, .slice fb F.length fd, .slice ib P.length id, .slice mb M.length md, .slice xb X.length xd] 27 (0, 0))) := Lib.hid ((Below.heap_alloc _ _ _ hlt3).trans HX3.out)
          refine HK0.out _ _ (HSS.out _ HXn.out) ?_
          try simp only [Act.put, List.getElem_toArray, List.getElem_cons_succ, List.getElem_cons_zero, List.setIfInBounds_toArray, List.set_cons_zero, List.set_cons_succ]
          clear HK0
          have hun : Upd (fun _ => False) u3 (u3.alloc (.cells #[.int .i64 39, .int .i64 0, .int .i64 0] 46)) := Upd.alloc _ _ _
          have hbn : (u3.alloc (.cells #[.int .i64 39, .int .i64 0, .int .i64 0] 46)).heap[u3.heap.size]? = some (.cells #[.int .i64 39, .int .i64 0, .int .i64 0] 46 (0, 0)) := blk_top' _ _ _ rfl
          generalize u3.alloc (.cells #[.int .i64 39, .int .i64 0, .int .i64 0] 46) = u4 at HXn hun hbn  ⊢
          have HX4 := HXn
          have hlt4 : w2.heap.size < u4.heap.size := blk_lt HX4.out
          have hst4 : u3.heap.size < u4.heap.size := blk_lt hbn
          have HV4 := Lib.hid (HV3.out.trans hun (fun _ h _ => h))
          replace HA := Lib.hid (ownsRow_upd HA.out hun (fun _ _ h => h))
          replace HKK := Lib.hid (HKK.out.upd hun (fun _ _ h => h))
          have HCC : Hid (CRow u4 (.slice (some ⟨u3.heap.size, 0, none⟩) 1 1) [⟨39, 0, 0⟩]) := Lib.hid ⟨row_of_blk hbn rfl (by unfold maxLen; omega), fun x hx => by simp at hx; subst hx; exact ⟨by unfold wi64; decide, by unfold wi64; decide, by unfold wi64; decide⟩⟩
          clear HXn hun hbn
          have hHeld := HSS.out _ HX4.out
          refine wpHL_take (i := 10) (v := .agg #[.slice (some ⟨u0.heap.size, 0, none⟩) z z, .int .i64 0, .slice none 0 0, .slice (some ⟨u3.heap.size, 0, none⟩) 1 1]) rfl (by kernel_rfl) (fun _ _ _ h => h) hHeld (Or.inl ⟨by rfl, ?_⟩) ?_
          · (intro w hSw; kernel_rfl)
          simp only [Act.put, List.getElem_toArray, List.getElem_cons_succ, List.getElem_cons_zero, List.setIfInBounds_toArray, List.set_cons_zero, List.set_cons_succ]
          clear hHeld
          refine wpHL_1 (i := 11) rfl (by kernel_rfl) (by decide) (fun K HK0 => ?_)
          go_simp
          have HXn : Hid ((u4.alloc (.cells #[.slice (some ⟨u0.heap.size, 0, none⟩) z z, .int .i64 0, .slice none 0 0, .slice (some ⟨u3.heap.size, 0, none⟩) 1 1] 49)).heap[w2.heap.size]? = some (.cells #[.string s, .slice fb F.length fd, .slice ib P.length id, .slice mb M.length md, .slice xb X.length xd] 27 (0, 0))) := Lib.hid ((Below.heap_alloc _ _ _ hlt4).trans HX4.out)
          refine HK0.out _ _ (HSS.out _ HXn.out) ?_
          try simp only [Act.put, List.getElem_toArray, List.getElem_cons_succ, List.getElem_cons_zero, List.setIfInBounds_toArray, List.set_cons_zero, List.set_cons_succ]
          clear HK0
          have hun : Upd (fun _ => False) u4 (u4.alloc (.cells #[.slice (some ⟨u0.heap.size, 0, none⟩) z z, .int .i64 0, .slice none 0 0, .slice (some ⟨u3.heap.size, 0, none⟩) 1 1] 49)) := Upd.alloc _ _ _
          have hbn : (u4.alloc (.cells #[.slice (some ⟨u0.heap.size, 0, none⟩) z z, .int .i64 0, .slice none 0 0, .slice (some ⟨u3.heap.size, 0, none⟩) 1 1] 49)).heap[u4.heap.size]? = some (.cells #[.slice (some ⟨u0.heap.size, 0, none⟩) z z, .int .i64 0, .slice none 0 0, .slice (some ⟨u3.heap.size, 0, none⟩) 1 1] 49 (0, 0)) := blk_top' _ _ _ rfl
          have hent := srcAt u4 49 #[.slice (some ⟨u0.heap.size, 0, none⟩) z z, .int .i64 0, .slice none 0 0, .slice (some ⟨u3.heap.size, 0, none⟩) 1 1] [.slice (some ⟨u0.heap.size, 0, none⟩) z z, .int .i64 0, .slice none 0 0, .slice (some ⟨u3.heap.size, 0, none⟩) 1 1] rfl 4 (by simp [Value.oneCell']) 1 1 _ rfl rfl
          generalize u4.alloc (.cells #[.slice (some ⟨u0.heap.size, 0, none⟩) z z, .int .i64 0, .slice none 0 0, .slice (some ⟨u3.heap.size, 0, none⟩) 1 1] 49) = u5 at HXn hun hbn hent ⊢
          have HX5 := HXn
          have hlt5 : w2.heap.size < u5.heap.size := blk_lt HX5.out
          have hst5 : u4.heap.size < u5.heap.size := blk_lt hbn
          have HV5 := Lib.hid (HV4.out.trans hun (fun _ h _ => h))
          replace HA := Lib.hid (ownsRow_upd HA.out hun (fun _ _ h => h))
          replace HKK := Lib.hid (HKK.out.upd hun (fun _ _ h => h))
          replace HCC := Lib.hid (HCC.out.upd hun (fun _ _ h => h))
          have HTT := Lib.hid hent
          clear hent
          clear HXn hun hbn
          refine wpHL_1 (i := 12) rfl (by kernel_rfl) (by decide) (fun K HK0 => ?_)
          refine step_append_mine rfl (.tmp 66) (.tmp 74) 25 rfl 0 49 i0 (.agg #[.slice none 0 0, .int .i64 0, .slice none 0 0, .slice none 0 0]) 4 80 Tryd.underlying25 hi hz0 hz1 hz2 rfl (by decide) (.slice (some ⟨vb, 0, none⟩) M.length vcap) M.length (cellsL 4 M.length (metF M p q r)) rfl HA.out 1 [.slice (some ⟨u0.heap.size, 0, none⟩) z z, .int .i64 0, .slice none 0 0, .slice (some ⟨u3.heap.size, 0, none⟩) 1 1] HTT.out (by unfold maxLen; omega) (by omega) (Nat.zero_le _) ?_
          intro v6 u6 ho hg hf
          have hun : Upd (fun k => (Value.slice (some ⟨vb, 0, none⟩) M.length vcap).ownBlock = some k) u5 u6 := Upd.grown hg (fun k h => .inl h)
          have HX6 : Hid (u6.heap[w2.heap.size]? = some (.cells #[.string s, .slice fb F.length fd, .slice ib P.length id, .slice mb M.length md, .slice xb X.length xd] 27 (0, 0))) := Lib.hid ((hun.block _ hlt5 (fun h => by simp [Value.ownBlock] at h; omega)).trans HX5.out)
          refine HK0.out _ _ (HSS.out _ HX6.out) ?_
          try simp only [Act.put, List.getElem_toArray, List.getElem_cons_succ, List.getElem_cons_zero, List.setIfInBounds_toArray, List.set_cons_zero, List.set_cons_succ]
          clear HK0
          have HV6 := Lib.hid (HV5.out.trans hun (fun j h hl => by simp [Value.ownBlock] at h; omega))
          replace HKK := Lib.hid (HKK.out.upd hun (fun j hj h => by simp [Value.ownBlock] at hj h; omega))
          replace HCC := Lib.hid (HCC.out.upd hun (fun j hj h => by simp [Value.ownBlock] at hj h; omega))
          obtain ⟨v6b, v6cap, rfl, -, -, hv62⟩ := row_head ho (by omega)
          have hv61 : w2.heap.size < v6b := by
            rcases hf v6b rfl with h | h
            · simp [Value.ownBlock] at h; omega
            · omega
          have HO6 := Lib.hid ho
          clear ho hg hf hun HA HTT
          have hHeld := HSS.out _ HX6.out
          refine wpHL_take (i := 13) (v := ?_) rfl (by kernel_rfl) (fun _ _ _ h => h) hHeld (Or.inl ⟨by rfl, ?_⟩) ?_
          rotate_left
          · (intro w hSw; (try dsimp only at hSw); go_simp; try with_reducible rfl)
          simp only [Act.put, List.getElem_toArray, List.getElem_cons_succ, List.getElem_cons_zero, List.setIfInBounds_toArray, List.set_cons_zero, List.set_cons_succ]
          clear hHeld
          refine wpHL_last (by kernel_rfl) ?_
          have cc3 := cells_at HX6.out 3 _ rfl
          have ff3 := cells_fr HX6.out 3
          obtain ⟨g1, g2, g3, g4⟩ := img_set3 HF.out HP.out HX.out HS.out HRm.out HWm.out HX6.out HV6.out HU2.out HR2.out HO6.out hv61 HKK.out (fun k hk => by simp [Value.ownBlock] at hk; omega) HCC.out (fun k hk => by simp [Value.ownBlock] at hk; omega)
          obtain ⟨cX0, cX1, cX2, cX3, cX4, r0, r1, r2, r3, r4, s0, s1, s2, s3, s4, hfin⟩ := bent4_end g1 g2 g3 g4
          clear g1 g2 g3 g4 HO6 HKK HCC HSm HRm HWm HSS
          have HFIN := Lib.hid hfin
          clear hfin hRX HF HP HM HX HS HU2 HR2 HT7 HT5 HT6 HA6
          go_wp2_with fail
          all_goals
            refine bodyPost_ret (v := .agg #[.string s, .slice fb F.length fd, .slice ib P.length id, .slice (some ⟨v6b, 0, none⟩) (M.length + 1) v6cap, .slice xb X.length xd]) (by simp [results, Tryd.f5, go_sem, r0, r1, r2, r3, r4]) rfl ?_
            obtain ⟨hfin, hup⟩ := HFIN.out _ (((((setAt _ _ _ _).trans (setAt _ _ _ _) (fun _ h _ => h)).trans (setAt _ _ _ _) (fun _ h _ => h)).trans (setAt _ _ _ _) (fun _ h _ => h)).trans (setAt _ _ _ _) (fun _ h _ => h))
            first | exact ⟨_, _, rfl, hfin, hup⟩ | exact ⟨_, rfl, _, hfin, hup⟩
        · skip
          go_simp
          have HXn : Hid ((u2.alloc (.cells #[.int .i64 39, .int .i64 0, .int .i64 0] 46)).heap[w2.heap.size]? = some (.cells #[.string s, .slice fb F.length fd, .slice ib P.length id, .slice mb M.length md, .slice xb X.length xd] 27 (0, 0))) := Lib.hid ((Below.heap_alloc _ _ _ hlt2).trans HX2.out)
          refine HK0.out _ _ (HSS.out _ HXn.out) ?_
          try simp only [Act.put, List.getElem_toArray, List.getElem_cons_succ, List.getElem_cons_zero, List.setIfInBounds_toArray, List.set_cons_zero, List.set_cons_succ]
          clear HK0
          have hun : Upd (fun _ => False) u2 (u2.alloc (.cells #[.int .i64 39, .int .i64 0, .int .i64 0] 46)) := Upd.alloc _ _ _
          have hbn : (u2.alloc (.cells #[.int .i64 39, .int .i64 0, .int .i64 0] 46)).heap[u2.heap.size]? = some (.cells #[.int .i64 39, .int .i64 0, .int .i64 0] 46 (0, 0)) := blk_top' _ _ _ rfl
          generalize u2.alloc (.cells #[.int .i64 39, .int .i64 0, .int .i64 0] 46) = u3 at HXn hun hbn  ⊢
          have HX3 := HXn
          have hlt3 : w2.heap.size < u3.heap.size := blk_lt HX3.out
          have hst3 : u2.heap.size < u3.heap.size := blk_lt hbn
          have HV3 := Lib.hid (HV2.out.trans hun (fun _ h _ => h))
          replace HE := Lib.hid (ownsRow_upd HE.out hun (fun _ _ h => h))
          replace HKK := Lib.hid (HKK.out.upd hun (fun _ _ h => h))
          have HCC : Hid (CRow u3 (.slice (some ⟨u2.heap.size, 0, none⟩) 1 1) [⟨39, 0, 0⟩]) := Lib.hid ⟨row_of_blk hbn rfl (by unfold maxLen; omega), fun x hx => by simp at hx; subst hx; exact ⟨by unfold wi64; decide, by unfold wi64; decide, by unfold wi64; decide⟩⟩
          clear HXn hun hbn
          have hHeld := HSS.out _ HX3.out
          refine wpHL_take (i := 10) (v := .agg #[.slice (some ⟨u0.heap.size, 0, none⟩) z z, .int .i64 0, .slice none 0 0, .slice (some ⟨u2.heap.size, 0, none⟩) 1 1]) rfl (by kernel_rfl) (fun _ _ _ h => h) hHeld (Or.inl ⟨by rfl, ?_⟩) ?_
          · (intro w hSw; kernel_rfl)
          simp only [Act.put, List.getElem_toArray, List.getElem_cons_succ, List.getElem_cons_zero, List.setIfInBounds_toArray, List.set_cons_zero, List.set_cons_succ]
          clear hHeld
          refine wpHL_2 (i := 3) (j := 11) rfl rfl (by kernel_rfl) (by decide) (by decide) (fun K HK0 => ?_) (fun K HK0 => ?_)
          · skip
            have HSA : Hid (Src u3 4 (.slice mb M.length md) M.length (cellsL 4 M.length (metF M p q r))) := Lib.hid ((Mets.src HSm.out HRm.out lM0).upd HV3.out (fun _ _ h => h))
            refine step_append_mine rfl (.tmp 63) (.tmp 65) 25 rfl 0 49 i0 (.agg #[.slice none 0 0, .int .i64 0, .slice none 0 0, .slice none 0 0]) 4 80 Tryd.underlying25 hi hz0 hz1 hz2 rfl (by decide) (.slice (some ⟨u1.heap.size, 0, none⟩) 0 0) 0 [] rfl HE.out M.length (cellsL 4 M.length (metF M p q r)) HSA.out (by unfold maxLen; omega) (by omega) (Nat.zero_le _) ?_
            intro va u4 ho hg hf
            have hun : Upd (fun k => (Value.slice (some ⟨u1.heap.size, 0, none⟩) 0 0).ownBlock = some k) u3 u4 := Upd.grown hg (fun k h => .inl h)
            have HX4 : Hid (u4.heap[w2.heap.size]? = some (.cells #[.string s, .slice fb F.length fd, .slice ib P.length id, .slice mb M.length md, .slice xb X.length xd] 27 (0, 0))) := Lib.hid ((hun.block _ hlt3 (fun h => by simp [Value.ownBlock] at h; omega)).trans HX3.out)
            refine HK0.out _ _ (HSS.out _ HX4.out) ?_
            try simp only [Act.put, List.getElem_toArray, List.getElem_cons_succ, List.getElem_cons_zero, List.setIfInBounds_toArray, List.set_cons_zero, List.set_cons_succ]
            clear HK0 HSA
            have hlt4 : w2.heap.size < u4.heap.size := blk_lt HX4.out
            have hst4 : u3.heap.size ≤ u4.heap.size := hun.size
            have HV4 := Lib.hid (HV3.out.trans hun (fun j h hl => by simp [Value.ownBlock] at h; omega))
            replace HKK := Lib.hid (HKK.out.upd hun (fun j hj h => by simp [Value.ownBlock] at hj h; omega))
            replace HCC := Lib.hid (HCC.out.upd hun (fun j hj h => by simp [Value.ownBlock] at hj h; omega))
            rw [Nat.zero_add, List.nil_append] at ho
            skip
            obtain ⟨vb, vcap, rfl, -, -, hvb2⟩ := row_head ho lM0
            have hvb1 : vb = u1.heap.size ∨ u3.heap.size ≤ vb := by
              rcases hf vb rfl with h | h
              · simp [Value.ownBlock] at h; omega
              · exact .inr h
            have HA := Lib.hid ho
            clear ho hg hf hun HE
            refine wpHL_1 (i := 11) rfl (by kernel_rfl) (by decide) (fun K HK0 => ?_)
            go_simp
            have HXn : Hid ((u4.alloc (.cells #[.slice (some ⟨u0.heap.size, 0, none⟩) z z, .int .i64 0, .slice none 0 0, .slice (some ⟨u2.heap.size, 0, none⟩) 1 1] 49)).heap[w2.heap.size]? = some (.cells #[.string s, .slice fb F.length fd, .slice ib P.length id, .slice mb M.length md, .slice xb X.length xd] 27 (0, 0))) := Lib.hid ((Below.heap_alloc _ _ _ hlt4).trans HX4.out)
            refine HK0.out _ _ (HSS.out _ HXn.out) ?_
            try simp only [Act.put, List.getElem_toArray, List.getElem_cons_succ, List.getElem_cons_zero, List.setIfInBounds_toArray, List.set_cons_zero, List.set_cons_succ]
            clear HK0
            have hun : Upd (fun _ => False) u4 (u4.alloc (.cells #[.slice (some ⟨u0.heap.size, 0, none⟩) z z, .int .i64 0, .slice none 0 0, .slice (some ⟨u2.heap.size, 0, none⟩) 1 1] 49)) := Upd.alloc _ _ _
            have hbn : (u4.alloc (.cells #[.slice (some ⟨u0.heap.size, 0, none⟩) z z, .int .i64 0, .slice none 0 0, .slice (some ⟨u2.heap.size, 0, none⟩) 1 1] 49)).heap[u4.heap.size]? = some (.cells #[.slice (some ⟨u0.heap.size, 0, none⟩) z z, .int .i64 0, .slice none 0 0, .slice (some ⟨u2.heap.size, 0, none⟩) 1 1] 49 (0, 0)) := blk_top' _ _ _ rfl
            have hent := srcAt u4 49 #[.slice (some ⟨u0.heap.size, 0, none⟩) z z, .int .i64 0, .slice none 0 0, .slice (some ⟨u2.heap.size, 0, none⟩) 1 1] [.slice (some ⟨u0.heap.size, 0, none⟩) z z, .int .i64 0, .slice none 0 0, .slice (some ⟨u2.heap.size, 0, none⟩) 1 1] rfl 4 (by simp [Value.oneCell']) 1 1 _ rfl rfl
            generalize u4.alloc (.cells #[.slice (some ⟨u0.heap.size, 0, none⟩) z z, .int .i64 0, .slice none 0 0, .slice (some ⟨u2.heap.size, 0, none⟩) 1 1] 49) = u5 at HXn hun hbn hent ⊢
            have HX5 := HXn
            have hlt5 : w2.heap.size < u5.heap.size := blk_lt HX5.out
            have hst5 : u4.heap.size < u5.heap.size := blk_lt hbn
            have HV5 := Lib.hid (HV4.out.trans hun (fun _ h _ => h))
            replace HA := Lib.hid (ownsRow_upd HA.out hun (fun _ _ h => h))
            replace HKK := Lib.hid (HKK.out.upd hun (fun _ _ h => h))
            replace HCC := Lib.hid (HCC.out.upd hun (fun _ _ h => h))
            have HTT := Lib.hid hent
            clear hent
            clear HXn hun hbn
            refine wpHL_1 (i := 12) rfl (by kernel_rfl) (by decide) (fun K HK0 => ?_)
            refine step_append_mine rfl (.tmp 66) (.tmp 74) 25 rfl 0 49 i0 (.agg #[.slice none 0 0, .int .i64 0, .slice none 0 0, .slice none 0 0]) 4 80 Tryd.underlying25 hi hz0 hz1 hz2 rfl (by decide) (.slice (some ⟨vb, 0, none⟩) M.length vcap) M.length (cellsL 4 M.length (metF M p q r)) rfl HA.out 1 [.slice (some ⟨u0.heap.size, 0, none⟩) z z, .int .i64 0, .slice none 0 0, .slice (some ⟨u2.heap.size, 0, none⟩) 1 1] HTT.out (by unfold maxLen; omega) (by omega) (Nat.zero_le _) ?_
            intro v6 u6 ho hg hf
            have hun : Upd (fun k => (Value.slice (some ⟨vb, 0, none⟩) M.length vcap).ownBlock = some k) u5 u6 := Upd.grown hg (fun k h => .inl h)
            have HX6 : Hid (u6.heap[w2.heap.size]? = some (.cells #[.string s, .slice fb F.length fd, .slice ib P.length id, .slice mb M.length md, .slice xb X.length xd] 27 (0, 0))) := Lib.hid ((hun.block _ hlt5 (fun h => by simp [Value.ownBlock] at h; omega)).trans HX5.out)
            refine HK0.out _ _ (HSS.out _ HX6.out) ?_
            try simp only [Act.put, List.getElem_toArray, List.getElem_cons_succ, List.getElem_cons_zero, List.setIfInBounds_toArray, List.set_cons_zero, List.set_cons_succ]
            clear HK0
            have HV6 := Lib.hid (HV5.out.trans hun (fun j h hl => by simp [Value.ownBlock] at h; omega))
            replace HKK := Lib.hid (HKK.out.upd hun (fun j hj h => by simp [Value.ownBlock] at hj h; omega))
            replace HCC := Lib.hid (HCC.out.upd hun (fun j hj h => by simp [Value.ownBlock] at hj h; omega))
            obtain ⟨v6b, v6cap, rfl, -, -, hv62⟩ := row_head ho (by omega)
            have hv61 : w2.heap.size < v6b := by
              rcases hf v6b rfl with h | h
              · simp [Value.ownBlock] at h; omega
              · omega
            have HO6 := Lib.hid ho
            clear ho hg hf hun HA HTT
            have hHeld := HSS.out _ HX6.out
            refine wpHL_take (i := 13) (v := ?_) rfl (by kernel_rfl) (fun _ _ _ h => h) hHeld (Or.inl ⟨by rfl, ?_⟩) ?_
            rotate_left
            · (intro w hSw; (try dsimp only at hSw); go_simp; try with_reducible rfl)
            simp only [Act.put, List.getElem_toArray, List.getElem_cons_succ, List.getElem_cons_zero, List.setIfInBounds_toArray, List.set_cons_zero, List.set_cons_succ]
            clear hHeld
            refine wpHL_last (by kernel_rfl) ?_
            have cc3 := cells_at HX6.out 3 _ rfl
            have ff3 := cells_fr HX6.out 3
            obtain ⟨g1, g2, g3, g4⟩ := img_set3 HF.out HP.out HX.out HS.out HRm.out HWm.out HX6.out HV6.out HU2.out HR2.out HO6.out hv61 HKK.out (fun k hk => by simp [Value.ownBlock] at hk; omega) HCC.out (fun k hk => by simp [Value.ownBlock] at hk; omega)
            obtain ⟨cX0, cX1, cX2, cX3, cX4, r0, r1, r2, r3, r4, s0, s1, s2, s3, s4, hfin⟩ := bent4_end g1 g2 g3 g4
            clear g1 g2 g3 g4 HO6 HKK HCC HSm HRm HWm HSS
            have HFIN := Lib.hid hfin
            clear hfin hRX HF HP HM HX HS HU2 HR2 HT7 HT5 HT6 HA6
            go_wp2_with fail
            all_goals
              refine bodyPost_ret (v := .agg #[.string s, .slice fb F.length fd, .slice ib P.length id, .slice (some ⟨v6b, 0, none⟩) (M.length + 1) v6cap, .slice xb X.length xd]) (by simp [results, Tryd.f5, go_sem, r0, r1, r2, r3, r4]) rfl ?_
              obtain ⟨hfin, hup⟩ := HFIN.out _ (((((setAt _ _ _ _).trans (setAt _ _ _ _) (fun _ h _ => h)).trans (setAt _ _ _ _) (fun _ h _ => h)).trans (setAt _ _ _ _) (fun _ h _ => h)).trans (setAt _ _ _ _) (fun _ h _ => h))
              first | exact ⟨_, _, rfl, hfin, hup⟩ | exact ⟨_, rfl, _, hfin, hup⟩
          · skip
            go_simp
            have HXn : Hid ((u3.alloc (.cells #[.slice (some ⟨u0.heap.size, 0, none⟩) z z, .int .i64 0, .slice none 0 0, .slice (some ⟨u2.heap.size, 0, none⟩) 1 1] 49)).heap[w2.heap.size]? = some (.cells #[.string s, .slice fb F.length fd, .slice ib P.length id, .slice mb M.length md, .slice xb X.length xd] 27 (0, 0))) := Lib.hid ((Below.heap_alloc _ _ _ hlt3).trans HX3.out)
            refine HK0.out _ _ (HSS.out _ HXn.out) ?_
            try simp only [Act.put, List.getElem_toArray, List.getElem_cons_succ, List.getElem_cons_zero, List.setIfInBounds_toArray, List.set_cons_zero, List.set_cons_succ]
            clear HK0
            have hun : Upd (fun _ => False) u3 (u3.alloc (.cells #[.slice (some ⟨u0.heap.size, 0, none⟩) z z, .int .i64 0, .slice none 0 0, .slice (some ⟨u2.heap.size, 0, none⟩) 1 1] 49)) := Upd.alloc _ _ _
            have hbn : (u3.alloc (.cells #[.slice (some ⟨u0.heap.size, 0, none⟩) z z, .int .i64 0, .slice none 0 0, .slice (some ⟨u2.heap.size, 0, none⟩) 1 1] 49)).heap[u3.heap.size]? = some (.cells #[.slice (some ⟨u0.heap.size, 0, none⟩) z z, .int .i64 0, .slice none 0 0, .slice (some ⟨u2.heap.size, 0, none⟩) 1 1] 49 (0, 0)) := blk_top' _ _ _ rfl
            have hent := srcAt u3 49 #[.slice (some ⟨u0.heap.size, 0, none⟩) z z, .int .i64 0, .slice none 0 0, .slice (some ⟨u2.heap.size, 0, none⟩) 1 1] [.slice (some ⟨u0.heap.size, 0, none⟩) z z, .int .i64 0, .slice none 0 0, .slice (some ⟨u2.heap.size, 0, none⟩) 1 1] rfl 4 (by simp [Value.oneCell']) 1 1 _ rfl rfl
            generalize u3.alloc (.cells #[.slice (some ⟨u0.heap.size, 0, none⟩) z z, .int .i64 0, .slice none 0 0, .slice (some ⟨u2.heap.size, 0, none⟩) 1 1] 49) = u4 at HXn hun hbn hent ⊢
            have HX4 := HXn
            have hlt4 : w2.heap.size < u4.heap.size := blk_lt HX4.out
            have hst4 : u3.heap.size < u4.heap.size := blk_lt hbn
            have HV4 := Lib.hid (HV3.out.trans hun (fun _ h _ => h))
            replace HE := Lib.hid (ownsRow_upd HE.out hun (fun _ _ h => h))
            replace HKK := Lib.hid (HKK.out.upd hun (fun _ _ h => h))
            replace HCC := Lib.hid (HCC.out.upd hun (fun _ _ h => h))
            have HTT := Lib.hid hent
            clear hent
            clear HXn hun hbn
            refine wpHL_1 (i := 3) rfl (by kernel_rfl) (by decide) (fun K HK0 => ?_)
            have HSA : Hid (Src u4 4 (.slice mb M.length md) M.length (cellsL 4 M.length (metF M p q r))) := Lib.hid ((Mets.src HSm.out HRm.out lM0).upd HV4.out (fun _ _ h => h))
            refine step_append_mine rfl (.tmp 63) (.tmp 65) 25 rfl 0 49 i0 (.agg #[.slice none 0 0, .int .i64 0, .slice none 0 0, .slice none 0 0]) 4 80 Tryd.underlying25 hi hz0 hz1 hz2 rfl (by decide) (.slice (some ⟨u1.heap.size, 0, none⟩) 0 0) 0 [] rfl HE.out M.length (cellsL 4 M.length (metF M p q r)) HSA.out (by unfold maxLen; omega) (by omega) (Nat.zero_le _) ?_
            intro va u5 ho hg hf
            have hun : Upd (fun k => (Value.slice (some ⟨u1.heap.size, 0, none⟩) 0 0).ownBlock = some k) u4 u5 := Upd.grown hg (fun k h => .inl h)
            have HX5 : Hid (u5.heap[w2.heap.size]? = some (.cells #[.string s, .slice fb F.length fd, .slice ib P.length id, .slice mb M.length md, .slice xb X.length xd] 27 (0, 0))) := Lib.hid ((hun.block _ hlt4 (fun h => by simp [Value.ownBlock] at h; omega)).trans HX4.out)
            refine HK0.out _ _ (HSS.out _ HX5.out) ?_
            try simp only [Act.put, List.getElem_toArray, List.getElem_cons_succ, List.getElem_cons_zero, List.setIfInBounds_toArray, List.set_cons_zero, List.set_cons_succ]
            clear HK0 HSA
            have hlt5 : w2.heap.size < u5.heap.size := blk_lt HX5.out
            have hst5 : u4.heap.size ≤ u5.heap.size := hun.size
            have HV5 := Lib.hid (HV4.out.trans hun (fun j h hl => by simp [Value.ownBlock] at h; omega))
            replace HKK := Lib.hid (HKK.out.upd hun (fun j hj h => by simp [Value.ownBlock] at hj h; omega))
            replace HCC := Lib.hid (HCC.out.upd hun (fun j hj h => by simp [Value.ownBlock] at hj h; omega))
            replace HTT := Lib.hid (HTT.out.upd hun (fun j hj h => by simp [Value.ownBlock] at hj h; omega))
            rw [Nat.zero_add, List.nil_append] at ho
            skip
            obtain ⟨vb, vcap, rfl, -, -, hvb2⟩ := row_head ho lM0
            have hvb1 : vb = u1.heap.size ∨ u4.heap.size ≤ vb := by
              rcases hf vb rfl with h | h
              · simp [Value.ownBlock] at h; omega
              · exact .inr h
            have HA := Lib.hid ho
            clear ho hg hf hun HE
            refine wpHL_1 (i := 12) rfl (by kernel_rfl) (by decide) (fun K HK0 => ?_)
            refine step_append_mine rfl (.tmp 66) (.tmp 74) 25 rfl 0 49 i0 (.agg #[.slice none 0 0, .int .i64 0, .slice none 0 0, .slice none 0 0]) 4 80 Tryd.underlying25 hi hz0 hz1 hz2 rfl (by decide) (.slice (some ⟨vb, 0, none⟩) M.length vcap) M.length (cellsL 4 M.length (metF M p q r)) rfl HA.out 1 [.slice (some ⟨u0.heap.size, 0, none⟩) z z, .int .i64 0, .slice none 0 0, .slice (some ⟨u2.heap.size, 0, none⟩) 1 1] HTT.out (by unfold maxLen; omega) (by omega) (Nat.zero_le _) ?_
            intro v6 u6 ho hg hf
            have hun : Upd (fun k => (Value.slice (some ⟨vb, 0, none⟩) M.length vcap).ownBlock = some k) u5 u6 := Upd.grown hg (fun k h => .inl h)
            have HX6 : Hid (u6.heap[w2.heap.size]? = some (.cells #[.string s, .slice fb F.length fd, .slice ib P.length id, .slice mb M.length md, .slice xb X.length xd] 27 (0, 0))) := Lib.hid ((hun.block _ hlt5 (fun h => by simp [Value.ownBlock] at h; omega)).trans HX5.out)
            refine HK0.out _ _ (HSS.out _ HX6.out) ?_
            try simp only [Act.put, List.getElem_toArray, List.getElem_cons_succ, List.getElem_cons_zero, List.setIfInBounds_toArray, List.set_cons_zero, List.set_cons_succ]
            clear HK0
            have HV6 := Lib.hid (HV5.out.trans hun (fun j h hl => by simp [Value.ownBlock] at h; omega))
            replace HKK := Lib.hid (HKK.out.upd hun (fun j hj h => by simp [Value.ownBlock] at hj h; omega))
            replace HCC := Lib.hid (HCC.out.upd hun (fun j hj h => by simp [Value.ownBlock] at hj h; omega))
            obtain ⟨v6b, v6cap, rfl, -, -, hv62⟩ := row_head ho (by omega)
            have hv61 : w2.heap.size < v6b := by
              rcases hf v6b rfl with h | h
              · simp [Value.ownBlock] at h; omega
              · omega
            have HO6 := Lib.hid ho
            clear ho hg hf hun HA HTT
            have hHeld := HSS.out _ HX6.out
            refine wpHL_take (i := 13) (v := ?_) rfl (by kernel_rfl) (fun _ _ _ h => h) hHeld (Or.inl ⟨by rfl, ?_⟩) ?_
            rotate_left
            · (intro w hSw; (try dsimp only at hSw); go_simp; try with_reducible rfl)
            simp only [Act.put, List.getElem_toArray, List.getElem_cons_succ, List.getElem_cons_zero, List.setIfInBounds_toArray, List.set_cons_zero, List.set_cons_succ]
            clear hHeld
            refine wpHL_last (by kernel_rfl) ?_
            have cc3 := cells_at HX6.out 3 _ rfl
            have ff3 := cells_fr HX6.out 3
            obtain ⟨g1, g2, g3, g4⟩ := img_set3 HF.out HP.out HX.out HS.out HRm.out HWm.out HX6.out HV6.out HU2.out HR2.out HO6.out hv61 HKK.out (fun k hk => by simp [Value.ownBlock] at hk; omega) HCC.out (fun k hk => by simp [Value.ownBlock] at hk; omega)
            obtain ⟨cX0, cX1, cX2, cX3, cX4, r0, r1, r2, r3, r4, s0, s1, s2, s3, s4, hfin⟩ := bent4_end g1 g2 g3 g4
            clear g1 g2 g3 g4 HO6 HKK HCC HSm HRm HWm HSS
            have HFIN := Lib.hid hfin
            clear hfin hRX HF HP HM HX HS HU2 HR2 HT7 HT5 HT6 HA6
            go_wp2_with fail
            all_goals
              refine bodyPost_ret (v := .agg #[.string s, .slice fb F.length fd, .slice ib P.length id, .slice (some ⟨v6b, 0, none⟩) (M.length + 1) v6cap, .slice xb X.length xd]) (by simp [results, Tryd.f5, go_sem, r0, r1, r2, r3, r4]) rfl ?_
              obtain ⟨hfin, hup⟩ := HFIN.out _ (((((setAt _ _ _ _).trans (setAt _ _ _ _) (fun _ h _ => h)).trans (setAt _ _ _ _) (fun _ h _ => h)).trans (setAt _ _ _ _) (fun _ h _ => h)).trans (setAt _ _ _ _) (fun _ h _ => h))
              first | exact ⟨_, _, rfl, hfin, hup⟩ | exact ⟨_, rfl, _, hfin, hup⟩
      · skip
        go_simp
        have HXn : Hid ((u1.alloc (.cells #[.int .i64 39, .int .i64 0, .int .i64 0] 46)).heap[w2.heap.size]? = some (.cells #[.string s, .slice fb F.length fd, .slice ib P.length id, .slice mb M.length md, .slice xb X.length xd] 27 (0, 0))) := Lib.hid ((Below.heap_alloc _ _ _ hlt1).trans HX1.out)
        refine HK0.out _ _ (HSS.out _ HXn.out) ?_
        try simp only [Act.put, List.getElem_toArray, List.getElem_cons_succ, List.getElem_cons_zero, List.setIfInBounds_toArray, List.set_cons_zero, List.set_cons_succ]
        clear HK0
        have hun : Upd (fun _ => False) u1 (u1.alloc (.cells #[.int .i64 39, .int .i64 0, .int .i64 0] 46)) := Upd.alloc _ _ _
        have hbn : (u1.alloc (.cells #[.int .i64 39, .int .i64 0, .int .i64 0] 46)).heap[u1.heap.size]? = some (.cells #[.int .i64 39, .int .i64 0, .int .i64 0] 46 (0, 0)) := blk_top' _ _ _ rfl
        generalize u1.alloc (.cells #[.int .i64 39, .int .i64 0, .int .i64 0] 46) = u2 at HXn hun hbn  ⊢
        have HX2 := HXn
        have hlt2 : w2.heap.size < u2.heap.size := blk_lt HX2.out
        have hst2 : u1.heap.size < u2.heap.size := blk_lt hbn
        have HV2 := Lib.hid (HV1.out.trans hun (fun _ h _ => h))
        replace HKK := Lib.hid (HKK.out.upd hun (fun _ _ h => h))
        have HCC : Hid (CRow u2 (.slice (some ⟨u1.heap.size, 0, none⟩) 1 1) [⟨39, 0, 0⟩]) := Lib.hid ⟨row_of_blk hbn rfl (by unfold maxLen; omega), fun x hx => by simp at hx; subst hx; exact ⟨by unfold wi64; decide, by unfold wi64; decide, by unfold wi64; decide⟩⟩
        clear HXn hun hbn
        have hHeld := HSS.out _ HX2.out
        refine wpHL_take (i := 10) (v := .agg #[.slice (some ⟨u0.heap.size, 0, none⟩) z z, .int .i64 0, .slice none 0 0, .slice (some ⟨u1.heap.size, 0, none⟩) 1 1]) rfl (by kernel_rfl) (fun _ _ _ h => h) hHeld (Or.inl ⟨by rfl, ?_⟩) ?_
        · (intro w hSw; kernel_rfl)
        simp only [Act.put, List.getElem_toArray, List.getElem_cons_succ, List.getElem_cons_zero, List.setIfInBounds_toArray, List.set_cons_zero, List.set_cons_succ]
        clear hHeld
        refine wpHL_2 (i := 0) (j := 11) rfl rfl (by kernel_rfl) (by decide) (by decide) (fun K HK0 => ?_) (fun K HK0 => ?_)
        · skip
          go_simp
          have HXn : Hid ((u2.alloc (.cells #[] 49)).heap[w2.heap.size]? = some (.cells #[.string s, .slice fb F.length fd, .slice ib P.length id, .slice mb M.length md, .slice xb X.length xd] 27 (0, 0))) := Lib.hid ((Below.heap_alloc _ _ _ hlt2).trans HX2.out)
          refine HK0.out _ _ (HSS.out _ HXn.out) ?_
          try simp only [Act.put, List.getElem_toArray, List.getElem_cons_succ, List.getElem_cons_zero, List.setIfInBounds_toArray, List.set_cons_zero, List.set_cons_succ]
          clear HK0
          have hun : Upd (fun _ => False) u2 (u2.alloc (.cells #[] 49)) := Upd.alloc _ _ _
          have hbn : (u2.alloc (.cells #[] 49)).heap[u2.heap.size]? = some (.cells #[] 49 (0, 0)) := blk_top' _ _ _ rfl
          have hent := bnEmpty u2 49 4 _ rfl
          generalize u2.alloc (.cells #[] 49) = u3 at HXn hun hbn hent ⊢
          have HX3 := HXn
          have hlt3 : w2.heap.size < u3.heap.size := blk_lt HX3.out
          have hst3 : u2.heap.size < u3.heap.size := blk_lt hbn
          have HV3 := Lib.hid (HV2.out.trans hun (fun _ h _ => h))
          replace HKK := Lib.hid (HKK.out.upd hun (fun _ _ h => h))
          replace HCC := Lib.hid (HCC.out.upd hun (fun _ _ h => h))
          have HE := Lib.hid hent
          clear hent
          clear HXn hun hbn
          refine wpHL_2 (i := 3) (j := 11) rfl rfl (by kernel_rfl) (by decide) (by decide) (fun K HK0 => ?_) (fun K HK0 => ?_)
          · skip
            have HSA : Hid (Src u3 4 (.slice mb M.length md) M.length (cellsL 4 M.length (metF M p q r))) := Lib.hid ((Mets.src HSm.out HRm.out lM0).upd HV3.out (fun _ _ h => h))
            refine step_append_mine rfl (.tmp 63) (.tmp 65) 25 rfl 0 49 i0 (.agg #[.slice none 0 0, .int .i64 0, .slice none 0 0, .slice none 0 0]) 4 80 Tryd.underlying25 hi hz0 hz1 hz2 rfl (by decide) (.slice (some ⟨u2.heap.size, 0, none⟩) 0 0) 0 [] rfl HE.out M.length (cellsL 4 M.length (metF M p q r)) HSA.out (by unfold maxLen; omega) (by omega) (Nat.zero_le _) ?_
            intro va u4 ho hg hf
            have hun : Upd (fun k => (Value.slice (some ⟨u2.heap.size, 0, none⟩) 0 0).ownBlock = some k) u3 u4 := Upd.grown hg (fun k h => .inl h)
            have HX4 : Hid (u4.heap[w2.heap.size]? = some (.cells #[.string s, .slice fb F.length fd, .slice ib P.length id, .slice mb M.length md, .slice xb X.length xd] 27 (0, 0))) := Lib.hid ((hun.block _ hlt3 (fun h => by simp [Value.ownBlock] at h; omega)).trans HX3.out)
            refine HK0.out _ _ (HSS.out _ HX4.out) ?_
            try simp only [Act.put, List.getElem_toArray, List.getElem_cons_succ, List.getElem_cons_zero, List.setIfInBounds_toArray, List.set_cons_zero, List.set_cons_succ]
            clear HK0 HSA
            have hlt4 : w2.heap.size < u4.heap.size := blk_lt HX4.out
            have hst4 : u3.heap.size ≤ u4.heap.size := hun.size
            have HV4 := Lib.hid (HV3.out.trans hun (fun j h hl => by simp [Value.ownBlock] at h; omega))
            replace HKK := Lib.hid (HKK.out.upd hun (fun j hj h => by simp [Value.ownBlock] at hj h; omega))
            replace HCC := Lib.hid (HCC.out.upd hun (fun j hj h => by simp [Value.ownBlock] at hj h; omega))
            rw [Nat.zero_add, List.nil_append] at ho
            skip
            obtain ⟨vb, vcap, rfl, -, -, hvb2⟩ := row_head ho lM0
            have hvb1 : vb = u2.heap.size ∨ u3.heap.size ≤ vb := by
              rcases hf vb rfl with h | h
              · simp [Value.ownBlock] at h; omega
              · exact .inr h
            have HA := Lib.hid ho
            clear ho hg hf hun HE
            refine wpHL_1 (i := 11) rfl (by kernel_rfl) (by decide) (fun K HK0 => ?_)
            go_simp
            have HXn : Hid ((u4.alloc (.cells #[.slice (some ⟨u0.heap.size, 0, none⟩) z z, .int .i64 0, .slice none 0 0, .slice (some ⟨u1.heap.size, 0, none⟩) 1 1] 49)).heap[w2.heap.size]? = some (.cells #[.string s, .slice fb F.length fd, .slice ib P.length id, .slice mb M.length md, .slice xb X.length xd] 27 (0, 0))) := Lib.hid ((Below.heap_alloc _ _ _ hlt4).trans HX4.out)
            refine HK0.out _ _ (HSS.out _ HXn.out) ?_
            try simp only [Act.put, List.getElem_toArray, List.getElem_cons_succ, List.getElem_cons_zero, List.setIfInBounds_toArray, List.set_cons_zero, List.set_cons_succ]
            clear HK0
            have hun : Upd (fun _ => False) u4 (u4.alloc (.cells #[.slice (some ⟨u0.heap.size, 0, none⟩) z z, .int .i64 0, .slice none 0 0, .slice (some ⟨u1.heap.size, 0, none⟩) 1 1] 49)) := Upd.alloc _ _ _
            have hbn : (u4.alloc (.cells #[.slice (some ⟨u0.heap.size, 0, none⟩) z z, .int .i64 0, .slice none 0 0, .slice (some ⟨u1.heap.size, 0, none⟩) 1 1] 49)).heap[u4.heap.size]? = some (.cells #[.slice (some ⟨u0.heap.size, 0, none⟩) z z, .int .i64 0, .slice none 0 0, .slice (some ⟨u1.heap.size, 0, none⟩) 1 1] 49 (0, 0)) := blk_top' _ _ _ rfl
            have hent := srcAt u4 49 #[.slice (some ⟨u0.heap.size, 0, none⟩) z z, .int .i64 0, .slice none 0 0, .slice (some ⟨u1.heap.size, 0, none⟩) 1 1] [.slice (some ⟨u0.heap.size, 0, none⟩) z z, .int .i64 0, .slice none 0 0, .slice (some ⟨u1.heap.size, 0, none⟩) 1 1] rfl 4 (by simp [Value.oneCell']) 1 1 _ rfl rfl
            generalize u4.alloc (.cells #[.slice (some ⟨u0.heap.size, 0, none⟩) z z, .int .i64 0, .slice none 0 0, .slice (some ⟨u1.heap.size, 0, none⟩) 1 1] 49) = u5 at HXn hun hbn hent ⊢
            have HX5 := HXn
            have hlt5 : w2.heap.size < u5.heap.size := blk_lt HX5.out
            have hst5 : u4.heap.size < u5.heap.size := blk_lt hbn
            have HV5 := Lib.hid (HV4.out.trans hun (fun _ h _ => h))
            replace HA := Lib.hid (ownsRow_upd HA.out hun (fun _ _ h => h))
            replace HKK := Lib.hid (HKK.out.upd hun (fun _ _ h => h))
            replace HCC := Lib.hid (HCC.out.upd hun (fun _ _ h => h))
            have HTT := Lib.hid hent
            clear hent
            clear HXn hun hbn
            refine wpHL_1 (i := 12) rfl (by kernel_rfl) (by decide) (fun K HK0 => ?_)
            refine step_append_mine rfl (.tmp 66) (.tmp 74) 25 rfl 0 49 i0 (.agg #[.slice none 0 0, .int .i64 0, .slice none 0 0, .slice none 0 0]) 4 80 Tryd.underlying25 hi hz0 hz1 hz2 rfl (by decide) (.slice (some ⟨vb, 0, none⟩) M.length vcap) M.length (cellsL 4 M.length (metF M p q r)) rfl HA.out 1 [.slice (some ⟨u0.heap.size, 0, none⟩) z z, .int .i64 0, .slice none 0 0, .slice (some ⟨u1.heap.size, 0, none⟩) 1 1] HTT.out (by unfold maxLen; omega) (by omega) (Nat.zero_le _) ?_
            intro v6 u6 ho hg hf
            have hun : Upd (fun k => (Value.slice (some ⟨vb, 0, none⟩) M.length vcap).ownBlock = some k) u5 u6 := Upd.grown hg (fun k h => .inl h)
            have HX6 : Hid (u6.heap[w2.heap.size]? = some (.cells #[.string s, .slice fb F.length fd, .slice ib P.length id, .slice mb M.length md, .slice xb X.length xd] 27 (0, 0))) := Lib.hid ((hun.block _ hlt5 (fun h => by simp [Value.ownBlock] at h; omega)).trans HX5.out)
            refine HK0.out _ _ (HSS.out _ HX6.out) ?_
            try simp only [Act.put, List.getElem_toArray, List.getElem_cons_succ, List.getElem_cons_zero, List.setIfInBounds_toArray, List.set_cons_zero, List.set_cons_succ]
            clear HK0
            have HV6 := Lib.hid (HV5.out.trans hun (fun j h hl => by simp [Value.ownBlock] at h; omega))
            replace HKK := Lib.hid (HKK.out.upd hun (fun j hj h => by simp [Value.ownBlock] at hj h; omega))
            replace HCC := Lib.hid (HCC.out.upd hun (fun j hj h => by simp [Value.ownBlock] at hj h; omega))
            obtain ⟨v6b, v6cap, rfl, -, -, hv62⟩ := row_head ho (by omega)
            have hv61 : w2.heap.size < v6b := by
              rcases hf v6b rfl with h | h
              · simp [Value.ownBlock] at h; omega
              · omega
            have HO6 := Lib.hid ho
            clear ho hg hf hun HA HTT
            have hHeld := HSS.out _ HX6.out
            refine wpHL_take (i := 13) (v := ?_) rfl (by kernel_rfl) (fun _ _ _ h => h) hHeld (Or.inl ⟨by rfl, ?_⟩) ?_
            rotate_left
            · (intro w hSw; (try dsimp only at hSw); go_simp; try with_reducible rfl)
            simp only [Act.put, List.getElem_toArray, List.getElem_cons_succ, List.getElem_cons_zero, List.setIfInBounds_toArray, List.set_cons_zero, List.set_cons_succ]
            clear hHeld
            refine wpHL_last (by kernel_rfl) ?_
            have cc3 := cells_at HX6.out 3 _ rfl
            have ff3 := cells_fr HX6.out 3
            obtain ⟨g1, g2, g3, g4⟩ := img_set3 HF.out HP.out HX.out HS.out HRm.out HWm.out HX6.out HV6.out HU2.out HR2.out HO6.out hv61 HKK.out (fun k hk => by simp [Value.ownBlock] at hk; omega) HCC.out (fun k hk => by simp [Value.ownBlock] at hk; omega)
            obtain ⟨cX0, cX1, cX2, cX3, cX4, r0, r1, r2, r3, r4, s0, s1, s2, s3, s4, hfin⟩ := bent4_end g1 g2 g3 g4
            clear g1 g2 g3 g4 HO6 HKK HCC HSm HRm HWm HSS
            have HFIN := Lib.hid hfin
            clear hfin hRX HF HP HM HX HS HU2 HR2 HT7 HT5 HT6 HA6
            go_wp2_with fail
            all_goals
              refine bodyPost_ret (v := .agg #[.string s, .slice fb F.length fd, .slice ib P.length id, .slice (some ⟨v6b, 0, none⟩) (M.length + 1) v6cap, .slice xb X.length xd]) (by simp [results, Tryd.f5, go_sem, r0, r1, r2, r3, r4]) rfl ?_
              obtain ⟨hfin, hup⟩ := HFIN.out _ (((((setAt _ _ _ _).trans (setAt _ _ _ _) (fun _ h _ => h)).trans (setAt _ _ _ _) (fun _ h _ => h)).trans (setAt _ _ _ _) (fun _ h _ => h)).trans (setAt _ _ _ _) (fun _ h _ => h))
              first | exact ⟨_, _, rfl, hfin, hup⟩ | exact ⟨_, rfl, _, hfin, hup⟩
          · skip
            go_simp
            have HXn : Hid ((u3.alloc (.cells #[.slice (some ⟨u0.heap.size, 0, none⟩) z z, .int .i64 0, .slice none 0 0, .slice (some ⟨u1.heap.size, 0, none⟩) 1 1] 49)).heap[w2.heap.size]? = some (.cells #[.string s, .slice fb F.length fd, .slice ib P.length id, .slice mb M.length md, .slice xb X.length xd] 27 (0, 0))) := Lib.hid ((Below.heap_alloc _ _ _ hlt3).trans HX3.out)
            refine HK0.out _ _ (HSS.out _ HXn.out) ?_
            try simp only [Act.put, List.getElem_toArray, List.getElem_cons_succ, List.getElem_cons_zero, List.setIfInBounds_toArray, List.set_cons_zero, List.set_cons_succ]
            clear HK0
            have hun : Upd (fun _ => False) u3 (u3.alloc (.cells #[.slice (some ⟨u0.heap.size, 0, none⟩) z z, .int .i64 0, .slice none 0 0, .slice (some ⟨u1.heap.size, 0, none⟩) 1 1] 49)) := Upd.alloc _ _ _
            have hbn : (u3.alloc (.cells #[.slice (some ⟨u0.heap.size, 0, none⟩) z z, .int .i64 0, .slice none 0 0, .slice (some ⟨u1.heap.size, 0, none⟩) 1 1] 49)).heap[u3.heap.size]? = some (.cells #[.slice (some ⟨u0.heap.size, 0, none⟩) z z, .int .i64 0, .slice none 0 0, .slice (some ⟨u1.heap.size, 0, none⟩) 1 1] 49 (0, 0)) := blk_top' _ _ _ rfl
            have hent := srcAt u3 49 #[.slice (some ⟨u0.heap.size, 0, none⟩) z z, .int .i64 0, .slice none 0 0, .slice (some ⟨u1.heap.size, 0, none⟩) 1 1] [.slice (some ⟨u0.heap.size, 0, none⟩) z z, .int .i64 0, .slice none 0 0, .slice (some ⟨u1.heap.size, 0, none⟩) 1 1] rfl 4 (by simp [Value.oneCell']) 1 1 _ rfl rfl
            generalize u3.alloc (.cells #[.slice (some ⟨u0.heap.size, 0, none⟩) z z, .int .i64 0, .slice none 0 0, .slice (some ⟨u1.heap.size, 0, none⟩) 1 1] 49) = u4 at HXn hun hbn hent ⊢
            have HX4 := HXn
            have hlt4 : w2.heap.size < u4.heap.size := blk_lt HX4.out
            have hst4 : u3.heap.size < u4.heap.size := blk_lt hbn
            have HV4 := Lib.hid (HV3.out.trans hun (fun _ h _ => h))
            replace HE := Lib.hid (ownsRow_upd HE.out hun (fun _ _ h => h))
            replace HKK := Lib.hid (HKK.out.upd hun (fun _ _ h => h))
            replace HCC := Lib.hid (HCC.out.upd hun (fun _ _ h => h))
            have HTT := Lib.hid hent
            clear hent
            clear HXn hun hbn
            refine wpHL_1 (i := 3) rfl (by kernel_rfl) (by decide) (fun K HK0 => ?_)
            have HSA : Hid (Src u4 4 (.slice mb M.length md) M.length (cellsL 4 M.length (metF M p q r))) := Lib.hid ((Mets.src HSm.out HRm.out lM0).upd HV4.out (fun _ _ h => h))
            refine step_append_mine rfl (.tmp 63) (.tmp 65) 25 rfl 0 49 i0 (.agg #[.slice none 0 0, .int .i64 0, .slice none 0 0, .slice none 0 0]) 4 80 Tryd.underlying25 hi hz0 hz1 hz2 rfl (by decide) (.slice (some ⟨u2.heap.size, 0, none⟩) 0 0) 0 [] rfl HE.out M.length (cellsL 4 M.length (metF M p q r)) HSA.out (by unfold maxLen; omega) (by omega) (Nat.zero_le _) ?_
            intro va u5 ho hg hf
            have hun : Upd (fun k => (Value.slice (some ⟨u2.heap.size, 0, none⟩) 0 0).ownBlock = some k) u4 u5 := Upd.grown hg (fun k h => .inl h)
            have HX5 : Hid (u5.heap[w2.heap.size]? = some (.cells #[.string s, .slice fb F.length fd, .slice ib P.length id, .slice mb M.length md, .slice xb X.length xd] 27 (0, 0))) := Lib.hid ((hun.block _ hlt4 (fun h => by simp [Value.ownBlock] at h; omega)).trans HX4.out)
            refine HK0.out _ _ (HSS.out _ HX5.out) ?_
            try simp only [Act.put, List.getElem_toArray, List.getElem_cons_succ, List.getElem_cons_zero, List.setIfInBounds_toArray, List.set_cons_zero, List.set_cons_succ]
            clear HK0 HSA
            have hlt5 : w2.heap.size < u5.heap.size := blk_lt HX5.out
            have hst5 : u4.heap.size ≤ u5.heap.size := hun.size
            have HV5 := Lib.hid (HV4.out.trans hun (fun j h hl => by simp [Value.ownBlock] at h; omega))
            replace HKK := Lib.hid (HKK.out.upd hun (fun j hj h => by simp [Value.ownBlock] at hj h; omega))
            replace HCC := Lib.hid (HCC.out.upd hun (fun j hj h => by simp [Value.ownBlock] at hj h; omega))
            replace HTT := Lib.hid (HTT.out.upd hun (fun j hj h => by simp [Value.ownBlock] at hj h; omega))
            rw [Nat.zero_add, List.nil_append] at ho
            skip
            obtain ⟨vb, vcap, rfl, -, -, hvb2⟩ := row_head ho lM0
            have hvb1 : vb = u2.heap.size ∨ u4.heap.size ≤ vb := by
              rcases hf vb rfl with h | h
              · simp [Value.ownBlock] at h; omega
              · exact .inr h
            have HA := Lib.hid ho
            clear ho hg hf hun HE
            refine wpHL_1 (i := 12) rfl (by kernel_rfl) (by decide) (fun K HK0 => ?_)
            refine step_append_mine rfl (.tmp 66) (.tmp 74) 25 rfl 0 49 i0 (.agg #[.slice none 0 0, .int .i64 0, .slice none 0 0, .slice none 0 0]) 4 80 Tryd.underlying25 hi hz0 hz1 hz2 rfl (by decide) (.slice (some ⟨vb, 0, none⟩) M.length vcap) M.length (cellsL 4 M.length (metF M p q r)) rfl HA.out 1 [.slice (some ⟨u0.heap.size, 0, none⟩) z z, .int .i64 0, .slice none 0 0, .slice (some ⟨u1.heap.size, 0, none⟩) 1 1] HTT.out (by unfold maxLen; omega) (by omega) (Nat.zero_le _) ?_
            intro v6 u6 ho hg hf
            have hun : Upd (fun k => (Value.slice (some ⟨vb, 0, none⟩) M.length vcap).ownBlock = some k) u5 u6 := Upd.grown hg (fun k h => .inl h)
            have HX6 : Hid (u6.heap[w2.heap.size]? = some (.cells #[.string s, .slice fb F.length fd, .slice ib P.length id, .slice mb M.length md, .slice xb X.length xd] 27 (0, 0))) := Lib.hid ((hun.block _ hlt5 (fun h => by simp [Value.ownBlock] at h; omega)).trans HX5.out)
            refine HK0.out _ _ (HSS.out _ HX6.out) ?_
            try simp only [Act.put, List.getElem_toArray, List.getElem_cons_succ, List.getElem_cons_zero, List.setIfInBounds_toArray, List.set_cons_zero, List.set_cons_succ]
            clear HK0
            have HV6 := Lib.hid (HV5.out.trans hun (fun j h hl => by simp [Value.ownBlock] at h; omega))
            replace HKK := Lib.hid (HKK.out.upd hun (fun j hj h => by simp [Value.ownBlock] at hj h; omega))
            replace HCC := Lib.hid (HCC.out.upd hun (fun j hj h => by simp [Value.ownBlock] at hj h; omega))
            obtain ⟨v6b, v6cap, rfl, -, -, hv62⟩ := row_head ho (by omega)
            have hv61 : w2.heap.size < v6b := by
              rcases hf v6b rfl with h | h
              · simp [Value.ownBlock] at h; omega
              · omega
            have HO6 := Lib.hid ho
            clear ho hg hf hun HA HTT
            have hHeld := HSS.out _ HX6.out
            refine wpHL_take (i := 13) (v := ?_) rfl (by kernel_rfl) (fun _ _ _ h => h) hHeld (Or.inl ⟨by rfl, ?_⟩) ?_
            rotate_left
            · (intro w hSw; (try dsimp only at hSw); go_simp; try with_reducible rfl)
            simp only [Act.put, List.getElem_toArray, List.getElem_cons_succ, List.getElem_cons_zero, List.setIfInBounds_toArray, List.set_cons_zero, List.set_cons_succ]
            clear hHeld
            refine wpHL_last (by kernel_rfl) ?_
            have cc3 := cells_at HX6.out 3 _ rfl
            have ff3 := cells_fr HX6.out 3
            obtain ⟨g1, g2, g3, g4⟩ := img_set3 HF.out HP.out HX.out HS.out HRm.out HWm.out HX6.out HV6.out HU2.out HR2.out HO6.out hv61 HKK.out (fun k hk => by simp [Value.ownBlock] at hk; omega) HCC.out (fun k hk => by simp [Value.ownBlock] at hk; omega)
            obtain ⟨cX0, cX1, cX2, cX3, cX4, r0, r1, r2, r3, r4, s0, s1, s2, s3, s4, hfin⟩ := bent4_end g1 g2 g3 g4
            clear g1 g2 g3 g4 HO6 HKK HCC HSm HRm HWm HSS
            have HFIN := Lib.hid hfin
            clear hfin hRX HF HP HM HX HS HU2 HR2 HT7 HT5 HT6 HA6
            go_wp2_with fail
            all_goals
              refine bodyPost_ret (v := .agg #[.string s, .slice fb F.length fd, .slice ib P.length id, .slice (some ⟨v6b, 0, none⟩) (M.length + 1) v6cap, .slice xb X.length xd]) (by simp [results, Tryd.f5, go_sem, r0, r1, r2, r3, r4]) rfl ?_
              obtain ⟨hfin, hup⟩ := HFIN.out _ (((((setAt _ _ _ _).trans (setAt _ _ _ _) (fun _ h _ => h)).trans (setAt _ _ _ _) (fun _ h _ => h)).trans (setAt _ _ _ _) (fun _ h _ => h)).trans (setAt _ _ _ _) (fun _ h _ => h))
              first | exact ⟨_, _, rfl, hfin, hup⟩ | exact ⟨_, rfl, _, hfin, hup⟩
        · skip
          go_simp
          have HXn : Hid ((u2.alloc (.cells #[.slice (some ⟨u0.heap.size, 0, none⟩) z z, .int .i64 0, .slice none 0 0, .slice (some ⟨u1.heap.size, 0, none⟩) 1 1] 49)).heap[w2.heap.size]? = some (.cells #[.string s, .slice fb F.length fd, .slice ib P.length id, .slice mb M.length md, .slice xb X.length xd] 27 (0, 0))) := Lib.hid ((Below.heap_alloc _ _ _ hlt2).trans HX2.out)
          refine HK0.out _ _ (HSS.out _ HXn.out) ?_
          try simp only [Act.put, List.getElem_toArray, List.getElem_cons_succ, List.getElem_cons_zero, List.setIfInBounds_toArray, List.set_cons_zero, List.set_cons_succ]
          clear HK0
          have hun : Upd (fun _ => False) u2 (u2.alloc (.cells #[.slice (some ⟨u0.heap.size, 0, none⟩) z z, .int .i64 0, .slice none 0 0, .slice (some ⟨u1.heap.size, 0, none⟩) 1 1] 49)) := Upd.alloc _ _ _
          have hbn : (u2.alloc (.cells #[.slice (some ⟨u0.heap.size, 0, none⟩) z z, .int .i64 0, .slice none 0 0, .slice (some ⟨u1.heap.size, 0, none⟩) 1 1] 49)).heap[u2.heap.size]? = some (.cells #[.slice (some ⟨u0.heap.size, 0, none⟩) z z, .int .i64 0, .slice none 0 0, .slice (some ⟨u1.heap.size, 0, none⟩) 1 1] 49 (0, 0)) := blk_top' _ _ _ rfl
          have hent := srcAt u2 49 #[.slice (some ⟨u0.heap.size, 0, none⟩) z z, .int .i64 0, .slice none 0 0, .slice (some ⟨u1.heap.size, 0, none⟩) 1 1] [.slice (some ⟨u0.heap.size, 0, none⟩) z z, .int .i64 0, .slice none 0 0, .slice (some ⟨u1.heap.size, 0, none⟩) 1 1] rfl 4 (by simp [Value.oneCell']) 1 1 _ rfl rfl
          generalize u2.alloc (.cells #[.slice (some ⟨u0.heap.size, 0, none⟩) z z, .int .i64 0, .slice none 0 0, .slice (some ⟨u1.heap.size, 0, none⟩) 1 1] 49) = u3 at HXn hun hbn hent ⊢
          have HX3 := HXn
          have hlt3 : w2.heap.size < u3.heap.size := blk_lt HX3.out
          have hst3 : u2.heap.size < u3.heap.size := blk_lt hbn
          have HV3 := Lib.hid (HV2.out.trans hun (fun _ h _ => h))
          replace HKK := Lib.hid (HKK.out.upd hun (fun _ _ h => h))
          replace HCC := Lib.hid (HCC.out.upd hun (fun _ _ h => h))
          have HTT := Lib.hid hent
          clear hent
          clear HXn hun hbn
          refine wpHL_1 (i := 0) rfl (by kernel_rfl) (by decide) (fun K HK0 => ?_)
          go_simp
          have HXn : Hid ((u3.alloc (.cells #[] 49)).heap[w2.heap.size]? = some (.cells #[.string s, .slice fb F.length fd, .slice ib P.length id, .slice mb M.length md, .slice xb X.length xd] 27 (0, 0))) := Lib.hid ((Below.heap_alloc _ _ _ hlt3).trans HX3.out)
          refine HK0.out _ _ (HSS.out _ HXn.out) ?_
          try simp only [Act.put, List.getElem_toArray, List.getElem_cons_succ, List.getElem_cons_zero, List.setIfInBounds_toArray, List.set_cons_zero, List.set_cons_succ]
          clear HK0
          have hun : Upd (fun _ => False) u3 (u3.alloc (.cells #[] 49)) := Upd.alloc _ _ _
          have hbn : (u3.alloc (.cells #[] 49)).heap[u3.heap.size]? = some (.cells #[] 49 (0, 0)) := blk_top' _ _ _ rfl
          have hent := bnEmpty u3 49 4 _ rfl
          generalize u3.alloc (.cells #[] 49) = u4 at HXn hun hbn hent ⊢
          have HX4 := HXn
          have hlt4 : w2.heap.size < u4.heap.size := blk_lt HX4.out
          have hst4 : u3.heap.size < u4.heap.size := blk_lt hbn
          have HV4 := Lib.hid (HV3.out.trans hun (fun _ h _ => h))
          replace HKK := Lib.hid (HKK.out.upd hun (fun _ _ h => h))
          replace HCC := Lib.hid (HCC.out.upd hun (fun _ _ h => h))
          replace HTT := Lib.hid (HTT.out.upd hun (fun _ _ h => h))
          have HE := Lib.hid hent
          clear hent
          clear HXn hun hbn
          refine wpHL_1 (i := 3) rfl (by kernel_rfl) (by decide) (fun K HK0 => ?_)
          have HSA : Hid (Src u4 4 (.slice mb M.length md) M.length (cellsL 4 M.length (metF M p q r))) := Lib.hid ((Mets.src HSm.out HRm.out lM0).upd HV4.out (fun _ _ h => h))
          refine step_append_mine rfl (.tmp 63) (.tmp 65) 25 rfl 0 49 i0 (.agg #[.slice none 0 0, .int .i64 0, .slice none 0 0, .slice none 0 0]) 4 80 Tryd.underlying25 hi hz0 hz1 hz2 rfl (by decide) (.slice (some ⟨u3.heap.size, 0, none⟩) 0 0) 0 [] rfl HE.out M.length (cellsL 4 M.length (metF M p q r)) HSA.out (by unfold maxLen; omega) (by omega) (Nat.zero_le _) ?_
          intro va u5 ho hg hf
          have hun : Upd (fun k => (Value.slice (some ⟨u3.heap.size, 0, none⟩) 0 0).ownBlock = some k) u4 u5 := Upd.grown hg (fun k h => .inl h)
          have HX5 : Hid (u5.heap[w2.heap.size]? = some (.cells #[.string s, .slice fb F.length fd, .slice ib P.length id, .slice mb M.length md, .slice xb X.length xd] 27 (0, 0))) := Lib.hid ((hun.block _ hlt4 (fun h => by simp [Value.ownBlock] at h; omega)).trans HX4.out)
          refine HK0.out _ _ (HSS.out _ HX5.out) ?_
          try simp only [Act.put, List.getElem_toArray, List.getElem_cons_succ, List.getElem_cons_zero, List.setIfInBounds_toArray, List.set_cons_zero, List.set_cons_succ]
          clear HK0 HSA
          have hlt5 : w2.heap.size < u5.heap.size := blk_lt HX5.out
          have hst5 : u4.heap.size ≤ u5.heap.size := hun.size
          have HV5 := Lib.hid (HV4.out.trans hun (fun j h hl => by simp [Value.ownBlock] at h; omega))
          replace HKK := Lib.hid (HKK.out.upd hun (fun j hj h => by simp [Value.ownBlock] at hj h; omega))
          replace HCC := Lib.hid (HCC.out.upd hun (fun j hj h => by simp [Value.ownBlock] at hj h; omega))
          replace HTT := Lib.hid (HTT.out.upd hun (fun j hj h => by simp [Value.ownBlock] at hj h; omega))
          rw [Nat.zero_add, List.nil_append] at ho
          skip
          obtain ⟨vb, vcap, rfl, -, -, hvb2⟩ := row_head ho lM0
          have hvb1 : vb = u3.heap.size ∨ u4.heap.size ≤ vb := by
            rcases hf vb rfl with h | h
            · simp [Value.ownBlock] at h; omega
            · exact .inr h
          have HA := Lib.hid ho
          clear ho hg hf hun HE
          refine wpHL_1 (i := 12) rfl (by kernel_rfl) (by decide) (fun K HK0 => ?_)
          refine step_append_mine rfl (.tmp 66) (.tmp 74) 25 rfl 0 49 i0 (.agg #[.slice none 0 0, .int .i64 0, .slice none 0 0, .slice none 0 0]) 4 80 Tryd.underlying25 hi hz0 hz1 hz2 rfl (by decide) (.slice (some ⟨vb, 0, none⟩) M.length vcap) M.length (cellsL 4 M.length (metF M p q r)) rfl HA.out 1 [.slice (some ⟨u0.heap.size, 0, none⟩) z z, .int .i64 0, .slice none 0 0, .slice (some ⟨u1.heap.size, 0, none⟩) 1 1] HTT.out (by unfold maxLen; omega) (by omega) (Nat.zero_le _) ?_
          intro v6 u6 ho hg hf
          have hun : Upd (fun k => (Value.slice (some ⟨vb, 0, none⟩) M.length vcap).ownBlock = some k) u5 u6 := Upd.grown hg (fun k h => .inl h)
          have HX6 : Hid (u6.heap[w2.heap.size]? = some (.cells #[.string s, .slice fb F.length fd, .slice ib P.length id, .slice mb M.length md, .slice xb X.length xd] 27 (0, 0))) := Lib.hid ((hun.block _ hlt5 (fun h => by simp [Value.ownBlock] at h; omega)).trans HX5.out)
          refine HK0.out _ _ (HSS.out _ HX6.out) ?_
          try simp only [Act.put, List.getElem_toArray, List.getElem_cons_succ, List.getElem_cons_zero, List.setIfInBounds_toArray, List.set_cons_zero, List.set_cons_succ]
          clear HK0
          have HV6 := Lib.hid (HV5.out.trans hun (fun j h hl => by simp [Value.ownBlock] at h; omega))
          replace HKK := Lib.hid (HKK.out.upd hun (fun j hj h => by simp [Value.ownBlock] at hj h; omega))
          replace HCC := Lib.hid (HCC.out.upd hun (fun j hj h => by simp [Value.ownBlock] at hj h; omega))
          obtain ⟨v6b, v6cap, rfl, -, -, hv62⟩ := row_head ho (by omega)
          have hv61 : w2.heap.size < v6b := by
            rcases hf v6b rfl with h | h
            · simp [Value.ownBlock] at h; omega
            · omega
          have HO6 := Lib.hid ho
          clear ho hg hf hun HA HTT
          have hHeld := HSS.out _ HX6.out
          refine wpHL_take (i := 13) (v := ?_) rfl (by kernel_rfl) (fun _ _ _ h => h) hHeld (Or.inl ⟨by rfl, ?_⟩) ?_
          rotate_left
          · (intro w hSw; (try dsimp only at hSw); go_simp; try with_reducible rfl)
          simp only [Act.put, List.getElem_toArray, List.getElem_cons_succ, List.getElem_cons_zero, List.setIfInBounds_toArray, List.set_cons_zero, List.set_cons_succ]
          clear hHeld
          refine wpHL_last (by kernel_rfl) ?_
          have cc3 := cells_at HX6.out 3 _ rfl
          have ff3 := cells_fr HX6.out 3
          obtain ⟨g1, g2, g3, g4⟩ := img_set3 HF.out HP.out HX.out HS.out HRm.out HWm.out HX6.out HV6.out HU2.out HR2.out HO6.out hv61 HKK.out (fun k hk => by simp [Value.ownBlock] at hk; omega) HCC.out (fun k hk => by simp [Value.ownBlock] at hk; omega)
          obtain ⟨cX0, cX1, cX2, cX3, cX4, r0, r1, r2, r3, r4, s0, s1, s2, s3, s4, hfin⟩ := bent4_end g1 g2 g3 g4
          clear g1 g2 g3 g4 HO6 HKK HCC HSm HRm HWm HSS
          have HFIN := Lib.hid hfin
          clear hfin hRX HF HP HM HX HS HU2 HR2 HT7 HT5 HT6 HA6
          go_wp2_with fail
          all_goals
            refine bodyPost_ret (v := .agg #[.string s, .slice fb F.length fd, .slice ib P.length id, .slice (some ⟨v6b, 0, none⟩) (M.length + 1) v6cap, .slice xb X.length xd]) (by simp [results, Tryd.f5, go_sem, r0, r1, r2, r3, r4]) rfl ?_
            obtain ⟨hfin, hup⟩ := HFIN.out _ (((((setAt _ _ _ _).trans (setAt _ _ _ _) (fun _ h _ => h)).trans (setAt _ _ _ _) (fun _ h _ => h)).trans (setAt _ _ _ _) (fun _ h _ => h)).trans (setAt _ _ _ _) (fun _ h _ => h))
            first | exact ⟨_, _, rfl, hfin, hup⟩ | exact ⟨_, rfl, _, hfin, hup⟩
    · skip
      go_simp
      have HXn : Hid ((u0.alloc (.cells #[.int .i64 39, .int .i64 0, .int .i64 0] 46)).heap[w2.heap.size]? = some (.cells #[.string s, .slice fb F.length fd, .slice ib P.length id, .slice mb M.length md, .slice xb X.length xd] 27 (0, 0))) := Lib.hid ((Below.heap_alloc _ _ _ hlt0).trans HX0.out)
      refine HK0.out _ _ (HSS.out _ HXn.out) ?_
      try simp only [Act.put, List.getElem_toArray, List.getElem_cons_succ, List.getElem_cons_zero, List.setIfInBounds_toArray, List.set_cons_zero, List.set_cons_succ]
      clear HK0
      have hun : Upd (fun _ => False) u0 (u0.alloc (.cells #[.int .i64 39, .int .i64 0, .int .i64 0] 46)) := Upd.alloc _ _ _
      have hbn : (u0.alloc (.cells #[.int .i64 39, .int .i64 0, .int .i64 0] 46)).heap[u0.heap.size]? = some (.cells #[.int .i64 39, .int .i64 0, .int .i64 0] 46 (0, 0)) := blk_top' _ _ _ rfl
      generalize u0.alloc (.cells #[.int .i64 39, .int .i64 0, .int .i64 0] 46) = u1 at HXn hun hbn  ⊢
      have HX1 := HXn
      have hlt1 : w2.heap.size < u1.heap.size := blk_lt HX1.out
      have hst1 : u0.heap.size < u1.heap.size := blk_lt hbn
      have HV1 := Lib.hid (HV0.out.trans hun (fun _ h _ => h))
      have HCC : Hid (CRow u1 (.slice (some ⟨u0.heap.size, 0, none⟩) 1 1) [⟨39, 0, 0⟩]) := Lib.hid ⟨row_of_blk hbn rfl (by unfold maxLen; omega), fun x hx => by simp at hx; subst hx; exact ⟨by unfold wi64; decide, by unfold wi64; decide, by unfold wi64; decide⟩⟩
      clear HXn hun hbn
      refine wpHL_2 (i := 0) (j := 7) rfl rfl (by kernel_rfl) (by decide) (by decide) (fun K HK0 => ?_) (fun K HK0 => ?_)
      · skip
        go_simp
        have HXn : Hid ((u1.alloc (.cells #[] 49)).heap[w2.heap.size]? = some (.cells #[.string s, .slice fb F.length fd, .slice ib P.length id, .slice mb M.length md, .slice xb X.length xd] 27 (0, 0))) := Lib.hid ((Below.heap_alloc _ _ _ hlt1).trans HX1.out)
        refine HK0.out _ _ (HSS.out _ HXn.out) ?_
        try simp only [Act.put, List.getElem_toArray, List.getElem_cons_succ, List.getElem_cons_zero, List.setIfInBounds_toArray, List.set_cons_zero, List.set_cons_succ]
        clear HK0
        have hun : Upd (fun _ => False) u1 (u1.alloc (.cells #[] 49)) := Upd.alloc _ _ _
        have hbn : (u1.alloc (.cells #[] 49)).heap[u1.heap.size]? = some (.cells #[] 49 (0, 0)) := blk_top' _ _ _ rfl
        have hent := bnEmpty u1 49 4 _ rfl
        generalize u1.alloc (.cells #[] 49) = u2 at HXn hun hbn hent ⊢
        have HX2 := HXn
        have hlt2 : w2.heap.size < u2.heap.size := blk_lt HX2.out
        have hst2 : u1.heap.size < u2.heap.size := blk_lt hbn
        have HV2 := Lib.hid (HV1.out.trans hun (fun _ h _ => h))
        replace HCC := Lib.hid (HCC.out.upd hun (fun _ _ h => h))
        have HE := Lib.hid hent
        clear hent
        clear HXn hun hbn
        refine wpHL_2 (i := 3) (j := 7) rfl rfl (by kernel_rfl) (by decide) (by decide) (fun K HK0 => ?_) (fun K HK0 => ?_)
        · skip
          have HSA : Hid (Src u2 4 (.slice mb M.length md) M.length (cellsL 4 M.length (metF M p q r))) := Lib.hid ((Mets.src HSm.out HRm.out lM0).upd HV2.out (fun _ _ h => h))
          refine step_append_mine rfl (.tmp 63) (.tmp 65) 25 rfl 0 49 i0 (.agg #[.slice none 0 0, .int .i64 0, .slice none 0 0, .slice none 0 0]) 4 80 Tryd.underlying25 hi hz0 hz1 hz2 rfl (by decide) (.slice (some ⟨u1.heap.size, 0, none⟩) 0 0) 0 [] rfl HE.out M.length (cellsL 4 M.length (metF M p q r)) HSA.out (by unfold maxLen; omega) (by omega) (Nat.zero_le _) ?_
          intro va u3 ho hg hf
          have hun : Upd (fun k => (Value.slice (some ⟨u1.heap.size, 0, none⟩) 0 0).ownBlock = some k) u2 u3 := Upd.grown hg (fun k h => .inl h)
          have HX3 : Hid (u3.heap[w2.heap.size]? = some (.cells #[.string s, .slice fb F.length fd, .slice ib P.length id, .slice mb M.length md, .slice xb X.length xd] 27 (0, 0))) := Lib.hid ((hun.block _ hlt2 (fun h => by simp [Value.ownBlock] at h; omega)).trans HX2.out)
          refine HK0.out _ _ (HSS.out _ HX3.out) ?_
          try simp only [Act.put, List.getElem_toArray, List.getElem_cons_succ, List.getElem_cons_zero, List.setIfInBounds_toArray, List.set_cons_zero, List.set_cons_succ]
          clear HK0 HSA
          have hlt3 : w2.heap.size < u3.heap.size := blk_lt HX3.out
          have hst3 : u2.heap.size ≤ u3.heap.size := hun.size
          have HV3 := Lib.hid (HV2.out.trans hun (fun j h hl => by simp [Value.ownBlock] at h; omega))
          replace HCC := Lib.hid (HCC.out.upd hun (fun j hj h => by simp [Value.ownBlock] at hj h; omega))
          rw [Nat.zero_add, List.nil_append] at ho
          skip
          obtain ⟨vb, vcap, rfl, -, -, hvb2⟩ := row_head ho lM0
          have hvb1 : vb = u1.heap.size ∨ u2.heap.size ≤ vb := by
            rcases hf vb rfl with h | h
            · simp [Value.ownBlock] at h; omega
            · exact .inr h
          have HA := Lib.hid ho
          clear ho hg hf hun HE
          refine wpHL_1 (i := 7) rfl (by kernel_rfl) (by decide) (fun K HK0 => ?_)
          refine step_make_full rfl (.tmp 69) (.tmp 69) 23 rfl 3 j0 (.int .i64 0) 1 Tryd.underlying23 hj hy0 hy1 z rfl rfl (by rw [hy2]; omega) (by unfold maxLen; omega) ?_
          intro u4 ho hg
          have hun : Upd (fun _ => False) u3 u4 := Upd.grown hg (fun k hk => by cases hk)
          have HX4 : Hid (u4.heap[w2.heap.size]? = some (.cells #[.string s, .slice fb F.length fd, .slice ib P.length id, .slice mb M.length md, .slice xb X.length xd] 27 (0, 0))) := Lib.hid ((hun.block _ hlt3 (fun h => h)).trans HX3.out)
          refine HK0.out _ _ (HSS.out _ HX4.out) ?_
          try simp only [Act.put, List.getElem_toArray, List.getElem_cons_succ, List.getElem_cons_zero, List.setIfInBounds_toArray, List.set_cons_zero, List.set_cons_succ]
          clear HK0
          have hlt4 : w2.heap.size < u4.heap.size := blk_lt HX4.out
          have hst4 : u3.heap.size < u4.heap.size := (ho.lt _ rfl).2
          have HV4 := Lib.hid (HV3.out.trans hun (fun _ h _ => h))
          replace HA := Lib.hid (ownsRow_upd HA.out hun (fun _ _ h => h))
          replace HCC := Lib.hid (HCC.out.upd hun (fun _ _ h => h))
          have HKK : Hid (WRow u4 (.slice (some ⟨u3.heap.size, 0, none⟩) z z) (List.replicate z 0)) := Lib.hid ⟨by rw [List.length_replicate, ← made_iv]; simpa using ho, fun n hn => by rw [List.eq_of_mem_replicate hn]; unfold wi64; omega⟩
          clear ho hg hun
          have hHeld := HSS.out _ HX4.out
          refine wpHL_take (i := 10) (v := .agg #[.slice (some ⟨u3.heap.size, 0, none⟩) z z, .int .i64 0, .slice none 0 0, .slice (some ⟨u0.heap.size, 0, none⟩) 1 1]) rfl (by kernel_rfl) (fun _ _ _ h => h) hHeld (Or.inl ⟨by rfl, ?_⟩) ?_
          · (intro w hSw; kernel_rfl)
          simp only [Act.put, List.getElem_toArray, List.getElem_cons_succ, List.getElem_cons_zero, List.setIfInBounds_toArray, List.set_cons_zero, List.set_cons_succ]
          clear hHeld
          refine wpHL_1 (i := 11) rfl (by kernel_rfl) (by decide) (fun K HK0 => ?_)
          go_simp
          have HXn : Hid ((u4.alloc (.cells #[.slice (some ⟨u3.heap.size, 0, none⟩) z z, .int .i64 0, .slice none 0 0, .slice (some ⟨u0.heap.size, 0, none⟩) 1 1] 49)).heap[w2.heap.size]? = some (.cells #[.string s, .slice fb F.length fd, .slice ib P.length id, .slice mb M.length md, .slice xb X.length xd] 27 (0, 0))) := Lib.hid ((Below.heap_alloc _ _ _ hlt4).trans HX4.out)
          refine HK0.out _ _ (HSS.out _ HXn.out) ?_
          try simp only [Act.put, List.getElem_toArray, List.getElem_cons_succ, List.getElem_cons_zero, List.setIfInBounds_toArray, List.set_cons_zero, List.set_cons_succ]
          clear HK0
          have hun : Upd (fun _ => False) u4 (u4.alloc (.cells #[.slice (some ⟨u3.heap.size, 0, none⟩) z z, .int .i64 0, .slice none 0 0, .slice (some ⟨u0.heap.size, 0, none⟩) 1 1] 49)) := Upd.alloc _ _ _
          have hbn : (u4.alloc (.cells #[.slice (some ⟨u3.heap.size, 0, none⟩) z z, .int .i64 0, .slice none 0 0, .slice (some ⟨u0.heap.size, 0, none⟩) 1 1] 49)).heap[u4.heap.size]? = some (.cells #[.slice (some ⟨u3.heap.size, 0, none⟩) z z, .int .i64 0, .slice none 0 0, .slice (some ⟨u0.heap.size, 0, none⟩) 1 1] 49 (0, 0)) := blk_top' _ _ _ rfl
          have hent := srcAt u4 49 #[.slice (some ⟨u3.heap.size, 0, none⟩) z z, .int .i64 0, .slice none 0 0, .slice (some ⟨u0.heap.size, 0, none⟩) 1 1] [.slice (some ⟨u3.heap.size, 0, none⟩) z z, .int .i64 0, .slice none 0 0, .slice (some ⟨u0.heap.size, 0, none⟩) 1 1] rfl 4 (by simp [Value.oneCell']) 1 1 _ rfl rfl
          generalize u4.alloc (.cells #[.slice (some ⟨u3.heap.size, 0, none⟩) z z, .int .i64 0, .slice none 0 0, .slice (some ⟨u0.heap.size, 0, none⟩) 1 1] 49) = u5 at HXn hun hbn hent ⊢
          have HX5 := HXn
          have hlt5 : w2.heap.size < u5.heap.size := blk_lt HX5.out
          have hst5 : u4.heap.size < u5.heap.size := blk_lt hbn
          have HV5 := Lib.hid (HV4.out.trans hun (fun _ h _ => h))
          replace HA := Lib.hid (ownsRow_upd HA.out hun (fun _ _ h => h))
          replace HKK := Lib.hid (HKK.out.upd hun (fun _ _ h => h))
          replace HCC := Lib.hid (HCC.out.upd hun (fun _ _ h => h))
          have HTT := Lib.hid hent
          clear hent
          clear HXn hun hbn
          refine wpHL_1 (i := 12) rfl (by kernel_rfl) (by decide) (fun K HK0 => ?_)
          refine step_append_mine rfl (.tmp 66) (.tmp 74) 25 rfl 0 49 i0 (.agg #[.slice none 0 0, .int .i64 0, .slice none 0 0, .slice none 0 0]) 4 80 Tryd.underlying25 hi hz0 hz1 hz2 rfl (by decide) (.slice (some ⟨vb, 0, none⟩) M.length vcap) M.length (cellsL 4 M.length (metF M p q r)) rfl HA.out 1 [.slice (some ⟨u3.heap.size, 0, none⟩) z z, .int .i64 0, .slice none 0 0, .slice (some ⟨u0.heap.size, 0, none⟩) 1 1] HTT.out (by unfold maxLen; omega) (by omega) (Nat.zero_le _) ?_
          intro v6 u6 ho hg hf
          have hun : Upd (fun k => (Value.slice (some ⟨vb, 0, none⟩) M.length vcap).ownBlock = some k) u5 u6 := Upd.grown hg (fun k h => .inl h)
          have HX6 : Hid (u6.heap[w2.heap.size]? = some (.cells #[.string s, .slice fb F.length fd, .slice ib P.length id, .slice mb M.length md, .slice xb X.length xd] 27 (0, 0))) := Lib.hid ((hun.block _ hlt5 (fun h => by simp [Value.ownBlock] at h; omega)).trans HX5.out)
          refine HK0.out _ _ (HSS.out _ HX6.out) ?_
          try simp only [Act.put, List.getElem_toArray, List.getElem_cons_succ, List.getElem_cons_zero, List.setIfInBounds_toArray, List.set_cons_zero, List.set_cons_succ]
          clear HK0
          have HV6 := Lib.hid (HV5.out.trans hun (fun j h hl => by simp [Value.ownBlock] at h; omega))
          replace HKK := Lib.hid (HKK.out.upd hun (fun j hj h => by simp [Value.ownBlock] at hj h; omega))
          replace HCC := Lib.hid (HCC.out.upd hun (fun j hj h => by simp [Value.ownBlock] at hj h; omega))
          obtain ⟨v6b, v6cap, rfl, -, -, hv62⟩ := row_head ho (by omega)
          have hv61 : w2.heap.size < v6b := by
            rcases hf v6b rfl with h | h
            · simp [Value.ownBlock] at h; omega
            · omega
          have HO6 := Lib.hid ho
          clear ho hg hf hun HA HTT
          have hHeld := HSS.out _ HX6.out
          refine wpHL_take (i := 13) (v := ?_) rfl (by kernel_rfl) (fun _ _ _ h => h) hHeld (Or.inl ⟨by rfl, ?_⟩) ?_
          rotate_left
          · (intro w hSw; (try dsimp only at hSw); go_simp; try with_reducible rfl)
          simp only [Act.put, List.getElem_toArray, List.getElem_cons_succ, List.getElem_cons_zero, List.setIfInBounds_toArray, List.set_cons_zero, List.set_cons_succ]
          clear hHeld
          refine wpHL_last (by kernel_rfl) ?_
          have cc3 := cells_at HX6.out 3 _ rfl
          have ff3 := cells_fr HX6.out 3
          obtain ⟨g1, g2, g3, g4⟩ := img_set3 HF.out HP.out HX.out HS.out HRm.out HWm.out HX6.out HV6.out HU2.out HR2.out HO6.out hv61 HKK.out (fun k hk => by simp [Value.ownBlock] at hk; omega) HCC.out (fun k hk => by simp [Value.ownBlock] at hk; omega)
          obtain ⟨cX0, cX1, cX2, cX3, cX4, r0, r1, r2, r3, r4, s0, s1, s2, s3, s4, hfin⟩ := bent4_end g1 g2 g3 g4
          clear g1 g2 g3 g4 HO6 HKK HCC HSm HRm HWm HSS
          have HFIN := Lib.hid hfin
          clear hfin hRX HF HP HM HX HS HU2 HR2 HT7 HT5 HT6 HA6
          go_wp2_with fail
          all_goals
            refine bodyPost_ret (v := .agg #[.string s, .slice fb F.length fd, .slice ib P.length id, .slice (some ⟨v6b, 0, none⟩) (M.length + 1) v6cap, .slice xb X.length xd]) (by simp [results, Tryd.f5, go_sem, r0, r1, r2, r3, r4]) rfl ?_
            obtain ⟨hfin, hup⟩ := HFIN.out _ (((((setAt _ _ _ _).trans (setAt _ _ _ _) (fun _ h _ => h)).trans (setAt _ _ _ _) (fun _ h _ => h)).trans (setAt _ _ _ _) (fun _ h _ => h)).trans (setAt _ _ _ _) (fun _ h _ => h))
            first | exact ⟨_, _, rfl, hfin, hup⟩ | exact ⟨_, rfl, _, hfin, hup⟩
        · skip
          refine step_make_full rfl (.tmp 69) (.tmp 69) 23 rfl 3 j0 (.int .i64 0) 1 Tryd.underlying23 hj hy0 hy1 z rfl rfl (by rw [hy2]; omega) (by unfold maxLen; omega) ?_
          intro u3 ho hg
          have hun : Upd (fun _ => False) u2 u3 := Upd.grown hg (fun k hk => by cases hk)
          have HX3 : Hid (u3.heap[w2.heap.size]? = some (.cells #[.string s, .slice fb F.length fd, .slice ib P.length id, .slice mb M.length md, .slice xb X.length xd] 27 (0, 0))) := Lib.hid ((hun.block _ hlt2 (fun h => h)).trans HX2.out)
          refine HK0.out _ _ (HSS.out _ HX3.out) ?_
          try simp only [Act.put, List.getElem_toArray, List.getElem_cons_succ, List.getElem_cons_zero, List.setIfInBounds_toArray, List.set_cons_zero, List.set_cons_succ]
          clear HK0
          have hlt3 : w2.heap.size < u3.heap.size := blk_lt HX3.out
          have hst3 : u2.heap.size < u3.heap.size := (ho.lt _ rfl).2
          have HV3 := Lib.hid (HV2.out.trans hun (fun _ h _ => h))
          replace HE := Lib.hid (ownsRow_upd HE.out hun (fun _ _ h => h))
          replace HCC := Lib.hid (HCC.out.upd hun (fun _ _ h => h))
          have HKK : Hid (WRow u3 (.slice (some ⟨u2.heap.size, 0, none⟩) z z) (List.replicate z 0)) := Lib.hid ⟨by rw [List.length_replicate, ← made_iv]; simpa using ho, fun n hn => by rw [List.eq_of_mem_replicate hn]; unfold wi64; omega⟩
          clear ho hg hun
          have hHeld := HSS.out _ HX3.out
          refine wpHL_take (i := 10) (v := .agg #[.slice (some ⟨u2.heap.size, 0, none⟩) z z, .int .i64 0, .slice none 0 0, .slice (some ⟨u0.heap.size, 0, none⟩) 1 1]) rfl (by kernel_rfl) (fun _ _ _ h => h) hHeld (Or.inl ⟨by rfl, ?_⟩) ?_
          · (intro w hSw; kernel_rfl)
          simp only [Act.put, List.getElem_toArray, List.getElem_cons_succ, List.getElem_cons_zero, List.setIfInBounds_toArray, List.set_cons_zero, List.set_cons_succ]
          clear hHeld
          refine wpHL_2 (i := 3) (j := 11) rfl rfl (by kernel_rfl) (by decide) (by decide) (fun K HK0 => ?_) (fun K HK0 => ?_)
          · skip
            have HSA : Hid (Src u3 4 (.slice mb M.length md) M.length (cellsL 4 M.length (metF M p q r))) := Lib.hid ((Mets.src HSm.out HRm.out lM0).upd HV3.out (fun _ _ h => h))
            refine step_append_mine rfl (.tmp 63) (.tmp 65) 25 rfl 0 49 i0 (.agg #[.slice none 0 0, .int .i64 0, .slice none 0 0, .slice none 0 0]) 4 80 Tryd.underlying25 hi hz0 hz1 hz2 rfl (by decide) (.slice (some ⟨u1.heap.size, 0, none⟩) 0 0) 0 [] rfl HE.out M.length (cellsL 4 M.length (metF M p q r)) HSA.out (by unfold maxLen; omega) (by omega) (Nat.zero_le _) ?_
            intro va u4 ho hg hf
            have hun : Upd (fun k => (Value.slice (some ⟨u1.heap.size, 0, none⟩) 0 0).ownBlock = some k) u3 u4 := Upd.grown hg (fun k h => .inl h)
            have HX4 : Hid (u4.heap[w2.heap.size]? = some (.cells #[.string s, .slice fb F.length fd, .slice ib P.length id, .slice mb M.length md, .slice xb X.length xd] 27 (0, 0))) := Lib.hid ((hun.block _ hlt3 (fun h => by simp [Value.ownBlock] at h; omega)).trans HX3.out)
            refine HK0.out _ _ (HSS.out _ HX4.out) ?_
            try simp only [Act.put, List.getElem_toArray, List.getElem_cons_succ, List.getElem_cons_zero, List.setIfInBounds_toArray, List.set_cons_zero, List.set_cons_succ]
            clear HK0 HSA
            have hlt4 : w2.heap.size < u4.heap.size := blk_lt HX4.out
            have hst4 : u3.heap.size ≤ u4.heap.size := hun.size
            have HV4 := Lib.hid (HV3.out.trans hun (fun j h hl => by simp [Value.ownBlock] at h; omega))
            replace HKK := Lib.hid (HKK.out.upd hun (fun j hj h => by simp [Value.ownBlock] at hj h; omega))
            replace HCC := Lib.hid (HCC.out.upd hun (fun j hj h => by simp [Value.ownBlock] at hj h; omega))
            rw [Nat.zero_add, List.nil_append] at ho
            skip
            obtain ⟨vb, vcap, rfl, -, -, hvb2⟩ := row_head ho lM0
            have hvb1 : vb = u1.heap.size ∨ u3.heap.size ≤ vb := by
              rcases hf vb rfl with h | h
              · simp [Value.ownBlock] at h; omega
              · exact .inr h
            have HA := Lib.hid ho
            clear ho hg hf hun HE
            refine wpHL_1 (i := 11) rfl (by kernel_rfl) (by decide) (fun K HK0 => ?_)
            go_simp
            have HXn : Hid ((u4.alloc (.cells #[.slice (some ⟨u2.heap.size, 0, none⟩) z z, .int .i64 0, .slice none 0 0, .slice (some ⟨u0.heap.size, 0, none⟩) 1 1] 49)).heap[w2.heap.size]? = some (.cells #[.string s, .slice fb F.length fd, .slice ib P.length id, .slice mb M.length md, .slice xb X.length xd] 27 (0, 0))) := Lib.hid ((Below.heap_alloc _ _ _ hlt4).trans HX4.out)
            refine HK0.out _ _ (HSS.out _ HXn.out) ?_
            try simp only [Act.put, List.getElem_toArray, List.getElem_cons_succ, List.getElem_cons_zero, List.setIfInBounds_toArray, List.set_cons_zero, List.set_cons_succ]
            clear HK0
            have hun : Upd (fun _ => False) u4 (u4.alloc (.cells #[.slice (some ⟨u2.heap.size, 0, none⟩) z z, .int .i64 0, .slice none 0 0, .slice (some ⟨u0.heap.size, 0, none⟩) 1 1] 49)) := Upd.alloc _ _ _
            have hbn : (u4.alloc (.cells #[.slice (some ⟨u2.heap.size, 0, none⟩) z z, .int .i64 0, .slice none 0 0, .slice (some ⟨u0.heap.size, 0, none⟩) 1 1] 49)).heap[u4.heap.size]? = some (.cells #[.slice (some ⟨u2.heap.size, 0, none⟩) z z, .int .i64 0, .slice none 0 0, .slice (some ⟨u0.heap.size, 0, none⟩) 1 1] 49 (0, 0)) := blk_top' _ _ _ rfl
            have hent := srcAt u4 49 #[.slice (some ⟨u2.heap.size, 0, none⟩) z z, .int .i64 0, .slice none 0 0, .slice (some ⟨u0.heap.size, 0, none⟩) 1 1] [.slice (some ⟨u2.heap.size, 0, none⟩) z z, .int .i64 0, .slice none 0 0, .slice (some ⟨u0.heap.size, 0, none⟩) 1 1] rfl 4 (by simp [Value.oneCell']) 1 1 _ rfl rfl
            generalize u4.alloc (.cells #[.slice (some ⟨u2.heap.size, 0, none⟩) z z, .int .i64 0, .slice none 0 0, .slice (some ⟨u0.heap.size, 0, none⟩) 1 1] 49) = u5 at HXn hun hbn hent ⊢
            have HX5 := HXn
            have hlt5 : w2.heap.size < u5.heap.size := blk_lt HX5.out
            have hst5 : u4.heap.size < u5.heap.size := blk_lt hbn
            have HV5 := Lib.hid (HV4.out.trans hun (fun _ h _ => h))
            replace HA := Lib.hid (ownsRow_upd HA.out hun (fun _ _ h => h))
            replace HKK := Lib.hid (HKK.out.upd hun (fun _ _ h => h))
            replace HCC := Lib.hid (HCC.out.upd hun (fun _ _ h => h))
            have HTT := Lib.hid hent
            clear hent
            clear HXn hun hbn
            refine wpHL_1 (i := 12) rfl (by kernel_rfl) (by decide) (fun K HK0 => ?_)
            refine step_append_mine rfl (.tmp 66) (.tmp 74) 25 rfl 0 49 i0 (.agg #[.slice none 0 0, .int .i64 0, .slice none 0 0, .slice none 0 0]) 4 80 Tryd.underlying25 hi hz0 hz1 hz2 rfl (by decide) (.slice (some ⟨vb, 0, none⟩) M.length vcap) M.length (cellsL 4 M.length (metF M p q r)) rfl HA.out 1 [.slice (some ⟨u2.heap.size, 0, none⟩) z z, .int .i64 0, .slice none 0 0, .slice (some ⟨u0.heap.size, 0, none⟩) 1 1] HTT.out (by unfold maxLen; omega) (by omega) (Nat.zero_le _) ?_
            intro v6 u6 ho hg hf
            have hun : Upd (fun k => (Value.slice (some ⟨vb, 0, none⟩) M.length vcap).ownBlock = some k) u5 u6 := Upd.grown hg (fun k h => .inl h)
            have HX6 : Hid (u6.heap[w2.heap.size]? = some (.cells #[.string s, .slice fb F.length fd, .slice ib P.length id, .slice mb M.length md, .slice xb X.length xd] 27 (0, 0))) := Lib.hid ((hun.block _ hlt5 (fun h => by simp [Value.ownBlock] at h; omega)).trans HX5.out)
            refine HK0.out _ _ (HSS.out _ HX6.out) ?_
            try simp only [Act.put, List.getElem_toArray, List.getElem_cons_succ, List.getElem_cons_zero, List.setIfInBounds_toArray, List.set_cons_zero, List.set_cons_succ]
            clear HK0
            have HV6 := Lib.hid (HV5.out.trans hun (fun j h hl => by simp [Value.ownBlock] at h; omega))
            replace HKK := Lib.hid (HKK.out.upd hun (fun j hj h => by simp [Value.ownBlock] at hj h; omega))
            replace HCC := Lib.hid (HCC.out.upd hun (fun j hj h => by simp [Value.ownBlock] at hj h; omega))
            obtain ⟨v6b, v6cap, rfl, -, -, hv62⟩ := row_head ho (by omega)
            have hv61 : w2.heap.size < v6b := by
              rcases hf v6b rfl with h | h
              · simp [Value.ownBlock] at h; omega
              · omega
            have HO6 := Lib.hid ho
            clear ho hg hf hun HA HTT
            have hHeld := HSS.out _ HX6.out
            refine wpHL_take (i := 13) (v := ?_) rfl (by kernel_rfl) (fun _ _ _ h => h) hHeld (Or.inl ⟨by rfl, ?_⟩) ?_
            rotate_left
            · (intro w hSw; (try dsimp only at hSw); go_simp; try with_reducible rfl)
            simp only [Act.put, List.getElem_toArray, List.getElem_cons_succ, List.getElem_cons_zero, List.setIfInBounds_toArray, List.set_cons_zero, List.set_cons_succ]
            clear hHeld
            refine wpHL_last (by kernel_rfl) ?_
            have cc3 := cells_at HX6.out 3 _ rfl
            have ff3 := cells_fr HX6.out 3
            obtain ⟨g1, g2, g3, g4⟩ := img_set3 HF.out HP.out HX.out HS.out HRm.out HWm.out HX6.out HV6.out HU2.out HR2.out HO6.out hv61 HKK.out (fun k hk => by simp [Value.ownBlock] at hk; omega) HCC.out (fun k hk => by simp [Value.ownBlock] at hk; omega)
            obtain ⟨cX0, cX1, cX2, cX3, cX4, r0, r1, r2, r3, r4, s0, s1, s2, s3, s4, hfin⟩ := bent4_end g1 g2 g3 g4
            clear g1 g2 g3 g4 HO6 HKK HCC HSm HRm HWm HSS
            have HFIN := Lib.hid hfin
            clear hfin hRX HF HP HM HX HS HU2 HR2 HT7 HT5 HT6 HA6
            go_wp2_with fail
            all_goals
              refine bodyPost_ret (v := .agg #[.string s, .slice fb F.length fd, .slice ib P.length id, .slice (some ⟨v6b, 0, none⟩) (M.length + 1) v6cap, .slice xb X.length xd]) (by simp [results, Tryd.f5, go_sem, r0, r1, r2, r3, r4]) rfl ?_
              obtain ⟨hfin, hup⟩ := HFIN.out _ (((((setAt _ _ _ _).trans (setAt _ _ _ _) (fun _ h _ => h)).trans (setAt _ _ _ _) (fun _ h _ => h)).trans (setAt _ _ _ _) (fun _ h _ => h)).trans (setAt _ _ _ _) (fun _ h _ => h))
              first | exact ⟨_, _, rfl, hfin, hup⟩ | exact ⟨_, rfl, _, hfin, hup⟩
          · skip
            go_simp
            have HXn : Hid ((u3.alloc (.cells #[.slice (some ⟨u2.heap.size, 0, none⟩) z z, .int .i64 0, .slice none 0 0, .slice (some ⟨u0.heap.size, 0, none⟩) 1 1] 49)).heap[w2.heap.size]? = some (.cells #[.string s, .slice fb F.length fd, .slice ib P.length id, .slice mb M.length md, .slice xb X.length xd] 27 (0, 0))) := Lib.hid ((Below.heap_alloc _ _ _ hlt3).trans HX3.out)
            refine HK0.out _ _ (HSS.out _ HXn.out) ?_
            try simp only [Act.put, List.getElem_toArray, List.getElem_cons_succ, List.getElem_cons_zero, List.setIfInBounds_toArray, List.set_cons_zero, List.set_cons_succ]
            clear HK0
            have hun : Upd (fun _ => False) u3 (u3.alloc (.cells #[.slice (some ⟨u2.heap.size, 0, none⟩) z z, .int .i64 0, .slice none 0 0, .slice (some ⟨u0.heap.size, 0, none⟩) 1 1] 49)) := Upd.alloc _ _ _
            have hbn : (u3.alloc (.cells #[.slice (some ⟨u2.heap.size, 0, none⟩) z z, .int .i64 0, .slice none 0 0, .slice (some ⟨u0.heap.size, 0, none⟩) 1 1] 49)).heap[u3.heap.size]? = some (.cells #[.slice (some ⟨u2.heap.size, 0, none⟩) z z, .int .i64 0, .slice none 0 0, .slice (some ⟨u0.heap.size, 0, none⟩) 1 1] 49 (0, 0)) := blk_top' _ _ _ rfl
            have hent := srcAt u3 49 #[.slice (some ⟨u2.heap.size, 0, none⟩) z z, .int .i64 0, .slice none 0 0, .slice (some ⟨u0.heap.size, 0, none⟩) 1 1] [.slice (some ⟨u2.heap.size, 0, none⟩) z z, .int .i64 0, .slice none 0 0, .slice (some ⟨u0.heap.size, 0, none⟩) 1 1] rfl 4 (by simp [Value.oneCell']) 1 1 _ rfl rfl
            generalize u3.alloc (.cells #[.slice (some ⟨u2.heap.size, 0, none⟩) z z, .int .i64 0, .slice none 0 0, .slice (some ⟨u0.heap.size, 0, none⟩) 1 1] 49) = u4 at HXn hun hbn hent ⊢
            have HX4 := HXn
            have hlt4 : w2.heap.size < u4.heap.size := blk_lt HX4.out
            have hst4 : u3.heap.size < u4.heap.size := blk_lt hbn
            have HV4 := Lib.hid (HV3.out.trans hun (fun _ h _ => h))
            replace HE := Lib.hid (ownsRow_upd HE.out hun (fun _ _ h => h))
            replace HKK := Lib.hid (HKK.out.upd hun (fun _ _ h => h))
            replace HCC := Lib.hid (HCC.out.upd hun (fun _ _ h => h))
            have HTT := Lib.hid hent
            clear hent
            clear HXn hun hbn
            refine wpHL_1 (i := 3) rfl (by kernel_rfl) (by decide) (fun K HK0 => ?_)
            have HSA : Hid (Src u4 4 (.slice mb M.length md) M.length (cellsL 4 M.length (metF M p q r))) := Lib.hid ((Mets.src HSm.out HRm.out lM0).upd HV4.out (fun _ _ h => h))
            refine step_append_mine rfl (.tmp 63) (.tmp 65) 25 rfl 0 49 i0 (.agg #[.slice none 0 0, .int .i64 0, .slice none 0 0, .slice none 0 0]) 4 80 Tryd.underlying25 hi hz0 hz1 hz2 rfl (by decide) (.slice (some ⟨u1.heap.size, 0, none⟩) 0 0) 0 [] rfl HE.out M.length (cellsL 4 M.length (metF M p q r)) HSA.out (by unfold maxLen; omega) (by omega) (Nat.zero_le _) ?_
            intro va u5 ho hg hf
            have hun : Upd (fun k => (Value.slice (some ⟨u1.heap.size, 0, none⟩) 0 0).ownBlock = some k) u4 u5 := Upd.grown hg (fun k h => .inl h)
            have HX5 : Hid (u5.heap[w2.heap.size]? = some (.cells #[.string s, .slice fb F.length fd, .slice ib P.length id, .slice mb M.length md, .slice xb X.length xd] 27 (0, 0))) := Lib.hid ((hun.block _ hlt4 (fun h => by simp [Value.ownBlock] at h; omega)).trans HX4.out)
            refine HK0.out _ _ (HSS.out _ HX5.out) ?_
            try simp only [Act.put, List.getElem_toArray, List.getElem_cons_succ, List.getElem_cons_zero, List.setIfInBounds_toArray, List.set_cons_zero, List.set_cons_succ]
            clear HK0 HSA
            have hlt5 : w2.heap.size < u5.heap.size := blk_lt HX5.out
            have hst5 : u4.heap.size ≤ u5.heap.size := hun.size
            have HV5 := Lib.hid (HV4.out.trans hun (fun j h hl => by simp [Value.ownBlock] at h; omega))
            replace HKK := Lib.hid (HKK.out.upd hun (fun j hj h => by simp [Value.ownBlock] at hj h; omega))
            replace HCC := Lib.hid (HCC.out.upd hun (fun j hj h => by simp [Value.ownBlock] at hj h; omega))
            replace HTT := Lib.hid (HTT.out.upd hun (fun j hj h => by simp [Value.ownBlock] at hj h; omega))
            rw [Nat.zero_add, List.nil_append] at ho
            skip
            obtain ⟨vb, vcap, rfl, -, -, hvb2⟩ := row_head ho lM0
            have hvb1 : vb = u1.heap.size ∨ u4.heap.size ≤ vb := by
              rcases hf vb rfl with h | h
              · simp [Value.ownBlock] at h; omega
              · exact .inr h
            have HA := Lib.hid ho
            clear ho hg hf hun HE
            refine wpHL_1 (i := 12) rfl (by kernel_rfl) (by decide) (fun K HK0 => ?_)
            refine step_append_mine rfl (.tmp 66) (.tmp 74) 25 rfl 0 49 i0 (.agg #[.slice none 0 0, .int .i64 0, .slice none 0 0, .slice none 0 0]) 4 80 Tryd.underlying25 hi hz0 hz1 hz2 rfl (by decide) (.slice (some ⟨vb, 0, none⟩) M.length vcap) M.length (cellsL 4 M.length (metF M p q r)) rfl HA.out 1 [.slice (some ⟨u2.heap.size, 0, none⟩) z z, .int .i64 0, .slice none 0 0, .slice (some ⟨u0.heap.size, 0, none⟩) 1 1] HTT.out (by unfold maxLen; omega) (by omega) (Nat.zero_le _) ?_
            intro v6 u6 ho hg hf
            have hun : Upd (fun k => (Value.slice (some ⟨vb, 0, none⟩) M.length vcap).ownBlock = some k) u5 u6 := Upd.grown hg (fun k h => .inl h)
            have HX6 : Hid (u6.heap[w2.heap.size]? = some (.cells #[.string s, .slice fb F.length fd, .slice ib P.length id, .slice mb M.length md, .slice xb X.length xd] 27 (0, 0))) := Lib.hid ((hun.block _ hlt5 (fun h => by simp [Value.ownBlock] at h; omega)).trans HX5.out)
            refine HK0.out _ _ (HSS.out _ HX6.out) ?_
            try simp only [Act.put, List.getElem_toArray, List.getElem_cons_succ, List.getElem_cons_zero, List.setIfInBounds_toArray, List.set_cons_zero, List.set_cons_succ]
            clear HK0
            have HV6 := Lib.hid (HV5.out.trans hun (fun j h hl => by simp [Value.ownBlock] at h; omega))
            replace HKK := Lib.hid (HKK.out.upd hun (fun j hj h => by simp [Value.ownBlock] at hj h; omega))
            replace HCC := Lib.hid (HCC.out.upd hun (fun j hj h => by simp [Value.ownBlock] at hj h; omega))
            obtain ⟨v6b, v6cap, rfl, -, -, hv62⟩ := row_head ho (by omega)
            have hv61 : w2.heap.size < v6b := by
              rcases hf v6b rfl with h | h
              · simp [Value.ownBlock] at h; omega
              · omega
            have HO6 := Lib.hid ho
            clear ho hg hf hun HA HTT
            have hHeld := HSS.out _ HX6.out
            refine wpHL_take (i := 13) (v := ?_) rfl (by kernel_rfl) (fun _ _ _ h => h) hHeld (Or.inl ⟨by rfl, ?_⟩) ?_
            rotate_left
            · (intro w hSw; (try dsimp only at hSw); go_simp; try with_reducible rfl)
            simp only [Act.put, List.getElem_toArray, List.getElem_cons_succ, List.getElem_cons_zero, List.setIfInBounds_toArray, List.set_cons_zero, List.set_cons_succ]
            clear hHeld
            refine wpHL_last (by kernel_rfl) ?_
            have cc3 := cells_at HX6.out 3 _ rfl
            have ff3 := cells_fr HX6.out 3
            obtain ⟨g1, g2, g3, g4⟩ := img_set3 HF.out HP.out HX.out HS.out HRm.out HWm.out HX6.out HV6.out HU2.out HR2.out HO6.out hv61 HKK.out (fun k hk => by simp [Value.ownBlock] at hk; omega) HCC.out (fun k hk => by simp [Value.ownBlock] at hk; omega)
            obtain ⟨cX0, cX1, cX2, cX3, cX4, r0, r1, r2, r3, r4, s0, s1, s2, s3, s4, hfin⟩ := bent4_end g1 g2 g3 g4
            clear g1 g2 g3 g4 HO6 HKK HCC HSm HRm HWm HSS
            have HFIN := Lib.hid hfin
            clear hfin hRX HF HP HM HX HS HU2 HR2 HT7 HT5 HT6 HA6
            go_wp2_with fail
            all_goals
              refine bodyPost_ret (v := .agg #[.string s, .slice fb F.length fd, .slice ib P.length id, .slice (some ⟨v6b, 0, none⟩) (M.length + 1) v6cap, .slice xb X.length xd]) (by simp [results, Tryd.f5, go_sem, r0, r1, r2, r3, r4]) rfl ?_
              obtain ⟨hfin, hup⟩ := HFIN.out _ (((((setAt _ _ _ _).trans (setAt _ _ _ _) (fun _ h _ => h)).trans (setAt _ _ _ _) (fun _ h _ => h)).trans (setAt _ _ _ _) (fun _ h _ => h)).trans (setAt _ _ _ _) (fun _ h _ => h))
              first | exact ⟨_, _, rfl, hfin, hup⟩ | exact ⟨_, rfl, _, hfin, hup⟩
      · skip
        refine step_make_full rfl (.tmp 69) (.tmp 69) 23 rfl 3 j0 (.int .i64 0) 1 Tryd.underlying23 hj hy0 hy1 z rfl rfl (by rw [hy2]; omega) (by unfold maxLen; omega) ?_
        intro u2 ho hg
        have hun : Upd (fun _ => False) u1 u2 := Upd.grown hg (fun k hk => by cases hk)
        have HX2 : Hid (u2.heap[w2.heap.size]? = some (.cells #[.string s, .slice fb F.length fd, .slice ib P.length id, .slice mb M.length md, .slice xb X.length xd] 27 (0, 0))) := Lib.hid ((hun.block _ hlt1 (fun h => h)).trans HX1.out)
        refine HK0.out _ _ (HSS.out _ HX2.out) ?_
        try simp only [Act.put, List.getElem_toArray, List.getElem_cons_succ, List.getElem_cons_zero, List.setIfInBounds_toArray, List.set_cons_zero, List.set_cons_succ]
        clear HK0
        have hlt2 : w2.heap.size < u2.heap.size := blk_lt HX2.out
        have hst2 : u1.heap.size < u2.heap.size := (ho.lt _ rfl).2
        have HV2 := Lib.hid (HV1.out.trans hun (fun _ h _ => h))
        replace HCC := Lib.hid (HCC.out.upd hun (fun _ _ h => h))
        have HKK : Hid (WRow u2 (.slice (some ⟨u1.heap.size, 0, none⟩) z z) (List.replicate z 0)) := Lib.hid ⟨by rw [List.length_replicate, ← made_iv]; simpa using ho, fun n hn => by rw [List.eq_of_mem_replicate hn]; unfold wi64; omega⟩
        clear ho hg hun
        have hHeld := HSS.out _ HX2.out
        refine wpHL_take (i := 10) (v := .agg #[.slice (some ⟨u1.heap.size, 0, none⟩) z z, .int .i64 0, .slice none 0 0, .slice (some ⟨u0.heap.size, 0, none⟩) 1 1]) rfl (by kernel_rfl) (fun _ _ _ h => h) hHeld (Or.inl ⟨by rfl, ?_⟩) ?_
        · (intro w hSw; kernel_rfl)
        simp only [Act.put, List.getElem_toArray, List.getElem_cons_succ, List.getElem_cons_zero, List.setIfInBounds_toArray, List.set_cons_zero, List.set_cons_succ]
        clear hHeld
        refine wpHL_2 (i := 0) (j := 11) rfl rfl (by kernel_rfl) (by decide) (by decide) (fun K HK0 => ?_) (fun K HK0 => ?_)
        · skip
          go_simp
          have HXn : Hid ((u2.alloc (.cells #[] 49)).heap[w2.heap.size]? = some (.cells #[.string s, .slice fb F.length fd, .slice ib P.length id, .slice mb M.length md, .slice xb X.length xd] 27 (0, 0))) := Lib.hid ((Below.heap_alloc _ _ _ hlt2).trans HX2.out)
          refine HK0.out _ _ (HSS.out _ HXn.out) ?_
          try simp only [Act.put, List.getElem_toArray, List.getElem_cons_succ, List.getElem_cons_zero, List.setIfInBounds_toArray, List.set_cons_zero, List.set_cons_succ]
          clear HK0
          have hun : Upd (fun _ => False) u2 (u2.alloc (.cells #[] 49)) := Upd.alloc _ _ _
          have hbn : (u2.alloc (.cells #[] 49)).heap[u2.heap.size]? = some (.cells #[] 49 (0, 0)) := blk_top' _ _ _ rfl
          have hent := bnEmpty u2 49 4 _ rfl
          generalize u2.alloc (.cells #[] 49) = u3 at HXn hun hbn hent ⊢
          have HX3 := HXn
          have hlt3 : w2.heap.size < u3.heap.size := blk_lt HX3.out
          have hst3 : u2.heap.size < u3.heap.size := blk_lt hbn
          have HV3 := Lib.hid (HV2.out.trans hun (fun _ h _ => h))
          replace HKK := Lib.hid (HKK.out.upd hun (fun _ _ h => h))
          replace HCC := Lib.hid (HCC.out.upd hun (fun _ _ h => h))
          have HE := Lib.hid hent
          clear hent
          clear HXn hun hbn
          refine wpHL_2 (i := 3) (j := 11) rfl rfl (by kernel_rfl) (by decide) (by decide) (fun K HK0 => ?_) (fun K HK0 => ?_)
          · skip
            have HSA : Hid (Src u3 4 (.slice mb M.length md) M.length (cellsL 4 M.length (metF M p q r))) := Lib.hid ((Mets.src HSm.out HRm.out lM0).upd HV3.out (fun _ _ h => h))
            refine step_append_mine rfl (.tmp 63) (.tmp 65) 25 rfl 0 49 i0 (.agg #[.slice none 0 0, .int .i64 0, .slice none 0 0, .slice none 0 0]) 4 80 Tryd.underlying25 hi hz0 hz1 hz2 rfl (by decide) (.slice (some ⟨u2.heap.size, 0, none⟩) 0 0) 0 [] rfl HE.out M.length (cellsL 4 M.length (metF M p q r)) HSA.out (by unfold maxLen; omega) (by omega) (Nat.zero_le _) ?_
            intro va u4 ho hg hf
            have hun : Upd (fun k => (Value.slice (some ⟨u2.heap.size, 0, none⟩) 0 0).ownBlock = some k) u3 u4 := Upd.grown hg (fun k h => .inl h)
            have HX4 : Hid (u4.heap[w2.heap.size]? = some (.cells #[.string s, .slice fb F.length fd, .slice ib P.length id, .slice mb M.length md, .slice xb X.length xd] 27 (0, 0))) := Lib.hid ((hun.block _ hlt3 (fun h => by simp [Value.ownBlock] at h; omega)).trans HX3.out)
            refine HK0.out _ _ (HSS.out _ HX4.out) ?_
            try simp only [Act.put, List.getElem_toArray, List.getElem_cons_succ, List.getElem_cons_zero, List.setIfInBounds_toArray, List.set_cons_zero, List.set_cons_succ]
            clear HK0 HSA
            have hlt4 : w2.heap.size < u4.heap.size := blk_lt HX4.out
            have hst4 : u3.heap.size ≤ u4.heap.size := hun.size
            have HV4 := Lib.hid (HV3.out.trans hun (fun j h hl => by simp [Value.ownBlock] at h; omega))
            replace HKK := Lib.hid (HKK.out.upd hun (fun j hj h => by simp [Value.ownBlock] at hj h; omega))
            replace HCC := Lib.hid (HCC.out.upd hun (fun j hj h => by simp [Value.ownBlock] at hj h; omega))
            rw [Nat.zero_add, List.nil_append] at ho
            skip
            obtain ⟨vb, vcap, rfl, -, -, hvb2⟩ := row_head ho lM0
            have hvb1 : vb = u2.heap.size ∨ u3.heap.size ≤ vb := by
              rcases hf vb rfl with h | h
              · simp [Value.ownBlock] at h; omega
              · exact .inr h
            have HA := Lib.hid ho
            clear ho hg hf hun HE
            refine wpHL_1 (i := 11) rfl (by kernel_rfl) (by decide) (fun K HK0 => ?_)
            go_simp
            have HXn : Hid ((u4.alloc (.cells #[.slice (some ⟨u1.heap.size, 0, none⟩) z z, .int .i64 0, .slice none 0 0, .slice (some ⟨u0.heap.size, 0, none⟩) 1 1] 49)).heap[w2.heap.size]? = some (.cells #[.string s, .slice fb F.length fd, .slice ib P.length id, .slice mb M.length md, .slice xb X.length xd] 27 (0, 0))) := Lib.hid ((Below.heap_alloc _ _ _ hlt4).trans HX4.out)
            refine HK0.out _ _ (HSS.out _ HXn.out) ?_
            try simp only [Act.put, List.getElem_toArray, List.getElem_cons_succ, List.getElem_cons_zero, List.setIfInBounds_toArray, List.set_cons_zero, List.set_cons_succ]
            clear HK0
            have hun : Upd (fun _ => False) u4 (u4.alloc (.cells #[.slice (some ⟨u1.heap.size, 0, none⟩) z z, .int .i64 0, .slice none 0 0, .slice (some ⟨u0.heap.size, 0, none⟩) 1 1] 49)) := Upd.alloc _ _ _
            have hbn : (u4.alloc (.cells #[.slice (some ⟨u1.heap.size, 0, none⟩) z z, .int .i64 0, .slice none 0 0, .slice (some ⟨u0.heap.size, 0, none⟩) 1 1] 49)).heap[u4.heap.size]? = some (.cells #[.slice (some ⟨u1.heap.size, 0, none⟩) z z, .int .i64 0, .slice none 0 0, .slice (some ⟨u0.heap.size, 0, none⟩) 1 1] 49 (0, 0)) := blk_top' _ _ _ rfl
            have hent := srcAt u4 49 #[.slice (some ⟨u1.heap.size, 0, none⟩) z z, .int .i64 0, .slice none 0 0, .slice (some ⟨u0.heap.size, 0, none⟩) 1 1] [.slice (some ⟨u1.heap.size, 0, none⟩) z z, .int .i64 0, .slice none 0 0, .slice (some ⟨u0.heap.size, 0, none⟩) 1 1] rfl 4 (by simp [Value.oneCell']) 1 1 _ rfl rfl
            generalize u4.alloc (.cells #[.slice (some ⟨u1.heap.size, 0, none⟩) z z, .int .i64 0, .slice none 0 0, .slice (some ⟨u0.heap.size, 0, none⟩) 1 1] 49) = u5 at HXn hun hbn hent ⊢
            have HX5 := HXn
            have hlt5 : w2.heap.size < u5.heap.size := blk_lt HX5.out
            have hst5 : u4.heap.size < u5.heap.size := blk_lt hbn
            have HV5 := Lib.hid (HV4.out.trans hun (fun _ h _ => h))
            replace HA := Lib.hid (ownsRow_upd HA.out hun (fun _ _ h => h))
            replace HKK := Lib.hid (HKK.out.upd hun (fun _ _ h => h))
            replace HCC := Lib.hid (HCC.out.upd hun (fun _ _ h => h))
            have HTT := Lib.hid hent
            clear hent
            clear HXn hun hbn
            refine wpHL_1 (i := 12) rfl (by kernel_rfl) (by decide) (fun K HK0 => ?_)
            refine step_append_mine rfl (.tmp 66) (.tmp 74) 25 rfl 0 49 i0 (.agg #[.slice none 0 0, .int .i64 0, .slice none 0 0, .slice none 0 0]) 4 80 Tryd.underlying25 hi hz0 hz1 hz2 rfl (by decide) (.slice (some ⟨vb, 0, none⟩) M.length vcap) M.length (cellsL 4 M.length (metF M p q r)) rfl HA.out 1 [.slice (some ⟨u1.heap.size, 0, none⟩) z z, .int .i64 0, .slice none 0 0, .slice (some ⟨u0.heap.size, 0, none⟩) 1 1] HTT.out (by unfold maxLen; omega) (by omega) (Nat.zero_le _) ?_
            intro v6 u6 ho hg hf
            have hun : Upd (fun k => (Value.slice (some ⟨vb, 0, none⟩) M.length vcap).ownBlock = some k) u5 u6 := Upd.grown hg (fun k h => .inl h)
            have HX6 : Hid (u6.heap[w2.heap.size]? = some (.cells #[.string s, .slice fb F.length fd, .slice ib P.length id, .slice mb M.length md, .slice xb X.length xd] 27 (0, 0))) := Lib.hid ((hun.block _ hlt5 (fun h => by simp [Value.ownBlock] at h; omega)).trans HX5.out)
            refine HK0.out _ _ (HSS.out _ HX6.out) ?_
            try simp only [Act.put, List.getElem_toArray, List.getElem_cons_succ, List.getElem_cons_zero, List.setIfInBounds_toArray, List.set_cons_zero, List.set_cons_succ]
            clear HK0
            have HV6 := Lib.hid (HV5.out.trans hun (fun j h hl => by simp [Value.ownBlock] at h; omega))
            replace HKK := Lib.hid (HKK.out.upd hun (fun j hj h => by simp [Value.ownBlock] at hj h; omega))
            replace HCC := Lib.hid (HCC.out.upd hun (fun j hj h => by simp [Value.ownBlock] at hj h; omega))
            obtain ⟨v6b, v6cap, rfl, -, -, hv62⟩ := row_head ho (by omega)
            have hv61 : w2.heap.size < v6b := by
              rcases hf v6b rfl with h | h
              · simp [Value.ownBlock] at h; omega
              · omega
            have HO6 := Lib.hid ho
            clear ho hg hf hun HA HTT
            have hHeld := HSS.out _ HX6.out
            refine wpHL_take (i := 13) (v := ?_) rfl (by kernel_rfl) (fun _ _ _ h => h) hHeld (Or.inl ⟨by rfl, ?_⟩) ?_
            rotate_left
            · (intro w hSw; (try dsimp only at hSw); go_simp; try with_reducible rfl)
            simp only [Act.put, List.getElem_toArray, List.getElem_cons_succ, List.getElem_cons_zero, List.setIfInBounds_toArray, List.set_cons_zero, List.set_cons_succ]
            clear hHeld
            refine wpHL_last (by kernel_rfl) ?_
            have cc3 := cells_at HX6.out 3 _ rfl
            have ff3 := cells_fr HX6.out 3
            obtain ⟨g1, g2, g3, g4⟩ := img_set3 HF.out HP.out HX.out HS.out HRm.out HWm.out HX6.out HV6.out HU2.out HR2.out HO6.out hv61 HKK.out (fun k hk => by simp [Value.ownBlock] at hk; omega) HCC.out (fun k hk => by simp [Value.ownBlock] at hk; omega)
            obtain ⟨cX0, cX1, cX2, cX3, cX4, r0, r1, r2, r3, r4, s0, s1, s2, s3, s4, hfin⟩ := bent4_end g1 g2 g3 g4
            clear g1 g2 g3 g4 HO6 HKK HCC HSm HRm HWm HSS
            have HFIN := Lib.hid hfin
            clear hfin hRX HF HP HM HX HS HU2 HR2 HT7 HT5 HT6 HA6
            go_wp2_with fail
            all_goals
              refine bodyPost_ret (v := .agg #[.string s, .slice fb F.length fd, .slice ib P.length id, .slice (some ⟨v6b, 0, none⟩) (M.length + 1) v6cap, .slice xb X.length xd]) (by simp [results, Tryd.f5, go_sem, r0, r1, r2, r3, r4]) rfl ?_
              obtain ⟨hfin, hup⟩ := HFIN.out _ (((((setAt _ _ _ _).trans (setAt _ _ _ _) (fun _ h _ => h)).trans (setAt _ _ _ _) (fun _ h _ => h)).trans (setAt _ _ _ _) (fun _ h _ => h)).trans (setAt _ _ _ _) (fun _ h _ => h))
              first | exact ⟨_, _, rfl, hfin, hup⟩ | exact ⟨_, rfl, _, hfin, hup⟩
          · skip
            go_simp
            have HXn : Hid ((u3.alloc (.cells #[.slice (some ⟨u1.heap.size, 0, none⟩) z z, .int .i64 0, .slice none 0 0, .slice (some ⟨u0.heap.size, 0, none⟩) 1 1] 49)).heap[w2.heap.size]? = some (.cells #[.string s, .slice fb F.length fd, .slice ib P.length id, .slice mb M.length md, .slice xb X.length xd] 27 (0, 0))) := Lib.hid ((Below.heap_alloc _ _ _ hlt3).trans HX3.out)
            refine HK0.out _ _ (HSS.out _ HXn.out) ?_
            try simp only [Act.put, List.getElem_toArray, List.getElem_cons_succ, List.getElem_cons_zero, List.setIfInBounds_toArray, List.set_cons_zero, List.set_cons_succ]
            clear HK0
            have hun : Upd (fun _ => False) u3 (u3.alloc (.cells #[.slice (some ⟨u1.heap.size, 0, none⟩) z z, .int .i64 0, .slice none 0 0, .slice (some ⟨u0.heap.size, 0, none⟩) 1 1] 49)) := Upd.alloc _ _ _
            have hbn : (u3.alloc (.cells #[.slice (some ⟨u1.heap.size, 0, none⟩) z z, .int .i64 0, .slice none 0 0, .slice (some ⟨u0.heap.size, 0, none⟩) 1 1] 49)).heap[u3.heap.size]? = some (.cells #[.slice (some ⟨u1.heap.size, 0, none⟩) z z, .int .i64 0, .slice none 0 0, .slice (some ⟨u0.heap.size, 0, none⟩) 1 1] 49 (0, 0)) := blk_top' _ _ _ rfl
            have hent := srcAt u3 49 #[.slice (some ⟨u1.heap.size, 0, none⟩) z z, .int .i64 0, .slice none 0 0, .slice (some ⟨u0.heap.size, 0, none⟩) 1 1] [.slice (some ⟨u1.heap.size, 0, none⟩) z z, .int .i64 0, .slice none 0 0, .slice (some ⟨u0.heap.size, 0, none⟩) 1 1] rfl 4 (by simp [Value.oneCell']) 1 1 _ rfl rfl
            generalize u3.alloc (.cells #[.slice (some ⟨u1.heap.size, 0, none⟩) z z, .int .i64 0, .slice none 0 0, .slice (some ⟨u0.heap.size, 0, none⟩) 1 1] 49) = u4 at HXn hun hbn hent ⊢
            have HX4 := HXn
            have hlt4 : w2.heap.size < u4.heap.size := blk_lt HX4.out
            have hst4 : u3.heap.size < u4.heap.size := blk_lt hbn
            have HV4 := Lib.hid (HV3.out.trans hun (fun _ h _ => h))
            replace HE := Lib.hid (ownsRow_upd HE.out hun (fun _ _ h => h))
            replace HKK := Lib.hid (HKK.out.upd hun (fun _ _ h => h))
            replace HCC := Lib.hid (HCC.out.upd hun (fun _ _ h => h))
            have HTT := Lib.hid hent
            clear hent
            clear HXn hun hbn
            refine wpHL_1 (i := 3) rfl (by kernel_rfl) (by decide) (fun K HK0 => ?_)
            have HSA : Hid (Src u4 4 (.slice mb M.length md) M.length (cellsL 4 M.length (metF M p q r))) := Lib.hid ((Mets.src HSm.out HRm.out lM0).upd HV4.out (fun _ _ h => h))
            refine step_append_mine rfl (.tmp 63) (.tmp 65) 25 rfl 0 49 i0 (.agg #[.slice none 0 0, .int .i64 0, .slice none 0 0, .slice none 0 0]) 4 80 Tryd.underlying25 hi hz0 hz1 hz2 rfl (by decide) (.slice (some ⟨u2.heap.size, 0, none⟩) 0 0) 0 [] rfl HE.out M.length (cellsL 4 M.length (metF M p q r)) HSA.out (by unfold maxLen; omega) (by omega) (Nat.zero_le _) ?_
            intro va u5 ho hg hf
            have hun : Upd (fun k => (Value.slice (some ⟨u2.heap.size, 0, none⟩) 0 0).ownBlock = some k) u4 u5 := Upd.grown hg (fun k h => .inl h)
            have HX5 : Hid (u5.heap[w2.heap.size]? = some (.cells #[.string s, .slice fb F.length fd, .slice ib P.length id, .slice mb M.length md, .slice xb X.length xd] 27 (0, 0))) := Lib.hid ((hun.block _ hlt4 (fun h => by simp [Value.ownBlock] at h; omega)).trans HX4.out)
            refine HK0.out _ _ (HSS.out _ HX5.out) ?_
            try simp only [Act.put, List.getElem_toArray, List.getElem_cons_succ, List.getElem_cons_zero, List.setIfInBounds_toArray, List.set_cons_zero, List.set_cons_succ]
            clear HK0 HSA
            have hlt5 : w2.heap.size < u5.heap.size := blk_lt HX5.out
            have hst5 : u4.heap.size ≤ u5.heap.size := hun.size
            have HV5 := Lib.hid (HV4.out.trans hun (fun j h hl => by simp [Value.ownBlock] at h; omega))
            replace HKK := Lib.hid (HKK.out.upd hun (fun j hj h => by simp [Value.ownBlock] at hj h; omega))
            replace HCC := Lib.hid (HCC.out.upd hun (fun j hj h => by simp [Value.ownBlock] at hj h; omega))
            replace HTT := Lib.hid (HTT.out.upd hun (fun j hj h => by simp [Value.ownBlock] at hj h; omega))
            rw [Nat.zero_add, List.nil_append] at ho
            skip
            obtain ⟨vb, vcap, rfl, -, -, hvb2⟩ := row_head ho lM0
            have hvb1 : vb = u2.heap.size ∨ u4.heap.size ≤ vb := by
              rcases hf vb rfl with h | h
              · simp [Value.ownBlock] at h; omega
              · exact .inr h
            have HA := Lib.hid ho
            clear ho hg hf hun HE
            refine wpHL_1 (i := 12) rfl (by kernel_rfl) (by decide) (fun K HK0 => ?_)
            refine step_append_mine rfl (.tmp 66) (.tmp 74) 25 rfl 0 49 i0 (.agg #[.slice none 0 0, .int .i64 0, .slice none 0 0, .slice none 0 0]) 4 80 Tryd.underlying25 hi hz0 hz1 hz2 rfl (by decide) (.slice (some ⟨vb, 0, none⟩) M.length vcap) M.length (cellsL 4 M.length (metF M p q r)) rfl HA.out 1 [.slice (some ⟨u1.heap.size, 0, none⟩) z z, .int .i64 0, .slice none 0 0, .slice (some ⟨u0.heap.size, 0, none⟩) 1 1] HTT.out (by unfold maxLen; omega) (by omega) (Nat.zero_le _) ?_
            intro v6 u6 ho hg hf
            have hun : Upd (fun k => (Value.slice (some ⟨vb, 0, none⟩) M.length vcap).ownBlock = some k) u5 u6 := Upd.grown hg (fun k h => .inl h)
            have HX6 : Hid (u6.heap[w2.heap.size]? = some (.cells #[.string s, .slice fb F.length fd, .slice ib P.length id, .slice mb M.length md, .slice xb X.length xd] 27 (0, 0))) := Lib.hid ((hun.block _ hlt5 (fun h => by simp [Value.ownBlock] at h; omega)).trans HX5.out)
            refine HK0.out _ _ (HSS.out _ HX6.out) ?_
            try simp only [Act.put, List.getElem_toArray, List.getElem_cons_succ, List.getElem_cons_zero, List.setIfInBounds_toArray, List.set_cons_zero, List.set_cons_succ]
            clear HK0
            have HV6 := Lib.hid (HV5.out.trans hun (fun j h hl => by simp [Value.ownBlock] at h; omega))
            replace HKK := Lib.hid (HKK.out.upd hun (fun j hj h => by simp [Value.ownBlock] at hj h; omega))
            replace HCC := Lib.hid (HCC.out.upd hun (fun j hj h => by simp [Value.ownBlock] at hj h; omega))
            obtain ⟨v6b, v6cap, rfl, -, -, hv62⟩ := row_head ho (by omega)
            have hv61 : w2.heap.size < v6b := by
              rcases hf v6b rfl with h | h
              · simp [Value.ownBlock] at h; omega
              · omega
            have HO6 := Lib.hid ho
            clear ho hg hf hun HA HTT
            have hHeld := HSS.out _ HX6.out
            refine wpHL_take (i := 13) (v := ?_) rfl (by kernel_rfl) (fun _ _ _ h => h) hHeld (Or.inl ⟨by rfl, ?_⟩) ?_
            rotate_left
            · (intro w hSw; (try dsimp only at hSw); go_simp; try with_reducible rfl)
            simp only [Act.put, List.getElem_toArray, List.getElem_cons_succ, List.getElem_cons_zero, List.setIfInBounds_toArray, List.set_cons_zero, List.set_cons_succ]
            clear hHeld
            refine wpHL_last (by kernel_rfl) ?_
            have cc3 := cells_at HX6.out 3 _ rfl
            have ff3 := cells_fr HX6.out 3
            obtain ⟨g1, g2, g3, g4⟩ := img_set3 HF.out HP.out HX.out HS.out HRm.out HWm.out HX6.out HV6.out HU2.out HR2.out HO6.out hv61 HKK.out (fun k hk => by simp [Value.ownBlock] at hk; omega) HCC.out (fun k hk => by simp [Value.ownBlock] at hk; omega)
            obtain ⟨cX0, cX1, cX2, cX3, cX4, r0, r1, r2, r3, r4, s0, s1, s2, s3, s4, hfin⟩ := bent4_end g1 g2 g3 g4
            clear g1 g2 g3 g4 HO6 HKK HCC HSm HRm HWm HSS
            have HFIN := Lib.hid hfin
            clear hfin hRX HF HP HM HX HS HU2 HR2 HT7 HT5 HT6 HA6
            go_wp2_with fail
            all_goals
              refine bodyPost_ret (v := .agg #[.string s, .slice fb F.length fd, .slice ib P.length id, .slice (some ⟨v6b, 0, none⟩) (M.length + 1) v6cap, .slice xb X.length xd]) (by simp [results, Tryd.f5, go_sem, r0, r1, r2, r3, r4]) rfl ?_
              obtain ⟨hfin, hup⟩ := HFIN.out _ (((((setAt _ _ _ _).trans (setAt _ _ _ _) (fun _ h _ => h)).trans (setAt _ _ _ _) (fun _ h _ => h)).trans (setAt _ _ _ _) (fun _ h _ => h)).trans (setAt _ _ _ _) (fun _ h _ => h))
              first | exact ⟨_, _, rfl, hfin, hup⟩ | exact ⟨_, rfl, _, hfin, hup⟩
        · skip
          go_simp
          have HXn : Hid ((u2.alloc (.cells #[.slice (some ⟨u1.heap.size, 0, none⟩) z z, .int .i64 0, .slice none 0 0, .slice (some ⟨u0.heap.size, 0, none⟩) 1 1] 49)).heap[w2.heap.size]? = some (.cells #[.string s, .slice fb F.length fd, .slice ib P.length id, .slice mb M.length md, .slice xb X.length xd] 27 (0, 0))) := Lib.hid ((Below.heap_alloc _ _ _ hlt2).trans HX2.out)
          refine HK0.out _ _ (HSS.out _ HXn.out) ?_
          try simp only [Act.put, List.getElem_toArray, List.getElem_cons_succ, List.getElem_cons_zero, List.setIfInBounds_toArray, List.set_cons_zero, List.set_cons_succ]
          clear HK0
          have hun : Upd (fun _ => False) u2 (u2.alloc (.cells #[.slice (some ⟨u1.heap.size, 0, none⟩) z z, .int .i64 0, .slice none 0 0, .slice (some ⟨u0.heap.size, 0, none⟩) 1 1] 49)) := Upd.alloc _ _ _
          have hbn : (u2.alloc (.cells #[.slice (some ⟨u1.heap.size, 0, none⟩) z z, .int .i64 0, .slice none 0 0, .slice (some ⟨u0.heap.size, 0, none⟩) 1 1] 49)).heap[u2.heap.size]? = some (.cells #[.slice (some ⟨u1.heap.size, 0, none⟩) z z, .int .i64 0, .slice none 0 0, .slice (some ⟨u0.heap.size, 0, none⟩) 1 1] 49 (0, 0)) := blk_top' _ _ _ rfl
          have hent := srcAt u2 49 #[.slice (some ⟨u1.heap.size, 0, none⟩) z z, .int .i64 0, .slice none 0 0, .slice (some ⟨u0.heap.size, 0, none⟩) 1 1] [.slice (some ⟨u1.heap.size, 0, none⟩) z z, .int .i64 0, .slice none 0 0, .slice (some ⟨u0.heap.size, 0, none⟩) 1 1] rfl 4 (by simp [Value.oneCell']) 1 1 _ rfl rfl
          generalize u2.alloc (.cells #[.slice (some ⟨u1.heap.size, 0, none⟩) z z, .int .i64 0, .slice none 0 0, .slice (some ⟨u0.heap.size, 0, none⟩) 1 1] 49) = u3 at HXn hun hbn hent ⊢
          have HX3 := HXn
          have hlt3 : w2.heap.size < u3.heap.size := blk_lt HX3.out
          have hst3 : u2.heap.size < u3.heap.size := blk_lt hbn
          have HV3 := Lib.hid (HV2.out.trans hun (fun _ h _ => h))
          replace HKK := Lib.hid (HKK.out.upd hun (fun _ _ h => h))
          replace HCC := Lib.hid (HCC.out.upd hun (fun _ _ h => h))
          have HTT := Lib.hid hent
          clear hent
          clear HXn hun hbn
          refine wpHL_1 (i := 0) rfl (by kernel_rfl) (by decide) (fun K HK0 => ?_)
          go_simp
          have HXn : Hid ((u3.alloc (.cells #[] 49)).heap[w2.heap.size]? = some (.cells #[.string s, .slice fb F.length fd, .slice ib P.length id, .slice mb M.length md, .slice xb X.length xd] 27 (0, 0))) := Lib.hid ((Below.heap_alloc _ _ _ hlt3).trans HX3.out)
          refine HK0.out _ _ (HSS.out _ HXn.out) ?_
          try simp only [Act.put, List.getElem_toArray, List.getElem_cons_succ, List.getElem_cons_zero, List.setIfInBounds_toArray, List.set_cons_zero, List.set_cons_succ]
          clear HK0
          have hun : Upd (fun _ => False) u3 (u3.alloc (.cells #[] 49)) := Upd.alloc _ _ _
          have hbn : (u3.alloc (.cells #[] 49)).heap[u3.heap.size]? = some (.cells #[] 49 (0, 0)) := blk_top' _ _ _ rfl
          have hent := bnEmpty u3 49 4 _ rfl
          generalize u3.alloc (.cells #[] 49) = u4 at HXn hun hbn hent ⊢
          have HX4 := HXn
          have hlt4 : w2.heap.size < u4.heap.size := blk_lt HX4.out
          have hst4 : u3.heap.size < u4.heap.size := blk_lt hbn
          have HV4 := Lib.hid (HV3.out.trans hun (fun _ h _ => h))
          replace HKK := Lib.hid (HKK.out.upd hun (fun _ _ h => h))
          replace HCC := Lib.hid (HCC.out.upd hun (fun _ _ h => h))
          replace HTT := Lib.hid (HTT.out.upd hun (fun _ _ h => h))
          have HE := Lib.hid hent
          clear hent
          clear HXn hun hbn
          refine wpHL_1 (i := 3) rfl (by kernel_rfl) (by decide) (fun K HK0 => ?_)
          have HSA : Hid (Src u4 4 (.slice mb M.length md) M.length (cellsL 4 M.length (metF M p q r))) := Lib.hid ((Mets.src HSm.out HRm.out lM0).upd HV4.out (fun _ _ h => h))
          refine step_append_mine rfl (.tmp 63) (.tmp 65) 25 rfl 0 49 i0 (.agg #[.slice none 0 0, .int .i64 0, .slice none 0 0, .slice none 0 0]) 4 80 Tryd.underlying25 hi hz0 hz1 hz2 rfl (by decide) (.slice (some ⟨u3.heap.size, 0, none⟩) 0 0) 0 [] rfl HE.out M.length (cellsL 4 M.length (metF M p q r)) HSA.out (by unfold maxLen; omega) (by omega) (Nat.zero_le _) ?_
          intro va u5 ho hg hf
          have hun : Upd (fun k => (Value.slice (some ⟨u3.heap.size, 0, none⟩) 0 0).ownBlock = some k) u4 u5 := Upd.grown hg (fun k h => .inl h)
          have HX5 : Hid (u5.heap[w2.heap.size]? = some (.cells #[.string s, .slice fb F.length fd, .slice ib P.length id, .slice mb M.length md, .slice xb X.length xd] 27 (0, 0))) := Lib.hid ((hun.block _ hlt4 (fun h => by simp [Value.ownBlock] at h; omega)).trans HX4.out)
          refine HK0.out _ _ (HSS.out _ HX5.out) ?_
          try simp only [Act.put, List.getElem_toArray, List.getElem_cons_succ, List.getElem_cons_zero, List.setIfInBounds_toArray, List.set_cons_zero, List.set_cons_succ]
          clear HK0 HSA
          have hlt5 : w2.heap.size < u5.heap.size := blk_lt HX5.out
          have hst5 : u4.heap.size ≤ u5.heap.size := hun.size
          have HV5 := Lib.hid (HV4.out.trans hun (fun j h hl => by simp [Value.ownBlock] at h; omega))
          replace HKK := Lib.hid (HKK.out.upd hun (fun j hj h => by simp [Value.ownBlock] at hj h; omega))
          replace HCC := Lib.hid (HCC.out.upd hun (fun j hj h => by simp [Value.ownBlock] at hj h; omega))
          replace HTT := Lib.hid (HTT.out.upd hun (fun j hj h => by simp [Value.ownBlock] at hj h; omega))
          rw [Nat.zero_add, List.nil_append] at ho
          skip
          obtain ⟨vb, vcap, rfl, -, -, hvb2⟩ := row_head ho lM0
          have hvb1 : vb = u3.heap.size ∨ u4.heap.size ≤ vb := by
            rcases hf vb rfl with h | h
            · simp [Value.ownBlock] at h; omega
            · exact .inr h
          have HA := Lib.hid ho
          clear ho hg hf hun HE
          refine wpHL_1 (i := 12) rfl (by kernel_rfl) (by decide) (fun K HK0 => ?_)
          refine step_append_mine rfl (.tmp 66) (.tmp 74) 25 rfl 0 49 i0 (.agg #[.slice none 0 0, .int .i64 0, .slice none 0 0, .slice none 0 0]) 4 80 Tryd.underlying25 hi hz0 hz1 hz2 rfl (by decide) (.slice (some ⟨vb, 0, none⟩) M.length vcap) M.length (cellsL 4 M.length (metF M p q r)) rfl HA.out 1 [.slice (some ⟨u1.heap.size, 0, none⟩) z z, .int .i64 0, .slice none 0 0, .slice (some ⟨u0.heap.size, 0, none⟩) 1 1] HTT.out (by unfold maxLen; omega) (by omega) (Nat.zero_le _) ?_
          intro v6 u6 ho hg hf
          have hun : Upd (fun k => (Value.slice (some ⟨vb, 0, none⟩) M.length vcap).ownBlock = some k) u5 u6 := Upd.grown hg (fun k h => .inl h)
          have HX6 : Hid (u6.heap[w2.heap.size]? = some (.cells #[.string s, .slice fb F.length fd, .slice ib P.length id, .slice mb M.length md, .slice xb X.length xd] 27 (0, 0))) := Lib.hid ((hun.block _ hlt5 (fun h => by simp [Value.ownBlock] at h; omega)).trans HX5.out)
          refine HK0.out _ _ (HSS.out _ HX6.out) ?_
          try simp only [Act.put, List.getElem_toArray, List.getElem_cons_succ, List.getElem_cons_zero, List.setIfInBounds_toArray, List.set_cons_zero, List.set_cons_succ]
          clear HK0
          have HV6 := Lib.hid (HV5.out.trans hun (fun j h hl => by simp [Value.ownBlock] at h; omega))
          replace HKK := Lib.hid (HKK.out.upd hun (fun j hj h => by simp [Value.ownBlock] at hj h; omega))
          replace HCC := Lib.hid (HCC.out.upd hun (fun j hj h => by simp [Value.ownBlock] at hj h; omega))
          obtain ⟨v6b, v6cap, rfl, -, -, hv62⟩ := row_head ho (by omega)
          have hv61 : w2.heap.size < v6b := by
            rcases hf v6b rfl with h | h
            · simp [Value.ownBlock] at h; omega
            · omega
          have HO6 := Lib.hid ho
          clear ho hg hf hun HA HTT
          have hHeld := HSS.out _ HX6.out
          refine wpHL_take (i := 13) (v := ?_) rfl (by kernel_rfl) (fun _ _ _ h => h) hHeld (Or.inl ⟨by rfl, ?_⟩) ?_
          rotate_left
          · (intro w hSw; (try dsimp only at hSw); go_simp; try with_reducible rfl)
          simp only [Act.put, List.getElem_toArray, List.getElem_cons_succ, List.getElem_cons_zero, List.setIfInBounds_toArray, List.set_cons_zero, List.set_cons_succ]
          clear hHeld
          refine wpHL_last (by kernel_rfl) ?_
          have cc3 := cells_at HX6.out 3 _ rfl
          have ff3 := cells_fr HX6.out 3
          obtain ⟨g1, g2, g3, g4⟩ := img_set3 HF.out HP.out HX.out HS.out HRm.out HWm.out HX6.out HV6.out HU2.out HR2.out HO6.out hv61 HKK.out (fun k hk => by simp [Value.ownBlock] at hk; omega) HCC.out (fun k hk => by simp [Value.ownBlock] at hk; omega)
          obtain ⟨cX0, cX1, cX2, cX3, cX4, r0, r1, r2, r3, r4, s0, s1, s2, s3, s4, hfin⟩ := bent4_end g1 g2 g3 g4
          clear g1 g2 g3 g4 HO6 HKK HCC HSm HRm HWm HSS
          have HFIN := Lib.hid hfin
          clear hfin hRX HF HP HM HX HS HU2 HR2 HT7 HT5 HT6 HA6
          go_wp2_with fail
          all_goals
            refine bodyPost_ret (v := .agg #[.string s, .slice fb F.length fd, .slice ib P.length id, .slice (some ⟨v6b, 0, none⟩) (M.length + 1) v6cap, .slice xb X.length xd]) (by simp [results, Tryd.f5, go_sem, r0, r1, r2, r3, r4]) rfl ?_
            obtain ⟨hfin, hup⟩ := HFIN.out _ (((((setAt _ _ _ _).trans (setAt _ _ _ _) (fun _ h _ => h)).trans (setAt _ _ _ _) (fun _ h _ => h)).trans (setAt _ _ _ _) (fun _ h _ => h)).trans (setAt _ _ _ _) (fun _ h _ => h))
            first | exact ⟨_, _, rfl, hfin, hup⟩ | exact ⟨_, rfl, _, hfin, hup⟩
  · skip
    obtain ⟨a', c', ea, ec, hmt⟩ := mets_tail HM.out lM0
    have hhd : ∃ g off, mb = some ⟨g, off, none⟩ := by
      obtain ⟨p, q, r, h1, _⟩ := HM.out
      obtain ⟨g, off, h, _⟩ := h1.at lM0
      exact ⟨g, off, h⟩
    obtain ⟨g, off, hmb⟩ := hhd
    subst hmb
    by_cases hmd : md = 1
    · skip
      subst hmd
      rw [if_pos rfl] at ea
      subst ea
      have hc0 : c' = 0 := by omega
      subst hc0
      clear ec
      have HMT := Lib.hid hmt
      clear hmt
      obtain ⟨cX0, cX1, cX2, cX3, cX4, r0, r1, r2, r3, r4, s0, s1, s2, s3, s4, hfin⟩ := bent4_end (w := w) (wr := w2.alloc (.cells #[.string s, .slice fb F.length fd, .slice ib P.length id, (.slice (some ⟨g, off, none⟩) (M.length - 1) 0), .slice xb X.length xd] 27)) (X0 := w2.heap.size) (blk_top' w2 _ _ rfl) ((Below.heap_alloc _ _ _ hRX).trans HR2.out) ((img_mk (w := w2.alloc (.cells #[.string s, .slice fb F.length fd, .slice ib P.length id, (.slice (some ⟨g, off, none⟩) (M.length - 1) 0), .slice xb X.length xd] 27)) HS.out (HF.out.later (bnBelow (Upd.alloc (fun _ => False) w2 _))) (HP.out.later (bnBelow (Upd.alloc (fun _ => False) w2 _))) (HMT.out.later (bnBelow (Upd.alloc (fun _ => False) w2 _))) (HX.out.later (bnBelow (Upd.alloc (fun _ => False) w2 _))))) (HU2.out.trans (Upd.alloc _ _ _) (fun _ h _ => h))
      have HFIN := Lib.hid hfin
      clear hfin hRX HF HP HM HX HS HU2 HR2 HT7 HT5 HT6 HA6
      go_wp2_with fail
      all_goals
        refine bodyPost_ret (v := .agg #[.string s, .slice fb F.length fd, .slice ib P.length id, (.slice (some ⟨g, off, none⟩) (M.length - 1) 0), .slice xb X.length xd]) (by simp [results, Tryd.f5, go_sem, r0, r1, r2, r3, r4]) rfl ?_
        obtain ⟨hfin, hup⟩ := HFIN.out _ (((((setAt _ _ _ _).trans (setAt _ _ _ _) (fun _ h _ => h)).trans (setAt _ _ _ _) (fun _ h _ => h)).trans (setAt _ _ _ _) (fun _ h _ => h)).trans (setAt _ _ _ _) (fun _ h _ => h))
        first | exact ⟨_, _, rfl, hfin, hup⟩ | exact ⟨_, rfl, _, hfin, hup⟩
    · skip
      rw [if_neg hmd] at ea
      simp only [Option.map_some, addr_add] at ea
      subst ea
      have HMT := Lib.hid hmt
      clear hmt
      obtain ⟨cX0, cX1, cX2, cX3, cX4, r0, r1, r2, r3, r4, s0, s1, s2, s3, s4, hfin⟩ := bent4_end (w := w) (wr := w2.alloc (.cells #[.string s, .slice fb F.length fd, .slice ib P.length id, (.slice (some ⟨g, off + 4, none⟩) (M.length - 1) c'), .slice xb X.length xd] 27)) (X0 := w2.heap.size) (blk_top' w2 _ _ rfl) ((Below.heap_alloc _ _ _ hRX).trans HR2.out) ((img_mk (w := w2.alloc (.cells #[.string s, .slice fb F.length fd, .slice ib P.length id, (.slice (some ⟨g, off + 4, none⟩) (M.length - 1) c'), .slice xb X.length xd] 27)) HS.out (HF.out.later (bnBelow (Upd.alloc (fun _ => False) w2 _))) (HP.out.later (bnBelow (Upd.alloc (fun _ => False) w2 _))) (HMT.out.later (bnBelow (Upd.alloc (fun _ => False) w2 _))) (HX.out.later (bnBelow (Upd.alloc (fun _ => False) w2 _))))) (HU2.out.trans (Upd.alloc _ _ _) (fun _ h _ => h))
      have HFIN := Lib.hid hfin
      clear hfin hRX HF HP HM HX HS HU2 HR2 HT7 HT5 HT6 HA6
      go_wp2_with fail
      all_goals
        refine bodyPost_ret (v := .agg #[.string s, .slice fb F.length fd, .slice ib P.length id, (.slice (some ⟨g, off + 4, none⟩) (M.length - 1) c'), .slice xb X.length xd]) (by simp [results, Tryd.f5, go_sem, r0, r1, r2, r3, r4]) rfl ?_
        obtain ⟨hfin, hup⟩ := HFIN.out _ (((((setAt _ _ _ _).trans (setAt _ _ _ _) (fun _ h _ => h)).trans (setAt _ _ _ _) (fun _ h _ => h)).trans (setAt _ _ _ _) (fun _ h _ => h)).trans (setAt _ _ _ _) (fun _ h _ => h))
        first | exact ⟨_, _, rfl, hfin, hup⟩ | exact ⟨_, rfl, _, hfin, hup⟩
  · skip
    obtain ⟨cX0, cX1, cX2, cX3, cX4, r0, r1, r2, r3, r4, s0, s1, s2, s3, s4, hfin⟩ := bent4_end (w := w) (wr := w2.alloc (.cells #[.string s, .slice fb F.length fd, .slice ib P.length id, .slice none 0 0, .slice xb X.length xd] 27)) (X0 := w2.heap.size) (blk_top' w2 _ _ rfl) ((Below.heap_alloc _ _ _ hRX).trans HR2.out) ((img_mk (w := w2.alloc (.cells #[.string s, .slice fb F.length fd, .slice ib P.length id, .slice none 0 0, .slice xb X.length xd] 27)) HS.out (HF.out.later (bnBelow (Upd.alloc (fun _ => False) w2 _))) (HP.out.later (bnBelow (Upd.alloc (fun _ => False) w2 _))) (show Mets _ _ ([] : List MetM) from ⟨fun _ => .int .i64 0, fun _ => .int .i64 0, fun _ => .int .i64 0, Sl.nil _ _ _, fun i hi => by simp at hi, by simp⟩) (HX.out.later (bnBelow (Upd.alloc (fun _ => False) w2 _))))) (HU2.out.trans (Upd.alloc _ _ _) (fun _ h _ => h))
    have HFIN := Lib.hid hfin
    clear hfin hRX HF HP HM HX HS HU2 HR2 HT7 HT5 HT6 HA6
    go_wp2_with fail
    all_goals
      refine bodyPost_ret (v := .agg #[.string s, .slice fb F.length fd, .slice ib P.length id, .slice none 0 0, .slice xb X.length xd]) (by simp [results, Tryd.f5, go_sem, r0, r1, r2, r3, r4]) rfl ?_
      obtain ⟨hfin, hup⟩ := HFIN.out _ (((((setAt _ _ _ _).trans (setAt _ _ _ _) (fun _ h _ => h)).trans (setAt _ _ _ _) (fun _ h _ => h)).trans (setAt _ _ _ _) (fun _ h _ => h)).trans (setAt _ _ _ _) (fun _ h _ => h))
      first | exact ⟨_, _, rfl, hfin, hup⟩ | exact ⟨_, rfl, _, hfin, hup⟩
  · skip
    have hmk : ∀ w : World, (Instr.makeSlice 23 (.int .i64 9) (.int .i64 9)).run Tryd.prog w = .ok (.slice (some ⟨w.heap.size, 0, none⟩) 9 9) (w.alloc (.cells #[.int .i64 0, .int .i64 0, .int .i64 0, .int .i64 0, .int .i64 0, .int .i64 0, .int .i64 0, .int .i64 0, .int .i64 0] 3)) := fun w => by kernel_rfl
    have HHX : Hid (((w2.alloc (.cells #[.string s, .slice (some ⟨w2.heap.size + 1, 0, none⟩) 9 9, .slice ib P.length id, .slice mb M.length md, .slice xb X.length xd] 27)).alloc (.cells #[.int .i64 0, .int .i64 0, .int .i64 0, .int .i64 0, .int .i64 0, .int .i64 0, .int .i64 0, .int .i64 0, .int .i64 0] 3)).heap[w2.heap.size]? = some (.cells #[.string s, .slice (some ⟨w2.heap.size + 1, 0, none⟩) 9 9, .slice ib P.length id, .slice mb M.length md, .slice xb X.length xd] 27 (0, 0))) := Lib.hid ((Below.heap_alloc _ _ _ (by simp)).trans (blk_top' w2 _ _ rfl))
    have hU9 : Upd (fun _ => False) w2 ((w2.alloc (.cells #[.string s, .slice (some ⟨w2.heap.size + 1, 0, none⟩) 9 9, .slice ib P.length id, .slice mb M.length md, .slice xb X.length xd] 27)).alloc (.cells #[.int .i64 0, .int .i64 0, .int .i64 0, .int .i64 0, .int .i64 0, .int .i64 0, .int .i64 0, .int .i64 0, .int .i64 0] 3)) := (Upd.alloc _ _ _).trans (Upd.alloc _ _ _) (fun _ h _ => h)
    have hz9 : ((w2.alloc (.cells #[.string s, .slice (some ⟨w2.heap.size + 1, 0, none⟩) 9 9, .slice ib P.length id, .slice mb M.length md, .slice xb X.length xd] 27)).alloc (.cells #[.int .i64 0, .int .i64 0, .int .i64 0, .int .i64 0, .int .i64 0, .int .i64 0, .int .i64 0, .int .i64 0, .int .i64 0] 3)).heap[w2.heap.size + 1]? = some (.cells #[.int .i64 0, .int .i64 0, .int .i64 0, .int .i64 0, .int .i64 0, .int .i64 0, .int .i64 0, .int .i64 0, .int .i64 0] 3 (0, 0)) := blk_top' _ _ _ (by simp)
    have HHI := Lib.hid (Ints.blk hz9 (List.replicate 9 0) ⟨[], by rfl⟩ 9 (by simp) (by unfold maxLen; omega) (by intro n hn; rw [List.eq_of_mem_replicate hn]; unfold wi64; omega))
    have HHR := Lib.hid ((hU9.block w.heap.size hRX (fun h => h)).trans HR2.out)
    have HHB := Lib.hid (bnBelow hU9)
    have HHU := Lib.hid (HU2.out.trans hU9 (fun _ h _ => h))
    clear hU9 hz9
    obtain ⟨cX0, cX1, cX2, cX3, cX4, r0, r1, r2, r3, r4, s0, s1, s2, s3, s4, hfin⟩ := bent4_end (w := w) (wr := ((w2.alloc (.cells #[.string s, .slice (some ⟨w2.heap.size + 1, 0, none⟩) 9 9, .slice ib P.length id, .slice mb M.length md, .slice xb X.length xd] 27)).alloc (.cells #[.int .i64 0, .int .i64 0, .int .i64 0, .int .i64 0, .int .i64 0, .int .i64 0, .int .i64 0, .int .i64 0, .int .i64 0] 3))) (X0 := w2.heap.size) (HHX.out) (HHR.out) ((img_mk (w := ((w2.alloc (.cells #[.string s, .slice (some ⟨w2.heap.size + 1, 0, none⟩) 9 9, .slice ib P.length id, .slice mb M.length md, .slice xb X.length xd] 27)).alloc (.cells #[.int .i64 0, .int .i64 0, .int .i64 0, .int .i64 0, .int .i64 0, .int .i64 0, .int .i64 0, .int .i64 0, .int .i64 0] 3))) HS.out HHI.out (HP.out.later HHB.out) (HM.out.later HHB.out) (HX.out.later HHB.out))) (HHU.out)
    have HFIN := Lib.hid hfin
    clear hfin hRX HF HP HM HX HS HU2 HR2 HT7 HT5 HT6 HA6
    go_wp2_with fail
    all_goals
      refine bodyPost_ret (v := .agg #[.string s, .slice (some ⟨w2.heap.size + 1, 0, none⟩) 9 9, .slice ib P.length id, .slice mb M.length md, .slice xb X.length xd]) (by simp [results, Tryd.f5, go_sem, r0, r1, r2, r3, r4]) rfl ?_
      obtain ⟨hfin, hup⟩ := HFIN.out _ (((((setAt _ _ _ _).trans (setAt _ _ _ _) (fun _ h _ => h)).trans (setAt _ _ _ _) (fun _ h _ => h)).trans (setAt _ _ _ _) (fun _ h _ => h)).trans (setAt _ _ _ _) (fun _ h _ => h))
      first | exact ⟨_, _, rfl, hfin, hup⟩ | exact ⟨_, rfl, _, hfin, hup⟩
  · skip
    have e0 : ((qq : Int) == 0) = false := beq_eq_false_iff_ne.2 (by omega)
    have e1 : ((qq : Int) == 1) = false := beq_eq_false_iff_ne.2 (by omega)
    have e2 : ((qq : Int) == 2) = false := beq_eq_false_iff_ne.2 (by omega)
    have e3 : ((qq : Int) == 3) = false := beq_eq_false_iff_ne.2 (by omega)
    have e4 : ((qq : Int) == 4) = false := beq_eq_false_iff_ne.2 (by omega)
    have e5 : ((qq : Int) == 5) = false := beq_eq_false_iff_ne.2 (by omega)
    have e6 : ((qq : Int) == 6) = false := beq_eq_false_iff_ne.2 (by omega)
    have e7 : ((qq : Int) == 7) = false := beq_eq_false_iff_ne.2 (by omega)
    obtain ⟨cX0, cX1, cX2, cX3, cX4, r0, r1, r2, r3, r4, s0, s1, s2, s3, s4, hfin⟩ := bent4_end (w := w) (wr := w2.alloc (.cells #[.string s, .slice fb F.length fd, .slice ib P.length id, .slice mb M.length md, .slice xb X.length xd] 27)) (X0 := w2.heap.size) (blk_top' w2 _ _ rfl) ((Below.heap_alloc _ _ _ hRX).trans HR2.out) ((img_mk (w := w2.alloc (.cells #[.string s, .slice fb F.length fd, .slice ib P.length id, .slice mb M.length md, .slice xb X.length xd] 27)) HS.out (HF.out.later (bnBelow (Upd.alloc (fun _ => False) w2 _))) (HP.out.later (bnBelow (Upd.alloc (fun _ => False) w2 _))) (HM.out.later (bnBelow (Upd.alloc (fun _ => False) w2 _))) (HX.out.later (bnBelow (Upd.alloc (fun _ => False) w2 _))))) (HU2.out.trans (Upd.alloc _ _ _) (fun _ h _ => h))
    have HFIN := Lib.hid hfin
    clear hfin hRX HF HP HM HX HS HU2 HR2 HT7 HT5 HT6 HA6
    go_wp2_with fail
    all_goals
      refine bodyPost_ret (v := .agg #[.string s, .slice fb F.length fd, .slice ib P.length id, .slice mb M.length md, .slice xb X.length xd]) (by simp [results, Tryd.f5, go_sem, r0, r1, r2, r3, r4]) rfl ?_
      obtain ⟨hfin, hup⟩ := HFIN.out _ (((((setAt _ _ _ _).trans (setAt _ _ _ _) (fun _ h _ => h)).trans (setAt _ _ _ _) (fun _ h _ => h)).trans (setAt _ _ _ _) (fun _ h _ => h)).trans (setAt _ _ _ _) (fun _ h _ => h))
      first | exact ⟨_, _, rfl, hfin, hup⟩ | exact ⟨_, rfl, _, hfin, hup⟩
end Go.Proofs.YtpangghcfmgidaaDoor

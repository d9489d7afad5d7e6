/- Several texts in one. -/
import Derived.Test.YtdmadfahgkikkaaGreatHek
import Derived.Lib.SliceRun
import Derived.Deep.RegionLaw
import Derived.Below
/- Package heap: SetBuffer, Clear. -/
namespace Go.Proofs.YtdmadfahgkikkaaGreat
open Go.RowKit Go.ChangeShapes Go.WideShapes Go.Deep
set_option linter.unusedVariables false
set_option linter.unusedSimpArgs false

def setFrom {α : Type} (xs : List α) : Nat → List α → List α
  | _, [] => xs
  | o, v :: r => setFrom (xs.set o v) (o + 1) r
theorem setFrom_len {α : Type} : ∀ (vs xs : List α) (o : Nat), (setFrom xs o vs).length = xs.length
  | [], xs, o => rfl
  | v :: r, xs, o => by simp [setFrom, setFrom_len r]
theorem setFrom_at {α : Type} : ∀ (vs xs : List α) (o j : Nat), j < xs.length → (setFrom xs o vs)[j]? = if o ≤ j ∧ j < o + vs.length then vs[j - o]? else xs[j]?
  | [], xs, o, j, hj => by
    rw [if_neg (by simp; try omega)]; rfl
  | v :: r, xs, o, j, hj => by
    simp only [setFrom]
    rw [setFrom_at r (xs.set o v) (o + 1) j (by simpa using hj), List.getElem?_set, List.length_cons]
    by_cases h1 : o = j
    · subst h1
      rw [if_neg (by omega), if_pos rfl, if_pos hj, if_pos (by omega)]
      simp
    · by_cases h2 : o + 1 ≤ j ∧ j < o + 1 + r.length
      · rw [if_pos h2, if_pos (by omega)]
        rw [show j - o = (j - (o + 1)) + 1 by omega, List.getElem?_cons_succ]
      · rw [if_neg h2, if_neg h1, if_neg (by omega)]
theorem setFrom_all {α : Type} (xs vs : List α) (h : xs.length = vs.length) : setFrom xs 0 vs = vs := by
  apply List.ext_getElem?
  intro j
  by_cases hj : j < xs.length
  · rw [setFrom_at vs xs 0 j hj, if_pos (by omega)]; simp
  · rw [List.getElem?_eq_none (by rw [setFrom_len]; omega), List.getElem?_eq_none (by omega)]
theorem row_setCells {e : TypeId} {g n c : Nat} : ∀ (vs xs : List Value) (o : Nat) (w : World), w.ownsRow 0 e 1 (.slice (some ⟨g, 0, none⟩) n c) n xs → (w.setCells g o vs).ownsRow 0 e 1 (.slice (some ⟨g, 0, none⟩) n c) n (setFrom xs o vs)
  | [], xs, o, w, h => h
  | v :: r, xs, o, w, h => row_setCells r _ _ _ (hpSet h o v)
theorem upd_setCells {S : Nat → Prop} {g : Nat} (hg : S g) {w0 : World} : ∀ (vs : List Value) (o : Nat) (w : World), Upd S w0 w → Upd S w0 (w.setCells g o vs)
  | [], o, w, h => h
  | v :: r, o, w, h => upd_setCells hg r _ _ (hpS h hg)
theorem zero8 (w : World) : (zeroValue 5).run Tryz.prog w = .ok (.int .u8 0) w := by
  obtain ⟨i0, hi, hz0, hz1, hz2⟩ := info_parts b8Info
  simp [zeroValue, typeInfo, hi, hz0]
/-- a row of bytes is cleared -/
theorem clear_row (w : World) (v : Value) (ys : List Int) (h : w.ownsRow 0 5 1 v ys.length (bv ys)) :
    ∃ w', (∀ ty, (Builtin.clear_ #[81] ty #[v]).run Tryz.prog w = .ok (.tuple #[]) w') ∧ w'.ownsRow 0 5 1 v ys.length (bv (zeros ys.length)) ∧ Upd (fun k => v.ownBlock = some k) w w' := by
  have hz : ys = [] → bv (zeros ys.length) = bv ys := by rintro rfl; rfl
  have ht := Tryz.underlying81
  rcases h.2 with ⟨rfl, h0⟩ | ⟨g, cap, cur, rfl, hb, hg, hc, hm, hcs, hk⟩
  · rw [hz (List.eq_nil_of_length_eq_zero h0)]
    refine ⟨w, fun ty => ?_, h, Upd.refl _ _⟩
    simp [Builtin.clear_, run_underlying ht]
  · by_cases h0 : ys.length = 0
    · rw [hz (List.eq_nil_of_length_eq_zero h0)]
      refine ⟨w, fun ty => ?_, h, Upd.refl _ _⟩
      rw [h0]
      simp [Builtin.clear_, run_underlying ht]
    · refine ⟨_, fun ty => Lib.run_clear_slice w _ _ ty (.int .u8 0) ht zero8 rfl rfl g 0 _ cap (by omega) (fun j hj => ?_) (fun j hj => hpFrozen h _), ?_, ?_⟩
      · have := h.cells (g := g) rfl j (.int .u8 (ys.getD j 0)) (by simp [bv, List.getElem?_eq_getElem hj, List.getD])
        rw [addr_add] at this
        rw [this]; rfl
      · have h1 := row_setCells (List.replicate ys.length (Value.int .u8 0)) _ 0 w h
        rw [setFrom_all _ _ (by simp [bv])] at h1
        simpa [bv, zeros] using h1
      · exact upd_setCells (S := fun k => (Value.slice (some ⟨g, 0, none⟩) ys.length cap).ownBlock = some k) (by simp [Value.ownBlock]) _ _ _ (Upd.refl _ _)
section
variable {t : TypeId} {F : Nat → Prop} {w w' : World} {b : Nat} {sz : Int} {av : Value} {R : List (ArrM × Value)}
/-- array i's bytes are others, as many, in their block -/
theorem Hp.relay (h : Hp t F w b sz av R) (ht : t ≠ 5) {i : Nat} (hi : i < R.length) (hu : Upd (fun k => R[i].2.ownBlock = some k) w w') (ys : List Int)
    (hr : w'.ownsRow 0 5 1 R[i].2 ys.length (bv ys)) (hy : ∀ y ∈ ys, 0 ≤ y ∧ y ≤ 255) (hl : ys.length ≤ 64) : Hp t F w' b sz av (R.set i (R[i].1.put ys, R[i].2)) := by
  have hm := h.dat _ (List.getElem_mem hi)
  refine ⟨hpBlk hu h.box (hpBoxNe hm.row h.box (Ne.symm ht)), ?_, fun p hp => ?_, ?_, h.fb, h.fr, fun k hk => Nat.lt_of_lt_of_le (h.lt k hk) hu.size⟩
  · rw [List.length_set, acl_keep R i hi]
    exact ownsRow_upd h.row hu (fun k hk hk' => hpRowNe h.row hm.row (by decide) k hk hk')
  · obtain ⟨k, hk, rfl⟩ := List.mem_iff_getElem.1 hp
    rw [List.length_set] at hk
    rw [List.getElem_set]
    split
    · exact ⟨hr, hy, hm.inn, hl⟩
    · rename_i he
      refine (h.dat _ (List.getElem_mem hk)).upd hu (fun q hq hq' => ?_)
      have hp2 := List.pairwise_iff_getElem.1 h.ap
      rcases Nat.lt_or_ge k i with h1 | h1
      · exact hp2 k i hk hi h1 _ hq hq'
      · exact hp2 i k hi hk (by omega) _ hq' hq
  · rw [List.pairwise_iff_getElem]
    intro k l hk hl hkl q hq hq'
    rw [List.length_set] at hk hl
    rw [snd_set R i hi _ k hk] at hq
    rw [snd_set R i hi _ l hl] at hq'
    exact List.pairwise_iff_getElem.1 h.ap k l hk hl hkl q hq hq'
end
end Go.Proofs.YtdmadfahgkikkaaGreat
/- Package heap: Clear, SetBuffer. -/
namespace Go.Proofs.YtdmadfahgkikkaaGreat
open Go.RowKit Go.ChangeShapes Go.WideShapes Go.Deep
set_option linter.unusedVariables false
set_option linter.unusedSimpArgs false

def clrR (life own : Int) (p : ArrM × Value) : ArrM × Value := (clrA life own p.1, p.2)
def midR (life own : Int) (R : List (ArrM × Value)) (k : Nat) : List (ArrM × Value) := (R.take k).map (clrR life own) ++ R.drop k
theorem midR_len (life own : Int) (R : List (ArrM × Value)) (k : Nat) (hk : k ≤ R.length) : (midR life own R k).length = R.length := by simp [midR]; omega
theorem midR_at (life own : Int) (R : List (ArrM × Value)) (k : Nat) (hk : k < R.length) : (midR life own R k)[k]? = some R[k] := by
  unfold midR
  rw [List.getElem?_append_right (by simp; omega)]
  simp [List.getElem?_drop, Nat.min_eq_left (by omega : k ≤ R.length), hk]
theorem midR_set (life own : Int) (R : List (ArrM × Value)) (k : Nat) (hk : k < R.length) : midR life own R (k + 1) = (midR life own R k).set k (clrR life own R[k]) := by
  have e1 : R.take (k + 1) = R.take k ++ [R[k]] := by rw [List.take_add_one, List.getElem?_eq_getElem hk]; rfl
  have e2 : R.drop k = R[k] :: R.drop (k + 1) := List.drop_eq_getElem_cons hk
  have e3 : ((R.take k).map (clrR life own)).length = k := by simp; omega
  unfold midR
  rw [e1, e2, List.map_append, List.set_append_right _ _ (by omega), e3, Nat.sub_self, List.append_assoc]
  rfl
theorem midR_zero (life own : Int) (R : List (ArrM × Value)) : midR life own R 0 = R := by simp [midR]
theorem midR_all (life own : Int) (R : List (ArrM × Value)) : midR life own R R.length = R.map (clrR life own) := by simp [midR]
theorem gone_take (life own : Int) (L : List ArrM) (k : Nat) (hk : k < L.length) : goneN (L.take (k + 1)) life own = goneN (L.take k) life own + (if endsB L[k] life own then 1 else 0) := by
  unfold goneN
  rw [List.take_add_one, List.filter_append, List.length_append, List.getElem?_eq_getElem hk]
  simp [List.filter_cons]
  split <;> simp
theorem gone_le (life own : Int) (L : List ArrM) : goneN L life own ≤ L.length := List.length_filter_le _ _
section
variable {F : Nat → Prop} {w : World} {b : Nat} {sz : Int} {av : Value} {R : List (ArrM × Value)}
theorem hpGive {t : TypeId} {w5 : World} {d : Value} {ys : List Int} {g c : Nat} (h : Hp t F w5 b sz (.slice (some ⟨g, 0, none⟩) R.length c) R) {i : Nat} (hi : i < R.length) (h5 : New w.drew d ys w5) (hy : ∀ y ∈ ys, 0 ≤ y ∧ y ≤ 255) (hl : ys.length ≤ 64) (hlt : ∀ k, F k → k < w.heap.size)
    (ht : t ≠ 89 := by decide) : Hp t (More F w (w5.setCell ⟨g, i * 5 + 4, none⟩ d)) (w5.setCell ⟨g, i * 5 + 4, none⟩ d) b sz (.slice (some ⟨g, 0, none⟩) R.length c) (R.set i (R[i].1.put ys, d)) := by
  have hsz : (w5.setCell ⟨g, i * 5 + 4, none⟩ d).heap.size = w5.heap.size := by simp [World.setCell]
  have h6 : Hp t (More F w (w5.setCell ⟨g, i * 5 + 4, none⟩ d)) w5 b sz (.slice (some ⟨g, 0, none⟩) R.length c) R := h.wide (fun k hk => .inl hk) (fun k hk => by
    rcases hk with hk | hk
    · exact h.lt k hk
    · rw [hsz] at hk; exact hk.2)
  refine h6.give ht hi rfl d ys h5.1 hy hl (fun k hk => ?_)
  have h1 := h5.2.2 k hk
  have h2 := hpRowLt h5.1 k hk
  simp at h1
  refine ⟨.inr ⟨h1, by rw [hsz]; exact h2⟩, fun p hp hpk => ?_⟩
  have := hlt k ((h.dat p hp).inn k hpk)
  omega
end
end Go.Proofs.YtdmadfahgkikkaaGreat
/- Package heap: Copy. -/
namespace Go.Proofs.YtdmadfahgkikkaaGreat
open Go.RowKit Go.ChangeShapes Go.WideShapes Go.Deep
set_option linter.unusedVariables false
set_option linter.unusedSimpArgs false

/-- the blocks that were made since w -/
def Since (w w' : World) (k : Nat) : Prop := w.heap.size ≤ k ∧ k < w'.heap.size
section
variable {F : Nat → Prop} {w : World} {b : Nat} {sz : Int} {av : Value} {R : List (ArrM × Value)}
theorem cpMap {Q R : List (ArrM × Value)} {p : ArrM} {pd : Value} {hk : Q.length < R.length} (h : Q.map Prod.fst = (R.map Prod.fst).take Q.length) (hp : (p, pd) = R[Q.length]'hk) (hk' : Q.length < R.length) (d : Value) :
    (Q ++ [(p, d)]).map Prod.fst = (R.map Prod.fst).take (Q.length + 1) := by
  rw [List.map_append, h, List.take_add_one, List.getElem?_map, List.getElem?_eq_getElem hk', ← hp]
  rfl
theorem cpAdd {w wr w1 w5 w8 w9 : World} {Q : List (ArrM × Value)} {oa va : Option Addr} {oc vc : Nat} {a : ArrM} {d : Value} (hu : Upd (fun _ => False) w wr) (hu1 : Upd (fun _ => False) wr w1) (hd1 : Upd (fun _ => False) w1 w1.drew)
    (ho : Hp 92 (Since w wr) wr w.heap.size sz (.slice oa Q.length oc) Q) (ho5 : Hp 92 (Since w wr) w5 w.heap.size sz (.slice oa Q.length oc) Q) (h5 : New w1.drew d a.data w5)
    (h2 : Upd (fun k => (Value.slice oa Q.length oc).ownBlock = some k) w5 w9) (hrow : w9.ownsRow 0 89 5 (.slice va (Q.length + 1) vc) (Q.length + 1) (Q.flatMap acl ++ acl (a, d)))
    (hf : Fresh w8 (.slice oa Q.length oc) (.slice va (Q.length + 1) vc)) (h8 : w5.heap.size ≤ w8.heap.size)
    (hbox : w9.heap[w.heap.size]? = some (.cells #[.int .i64 sz, .slice oa Q.length oc] 92 (0, 0))) (hy : ∀ y ∈ a.data, 0 ≤ y ∧ y ≤ 255) (hl : a.data.length ≤ 64) :
    Hp 92 (Since w (w9.setCell ⟨w.heap.size, 1, none⟩ (.slice va (Q.length + 1) vc))) (w9.setCell ⟨w.heap.size, 1, none⟩ (.slice va (Q.length + 1) vc)) w.heap.size sz (.slice va (Q.length + 1) vc) (Q ++ [(a, d)]) ∧
    Upd (fun _ => False) w (w9.setCell ⟨w.heap.size, 1, none⟩ (.slice va (Q.length + 1) vc)) := by
  have hsz : (w9.setCell ⟨w.heap.size, 1, none⟩ (.slice va (Q.length + 1) vc)).heap.size = w9.heap.size := by simp [World.setCell]
  have hu5 : Upd (fun _ => False) w w5 := ((hu.trans hu1 (fun _ h _ => h)).trans hd1 (fun _ h _ => h)).trans h5.2.1 (fun _ h _ => h)
  have s1 := hu1.size
  have s2 := hd1.size
  have s3 := h5.2.1.size
  have s4 := h2.size
  have s0 := hu.size
  refine ⟨?_, ?_⟩
  · refine (hpAdd (w := w) ho5 h2 (by decide) (by decide) hrow hf h8 ⟨rfl, rfl⟩ hbox h5.1 (fun k hk => ?_) hu5 hy hl).wide (fun k hk => ?_) (fun k hk => hk.2)
    · have k1 := h5.2.2 k hk
      have k2 := hpRowLt h5.1 k hk
      refine ⟨by omega, k2, fun q hq hqk => ?_⟩
      have := ((ho.dat q hq).inn k hqk).2
      omega
    · rcases hk with hk | hk
      · exact ⟨hk.1, by rw [hsz]; have := hk.2; omega⟩
      · exact hk
  · refine hu5.trans (T := fun q => w.heap.size ≤ q) ?_ (fun k hk hlt => by omega)
    exact hpS (h2.mono (fun k hk _ => (ho.fr k hk).1)) (Nat.le_refl _)
end
end Go.Proofs.YtdmadfahgkikkaaGreat
/- Package heap: its methods, said of the plain heap. -/
namespace Go.Proofs.YtdmadfahgkikkaaGreat
open Go.RowKit Go.ChangeShapes Go.WideShapes Go.Deep
set_option linter.unusedVariables false
set_option linter.unusedSimpArgs false

theorem fst_at {R : List (ArrM × Value)} {L : List ArrM} (h : R.map Prod.fst = L) {i : Nat} (hi : i < L.length) : ∃ hr : i < R.length, R[i].1 = L.getD i default := by
  subst h
  have hr : i < R.length := by simpa using hi
  exact ⟨hr, by simp [List.getD, hr]⟩
theorem fst_len {R : List (ArrM × Value)} {L : List ArrM} (h : R.map Prod.fst = L) : R.length = L.length := by rw [← h]; simp
theorem fst_set {R : List (ArrM × Value)} {L : List ArrM} (h : R.map Prod.fst = L) (i : Nat) (a : ArrM) (d : Value) : (R.set i (a, d)).map Prod.fst = L.set i a := by rw [List.map_set, h]
abbrev HT : TypeId := 92
section
variable {F : Nat → Prop} {w : World} {b : Nat} {m : HpM}
theorem pUsed (h : Hep HT F w b m) (hl : m.arrs.length ≤ 1000) : Calls Tryz.prog 106 #[.pointer (some ⟨b, 0, none⟩)] w fun e w' => e = .returned (.int .i64 (usedP m.arrs : Int)) ∧ Upd (fun _ => False) w w' := by
  obtain ⟨av, R, h, hR⟩ := h
  have := hUsed h (by rw [fst_len hR]; exact hl)
  rw [hR] at this
  exact this
theorem pGet_none (h : Hep HT F w b m) (ref at_ : Int) (hr : hasB m.arrs.length ref = false) : Calls Tryz.prog 97 #[.pointer (some ⟨b, 0, none⟩), .int .i64 ref, .int .i64 at_] w fun e w' => e = .returned (.tuple #[.int .u8 0, .bool false]) ∧ w = w' := by
  obtain ⟨av, R, h, hR⟩ := h
  exact hGet_none h ref at_ (by rw [fst_len hR]; exact hr)
theorem pGet_out (h : Hep HT F w b m) {i : Nat} (hi : i < m.arrs.length) (hl : m.arrs.length ≤ 1000) (at_ : Int) (ha : at_ < 0 ∨ ((m.arrs.getD i default).data.length : Int) ≤ at_) : Calls Tryz.prog 97 #[.pointer (some ⟨b, 0, none⟩), .int .i64 ((i : Int) + 1), .int .i64 at_] w fun e w' => e = .returned (.tuple #[.int .u8 0, .bool false]) ∧ w = w' := by
  obtain ⟨av, R, h, hR⟩ := h
  obtain ⟨hr, e⟩ := fst_at hR hi
  exact hGet_out h hr (by rw [fst_len hR]; exact hl) at_ (by rw [e]; exact ha)
theorem pGet (h : Hep HT F w b m) {i : Nat} (hi : i < m.arrs.length) (hl : m.arrs.length ≤ 1000) {j : Nat} (hj : j < (m.arrs.getD i default).data.length) : Calls Tryz.prog 97 #[.pointer (some ⟨b, 0, none⟩), .int .i64 ((i : Int) + 1), .int .i64 j] w fun e w' => e = .returned (.tuple #[.int .u8 ((m.arrs.getD i default).data.getD j 0), .bool true]) ∧ w = w' := by
  obtain ⟨av, R, h, hR⟩ := h
  obtain ⟨hr, e⟩ := fst_at hR hi
  rw [← e] at hj ⊢
  exact hGet h hr (by rw [fst_len hR]; exact hl) hj
theorem pPut_none (h : Hep HT F w b m) (ref at_ y : Int) (hr : hasB m.arrs.length ref = false) : Calls Tryz.prog 98 #[.pointer (some ⟨b, 0, none⟩), .int .i64 ref, .int .i64 at_, .int .u8 y] w fun e w' => e = .returned (.bool false) ∧ w = w' := by
  obtain ⟨av, R, h, hR⟩ := h
  exact hPut_none h ref at_ y (by rw [fst_len hR]; exact hr)
theorem pPut_out (h : Hep HT F w b m) {i : Nat} (hi : i < m.arrs.length) (hl : m.arrs.length ≤ 1000) (at_ y : Int) (ha : at_ < 0 ∨ ((m.arrs.getD i default).data.length : Int) ≤ at_) : Calls Tryz.prog 98 #[.pointer (some ⟨b, 0, none⟩), .int .i64 ((i : Int) + 1), .int .i64 at_, .int .u8 y] w fun e w' => e = .returned (.bool false) ∧ w = w' := by
  obtain ⟨av, R, h, hR⟩ := h
  obtain ⟨hr, e⟩ := fst_at hR hi
  exact hPut_out h hr (by rw [fst_len hR]; exact hl) at_ y (by rw [e]; exact ha)
theorem pPut (h : Hep HT F w b m) {i : Nat} (hi : i < m.arrs.length) (hl : m.arrs.length ≤ 1000) {j : Nat} (hj : j < (m.arrs.getD i default).data.length) (y : Int) (hy : 0 ≤ y ∧ y ≤ 255) : Calls Tryz.prog 98 #[.pointer (some ⟨b, 0, none⟩), .int .i64 ((i : Int) + 1), .int .i64 j, .int .u8 y] w fun e w' => e = .returned (.bool true) ∧ Hep HT F w' b (m.put i j y) ∧ Upd F w w' := by
  obtain ⟨av, R, h, hR⟩ := h
  obtain ⟨hr, e⟩ := fst_at hR hi
  rw [← e] at hj
  refine (hPut h hr (by rw [fst_len hR]; exact hl) hj y hy).mono ?_
  rintro x w' ⟨rfl, h1, h2⟩
  refine ⟨rfl, ⟨av, _, h1, ?_⟩, h2⟩
  rw [fst_set hR, e]
  rfl
theorem pArray_no (h : Hep HT F w b m) (ref : Int) (hr : hasB m.arrs.length ref = false) : Calls Tryz.prog 95 #[.pointer (some ⟨b, 0, none⟩), .int .i64 ref] w fun e w' => e = .returned (.tuple #[zarr, .bool false]) ∧ Upd (fun _ => False) w w' := by
  obtain ⟨av, R, h, hR⟩ := h
  exact hArray_no h ref (by rw [fst_len hR]; exact hr)
theorem pArray (h : Hep HT F w b m) {i : Nat} (hi : i < m.arrs.length) (hl : m.arrs.length ≤ 1000) : Calls Tryz.prog 95 #[.pointer (some ⟨b, 0, none⟩), .int .i64 ((i : Int) + 1)] w fun e w' => ∃ d, e = .returned (.tuple #[aval (m.arrs.getD i default) d, .bool true]) ∧ New w d (m.arrs.getD i default).data w' := by
  obtain ⟨av, R, h, hR⟩ := h
  obtain ⟨hr, e⟩ := fst_at hR hi
  rw [← e]
  exact hArray h hr (by rw [fst_len hR]; exact hl)
theorem pAlloc_no (h : Hep HT F w b m) (hl : m.arrs.length ≤ 1000) (hs : 0 ≤ m.size ∧ m.size ≤ 4096) (own lab life n : Int) (sh : Bool) (hf : fitsB m lab life n = false) :
    Calls Tryz.prog 93 #[.pointer (some ⟨b, 0, none⟩), .int .i64 own, .int .i64 lab, .int .i64 life, .bool sh, .int .i64 n] w fun e w' => e = .returned (.tuple #[.int .i64 0, .bool false]) ∧ Upd (fun _ => False) w w' := by
  obtain ⟨av, R, h, hR⟩ := h
  exact hAlloc_no h (by rw [fst_len hR]; exact hl) hs own lab life n sh (by rw [hR]; exact hf)
theorem pAlloc (h : Hep HT F w b m) (hl : m.arrs.length ≤ 1000) (hs : 0 ≤ m.size ∧ m.size ≤ 4096) (own lab life n : Int) (sh : Bool) (hf : fitsB m lab life n = true) :
    Calls Tryz.prog 93 #[.pointer (some ⟨b, 0, none⟩), .int .i64 own, .int .i64 lab, .int .i64 life, .bool sh, .int .i64 n] w fun e w' => e = .returned (.tuple #[.int .i64 ((m.arrs.length + 1 : Nat) : Int), .bool true]) ∧ Hep HT (More F w w') w' b (m.add (newA own lab life sh n)) ∧ Upd F w w' := by
  obtain ⟨av, R, h, hR⟩ := h
  rw [← fst_len hR]
  refine (hAlloc h (by rw [fst_len hR]; exact hl) hs own lab life n sh (by rw [hR]; exact hf)).mono ?_
  rintro x w' ⟨rfl, ⟨av', d, h1⟩, h2⟩
  refine ⟨rfl, ⟨av', _, h1, ?_⟩, h2⟩
  rw [List.map_append, hR]
  rfl
theorem pNew (s : Int) (h1 : 64 ≤ s) (h2 : s ≤ 4096) : Calls Tryz.prog 29 #[.int .i64 s] w fun e w' => ∃ b, e = .returned (.tuple #[.pointer (some ⟨b, 0, none⟩), .int .i64 0]) ∧ Hep HT (Since w w') w' b (two s) ∧ Upd (fun _ => False) w w' := hNew s w h1 h2
end
end Go.Proofs.YtdmadfahgkikkaaGreat
/- Package heap: a heap of the law's own; the law's known; HeapKnown. -/
namespace Go.Proofs.YtdmadfahgkikkaaGreat
open Go.RowKit Go.ChangeShapes Go.WideShapes Go.Deep
set_option linter.unusedVariables false
set_option linter.unusedSimpArgs false

theorem Hep.wide {t : TypeId} {F G : Nat → Prop} {w : World} {b : Nat} {m : HpM} (h : Hep t F w b m) (hF : ∀ k, F k → G k) (hG : ∀ k, G k → k < w.heap.size) : Hep t G w b m := by
  obtain ⟨av, R, h, hR⟩ := h
  exact ⟨av, R, h.wide hF hG, hR⟩
/-- what may be turned of a heap that was made since w0, where K is kept -/
def Ours (K : Nat → Prop) (w0 w : World) (k : Nat) : Prop := Since w0 w k ∧ ¬ K k
/-- a heap that was made since w0, beside what is kept; nothing of w0 is turned -/
structure Own (K : Nat → Prop) (w0 w : World) (b : Nat) (m : HpM) : Prop where
  hp : Hep HT (Ours K w0 w) w b m
  up : Upd (fun _ => False) w0 w
  kl : ∀ k, K k → k < w.heap.size
/-- the same heap later, turned or not; what is kept is as it was -/
structure OwnTo (K : Nat → Prop) (w0 w w' : World) (b : Nat) (m : HpM) : Prop where
  own : Own K w0 w' b m
  step : Upd (Ours K w0 w) w w'
section
variable {K K' : Nat → Prop} {w0 w w' : World} {b : Nat} {m m' : HpM}
theorem Own.more (h : Own K w0 w b m) (h1 : Hep HT (More (Ours K w0 w) w w') w' b m') (h2 : Upd (Ours K w0 w) w w') : OwnTo K w0 w w' b m' := by
  have s1 := h.up.size
  have s2 := h2.size
  refine ⟨⟨h1.wide (fun k hk => ?_) (fun k hk => hk.1.2), h.up.trans h2 (fun k hk hl => by have := hk.1.1; omega), fun k hk => Nat.lt_of_lt_of_le (h.kl k hk) s2⟩, h2⟩
  rcases hk with hk | hk
  · exact ⟨⟨hk.1.1, by have := hk.1.2; omega⟩, hk.2⟩
  · exact ⟨⟨by omega, hk.2⟩, fun hK => by have := h.kl k hK; omega⟩
theorem Own.same (h : Own K w0 w b m) (h1 : Hep HT (Ours K w0 w) w' b m') (h2 : Upd (Ours K w0 w) w w') : OwnTo K w0 w w' b m' := by
  have s1 := h.up.size
  have s2 := h2.size
  exact ⟨⟨h1.wide (fun k hk => ⟨⟨hk.1.1, by have := hk.1.2; omega⟩, hk.2⟩) (fun k hk => hk.1.2), h.up.trans h2 (fun k hk hl => by have := hk.1.1; omega), fun k hk => Nat.lt_of_lt_of_le (h.kl k hk) s2⟩, h2⟩
theorem Own.quiet (h : Own K w0 w b m) (h2 : Upd (fun _ => False) w w') : OwnTo K w0 w w' b m :=
  h.same (h.hp.upd h2 (fun _ _ h => h)) (h2.mono (fun _ h _ => h.elim))
/-- what the law turned of its own, which is kept from the heap -/
theorem Own.aside (h : Own K w0 w b m) (h2 : Upd K w w') (hK : ∀ k, K k → w0.heap.size ≤ k) : Own K w0 w' b m := by
  have s1 := h.up.size
  have s2 := h2.size
  exact ⟨(h.hp.upd h2 (fun k hk hk' => hk.2 hk')).wide (fun k hk => ⟨⟨hk.1.1, by have := hk.1.2; omega⟩, hk.2⟩) (fun k hk => hk.1.2), h.up.trans h2 (fun k hk hl => by have := hK k hk; omega), fun k hk => Nat.lt_of_lt_of_le (h.kl k hk) s2⟩
/-- something that was made since w is kept, too -/
theorem Own.keep (h : Own K w0 w b m) (h2 : Upd (fun _ => False) w w') (hK : ∀ k, K' k → K k ∨ (w.heap.size ≤ k ∧ k < w'.heap.size)) : Own K' w0 w' b m := by
  have s1 := h.up.size
  have s2 := h2.size
  refine ⟨(h.hp.upd h2 (fun _ _ h => h)).wide (fun k hk => ⟨⟨hk.1.1, by have := hk.1.2; omega⟩, fun hk' => ?_⟩) (fun k hk => hk.1.2), h.up.trans h2 (fun _ h _ => h), fun k hk => ?_⟩
  · rcases hK k hk' with h | h
    · exact hk.2 h
    · have := hk.1.2; omega
  · rcases hK k hk with h3 | h3
    · have := h.kl k h3; omega
    · exact h3.2
theorem oNew (hu : Upd (fun _ => False) w0 w) (hK : ∀ k, K k → k < w.heap.size) (s : Int) (h1 : 64 ≤ s) (h2 : s ≤ 4096) : Calls Tryz.prog 29 #[.int .i64 s] w fun e w' => ∃ b, e = .returned (.tuple #[.pointer (some ⟨b, 0, none⟩), .int .i64 0]) ∧ Own K w0 w' b (two s) ∧ Upd (fun _ => False) w w' := by
  refine (pNew s h1 h2).mono ?_
  rintro e w' ⟨b, rfl, k1, k2⟩
  have := hu.size
  have := k2.size
  exact ⟨b, rfl, ⟨k1.wide (fun k hk => ⟨⟨by have := hk.1; omega, hk.2⟩, fun h => by have := hK k h; have := hk.1; omega⟩) (fun k hk => hk.1.2), hu.trans k2 (fun _ h _ => h), fun k hk => by have := hK k hk; omega⟩, k2⟩
theorem oAlloc (h : Own K w0 w b m) (hl : m.arrs.length ≤ 1000) (hs : 0 ≤ m.size ∧ m.size ≤ 4096) (own lab life n : Int) (sh : Bool) (hf : fitsB m lab life n = true) :
    Calls Tryz.prog 93 #[.pointer (some ⟨b, 0, none⟩), .int .i64 own, .int .i64 lab, .int .i64 life, .bool sh, .int .i64 n] w fun e w' => e = .returned (.tuple #[.int .i64 ((m.arrs.length + 1 : Nat) : Int), .bool true]) ∧ OwnTo K w0 w w' b (m.add (newA own lab life sh n)) :=
  (pAlloc h.hp hl hs own lab life n sh hf).mono fun e w' ⟨h1, h2, h3⟩ => ⟨h1, h.more h2 h3⟩
theorem oAlloc_no (h : Own K w0 w b m) (hl : m.arrs.length ≤ 1000) (hs : 0 ≤ m.size ∧ m.size ≤ 4096) (own lab life n : Int) (sh : Bool) (hf : fitsB m lab life n = false) :
    Calls Tryz.prog 93 #[.pointer (some ⟨b, 0, none⟩), .int .i64 own, .int .i64 lab, .int .i64 life, .bool sh, .int .i64 n] w fun e w' => e = .returned (.tuple #[.int .i64 0, .bool false]) ∧ OwnTo K w0 w w' b m :=
  (pAlloc_no h.hp hl hs own lab life n sh hf).mono fun e w' ⟨h1, h2⟩ => ⟨h1, h.quiet h2⟩
theorem oPut (h : Own K w0 w b m) {i : Nat} (hi : i < m.arrs.length) (hl : m.arrs.length ≤ 1000) {j : Nat} (hj : j < (m.arrs.getD i default).data.length) (y : Int) (hy : 0 ≤ y ∧ y ≤ 255) : Calls Tryz.prog 98 #[.pointer (some ⟨b, 0, none⟩), .int .i64 ((i : Int) + 1), .int .i64 j, .int .u8 y] w fun e w' => e = .returned (.bool true) ∧ OwnTo K w0 w w' b (m.put i j y) :=
  (pPut h.hp hi hl hj y hy).mono fun e w' ⟨h1, h2, h3⟩ => ⟨h1, h.same h2 h3⟩
theorem oUsed (h : Own K w0 w b m) (hl : m.arrs.length ≤ 1000) : Calls Tryz.prog 106 #[.pointer (some ⟨b, 0, none⟩)] w fun e w' => e = .returned (.int .i64 (usedP m.arrs : Int)) ∧ OwnTo K w0 w w' b m :=
  (pUsed h.hp hl).mono fun e w' ⟨h1, h2⟩ => ⟨h1, h.quiet h2⟩
theorem oArray (h : Own K w0 w b m) {i : Nat} (hi : i < m.arrs.length) (hl : m.arrs.length ≤ 1000) : Calls Tryz.prog 95 #[.pointer (some ⟨b, 0, none⟩), .int .i64 ((i : Int) + 1)] w fun e w' => ∃ d, e = .returned (.tuple #[aval (m.arrs.getD i default) d, .bool true]) ∧ New w d (m.arrs.getD i default).data w' ∧ OwnTo K w0 w w' b m :=
  (pArray h.hp hi hl).mono fun e w' ⟨d, h1, h2⟩ => ⟨d, h1, h2, h.quiet h2.2.1⟩
end
/-- nothing is kept -/
def Free (_ : Nat) : Prop := False
def k1M : HpM := (two 64).add (newA 0 3 0 false 56)
end Go.Proofs.YtdmadfahgkikkaaGreat

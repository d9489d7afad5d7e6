/- Rows of own memory: numbers, instructions, imports, methods; a reader beside them; taking numbers. -/
import Derived.Test.YtmikibcgphkcfaaGreatDoorIa
import Derived.Test.YtmikibcgphkcfaaGreatDoorCr
import Derived.Lib.SmallJoins
import Derived.Deep.RegionLaw
namespace Go.Proofs.YtmikibcgphkcfaaGreatDoor
open Go.RowKit Go.Lib
set_option linter.unusedVariables false

theorem infoInt : (Tryz.prog.info? 3).map (fun i => (i.zero, i.size, i.bytes)) = some (some (.int .i64 0), 1, 8) := by kernel_rfl
theorem infoIns : (Tryz.prog.info? 41).map (fun i => (i.zero, i.size, i.bytes)) = some (some (.agg #[.int .i64 0, .int .i64 0, .int .i64 0]), 3, 24) := by kernel_rfl
theorem infoImp : (Tryz.prog.info? 43).map (fun i => (i.zero, i.size, i.bytes)) = some (some (.agg #[.string { data := #[] }, .int .i64 0, .slice none 0 0, .int .i64 0]), 4, 56) := by kernel_rfl
theorem infoMet : (Tryz.prog.info? 39).map (fun i => (i.zero, i.size, i.bytes)) = some (some (.agg #[.slice none 0 0, .int .i64 0, .slice none 0 0, .slice none 0 0]), 4, 80) := by kernel_rfl

/-- a literal slice of any elements, in a new block -/
theorem srcN (w : World) (e : TypeId) (cs : Array Value) (sz : Nat) (h1 : ∀ u ∈ cs.toList, u.oneCell' = true) (n c : Nat) (hn : cs.size = n * sz) :
    Src (w.alloc (.cells cs e)) sz (.slice (some ⟨w.heap.size, 0, none⟩) n c) n cs.toList := by
  refine .inr ⟨_, _, rfl, by simpa using hn, fun j u hj => ?_, h1⟩
  have hadd : (⟨w.heap.size, 0, none⟩ : Addr).add j = ⟨w.heap.size, j, none⟩ := by unfold Addr.add; split <;> simp_all
  rw [hadd]
  show (match (w.heap.push _)[w.heap.size]? with | some (.cells c _ _) => _ | _ => _) = _
  simpa using hj

theorem srcAt (w : World) (e : TypeId) (cs : Array Value) (l : List Value) (hl : cs.toList = l) (sz : Nat) (h1 : ∀ u ∈ l, u.oneCell' = true) (n c g : Nat) (hg : w.heap.size = g) (hn : cs.size = n * sz) :
    Src (w.alloc (.cells cs e)) sz (.slice (some ⟨g, 0, none⟩) n c) n l := by
  subst hl hg
  exact srcN w e cs sz h1 n c hn
/-- the append law inside a drawn region -/
theorem step_append_mine {P : Program} {ops : Array Oper} {o : Oper} {a : Act} {w : World} {K : Act → World → Prop} {Q : Exit → Act → World → Prop} {E : Prop}
    (hg : o.guard = none) (s x : Operand) (t : TypeId) (hop : o.op = Op.call { callee := Callee.builtin Builtin.append, args := #[s, x], argTypes := #[t, t] })
    (base : Nat) (e : TypeId) (i : TypeInfo) (z : Value) (size bytes : Nat) (ht : P.underlying t = some (.slice e)) (hi : P.info? e = some i) (hz : i.zero = some z)
    (hsize : i.size = size) (hby : i.bytes = bytes) (hzs : z.cells.size = size) (hsz : 0 < size)
    (v : Value) (n : Nat) (xs : List Value) (hs : a.eval s = v) (hown : w.ownsRow base e size v n xs)
    (m : Nat) (news : List Value) (hx : Src w size (a.eval x) m news)
    (h63 : n + m ≤ maxLen) (hbytes : (n + m) * bytes ≤ 140737488355328) (hbase : base ≤ w.heap.size)
    (hK : ∀ v' w', w'.ownsRow base e size v' (n + m) (xs ++ news) → w.grownBy w' v.ownBlock → Fresh w v v' → K (a.put o.dst v') w') :
    if Region.wanted o (yielded ops a.tmps) = true then Oper.wp P o a w K Q else E := by
  have hw : Region.wanted o (yielded ops a.tmps) = true := by simp [Region.wanted, hg]
  rw [if_pos hw]
  obtain ⟨v', w', hr, h2, h3, h4⟩ := run_append_mine (P := P) w base t o.type e i z size bytes ht hi hz hsize hby hzs hsz v n xs hown (a.eval x) m news hx h63 hbytes hbase
  have hK' := hK v' w' h2 h3 h4
  unfold Oper.wp
  simp [execOp, hop, resolve, invoke, builtin, hs, hr, Result.andThen]
  exact hK'
/-- two rows of unlike types lie apart -/
theorem row_ne {w : World} {base base' : Nat} {e e' : TypeId} {sz sz' n n' : Nat} {v v' : Value} {xs xs' : List Value} (h : w.ownsRow base e sz v n xs) (h' : w.ownsRow base' e' sz' v' n' xs') (he : e ≠ e') : ∀ k, v.ownBlock = some k → ¬ v'.ownBlock = some k := by
  intro k hk hk'
  rcases h.2 with ⟨rfl, _⟩ | ⟨g, cap, cur, rfl, _, hg, _⟩
  · simp [Value.ownBlock] at hk
  · rcases h'.2 with ⟨rfl, _⟩ | ⟨g', cap', cur', rfl, _, hg', _⟩
    · simp [Value.ownBlock] at hk'
    · simp [Value.ownBlock] at hk hk'
      subst hk hk'
      rw [hg] at hg'
      simp at hg'
      exact he hg'.2
theorem row_blk {w : World} {base : Nat} {e e' : TypeId} {sz n b : Nat} {v : Value} {xs : List Value} {cs : Array Value} (h : w.ownsRow base e sz v n xs) (h' : w.heap[b]? = some (.cells cs e' (0, 0))) (he : e ≠ e') : v.ownBlock ≠ some b := by
  intro hk
  rcases h.2 with ⟨rfl, _⟩ | ⟨g, cap, cur, rfl, _, hg, _⟩
  · simp [Value.ownBlock] at hk
  · simp [Value.ownBlock] at hk
    subst hk
    rw [hg] at h'
    simp at h'
    exact he h'.2

/-- a reader at b, and what has been turned since W: it, and new memory -/
def RdW (t : TypeId) (W w : World) (b : Nat) (V : Value) (lk : Bool) (ys : List Int) : Prop :=
  (∀ k, fp b V k → k < W.heap.size) ∧ ∃ v, Rd t w b v lk ys ∧ Upd (fun k => k = b) W w ∧ ∀ k, v.ownBlock = some k → V.ownBlock = some k
section
variable {t : TypeId} {W w w' : World} {b : Nat} {V : Value} {lk lk' : Bool} {ys ys' : List Int}
theorem Rd.fplt (h : Rd t w b V lk ys) : ∀ k, fp b V k → k < w.heap.size := by
  intro k hk
  rcases hk with rfl | hk
  · exact h.lt
  · exact h.inn k hk
theorem RdW.of (h : Rd t W b V lk ys) : RdW t W W b V lk ys := ⟨h.fplt, V, h, Upd.refl _ _, fun _ h => h⟩
theorem RdW.step {T : Nat → Prop} (h : RdW t W w b V lk ys) (hu : Upd T w w') (hT : ∀ k, T k → W.heap.size ≤ k) : RdW t W w' b V lk ys := by
  obtain ⟨h0, v, h1, h2, h3⟩ := h
  refine ⟨h0, v, h1.upd hu (fun k hk hTk => ?_), h2.trans hu (fun i hi hlt => by have := hT i hi; omega), h3⟩
  have := hT k hTk
  have := h0 k (by rcases hk with hk | hk; exact .inl hk; exact .inr (h3 k hk))
  omega
theorem RdW.mono (h : RdW t W w b V lk ys) (hu : Upd (fun _ => False) w w') : RdW t W w' b V lk ys := h.step hu (fun _ h => h.elim)
/-- a call of the reader's own -/
theorem RdW.call {v : Value} (h0 : ∀ k, fp b V k → k < W.heap.size) (h2 : Upd (fun k => k = b) W w) (h3 : ∀ k, v.ownBlock = some k → V.ownBlock = some k) {v' : Value} (k1 : Rd t w' b v' lk' ys') (k2 : Upd (fun k => k = b) w w') (k3 : ∀ k, v'.ownBlock = some k → v.ownBlock = some k) : RdW t W w' b V lk' ys' :=
  ⟨h0, v', k1, h2.trans k2 (fun i hi _ => hi), fun k hk => h3 k (k3 k hk)⟩
theorem RdW.lt (h : RdW t W w b V lk ys) : b < W.heap.size := h.1 b (.inl rfl)
theorem RdW.size (h : RdW t W w b V lk ys) : W.heap.size ≤ w.heap.size := by obtain ⟨_, v, _, h, _⟩ := h; exact h.size
theorem RdW.upd (h : RdW t W w b V lk ys) : Upd (fun k => k = b) W w := by obtain ⟨_, v, _, h, _⟩ := h; exact h
end

/-- own numbers -/
def iv (L : List Int) : List Value := L.map (.int .i64)
theorem iv_len (L : List Int) : (iv L).length = L.length := by simp [iv]
def NRow (w : World) (v : Value) (L : List Int) : Prop := w.ownsRow 0 3 1 v L.length (iv L) ∧ ∀ y ∈ L, 0 ≤ y ∧ y ≤ 255
theorem NRow.ints {w : World} {v : Value} {L : List Int} (h : NRow w v L) : Ints w v L := by
  refine ⟨(Sl.own h.1).congr (fun i hi j hj => ?_), fun n hn => by have := h.2 n hn; unfold wi64; omega⟩
  obtain rfl : j = 0 := by omega
  simp [iv, hi, List.getD]
theorem NRow.upd {w w' : World} {v : Value} {L : List Int} {S : Nat → Prop} (h : NRow w v L) (hu : Upd S w w') (hS : ∀ k, v.ownBlock = some k → ¬ S k) : NRow w' v L := ⟨ownsRow_upd h.1 hu hS, h.2⟩

theorem takeP_max (n : Int) (lk : Bool) (ys : List Int) : (takeP n lk ys).1.length ≤ n.toNat := by
  unfold takeP
  split
  · simp
  · simp
    omega
theorem shortP_len {lk : Bool} {ys : List Int} (h : ∀ y ∈ ys, 0 ≤ y ∧ y ≤ 255) : (shortP lk ys).1.length ≤ 255 := by
  have hb := (taken_bd h 1 lk (by omega)).2
  simp at hb
  have := takeP_max (beN (takeP 1 lk ys).1) (takeP 1 lk ys).2.1 (takeP 1 lk ys).2.2
  unfold shortP
  omega
theorem take_succ' {L : List Int} {k : Nat} (hk : k < L.length) : L.take (k + 1) = L.take k ++ [L.getD k 0] := by
  have e : L.getD k 0 = L[k] := by simp [List.getD, hk]
  rw [List.take_succ_eq_append_getElem hk, e]

end Go.Proofs.YtmikibcgphkcfaaGreatDoor

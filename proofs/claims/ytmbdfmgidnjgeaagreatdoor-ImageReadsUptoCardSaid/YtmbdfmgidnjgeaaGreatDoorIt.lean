/- Rows of own memory: numbers, instructions, imports, methods; a reader beside them; taking numbers. -/
import Derived.Test.YtmbdfmgidnjgeaaGreatDoorIa
import Derived.Test.YtmbdfmgidnjgeaaGreatDoorCr
import Derived.Lib.SmallJoins
import Derived.Deep.RegionLaw
namespace Go.Proofs.YtmbdfmgidnjgeaaGreatDoor
open Go.RowKit Go.Lib
set_option linter.unusedVariables false

theorem infoInt : (Tryz.prog.info? 3).map (fun i => (i.zero, i.size, i.bytes)) = some (some (.int .i64 0), 1, 8) := by kernel_rfl
theorem infoIns : (Tryz.prog.info? 55).map (fun i => (i.zero, i.size, i.bytes)) = some (some (.agg #[.int .i64 0, .int .i64 0, .int .i64 0]), 3, 24) := by kernel_rfl
theorem infoImp : (Tryz.prog.info? 49).map (fun i => (i.zero, i.size, i.bytes)) = some (some (.agg #[.string { data := #[] }, .int .i64 0, .slice none 0 0, .int .i64 0]), 4, 56) := by kernel_rfl
theorem infoMet : (Tryz.prog.info? 52).map (fun i => (i.zero, i.size, i.bytes)) = some (some (.agg #[.slice none 0 0, .int .i64 0, .slice none 0 0, .slice none 0 0]), 4, 80) := by kernel_rfl

/-- a literal slice of any elements, in a new block -/
theorem srcN (w : World) (e : TypeId) (cs : Array Value) (sz : Nat) (h1 : ∀ u ∈ cs.toList, u.oneCell' = true) (n c : Nat) (hn : cs.size = n * sz) :
    Src (w.alloc (.cells cs e)) sz (.slice (some ⟨w.heap.size, 0, none⟩) n c) n cs.toList := by
  refine .inr ⟨_, _, rfl, by simpa using hn, fun j u hj => ?_, h1⟩
  have hadd : (⟨w.heap.size, 0, none⟩ : Addr).add j = ⟨w.heap.size, j, none⟩ := by unfold Addr.add; split <;> simp_all
  rw [hadd]
  show (match (w.heap.push _)[w.heap.size]? with | some (.cells c _ _) => _ | _ => _) = _
  simpa using hj

theorem srcAt (w : World) (e : TypeId) (cs : Array Value) (l : List Value) (hl : cs.toList = l) (sz : Nat) (h1 : ∀ u ∈ l, u.oneCell' = true) (n c g : Nat) (hg : w.heap.size = g) (hn : cs.size = n * sz) :
    Src (w.alloc (.cells cs e)) sz (.slice (some ⟨g, 0, none⟩) n c) n l := by
  subst hl hg
  exact srcN w e cs sz h1 n c hn
/-- the append law inside a drawn region -/
theorem step_append_mine {P : Program} {ops : Array Oper} {o : Oper} {a : Act} {w : World} {K : Act → World → Prop} {Q : Exit → Act → World → Prop} {E : Prop}
    (hg : o.guard = none) (s x : Operand) (t : TypeId) (hop : o.op = Op.call { callee := Callee.builtin Builtin.append, args := #[s, x], argTypes := #[t, t] })
    (base : Nat) (e : TypeId) (i : TypeInfo) (z : Value) (size bytes : Nat) (ht : P.underlying t = some (.slice e)) (hi : P.info? e = some i) (hz : i.zero = some z)
    (hsize : i.size = size) (hby : i.bytes = bytes) (hzs : z.cells.size = size) (hsz : 0 < size)
    (v : Value) (n : Nat) (xs : List Value) (hs : a.eval s = v) (hown : w.ownsRow base e size v n xs)
    (m : Nat) (news : List Value) (hx : Src w size (a.eval x) m news)
    (h63 : n + m ≤ maxLen) (hbytes : (n + m) * bytes ≤ 140737488355328) (hbase : base ≤ w.heap.size)
    (hK : ∀ v' w', w'.ownsRow base e size v' (n + m) (xs ++ news) → w.grownBy w' v.ownBlock → Fresh w v v' → K (a.put o.dst v') w') :
    if Region.wanted o (yielded ops a.tmps) = true then Oper.wp P o a w K Q else E := by
  have hw : Region.wanted o (yielded ops a.tmps) = true := by simp [Region.wanted, hg]
  rw [if_pos hw]
  obtain ⟨v', w', hr, h2, h3, h4⟩ := run_append_mine (P := P) w base t o.type e i z size bytes ht hi hz hsize hby hzs hsz v n xs hown (a.eval x) m news hx h63 hbytes hbase
  have hK' := hK v' w' h2 h3 h4
  unfold Oper.wp
  simp [execOp, hop, resolve, invoke, builtin, hs, hr, Result.andThen]
  exact hK'
/-- two rows of unlike types lie apart -/
theorem row_ne {w : World} {base base' : Nat} {e e' : TypeId} {sz sz' n n' : Nat} {v v' : Value} {xs xs' : List Value} (h : w.ownsRow base e sz v n xs) (h' : w.ownsRow base' e' sz' v' n' xs') (he : e ≠ e') : ∀ k, v.ownBlock = some k → ¬ v'.ownBlock = some k := by
  intro k hk hk'
  rcases h.2 with ⟨rfl, _⟩ | ⟨g, cap, cur, rfl, _, hg, _⟩
  · simp [Value.ownBlock] at hk
  · rcases h'.2 with ⟨rfl, _⟩ | ⟨g', cap', cur', rfl, _, hg', _⟩
    · simp [Value.ownBlock] at hk'
    · simp [Value.ownBlock] at hk hk'
      subst hk hk'
      rw [hg] at hg'
      simp at hg'
      exact he hg'.2
theorem row_blk {w : World} {base : Nat} {e e' : TypeId} {sz n b : Nat} {v : Value} {xs : List Value} {cs : Array Value} (h : w.ownsRow base e sz v n xs) (h' : w.heap[b]? = some (.cells cs e' (0, 0))) (he : e ≠ e') : v.ownBlock ≠ some b := by
  intro hk
  rcases h.2 with ⟨rfl, _⟩ | ⟨g, cap, cur, rfl, _, hg, _⟩
  · simp [Value.ownBlock] at hk
  · simp [Value.ownBlock] at hk
    subst hk
    rw [hg] at h'
    simp at h'
    exact he h'.2

/-- a reader at b, and what has been turned since W: it, and new memory -/
def RdW (t : TypeId) (W w : World) (b : Nat) (V : Value) (lk : Bool) (ys : List Int) : Prop :=
  (∀ k, fp b V k → k < W.heap.size) ∧ ∃ v, Rd t w b v lk ys ∧ Upd (fun k => k = b) W w ∧ ∀ k, v.ownBlock = some k → V.ownBlock = some k
section
variable {t : TypeId} {W w w' : World} {b : Nat} {V : Value} {lk lk' : Bool} {ys ys' : List Int}
theorem Rd.fplt (h : Rd t w b V lk ys) : ∀ k, fp b V k → k < w.heap.size := by
  intro k hk
  rcases hk with rfl | hk
  · exact h.lt
  · exact h.inn k hk
theorem RdW.of (h : Rd t W b V lk ys) : RdW t W W b V lk ys := ⟨h.fplt, V, h, Upd.refl _ _, fun _ h => h⟩
theorem RdW.step {T : Nat → Prop} (h : RdW t W w b V lk ys) (hu : Upd T w w') (hT : ∀ k, T k → W.heap.size ≤ k) : RdW t W w' b V lk ys := by
  obtain ⟨h0, v, h1, h2, h3⟩ := h
  refine ⟨h0, v, h1.upd hu (fun k hk hTk => ?_), h2.trans hu (fun i hi hlt => by have := hT i hi; omega), h3⟩
  have := hT k hTk
  have := h0 k (by rcases hk with hk | hk; exact .inl hk; exact .inr (h3 k hk))
  omega
theorem RdW.mono (h : RdW t W w b V lk ys) (hu : Upd (fun _ => False) w w') : RdW t W w' b V lk ys := h.step hu (fun _ h => h.elim)
/-- a call of the reader's own -/
theorem RdW.call {v : Value} (h0 : ∀ k, fp b V k → k < W.heap.size) (h2 : Upd (fun k => k = b) W w) (h3 : ∀ k, v.ownBlock = some k → V.ownBlock = some k) {v' : Value} (k1 : Rd t w' b v' lk' ys') (k2 : Upd (fun k => k = b) w w') (k3 : ∀ k, v'.ownBlock = some k → v.ownBlock = some k) : RdW t W w' b V lk' ys' :=
  ⟨h0, v', k1, h2.trans k2 (fun i hi _ => hi), fun k hk => h3 k (k3 k hk)⟩
theorem RdW.lt (h : RdW t W w b V lk ys) : b < W.heap.size := h.1 b (.inl rfl)
theorem RdW.size (h : RdW t W w b V lk ys) : W.heap.size ≤ w.heap.size := by obtain ⟨_, v, _, h, _⟩ := h; exact h.size
theorem RdW.upd (h : RdW t W w b V lk ys) : Upd (fun k => k = b) W w := by obtain ⟨_, v, _, h, _⟩ := h; exact h
end

theorem eU8 {W w : World} {b : Nat} {V : Value} {lk : Bool} {ys : List Int} (h : RdW 88 W w b V lk ys) :
    Calls Tryz.prog 49 #[.pointer (some ⟨b, 0, none⟩)] w fun e w' => e = .returned (.int .i64 (beN (takeP 1 lk ys).1)) ∧ RdW 88 W w' b V (takeP 1 lk ys).2.1 (takeP 1 lk ys).2.2 ∧ Upd (fun k => k = b) w w' ∧ 0 ≤ beN (takeP 1 lk ys).1 ∧ beN (takeP 1 lk ys).1 ≤ 255 := by
  obtain ⟨h0, v, h1, h2, h3⟩ := h
  have hb := taken_bd h1.vw.1 1 lk (by omega)
  refine (rU8 w b v lk ys h1).mono fun e w' ⟨he, v1, k1, k2, k3⟩ => ⟨he, RdW.call h0 h2 h3 k1 k2 k3, k2, hb.1, ?_⟩
  have := hb.2
  simp at this
  omega
/-- behind a call that took bytes: a copy of them, in new memory -/
theorem eShort {W w : World} {b : Nat} {V : Value} {lk : Bool} {ys : List Int} (h : RdW 88 W w b V lk ys) :
    Calls Tryz.prog 47 #[.pointer (some ⟨b, 0, none⟩)] w fun e w' => ∃ r, e = .returned r ∧ RdW 88 W w' b V (shortP lk ys).2.1 (shortP lk ys).2.2 ∧ Upd (fun k => k = b) w w' ∧ w'.ownsRow 0 5 1 r (shortP lk ys).1.length (bv (shortP lk ys).1) ∧ (∀ k, r.ownBlock = some k → w.heap.size ≤ k) ∧ ∀ y ∈ (shortP lk ys).1, 0 ≤ y ∧ y ≤ 255 := by
  obtain ⟨h0, v, h1, h2, h3⟩ := h
  exact (rShort w b v lk ys h1).mono fun e w' ⟨r, he, v1, k1, k2, k3, k4, k5⟩ => ⟨r, he, RdW.call h0 h2 h3 k1 k3 k4, k3, k2, k5, takeP_bd (fun y hy => h1.vw.1 y (takeP_sub _ _ _ y hy)) _ _⟩

/-- own numbers -/
def iv (L : List Int) : List Value := L.map (.int .i64)
theorem iv_len (L : List Int) : (iv L).length = L.length := by simp [iv]
def NRow (w : World) (v : Value) (L : List Int) : Prop := w.ownsRow 0 3 1 v L.length (iv L) ∧ ∀ y ∈ L, 0 ≤ y ∧ y ≤ 255
theorem NRow.ints {w : World} {v : Value} {L : List Int} (h : NRow w v L) : Ints w v L := by
  refine ⟨(Sl.own h.1).congr (fun i hi j hj => ?_), fun n hn => by have := h.2 n hn; unfold wi64; omega⟩
  obtain rfl : j = 0 := by omega
  simp [iv, hi, List.getD]
theorem NRow.upd {w w' : World} {v : Value} {L : List Int} {S : Nat → Prop} (h : NRow w v L) (hu : Upd S w w') (hS : ∀ k, v.ownBlock = some k → ¬ S k) : NRow w' v L := ⟨ownsRow_upd h.1 hu hS, h.2⟩

theorem takeP_max (n : Int) (lk : Bool) (ys : List Int) : (takeP n lk ys).1.length ≤ n.toNat := by
  unfold takeP
  split
  · simp
  · simp
    omega
theorem shortP_len {lk : Bool} {ys : List Int} (h : ∀ y ∈ ys, 0 ≤ y ∧ y ≤ 255) : (shortP lk ys).1.length ≤ 255 := by
  have hb := (taken_bd h 1 lk (by omega)).2
  simp at hb
  have := takeP_max (beN (takeP 1 lk ys).1) (takeP 1 lk ys).2.1 (takeP 1 lk ys).2.2
  unfold shortP
  omega
theorem take_succ' {L : List Int} {k : Nat} (hk : k < L.length) : L.take (k + 1) = L.take k ++ [L.getD k 0] := by
  have e : L.getD k 0 = L[k] := by simp [List.getD, hk]
  rw [List.take_succ_eq_append_getElem hk, e]

set_option maxRecDepth 100000 in
set_option maxHeartbeats 2000000 in
theorem cTakeNumbers (W w : World) (b : Nat) (V : Value) (lk : Bool) (ys : List Int) (h : RdW 88 W w b V lk ys) :
    Calls Tryz.prog 48 #[.pointer (some ⟨b, 0, none⟩)] w fun e w' => ∃ r, e = .returned r ∧ RdW 88 W w' b V (shortP lk ys).2.1 (shortP lk ys).2.2 ∧ Upd (fun k => k = b) w w' ∧ NRow w' r (shortP lk ys).1 ∧ ∀ k, r.ownBlock = some k → w.heap.size ≤ k := by
  obtain ⟨i0, hi, hz0, hz1, hz2⟩ := info_parts infoInt
  have HH := Lib.hid h
  have HLn := Lib.hid (show (shortP lk ys).1.length ≤ 255 by obtain ⟨_, v, h1, _⟩ := h; exact shortP_len h1.vw.1)
  clear h
  go_enter Tryz.func48, Tryz.ntmps48
  go_wp2_with fail
  refine (eShort HH.out).mono ?_
  rintro e w1 ⟨r, rfl, k1, k2, k3, k4, k5⟩
  have K1 := Lib.hid k1
  have K2 := Lib.hid k2
  have K4 := Lib.hid k4
  obtain ⟨L, hL⟩ : ∃ L, L = (shortP lk ys).1 := ⟨_, rfl⟩
  rw [← hL] at k3 k5 HLn
  have HL := Lib.hid hL
  clear hL
  have K3 := Lib.hid k3
  have K5 := Lib.hid k5
  obtain ⟨ra, rc, rfl⟩ := ownsRow_slice k3
  have HR0 : Hid (NRow w1 (.slice none 0 0) (L.take 0)) := Lib.hid ⟨World.ownsRow_nil _ _ _ _, by simp⟩
  have HF0 : Hid (∀ k, (Value.slice none 0 0).ownBlock = some k → w1.heap.size ≤ k) := Lib.hid (by simp [Value.ownBlock])
  have HU0 : Hid (Upd (fun k => w1.heap.size ≤ k) w1 w1) := Lib.hid (Upd.refl _ _)
  clear k1 k2 k3 k4 k5
  go_wp2_with fail
  go_loopw [9, 5, 3] (fun i _ nv wr => ∃ (k : Nat) (na : Option Addr) (nc : Nat), k ≤ L.length ∧ i = .int .i64 k ∧ nv = .slice na k nc ∧ Hid (NRow wr nv (L.take k)) ∧ Hid (∀ j, nv.ownBlock = some j → w1.heap.size ≤ j) ∧ Hid (Upd (fun k => w1.heap.size ≤ k) w1 wr)) (fun i _ _ _ => L.length - (intOf i).toNat)
  case atStart => exact ⟨0, none, 0, Nat.zero_le _, rfl, rfl, HR0, HF0, HU0⟩
  case round =>
    obtain ⟨k, na, nc, hk, rfl, rfl, HR, HF, HU⟩ := hrel
    by_cases hlt : k < L.length
    · have hrow := ownsRow_upd K3.out HU.out (fun j hj hS => by have := (K3.out.lt j hj).2; omega)
      obtain ⟨g, cap, cur, hsl, -, -, -, -, -, -⟩ : ∃ g cap cur, Value.slice ra L.length rc = .slice (some ⟨g, 0, none⟩) L.length cap ∧ 0 ≤ g ∧ wr.heap[g]? = some (.cells cur 5 (0, 0)) ∧ L.length ≤ cap ∧ cap ≤ maxLen ∧ cur.size = cap * 1 ∧ cur.toList.take (L.length * 1) = bv L := by
        rcases hrow.2 with h | h
        · omega
        · exact h
      simp at hsl
      obtain ⟨rfl, rfl⟩ := hsl
      have hc := hrow.cells (g := g) rfl k (.int .u8 (L.getD k 0)) (by simp [bv, hlt, List.getD])
      rw [addr_add, Nat.zero_add] at hc
      obtain ⟨n, hn⟩ : ∃ n, n = L.getD k 0 := ⟨_, rfl⟩
      have hnb := K5.out _ (mem_getD0 hlt)
      rw [← hn] at hc hnb
      obtain ⟨hn1, hn2⟩ := hnb
      have HT := Lib.hid (take_succ' hlt)
      rw [← hn] at HT
      have HROW := HR.out.1
      have hl : (L.take k).length = k := by simp; omega
      rw [hl] at HROW
      have HRR := Lib.hid HROW
      have hle := HLn.out
      clear hn hrow HROW hl
      go_wp2_with (at_builtin; go_loud (refine wpList_append_mine _ rfl _ _ 24 rfl 0 3 i0 (.int .i64 0) 1 8 Tryz.underlying24 hi hz0 hz1 hz2 rfl (by decide) (.slice na k nc) k (iv (L.take k)) rfl (HRR.out.alloc _) 1 [.int .i64 n] (srcN wr 3 #[.int .i64 n] 1 (by simp [Value.oneCell']) 1 _ rfl) (by unfold maxLen; omega) (by omega) (Nat.zero_le _) ?_))
      intro v' w2 ho hg hf
      obtain ⟨va, vc, rfl⟩ := ownsRow_slice ho
      have HR2 : Hid (NRow w2 (.slice va (k + 1) vc) (L.take (k + 1))) := Lib.hid ⟨by rw [HT.out]; simpa [iv, Nat.min_eq_left (Nat.le_of_lt hlt)] using ho, fun y hy => K5.out y (List.mem_of_mem_take hy)⟩
      have HF2 : Hid (∀ j, (Value.slice va (k + 1) vc).ownBlock = some j → w1.heap.size ≤ j) := Lib.hid (fun j hj => by
        rcases hf j hj with h | h
        · exact HF.out j h
        · have := HU.out.size; simp at h; omega)
      have HU2 : Hid (Upd (fun k => w1.heap.size ≤ k) w1 w2) := Lib.hid (HU.out.trans ((Upd.row (Upd.alloc _ wr _) hg).mono (T := fun k => w1.heap.size ≤ k) (fun i hi _ => HF.out i hi)) (fun i h _ => h))
      clear ho hg hf hc
      go_wp2_with fail
      go_roundw
      case rel => exact ⟨k + 1, _, _, by omega, by go_num, rfl, HR2, HF2, HU2⟩
      case measure => simp [intOf]; omega
    · have HE := Lib.hid (show L.take k = L from List.take_of_length_le (by omega))
      go_wp2_with fail
      go_ret
      refine ⟨.slice na k nc, rfl, K1.out.step HU.out (fun j hj => by have := K1.out.size; omega), ?_, by have := HR.out; rw [HE.out, HL.out] at this; exact this, fun j hj => Nat.le_trans K2.out.size (HF.out j hj)⟩
      exact K2.out.trans HU.out (fun i hi hlt => by have := K2.out.size; omega)
end Go.Proofs.YtmbdfmgidnjgeaaGreatDoor

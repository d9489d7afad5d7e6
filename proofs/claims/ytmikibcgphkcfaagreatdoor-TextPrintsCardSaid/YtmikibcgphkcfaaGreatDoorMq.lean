/- The hand's maker: its last instruction set. -/
import Derived.Test.YtmikibcgphkcfaaGreatDoorMn
namespace Go.Proofs.YtmikibcgphkcfaaGreatDoor
open Go.RowKit Go.Lib
set_option linter.unusedVariables false

theorem ownsRow_set {w : World} {base : Nat} {e : TypeId} {size g n cap : Nat} {xs : List Value} (h : w.ownsRow base e size (.slice (some ⟨g, 0, none⟩) n cap) n xs) (q : Nat) (u : Value) :
    (w.setCell ⟨g, q, none⟩ u).ownsRow base e size (.slice (some ⟨g, 0, none⟩) n cap) n (xs.set q u) := by
  obtain ⟨hl, h⟩ := h
  rcases h with ⟨h, _⟩ | ⟨g', cap', cur, he, hb, hg, hc, hm, hcs, ht⟩
  · simp at h
  · simp at he
    obtain ⟨rfl, rfl⟩ := he
    refine ⟨by simpa using hl, .inr ⟨g, cap, cur.setIfInBounds q u, rfl, hb, ?_, hc, hm, by simpa using hcs, ?_⟩⟩
    · simp [World.setCell, Array.getElem?_modify, hg]
    · rw [Array.toList_setIfInBounds, ← ht, List.take_set]
theorem icl_set (C : List InsM) (k : Nat) (hk : k < C.length) (u : Int) : (C.set k ⟨(C.getD k default).op, u, (C.getD k default).b⟩).flatMap icl = (C.flatMap icl).set (k * 3 + 1) (.int .i64 u) := by
  induction C generalizing k with
  | nil => simp at hk
  | cons x C ih =>
    cases k with
    | zero => simp [icl]
    | succ k =>
      have := ih k (by simpa using hk)
      rw [show (k + 1) * 3 + 1 = k * 3 + 1 + 3 by omega]
      simp [icl, List.set] at this ⊢
      exact this
theorem CRow.setA {w : World} {g cap : Nat} {C : List InsM} (h : CRow w (.slice (some ⟨g, 0, none⟩) C.length cap) C) (k : Nat) (hk : k < C.length) (u : Int) (hu : wi64 u) :
    CRow (w.setCell ⟨g, k * 3 + 1, none⟩ (.int .i64 u)) (.slice (some ⟨g, 0, none⟩) C.length cap) (C.set k ⟨(C.getD k default).op, u, (C.getD k default).b⟩) := by
  refine ⟨?_, fun x hx => ?_⟩
  · rw [icl_set C k hk u, List.length_set]
    exact ownsRow_set h.row _ _
  · rcases List.mem_or_eq_of_mem_set hx with h1 | rfl
    · exact h.wi x h1
    · have := h.wi _ (mem_getD hk)
      exact ⟨this.1, hu, this.2.2⟩
theorem CRow.spot {w : World} {v : Value} {C : List InsM} (h : CRow w v C) {q : Nat} (hq : C.length = q + 1) : ∃ g cap, v = .slice (some ⟨g, 0, none⟩) (q + 1) cap ∧ (∃ x, w.cell? ⟨g, q * 3 + 1, none⟩ = some (.int .i64 x)) ∧ w.frozen? ⟨g, q * 3 + 1, none⟩ = false ∧ g < w.heap.size := by
  have hr := h.row
  have hi := h.inss
  obtain ⟨hl, hh⟩ := hr
  rcases hh with ⟨_, h0⟩ | ⟨g, cap, cur, rfl, hb, hg, hc, hm, hcs, ht⟩
  · omega
  · obtain ⟨g', off, he, c0, c1, c2, _⟩ := hi.at (k := q) (by omega)
    simp at he
    obtain ⟨rfl, rfl⟩ := he
    rw [Nat.zero_add] at c1
    refine ⟨g, cap, by rw [hq], ⟨_, c1⟩, ?_, World.block_lt_of_cell? w _ c1⟩
    simp [World.frozen?, hg]
theorem MkAt.setA {t : TypeId} {W : Gnd} {w : World} {b : Nat} {d : Int} {c g cap q : Nat} {nv kv : Value} {C : List InsM} {Ns Ks : List Int} {at' : Int} (h : MkAt t W w b d c (.slice (some ⟨g, 0, none⟩) (q + 1) cap) nv kv C Ns Ks at') (hq : C.length = q + 1) (u : Int) (hu' : wi64 u) :
    Mk t W (w.setCell ⟨g, q * 3 + 1, none⟩ (.int .i64 u)) b d c := by
  have hu := Upd.setCell (S := fun k => (Value.slice (some ⟨g, 0, none⟩) (q + 1) cap).ownBlock = some k) w (p := ⟨g, q * 3 + 1, none⟩) (.inl (by simp [Value.ownBlock])) (.int .i64 u)
  obtain ⟨n1, n2, n3⟩ := h.ne
  have hc := h.code
  rw [← hq] at hc
  have hr := hc.setA q (by omega) u hu'
  rw [hq] at hr
  exact ⟨_, nv, kv, _, Ns, Ks, at', h.box.upd hu n1, hr, h.ns.upd hu (fun k hk hk' => row_ne h.ns.row h.code.row (by decide) k hk hk'), h.ks.upd hu (fun k hk hk' => row_ne h.ks.row h.code.row (by decide) k hk hk'), h.new, h.fc, h.fn, h.fk,
    upd_of_new h.below hu (fun k hk => h.fc k hk), h.at0, h.atc, by rw [List.length_set]; exact h.len, h.nsl, h.ksl, h.ty⟩

set_option maxRecDepth 100000 in
set_option maxHeartbeats 2000000 in
theorem mPut1 (W : Gnd) (w : World) (b : Nat) (d : Int) (c : Nat) (op a' b' : Int) (h : Mk 62 W w b d c) (hc : c ≤ 1000000000) (ho : wi64 op) (ha : wi64 a') (hb : wi64 b') :
    Calls Tryz.prog 28 #[.pointer (some ⟨b, 0, none⟩), .int .i64 op, .int .i64 a', .int .i64 b'] w fun e w' => e = .returned (.tuple #[]) ∧ ∃ cv nv kv C Ns Ks at', MkAt 62 W w' b d (c + 1) cv nv kv C Ns Ks at' ∧ 0 < C.length := by
  obtain ⟨i0, hi, hz0, hz1, hz2⟩ := info_parts infoIns
  obtain ⟨cv, nv, kv, C, Ns, Ks, at', h⟩ := h
  obtain ⟨ca, cc, rfl⟩ := ownsRow_slice h.code.row
  have H := Lib.hid h
  have HW := Lib.hid (And.intro ho (And.intro ha hb))
  have c0 := h.box.c0
  have hlen := h.len
  have HSRC := Lib.hid (srcAt w 41 #[.int .i64 op, .int .i64 a', .int .i64 b'] (icl ⟨op, a', b'⟩) rfl 3 (by simp [icl, Value.oneCell']) 1 1 w.heap.size rfl rfl)
  clear h ho ha hb
  go_enter Tryz.func28, Tryz.ntmps28
  go_wp2_with (at_builtin; go_loud (refine wpList_append_mine _ rfl _ _ 37 rfl 0 41 i0 (.agg #[.int .i64 0, .int .i64 0, .int .i64 0]) 3 24 Tryz.underlying37 hi hz0 hz1 hz2 rfl (by decide) (.slice ca C.length cc) C.length (C.flatMap icl) rfl (H.out.code.row.alloc _) 1 (icl ⟨op, a', b'⟩) HSRC.out (by unfold maxLen; omega) (by omega) (Nat.zero_le _) ?_))
  intro v7 w7 ho hg hf
  have hu7 := Upd.row (Upd.alloc _ w _) hg
  obtain ⟨va, vc, rfl⟩ := ownsRow_slice ho
  have hF7 : Off W (.slice va (C.length + 1) vc) := fun j hj => by
    rcases hf j hj with h | h
    · exact H.out.fc j h
    · exact .inr (by have := H.out.below.size; simp at h; omega)
  have hR7 : CRow w7 (.slice va (C.length + 1) vc) (C ++ [⟨op, a', b'⟩]) := ⟨by
    rw [List.length_append, List.flatMap_append]
    simpa using ho, fun x hx => by
    rcases List.mem_append.1 hx with h | h
    · exact H.out.code.wi x h
    · simp at h; rw [h]; exact HW.out⟩
  obtain ⟨hB, hM⟩ := H.out.grow hu7 hR7 hF7
  have HM := Lib.hid hM
  have c7 := hB.c0
  have f7 := hB.fr 0
  clear ho hg hf hu7 hF7 hR7 hB hM c0
  go_wp2_with fail
  go_end0
  exact ⟨rfl, _, _, _, _, _, _, _, HM.out, by simp⟩
/-- what is read of the maker's kinds -/
theorem Mk.kind {t : TypeId} {W : Gnd} {w : World} {b : Nat} {d : Int} {c : Nat} (h : Mk t W w b d c) : ∃ ka n kc, w.cell? ⟨b, 3, none⟩ = some (.slice ka n kc) ∧ n ≤ 1000 ∧
    ∀ k, k < n → ∃ g off u, ka = some ⟨g, off, none⟩ ∧ w.cell? ⟨g, off + k, none⟩ = some (.int .i64 u) ∧ wi64 u := by
  obtain ⟨cv, nv, kv, C, Ns, Ks, a, h⟩ := h
  obtain ⟨ka, kc, rfl⟩ := ownsRow_slice h.ks.row
  refine ⟨ka, Ks.length, kc, h.box.c3, h.ksl, fun k hk => ?_⟩
  obtain ⟨g, off, rfl, h1, h2⟩ := h.ks.ints.at hk
  exact ⟨g, off, _, rfl, h1, h2⟩
end Go.Proofs.YtmikibcgphkcfaaGreatDoor

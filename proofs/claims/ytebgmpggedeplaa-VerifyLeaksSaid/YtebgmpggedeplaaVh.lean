/- Package verify: places, and what is brought to them. -/
import Derived.Test.YtebgmpggedeplaaVd
namespace Go.Proofs.Ytebgmpggedeplaa
open Go.RowKit Go.Lib Go.ChangeShapes Go.WideShapes
set_option linter.unusedVariables false
set_option linter.unusedSimpArgs false

def Away (v : Value) (g : Nat) : Prop := ∀ b off s n c, v = .slice (some ⟨b, off, s⟩) n c → b ≠ g
theorem Newer.away {N g : Nat} {v : Value} (h : Newer N v) (hg : g < N) : Away v g := fun b off s n c e => by have := h b off s n c e; omega
theorem Away.nil (n c g : Nat) : Away (.slice none n c) g := by intro b off s n c h; simp at h
/-- a place's cells -/
def Pl1 (w : World) (g k : Nat) (p : PlM) : Prop := ∃ v, w.cell? ⟨g, k * 3, none⟩ = some v ∧ w.cell? ⟨g, k * 3 + 1, none⟩ = some (.bool p.on) ∧ w.cell? ⟨g, k * 3 + 2, none⟩ = some (.bool p.td) ∧ Ints w v p.st ∧ Away v g ∧ p.st.length ≤ 8
def Pls (w : World) (g : Nat) (P : List PlM) : Prop := (∃ cur, w.heap[g]? = some (.cells cur 54 (0, 0))) ∧ ∀ k, k < P.length → Pl1 w g k (P.getD k default)
theorem Ints.keep {w w' : World} {v : Value} {L : List Int} {g : Nat} (h : Ints w v L) (hu : Upd (fun k => k = g) w w') (ha : Away v g) : Ints w' v L :=
  h.upd hu (fun b off s n c e => ha b off s n c e)
theorem Pls.upd {w w' : World} {g : Nat} {P : List PlM} (h : Pls w g P) (hu : Upd (fun _ => False) w w') : Pls w' g P := by
  obtain ⟨⟨cur, hc⟩, hp⟩ := h
  have hg : g < w.heap.size := (Array.getElem?_eq_some_iff.1 hc).1
  refine ⟨⟨cur, (hu.block g hg (fun h => h)).trans hc⟩, fun k hk => ?_⟩
  obtain ⟨v, h0, h1, h2, h3, h4⟩ := hp k hk
  exact ⟨v, (hu.cell (p := ⟨g, _, none⟩) hg (fun h => h)).trans h0, (hu.cell (p := ⟨g, _, none⟩) hg (fun h => h)).trans h1, (hu.cell (p := ⟨g, _, none⟩) hg (fun h => h)).trans h2, h3.upd hu (fun _ _ _ _ _ _ h => h), h4⟩
theorem Pls.lt {w : World} {g : Nat} {P : List PlM} (h : Pls w g P) : g < w.heap.size := by
  obtain ⟨⟨cur, hc⟩, hp⟩ := h
  exact (Array.getElem?_eq_some_iff.1 hc).1
theorem Pls.frozen {w : World} {g : Nat} {P : List PlM} (h : Pls w g P) (q : Nat) : w.frozen? ⟨g, q, none⟩ = false := by
  obtain ⟨⟨cur, hc⟩, hp⟩ := h
  simp [World.frozen?, hc]
theorem sc_other {w : World} {v : Value} {a b : Addr} (h : a ≠ b) : (w.setCell a v).cell? b = w.cell? b := by apply World.cell?_setCell_other; exact h
theorem sc_same {w : World} {v u : Value} {a : Addr} (h : w.cell? a = some u) : (w.setCell a v).cell? a = some v := by apply World.cell?_setCell_same; exact h
/-- a place written anew -/
theorem Pls.set {w : World} {g k : Nat} {P : List PlM} (h : Pls w g P) (hk : k < P.length) (p : PlM) (v : Value) (hv : Ints w v p.st) (ha : Away v g) (hl : p.st.length ≤ 8) :
    Pls (((w.setCell ⟨g, k * 3, none⟩ v).setCell ⟨g, k * 3 + 1, none⟩ (.bool p.on)).setCell ⟨g, k * 3 + 2, none⟩ (.bool p.td)) g (P.set k p) := by
  obtain ⟨⟨cur, hc⟩, hp⟩ := h
  have hg : g < w.heap.size := (Array.getElem?_eq_some_iff.1 hc).1
  have hu : Upd (fun k => k = g) w (((w.setCell ⟨g, k * 3, none⟩ v).setCell ⟨g, k * 3 + 1, none⟩ (.bool p.on)).setCell ⟨g, k * 3 + 2, none⟩ (.bool p.td)) :=
    ((Upd.setCell (S := fun k => k = g) w (.inl rfl) _).trans (Upd.setCell (S := fun k => k = g) _ (.inl rfl) _) (fun _ h _ => h)).trans (Upd.setCell (S := fun k => k = g) _ (.inl rfl) _) (fun _ h _ => h)
  obtain ⟨v0, c0, c1, c2, -⟩ := hp k hk
  refine ⟨?_, fun j hj => ?_⟩
  · simp [World.setCell, Array.getElem?_modify, hc]
  · rw [List.length_set] at hj
    by_cases hjk : j = k
    · subst hjk
      have e : (P.set j p).getD j default = p := by simp [List.getD, hk]
      rw [e]
      refine ⟨v, ?_, ?_, ?_, hv.keep hu ha, ha, hl⟩
      · rw [sc_other (by simp), sc_other (by simp), sc_same c0]
      · rw [sc_other (by simp), sc_same ((sc_other (by simp)).trans c1)]
      · rw [sc_same (((sc_other (by simp)).trans (sc_other (by simp))).trans c2)]
    · have e : (P.set k p).getD j default = P.getD j default := by simp [List.getD, Ne.symm hjk]
      rw [e]
      obtain ⟨v1, d0, d1, d2, d3, d4, d5⟩ := hp j hj
      refine ⟨v1, ?_, ?_, ?_, d3.keep hu d4, d4, d5⟩
      · rw [sc_other (by simp <;> omega), sc_other (by simp <;> omega), sc_other (by simp <;> omega)]; exact d0
      · rw [sc_other (by simp <;> omega), sc_other (by simp <;> omega), sc_other (by simp <;> omega)]; exact d1
      · rw [sc_other (by simp <;> omega), sc_other (by simp <;> omega), sc_other (by simp <;> omega)]; exact d2

def idxI : Option Nat → Int
  | none => -1
  | some k => k
theorem idx_none {α : Type} {b : α → Bool} {d : α} : ∀ {L : List α}, (∀ j, j < L.length → b (L.getD j d) = false) → idxP b L = none
  | [], _ => rfl
  | x :: r, h => by
    have h0 := h 0 (by simp)
    have hr : idxP b r = none := idx_none (d := d) (fun j hj => h (j + 1) (by simpa using hj))
    simp at h0
    simp [idxP, h0, hr]
theorem idx_some {α : Type} {b : α → Bool} {d : α} : ∀ {L : List α} {k : Nat}, k < L.length → b (L.getD k d) = true → (∀ j, j < k → b (L.getD j d) = false) → idxP b L = some k
  | [], k, h, _, _ => by simp at h
  | x :: r, 0, _, h, _ => by
    simp at h
    simp [idxP, h]
  | x :: r, k + 1, hk, h, hb => by
    have h0 := hb 0 (by omega)
    have hr : idxP b r = some k := idx_some (d := d) (by simpa using hk) (by simpa using h) (fun j hj => hb (j + 1) (by omega))
    simp at h0
    simp [idxP, h0, hr]

theorem vIsToDo (w : World) (a : Option Addr) (n c : Nat) (on td : Bool) : Calls Try.prog 31 #[.agg #[.slice a n c, .bool on, .bool td]] w fun e w' => e = .returned (.bool td) ∧ Upd (fun _ => False) w w' := by
  have HA := Lib.hid (Upd.alloc (fun _ => False) w (.cells #[.slice a n c, .bool on, .bool td] 54))
  go_enter Try.func31, Try.ntmps31
  go_wp2_with fail
  go_ret
  exact ⟨rfl, HA.out⟩

set_option maxRecDepth 100000 in
set_option maxHeartbeats 4000000 in
theorem vIdx (w : World) (g : Nat) (P : List PlM) (h : Pls w g P) (hl : P.length ≤ 1000) (n : Nat) (hn : n = P.length) :
    Calls Try.prog 30 #[.slice (some ⟨g, 0, none⟩) n n, .func (.func 31) #[] #[]] w fun e w' => e = .returned (.int .i64 (idxI (idxP PlM.td P))) ∧ Upd (fun _ => False) w w' := by
  have HP := Lib.hid h
  have HN := Lib.hid hn
  have hn2 : n ≤ 1000 := by omega
  clear h hl hn
  have H0 := Lib.hid (Upd.refl (fun _ => False) w)
  have HT0 : Hid (∀ j, j < 0 → PlM.td (P.getD j default) = false) := Lib.hid (fun j hj => absurd hj (Nat.not_lt_zero j))
  go_enter Try.func30, Try.ntmps30
  go_wp2_with fail
  go_loopw [8, 5] (fun i _ wr => ∃ k : Nat, k ≤ n ∧ i = .int .i64 k ∧ Hid (Upd (fun _ => False) w wr) ∧ Hid (∀ j, j < k → PlM.td (P.getD j default) = false)) (fun i _ _ => n - (intOf i).toNat)
  case atStart => exact ⟨0, Nat.zero_le _, rfl, H0, HT0⟩
  case round =>
    obtain ⟨k, hk, rfl, HU, HT⟩ := hrel
    by_cases hlt : k < n
    · obtain ⟨v, c0, c1, c2, hv, -, -⟩ := (HP.out.upd HU.out).2 k (by rw [← HN.out]; exact hlt)
      obtain ⟨va, vc, rfl, -, -⟩ := hv.slice
      have hi1 : (0 : Int) ≤ (k : Int) := Int.natCast_nonneg _
      have hi2 : (k : Int) < (n : Int) := by omega
      clear hv
      cases hq : (P.getD k default).td with
      | true =>
        have HF := Lib.hid (idx_some (b := PlM.td) (d := default) (L := P) (by rw [← HN.out]; exact hlt) hq HT.out)
        rw [hq] at c2
        clear hq
        go_wp2_with ((with_reducible refine (vIsToDo _ _ _ _ _ _).mono ?_); rintro e w2 ⟨rfl, hu⟩)
        have HU2 := Lib.hid (HU.out.trans hu (fun _ h _ => h))
        clear hu c0 c1 c2
        go_wp2_with fail
        go_ret
        exact ⟨by rw [HF.out]; rfl, HU2.out⟩
      | false =>
        have HT2 : Hid (∀ j, j < k + 1 → PlM.td (P.getD j default) = false) := Lib.hid (fun j hj => by
          rcases Nat.lt_or_ge j k with h1 | h1
          · exact HT.out j h1
          · have : j = k := by omega
            rw [this]; exact hq)
        rw [hq] at c2
        clear hq
        go_wp2_with ((with_reducible refine (vIsToDo _ _ _ _ _ _).mono ?_); rintro e w2 ⟨rfl, hu⟩)
        have HU2 := Lib.hid (HU.out.trans hu (fun _ h _ => h))
        clear hu c0 c1 c2
        go_wp2_with fail
        go_roundw
        case rel => exact ⟨k + 1, by omega, by go_num, HU2, HT2⟩
        case measure => simp [intOf]; omega
    · have HF := Lib.hid (idx_none (b := PlM.td) (d := default) (L := P) (fun j hj => HT.out j (by have := HN.out; omega)))
      go_wp2_with fail
      go_ret
      exact ⟨by rw [HF.out]; rfl, HU.out⟩

set_option maxRecDepth 100000 in
set_option maxHeartbeats 4000000 in
theorem vIdxAstray (w : World) (bv : Value) (B : BodyM) (hb : Body w bv B) (v : Value) (L : List InsM) (h : Inss w v L) (hl : L.length ≤ 1000) :
    Calls Try.prog 27 #[v, .func (.func 28) #[bv] #[]] w fun e w' => e = .returned (.int .i64 (idxI (idxP (astrayB B) L))) ∧ Upd (fun _ => False) w w' := by
  have HB := Lib.hid hb
  have HL := Lib.hid h
  obtain ⟨a, c, rfl, h1, h2⟩ := h.slice
  obtain ⟨fa, fc, ia', ic, ma, mc, xa, xc, la, lc, ca, cc, rfl, -⟩ := hb.open
  clear h hb
  unfold maxLen at h2
  have H0 := Lib.hid (Upd.refl (fun _ => False) w)
  have HT0 : Hid (∀ j, j < 0 → astrayB B (L.getD j default) = false) := Lib.hid (fun j hj => absurd hj (Nat.not_lt_zero j))
  go_enter Try.func27, Try.ntmps27
  go_wp2_with fail
  go_loopw [8, 5] (fun i _ wr => ∃ k : Nat, k ≤ L.length ∧ i = .int .i64 k ∧ Hid (Upd (fun _ => False) w wr) ∧ Hid (∀ j, j < k → astrayB B (L.getD j default) = false)) (fun i _ _ => L.length - (intOf i).toNat)
  case atStart => exact ⟨0, Nat.zero_le _, rfl, H0, HT0⟩
  case round =>
    obtain ⟨k, hk, rfl, HU, HT⟩ := hrel
    by_cases hlt : k < L.length
    · obtain ⟨g, off, rfl, c0, c1, c2, -, -, -⟩ := (HL.out.later (lbBelow HU.out)).at hlt
      have HBw := Lib.hid (HB.out.later (lbBelow HU.out))
      have hi1 : (0 : Int) ≤ (k : Int) := Int.natCast_nonneg _
      have hi2 : (k : Int) < (L.length : Int) := by omega
      obtain ⟨x, hx⟩ : ∃ x, x = L.getD k default := ⟨_, rfl⟩
      rw [← hx] at c0 c1 c2
      have HX := Lib.hid hx
      clear hx
      cases hq : astrayB B x with
      | true =>
        have HF := Lib.hid (idx_some (b := astrayB B) (d := default) (L := L) hlt (by rw [← HX.out]; exact hq) HT.out)
        have HQ := Lib.hid hq
        clear hq
        go_wp2_with ((with_reducible refine (vAstray _ _ B HBw.out ⟨x.op, x.a, x.b⟩).mono ?_); rw [show (⟨x.op, x.a, x.b⟩ : InsM) = x from rfl, HQ.out]; rintro e w2 ⟨rfl, hu⟩)
        have HU2 := Lib.hid (HU.out.trans hu (fun _ h _ => h))
        clear hu c0 c1 c2
        go_wp2_with fail
        go_ret
        exact ⟨by rw [HF.out]; rfl, HU2.out⟩
      | false =>
        have HT2 : Hid (∀ j, j < k + 1 → astrayB B (L.getD j default) = false) := Lib.hid (fun j hj => by
          rcases Nat.lt_or_ge j k with h1 | h1
          · exact HT.out j h1
          · have : j = k := by omega
            rw [this, ← HX.out]; exact hq)
        have HQ := Lib.hid hq
        clear hq
        go_wp2_with ((with_reducible refine (vAstray _ _ B HBw.out ⟨x.op, x.a, x.b⟩).mono ?_); rw [show (⟨x.op, x.a, x.b⟩ : InsM) = x from rfl, HQ.out]; rintro e w2 ⟨rfl, hu⟩)
        have HU2 := Lib.hid (HU.out.trans hu (fun _ h _ => h))
        clear hu c0 c1 c2
        go_wp2_with fail
        go_roundw
        case rel => exact ⟨k + 1, by omega, by go_num, HU2, HT2⟩
        case measure => simp [intOf]; omega
    · have HF := Lib.hid (idx_none (b := astrayB B) (d := default) (L := L) (fun j hj => HT.out j (by omega)))
      go_wp2_with fail
      go_ret
      exact ⟨by rw [HF.out]; rfl, HU.out⟩

theorem ints_litV (w : World) (e : TypeId) (fr : Nat × Nat) (C : Array Value) (L : List Int) (n g : Nat) (hg : g = w.heap.size) (hC : C.toList = lv L) (hn : L.length = n) (h : ∀ y ∈ L, wi64 y) (hm : n ≤ maxLen) :
    Ints (w.alloc (.cells C e fr)) (.slice (some ⟨g, 0, none⟩) n n) L := by
  subst hg; exact ints_lit w e fr C L n hC hn h hm
set_option maxHeartbeats 2000000 in
theorem vFollow (w : World) (i : InsM) (pc : Nat) (hp : pc ≤ 1000) (ha : wi64 i.a) : Calls Try.prog 41 #[ins i.op i.a i.b, .int .i64 pc] w fun e w' => ∃ r, e = .returned r ∧ Ints w' r (followP i pc) ∧ Upd (fun _ => False) w w' ∧ Newer w.heap.size r := by
  obtain ⟨op, ia, ib⟩ := i
  have HA := Lib.hid (Upd.alloc (fun _ => False) w (.cells #[.int .i64 op, .int .i64 ia, .int .i64 ib] 34))
  have HW := Lib.hid ha
  have hwr : IntKind.i64.wrap ((pc : Int) + 1) = (pc : Int) + 1 := IntWalk.i64_in _ (by omega)
  have HP1 : Hid (wi64 ((pc : Int) + 1)) := Lib.hid ⟨by omega, by omega⟩
  clear ha
  have HU := Lib.hid (HA.out.trans (Upd.alloc (fun _ => False) (w.alloc (.cells #[.int .i64 op, .int .i64 ia, .int .i64 ib] 34)) (.cells #[.int .i64 ia] 3)) (fun _ h _ => h))
  cases h1 : op == 23 with
  | true =>
    have HF := Lib.hid (show followP ⟨op, ia, ib⟩ pc = [ia] by simp [followP, h1])
    go_enter Try.func41, Try.ntmps41
    go_wp2_with fail
    go_ret
    exact ⟨_, rfl, by rw [HF.out]; exact ints_litV _ _ _ _ [_] 1 _ (by simp) rfl rfl (by intro y hy; simp at hy; subst hy; exact HW.out) (by unfold maxLen; omega), HA.out.trans (Upd.alloc (fun _ => False) _ _) (fun _ h _ => h), by intro b off s n c e; simp at e; omega⟩
  | false =>
  cases h2 : op == 24 with
  | true =>
    have HF := Lib.hid (show followP ⟨op, ia, ib⟩ pc = [(pc : Int) + 1, ia] by simp [followP, h1, h2])
    go_enter Try.func41, Try.ntmps41
    go_wp2_with fail
    go_ret
    exact ⟨_, rfl, by rw [HF.out]; exact ints_litV _ _ _ _ [_, _] 2 _ (by simp) rfl rfl (by intro y hy; simp at hy; rcases hy with rfl | rfl; exact HP1.out; exact HW.out) (by unfold maxLen; omega), HA.out.trans (Upd.alloc (fun _ => False) _ _) (fun _ h _ => h), by intro b off s n c e; simp at e; omega⟩
  | false =>
  cases h3 : op == 39 with
  | true =>
    have HF := Lib.hid (show followP ⟨op, ia, ib⟩ pc = [] by simp [followP, h1, h2, h3])
    go_enter Try.func41, Try.ntmps41
    go_wp2_with fail
    go_ret
    exact ⟨_, rfl, by rw [HF.out]; exact Ints.nil _, HA.out, Newer.nil _ _ _⟩
  | false =>
    have HF := Lib.hid (show followP ⟨op, ia, ib⟩ pc = [(pc : Int) + 1] by simp [followP, h1, h2, h3])
    go_enter Try.func41, Try.ntmps41
    go_wp2_with fail
    go_ret
    exact ⟨_, rfl, by rw [HF.out]; exact ints_litV _ _ _ _ [_] 1 _ (by simp) rfl rfl (by intro y hy; simp at hy; subst hy; exact HP1.out) (by unfold maxLen; omega), HA.out.trans (Upd.alloc (fun _ => False) _ _) (fun _ h _ => h), by intro b off s n c e; simp at e; omega⟩

end Go.Proofs.Ytebgmpggedeplaa

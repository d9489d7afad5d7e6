/- Package chip: a step, many steps, as one plain function each; a new chip. -/
import Derived.Test.YtibmgmgkaacibaaEvk
import Derived.LoopTactic
namespace Go.Proofs.Ytibmgmgkaacibaa
open Go.RowKit Go.ChangeShapes Go.WideShapes Go.Deep Go.IntWalk
set_option linter.unusedVariables false
set_option linter.unusedSimpArgs false
structure Ws where
  x : Ch
  M : Nat → Nat
  L : Option (List EvM)
def stepQ (s : Ws) (q : Rs) : Ws := bif q.x.st == 2 then ⟨{ s.x with st := 2 }, q.M, s.L⟩ else ⟨{ q.x with cyc := s.x.cyc + q.c }, q.M, s.L.map (· ++ [evS (s.x.R 15) q.t q.c])⟩
def stepW (s : Ws) : Ws := bif s.x.st == 0 then (bif readB s.M (s.x.R 15) then stepQ s (doOf (readI s.M (s.x.R 15)) s.x s.M) else ⟨{ s.x with st := 2 }, s.M, s.L⟩) else s
def runW : Nat → Ws → Ws
  | 0, s => s
  | n + 1, s => bif s.x.st == 0 then runW n (stepW s) else s
structure Wd (w : World) (cb bm g : Nat) (tv : Value) (F : Nat → Prop) (s : Ws) : Prop where
  cp : Cp w cb s.x
  mm : Mm 72 w bm g s.M
  tr : TrB F w tv s.L
  fr : ∀ k, F k → k < w.heap.size ∧ k ≠ cb ∧ k ≠ bm ∧ k ≠ g
  n1 : cb ≠ bm
  n2 : cb ≠ g
def Room (s : Ws) (n : Nat) : Prop := 0 ≤ s.x.cyc ∧ s.x.cyc + 1000 * (n : Int) ≤ 1099511627776 ∧ ∀ l, s.L = some l → l.length + n ≤ 200000
theorem doOf_c {i : I6} (h : rightP i = true) (x : Ch) (M : Nat → Nat) : 0 ≤ (doOf i x M).c ∧ (doOf i x M).c ≤ 1000 ∧ (doOf i x M).x.cyc = x.cyc := by
  obtain ⟨hok, hop, him⟩ := right_inok h
  unfold doOf
  exact doP_c _ i.d.toNat i.n.toNat i.m.toNat i.cond.toNat hop hok.opl i.imm x M
theorem stepW_off {s : Ws} (h : s.x.st ≠ 0) : stepW s = s := by
  have hb : (s.x.st == 0) = false := by simpa using h
  unfold stepW; rw [hb]; rfl
theorem stepW_bad {s : Ws} (h : s.x.st = 0) (hr : readB s.M (s.x.R 15) = false) : stepW s = ⟨{ s.x with st := 2 }, s.M, s.L⟩ := by
  have hb : (s.x.st == 0) = true := by simpa using h
  unfold stepW; rw [hb, hr]; rfl
theorem stepW_run {s : Ws} (h : s.x.st = 0) (hr : readB s.M (s.x.R 15) = true) {q : Rs} (hq : doOf (readI s.M (s.x.R 15)) s.x s.M = q) : stepW s = stepQ s q := by
  have hb : (s.x.st == 0) = true := by simpa using h
  unfold stepW; rw [hb, hr, hq]; rfl
theorem stepQ_2 (s : Ws) (q : Rs) (h : q.x.st = 2) : stepQ s q = ⟨{ s.x with st := 2 }, q.M, s.L⟩ := by
  have hb : (q.x.st == 2) = true := by simpa using h
  unfold stepQ; rw [hb]; rfl
theorem stepQ_go (s : Ws) (q : Rs) (h : q.x.st ≠ 2) : stepQ s q = ⟨{ q.x with cyc := s.x.cyc + q.c }, q.M, s.L.map (· ++ [evS (s.x.R 15) q.t q.c])⟩ := by
  have hb : (q.x.st == 2) = false := by simpa using h
  unfold stepQ; rw [hb]; rfl
theorem room_step {s : Ws} {n : Nat} (hM : MOk s.M) (h : Room s (n + 1)) : Room (stepW s) n := by
  obtain ⟨h1, h2, h3⟩ := h
  have hs : Room s n := ⟨h1, by omega, fun l hl => by have := h3 l hl; omega⟩
  by_cases hst : s.x.st = 0
  · cases hr : readB s.M (s.x.R 15)
    · rw [stepW_bad hst hr]; exact ⟨hs.1, hs.2.1, hs.2.2⟩
    · obtain ⟨q, hq⟩ : ∃ q, doOf (readI s.M (s.x.R 15)) s.x s.M = q := ⟨_, rfl⟩
      have hc := doOf_c (read_right hM hr) s.x s.M
      rw [stepW_run hst hr hq]
      rw [hq] at hc
      by_cases h2q : q.x.st = 2
      · rw [stepQ_2 s q h2q]; exact ⟨hs.1, hs.2.1, hs.2.2⟩
      · rw [stepQ_go s q h2q]
        refine ⟨by show 0 ≤ s.x.cyc + q.c; omega, by show s.x.cyc + q.c + 1000 * (n : Int) ≤ 1099511627776; omega, fun l hl => ?_⟩
        cases hL : s.L with
        | none => rw [hL] at hl; simp at hl
        | some l0 => rw [hL] at hl; simp at hl; have := h3 l0 hL; rw [← hl]; simp; omega
  · rw [stepW_off hst]; exact hs
section
variable {w w' : World} {cb bm g : Nat} {tv : Value} {F : Nat → Prop} {s : Ws}
theorem Wd.room (h : Wd w cb bm g tv F s) {n : Nat} (hr : Room s (n + 1)) : TrA F w tv s.L := by
  have h1 := h.tr
  cases hL : s.L with
  | none => rw [hL] at h1; exact h1
  | some l => rw [hL] at h1; obtain ⟨tb, h2, h3⟩ := h1; exact ⟨tb, h2, h3, by have := hr.2.2 l hL; omega⟩
theorem trb_lt {w : World} {tv : Value} {F : Nat → Prop} {L : Option (List EvM)} (h : TrB F w tv L) : TrB (fun k => F k ∧ k < w.heap.size) w tv L := by
  cases L with
  | none => exact h
  | some L =>
    obtain ⟨tb, h1, h2⟩ := h
    exact ⟨tb, h1, h2.wide (fun k hk => ⟨hk, h2.lt k hk⟩) (fun k hk => hk.2)⟩
theorem cStep (h : Wd w cb bm g tv F s) {n : Nat} (hr : Room s (n + 1)) : Calls Try.prog 19 #[.pointer (some ⟨cb, 0, none⟩), .pointer (some ⟨bm, 0, none⟩), tv] w fun e w' => e = .returned (.int .i64 (stepW s).x.st) ∧ ∃ F', (∀ k, F' k → F k ∨ w.heap.size ≤ k) ∧ Wd w' cb bm g tv F' (stepW s) ∧ Upd (CG cb g F) w w' := by
  by_cases hst : s.x.st = 0
  · have hst' : (s.x.st == 0) = true := by simpa using hst
    cases hrd : readB s.M (s.x.R 15)
    · have hs : stepW s = ⟨{ s.x with st := 2 }, s.M, s.L⟩ := by unfold stepW; rw [hst', hrd]; rfl
      refine (cStepBad h.cp h.mm hst hrd tv).mono fun e w' ⟨h1, h2, h3⟩ => ?_
      rw [hs]
      have hup : Upd (CG cb g F) w w' := h3.mono (fun _ h _ => .inl h)
      refine ⟨h1, F, fun k hk => .inl hk, ⟨h2, h.mm.upd h3 (fun e => h.n1 e.symm) (fun e => h.n2 e.symm), h.tr.upd h3 (fun k hk e => (h.fr k hk).2.1 e), fun k hk => ?_, h.n1, h.n2⟩, hup⟩
      have := h.fr k hk
      exact ⟨Nat.lt_of_lt_of_le this.1 h3.size, this.2⟩
    · obtain ⟨q, hq⟩ : ∃ q, doOf (readI s.M (s.x.R 15)) s.x s.M = q := ⟨_, rfl⟩
      have hs : stepW s = stepQ s q := by unfold stepW; rw [hst', hrd, hq]; rfl
      refine (cStepRun h.cp h.mm hst hrd tv s.L (h.room hr) h.fr h.n1 h.n2 ⟨hr.1, by have := hr.2.1; omega⟩ q hq).mono fun e w' ⟨h1, h2, h3, h4, h5⟩ => ?_
      rw [hs]
      by_cases h2q : q.x.st = 2
      · have hb : (q.x.st == 2) = true := by simpa using h2q
        have hs2 : stepQ s q = ⟨{ s.x with st := 2 }, q.M, s.L⟩ := by unfold stepQ; rw [hb]; rfl
        rw [hs2]
        obtain ⟨k1, k2⟩ := h3 h2q
        refine ⟨by rw [h1, h2q], fun k => F k ∧ k < w'.heap.size, fun k hk => .inl hk.1, ⟨k1, h2, trb_lt k2, fun k hk => ⟨hk.2, (h.fr k hk.1).2⟩, h.n1, h.n2⟩, h5⟩
      · have hb : (q.x.st == 2) = false := by simpa using h2q
        have hs2 : stepQ s q = ⟨{ q.x with cyc := s.x.cyc + q.c }, q.M, s.L.map (· ++ [evS (s.x.R 15) q.t q.c])⟩ := by unfold stepQ; rw [hb]; rfl
        rw [hs2]
        obtain ⟨k1, F', k2, k3⟩ := h4 h2q
        refine ⟨h1, fun k => F' k ∧ k < w'.heap.size, fun k hk => k2 k hk.1, ⟨k1, h2, trb_lt k3, fun k hk => ⟨hk.2, ?_⟩, h.n1, h.n2⟩, h5⟩
        rcases k2 k hk.1 with h' | h'
        · exact (h.fr k h').2
        · have a1 := h.cp.lt
          have a2 := h.mm.lt
          omega
  · have hst' : (s.x.st == 0) = false := by simpa using hst
    have hs : stepW s = s := by unfold stepW; rw [hst']; rfl
    refine (cStepOff h.cp hst _ tv).mono fun e w' ⟨h1, h2⟩ => ?_
    subst h2
    rw [hs]
    exact ⟨h1, F, fun k hk => .inl hk, h, Upd.refl _ _⟩
theorem cg_tr {w a z : World} {F F' : Nat → Prop} (h : Upd (CG cb g F) w a) (k : Upd (CG cb g F') a z) (hF : ∀ k, F' k → F k ∨ w.heap.size ≤ k) : Upd (CG cb g F) w z := h.trans k (fun i hi hl => by
  rcases hi with e | e | e
  · exact .inl e
  · exact .inr (.inl e)
  · rcases hF i e with e | e
    · exact .inr (.inr e)
    · omega)
set_option maxRecDepth 20000 in
set_option maxHeartbeats 1000000 in
theorem cRun (h : Wd w cb bm g tv F s) (n : Nat) (hn : n ≤ 1000) (hr : Room s (n + 1)) : Calls Try.prog 27 #[.pointer (some ⟨cb, 0, none⟩), .pointer (some ⟨bm, 0, none⟩), tv, .int .i64 (n : Int)] w fun e w' => e = .returned (.int .i64 (runW n s).x.st) ∧ ∃ F', (∀ k, F' k → F k ∨ w.heap.size ≤ k) ∧ Wd w' cb bm g tv F' (runW n s) ∧ Upd (CG cb g F) w w' := by
  have H := Lib.hid h
  have HR := Lib.hid hr
  clear h hr
  obtain ⟨z, hz⟩ : ∃ z, runW n s = z := ⟨_, rfl⟩
  rw [hz]
  have HZ := Lib.hid hz
  clear hz
  go_enter Try.func27, Try.ntmps27
  go_wp2_with fail
  go_loopw [9] (fun t wr => ∃ (k m : Nat) (s' : Ws) (F' : Nat → Prop), k + m = n ∧ t = .int .i64 k ∧ Hid (Wd wr cb bm g tv F' s') ∧ Hid (∀ j, F' j → F j ∨ w.heap.size ≤ j) ∧ Hid (Upd (CG cb g F) w wr) ∧ Hid (runW m s' = z) ∧ Hid (Room s' (m + 1))) (fun t _ => n - (intOf t).toNat)
  case atStart => exact ⟨0, n, s, F, by omega, rfl, H, Lib.hid (fun j hj => .inl hj), Lib.hid (Upd.refl _ _), HZ, HR⟩
  case round =>
    obtain ⟨k, m, s', F', hkm, rfl, HD, HF, HU, HRW, HRM⟩ := hrel
    have c20 := HD.out.cp.c20
    cases m with
    | zero =>
      have hk : k = n := by omega
      subst hk
      have hlt : decide ((k : Int) < (k : Int)) = false := by simp
      have hz : s' = z := HRW.out
      subst hz
      go_wp2_with fail
      go_ret
      exact ⟨rfl, F', HF.out, HD.out, HU.out⟩
    | succ m =>
      have hlt : decide ((k : Int) < (n : Int)) = true := by simp; omega
      by_cases hst : s'.x.st = 0
      · have hb : (s'.x.st == 0) = true := by simpa using hst
        have HZ2 : Hid (runW m (stepW s') = z) := Lib.hid (by have := HRW.out; simp only [runW, hb] at this; exact this)
        rw [hst] at c20
        clear hst hb
        go_wp2_with fail
        refine (cStep HD.out (n := m + 1) (by exact HRM.out)).mono ?_
        rintro e w2 ⟨rfl, F2, hF2, hd, hu⟩
        have HD2 := Lib.hid hd
        have HF2 : Hid (∀ j, F2 j → F j ∨ w.heap.size ≤ j) := Lib.hid (fun j hj => by
          rcases hF2 j hj with h | h
          · exact HF.out j h
          · have := HU.out.size; exact .inr (by omega))
        have HU2 : Hid (Upd (CG cb g F) w w2) := Lib.hid (cg_tr HU.out hu HF.out)
        have HRM2 : Hid (Room (stepW s') (m + 1)) := Lib.hid (room_step HD.out.mm.ok HRM.out)
        clear hF2 hd hu c20
        go_wp2_with fail
        go_roundw
        case rel => exact ⟨k + 1, m, stepW s', F2, by omega, by go_num, HD2, HF2, HU2, HZ2, HRM2⟩
        case measure => simp [intOf]; omega
      · have hb : (s'.x.st == 0) = false := by simpa using hst
        have hz : s' = z := by have := HRW.out; simp only [runW, hb] at this; exact this
        subst hz
        clear hst
        go_wp2_with fail
        go_ret
        exact ⟨rfl, F', HF.out, HD.out, HU.out⟩
def Ch.zero : Ch := ⟨fun _ => 0, false, false, false, false, 0, 0, 0⟩
theorem cNew (w : World) : Calls Try.prog 10 #[] w fun e w' => e = .returned (.pointer (some ⟨w.heap.size, 0, none⟩)) ∧ Cp w' w.heap.size Ch.zero ∧ Upd (fun _ => False) w w' := by
  go_enter Try.func10, Try.ntmps10
  go_wp2_with fail
  go_ret
  exact ⟨rfl, ⟨heap_alloc_last w _, fun k => by show (0 : Nat) < 4294967296; decide⟩, Upd.alloc _ _ _⟩
end
end Go.Proofs.Ytibmgmgkaacibaa

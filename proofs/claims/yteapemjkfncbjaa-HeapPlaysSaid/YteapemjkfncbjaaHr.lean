/- The reference's heap: Clear. -/
import Derived.Test.YteapemjkfncbjaaHp
import Derived.Test.YteapemjkfncbjaaHj
import Derived.OwnWalk
namespace Go.Proofs.Yteapemjkfncbjaa
open Go.RowKit Go.Lib Go.ChangeShapes Go.WideShapes Go.Deep
set_option linter.unusedVariables false
set_option linter.unusedSimpArgs false

def midL (life own : Int) (L : List ArrM) (k : Nat) : List ArrM := (L.take k).map (clrA life own) ++ L.drop k
theorem midL_len (life own : Int) (L : List ArrM) (k : Nat) (hk : k ≤ L.length) : (midL life own L k).length = L.length := by simp [midL]; omega
theorem midL_get (life own : Int) (L : List ArrM) (k : Nat) (hk : k < L.length) : (midL life own L k).getD k default = L.getD k default := by
  unfold midL
  simp only [List.getD]
  rw [List.getElem?_append_right (by simp; omega)]
  simp [List.getElem?_drop, Nat.min_eq_left (by omega : k ≤ L.length)]
theorem midL_set (life own : Int) (L : List ArrM) (k : Nat) (hk : k < L.length) : midL life own L (k + 1) = (midL life own L k).set k (clrA life own (L.getD k default)) := by
  have e0 : L.getD k default = L[k] := by simp [List.getD, hk]
  have e1 : L.take (k + 1) = L.take k ++ [L[k]] := by rw [List.take_add_one, List.getElem?_eq_getElem hk]; rfl
  have e2 : L.drop k = L[k] :: L.drop (k + 1) := List.drop_eq_getElem_cons hk
  have e3 : ((L.take k).map (clrA life own)).length = k := by simp; omega
  unfold midL
  rw [e0, e1, e2, List.map_append, List.set_append_right _ _ (by omega), e3, Nat.sub_self, List.append_assoc]
  rfl
theorem midL_all (life own : Int) (L : List ArrM) (k : Nat) (hk : L.length ≤ k) : midL life own L k = L.map (clrA life own) := by
  unfold midL
  rw [List.take_of_length_le hk, List.drop_eq_nil_of_le hk, List.append_nil]
/-- the lives of a heap's arrays -/
def okL (L : List ArrM) : Prop := 2 ≤ L.length ∧ (∀ j, j < 2 → (L.getD j default).life = 0) ∧ ∀ a ∈ L, 0 ≤ a.life ∧ a.life ≤ 2
theorem clrA_buf {life own : Int} {a : ArrM} (h : a.life = 0) : clrA life own a = a ∧ endsB a life own = false := by
  have : endsB a life own = false := by simp [endsB, h]
  exact ⟨by simp [clrA, this], this⟩
theorem midL_two {life own : Int} {L : List ArrM} (h : okL L) : midL life own L 2 = L ∧ goneN (L.take 2) life own = 0 := by
  obtain ⟨h2, hb, -⟩ := h
  match L, h2, hb with
  | a :: c :: r, _, hb =>
    have h0 := hb 0 (by omega)
    have h1 := hb 1 (by omega)
    simp only [List.getD_cons_zero, List.getD_cons_succ] at h0 h1
    have k0 := clrA_buf (life := life) (own := own) h0
    have k1 := clrA_buf (life := life) (own := own) h1
    simp [midL, goneN, k0.1, k1.1, k0.2, k1.2]
theorem getD_some {L : List ArrM} {k : Nat} {a : ArrM} (hk : k < L.length) (h : L.getD k default = a) : L[k]? = some a := by
  rw [← h]
  simp [List.getD, hk]
/-- which case a round is -/
theorem six2 {a : ArrM} (h0 : 0 ≤ a.life) (h2 : a.life ≤ 2) (lf ow : Int) :
    ((lf == 1) = true ∧ (lf == 2) = false ∧ 0 < a.life ∧ endsB a lf ow = true) ∨ ((lf == 1) = true ∧ (lf == 2) = false ∧ a.life ≤ 0 ∧ endsB a lf ow = false) ∨ ((lf == 1) = false ∧ (lf == 2) = false ∧ endsB a lf ow = false) ∨
    ((lf == 1) = false ∧ (lf == 2) = true ∧ (a.life == 2) = false ∧ endsB a lf ow = false) ∨ ((lf == 1) = false ∧ (lf == 2) = true ∧ (a.life == 2) = true ∧ (a.own == ow) = false ∧ endsB a lf ow = false) ∨
    ((lf == 1) = false ∧ (lf == 2) = true ∧ (a.life == 2) = true ∧ (a.own == ow) = true ∧ endsB a lf ow = true) := by
  by_cases e1 : lf = 1
  · subst e1
    by_cases h : 0 < a.life
    · refine .inl ⟨rfl, rfl, h, ?_⟩
      simp [endsB]; omega
    · refine .inr (.inl ⟨rfl, rfl, by omega, ?_⟩)
      simp [endsB]; omega
  · have q1 : (lf == 1) = false := by simpa using e1
    cases q2 : (lf == 2)
    · exact .inr (.inr (.inl ⟨q1, rfl, by simp [endsB, q1, q2]⟩))
    · cases q3 : (a.life == 2)
      · exact .inr (.inr (.inr (.inl ⟨q1, rfl, rfl, by simp [endsB, q1, q3]⟩)))
      · cases q4 : (a.own == ow)
        · exact .inr (.inr (.inr (.inr (.inl ⟨q1, rfl, rfl, rfl, by simp [endsB, q1, q4]⟩))))
        · exact .inr (.inr (.inr (.inr (.inr ⟨q1, rfl, rfl, rfl, by simp [endsB, q2, q3, q4]⟩))))
theorem gone_takeL (L : List ArrM) (life own : Int) {j : Nat} (hj : j < L.length) : goneN (L.take (j + 1)) life own = goneN (L.take j) life own + (if endsB (L.getD j default) life own then 1 else 0) := by
  unfold goneN
  rw [List.take_add_one, List.filter_append, List.length_append, List.getElem?_eq_getElem hj]
  simp [List.filter_cons, List.getD, hj]
  split <;> simp
/-- the blocks of F, and those that were made since w -/
def Plus (F : Nat → Prop) (w wr : World) (k : Nat) : Prop := F k ∨ Since w wr k
section
variable {F : Nat → Prop} {w : World} {b : Nat} {m : HpM}
theorem Hep.plus {wr w2 : World} {m2 : HpM} (h : Hep RT (More (Plus F w wr) wr w2) w2 b m2) (h1 : w.heap.size ≤ wr.heap.size) (h2 : wr.heap.size ≤ w2.heap.size) (hF : ∀ k, F k → k < w.heap.size) : Hep RT (Plus F w w2) w2 b m2 :=
  h.wide (fun k hk => by
    rcases hk with (hk | hk) | hk
    · exact .inl hk
    · exact .inr ⟨hk.1, by have := hk.2; omega⟩
    · exact .inr ⟨by omega, hk.2⟩) (fun k hk => by
    rcases hk with hk | hk
    · have := hF k hk; omega
    · exact hk.2)
theorem Hep.plusU {wr w2 : World} {m2 : HpM} (h : Hep RT (Plus F w wr) wr b m2) (hu : Upd (fun _ => False) wr w2) (hF : ∀ k, F k → k < w.heap.size) (h1 : w.heap.size ≤ wr.heap.size) : Hep RT (Plus F w w2) w2 b m2 :=
  (h.upd hu (fun _ _ h => h)).wide (fun k hk => by
    rcases hk with hk | hk
    · exact .inl hk
    · exact .inr ⟨hk.1, by have := hk.2; have := hu.size; omega⟩) (fun k hk => by
    rcases hk with hk | hk
    · have := hF k hk; have := hu.size; omega
    · exact hk.2)
set_option maxRecDepth 100000 in
set_option maxHeartbeats 4000000 in
theorem rClear (h : Hep RT F w b m) (hl : m.arrs.length ≤ 1000) (hok : okL m.arrs) (life own : Int) :
    Calls Try.prog 20 #[.pointer (some ⟨b, 0, none⟩), .int .i64 life, .int .i64 own] w fun e w' => e = .returned (.int .i64 (goneN m.arrs life own : Int)) ∧ Hep RT (Plus F w w') w' b (m.clr life own) ∧ Upd F w w' := by
  obtain ⟨i0, hi0, hz0, hz1, hz2⟩ := info_parts b8Info
  have HF := Lib.hid h.lt
  have H0 : Hid (Hep RT (Plus F w w) w b ⟨m.size, midL life own m.arrs 2⟩) := Lib.hid (by
    rw [(midL_two hok).1]
    exact h.wide (fun k hk => .inl hk) (fun k hk => by rcases hk with hk | hk; exact h.lt k hk; exact hk.2))
  have HE0 := Lib.hid (midL_two (life := life) (own := own) hok).2
  have HU0 := Lib.hid (Upd.refl F w)
  have HOK := Lib.hid hok
  have h2 := hok.1
  clear h hok
  go_enter Try.func20, Try.ntmps20
  go_wp2_with fail
  go_loopw [8, 7, 9] (fun i u _ wr => ∃ k n : Nat, 2 ≤ k ∧ k ≤ m.arrs.length ∧ i = .int .i64 k ∧ u = .int .i64 n ∧ n ≤ k ∧ Hid (goneN (m.arrs.take k) life own = n) ∧ Hid (Hep RT (Plus F w wr) wr b ⟨m.size, midL life own m.arrs k⟩) ∧ Hid (Upd F w wr)) (fun i _ _ _ => m.arrs.length - (intOf i).toNat)
  case atStart => exact ⟨2, 0, by omega, h2, rfl, rfl, by omega, HE0, H0, HU0⟩
  case round =>
    obtain ⟨k, n, hk2, hk, rfl, rfl, hn, HN, HH, HU⟩ := hrel
    obtain ⟨av, R, hp, hR⟩ := HH.out
    have hRl : R.length = m.arrs.length := by rw [fst_len hR, midL_len _ _ _ _ hk]
    obtain ⟨q0, q1, -⟩ := hp.bx
    obtain ⟨aa, ac, rfl⟩ := hp.len
    rw [hRl] at q1
    by_cases hlt : k < m.arrs.length
    · have hkR : k < R.length := by rw [hRl]; exact hlt
      obtain ⟨g, c', hv, k0, k1, k2, k3, k4, k5⟩ := hp.at hkR
      simp at hv
      obtain ⟨rfl, rfl⟩ := hv
      obtain ⟨da, dc, hd, -, -⟩ := hp.dslice hkR
      have hdl := (hp.dat _ (List.getElem_mem hkR)).len
      obtain ⟨hkR2, hae⟩ := fst_at hR (i := k) (by rw [midL_len _ _ _ _ hk]; exact hlt)
      have hae2 : R[k].1 = m.arrs.getD k default := by rw [hae]; exact midL_get life own m.arrs k hlt
      have hlife := HOK.out.2.2 (m.arrs.getD k default) (by simp [List.getD, hlt])
      have hgt := gone_takeL m.arrs life own hlt
      have hms := midL_set life own m.arrs k hlt
      rw [HN.out] at hgt
      rw [← hae2] at hlife hgt hms
      rw [hd] at k4
      have hki : (0 : Int) ≤ (k : Int) := Int.natCast_nonneg _
      have HP := Lib.hid hp
      have HR := Lib.hid hR
      have HGT := Lib.hid hgt
      have HMS := Lib.hid hms
      have HRL := Lib.hid hRl
      obtain ⟨a, ha⟩ : ∃ a, a = R[k].1 := ⟨_, rfl⟩
      rw [← ha] at k0 k1 k2 k3 k4 hdl hlife HGT HMS
      have HA := Lib.hid ha
      have HAE : Hid (a = m.arrs.getD k default) := Lib.hid (ha.trans hae2)
      clear hp hR hgt hms hae hae2 ha hd q0 k5 hRl
      obtain ⟨w1, hw1⟩ : ∃ w1, w1 = wr.alloc (.cells #[.int .i64 a.own, .int .i64 a.lab, .int .i64 a.life, .bool a.sh, .slice da a.data.length dc] 38) := ⟨_, rfl⟩
      have hu1 : Upd (fun _ => False) wr w1 := by rw [hw1]; exact Upd.alloc _ _ _
      have hx1 : w1.heap[wr.heap.size]? = some (.cells #[.int .i64 a.own, .int .i64 a.lab, .int .i64 a.life, .bool a.sh, .slice da a.data.length dc] 38 (0, 0)) := by rw [hw1]; exact hpTop _ _ _ rfl
      obtain ⟨e0, e1, e2, e3, e4, -⟩ := five hx1
      have HS := Lib.hid (six2 hlife.1 hlife.2 life own)
      have HX1 := Lib.hid hx1
      have HP1 := Lib.hid (HP.out.upd hu1 (fun _ _ h => h))
      have HH1 := Lib.hid (HH.out.plusU hu1 HF.out HU.out.size)
      have HUU := Lib.hid (HU.out.trans (hu1.mono (T := F) (fun _ h _ => h.elim)) (fun _ h _ => h))
      have HU1 := Lib.hid hu1
      clear hx1 hu1
      subst hw1
      rcases HS.out with ⟨g1, g2, g3, g4⟩ | ⟨g1, g2, g3, g4⟩ | ⟨g1, g2, g4⟩ | ⟨g1, g2, g3, g4⟩ | ⟨g1, g2, g3, g5, g4⟩ | ⟨g1, g2, g3, g5, g4⟩
      all_goals have HEN := Lib.hid g4
      all_goals clear g4
      rotate_left
      · have g7 : decide (0 < a.life) = false := by simp; omega
        have HMM : Hid (midL life own m.arrs (k + 1) = midL life own m.arrs k) := Lib.hid (by
          rw [HMS.out, (show clrA life own a = a by simp [clrA, HEN.out])]
          exact setSame _ _ _ (getD_some (by rw [midL_len _ _ _ _ hk]; exact hlt) ((midL_get life own m.arrs k hlt).trans HAE.out.symm)))
        have HR3 : Hid (goneN (m.arrs.take (k + 1)) life own = n) := Lib.hid (by rw [HGT.out, HEN.out]; rfl)
        rw [← HMM.out] at HH1
        go_wp2_with fail
        go_roundw
        case rel => exact ⟨k + 1, n, by omega, by omega, by go_num, rfl, by omega, HR3, HH1, HUU⟩
        case measure => simp [intOf]; omega
      ·
        have HMM : Hid (midL life own m.arrs (k + 1) = midL life own m.arrs k) := Lib.hid (by
          rw [HMS.out, (show clrA life own a = a by simp [clrA, HEN.out])]
          exact setSame _ _ _ (getD_some (by rw [midL_len _ _ _ _ hk]; exact hlt) ((midL_get life own m.arrs k hlt).trans HAE.out.symm)))
        have HR3 : Hid (goneN (m.arrs.take (k + 1)) life own = n) := Lib.hid (by rw [HGT.out, HEN.out]; rfl)
        rw [← HMM.out] at HH1
        go_wp2_with fail
        go_roundw
        case rel => exact ⟨k + 1, n, by omega, by omega, by go_num, rfl, by omega, HR3, HH1, HUU⟩
        case measure => simp [intOf]; omega
      ·
        have HMM : Hid (midL life own m.arrs (k + 1) = midL life own m.arrs k) := Lib.hid (by
          rw [HMS.out, (show clrA life own a = a by simp [clrA, HEN.out])]
          exact setSame _ _ _ (getD_some (by rw [midL_len _ _ _ _ hk]; exact hlt) ((midL_get life own m.arrs k hlt).trans HAE.out.symm)))
        have HR3 : Hid (goneN (m.arrs.take (k + 1)) life own = n) := Lib.hid (by rw [HGT.out, HEN.out]; rfl)
        rw [← HMM.out] at HH1
        go_wp2_with fail
        go_roundw
        case rel => exact ⟨k + 1, n, by omega, by omega, by go_num, rfl, by omega, HR3, HH1, HUU⟩
        case measure => simp [intOf]; omega
      ·
        have HMM : Hid (midL life own m.arrs (k + 1) = midL life own m.arrs k) := Lib.hid (by
          rw [HMS.out, (show clrA life own a = a by simp [clrA, HEN.out])]
          exact setSame _ _ _ (getD_some (by rw [midL_len _ _ _ _ hk]; exact hlt) ((midL_get life own m.arrs k hlt).trans HAE.out.symm)))
        have HR3 : Hid (goneN (m.arrs.take (k + 1)) life own = n) := Lib.hid (by rw [HGT.out, HEN.out]; rfl)
        rw [← HMM.out] at HH1
        go_wp2_with fail
        go_roundw
        case rel => exact ⟨k + 1, n, by omega, by omega, by go_num, rfl, by omega, HR3, HH1, HUU⟩
        case measure => simp [intOf]; omega
      all_goals
        have HR3 : Hid (goneN (m.arrs.take (k + 1)) life own = n + 1) := Lib.hid (by rw [HGT.out, HEN.out]; rfl)
        go_wp2_with ((refine wpList_make_full (wr.alloc (.cells #[.int .i64 a.own, .int .i64 a.lab, .int .i64 a.life, .bool a.sh, .slice da a.data.length dc] 38)) rfl _ _ 31 rfl 0 5 i0 (.int .u8 0) 1 Try.underlying31 hi0 hz0 hz1 .i64 .i64 (a.data.length : Int) (a.data.length : Int) a.data.length rfl rfl rfl rfl (by rw [hz2]; omega) (by unfold maxLen; omega) (Nat.zero_le _) ?_))
        intro w5 ho hg
        rw [made_zeros] at ho
        have hu5 := Upd.grown (S := fun _ => False) hg (fun k hk => by cases hk)
        have HV5 := Lib.hid (vw_of_row (ys := zeros a.data.length) (by rw [zeros_len]; exact ho) (zeros_byte _))
        have HP5 := Lib.hid (HP1.out.upd hu5 (fun _ _ h => h))
        have HU5 := Lib.hid (HU1.out.trans hu5 (fun _ h _ => h))
        have HPU := Lib.hid (show Calls Try.prog 14 #[.pointer (some ⟨b, 0, none⟩), .int .i64 ((k : Int) + 1), .int .i64 0, .slice (some ⟨wr.heap.size + 1, 0, none⟩) a.data.length a.data.length] w5 fun e w' => e = .returned (.tuple #[]) ∧ (∃ av' d, Hp RT (More (Plus F w wr) w5 w') w' b m.size av' (R.set k (R[k].1.put (setFrom R[k].1.data 0 (zeros a.data.length)), d))) ∧ Upd (Plus F w wr) w5 w' from by
          have h := rPut HP5.out (by rw [HRL.out]; exact hl) hkR 0 _ (zeros a.data.length) HV5.out (by rw [zeros_len, HA.out]; omega)
          exact h)
        clear ho hg hu5
        go_wp2_with fail
        refine HPU.out.mono ?_
        rintro e w6 ⟨rfl, ⟨av6, d6, h6⟩, hu6⟩
        have s1 := HU.out.size
        have s5 := HU5.out.size
        have s6 := hu6.size
        have HH6 : Hid (Hep RT (Plus F w w6) w6 b ⟨m.size, midL life own m.arrs (k + 1)⟩) := Lib.hid ⟨av6, _, h6.wide (fun q hq => by
          rcases hq with (hq | hq) | hq
          · exact .inl hq
          · exact .inr ⟨hq.1, by have := hq.2; omega⟩
          · exact .inr ⟨by omega, hq.2⟩) (fun q hq => by
          rcases hq with hq | hq
          · have := HF.out q hq; omega
          · exact hq.2), by
          rw [fst_set HR.out, HMS.out, ← HA.out, setFrom_all _ _ (by rw [zeros_len])]
          simp [clrA, HEN.out]⟩
        have HU6 : Hid (Upd F w w6) := Lib.hid ((HU.out.trans (HU5.out.mono (T := F) (fun _ h _ => h.elim)) (fun _ h _ => h)).trans hu6 (fun q hq hl => by
          rcases hq with hq | hq
          · exact hq
          · have := hq.1; omega))
        clear h6 hu6 s1 s5 s6
        go_wp2_with fail
        go_roundw
        case rel => exact ⟨k + 1, n + 1, by omega, by omega, by go_num, by go_num, by omega, HR3, HH6, HU6⟩
        case measure => simp [intOf]; omega
    · obtain rfl : k = m.arrs.length := by omega
      have HN2 : Hid (goneN m.arrs life own = n) := Lib.hid (by rw [← HN.out, List.take_length])
      have HH2 : Hid (Hep RT (Plus F w wr) wr b (m.clr life own)) := Lib.hid (by
        have h := HH.out
        rw [midL_all _ _ _ _ (Nat.le_refl _)] at h
        exact h)
      go_wp2_with fail
      go_ret
      exact ⟨by rw [HN2.out]; rfl, HH2.out, HU.out⟩
end
end Go.Proofs.Yteapemjkfncbjaa

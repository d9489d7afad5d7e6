/- HeapForgets: plainly; its first loop. -/
import Derived.Test.YtcbknlibmhaciaaHl
import Derived.Test.YtcbknlibmhaciaaHand
import Derived.OwnWalk
import Derived.Deep.RegionLaw
import Derived.Deep.RegionHeld3
import Derived.Deep.Cut
import Derived.Deep.DeepCutAuto
namespace Go.Proofs.Ytcbknlibmhaciaa
open Go.RowKit Go.Lib Go.ChangeShapes Go.WideShapes Go.Deep
set_option linter.unusedVariables false
set_option linter.unusedSimpArgs false

def fgM (A : List ArrM) : HpM := ⟨4096, (two 4096).arrs ++ A⟩
def okA (a : ArrM) : Prop := 0 ≤ a.life ∧ a.life ≤ 2 ∧ a.data.length ≤ 20
theorem fgM_len (A : List ArrM) : (fgM A).arrs.length = A.length + 2 := by simp [fgM, two]
theorem fgM_add (A : List ArrM) (a : ArrM) : (fgM A).add a = fgM (A ++ [a]) := by simp [fgM, HpM.add]
theorem fgM_last (A : List ArrM) (a : ArrM) : (fgM (A ++ [a])).arrs.getD (A.length + 2) default = a := by simp [fgM, two, List.getD]
theorem fgM_put (A : List ArrM) (a : ArrM) (j : Nat) (y : Int) : (fgM (A ++ [a])).put (A.length + 2) j y = fgM (A ++ [a.put (a.data.set j y)]) := by
  unfold HpM.put HpM.lay
  rw [fgM_last]
  simp [fgM, two]
theorem fgM_used (A : List ArrM) : usedP (fgM A).arrs = usedL A := by simp [usedP, fgM, two]
theorem used28 {A : List ArrM} (h : ∀ a ∈ A, okA a) : usedL A ≤ 28 * A.length := by
  induction A with
  | nil => simp [usedL]
  | cons p D ih =>
    have h1 := (h p (by simp)).2.2
    have h2 := ih (fun q hq => h q (by simp [hq]))
    simp [usedL] at h2 ⊢
    omega
theorem fgM_fits {A : List ArrM} (h : ∀ a ∈ A, okA a) (hl : A.length ≤ 40) (lab life n : Int) (h1 : lab = 3 ∨ lab = 4) (h2 : 0 ≤ life ∧ life ≤ 2) (h3 : 1 ≤ n ∧ n ≤ 20) : fitsB (fgM A) lab life n = true := by
  have hu := used28 h
  have e := fgM_used A
  unfold fitsB
  rw [e]
  have hz : (fgM A).size = 4096 := rfl
  have q1 : labB lab = true := by rcases h1 with rfl | rfl <;> rfl
  have q2 : lifeB life = true := by simp [lifeB]; omega
  rw [hz, q1, q2]
  simp
  omega
theorem Own.less {K K' : Nat → Prop} {w0 w : World} {b : Nat} {m : HpM} (h : Own K w0 w b m) (hK : ∀ k, K' k → K k) : Own K' w0 w b m :=
  ⟨h.hp.wide (fun k hk => ⟨hk.1, fun h => hk.2 (hK k h)⟩) (fun k hk => hk.1.2), h.up, fun k hk => h.kl k (hK k hk)⟩
theorem seven2 {w : World} {g : Nat} {v0 v1 v2 v3 v4 v5 v6 : Value} {t : TypeId} (h : w.heap[g]? = some (.cells #[v0, v1, v2, v3, v4, v5, v6] t (0, 0))) :
    w.cell? ⟨g, 0, none⟩ = some v0 ∧ w.cell? ⟨g, 1, none⟩ = some v1 ∧ w.cell? ⟨g, 2, none⟩ = some v2 ∧ w.cell? ⟨g, 3, none⟩ = some v3 ∧ w.cell? ⟨g, 4, none⟩ = some v4 ∧ w.cell? ⟨g, 5, none⟩ = some v5 ∧ w.cell? ⟨g, 6, none⟩ = some v6 := by
  refine ⟨?_, ?_, ?_, ?_, ?_, ?_, ?_⟩ <;> simp [World.cell?, h]
theorem hpDrewN2 (S : Nat → Prop) (w : World) (n : Nat) : Upd S w (w.drewN n) := ⟨rfl, rfl, rfl, Nat.le_refl _, fun _ _ _ => rfl⟩
/-- a row's byte -/
theorem rowByte {w : World} {v : Value} {ys : List Int} (h : w.ownsRow 0 5 1 v ys.length (bv ys)) {j : Nat} (hj : j < ys.length) : ∃ g c, v = .slice (some ⟨g, 0, none⟩) ys.length c ∧ w.cell? ⟨g, j, none⟩ = some (.int .u8 (ys.getD j 0)) := by
  have hrow := h
  rcases h.2 with ⟨_, h0⟩ | ⟨g, cap, cur, hd, hb, hg, hc, hmx, hcs, ht⟩
  · omega
  · rw [hd] at hrow
    have hc := hrow.cells (g := g) rfl j (.int .u8 (ys.getD j 0)) (by simp [bv, List.getElem?_eq_getElem hj, List.getD])
    rw [addr_add, Nat.zero_add] at hc
    exact ⟨g, cap, hd, hc⟩
/-- the heap with 5 in its public buffer -/
def fS (A : List ArrM) : HpM := ⟨4096, [⟨-1, 3, 0, false, [5]⟩, ⟨-1, 4, 0, false, []⟩] ++ A⟩
theorem fS_is (A : List ArrM) : (fgM A).lay 0 [5] = fS A := rfl
theorem fS_len (A : List ArrM) : (fS A).arrs.length = A.length + 2 := by simp [fS]
theorem fS_small (A : List ArrM) (j : Nat) (hj : j < 2) : ((fS A).arrs.getD j default).life = 0 := by
  rcases (show j = 0 ∨ j = 1 by omega) with rfl | rfl <;> rfl
theorem fS_ok {A : List ArrM} (h : ∀ a ∈ A, okA a) (j : Nat) (hj : j < A.length + 2) : okA ((fS A).arrs.getD j default) := by
  rcases (show j = 0 ∨ j = 1 ∨ 2 ≤ j by omega) with rfl | rfl | hj2
  · exact ⟨Int.le_refl 0, by show (0 : Int) ≤ 2; omega, by show 1 ≤ 20; omega⟩
  · exact ⟨Int.le_refl 0, by show (0 : Int) ≤ 2; omega, by show 0 ≤ 20; omega⟩
  · obtain ⟨i, rfl⟩ : ∃ i, j = i + 2 := ⟨j - 2, by omega⟩
    have hi : i < A.length := by omega
    have e : (fS A).arrs.getD (i + 2) default = A[i] := by simp [fS, List.getD, hi]
    rw [e]
    exact h _ (List.getElem_mem hi)
theorem clr_get (m : HpM) (life own : Int) {j : Nat} (hj : j < m.arrs.length) : (m.clr life own).arrs.getD j default = clrA life own (m.arrs.getD j default) := by
  simp [HpM.clr, List.getD, hj]
theorem clrA_aval (life own : Int) (a : ArrM) (d : Value) : aval (clrA life own a) d = .agg #[.int .i64 a.own, .int .i64 a.lab, .int .i64 a.life, .bool a.sh, d] := by
  unfold clrA
  split <;> rfl
theorem clrA_len (life own : Int) (a : ArrM) : (clrA life own a).data.length = a.data.length := by
  unfold clrA
  split
  · simp [ArrM.put, zeros]
  · rfl
theorem clrA_zero {life own : Int} {a : ArrM} (h : endsB a life own = true) (k : Nat) : (clrA life own a).data.getD k 0 = 0 := by
  unfold clrA
  rw [if_pos h]
  simp only [ArrM.put, zeros, List.getD]
  rw [List.getElem?_replicate]
  split <;> rfl
theorem clrA_same {life own : Int} {a : ArrM} (h : endsB a life own = false) : (clrA life own a).data = a.data := by
  unfold clrA
  rw [if_neg (by rw [h]; simp)]
theorem gone_take2 (m : HpM) (life own : Int) {j : Nat} (hj : j < m.arrs.length) : goneN (m.arrs.take (j + 1)) life own = goneN (m.arrs.take j) life own + (if endsB (m.arrs.getD j default) life own then 1 else 0) := by
  unfold goneN
  rw [List.take_add_one, List.filter_append, List.length_append, List.getElem?_eq_getElem hj]
  simp [List.filter_cons, List.getD, hj]
  split <;> simp
/-- which case a round is -/
theorem six {a : ArrM} (hok : okA a) {lf ow : Int} (hl : lf = 1 ∨ lf = 2) {j : Nat} (hs : j < 2 → a.life = 0) :
    (j < 2 ∧ endsB a lf ow = false) ∨ (2 ≤ j ∧ (lf == 1) = true ∧ (lf == 2) = false ∧ 0 < a.life ∧ endsB a lf ow = true) ∨ (2 ≤ j ∧ (lf == 1) = true ∧ (lf == 2) = false ∧ a.life ≤ 0 ∧ endsB a lf ow = false) ∨
    (2 ≤ j ∧ (lf == 1) = false ∧ (lf == 2) = true ∧ (a.life == 2) = true ∧ (a.own == ow) = true ∧ endsB a lf ow = true) ∨ (2 ≤ j ∧ (lf == 1) = false ∧ (lf == 2) = true ∧ (a.life == 2) = true ∧ (a.own == ow) = false ∧ endsB a lf ow = false) ∨
    (2 ≤ j ∧ (lf == 1) = false ∧ (lf == 2) = true ∧ (a.life == 2) = false ∧ endsB a lf ow = false) := by
  obtain ⟨h0, h2, -⟩ := hok
  by_cases hj : j < 2
  · refine .inl ⟨hj, ?_⟩
    have := hs hj
    simp [endsB, this]
  · rcases hl with rfl | rfl
    · by_cases h : 0 < a.life
      · refine .inr (.inl ⟨by omega, rfl, rfl, h, ?_⟩)
        simp [endsB]; omega
      · refine .inr (.inr (.inl ⟨by omega, rfl, rfl, by omega, ?_⟩))
        simp [endsB]; omega
    · cases h : (a.life == 2)
      · exact .inr (.inr (.inr (.inr (.inr ⟨by omega, rfl, rfl, rfl, by simp [endsB, h]⟩))))
      · cases h' : (a.own == ow)
        · exact .inr (.inr (.inr (.inr (.inl ⟨by omega, rfl, rfl, rfl, rfl, by simp [endsB, h, h']⟩))))
        · exact .inr (.inr (.inr (.inl ⟨by omega, rfl, rfl, rfl, rfl, by simp [endsB, h, h']⟩)))
/-- what holds ahead of each step -/
def FG (W wr : World) (b : Nat) (A : List ArrM) (k : Nat) : Prop := A.length = k ∧ Own Free W wr b (fgM A) ∧ ∀ a ∈ A, okA a

set_option maxRecDepth 100000 in
set_option maxHeartbeats 4000000 in
theorem heapForgets_short (W : World) (v : Value) (L : List St8) (life0 own0 : Int) (hL : StsAt W v L) (hlen : L.length ≤ 40) : Calls Try.prog 5 #[v, .int .i64 life0, .int .i64 own0] W fun e w' => e = .returned (.bool true) ∧ Upd (fun _ => False) W w' := by
  obtain ⟨la, lc, rfl⟩ := hL.slice
  have HL := Lib.hid hL
  have hlm : L.length ≤ maxLen := by
    rcases hL with ⟨_, rfl⟩ | ⟨g, off, c, _, h1, h2, _⟩
    · simp
    · omega
  clear hL
  unfold maxLen at hlm
  go_enter Try.func5, Try.ntmps5
  go_wp2_with fail
  refine (oNew (K := Free) (Upd.refl _ W) (fun _ h => h.elim) 4096 (by omega) (by omega)).mono ?_
  rintro e w1 ⟨b, rfl, ho, -⟩
  have H1 : Hid (Own Free W w1 b (fgM [])) := Lib.hid ho
  clear ho
  go_wp2_with fail
  refine (known8 w1 w1 (Upd.refl _ _)).mono ?_
  rintro e w2 ⟨rfl, hu⟩
  have H2 : Hid (FG W w2 b [] 0) := Lib.hid ⟨rfl, (H1.out.quiet hu).own, by simp⟩
  clear hu
  go_wp2_with fail
  go_loopw [9, 10, 11, 12] (fun i _ _ _ wr => ∃ (k : Nat) (A : List ArrM), k ≤ L.length ∧ k ≤ 40 ∧ i = .int .i64 k ∧ Hid (FG W wr b A k)) (fun i _ _ _ _ => 40 - (intOf i).toNat)
  case atStart => exact ⟨0, [], Nat.zero_le _, by omega, rfl, H2⟩
  case round =>
    obtain ⟨k, A, hk, hk40, rfl, HH⟩ := hrel
    by_cases hlt : k < L.length ∧ k < 40
    · obtain ⟨hlt, hlt2⟩ := hlt
      have hDn := HH.out.1
      subst hDn
      have HBL := Lib.hid (HH.out.2.1.up.below (Nat.le_refl _) (fun _ h => h.elim))
      obtain ⟨g, off, rfl, -, hgl, vb, c0, c1, c2, c3, c4, c5, c6, c7, c8⟩ := (HL.out.below HBL.out).at hlt
      obtain ⟨da, dc, rfl, -, -⟩ := c7.slice
      generalize L.getD A.length default = s at *
      obtain ⟨w3, hw3⟩ : ∃ w3, w3 = wr.alloc (.cells #[.int .i64 s.what, .int .i64 s.a, .int .i64 s.b, .int .i64 s.c, .int .i64 s.n, .bool s.sh, .slice da s.bs.length dc] 44) := ⟨_, rfl⟩
      have hu3 : Upd (fun _ => False) wr w3 := by rw [hw3]; exact Upd.alloc _ _ _
      have hs3 : wr.heap.size < w3.heap.size := by rw [hw3]; simp
      have hx3 : w3.heap[wr.heap.size]? = some (.cells #[.int .i64 s.what, .int .i64 s.a, .int .i64 s.b, .int .i64 s.c, .int .i64 s.n, .bool s.sh, .slice da s.bs.length dc] 44 (0, 0)) := by rw [hw3]; exact hpTop _ _ _ rfl
      have HO3 : Hid (Own (fun q => q = wr.heap.size) W w3.drew b (fgM A)) := Lib.hid (HH.out.2.1.keep (hu3.trans (Upd.drew (fun _ => False) w3) (fun _ h _ => h)) (fun q hq => .inr ⟨by omega, by rw [hq]; exact hs3⟩))
      have HW3 := Lib.hid hw3
      have HX3 := Lib.hid hx3
      have HU3 := Lib.hid hu3
      have HS3 := Lib.hid hs3
      have HLE := Lib.hid HH.out.2.2
      clear c7 c8 hw3 hx3 hu3 hs3
      obtain ⟨n1, hn1, hn2⟩ : ∃ n1, n1 = 1 + s.n % 20 ∧ (1 ≤ n1 ∧ n1 ≤ 20) := ⟨_, rfl, by omega⟩
      obtain ⟨l1, hl1, hl2⟩ : ∃ l1, l1 = 3 + s.b % 2 ∧ (l1 = 3 ∨ l1 = 4) := ⟨_, rfl, by omega⟩
      have hwn : IntKind.i64.wrap (1 + s.n % 20) = n1 := by rw [hn1]; exact IntWalk.i64_in _ (by omega)
      have hwl : IntKind.i64.wrap (3 + s.b % 2) = l1 := by rw [hl1]; exact IntWalk.i64_in _ (by omega)
      have HA := Lib.hid (show Calls Try.prog 10 #[.pointer (some ⟨b, 0, none⟩), .int .i64 (s.a % 3), .int .i64 l1, .int .i64 (s.c % 3), .bool s.sh, .int .i64 n1] w3.drew fun e w' => e = .returned (.tuple #[.int .i64 ((A.length + 3 : Nat) : Int), .bool true]) ∧ OwnTo (fun q => q = wr.heap.size) W w3.drew w' b (fgM (A ++ [newA (s.a % 3) l1 (s.c % 3) s.sh n1])) from by
        have h := oAlloc HO3.out (by rw [fgM_len]; omega) ⟨by show (0 : Int) ≤ 4096; omega, by show (4096 : Int) ≤ 4096; omega⟩ (s.a % 3) l1 (s.c % 3) n1 s.sh (fgM_fits HLE.out (by omega) _ _ _ hl2 (by omega) hn2)
        rw [fgM_len, fgM_add] at h
        exact h)
      have HC : Hid (∀ w', Upd (Ours (fun q => q = wr.heap.size) W w3.drew) w3.drew w' → w'.cell? ⟨wr.heap.size, 1, none⟩ = some (.int .i64 s.a) ∧ w'.cell? ⟨wr.heap.size, 2, none⟩ = some (.int .i64 s.b) ∧ w'.cell? ⟨wr.heap.size, 3, none⟩ = some (.int .i64 s.c) ∧ w'.cell? ⟨wr.heap.size, 4, none⟩ = some (.int .i64 s.n) ∧ w'.cell? ⟨wr.heap.size, 5, none⟩ = some (.bool s.sh)) := Lib.hid (fun w' hu => by
        have hx := hpBlk hu (show w3.drew.heap[wr.heap.size]? = _ from HX3.out) (fun h => h.2 rfl)
        exact ⟨by simp [World.cell?, hx], by simp [World.cell?, hx], by simp [World.cell?, hx], by simp [World.cell?, hx], by simp [World.cell?, hx]⟩)
      have HRF := Lib.hid (Upd.refl (Ours (fun q => q = wr.heap.size) W w3.drew) w3.drew)
      have HN1 := Lib.hid hn1
      clear hn1 hl1
      go_wp2_with fail
      rw [← HW3.out]
      clear c0 c1 c2 c3 c4 c5 c6
      go_region_held3 (fun w' => w'.cell? ⟨wr.heap.size, 1, none⟩ = some (.int .i64 s.a) ∧ w'.cell? ⟨wr.heap.size, 2, none⟩ = some (.int .i64 s.b) ∧ w'.cell? ⟨wr.heap.size, 3, none⟩ = some (.int .i64 s.c) ∧ w'.cell? ⟨wr.heap.size, 4, none⟩ = some (.int .i64 s.n) ∧ w'.cell? ⟨wr.heap.size, 5, none⟩ = some (.bool s.sh)) (first
        | with_reducible exact HC.out _ HRF.out
        | with_reducible exact HC.out _ HX5.out) (first
        | (go_at_call 16; (refine (hPick _ _ _ (by omega) (by omega)).mono ?_); rintro e w' ⟨rfl, rfl⟩)
        | (go_at_call 10; (refine HA.out.mono ?_); rintro e w5 ⟨rfl, ho⟩; have HO5 := Lib.hid ho.own; have HX5 := Lib.hid ho.step; clear ho))
      all_goals
        have HP : Hid (∀ y, (0 ≤ y ∧ y ≤ 255) → Calls Try.prog 11 #[.pointer (some ⟨b, 0, none⟩), .int .i64 ((A.length : Int) + 3), .int .i64 0, .int .u8 y] w5 fun e w' => e = .returned (.bool true) ∧ OwnTo (fun q => q = wr.heap.size) W w5 w' b (fgM (A ++ [(newA (s.a % 3) l1 (s.c % 3) s.sh n1).put ((zeros n1.toNat).set 0 y)]))) := Lib.hid (fun y hy => by
          have h := oPut (i := A.length + 2) (j := 0) HO5.out (by rw [fgM_len]; simp) (by rw [fgM_len]; simp; omega) (by rw [fgM_last]; simp only [newA, zeros_len]; omega) y hy
          rw [fgM_put] at h
          rw [show ((A.length + 2 : Nat) : Int) + 1 = (A.length : Int) + 3 by omega] at h
          exact h)
        obtain ⟨-, -, -, q4, -⟩ := HC.out _ HX5.out
        have hwp : IntKind.i64.wrap (1 + s.n % 255) = 1 + s.n % 255 := IntWalk.i64_in _ (by omega)
        go_wp2_with fail
        refine (hPick _ _ _ (by omega) (by omega)).mono ?_
        rintro e w' ⟨rfl, rfl⟩
        go_wp2_with fail
        refine (HP.out _ ?_).mono ?_
        · omega
        rintro e w6 ⟨rfl, ho⟩
        have HF6 : Hid (∃ A2, FG W w6 b A2 (A.length + 1)) := Lib.hid ⟨_, by simp, ho.own.less (fun _ h => h.elim), fun a ha => by
          rcases List.mem_append.1 ha with ha | ha
          · exact HLE.out a ha
          · simp at ha
            subst ha
            refine ⟨?_, ?_, ?_⟩
            · simp [ArrM.put, newA]; omega
            · simp [ArrM.put, newA]; omega
            · simp [ArrM.put, newA, zeros]; omega⟩
        clear ho q4
        obtain ⟨A2, hA2⟩ := HF6.out
        have HA2 := Lib.hid hA2
        clear hA2
        go_wp2_with fail
        go_roundw
        case rel => exact ⟨A.length + 1, A2, by omega, by omega, by go_num, HA2⟩
        case measure => simp [intOf]; omega
    · have HO := Lib.hid HH.out.2.1
      have HLE := Lib.hid HH.out.2.2
      have hAl : A.length ≤ 40 := by have := HH.out.1; omega
      have hor : L.length ≤ k := by omega
      all_goals
        obtain ⟨w10, hw10⟩ : ∃ w10, w10 = wr.alloc (.cells #[.int .u8 5] 5) := ⟨_, rfl⟩
        have hu10 : Upd (fun _ => False) wr w10 := by rw [hw10]; exact Upd.alloc _ _ _
        have hv10 : Vw w10 (.slice (some ⟨wr.heap.size, 0, none⟩) 1 1) [5] := by rw [hw10]; exact vw_lit wr _ _ [5] _ 1 1 rfl rfl (by decide) (by decide) (by decide)
        have HS10 := Lib.hid (show Calls Try.prog 13 #[.pointer (some ⟨b, 0, none⟩), .int .i64 1, .slice (some ⟨wr.heap.size, 0, none⟩) 1 1] w10 fun e w' => e = .returned (.bool true) ∧ OwnTo Free W w10 w' b (fS A) from oSet (i := 0) (HO.out.quiet hu10).own (by rw [fgM_len]; omega) (by decide) _ [5] hv10 (by decide))
        have HW10 := Lib.hid hw10
        clear hw10 hu10 hv10
        go_wp2_with fail
        rw [← HW10.out]
        refine HS10.out.mono ?_
        rintro e w11 ⟨rfl, ho⟩
        have HO11 := Lib.hid ho.own
        clear ho
        go_wp2_with fail
        refine (hPick life0 2 w11 (by omega) (by omega)).mono ?_
        rintro e w' ⟨rfl, rfl⟩
        obtain ⟨lf, hlf, hlf2⟩ : ∃ lf, lf = 1 + life0 % 2 ∧ (lf = 1 ∨ lf = 2) := ⟨_, rfl, by omega⟩
        have hwl : IntKind.i64.wrap (1 + life0 % 2) = lf := by rw [hlf]; exact IntWalk.i64_in _ (by omega)
        have HLF := Lib.hid hlf2
        clear hlf hlf2
        go_wp2_with fail
        refine (hPick own0 3 w11 (by omega) (by omega)).mono ?_
        rintro e w' ⟨rfl, rfl⟩
        generalize own0 % 3 = ow
        go_wp2_with fail
        refine (pCopy HO11.out.hp (by rw [fS_len]; omega)).mono ?_
        rintro e w12 ⟨b2, rfl, hc, hu12⟩
        have hk12 : Own (Since w11 w12) W w12 b (fS A) := HO11.out.keep hu12 (fun q hq => .inr hq)
        have HCL := Lib.hid (oClear hk12 (by rw [fS_len]; omega) lf ow)
        have HC12 := Lib.hid hc
        clear hc hu12 hk12
        go_wp2_with fail
        refine HCL.out.mono ?_
        rintro e w13 ⟨rfl, ho⟩
        have H13 : Hid (Hep HT (Ours (Since w11 w12) W w13) w13 b ((fS A).clr lf ow)) := Lib.hid ho.own.hp
        have HC13 : Hid (Hep HT (Since w11 w12) w13 b2 (fS A)) := Lib.hid (HC12.out.upd ho.step (fun q hq hq' => hq'.2 hq))
        have HU13 := Lib.hid ho.own.up
        have HE0 : Hid (goneN ((fS A).arrs.take 0) lf ow = 0) := Lib.hid (by simp [goneN])
        obtain ⟨G, hG⟩ : ∃ G, G = goneN (fS A).arrs lf ow := ⟨_, rfl⟩
        have hGl : G ≤ A.length + 2 := by rw [hG]; exact Nat.le_trans (gone_le lf ow _) (by rw [fS_len]; omega)
        rw [← hG]
        have HG := Lib.hid hG
        clear ho hG hwl
        go_wp2_with fail
        go_loopw [16, 15, 17, 18, 19, 20, 21, 22] (fun i u _ _ _ _ _ _ wr => ∃ (j n : Nat), j ≤ A.length + 2 ∧ i = .int .i64 ((j : Int) + 1) ∧ u = .int .i64 n ∧ n ≤ j ∧ Hid (goneN ((fS A).arrs.take j) lf ow = n) ∧ Hid (Hep HT (Ours (Since w11 w12) W w13) wr b ((fS A).clr lf ow)) ∧ Hid (Hep HT (Since w11 w12) wr b2 (fS A)) ∧ Hid (Upd (fun _ => False) W wr)) (fun i _ _ _ _ _ _ _ _ => A.length + 3 - (intOf i).toNat)
        case atStart => exact ⟨0, 0, Nat.zero_le _, rfl, rfl, Nat.le_refl _, HE0, H13, HC13, HU13⟩
        case round =>
          obtain ⟨j, n, hj, rfl, rfl, hn, HN, HH1, HH2, HU⟩ := hrel
          have HCT := Lib.hid (show Calls Try.prog 26 #[.pointer (some ⟨b, 0, none⟩)] wr fun e w' => e = .returned (.int .i64 ((A.length : Int) + 2)) ∧ wr = w' from by
            have h := pCount HH1.out
            rw [show ((fS A).clr lf ow).arrs.length = A.length + 2 by simp [HpM.clr, fS]] at h
            exact h)
          by_cases hlt2 : j < A.length + 2
          · go_wp2_with fail
            refine HCT.out.mono ?_
            rintro e w' ⟨rfl, rfl⟩
            have hja : j < (fS A).arrs.length := by rw [fS_len]; exact hlt2
            have hjc : j < ((fS A).clr lf ow).arrs.length := by simpa [HpM.clr] using hja
            have hl1000 : (fS A).arrs.length ≤ 1000 := by rw [fS_len]; omega
            have hl1001 : ((fS A).clr lf ow).arrs.length ≤ 1000 := by simpa [HpM.clr] using hl1000
            have HA1 := Lib.hid (pArray HH2.out hja hl1000)
            have hcg := clr_get (fS A) lf ow hja
            have hok := fS_ok HLE.out j hlt2
            have hsm := fS_small A j
            have hgt := gone_take2 (fS A) lf ow hja
            rw [HN.out] at hgt
            generalize ha : (fS A).arrs.getD j default = a at *
            go_wp2_with fail
            refine HA1.out.mono ?_
            rintro e w5 ⟨d1, rfl, hn1⟩
            obtain ⟨d1a, d1c, rfl⟩ := ownsRow_slice hn1.1
            obtain ⟨w6, hw6⟩ : ∃ w6, w6 = w5.alloc (.cells #[.int .i64 a.own, .int .i64 a.lab, .int .i64 a.life, .bool a.sh, .slice d1a a.data.length d1c] 29) := ⟨_, rfl⟩
            have hu6 : Upd (fun _ => False) w5 w6 := by rw [hw6]; exact Upd.alloc _ _ _
            have hs6 : w5.heap.size < w6.heap.size := by rw [hw6]; simp
            have hx6 : w6.heap[w5.heap.size]? = some (.cells #[.int .i64 a.own, .int .i64 a.lab, .int .i64 a.life, .bool a.sh, .slice d1a a.data.length d1c] 29 (0, 0)) := by rw [hw6]; exact hpTop _ _ _ rfl
            have hA2 := pArray ((HH1.out.upd hn1.2.1 (fun _ _ h => h)).upd hu6 (fun _ _ h => h)) hjc hl1001
            rw [hcg] at hA2
            have HA2 := Lib.hid hA2
            have HU6 := Lib.hid (hn1.2.1.trans hu6 (fun _ h _ => h))
            have HX6 := Lib.hid hx6
            have HR6 := Lib.hid (ownsRow_upd hn1.1 hu6 (fun _ _ h => h))
            have HW6 := Lib.hid hw6
            have HAE := Lib.hid ha
            have HS6 := Lib.hid hs6
            clear hA2 hcg hn1 hu6 hx6 hw6 ha hja hjc hl1000 hl1001 hs6
            simp only [aval]
            go_wp2_with fail
            rw [← HW6.out]
            refine HA2.out.mono ?_
            rintro e w7 ⟨d2, rfl, hn2⟩
            rw [clrA_aval]
            obtain ⟨d2a, d2c, rfl⟩ := ownsRow_slice hn2.1
            have hlen := clrA_len lf ow a
            have hn2' := hn2
            rw [hlen]
            obtain ⟨w8, hw8⟩ : ∃ w8, w8 = w7.alloc (.cells #[.int .i64 a.own, .int .i64 a.lab, .int .i64 a.life, .bool a.sh, .slice d2a a.data.length d2c] 29) := ⟨_, rfl⟩
            have hu8 : Upd (fun _ => False) w7 w8 := by rw [hw8]; exact Upd.alloc _ _ _
            have hx8 : w8.heap[w7.heap.size]? = some (.cells #[.int .i64 a.own, .int .i64 a.lab, .int .i64 a.life, .bool a.sh, .slice d2a a.data.length d2c] 29 (0, 0)) := by rw [hw8]; exact hpTop _ _ _ rfl
            have hu68 : Upd (fun _ => False) w6 w8 := hn2.2.1.trans hu8 (fun _ h _ => h)
            have HX8 := Lib.hid hx8
            have HX7 := Lib.hid (hpBlk hu68 HX6.out (fun h => h))
            have HR1 := Lib.hid (ownsRow_upd HR6.out hu68 (fun _ _ h => h))
            have hr2 := ownsRow_upd hn2.1 hu8 (fun _ _ h => h)
            have HR2 : Hid (w8.ownsRow 0 5 1 (.slice d2a a.data.length d2c) (clrA lf ow a).data.length (bv (clrA lf ow a).data)) := Lib.hid (by rw [hlen] at hr2 ⊢; exact hr2)
            have HLN := Lib.hid hlen
            have HU8 := Lib.hid (HU6.out.trans hu68 (fun _ h _ => h))
            obtain ⟨c0, c1, c2, c3, c4, -⟩ := five HX7.out
            obtain ⟨e0, e1, e2, e3, e4, -⟩ := five HX8.out
            have HQ1 := Lib.hid ((HH1.out.upd HU8.out (fun _ _ h => h)))
            have HQ2 := Lib.hid ((HH2.out.upd HU8.out (fun _ _ h => h)))
            have HUQ := Lib.hid (HU.out.trans HU8.out (fun _ h _ => h))
            have HSIX := Lib.hid (six hok (ow := ow) HLF.out hsm)
            have HGT := Lib.hid hgt
            have hdl : a.data.length ≤ 20 := hok.2.2
            clear hn2 hn2' hlen hu8 hx8 hu68 hr2 hok hsm hgt
            subst hw8
            have hj2 : (0 : Int) ≤ (j : Int) := Int.natCast_nonneg _
            rcases HSIX.out with ⟨g1, g2⟩ | ⟨g1, g2, g3, g4, g5⟩ | ⟨g1, g2, g3, g4, g5⟩ | ⟨g1, g2, g3, g4, g5, g6⟩ | ⟨g1, g2, g3, g4, g5, g6⟩ | ⟨g1, g2, g3, g4, g5⟩
            · have HEN := Lib.hid g2
              clear g2
              go_wp2_with fail
              clear c0 c1 c2 c3 c4 e0 e1 e2 e3 e4
              go_loopw [22] (fun q wx => ∃ p : Nat, p ≤ a.data.length ∧ q = .int .i64 p ∧ Hid (Upd (fun _ => False) (w7.alloc (.cells #[.int .i64 a.own, .int .i64 a.lab, .int .i64 a.life, .bool a.sh, .slice d2a a.data.length d2c] 29)) wx)) (fun q _ => a.data.length - (intOf q).toNat)
              case atStart => exact ⟨0, Nat.zero_le _, rfl, Lib.hid (Upd.refl _ _)⟩
              case round =>
                obtain ⟨p, hp, rfl, HV⟩ := hrel
                obtain ⟨-, -, -, -, x2, -⟩ := five (hpBlk HV.out HX8.out (fun h => h))
                by_cases hlt3 : p < a.data.length
                · obtain ⟨g2, k2, hv2, y2⟩ := rowByte (ownsRow_upd HR2.out HV.out (fun _ _ h => h)) (j := p) (by rw [HLN.out]; exact hlt3)
                  rw [HLN.out] at hv2
                  simp at hv2
                  obtain ⟨rfl, rfl⟩ := hv2
                  rw [clrA_same HEN.out] at y2
                  obtain ⟨-, -, -, -, x1, -⟩ := five (hpBlk HV.out HX7.out (fun h => h))
                  obtain ⟨g1', k1', hv1, y1⟩ := rowByte (ownsRow_upd HR1.out HV.out (fun _ _ h => h)) (j := p) hlt3
                  simp at hv1
                  obtain ⟨rfl, rfl⟩ := hv1
                  generalize a.data.getD p 0 = yv at *
                  have hp0 : (0 : Int) ≤ (p : Int) := Int.natCast_nonneg _
                  have hp1 : (p : Int) < (a.data.length : Int) := by omega
                  go_wp2_with fail
                  go_quiet (fail)
                  go_wp2_with fail
                  go_roundw
                  case rel => exact ⟨p + 1, by omega, by go_num, Lib.hid (HV.out.trans (hpDrewN2 (fun _ => False) _ _) (fun _ h _ => h))⟩
                  case measure => simp [intOf]; omega
                · obtain rfl : p = a.data.length := by omega
                  have HR3 : Hid (goneN ((fS A).arrs.take (j + 1)) lf ow = n) := Lib.hid (by rw [HGT.out, HEN.out]; rfl)
                  have HQ3 := Lib.hid (HQ1.out.upd HV.out (fun _ _ h => h))
                  have HQ4 := Lib.hid (HQ2.out.upd HV.out (fun _ _ h => h))
                  have HU4 := Lib.hid (HUQ.out.trans HV.out (fun _ h _ => h))
                  go_wp2_with fail
                  go_roundw
                  case rel => exact ⟨j + 1, n, by omega, by go_num, rfl, by omega, HR3, HQ3, HQ4, HU4⟩
                  case measure => simp [intOf]; omega
            · have HEN := Lib.hid g5
              clear g5
              go_wp2_with fail
              clear c0 c1 c2 c3 c4 e0 e1 e2 e3 e4
              go_loopw [22] (fun q wx => ∃ p : Nat, p ≤ a.data.length ∧ q = .int .i64 p ∧ Hid (Upd (fun _ => False) (w7.alloc (.cells #[.int .i64 a.own, .int .i64 a.lab, .int .i64 a.life, .bool a.sh, .slice d2a a.data.length d2c] 29)) wx)) (fun q _ => a.data.length - (intOf q).toNat)
              case atStart => exact ⟨0, Nat.zero_le _, rfl, Lib.hid (Upd.refl _ _)⟩
              case round =>
                obtain ⟨p, hp, rfl, HV⟩ := hrel
                obtain ⟨-, -, -, -, x2, -⟩ := five (hpBlk HV.out HX8.out (fun h => h))
                by_cases hlt3 : p < a.data.length
                · obtain ⟨g2, k2, hv2, y2⟩ := rowByte (ownsRow_upd HR2.out HV.out (fun _ _ h => h)) (j := p) (by rw [HLN.out]; exact hlt3)
                  rw [HLN.out] at hv2
                  simp at hv2
                  obtain ⟨rfl, rfl⟩ := hv2
                  rw [clrA_zero HEN.out p] at y2
                  have hp0 : (0 : Int) ≤ (p : Int) := Int.natCast_nonneg _
                  have hp1 : (p : Int) < (a.data.length : Int) := by omega
                  go_wp2_with fail
                  go_quiet (fail)
                  go_wp2_with fail
                  go_roundw
                  case rel => exact ⟨p + 1, by omega, by go_num, Lib.hid (HV.out.trans (hpDrewN2 (fun _ => False) _ _) (fun _ h _ => h))⟩
                  case measure => simp [intOf]; omega
                · obtain rfl : p = a.data.length := by omega
                  have HR3 : Hid (goneN ((fS A).arrs.take (j + 1)) lf ow = n + 1) := Lib.hid (by rw [HGT.out, HEN.out]; rfl)
                  have HQ3 := Lib.hid (HQ1.out.upd HV.out (fun _ _ h => h))
                  have HQ4 := Lib.hid (HQ2.out.upd HV.out (fun _ _ h => h))
                  have HU4 := Lib.hid (HUQ.out.trans HV.out (fun _ h _ => h))
                  go_wp2_with fail
                  go_roundw
                  case rel => exact ⟨j + 1, n + 1, by omega, by go_num, by go_num, by omega, HR3, HQ3, HQ4, HU4⟩
                  case measure => simp [intOf]; omega
            · have HEN := Lib.hid g5
              clear g5
              have g7 : decide (0 < a.life) = false := by simp; omega
              go_wp2_with fail
              clear c0 c1 c2 c3 c4 e0 e1 e2 e3 e4
              go_loopw [22] (fun q wx => ∃ p : Nat, p ≤ a.data.length ∧ q = .int .i64 p ∧ Hid (Upd (fun _ => False) (w7.alloc (.cells #[.int .i64 a.own, .int .i64 a.lab, .int .i64 a.life, .bool a.sh, .slice d2a a.data.length d2c] 29)) wx)) (fun q _ => a.data.length - (intOf q).toNat)
              case atStart => exact ⟨0, Nat.zero_le _, rfl, Lib.hid (Upd.refl _ _)⟩
              case round =>
                obtain ⟨p, hp, rfl, HV⟩ := hrel
                obtain ⟨-, -, -, -, x2, -⟩ := five (hpBlk HV.out HX8.out (fun h => h))
                by_cases hlt3 : p < a.data.length
                · obtain ⟨g2, k2, hv2, y2⟩ := rowByte (ownsRow_upd HR2.out HV.out (fun _ _ h => h)) (j := p) (by rw [HLN.out]; exact hlt3)
                  rw [HLN.out] at hv2
                  simp at hv2
                  obtain ⟨rfl, rfl⟩ := hv2
                  rw [clrA_same HEN.out] at y2
                  obtain ⟨-, -, -, -, x1, -⟩ := five (hpBlk HV.out HX7.out (fun h => h))
                  obtain ⟨g1', k1', hv1, y1⟩ := rowByte (ownsRow_upd HR1.out HV.out (fun _ _ h => h)) (j := p) hlt3
                  simp at hv1
                  obtain ⟨rfl, rfl⟩ := hv1
                  generalize a.data.getD p 0 = yv at *
                  have hp0 : (0 : Int) ≤ (p : Int) := Int.natCast_nonneg _
                  have hp1 : (p : Int) < (a.data.length : Int) := by omega
                  go_wp2_with fail
                  go_quiet (fail)
                  go_wp2_with fail
                  go_roundw
                  case rel => exact ⟨p + 1, by omega, by go_num, Lib.hid (HV.out.trans (hpDrewN2 (fun _ => False) _ _) (fun _ h _ => h))⟩
                  case measure => simp [intOf]; omega
                · obtain rfl : p = a.data.length := by omega
                  have HR3 : Hid (goneN ((fS A).arrs.take (j + 1)) lf ow = n) := Lib.hid (by rw [HGT.out, HEN.out]; rfl)
                  have HQ3 := Lib.hid (HQ1.out.upd HV.out (fun _ _ h => h))
                  have HQ4 := Lib.hid (HQ2.out.upd HV.out (fun _ _ h => h))
                  have HU4 := Lib.hid (HUQ.out.trans HV.out (fun _ h _ => h))
                  go_wp2_with fail
                  go_roundw
                  case rel => exact ⟨j + 1, n, by omega, by go_num, rfl, by omega, HR3, HQ3, HQ4, HU4⟩
                  case measure => simp [intOf]; omega
            · have HEN := Lib.hid g6
              clear g6
              go_wp2_with fail
              clear c0 c1 c2 c3 c4 e0 e1 e2 e3 e4
              go_loopw [22] (fun q wx => ∃ p : Nat, p ≤ a.data.length ∧ q = .int .i64 p ∧ Hid (Upd (fun _ => False) (w7.alloc (.cells #[.int .i64 a.own, .int .i64 a.lab, .int .i64 a.life, .bool a.sh, .slice d2a a.data.length d2c] 29)) wx)) (fun q _ => a.data.length - (intOf q).toNat)
              case atStart => exact ⟨0, Nat.zero_le _, rfl, Lib.hid (Upd.refl _ _)⟩
              case round =>
                obtain ⟨p, hp, rfl, HV⟩ := hrel
                obtain ⟨-, -, -, -, x2, -⟩ := five (hpBlk HV.out HX8.out (fun h => h))
                by_cases hlt3 : p < a.data.length
                · obtain ⟨g2, k2, hv2, y2⟩ := rowByte (ownsRow_upd HR2.out HV.out (fun _ _ h => h)) (j := p) (by rw [HLN.out]; exact hlt3)
                  rw [HLN.out] at hv2
                  simp at hv2
                  obtain ⟨rfl, rfl⟩ := hv2
                  rw [clrA_zero HEN.out p] at y2
                  have hp0 : (0 : Int) ≤ (p : Int) := Int.natCast_nonneg _
                  have hp1 : (p : Int) < (a.data.length : Int) := by omega
                  go_wp2_with fail
                  go_quiet (fail)
                  go_wp2_with fail
                  go_roundw
                  case rel => exact ⟨p + 1, by omega, by go_num, Lib.hid (HV.out.trans (hpDrewN2 (fun _ => False) _ _) (fun _ h _ => h))⟩
                  case measure => simp [intOf]; omega
                · obtain rfl : p = a.data.length := by omega
                  have HR3 : Hid (goneN ((fS A).arrs.take (j + 1)) lf ow = n + 1) := Lib.hid (by rw [HGT.out, HEN.out]; rfl)
                  have HQ3 := Lib.hid (HQ1.out.upd HV.out (fun _ _ h => h))
                  have HQ4 := Lib.hid (HQ2.out.upd HV.out (fun _ _ h => h))
                  have HU4 := Lib.hid (HUQ.out.trans HV.out (fun _ h _ => h))
                  go_wp2_with fail
                  go_roundw
                  case rel => exact ⟨j + 1, n + 1, by omega, by go_num, by go_num, by omega, HR3, HQ3, HQ4, HU4⟩
                  case measure => simp [intOf]; omega
            · have HEN := Lib.hid g6
              clear g6
              go_wp2_with fail
              clear c0 c1 c2 c3 c4 e0 e1 e2 e3 e4
              go_loopw [22] (fun q wx => ∃ p : Nat, p ≤ a.data.length ∧ q = .int .i64 p ∧ Hid (Upd (fun _ => False) (w7.alloc (.cells #[.int .i64 a.own, .int .i64 a.lab, .int .i64 a.life, .bool a.sh, .slice d2a a.data.length d2c] 29)) wx)) (fun q _ => a.data.length - (intOf q).toNat)
              case atStart => exact ⟨0, Nat.zero_le _, rfl, Lib.hid (Upd.refl _ _)⟩
              case round =>
                obtain ⟨p, hp, rfl, HV⟩ := hrel
                obtain ⟨-, -, -, -, x2, -⟩ := five (hpBlk HV.out HX8.out (fun h => h))
                by_cases hlt3 : p < a.data.length
                · obtain ⟨g2, k2, hv2, y2⟩ := rowByte (ownsRow_upd HR2.out HV.out (fun _ _ h => h)) (j := p) (by rw [HLN.out]; exact hlt3)
                  rw [HLN.out] at hv2
                  simp at hv2
                  obtain ⟨rfl, rfl⟩ := hv2
                  rw [clrA_same HEN.out] at y2
                  obtain ⟨-, -, -, -, x1, -⟩ := five (hpBlk HV.out HX7.out (fun h => h))
                  obtain ⟨g1', k1', hv1, y1⟩ := rowByte (ownsRow_upd HR1.out HV.out (fun _ _ h => h)) (j := p) hlt3
                  simp at hv1
                  obtain ⟨rfl, rfl⟩ := hv1
                  generalize a.data.getD p 0 = yv at *
                  have hp0 : (0 : Int) ≤ (p : Int) := Int.natCast_nonneg _
                  have hp1 : (p : Int) < (a.data.length : Int) := by omega
                  go_wp2_with fail
                  go_quiet (fail)
                  go_wp2_with fail
                  go_roundw
                  case rel => exact ⟨p + 1, by omega, by go_num, Lib.hid (HV.out.trans (hpDrewN2 (fun _ => False) _ _) (fun _ h _ => h))⟩
                  case measure => simp [intOf]; omega
                · obtain rfl : p = a.data.length := by omega
                  have HR3 : Hid (goneN ((fS A).arrs.take (j + 1)) lf ow = n) := Lib.hid (by rw [HGT.out, HEN.out]; rfl)
                  have HQ3 := Lib.hid (HQ1.out.upd HV.out (fun _ _ h => h))
                  have HQ4 := Lib.hid (HQ2.out.upd HV.out (fun _ _ h => h))
                  have HU4 := Lib.hid (HUQ.out.trans HV.out (fun _ h _ => h))
                  go_wp2_with fail
                  go_roundw
                  case rel => exact ⟨j + 1, n, by omega, by go_num, rfl, by omega, HR3, HQ3, HQ4, HU4⟩
                  case measure => simp [intOf]; omega
            · have HEN := Lib.hid g5
              clear g5
              go_wp2_with fail
              clear c0 c1 c2 c3 c4 e0 e1 e2 e3 e4
              go_loopw [22] (fun q wx => ∃ p : Nat, p ≤ a.data.length ∧ q = .int .i64 p ∧ Hid (Upd (fun _ => False) (w7.alloc (.cells #[.int .i64 a.own, .int .i64 a.lab, .int .i64 a.life, .bool a.sh, .slice d2a a.data.length d2c] 29)) wx)) (fun q _ => a.data.length - (intOf q).toNat)
              case atStart => exact ⟨0, Nat.zero_le _, rfl, Lib.hid (Upd.refl _ _)⟩
              case round =>
                obtain ⟨p, hp, rfl, HV⟩ := hrel
                obtain ⟨-, -, -, -, x2, -⟩ := five (hpBlk HV.out HX8.out (fun h => h))
                by_cases hlt3 : p < a.data.length
                · obtain ⟨g2, k2, hv2, y2⟩ := rowByte (ownsRow_upd HR2.out HV.out (fun _ _ h => h)) (j := p) (by rw [HLN.out]; exact hlt3)
                  rw [HLN.out] at hv2
                  simp at hv2
                  obtain ⟨rfl, rfl⟩ := hv2
                  rw [clrA_same HEN.out] at y2
                  obtain ⟨-, -, -, -, x1, -⟩ := five (hpBlk HV.out HX7.out (fun h => h))
                  obtain ⟨g1', k1', hv1, y1⟩ := rowByte (ownsRow_upd HR1.out HV.out (fun _ _ h => h)) (j := p) hlt3
                  simp at hv1
                  obtain ⟨rfl, rfl⟩ := hv1
                  generalize a.data.getD p 0 = yv at *
                  have hp0 : (0 : Int) ≤ (p : Int) := Int.natCast_nonneg _
                  have hp1 : (p : Int) < (a.data.length : Int) := by omega
                  go_wp2_with fail
                  go_quiet (fail)
                  go_wp2_with fail
                  go_roundw
                  case rel => exact ⟨p + 1, by omega, by go_num, Lib.hid (HV.out.trans (hpDrewN2 (fun _ => False) _ _) (fun _ h _ => h))⟩
                  case measure => simp [intOf]; omega
                · obtain rfl : p = a.data.length := by omega
                  have HR3 : Hid (goneN ((fS A).arrs.take (j + 1)) lf ow = n) := Lib.hid (by rw [HGT.out, HEN.out]; rfl)
                  have HQ3 := Lib.hid (HQ1.out.upd HV.out (fun _ _ h => h))
                  have HQ4 := Lib.hid (HQ2.out.upd HV.out (fun _ _ h => h))
                  have HU4 := Lib.hid (HUQ.out.trans HV.out (fun _ h _ => h))
                  go_wp2_with fail
                  go_roundw
                  case rel => exact ⟨j + 1, n, by omega, by go_num, rfl, by omega, HR3, HQ3, HQ4, HU4⟩
                  case measure => simp [intOf]; omega
          · obtain rfl : j = A.length + 2 := by omega
            have HNE : Hid (G = n) := Lib.hid (by rw [HG.out, ← HN.out, List.take_of_length_le (by rw [fS_len]; omega)])
            have HGE := Lib.hid (show Calls Try.prog 12 #[.pointer (some ⟨b, 0, none⟩), .int .i64 1, .int .i64 0] wr fun e w' => e = .returned (.tuple #[.int .u8 5, .bool true]) ∧ wr = w' from by
              have hz : ((fS A).clr lf ow).arrs.getD 0 default = ⟨-1, 3, 0, false, [5]⟩ := by
                rw [clr_get _ _ _ (by rw [fS_len]; omega)]
                show clrA lf ow ⟨-1, 3, 0, false, [5]⟩ = _
                simp [clrA, endsB]
              have h := pGet (i := 0) (j := 0) HH1.out (by simp [HpM.clr, fS]) (by simp [HpM.clr, fS]; omega) (by rw [hz]; decide)
              rw [hz] at h
              exact h)
            have hGn : G = n := HNE.out
            subst hGn
            go_wp2_with fail
            refine HCT.out.mono ?_
            rintro e w' ⟨rfl, rfl⟩
            go_wp2_with fail
            refine HGE.out.mono ?_
            rintro e w' ⟨rfl, rfl⟩
            go_wp2_with fail
            go_ret
            exact ⟨rfl, HU.out⟩
end Go.Proofs.Ytcbknlibmhaciaa

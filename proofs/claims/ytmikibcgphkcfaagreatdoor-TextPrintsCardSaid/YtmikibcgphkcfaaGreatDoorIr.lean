/- Which images are right: package image: a contract for each call. -/
import Derived.Test.YtmikibcgphkcfaaGreatDoorIa
import Derived.Test.YtmikibcgphkcfaaGreatDoorCd
import Derived.Lib.OthersKept
import Derived.LoopN
import Derived.WalkSmall
import Derived.Shelf.Abstract
import Derived.Outline
namespace Go.Proofs.YtmikibcgphkcfaaGreatDoor
open Go.RowKit Go.Lib
set_option linter.unusedVariables false

theorem beq_num (r k : Nat) (K : Int) (hK : K = k) : ((r : Int) == K) = decide (r = k) := by
  subst hK
  rw [Bool.eq_iff_iff]
  simp
  omega
theorem cIsNameRune (r : Nat) (w : World) (h : r ≤ 1114111) : Calls Tryz.prog 56 #[.int .i32 r] w fun e w' => e = .returned (.bool (nmRune r)) ∧ w' = w := by
  have HN := Lib.hid (show nmRune r = (decide (97 ≤ r ∧ r ≤ 122) || (decide (48 ≤ r ∧ r ≤ 57) || (decide (r = 45) || (decide (r = 46) || decide (224 ≤ r ∧ r ≤ 255))))) from rfl)
  have e45 := beq_num r 45 45 rfl
  have e46 := beq_num r 46 46 rfl
  go_enter Tryz.func56, Tryz.ntmps56
  go_wp2
  all_goals
    go_ret
    refine ⟨ret_bool ?_, rfl⟩
    first
      | rfl
      | (rw [HN.out, Bool.eq_iff_iff]; clear e45 e46; simp; omega)

theorem size_nil {s : ByteArray} (h : s.toList = []) : s.size = 0 := by rw [ByteArray.toList_eq] at h; simpa using congrArg List.length h
theorem nil_size {s : ByteArray} (h : s.size = 0) : s.toList = [] := by rw [ByteArray.toList_eq]; exact List.eq_nil_of_length_eq_zero (by simpa using h)
theorem upd_iter (w : World) (s : ByteArray) (p : Nat) : Upd (fun _ => False) w (w.iter s p) := Upd.alloc _ _ _
theorem upd_iterAt {w0 w : World} (k : Nat) (s : ByteArray) (p : Nat) (h : Upd (fun _ => False) w0 w) (hk : w0.heap.size ≤ k) : Upd (fun _ => False) w0 (w.iterAt k s p) :=
  ⟨h.os, h.tape, h.output, by rw [show (w.iterAt k s p).heap.size = w.heap.size from Lib.iterAt_size _ _ _ _]; exact h.size, fun i hi hS => (Lib.iterAt_other _ _ _ _ _ (by omega)).trans (h.block i hi hS)⟩
set_option maxHeartbeats 1000000 in
theorem cIsName (s : ByteArray) (w : World) (hs : s.size ≤ maxLen) : Calls Tryz.prog 31 #[.string s] w fun e w' => e = .returned (.bool (nmB s)) ∧ Upd (fun _ => False) w w' := by
  have HB := Lib.hid (show nmB s = (decide (1 ≤ s.size ∧ s.size ≤ 16) && nmR s.data.toList) from rfl)
  unfold maxLen at hs
  by_cases h0 : s.toList = []
  · have h1 : s.size = 0 := size_nil h0
    have HF := Lib.hid (show nmB s = false by rw [HB.out]; simp [h1])
    have he : s.toList.isEmpty = true := by simpa using h0
    clear h1
    go_enter Tryz.func31, Tryz.ntmps31
    go_wp2
    go_ret
    exact ⟨ret_bool HF.out.symm, Upd.refl _ _⟩
  · have he : s.toList.isEmpty = false := by simpa using h0
    have h1 : 1 ≤ s.size := by
      rcases Nat.eq_zero_or_pos s.size with h | h
      · exact absurd (nil_size h) h0
      · exact h
    by_cases h16 : 16 < s.size
    · have HF := Lib.hid (show nmB s = false by rw [HB.out]; simp; omega)
      go_enter Tryz.func31, Tryz.ntmps31
      go_wp2
      go_ret
      exact ⟨ret_bool HF.out.symm, Upd.refl _ _⟩
    · have HT := Lib.hid (show nmB s = nmFrom s 0 by rw [HB.out, nmFrom_zero]; simp; omega)
      have HI0 := Lib.hid (upd_iter w s 0)
      go_enter Tryz.func31, Tryz.ntmps31
      go_wp2_with fail
      go_loopw [4] (fun _ wr => ∃ pos : Nat, Hid (wr.heap[w.heap.size]? = some (.stringIter s pos)) ∧ Hid (Upd (fun _ => False) w wr) ∧ Hid (nmB s = nmFrom s pos)) (fun _ wr => 16 - wr.iterPos w.heap.size)
      case atStart => exact ⟨0, Lib.hid (World.iter_heap _ _ _), HI0, HT⟩
      case round =>
        obtain ⟨pos, HI, HU, HP⟩ := hrel
        by_cases hp : pos < s.size
        · have hnx := fun ty => Lib.run_next_any_at (P := Tryz.prog) wr w.heap.size s pos ty HI.out hp
          have HS := Lib.hid (nmFrom_step s pos hp)
          have hr := dec_rune s pos
          have hw := dec_width s pos
          generalize (Utf8.decode s pos).1 = r at *
          generalize (Utf8.decode s pos).2 = d at *
          have HU2 := Lib.hid (upd_iterAt w.heap.size s (pos + d) HU.out (Nat.le_refl _))
          have HI2 : Hid ((wr.iterAt w.heap.size s (pos + d)).heap[w.heap.size]? = some (.stringIter s (pos + d))) := Lib.iterAt_heap _ _ _ _ _ HI.out
          have HP1 := Lib.hid (iterPos_of HI.out)
          have HP2 := Lib.hid (iterPos_of HI2.out)
          generalize wr.iterAt w.heap.size s (pos + d) = w2 at *
          cases hq : nmRune r with
          | true =>
            have HS2 := Lib.hid (show nmFrom s pos = nmFrom s (pos + d) by rw [HS.out, hq]; rfl)
            have HQ := Lib.hid hq
            clear hq HS
            go_wp2_with (go_at_call 56; (with_reducible refine (cIsNameRune r _ hr).mono ?_); rw [HQ.out]; rintro e w' ⟨rfl, rfl⟩)
            go_roundw
            case rel => exact ⟨pos + d, HI2, HU2, Lib.hid (HP.out.trans HS2.out)⟩
            case measure => rw [HP1.out, HP2.out]; omega
          | false =>
            have HS2 := Lib.hid (show nmFrom s pos = false by rw [HS.out, hq]; rfl)
            have HQ := Lib.hid hq
            clear hq HS
            go_wp2_with (go_at_call 56; (with_reducible refine (cIsNameRune r _ hr).mono ?_); rw [HQ.out]; rintro e w' ⟨rfl, rfl⟩)
            go_ret
            exact ⟨ret_bool (HP.out.trans HS2.out).symm, HU2.out⟩
        · have hnx := fun ty => Lib.run_next_end_at (P := Tryz.prog) wr w.heap.size s pos ty HI.out hp
          have HE := Lib.hid (nmFrom_end s pos (by omega))
          go_wp2_with fail
          go_ret
          exact ⟨ret_bool (HP.out.trans HE.out).symm, HU.out⟩

theorem upd_below {w w' : World} (h : Upd (fun _ => False) w w') : Below w.heap.size w w' := h.below (Nat.le_refl _) (fun _ h => h.elim)
/-- a function value that answers b of v, in each later world -/
def PredIs (g : FuncId) (lb : Array Value) (W : World) (v : Value) (b : Bool) : Prop :=
  ∀ w, Below W.heap.size W w → Calls Tryz.prog g (#[v] ++ lb) w (fun e w' => e = .returned (.bool b) ∧ Upd (fun _ => False) w w')

theorem all_take {α : Type} [Inhabited α] {L : List α} {p : α → Bool} {k : Nat} (hk : k < L.length) (h : (L.take k).all p = true) (hq : p (L.getD k default) = true) : (L.take (k + 1)).all p = true := by
  rw [List.take_succ_eq_append_getElem hk, List.all_append, h]
  simpa [List.getD, hk] using hq
theorem all_false {α : Type} [Inhabited α] {L : List α} {p : α → Bool} {k : Nat} (hk : k < L.length) (hq : p (L.getD k default) = false) : L.all p = false := by
  cases h : L.all p with
  | false => rfl
  | true =>
    have := List.all_eq_true.1 h _ (mem_getD hk)
    rw [hq] at this
    exact this.symm
theorem all_full {α : Type} {L : List α} {p : α → Bool} {k : Nat} (hk : L.length ≤ k) (h : (L.take k).all p = true) : L.all p = true := by
  rwa [List.take_of_length_le hk] at h
instance : Inhabited Int := ⟨0⟩

set_option maxHeartbeats 1000000 in
set_option maxRecDepth 100000 in
theorem cAllInt (w : World) (v : Value) (L : List Int) (most : Int) (g : FuncId) (lb : Array Value) (p : Int → Bool) (eg : ∀ (args : Array Value) (u : World), (callFunc g args).run Tryz.prog u = .ok (.enter g args) u) (h : Ints w v L) (hp : ∀ n ∈ L, PredIs g lb w (.int .i64 n) (p n)) :
    Calls Tryz.prog 32 #[v, .int .i64 most, .func (.func g) #[] lb] w fun e w' => e = .returned (.bool (decide ((L.length : Int) ≤ most) && L.all p)) ∧ Upd (fun _ => False) w w' := by
  have HL := Lib.hid h
  have HP := Lib.hid hp
  obtain ⟨a, c, rfl, h1, h2⟩ := h.slice
  clear h hp
  unfold maxLen at h2
  by_cases hm : (L.length : Int) ≤ most
  · have HD := Lib.hid (show (decide ((L.length : Int) ≤ most) && L.all p) = L.all p by simp [hm])
    have H0 := Lib.hid (Upd.refl (fun _ => False) w)
    have HT0 : Hid ((L.take 0).all p = true) := Lib.hid rfl
    go_enter Tryz.func32, Tryz.ntmps32
    go_wp2_with fail
    go_loopw [15, 8] (fun i _ wr => ∃ k : Nat, k ≤ L.length ∧ i = .int .i64 k ∧ Hid (Upd (fun _ => False) w wr) ∧ Hid ((L.take k).all p = true)) (fun i _ _ => L.length - (intOf i).toNat)
    case atStart => exact ⟨0, Nat.zero_le _, rfl, H0, HT0⟩
    case round =>
      obtain ⟨k, hk, rfl, HU, HT⟩ := hrel
      by_cases hlt : k < L.length
      · obtain ⟨gb, off, rfl, hc, -⟩ := (HL.out.later (upd_below HU.out)).at hlt
        obtain ⟨n, hn⟩ : ∃ n, n = L.getD k 0 := ⟨_, rfl⟩
        have HC := Lib.hid (HP.out _ (mem_getD0 hlt) wr (upd_below HU.out))
        rw [← hn] at hc HC
        have HN := Lib.hid hn
        clear hn
        cases hq : p n with
        | true =>
          have HQ := Lib.hid hq
          clear hq
          go_wp2_with (go_at_fn g; (with_reducible refine HC.out.mono ?_); rw [HQ.out]; rintro e w2 ⟨rfl, hu⟩)
          have HU2 := Lib.hid (HU.out.trans hu (fun _ h _ => h))
          have HT2 : Hid ((L.take (k + 1)).all p = true) := Lib.hid (all_take hlt HT.out (by show p (L.getD k 0) = true; rw [← HN.out]; exact HQ.out))
          clear hu hc
          go_wp2_with fail
          go_roundw
          case rel => exact ⟨k + 1, by omega, by go_num, HU2, HT2⟩
          case measure => simp [intOf]; omega
        | false =>
          have HQ := Lib.hid hq
          clear hq
          go_wp2_with (go_at_fn g; (with_reducible refine HC.out.mono ?_); rw [HQ.out]; rintro e w2 ⟨rfl, hu⟩)
          have HU2 := Lib.hid (HU.out.trans hu (fun _ h _ => h))
          have HF := Lib.hid (show L.all p = false from all_false hlt (by show p (L.getD k 0) = false; rw [← HN.out]; exact HQ.out))
          clear hu hc
          go_wp2_with fail
          go_ret
          exact ⟨ret_bool (HD.out.trans HF.out).symm, HU2.out⟩
      · go_wp2_with fail
        go_ret
        exact ⟨ret_bool (HD.out.trans (all_full (by omega) HT.out)).symm, HU.out⟩
  · have HD := Lib.hid (show (decide ((L.length : Int) ≤ most) && L.all p) = false by simp [hm])
    go_enter Tryz.func32, Tryz.ntmps32
    go_wp2_with fail
    go_ret
    exact ⟨ret_bool HD.out.symm, Upd.refl _ _⟩
/-- an instruction, by value -/
def InsV (w : World) (v : Value) (x : InsM) : Prop := v = ins x.op x.a x.b ∧ wi64 x.op ∧ wi64 x.a ∧ wi64 x.b

set_option maxRecDepth 100000 in
set_option maxHeartbeats 1000000 in
theorem cAllIns (w : World) (v : Value) (L : List InsM) (most : Int) (g : FuncId) (lb : Array Value) (p : InsM → Bool) (eg : ∀ (args : Array Value) (u : World), (callFunc g args).run Tryz.prog u = .ok (.enter g args) u) (h : Inss w v L) (hp : ∀ n ∈ L, ∀ x W, Below w.heap.size w W → InsV W x n → PredIs g lb W x (p n)) :
    Calls Tryz.prog 58 #[v, .int .i64 most, .func (.func g) #[] lb] w fun e w' => e = .returned (.bool (decide ((L.length : Int) ≤ most) && L.all p)) ∧ Upd (fun _ => False) w w' := by
  have HL := Lib.hid h
  have HP := Lib.hid hp
  obtain ⟨a, c, rfl, h1, h2⟩ := h.slice
  clear h hp
  unfold maxLen at h2
  by_cases hm : (L.length : Int) ≤ most
  · have HD := Lib.hid (show (decide ((L.length : Int) ≤ most) && L.all p) = L.all p by simp [hm])
    have H0 := Lib.hid (Upd.refl (fun _ => False) w)
    have HT0 : Hid ((L.take 0).all p = true) := Lib.hid rfl
    go_enter Tryz.func58, Tryz.ntmps58
    go_wp2_with fail
    go_loopw [15, 8] (fun i _ wr => ∃ k : Nat, k ≤ L.length ∧ i = .int .i64 k ∧ Hid (Upd (fun _ => False) w wr) ∧ Hid ((L.take k).all p = true)) (fun i _ _ => L.length - (intOf i).toNat)
    case atStart => exact ⟨0, Nat.zero_le _, rfl, H0, HT0⟩
    case round =>
      obtain ⟨k, hk, rfl, HU, HT⟩ := hrel
      by_cases hlt : k < L.length
      · obtain ⟨gb, off, rfl, hc0, hc1, hc2, HX⟩ := (HL.out.later (upd_below HU.out)).at hlt
        obtain ⟨n, hn⟩ : ∃ n, n = L.getD k default := ⟨_, rfl⟩
        rw [← hn] at hc0 hc1 hc2 HX
        have HX1 : Hid (InsV wr (ins n.op n.a n.b) n) := Lib.hid ⟨rfl, HX⟩
        have HN := Lib.hid hn
        have HC := Lib.hid (HP.out n (by rw [hn]; exact mem_getD hlt) _ _ (upd_below HU.out) HX1.out _ (upd_below (Upd.alloc (fun _ => False) wr (.cells #[.int .i64 n.op, .int .i64 n.a, .int .i64 n.b] 41))))
        have HU1 := Lib.hid (HU.out.trans (Upd.alloc (fun _ => False) wr (.cells #[.int .i64 n.op, .int .i64 n.a, .int .i64 n.b] 41)) (fun _ h _ => h))
        clear hn HX
        cases hq : p n with
        | true =>
          have HQ := Lib.hid hq
          clear hq
          go_wp2_with (go_at_fn g; (with_reducible refine HC.out.mono ?_); rw [HQ.out]; rintro e w2 ⟨rfl, hu⟩)
          have HU2 := Lib.hid (HU1.out.trans hu (fun _ h _ => h))
          have HT2 : Hid ((L.take (k + 1)).all p = true) := Lib.hid (all_take hlt HT.out (by rw [← HN.out]; exact HQ.out))
          clear hu hc0 hc1 hc2 
          go_wp2_with fail
          go_roundw
          case rel => exact ⟨k + 1, by omega, by go_num, HU2, HT2⟩
          case measure => simp [intOf]; omega
        | false =>
          have HQ := Lib.hid hq
          clear hq
          go_wp2_with (go_at_fn g; (with_reducible refine HC.out.mono ?_); rw [HQ.out]; rintro e w2 ⟨rfl, hu⟩)
          have HU2 := Lib.hid (HU1.out.trans hu (fun _ h _ => h))
          have HF := Lib.hid (show L.all p = false from all_false hlt (by rw [← HN.out]; exact HQ.out))
          clear hu hc0 hc1 hc2 
          go_wp2_with fail
          go_ret
          exact ⟨ret_bool (HD.out.trans HF.out).symm, HU2.out⟩
      · go_wp2_with fail
        go_ret
        exact ⟨ret_bool (HD.out.trans (all_full (by omega) HT.out)).symm, HU.out⟩
  · have HD := Lib.hid (show (decide ((L.length : Int) ≤ most) && L.all p) = false by simp [hm])
    go_enter Tryz.func58, Tryz.ntmps58
    go_wp2_with fail
    go_ret
    exact ⟨ret_bool HD.out.symm, Upd.refl _ _⟩

set_option maxRecDepth 100000 in
set_option maxHeartbeats 1000000 in
theorem cAllImp (w : World) (v : Value) (L : List ImpM) (most : Int) (g : FuncId) (lb : Array Value) (p : ImpM → Bool) (eg : ∀ (args : Array Value) (u : World), (callFunc g args).run Tryz.prog u = .ok (.enter g args) u) (h : Imps w v L) (hp : ∀ n ∈ L, ∀ x W, Below w.heap.size w W → Imp W x n → PredIs g lb W x (p n)) :
    Calls Tryz.prog 34 #[v, .int .i64 most, .func (.func g) #[] lb] w fun e w' => e = .returned (.bool (decide ((L.length : Int) ≤ most) && L.all p)) ∧ Upd (fun _ => False) w w' := by
  have HL := Lib.hid h
  have HP := Lib.hid hp
  obtain ⟨a, c, rfl, h1, h2⟩ := h.slice
  clear h hp
  unfold maxLen at h2
  by_cases hm : (L.length : Int) ≤ most
  · have HD := Lib.hid (show (decide ((L.length : Int) ≤ most) && L.all p) = L.all p by simp [hm])
    have H0 := Lib.hid (Upd.refl (fun _ => False) w)
    have HT0 : Hid ((L.take 0).all p = true) := Lib.hid rfl
    go_enter Tryz.func34, Tryz.ntmps34
    go_wp2_with fail
    go_loopw [15, 8] (fun i _ wr => ∃ k : Nat, k ≤ L.length ∧ i = .int .i64 k ∧ Hid (Upd (fun _ => False) w wr) ∧ Hid ((L.take k).all p = true)) (fun i _ _ => L.length - (intOf i).toNat)
    case atStart => exact ⟨0, Nat.zero_le _, rfl, H0, HT0⟩
    case round =>
      obtain ⟨k, hk, rfl, HU, HT⟩ := hrel
      by_cases hlt : k < L.length
      · obtain ⟨gb, off, pv, rfl, hc0, hc1, hc2, hc3, HX⟩ := (HL.out.later (upd_below HU.out)).at hlt
        obtain ⟨n, hn⟩ : ∃ n, n = L.getD k default := ⟨_, rfl⟩
        try rw [← hn] at hc0
        try rw [← hn] at hc1
        try rw [← hn] at hc2
        try rw [← hn] at hc3
        rw [← hn] at HX
        obtain ⟨pa, pc, rfl, -, -⟩ := HX.1.slice
        have HX1 : Hid (Imp wr (imp4 n.name n.exp (.slice pa n.params.length pc) n.res) n) := Lib.hid ⟨_, rfl, HX⟩
        have HN := Lib.hid hn
        have HC := Lib.hid (HP.out n (by rw [hn]; exact mem_getD hlt) _ _ (upd_below HU.out) HX1.out _ (upd_below (Upd.alloc (fun _ => False) wr (.cells #[.string n.name, .int .i64 n.exp, .slice pa n.params.length pc, .int .i64 n.res] 43))))
        have HU1 := Lib.hid (HU.out.trans (Upd.alloc (fun _ => False) wr (.cells #[.string n.name, .int .i64 n.exp, .slice pa n.params.length pc, .int .i64 n.res] 43)) (fun _ h _ => h))
        clear hn HX
        cases hq : p n with
        | true =>
          have HQ := Lib.hid hq
          clear hq
          go_wp2_with (go_at_fn g; (with_reducible refine HC.out.mono ?_); rw [HQ.out]; rintro e w2 ⟨rfl, hu⟩)
          have HU2 := Lib.hid (HU1.out.trans hu (fun _ h _ => h))
          have HT2 : Hid ((L.take (k + 1)).all p = true) := Lib.hid (all_take hlt HT.out (by rw [← HN.out]; exact HQ.out))
          clear hu hc0 hc1 hc2 hc3 
          go_wp2_with fail
          go_roundw
          case rel => exact ⟨k + 1, by omega, by go_num, HU2, HT2⟩
          case measure => simp [intOf]; omega
        | false =>
          have HQ := Lib.hid hq
          clear hq
          go_wp2_with (go_at_fn g; (with_reducible refine HC.out.mono ?_); rw [HQ.out]; rintro e w2 ⟨rfl, hu⟩)
          have HU2 := Lib.hid (HU1.out.trans hu (fun _ h _ => h))
          have HF := Lib.hid (show L.all p = false from all_false hlt (by rw [← HN.out]; exact HQ.out))
          clear hu hc0 hc1 hc2 hc3 
          go_wp2_with fail
          go_ret
          exact ⟨ret_bool (HD.out.trans HF.out).symm, HU2.out⟩
      · go_wp2_with fail
        go_ret
        exact ⟨ret_bool (HD.out.trans (all_full (by omega) HT.out)).symm, HU.out⟩
  · have HD := Lib.hid (show (decide ((L.length : Int) ≤ most) && L.all p) = false by simp [hm])
    go_enter Tryz.func34, Tryz.ntmps34
    go_wp2_with fail
    go_ret
    exact ⟨ret_bool HD.out.symm, Upd.refl _ _⟩

set_option maxRecDepth 100000 in
set_option maxHeartbeats 1000000 in
theorem cAllMet (w : World) (v : Value) (L : List MetM) (most : Int) (g : FuncId) (lb : Array Value) (p : MetM → Bool) (eg : ∀ (args : Array Value) (u : World), (callFunc g args).run Tryz.prog u = .ok (.enter g args) u) (h : Mets w v L) (hp : ∀ n ∈ L, ∀ x W, Below w.heap.size w W → Met W x n → PredIs g lb W x (p n)) :
    Calls Tryz.prog 36 #[v, .int .i64 most, .func (.func g) #[] lb] w fun e w' => e = .returned (.bool (decide ((L.length : Int) ≤ most) && L.all p)) ∧ Upd (fun _ => False) w w' := by
  have HL := Lib.hid h
  have HP := Lib.hid hp
  obtain ⟨a, c, rfl, h1, h2⟩ := h.slice
  clear h hp
  unfold maxLen at h2
  by_cases hm : (L.length : Int) ≤ most
  · have HD := Lib.hid (show (decide ((L.length : Int) ≤ most) && L.all p) = L.all p by simp [hm])
    have H0 := Lib.hid (Upd.refl (fun _ => False) w)
    have HT0 : Hid ((L.take 0).all p = true) := Lib.hid rfl
    go_enter Tryz.func36, Tryz.ntmps36
    go_wp2_with fail
    go_loopw [15, 8] (fun i _ wr => ∃ k : Nat, k ≤ L.length ∧ i = .int .i64 k ∧ Hid (Upd (fun _ => False) w wr) ∧ Hid ((L.take k).all p = true)) (fun i _ _ => L.length - (intOf i).toNat)
    case atStart => exact ⟨0, Nat.zero_le _, rfl, H0, HT0⟩
    case round =>
      obtain ⟨k, hk, rfl, HU, HT⟩ := hrel
      by_cases hlt : k < L.length
      · obtain ⟨gb, off, pv, qv, rv, rfl, hc0, hc1, hc2, hc3, HX⟩ := (HL.out.later (upd_below HU.out)).at hlt
        obtain ⟨n, hn⟩ : ∃ n, n = L.getD k default := ⟨_, rfl⟩
        try rw [← hn] at hc0
        try rw [← hn] at hc1
        try rw [← hn] at hc2
        try rw [← hn] at hc3
        rw [← hn] at HX
        obtain ⟨pa, pc, rfl, -, -⟩ := HX.1.slice
        obtain ⟨qa, qc, rfl, -, -⟩ := HX.2.1.slice
        obtain ⟨ra, rc, rfl, -, -⟩ := HX.2.2.1.slice
        have HX1 : Hid (Met wr (met4 (.slice pa n.params.length pc) n.res (.slice qa n.locals.length qc) (.slice ra n.code.length rc)) n) := Lib.hid ⟨_, _, _, rfl, HX⟩
        have HN := Lib.hid hn
        have HC := Lib.hid (HP.out n (by rw [hn]; exact mem_getD hlt) _ _ (upd_below HU.out) HX1.out _ (upd_below (Upd.alloc (fun _ => False) wr (.cells #[.slice pa n.params.length pc, .int .i64 n.res, .slice qa n.locals.length qc, .slice ra n.code.length rc] 39))))
        have HU1 := Lib.hid (HU.out.trans (Upd.alloc (fun _ => False) wr (.cells #[.slice pa n.params.length pc, .int .i64 n.res, .slice qa n.locals.length qc, .slice ra n.code.length rc] 39)) (fun _ h _ => h))
        clear hn HX
        cases hq : p n with
        | true =>
          have HQ := Lib.hid hq
          clear hq
          go_wp2_with (go_at_fn g; (with_reducible refine HC.out.mono ?_); rw [HQ.out]; rintro e w2 ⟨rfl, hu⟩)
          have HU2 := Lib.hid (HU1.out.trans hu (fun _ h _ => h))
          have HT2 : Hid ((L.take (k + 1)).all p = true) := Lib.hid (all_take hlt HT.out (by rw [← HN.out]; exact HQ.out))
          clear hu hc0 hc1 hc2 hc3 
          go_wp2_with fail
          go_roundw
          case rel => exact ⟨k + 1, by omega, by go_num, HU2, HT2⟩
          case measure => simp [intOf]; omega
        | false =>
          have HQ := Lib.hid hq
          clear hq
          go_wp2_with (go_at_fn g; (with_reducible refine HC.out.mono ?_); rw [HQ.out]; rintro e w2 ⟨rfl, hu⟩)
          have HU2 := Lib.hid (HU1.out.trans hu (fun _ h _ => h))
          have HF := Lib.hid (show L.all p = false from all_false hlt (by rw [← HN.out]; exact HQ.out))
          clear hu hc0 hc1 hc2 hc3 
          go_wp2_with fail
          go_ret
          exact ⟨ret_bool (HD.out.trans HF.out).symm, HU2.out⟩
      · go_wp2_with fail
        go_ret
        exact ⟨ret_bool (HD.out.trans (all_full (by omega) HT.out)).symm, HU.out⟩
  · have HD := Lib.hid (show (decide ((L.length : Int) ≤ most) && L.all p) = false by simp [hm])
    go_enter Tryz.func36, Tryz.ntmps36
    go_wp2_with fail
    go_ret
    exact ⟨ret_bool HD.out.symm, Upd.refl _ _⟩
end Go.Proofs.YtmikibcgphkcfaaGreatDoor

/- The law's own calls: halves, word, known; two instructions held against one another. -/
import Derived.Test.YtkdmppgjmmmclaaZj
import Derived.Test.YtkdmppgjmmmclaaZv
import Derived.Laws.StructEq
import Derived.LoopTactic
namespace Go.Proofs.Ytkdmppgjmmmclaa
open Go.RowKit
set_option linter.unusedVariables false
set_option linter.unusedSimpArgs false

theorem getD_ext {xs ys : List Nat} (hl : xs.length = ys.length) (h : ∀ j < xs.length, xs.getD j 0 = ys.getD j 0) : xs = ys := by
  apply List.ext_getElem hl
  intro j h1 h2
  have := h j h1
  simpa [List.getD, h1, h2] using this
set_option maxHeartbeats 1000000 in
theorem lHalves (v u : Value) (xs ys : List Nat) (w : World) (hx : VwH w v xs) (hy : VwH w u ys) : Calls Try.prog 17 #[v, u] w fun e w' => e = .returned (.bool (decide (xs = ys))) ∧ ∃ q, w' = w.drewN q := by
  obtain ⟨a, c, rfl, ha1, ha2⟩ := hx.slice
  obtain ⟨b, d, rfl, hb1, hb2⟩ := hy.slice
  unfold maxLen at ha2 hb2
  by_cases hl : xs.length = ys.length
  · by_cases h0 : xs.length = 0
    · have hx0 : xs = [] := List.length_eq_zero_iff.1 h0
      have hy0 : ys = [] := List.length_eq_zero_iff.1 (by omega)
      subst hx0 hy0
      clear hx hy hl h0
      go_enter Try.func17, Try.ntmps17
      go_wp2
      go_loop [5] (fun i => i = .int .i64 0) (fun i => 0)
      case atStart => rfl
      case round =>
        subst hrel
        go_wp2
        go_ret
        exact ⟨by simp, 0, rfl⟩
    · obtain ⟨g, off, hg, hgc⟩ : ∃ g off, a = some ⟨g, off, none⟩ ∧ ∀ j, j < xs.length → w.cell? ⟨g, off + j, none⟩ = some (.int .u16 ((xs.getD j 0 : Nat) : Int)) := by
        rcases hx.2 with ⟨_, h⟩ | ⟨g, off, c', he, _, _, h3⟩
        · rw [h] at h0; simp at h0
        · simp at he; exact ⟨g, off, he.1, h3⟩
      obtain ⟨g', off', hg', hgc'⟩ : ∃ g off, b = some ⟨g, off, none⟩ ∧ ∀ j, j < ys.length → w.cell? ⟨g, off + j, none⟩ = some (.int .u16 ((ys.getD j 0 : Nat) : Int)) := by
        rcases hy.2 with ⟨_, h⟩ | ⟨g, off, c', he, _, _, h3⟩
        · rw [h] at hl; simp at hl; rw [hl] at h0; simp at h0
        · simp at he; exact ⟨g, off, he.1, h3⟩
      subst hg hg'
      rw [← hl] at hgc' hb1 ⊢
      have HC := Lib.hid hgc
      have HD := Lib.hid hgc'
      have HE := Lib.hid (getD_ext hl)
      have HL := Lib.hid hl
      clear hx hy hgc hgc' hl
      generalize hn : xs.length = n at *
      have HN := Lib.hid hn
      clear hn
      go_enter Try.func17, Try.ntmps17
      go_wp2
      go_loopw [5] (fun i wr => ∃ k : Nat, k ≤ n ∧ i = .int .i64 (k : Int) ∧ Hid (∃ q, wr = w.drewN q) ∧ Hid (∀ j < k, xs.getD j 0 = ys.getD j 0)) (fun i _ => n - (intOf i).toNat)
      case atStart => exact ⟨0, by omega, rfl, Lib.hid ⟨0, rfl⟩, Lib.hid (fun j hj => by omega)⟩
      case round =>
        obtain ⟨k, hk, rfl, HQ, HF⟩ := hrel
        obtain ⟨q, hq⟩ := HQ.out
        subst hq
        clear HQ
        by_cases hkn : k < n
        · have c1 := HC.out k hkn
          have c2 := HD.out k hkn
          have hk1 : (k : Int) < (n : Int) := by omega
          have hk2 : (0 : Int) ≤ (k : Int) := by omega
          obtain ⟨x, hx⟩ : ∃ x, xs.getD k 0 = x := ⟨_, rfl⟩
          obtain ⟨y, hy⟩ : ∃ y, ys.getD k 0 = y := ⟨_, rfl⟩
          rw [hx] at c1
          rw [hy] at c2
          have HX := Lib.hid hx
          have HY := Lib.hid hy
          clear hx hy
          by_cases hxy : x = y
          · subst hxy
            have hb : ((x : Int) != (x : Int)) = false := by simp
            have HF2 : Hid (∀ j < k + 1, xs.getD j 0 = ys.getD j 0) := Lib.hid (fun j hj => by
              rcases Nat.lt_or_ge j k with h1 | h1
              · exact HF.out j h1
              · have : j = k := by omega
                subst this; rw [HX.out, HY.out])
            go_wp2_with fail
            go_quiet (fail)
            go_wp2
            go_roundw
            case rel => exact ⟨k + 1, by omega, by go_num, Lib.hid (by first | exact ⟨_, World.drewN_drewN _ _ _⟩ | exact ⟨_, rfl⟩), HF2⟩
            case measure => simp [intOf]; omega
          · have hb : ((x : Int) != (y : Int)) = true := by simp; omega
            have HNe : Hid (decide (xs = ys) = false) := Lib.hid (by
              simp
              intro h; apply hxy; rw [← HX.out, ← HY.out, h])
            clear hxy
            go_wp2_with fail
            go_quiet (fail)
            go_wp2
            rw [HNe.out]
            go_ret
            exact ⟨rfl, by first | exact ⟨_, World.drewN_drewN _ _ _⟩ | exact ⟨_, rfl⟩⟩
        · have HEq : Hid (decide (xs = ys) = true) := Lib.hid (by
            rw [decide_eq_true_eq]
            exact HE.out (fun j hj => HF.out j (by have := HN.out; omega)))
          go_wp2
          rw [HEq.out]
          go_ret
          exact ⟨rfl, q, rfl⟩
  · have hb : ((xs.length : Int) != (ys.length : Int)) = true := by simp; omega
    have HNe : Hid (decide (xs = ys) = false) := Lib.hid (by
      simp
      intro h; apply hl; rw [h])
    clear hl hx hy
    go_enter Try.func17, Try.ntmps17
    go_wp2
    go_ret
    exact ⟨by rw [HNe.out]; rfl, 0, rfl⟩

theorem ins_under : Try.prog.underlying 23 = some (.struct (Try.prog.fieldsOf 23)) := by kernel_rfl
theorem ins_held : Try.prog.stoodInHeld 23 = false := by kernel_rfl
theorem run_ins_eq (w : World) (s t : I6) : (Op.equalIn 10000 23 s.val t.val).run Try.prog w = .ok (decide (s = t)) w := by
  unfold I6.val
  rw [Go.run_equalIn_agg w 9999 _ _ _ ins_under ins_held]
  obtain ⟨a, b, c, d, e, f⟩ := s
  obtain ⟨a', b', c', d', e', f'⟩ := t
  simp [Program.fieldsOf, Try.underlying23, Op.eqFields, go_sem, Try.underlying3]
  by_cases h0 : a = a' <;> by_cases h1 : b = b' <;> by_cases h2 : c = c' <;> by_cases h3 : d = d' <;> by_cases h4 : e = e' <;> by_cases h5 : f = f' <;> simp [h0, h1, h2, h3, h4, h5]
theorem insEql (w : World) (a b c d e f a' b' c' d' e' f' : Int) : (binOp .eql 23 (.agg #[.int .i64 a, .int .i64 b, .int .i64 c, .int .i64 d, .int .i64 e, .int .i64 f]) (.agg #[.int .i64 a', .int .i64 b', .int .i64 c', .int .i64 d', .int .i64 e', .int .i64 f'])).run Try.prog w = .ok (.bool (decide ((⟨a, b, c, d, e, f⟩ : I6) = ⟨a', b', c', d', e', f'⟩))) w := by
  rw [run_eql_struct]
  have := run_ins_eq w ⟨a, b, c, d, e, f⟩ ⟨a', b', c', d', e', f'⟩
  unfold I6.val at this
  rw [this]
  rfl
theorem insNeq (w : World) (a b c d e f a' b' c' d' e' f' : Int) : (binOp .neq 23 (.agg #[.int .i64 a, .int .i64 b, .int .i64 c, .int .i64 d, .int .i64 e, .int .i64 f]) (.agg #[.int .i64 a', .int .i64 b', .int .i64 c', .int .i64 d', .int .i64 e', .int .i64 f'])).run Try.prog w = .ok (.bool (!decide ((⟨a, b, c, d, e, f⟩ : I6) = ⟨a', b', c', d', e', f'⟩))) w := by
  rw [run_neq_struct]
  have := run_ins_eq w ⟨a, b, c, d, e, f⟩ ⟨a', b', c', d', e', f'⟩
  unfold I6.val at this
  rw [this]
  rfl

/-- a halfword alone; -1: it is none -/
def wordP (i : I6) : Int := if rightP i then (match encP i with
  | [h] => (h : Int)
  | _ => -1) else -1
theorem enc_len {i : I6} (hr : rightP i = true) : (encP i).length = 1 ∨ (encP i).length = 2 := by
  have := (enc_dec hr []).2.1
  split at this <;> omega
set_option maxHeartbeats 1000000 in
theorem lWord (i : I6) (hi : i.Ok) (w : World) : Calls Try.prog 13 #[i.val] w fun e w' => e = .returned (.int .i64 (wordP i)) ∧ New w w' := by
  have HI := Lib.hid hi
  clear hi
  go_enter Try.func13, Try.ntmps13
  go_wp2_with fail
  refine (tEncode i HI.out _).mono ?_
  rintro e w1 ⟨(⟨hr, rfl⟩ | ⟨hr, v, rfl, hv⟩), hw⟩
  · have HW := Lib.hid (New.trans (New.alloc _ _) hw)
    have HE : Hid (wordP i = -1) := Lib.hid (by unfold wordP; rw [hr]; rfl)
    clear hw hr
    go_wp2
    go_ret
    exact ⟨by rw [HE.out]; rfl, HW.out⟩
  · have HW := Lib.hid (New.trans (New.alloc _ _) hw)
    have hel := enc_len hr
    have hu : wordP i = (match encP i with
      | [h] => (h : Int)
      | _ => -1) := by unfold wordP; rw [if_pos hr]
    clear hw
    cases he : encP i with
    | nil => rw [he] at hel; simp at hel
    | cons h t =>
      rw [he] at hv hu hel
      obtain ⟨hlt, hv⟩ := hv
      rcases hv with ⟨_, h0⟩ | ⟨g, off, c, rfl, hc1, hc2, hc⟩
      · cases h0
      · have c0 : w1.cell? ⟨g, off, none⟩ = some (.int .u16 (h : Int)) := hc 0 (by simp)
        have hh := hlt h (by simp)
        cases t with
        | nil =>
          have HE : Hid (wordP i = (h : Int)) := Lib.hid hu
          simp only [List.length_cons, List.length_nil, Nat.zero_add]
          clear hc hu hel hlt he hr
          go_wp2
          go_ret
          exact ⟨by rw [HE.out]; rfl, HW.out⟩
        | cons h2 t =>
          have HE : Hid (wordP i = -1) := Lib.hid hu
          obtain ⟨n, hn⟩ : ∃ n, (h :: h2 :: t).length = n := ⟨_, rfl⟩
          rw [hn]
          have hn1 : ((n : Int) != 1) = true := by simp at hn ⊢; omega
          clear hc hu hel hlt he hr hn hc1
          go_wp2
          go_ret
          exact ⟨by rw [HE.out]; rfl, HW.out⟩
theorem word_1 : wordP ⟨8, 1, 0, 0, 5, 0⟩ = 8453 := by decide +kernel
theorem word_2 : wordP ⟨44, 0, 0, 0, 3, 0⟩ = 57091 := by decide +kernel
theorem word_3 : wordP ⟨42, 0, 0, 0, -4, 0⟩ = 59390 := by decide +kernel
theorem okZ (a b c d e f : Int) (h : (decide (-1000 ≤ a) && decide (a ≤ 1000) && decide (-1000 ≤ b) && decide (b ≤ 1000) && decide (-1000 ≤ c) && decide (c ≤ 1000) && decide (-1000 ≤ d) && decide (d ≤ 1000) && decide (-1000 ≤ e) && decide (e ≤ 1000) && decide (-1000 ≤ f) && decide (f ≤ 1000)) = true) : (⟨a, b, c, d, e, f⟩ : I6).Ok := by
  simp only [Bool.and_eq_true, decide_eq_true_eq] at h
  refine ⟨?_, ?_, ?_, ?_, ?_, ?_⟩ <;> (unfold i64R; simp only; omega)
theorem lWordL (a b c d e f n : Int) (h : (⟨a, b, c, d, e, f⟩ : I6).Ok) (hn : wordP ⟨a, b, c, d, e, f⟩ = n) (w : World) : Calls Try.prog 13 #[.agg #[.int .i64 a, .int .i64 b, .int .i64 c, .int .i64 d, .int .i64 e, .int .i64 f]] w fun e w' => e = .returned (.int .i64 n) ∧ New w w' := by
  rw [← hn]; exact lWord _ h w
set_option maxHeartbeats 1000000 in
theorem known14 (w : World) : Calls Try.prog 11 #[] w fun e w' => e = .returned (.bool true) ∧ New w w' := by
  go_enter Try.func11, Try.ntmps11
  go_wp2_with (first
    | (with_reducible refine (lWordL 8 1 0 0 5 0 _ (okZ _ _ _ _ _ _ (by decide)) word_1 _).mono ?_; rintro e w1 ⟨rfl, h1⟩)
    | (with_reducible refine (lWordL 44 0 0 0 3 0 _ (okZ _ _ _ _ _ _ (by decide)) word_2 _).mono ?_; rintro e w2 ⟨rfl, h2⟩)
    | (with_reducible refine (lWordL 42 0 0 0 (-4) 0 _ (okZ _ _ _ _ _ _ (by decide)) word_3 _).mono ?_; rintro e w3 ⟨rfl, h3⟩))
  go_ret
  exact ⟨rfl, New.trans (New.trans h1 h2) h3⟩
end Go.Proofs.Ytkdmppgjmmmclaa

/- Package verify's law VerifyLeaks: walked. -/
import Derived.Test.YtebgmpggedeplaaVr
namespace Go.Proofs.Ytebgmpggedeplaa
open Go.RowKit Go.Lib Go.ChangeShapes Go.WideShapes
set_option linter.unusedVariables false
set_option linter.unusedSimpArgs false

theorem up_alloc (w : World) (o : Obj) : Upd (fun _ => False) w (w.alloc o) := Upd.alloc _ _ _
theorem img2 {w W : World} {b : Option Addr} {c n : Nat} {C : List InsM} (hC : Inss w (.slice b n c) C) {g0 g1 g2 g3 g4 : Nat}
    (hW : W = ((((((w.alloc (.cells #[.int .i64 2, .int .i64 1] 3)).alloc (.cells #[.int .i64 1, .int .i64 2] 3)).alloc (.cells #[.int .i64 2] 3)).alloc (.cells #[.int .i64 2, .int .i64 0, .int .i64 0, .int .i64 39, .int .i64 0, .int .i64 0] 34)).alloc (.cells #[.slice none 0 0, .int .i64 0, .slice (some ⟨g1, 0, none⟩) 2 2, .slice b n c, .slice (some ⟨g2, 0, none⟩) 1 1, .int .i64 2, .slice none 0 0, .slice (some ⟨g3, 0, none⟩) 2 2] 43)).alloc (.cells #[.string aName, .slice (some ⟨g0, 0, none⟩) 2 2, .slice none 0 0, .slice (some ⟨g4, 0, none⟩) 2 2, .slice none 0 0] 31)))
    (h0 : g0 = w.heap.size) (h1 : g1 = w.heap.size + 1) (h2 : g2 = w.heap.size + 2) (h3 : g3 = w.heap.size + 3) (h4 : g4 = w.heap.size + 4) :
    Img W (img5 aName (.slice (some ⟨g0, 0, none⟩) 2 2) (.slice none 0 0) (.slice (some ⟨g4, 0, none⟩) 2 2) (.slice none 0 0)) (leakI C) ∧ Upd (fun _ => False) w W := by
  obtain ⟨W1, e1⟩ : ∃ W1, W1 = w.alloc (.cells #[.int .i64 2, .int .i64 1] 3) := ⟨_, rfl⟩
  rw [← e1] at hW
  obtain ⟨W2, e2⟩ : ∃ W2, W2 = W1.alloc (.cells #[.int .i64 1, .int .i64 2] 3) := ⟨_, rfl⟩
  rw [← e2] at hW
  obtain ⟨W3, e3⟩ : ∃ W3, W3 = W2.alloc (.cells #[.int .i64 2] 3) := ⟨_, rfl⟩
  rw [← e3] at hW
  obtain ⟨W4, e4⟩ : ∃ W4, W4 = W3.alloc (.cells #[.int .i64 2, .int .i64 0, .int .i64 0, .int .i64 39, .int .i64 0, .int .i64 0] 34) := ⟨_, rfl⟩
  rw [← e4] at hW
  obtain ⟨W5, e5⟩ : ∃ W5, W5 = W4.alloc (.cells #[.slice none 0 0, .int .i64 0, .slice (some ⟨g1, 0, none⟩) 2 2, .slice b n c, .slice (some ⟨g2, 0, none⟩) 1 1, .int .i64 2, .slice none 0 0, .slice (some ⟨g3, 0, none⟩) 2 2] 43) := ⟨_, rfl⟩
  rw [← e5] at hW
  have s1 : W1.heap.size = w.heap.size + 1 := by rw [e1]; simp
  have s2 : W2.heap.size = w.heap.size + 2 := by rw [e2]; simp [s1]
  have s3 : W3.heap.size = w.heap.size + 3 := by rw [e3]; simp [s2]
  have s4 : W4.heap.size = w.heap.size + 4 := by rw [e4]; simp [s3]
  have t : ∀ {x y z : World}, Upd (fun _ => False) x y → Upd (fun _ => False) y z → Upd (fun _ => False) x z := fun h k => h.trans k (fun _ h _ => h)
  have u1 : Upd (fun _ => False) w W1 := by rw [e1]; exact up_alloc _ _
  have u2 : Upd (fun _ => False) W1 W2 := by rw [e2]; exact up_alloc _ _
  have u3 : Upd (fun _ => False) W2 W3 := by rw [e3]; exact up_alloc _ _
  have u4 : Upd (fun _ => False) W3 W4 := by rw [e4]; exact up_alloc _ _
  have u5 : Upd (fun _ => False) W4 W5 := by rw [e5]; exact up_alloc _ _
  have u6 : Upd (fun _ => False) W5 W := by rw [hW]; exact up_alloc _ _
  have i0 : Ints W1 (.slice (some ⟨g0, 0, none⟩) 2 2) [2, 1] := by rw [e1]; exact ints_litV _ _ _ _ [2, 1] 2 _ h0 rfl rfl (small_wi (by decide)) (by unfold maxLen; omega)
  have i1 : Ints W2 (.slice (some ⟨g1, 0, none⟩) 2 2) [1, 2] := by rw [e2]; exact ints_litV _ _ _ _ [1, 2] 2 _ (by rw [h1, s1]) rfl rfl (small_wi (by decide)) (by unfold maxLen; omega)
  have i2 : Ints W3 (.slice (some ⟨g2, 0, none⟩) 1 1) [2] := by rw [e3]; exact ints_litV _ _ _ _ [2] 1 _ (by rw [h2, s2]) rfl rfl (small_wi (by decide)) (by unfold maxLen; omega)
  have i3 : Inss W4 (.slice (some ⟨g3, 0, none⟩) 2 2) [⟨2, 0, 0⟩, ⟨39, 0, 0⟩] := by rw [e4]; exact inss_lit _ _ _ _ _ 2 _ (by rw [h3, s3]) rfl rfl rfl (by unfold maxLen; omega)
  have hm := mets_lit2 (w := W4) (e := 43) (fr := (0, 0)) (M := ⟨[], 0, [1, 2], C⟩) (M' := ⟨[2], 2, [], [⟨2, 0, 0⟩, ⟨39, 0, 0⟩]⟩) (g := g4) (by rw [h4, s4]) e5 (Ints.nil _) (i1.later (lbBelow (t u3 (t u4 u5)))) (hC.later (lbBelow (t u1 (t u2 (t u3 (t u4 u5)))))) (show wi64 0 from wi_small (by omega) (by omega)) (i2.later (lbBelow (t u4 u5))) (Ints.nil _) (i3.later (lbBelow u5)) (show wi64 2 from wi_small (by omega) (by omega))
  refine ⟨⟨_, _, _, _, rfl, i0.later (lbBelow (t u2 (t u3 (t u4 (t u5 u6))))), Imps.nil _, hm.later (lbBelow u6), Ints.nil _, by show (1 : Nat) ≤ maxLen; unfold maxLen; omega⟩, t u1 (t u2 (t u3 (t u4 (t u5 u6))))⟩
theorem img2i {w W : World} {b : Option Addr} {c n : Nat} {C : List InsM} (hC : Inss w (.slice b n c) C) {g0 g1 g2 g3 g4 : Nat}
    (hW : W = ((((((w.alloc (.cells #[.int .i64 2, .int .i64 1] 3)).alloc (.cells #[.int .i64 1, .int .i64 2] 3)).alloc (.cells #[.int .i64 2] 3)).alloc (.cells #[.int .i64 2, .int .i64 0, .int .i64 0, .int .i64 39, .int .i64 0, .int .i64 0] 34)).alloc (.cells #[.slice none 0 0, .int .i64 0, .slice (some ⟨g1, 0, none⟩) 2 2, .slice b n c, .slice (some ⟨g2, 0, none⟩) 1 1, .int .i64 2, .slice none 0 0, .slice (some ⟨g3, 0, none⟩) 2 2] 43)).alloc (.cells #[.string aName, .slice (some ⟨g0, 0, none⟩) 2 2, .slice none 0 0, .slice (some ⟨g4, 0, none⟩) 2 2, .slice none 0 0] 31)))
    (h0 : g0 = w.heap.size) (h1 : g1 = w.heap.size + 1) (h2 : g2 = w.heap.size + 2) (h3 : g3 = w.heap.size + 3) (h4 : g4 = w.heap.size + 4) :
    Img W (img5 aName (.slice (some ⟨g0, 0, none⟩) 2 2) (.slice none 0 0) (.slice (some ⟨g4, 0, none⟩) 2 2) (.slice none 0 0)) (leakI C) :=
  (img2 hC hW h0 h1 h2 h3 h4).1
theorem mid_succ {L : List Int} {k : Nat} (hk : k < L.length) : leakMid (L.take (k + 1)) = leakMid (L.take k) ++ leakStep (L.getD k 0 % 8) := by
  have e : L.getD k 0 = L[k] := by simp [List.getD, hk]
  rw [List.take_succ_eq_append_getElem hk, e]
  simp only [leakMid, List.flatMap_append, List.flatMap_cons, List.flatMap_nil, List.append_nil]
theorem eight {j : Int} (h1 : 0 ≤ j) (h2 : j < 8) : j = 0 ∨ j = 1 ∨ j = 2 ∨ j = 3 ∨ j = 4 ∨ j = 5 ∨ j = 6 ∨ j = 7 := by omega
theorem tail_wi {j : Int} (h1 : 0 ≤ j) (h2 : j < 9) : (leakTail j).all wiI = true := by
  rcases nine h1 h2 with rfl | rfl | rfl | rfl | rfl | rfl | rfl | rfl | rfl <;> rfl

set_option maxRecDepth 100000 in
set_option maxHeartbeats 32000000 in
theorem leaks_walk (w : World) (v : Value) (x : Int) (L : List Int) (h : Ints w v L) (hx : wi64 x) : Calls Try.prog 4 #[v, .int .i64 x] w fun e w' => e = .returned (.bool true) ∧ Upd (fun _ => False) w w' := by
  obtain ⟨i0, hi, hz0, hz1, hz2⟩ := info_parts inInfo
  have HL := Lib.hid h
  have HX := Lib.hid hx
  obtain ⟨a, ca, rfl, hl1, hl2⟩ := h.slice
  unfold maxLen at hl2
  have HO0 : Hid (COwn (w.alloc (.cells #[.int .i64 35, .int .i64 2, .int .i64 0, .int .i64 1, .int .i64 0, .int .i64 0, .int .i64 29, .int .i64 0, .int .i64 0] 34)) (.slice (some ⟨w.heap.size, 0, none⟩) 3 3) (leakHead ++ leakMid (L.take 0))) := Lib.hid (COwn.lit w _ _ 3 rfl rfl rfl (by unfold maxLen; omega))
  have HU0 := Lib.hid (Upd.alloc (fun _ => False) w (.cells #[.int .i64 35, .int .i64 2, .int .i64 0, .int .i64 1, .int .i64 0, .int .i64 0, .int .i64 29, .int .i64 0, .int .i64 0] 34))
  have HF0 : Hid (∀ k, (Value.slice (some ⟨w.heap.size, 0, none⟩) 3 3).ownBlock = some k → w.heap.size ≤ k) := Lib.hid (by intro k hk; simp [Value.ownBlock] at hk; omega)
  have HN0 : Hid ((leakHead ++ leakMid (L.take 0)).length = 3) := Lib.hid rfl
  clear h hx hl1
  go_enter Try.func4, Try.ntmps4
  go_wp2_with fail
  go_loopw [5, 6] (fun cv iv wr => ∃ (k n : Nat) (b : Option Addr) (c : Nat) (C : List InsM), k ≤ L.length ∧ k ≤ 12 ∧ n ≤ 3 + 3 * k ∧ iv = .int .i64 k ∧ cv = .slice b n c ∧ Hid (C = leakHead ++ leakMid (L.take k)) ∧ Hid (COwn wr (.slice b n c) C) ∧ Hid (C.length = n) ∧ Hid (Upd (fun _ => False) w wr) ∧ Hid (∀ j, (Value.slice b n c).ownBlock = some j → w.heap.size ≤ j)) (fun _ iv _ => 12 - (intOf iv).toNat)
  case atStart => exact ⟨0, 3, _, _, _, Nat.zero_le _, Nat.zero_le _, by omega, rfl, rfl, Lib.hid rfl, HO0, HN0, HU0, HF0⟩
  case round =>
    obtain ⟨k, n, b, c, C, hk, hk12, hn, rfl, rfl, HC, HO, HN, HU, HF⟩ := hrel
    by_cases hlt : k < L.length ∧ k < 12
    · obtain ⟨hlt1, hlt2⟩ := hlt
      obtain ⟨g1, o1, rfl, hc1, hw1⟩ := (HL.out.later (lbBelow HU.out)).at hlt1
      obtain ⟨y, hy⟩ : ∃ y, y = L.getD k 0 := ⟨_, rfl⟩
      rw [← hy] at hc1 hw1
      obtain ⟨hy1, hy2⟩ := hw1
      have HS := Lib.hid (mid_succ hlt1)
      have HY := Lib.hid hy
      have hi1 : (k : Int) < 12 := by omega
      have hi2 : (k : Int) < (L.length : Int) := by omega
      have hi0 : (0 : Int) ≤ (k : Int) := Int.natCast_nonneg _
      have hk1 : IntKind.i64.wrap ((k : Int) + 1) = (k : Int) + 1 := IntWalk.i64_in _ (by omega)
      clear hy
      have HE := Lib.hid (eight (Int.emod_nonneg y (by decide : (8 : Int) ≠ 0)) (Int.emod_lt_of_pos y (by decide : (0 : Int) < 8)))
      rcases HE.out with hj | hj | hj | hj | hj | hj | hj | hj
      · have HJ := Lib.hid hj
        rw [← HY.out, hj] at HS
        clear hj
        go_wp2_with (first | (with_reducible refine (hPick y 8 _ (by omega) (by omega)).mono ?_; rw [HJ.out]; rintro e _ ⟨rfl, rfl⟩) | (at_builtin; go_loud (refine wp_append_code _ rfl _ _ 40 rfl i0 (.agg #[.int .i64 0, .int .i64 0, .int .i64 0]) Try.underlying40 hi hz0 hz1 hz2 rfl _ C n HN.out rfl (HO.out.upd (up_alloc _ _)) (leakStep 0) _ rfl (inss_lit _ _ _ _ _ 2 _ (by simp) rfl rfl rfl (by unfold maxLen; omega)) rfl (by decide) 2 rfl (by omega) ?_)))
        intro b2 c2 w2 ho hu hf
        have HUF := app_up (HU.out.trans (up_alloc wr (.cells #[.int .i64 1, .int .i64 3, .int .i64 0, .int .i64 6, .int .i64 0, .int .i64 0] 34)) (fun _ h _ => h)) HF.out hu (fun k hk => by have h := hf k hk; simpa using h)
        have HO2 := Lib.hid ho
        have HU2 := Lib.hid HUF.1
        have HF2 := Lib.hid HUF.2
        have HN2 : Hid ((C ++ leakStep 0).length = n + 2) := Lib.hid (by rw [List.length_append, HN.out]; rfl)
        have HC2 : Hid (C ++ leakStep 0 = leakHead ++ leakMid (L.take (k + 1))) := Lib.hid (by rw [HS.out, HC.out, List.append_assoc])
        clear ho hu hf HUF hc1
        go_wp2_with fail
        go_roundw
        case rel => exact ⟨k + 1, n + 2, b2, c2, C ++ leakStep 0, by omega, by omega, by omega, by go_num, rfl, HC2, HO2, HN2, HU2, HF2⟩
        case measure => simp [intOf]; omega
      · have HJ := Lib.hid hj
        rw [← HY.out, hj] at HS
        clear hj
        go_wp2_with (first | (with_reducible refine (hPick y 8 _ (by omega) (by omega)).mono ?_; rw [HJ.out]; rintro e _ ⟨rfl, rfl⟩) | (at_builtin; go_loud (refine wp_append_code _ rfl _ _ 40 rfl i0 (.agg #[.int .i64 0, .int .i64 0, .int .i64 0]) Try.underlying40 hi hz0 hz1 hz2 rfl _ C n HN.out rfl (HO.out.upd (up_alloc _ _)) (leakStep 1) _ rfl (inss_lit _ _ _ _ _ 1 _ (by simp) rfl rfl rfl (by unfold maxLen; omega)) rfl (by decide) 1 rfl (by omega) ?_)))
        intro b2 c2 w2 ho hu hf
        have HUF := app_up (HU.out.trans (up_alloc wr (.cells #[.int .i64 15, .int .i64 0, .int .i64 0] 34)) (fun _ h _ => h)) HF.out hu (fun k hk => by have h := hf k hk; simpa using h)
        have HO2 := Lib.hid ho
        have HU2 := Lib.hid HUF.1
        have HF2 := Lib.hid HUF.2
        have HN2 : Hid ((C ++ leakStep 1).length = n + 1) := Lib.hid (by rw [List.length_append, HN.out]; rfl)
        have HC2 : Hid (C ++ leakStep 1 = leakHead ++ leakMid (L.take (k + 1))) := Lib.hid (by rw [HS.out, HC.out, List.append_assoc])
        clear ho hu hf HUF hc1
        go_wp2_with fail
        go_roundw
        case rel => exact ⟨k + 1, n + 1, b2, c2, C ++ leakStep 1, by omega, by omega, by omega, by go_num, rfl, HC2, HO2, HN2, HU2, HF2⟩
        case measure => simp [intOf]; omega
      · have HJ := Lib.hid hj
        rw [← HY.out, hj] at HS
        clear hj
        go_wp2_with (first | (with_reducible refine (hPick y 8 _ (by omega) (by omega)).mono ?_; rw [HJ.out]; rintro e _ ⟨rfl, rfl⟩) | (at_builtin; go_loud (refine wp_append_code _ rfl _ _ 40 rfl i0 (.agg #[.int .i64 0, .int .i64 0, .int .i64 0]) Try.underlying40 hi hz0 hz1 hz2 rfl _ C n HN.out rfl (HO.out.upd (up_alloc _ _)) (leakStep 2) _ rfl (inss_lit _ _ _ _ _ 2 _ (by simp) rfl rfl rfl (by unfold maxLen; omega)) rfl (by decide) 2 rfl (by omega) ?_)))
        intro b2 c2 w2 ho hu hf
        have HUF := app_up (HU.out.trans (up_alloc wr (.cells #[.int .i64 3, .int .i64 1, .int .i64 0, .int .i64 2, .int .i64 1, .int .i64 0] 34)) (fun _ h _ => h)) HF.out hu (fun k hk => by have h := hf k hk; simpa using h)
        have HO2 := Lib.hid ho
        have HU2 := Lib.hid HUF.1
        have HF2 := Lib.hid HUF.2
        have HN2 : Hid ((C ++ leakStep 2).length = n + 2) := Lib.hid (by rw [List.length_append, HN.out]; rfl)
        have HC2 : Hid (C ++ leakStep 2 = leakHead ++ leakMid (L.take (k + 1))) := Lib.hid (by rw [HS.out, HC.out, List.append_assoc])
        clear ho hu hf HUF hc1
        go_wp2_with fail
        go_roundw
        case rel => exact ⟨k + 1, n + 2, b2, c2, C ++ leakStep 2, by omega, by omega, by omega, by go_num, rfl, HC2, HO2, HN2, HU2, HF2⟩
        case measure => simp [intOf]; omega
      · have HJ := Lib.hid hj
        rw [← HY.out, hj] at HS
        clear hj
        go_wp2_with (first | (with_reducible refine (hPick y 8 _ (by omega) (by omega)).mono ?_; rw [HJ.out]; rintro e _ ⟨rfl, rfl⟩) | (at_builtin; go_loud (refine wp_append_code _ rfl _ _ 40 rfl i0 (.agg #[.int .i64 0, .int .i64 0, .int .i64 0]) Try.underlying40 hi hz0 hz1 hz2 rfl _ C n HN.out rfl (HO.out.upd (up_alloc _ _)) (leakStep 3) _ rfl (inss_lit _ _ _ _ _ 2 _ (by simp) rfl rfl rfl (by unfold maxLen; omega)) rfl (by decide) 2 rfl (by omega) ?_)))
        intro b2 c2 w2 ho hu hf
        have HUF := app_up (HU.out.trans (up_alloc wr (.cells #[.int .i64 34, .int .i64 0, .int .i64 0, .int .i64 33, .int .i64 0, .int .i64 0] 34)) (fun _ h _ => h)) HF.out hu (fun k hk => by have h := hf k hk; simpa using h)
        have HO2 := Lib.hid ho
        have HU2 := Lib.hid HUF.1
        have HF2 := Lib.hid HUF.2
        have HN2 : Hid ((C ++ leakStep 3).length = n + 2) := Lib.hid (by rw [List.length_append, HN.out]; rfl)
        have HC2 : Hid (C ++ leakStep 3 = leakHead ++ leakMid (L.take (k + 1))) := Lib.hid (by rw [HS.out, HC.out, List.append_assoc])
        clear ho hu hf HUF hc1
        go_wp2_with fail
        go_roundw
        case rel => exact ⟨k + 1, n + 2, b2, c2, C ++ leakStep 3, by omega, by omega, by omega, by go_num, rfl, HC2, HO2, HN2, HU2, HF2⟩
        case measure => simp [intOf]; omega
      · have HJ := Lib.hid hj
        rw [← HY.out, hj] at HS
        clear hj
        go_wp2_with (first | (with_reducible refine (hPick y 8 _ (by omega) (by omega)).mono ?_; rw [HJ.out]; rintro e _ ⟨rfl, rfl⟩) | (at_builtin; go_loud (refine wp_append_code _ rfl _ _ 40 rfl i0 (.agg #[.int .i64 0, .int .i64 0, .int .i64 0]) Try.underlying40 hi hz0 hz1 hz2 rfl _ C n HN.out rfl (HO.out.upd (up_alloc _ _)) (leakStep 4) _ rfl (inss_lit _ _ _ _ _ 3 _ (by simp) rfl rfl rfl (by unfold maxLen; omega)) rfl (by decide) 3 rfl (by omega) ?_)))
        intro b2 c2 w2 ho hu hf
        have HUF := app_up (HU.out.trans (up_alloc wr (.cells #[.int .i64 1, .int .i64 0, .int .i64 0, .int .i64 1, .int .i64 1, .int .i64 0, .int .i64 22, .int .i64 0, .int .i64 0] 34)) (fun _ h _ => h)) HF.out hu (fun k hk => by have h := hf k hk; simpa using h)
        have HO2 := Lib.hid ho
        have HU2 := Lib.hid HUF.1
        have HF2 := Lib.hid HUF.2
        have HN2 : Hid ((C ++ leakStep 4).length = n + 3) := Lib.hid (by rw [List.length_append, HN.out]; rfl)
        have HC2 : Hid (C ++ leakStep 4 = leakHead ++ leakMid (L.take (k + 1))) := Lib.hid (by rw [HS.out, HC.out, List.append_assoc])
        clear ho hu hf HUF hc1
        go_wp2_with fail
        go_roundw
        case rel => exact ⟨k + 1, n + 3, b2, c2, C ++ leakStep 4, by omega, by omega, by omega, by go_num, rfl, HC2, HO2, HN2, HU2, HF2⟩
        case measure => simp [intOf]; omega
      · have HJ := Lib.hid hj
        rw [← HY.out, hj] at HS
        clear hj
        go_wp2_with (first | (with_reducible refine (hPick y 8 _ (by omega) (by omega)).mono ?_; rw [HJ.out]; rintro e _ ⟨rfl, rfl⟩) | (at_builtin; go_loud (refine wp_append_code _ rfl _ _ 40 rfl i0 (.agg #[.int .i64 0, .int .i64 0, .int .i64 0]) Try.underlying40 hi hz0 hz1 hz2 rfl _ C n HN.out rfl (HO.out.upd (up_alloc _ _)) (leakStep 5) _ rfl (inss_lit _ _ _ _ _ 2 _ (by simp) rfl rfl rfl (by unfold maxLen; omega)) rfl (by decide) 2 rfl (by omega) ?_)))
        intro b2 c2 w2 ho hu hf
        have HUF := app_up (HU.out.trans (up_alloc wr (.cells #[.int .i64 5, .int .i64 0, .int .i64 0, .int .i64 19, .int .i64 0, .int .i64 0] 34)) (fun _ h _ => h)) HF.out hu (fun k hk => by have h := hf k hk; simpa using h)
        have HO2 := Lib.hid ho
        have HU2 := Lib.hid HUF.1
        have HF2 := Lib.hid HUF.2
        have HN2 : Hid ((C ++ leakStep 5).length = n + 2) := Lib.hid (by rw [List.length_append, HN.out]; rfl)
        have HC2 : Hid (C ++ leakStep 5 = leakHead ++ leakMid (L.take (k + 1))) := Lib.hid (by rw [HS.out, HC.out, List.append_assoc])
        clear ho hu hf HUF hc1
        go_wp2_with fail
        go_roundw
        case rel => exact ⟨k + 1, n + 2, b2, c2, C ++ leakStep 5, by omega, by omega, by omega, by go_num, rfl, HC2, HO2, HN2, HU2, HF2⟩
        case measure => simp [intOf]; omega
      · have HJ := Lib.hid hj
        rw [← HY.out, hj] at HS
        clear hj
        go_wp2_with (first | (with_reducible refine (hPick y 8 _ (by omega) (by omega)).mono ?_; rw [HJ.out]; rintro e _ ⟨rfl, rfl⟩) | (at_builtin; go_loud (refine wp_append_code _ rfl _ _ 40 rfl i0 (.agg #[.int .i64 0, .int .i64 0, .int .i64 0]) Try.underlying40 hi hz0 hz1 hz2 rfl _ C n HN.out rfl (HO.out.upd (up_alloc _ _)) (leakStep 6) _ rfl (inss_lit _ _ _ _ _ 2 _ (by simp) rfl rfl rfl (by unfold maxLen; omega)) rfl (by decide) 2 rfl (by omega) ?_)))
        intro b2 c2 w2 ho hu hf
        have HUF := app_up (HU.out.trans (up_alloc wr (.cells #[.int .i64 1, .int .i64 7, .int .i64 0, .int .i64 21, .int .i64 0, .int .i64 0] 34)) (fun _ h _ => h)) HF.out hu (fun k hk => by have h := hf k hk; simpa using h)
        have HO2 := Lib.hid ho
        have HU2 := Lib.hid HUF.1
        have HF2 := Lib.hid HUF.2
        have HN2 : Hid ((C ++ leakStep 6).length = n + 2) := Lib.hid (by rw [List.length_append, HN.out]; rfl)
        have HC2 : Hid (C ++ leakStep 6 = leakHead ++ leakMid (L.take (k + 1))) := Lib.hid (by rw [HS.out, HC.out, List.append_assoc])
        clear ho hu hf HUF hc1
        go_wp2_with fail
        go_roundw
        case rel => exact ⟨k + 1, n + 2, b2, c2, C ++ leakStep 6, by omega, by omega, by omega, by go_num, rfl, HC2, HO2, HN2, HU2, HF2⟩
        case measure => simp [intOf]; omega
      · have HJ := Lib.hid hj
        rw [← HY.out, hj] at HS
        clear hj
        go_wp2_with (first | (with_reducible refine (hPick y 8 _ (by omega) (by omega)).mono ?_; rw [HJ.out]; rintro e _ ⟨rfl, rfl⟩) | (at_builtin; go_loud (refine wp_append_code _ rfl _ _ 40 rfl i0 (.agg #[.int .i64 0, .int .i64 0, .int .i64 0]) Try.underlying40 hi hz0 hz1 hz2 rfl _ C n HN.out rfl (HO.out.upd (up_alloc _ _)) (leakStep 7) _ rfl (inss_lit _ _ _ _ _ 1 _ (by simp) rfl rfl rfl (by unfold maxLen; omega)) rfl (by decide) 1 rfl (by omega) ?_)))
        intro b2 c2 w2 ho hu hf
        have HUF := app_up (HU.out.trans (up_alloc wr (.cells #[.int .i64 37, .int .i64 1, .int .i64 0] 34)) (fun _ h _ => h)) HF.out hu (fun k hk => by have h := hf k hk; simpa using h)
        have HO2 := Lib.hid ho
        have HU2 := Lib.hid HUF.1
        have HF2 := Lib.hid HUF.2
        have HN2 : Hid ((C ++ leakStep 7).length = n + 1) := Lib.hid (by rw [List.length_append, HN.out]; rfl)
        have HC2 : Hid (C ++ leakStep 7 = leakHead ++ leakMid (L.take (k + 1))) := Lib.hid (by rw [HS.out, HC.out, List.append_assoc])
        clear ho hu hf HUF hc1
        go_wp2_with fail
        go_roundw
        case rel => exact ⟨k + 1, n + 1, b2, c2, C ++ leakStep 7, by omega, by omega, by omega, by go_num, rfl, HC2, HO2, HN2, HU2, HF2⟩
        case measure => simp [intOf]; omega
    · have HFIN : Hid (L.take k = L.take 12) := Lib.hid (by
        rcases Nat.lt_or_ge k 12 with h | h
        · have : L.length ≤ k := by rcases Nat.lt_or_ge k L.length with h2 | h2; exact absurd ⟨h2, h⟩ hlt; exact h2
          rw [List.take_of_length_le this, List.take_of_length_le (by omega)]
        · rw [show k = 12 by omega])
      have hCe := HC.out
      rw [HFIN.out] at hCe
      have HCE := Lib.hid hCe
      have HLL : Hid ((L.take 12).length ≤ 12) := Lib.hid (by simp; omega)
      have hcond : ¬ ((k : Int) < (L.length : Int)) ∨ ((k : Int) < (L.length : Int)) ∧ ¬ ((k : Int) < 12) := by omega
      obtain ⟨hx1, hx2⟩ := HX.out
      have hn1 : n ≤ 39 := by omega
      have hwn : IntKind.i64.wrap ((n : Int) + 1) = (n : Int) + 1 := IntWalk.i64_in _ (by omega)
      have HE := Lib.hid (nine (Int.emod_nonneg x (by decide : (9 : Int) ≠ 0)) (Int.emod_lt_of_pos x (by decide : (0 : Int) < 9)))
      have HVF := Lib.hid (fun (j : Int) (h1 : 0 ≤ j) (h2 : j < 9) => leak_verify (L.take 12) j HLL.out h1 h2)
      clear hCe hlt hk hk12
      rcases hcond with hcond | ⟨hcond, hcond2⟩
      all_goals
        rcases HE.out with hj | hj | hj | hj | hj | hj | hj | hj | hj
        · have HJ := Lib.hid hj
          clear hj
          go_wp2_with (first | (with_reducible refine (hPick x 9 _ (by omega) (by omega)).mono ?_; rw [HJ.out]; rintro e _ ⟨rfl, rfl⟩) | (at_builtin; go_loud (refine wp_append_code _ rfl _ _ 40 rfl i0 (.agg #[.int .i64 0, .int .i64 0, .int .i64 0]) Try.underlying40 hi hz0 hz1 hz2 rfl _ C n HN.out rfl (HO.out.upd (up_alloc _ _)) (leakTail 0) _ rfl (inss_lit _ _ _ _ _ 1 _ (by simp) rfl rfl rfl (by unfold maxLen; omega)) rfl (by decide) 1 rfl (by omega) ?_)))
          intro b2 c2 w2 ho hu hf
          have HUF := app_up (HU.out.trans (up_alloc wr (.cells #[.int .i64 24, .int .i64 0, .int .i64 0] 34)) (fun _ h _ => h)) HF.out hu (fun k hk => by have h := hf k hk; simpa using h)
          have HO2 := Lib.hid ho
          have HU2 := Lib.hid HUF.1
          have HF2 := Lib.hid HUF.2
          have HN2 : Hid ((C ++ leakTail 0).length = n + 1) := Lib.hid (by rw [List.length_append, HN.out]; rfl)
          clear ho hu hf HUF
          go_wp2_with (at_builtin; go_loud (refine wp_append_code _ rfl _ _ 40 rfl i0 (.agg #[.int .i64 0, .int .i64 0, .int .i64 0]) Try.underlying40 hi hz0 hz1 hz2 rfl _ (C ++ leakTail 0) (n + 1) HN2.out rfl (HO2.out.upd (up_alloc _ _)) ([⟨39, 0, 0⟩]) _ rfl (inss_lit _ _ _ _ _ 1 _ (by simp) rfl rfl rfl (by unfold maxLen; omega)) rfl (by decide) 1 rfl (by omega) ?_))
          intro b3 c3 w3 ho hu hf
          have HUF := app_up (HU2.out.trans (up_alloc w2 (.cells #[.int .i64 39, .int .i64 0, .int .i64 0] 34)) (fun _ h _ => h)) HF2.out hu (fun k hk => by have h := hf k hk; simpa using h)
          try rw [← List.append_assoc] at ho
          have HO3 := Lib.hid ho
          have HU3 := Lib.hid HUF.1
          have HV : Hid (verifyP (leakI (C ++ leakTail 0 ++ [⟨39, 0, 0⟩])) 100 = some (0, n, 12)) := Lib.hid (by
            have hv := HVF.out 0 (by decide) (by decide)
            rw [← HCE.out, HN.out, show leakCode (L.take 12) 0 = C ++ leakTail 0 ++ [⟨39, 0, 0⟩] by rw [HCE.out]; rfl] at hv
            simpa [leakYes, leakAt] using hv)
          clear ho hu hf HUF
          go_wp2_with fail
          have HIM := Lib.hid (img2 (w := w3) (g0 := w3.heap.size) (g1 := w3.heap.size + 1) (g2 := w3.heap.size + 1 + 1) (g3 := w3.heap.size + 1 + 1 + 1) (g4 := w3.heap.size + 1 + 1 + 1 + 1) HO3.out.inss rfl rfl rfl rfl rfl rfl)
          refine (vVerify _ _ (leakI (C ++ leakTail 0 ++ [⟨39, 0, 0⟩])) HIM.out.1 100 0 _ _ HV.out).mono ?_
          rintro e w7 ⟨rfl, hu7⟩
          have HU7 := Lib.hid (HU3.out.trans (HIM.out.2.trans hu7 (fun _ h _ => h)) (fun _ h _ => h))
          clear hu7
          go_wp2_with fail
          refine (known7 _).mono ?_
          rintro e w9 ⟨rfl, hu9⟩
          have HU9 := Lib.hid (HU7.out.trans (up1 hu9) (fun _ h _ => h))
          obtain ⟨y0, y1⟩ := box2c hu9
          clear hu9
          go_wp2_with fail
          go_ret
          exact ⟨rfl, HU9.out⟩
        · have HJ := Lib.hid hj
          clear hj
          go_wp2_with (first | (with_reducible refine (hPick x 9 _ (by omega) (by omega)).mono ?_; rw [HJ.out]; rintro e _ ⟨rfl, rfl⟩) | (at_builtin; go_loud (refine wp_append_code _ rfl _ _ 40 rfl i0 (.agg #[.int .i64 0, .int .i64 0, .int .i64 0]) Try.underlying40 hi hz0 hz1 hz2 rfl _ C n HN.out rfl (HO.out.upd (up_alloc _ _)) (leakTail 1) _ rfl (inss_lit _ _ _ _ _ 2 _ (by simp) rfl rfl rfl (by unfold maxLen; omega)) rfl (by decide) 2 rfl (by omega) ?_)))
          intro b2 c2 w2 ho hu hf
          have HUF := app_up (HU.out.trans (up_alloc wr (.cells #[.int .i64 27, .int .i64 4, .int .i64 0, .int .i64 4, .int .i64 0, .int .i64 0] 34)) (fun _ h _ => h)) HF.out hu (fun k hk => by have h := hf k hk; simpa using h)
          have HO2 := Lib.hid ho
          have HU2 := Lib.hid HUF.1
          have HF2 := Lib.hid HUF.2
          have HN2 : Hid ((C ++ leakTail 1).length = n + 2) := Lib.hid (by rw [List.length_append, HN.out]; rfl)
          clear ho hu hf HUF
          go_wp2_with (at_builtin; go_loud (refine wp_append_code _ rfl _ _ 40 rfl i0 (.agg #[.int .i64 0, .int .i64 0, .int .i64 0]) Try.underlying40 hi hz0 hz1 hz2 rfl _ (C ++ leakTail 1) (n + 2) HN2.out rfl (HO2.out.upd (up_alloc _ _)) ([⟨39, 0, 0⟩]) _ rfl (inss_lit _ _ _ _ _ 1 _ (by simp) rfl rfl rfl (by unfold maxLen; omega)) rfl (by decide) 1 rfl (by omega) ?_))
          intro b3 c3 w3 ho hu hf
          have HUF := app_up (HU2.out.trans (up_alloc w2 (.cells #[.int .i64 39, .int .i64 0, .int .i64 0] 34)) (fun _ h _ => h)) HF2.out hu (fun k hk => by have h := hf k hk; simpa using h)
          try rw [← List.append_assoc] at ho
          have HO3 := Lib.hid ho
          have HU3 := Lib.hid HUF.1
          have HV : Hid (verifyP (leakI (C ++ leakTail 1 ++ [⟨39, 0, 0⟩])) 100 = some (0, n, 12)) := Lib.hid (by
            have hv := HVF.out 1 (by decide) (by decide)
            rw [← HCE.out, HN.out, show leakCode (L.take 12) 1 = C ++ leakTail 1 ++ [⟨39, 0, 0⟩] by rw [HCE.out]; rfl] at hv
            simpa [leakYes, leakAt] using hv)
          clear ho hu hf HUF
          go_wp2_with fail
          have HIM := Lib.hid (img2 (w := w3) (g0 := w3.heap.size) (g1 := w3.heap.size + 1) (g2 := w3.heap.size + 1 + 1) (g3 := w3.heap.size + 1 + 1 + 1) (g4 := w3.heap.size + 1 + 1 + 1 + 1) HO3.out.inss rfl rfl rfl rfl rfl rfl)
          refine (vVerify _ _ (leakI (C ++ leakTail 1 ++ [⟨39, 0, 0⟩])) HIM.out.1 100 0 _ _ HV.out).mono ?_
          rintro e w7 ⟨rfl, hu7⟩
          have HU7 := Lib.hid (HU3.out.trans (HIM.out.2.trans hu7 (fun _ h _ => h)) (fun _ h _ => h))
          clear hu7
          go_wp2_with fail
          refine (known7 _).mono ?_
          rintro e w9 ⟨rfl, hu9⟩
          have HU9 := Lib.hid (HU7.out.trans (up1 hu9) (fun _ h _ => h))
          obtain ⟨y0, y1⟩ := box2c hu9
          clear hu9
          go_wp2_with fail
          go_ret
          exact ⟨rfl, HU9.out⟩
        · have HJ := Lib.hid hj
          clear hj
          go_wp2_with (first | (with_reducible refine (hPick x 9 _ (by omega) (by omega)).mono ?_; rw [HJ.out]; rintro e _ ⟨rfl, rfl⟩) | (at_builtin; go_loud (refine wp_append_code _ rfl _ _ 40 rfl i0 (.agg #[.int .i64 0, .int .i64 0, .int .i64 0]) Try.underlying40 hi hz0 hz1 hz2 rfl _ C n HN.out rfl (HO.out.upd (up_alloc _ _)) (leakTail 2) _ rfl (inss_lit _ _ _ _ _ 1 _ (by simp) rfl rfl rfl (by unfold maxLen; omega)) rfl (by decide) 1 rfl (by omega) ?_)))
          intro b2 c2 w2 ho hu hf
          have HUF := app_up (HU.out.trans (up_alloc wr (.cells #[.int .i64 3, .int .i64 0, .int .i64 0] 34)) (fun _ h _ => h)) HF.out hu (fun k hk => by have h := hf k hk; simpa using h)
          have HO2 := Lib.hid ho
          have HU2 := Lib.hid HUF.1
          have HF2 := Lib.hid HUF.2
          have HN2 : Hid ((C ++ leakTail 2).length = n + 1) := Lib.hid (by rw [List.length_append, HN.out]; rfl)
          clear ho hu hf HUF
          go_wp2_with (at_builtin; go_loud (refine wp_append_code _ rfl _ _ 40 rfl i0 (.agg #[.int .i64 0, .int .i64 0, .int .i64 0]) Try.underlying40 hi hz0 hz1 hz2 rfl _ (C ++ leakTail 2) (n + 1) HN2.out rfl (HO2.out.upd (up_alloc _ _)) ([⟨39, 0, 0⟩]) _ rfl (inss_lit _ _ _ _ _ 1 _ (by simp) rfl rfl rfl (by unfold maxLen; omega)) rfl (by decide) 1 rfl (by omega) ?_))
          intro b3 c3 w3 ho hu hf
          have HUF := app_up (HU2.out.trans (up_alloc w2 (.cells #[.int .i64 39, .int .i64 0, .int .i64 0] 34)) (fun _ h _ => h)) HF2.out hu (fun k hk => by have h := hf k hk; simpa using h)
          try rw [← List.append_assoc] at ho
          have HO3 := Lib.hid ho
          have HU3 := Lib.hid HUF.1
          have HV : Hid (verifyP (leakI (C ++ leakTail 2 ++ [⟨39, 0, 0⟩])) 100 = some (0, n, 12)) := Lib.hid (by
            have hv := HVF.out 2 (by decide) (by decide)
            rw [← HCE.out, HN.out, show leakCode (L.take 12) 2 = C ++ leakTail 2 ++ [⟨39, 0, 0⟩] by rw [HCE.out]; rfl] at hv
            simpa [leakYes, leakAt] using hv)
          clear ho hu hf HUF
          go_wp2_with fail
          have HIM := Lib.hid (img2 (w := w3) (g0 := w3.heap.size) (g1 := w3.heap.size + 1) (g2 := w3.heap.size + 1 + 1) (g3 := w3.heap.size + 1 + 1 + 1) (g4 := w3.heap.size + 1 + 1 + 1 + 1) HO3.out.inss rfl rfl rfl rfl rfl rfl)
          refine (vVerify _ _ (leakI (C ++ leakTail 2 ++ [⟨39, 0, 0⟩])) HIM.out.1 100 0 _ _ HV.out).mono ?_
          rintro e w7 ⟨rfl, hu7⟩
          have HU7 := Lib.hid (HU3.out.trans (HIM.out.2.trans hu7 (fun _ h _ => h)) (fun _ h _ => h))
          clear hu7
          go_wp2_with fail
          refine (known7 _).mono ?_
          rintro e w9 ⟨rfl, hu9⟩
          have HU9 := Lib.hid (HU7.out.trans (up1 hu9) (fun _ h _ => h))
          obtain ⟨y0, y1⟩ := box2c hu9
          clear hu9
          go_wp2_with fail
          go_ret
          exact ⟨rfl, HU9.out⟩
        · have HJ := Lib.hid hj
          clear hj
          go_wp2_with (first | (with_reducible refine (hPick x 9 _ (by omega) (by omega)).mono ?_; rw [HJ.out]; rintro e _ ⟨rfl, rfl⟩) | (at_builtin; go_loud (refine wp_append_code _ rfl _ _ 40 rfl i0 (.agg #[.int .i64 0, .int .i64 0, .int .i64 0]) Try.underlying40 hi hz0 hz1 hz2 rfl _ C n HN.out rfl (HO.out.upd (up_alloc _ _)) (leakTail 3) _ rfl (inss_lit _ _ _ _ _ 1 _ (by simp) rfl rfl rfl (by unfold maxLen; omega)) rfl (by decide) 1 rfl (by omega) ?_)))
          intro b2 c2 w2 ho hu hf
          have HUF := app_up (HU.out.trans (up_alloc wr (.cells #[.int .i64 34, .int .i64 1, .int .i64 0] 34)) (fun _ h _ => h)) HF.out hu (fun k hk => by have h := hf k hk; simpa using h)
          have HO2 := Lib.hid ho
          have HU2 := Lib.hid HUF.1
          have HF2 := Lib.hid HUF.2
          have HN2 : Hid ((C ++ leakTail 3).length = n + 1) := Lib.hid (by rw [List.length_append, HN.out]; rfl)
          clear ho hu hf HUF
          go_wp2_with (at_builtin; go_loud (refine wp_append_code _ rfl _ _ 40 rfl i0 (.agg #[.int .i64 0, .int .i64 0, .int .i64 0]) Try.underlying40 hi hz0 hz1 hz2 rfl _ (C ++ leakTail 3) (n + 1) HN2.out rfl (HO2.out.upd (up_alloc _ _)) ([⟨39, 0, 0⟩]) _ rfl (inss_lit _ _ _ _ _ 1 _ (by simp) rfl rfl rfl (by unfold maxLen; omega)) rfl (by decide) 1 rfl (by omega) ?_))
          intro b3 c3 w3 ho hu hf
          have HUF := app_up (HU2.out.trans (up_alloc w2 (.cells #[.int .i64 39, .int .i64 0, .int .i64 0] 34)) (fun _ h _ => h)) HF2.out hu (fun k hk => by have h := hf k hk; simpa using h)
          try rw [← List.append_assoc] at ho
          have HO3 := Lib.hid ho
          have HU3 := Lib.hid HUF.1
          have HV : Hid (verifyP (leakI (C ++ leakTail 3 ++ [⟨39, 0, 0⟩])) 100 = some (0, n, 12)) := Lib.hid (by
            have hv := HVF.out 3 (by decide) (by decide)
            rw [← HCE.out, HN.out, show leakCode (L.take 12) 3 = C ++ leakTail 3 ++ [⟨39, 0, 0⟩] by rw [HCE.out]; rfl] at hv
            simpa [leakYes, leakAt] using hv)
          clear ho hu hf HUF
          go_wp2_with fail
          have HIM := Lib.hid (img2 (w := w3) (g0 := w3.heap.size) (g1 := w3.heap.size + 1) (g2 := w3.heap.size + 1 + 1) (g3 := w3.heap.size + 1 + 1 + 1) (g4 := w3.heap.size + 1 + 1 + 1 + 1) HO3.out.inss rfl rfl rfl rfl rfl rfl)
          refine (vVerify _ _ (leakI (C ++ leakTail 3 ++ [⟨39, 0, 0⟩])) HIM.out.1 100 0 _ _ HV.out).mono ?_
          rintro e w7 ⟨rfl, hu7⟩
          have HU7 := Lib.hid (HU3.out.trans (HIM.out.2.trans hu7 (fun _ h _ => h)) (fun _ h _ => h))
          clear hu7
          go_wp2_with fail
          refine (known7 _).mono ?_
          rintro e w9 ⟨rfl, hu9⟩
          have HU9 := Lib.hid (HU7.out.trans (up1 hu9) (fun _ h _ => h))
          obtain ⟨y0, y1⟩ := box2c hu9
          clear hu9
          go_wp2_with fail
          go_ret
          exact ⟨rfl, HU9.out⟩
        · have HJ := Lib.hid hj
          clear hj
          go_wp2_with (first | (with_reducible refine (hPick x 9 _ (by omega) (by omega)).mono ?_; rw [HJ.out]; rintro e _ ⟨rfl, rfl⟩) | (at_builtin; go_loud (refine wp_append_code _ rfl _ _ 40 rfl i0 (.agg #[.int .i64 0, .int .i64 0, .int .i64 0]) Try.underlying40 hi hz0 hz1 hz2 rfl _ C n HN.out rfl (HO.out.upd (up_alloc _ _)) (leakTail 4) _ rfl (inss_lit _ _ _ _ _ 3 _ (by simp) rfl rfl rfl (by unfold maxLen; omega)) rfl (by decide) 3 rfl (by omega) ?_)))
          intro b2 c2 w2 ho hu hf
          have HUF := app_up (HU.out.trans (up_alloc wr (.cells #[.int .i64 1, .int .i64 2, .int .i64 0, .int .i64 17, .int .i64 0, .int .i64 0, .int .i64 4, .int .i64 0, .int .i64 0] 34)) (fun _ h _ => h)) HF.out hu (fun k hk => by have h := hf k hk; simpa using h)
          have HO2 := Lib.hid ho
          have HU2 := Lib.hid HUF.1
          have HF2 := Lib.hid HUF.2
          have HN2 : Hid ((C ++ leakTail 4).length = n + 3) := Lib.hid (by rw [List.length_append, HN.out]; rfl)
          clear ho hu hf HUF
          go_wp2_with (at_builtin; go_loud (refine wp_append_code _ rfl _ _ 40 rfl i0 (.agg #[.int .i64 0, .int .i64 0, .int .i64 0]) Try.underlying40 hi hz0 hz1 hz2 rfl _ (C ++ leakTail 4) (n + 3) HN2.out rfl (HO2.out.upd (up_alloc _ _)) ([⟨39, 0, 0⟩]) _ rfl (inss_lit _ _ _ _ _ 1 _ (by simp) rfl rfl rfl (by unfold maxLen; omega)) rfl (by decide) 1 rfl (by omega) ?_))
          intro b3 c3 w3 ho hu hf
          have HUF := app_up (HU2.out.trans (up_alloc w2 (.cells #[.int .i64 39, .int .i64 0, .int .i64 0] 34)) (fun _ h _ => h)) HF2.out hu (fun k hk => by have h := hf k hk; simpa using h)
          try rw [← List.append_assoc] at ho
          have HO3 := Lib.hid ho
          have HU3 := Lib.hid HUF.1
          have HV : Hid (verifyP (leakI (C ++ leakTail 4 ++ [⟨39, 0, 0⟩])) 100 = some (0, n + 1, 12)) := Lib.hid (by
            have hv := HVF.out 4 (by decide) (by decide)
            rw [← HCE.out, HN.out, show leakCode (L.take 12) 4 = C ++ leakTail 4 ++ [⟨39, 0, 0⟩] by rw [HCE.out]; rfl] at hv
            simpa [leakYes, leakAt] using hv)
          clear ho hu hf HUF
          go_wp2_with fail
          have HIM := Lib.hid (img2 (w := w3) (g0 := w3.heap.size) (g1 := w3.heap.size + 1) (g2 := w3.heap.size + 1 + 1) (g3 := w3.heap.size + 1 + 1 + 1) (g4 := w3.heap.size + 1 + 1 + 1 + 1) HO3.out.inss rfl rfl rfl rfl rfl rfl)
          refine (vVerify _ _ (leakI (C ++ leakTail 4 ++ [⟨39, 0, 0⟩])) HIM.out.1 100 0 _ _ HV.out).mono ?_
          rintro e w7 ⟨rfl, hu7⟩
          have HU7 := Lib.hid (HU3.out.trans (HIM.out.2.trans hu7 (fun _ h _ => h)) (fun _ h _ => h))
          clear hu7
          go_wp2_with fail
          refine (known7 _).mono ?_
          rintro e w9 ⟨rfl, hu9⟩
          have HU9 := Lib.hid (HU7.out.trans (up1 hu9) (fun _ h _ => h))
          obtain ⟨y0, y1⟩ := box2c hu9
          clear hu9
          go_wp2_with fail
          go_ret
          exact ⟨rfl, HU9.out⟩
        · have HJ := Lib.hid hj
          clear hj
          go_wp2_with (first | (with_reducible refine (hPick x 9 _ (by omega) (by omega)).mono ?_; rw [HJ.out]; rintro e _ ⟨rfl, rfl⟩) | (at_builtin; go_loud (refine wp_append_code _ rfl _ _ 40 rfl i0 (.agg #[.int .i64 0, .int .i64 0, .int .i64 0]) Try.underlying40 hi hz0 hz1 hz2 rfl _ C n HN.out rfl (HO.out.upd (up_alloc _ _)) (leakTail 5) _ rfl (inss_lit _ _ _ _ _ 3 _ (by simp) rfl rfl rfl (by unfold maxLen; omega)) rfl (by decide) 3 rfl (by omega) ?_)))
          intro b2 c2 w2 ho hu hf
          have HUF := app_up (HU.out.trans (up_alloc wr (.cells #[.int .i64 5, .int .i64 0, .int .i64 0, .int .i64 18, .int .i64 0, .int .i64 0, .int .i64 4, .int .i64 0, .int .i64 0] 34)) (fun _ h _ => h)) HF.out hu (fun k hk => by have h := hf k hk; simpa using h)
          have HO2 := Lib.hid ho
          have HU2 := Lib.hid HUF.1
          have HF2 := Lib.hid HUF.2
          have HN2 : Hid ((C ++ leakTail 5).length = n + 3) := Lib.hid (by rw [List.length_append, HN.out]; rfl)
          clear ho hu hf HUF
          go_wp2_with (at_builtin; go_loud (refine wp_append_code _ rfl _ _ 40 rfl i0 (.agg #[.int .i64 0, .int .i64 0, .int .i64 0]) Try.underlying40 hi hz0 hz1 hz2 rfl _ (C ++ leakTail 5) (n + 3) HN2.out rfl (HO2.out.upd (up_alloc _ _)) ([⟨39, 0, 0⟩]) _ rfl (inss_lit _ _ _ _ _ 1 _ (by simp) rfl rfl rfl (by unfold maxLen; omega)) rfl (by decide) 1 rfl (by omega) ?_))
          intro b3 c3 w3 ho hu hf
          have HUF := app_up (HU2.out.trans (up_alloc w2 (.cells #[.int .i64 39, .int .i64 0, .int .i64 0] 34)) (fun _ h _ => h)) HF2.out hu (fun k hk => by have h := hf k hk; simpa using h)
          try rw [← List.append_assoc] at ho
          have HO3 := Lib.hid ho
          have HU3 := Lib.hid HUF.1
          have HV : Hid (verifyP (leakI (C ++ leakTail 5 ++ [⟨39, 0, 0⟩])) 100 = some (0, n + 1, 12)) := Lib.hid (by
            have hv := HVF.out 5 (by decide) (by decide)
            rw [← HCE.out, HN.out, show leakCode (L.take 12) 5 = C ++ leakTail 5 ++ [⟨39, 0, 0⟩] by rw [HCE.out]; rfl] at hv
            simpa [leakYes, leakAt] using hv)
          clear ho hu hf HUF
          go_wp2_with fail
          have HIM := Lib.hid (img2 (w := w3) (g0 := w3.heap.size) (g1 := w3.heap.size + 1) (g2 := w3.heap.size + 1 + 1) (g3 := w3.heap.size + 1 + 1 + 1) (g4 := w3.heap.size + 1 + 1 + 1 + 1) HO3.out.inss rfl rfl rfl rfl rfl rfl)
          refine (vVerify _ _ (leakI (C ++ leakTail 5 ++ [⟨39, 0, 0⟩])) HIM.out.1 100 0 _ _ HV.out).mono ?_
          rintro e w7 ⟨rfl, hu7⟩
          have HU7 := Lib.hid (HU3.out.trans (HIM.out.2.trans hu7 (fun _ h _ => h)) (fun _ h _ => h))
          clear hu7
          go_wp2_with fail
          refine (known7 _).mono ?_
          rintro e w9 ⟨rfl, hu9⟩
          have HU9 := Lib.hid (HU7.out.trans (up1 hu9) (fun _ h _ => h))
          obtain ⟨y0, y1⟩ := box2c hu9
          clear hu9
          go_wp2_with fail
          go_ret
          exact ⟨rfl, HU9.out⟩
        · have HJ := Lib.hid hj
          clear hj
          go_wp2_with (first | (with_reducible refine (hPick x 9 _ (by omega) (by omega)).mono ?_; rw [HJ.out]; rintro e _ ⟨rfl, rfl⟩) | (at_builtin; go_loud (refine wp_append_code _ rfl _ _ 40 rfl i0 (.agg #[.int .i64 0, .int .i64 0, .int .i64 0]) Try.underlying40 hi hz0 hz1 hz2 rfl _ C n HN.out rfl (HO.out.upd (up_alloc _ _)) (leakTail 6) _ rfl (inss_lit _ _ _ _ _ 1 _ (by simp) rfl rfl rfl (by unfold maxLen; omega)) rfl (by decide) 1 rfl (by omega) ?_)))
          intro b2 c2 w2 ho hu hf
          have HUF := app_up (HU.out.trans (up_alloc wr (.cells #[.int .i64 3, .int .i64 1, .int .i64 0] 34)) (fun _ h _ => h)) HF.out hu (fun k hk => by have h := hf k hk; simpa using h)
          have HO2 := Lib.hid ho
          have HU2 := Lib.hid HUF.1
          have HF2 := Lib.hid HUF.2
          have HN2 : Hid ((C ++ leakTail 6).length = n + 1) := Lib.hid (by rw [List.length_append, HN.out]; rfl)
          clear ho hu hf HUF
          go_wp2_with (at_builtin; go_loud (refine wp_append_code _ rfl _ _ 40 rfl i0 (.agg #[.int .i64 0, .int .i64 0, .int .i64 0]) Try.underlying40 hi hz0 hz1 hz2 rfl _ (C ++ leakTail 6) (n + 1) HN2.out rfl (HO2.out.upd (up_alloc _ _)) ([⟨39, 0, 0⟩]) _ rfl (inss_lit _ _ _ _ _ 1 _ (by simp) rfl rfl rfl (by unfold maxLen; omega)) rfl (by decide) 1 rfl (by omega) ?_))
          intro b3 c3 w3 ho hu hf
          have HUF := app_up (HU2.out.trans (up_alloc w2 (.cells #[.int .i64 39, .int .i64 0, .int .i64 0] 34)) (fun _ h _ => h)) HF2.out hu (fun k hk => by have h := hf k hk; simpa using h)
          try rw [← List.append_assoc] at ho
          have HO3 := Lib.hid ho
          have HU3 := Lib.hid HUF.1
          have HV : Hid (verifyP (leakI (C ++ leakTail 6 ++ [⟨39, 0, 0⟩])) 100 = some (0, 0, 0)) := Lib.hid (by
            have hv := HVF.out 6 (by decide) (by decide)
            rw [← HCE.out, HN.out, show leakCode (L.take 12) 6 = C ++ leakTail 6 ++ [⟨39, 0, 0⟩] by rw [HCE.out]; rfl] at hv
            simpa [leakYes, leakAt] using hv)
          clear ho hu hf HUF
          go_wp2_with fail
          have HIM := Lib.hid (img2 (w := w3) (g0 := w3.heap.size) (g1 := w3.heap.size + 1) (g2 := w3.heap.size + 1 + 1) (g3 := w3.heap.size + 1 + 1 + 1) (g4 := w3.heap.size + 1 + 1 + 1 + 1) HO3.out.inss rfl rfl rfl rfl rfl rfl)
          refine (vVerify _ _ (leakI (C ++ leakTail 6 ++ [⟨39, 0, 0⟩])) HIM.out.1 100 0 _ _ HV.out).mono ?_
          rintro e w7 ⟨rfl, hu7⟩
          have HU7 := Lib.hid (HU3.out.trans (HIM.out.2.trans hu7 (fun _ h _ => h)) (fun _ h _ => h))
          clear hu7
          go_wp2_with fail
          refine (known7 _).mono ?_
          rintro e w9 ⟨rfl, hu9⟩
          have HU9 := Lib.hid (HU7.out.trans (up1 hu9) (fun _ h _ => h))
          obtain ⟨y0, y1⟩ := box2c hu9
          clear hu9
          go_wp2_with fail
          go_ret
          exact ⟨rfl, HU9.out⟩
        · have HJ := Lib.hid hj
          clear hj
          go_wp2_with (first | (with_reducible refine (hPick x 9 _ (by omega) (by omega)).mono ?_; rw [HJ.out]; rintro e _ ⟨rfl, rfl⟩) | (at_builtin; go_loud (refine wp_append_code _ rfl _ _ 40 rfl i0 (.agg #[.int .i64 0, .int .i64 0, .int .i64 0]) Try.underlying40 hi hz0 hz1 hz2 rfl _ C n HN.out rfl (HO.out.upd (up_alloc _ _)) (leakTail 7) _ rfl (inss_lit _ _ _ _ _ 1 _ (by simp) rfl rfl rfl (by unfold maxLen; omega)) rfl (by decide) 1 rfl (by omega) ?_)))
          intro b2 c2 w2 ho hu hf
          have HUF := app_up (HU.out.trans (up_alloc wr (.cells #[.int .i64 34, .int .i64 0, .int .i64 0] 34)) (fun _ h _ => h)) HF.out hu (fun k hk => by have h := hf k hk; simpa using h)
          have HO2 := Lib.hid ho
          have HU2 := Lib.hid HUF.1
          have HF2 := Lib.hid HUF.2
          have HN2 : Hid ((C ++ leakTail 7).length = n + 1) := Lib.hid (by rw [List.length_append, HN.out]; rfl)
          clear ho hu hf HUF
          go_wp2_with (at_builtin; go_loud (refine wp_append_code _ rfl _ _ 40 rfl i0 (.agg #[.int .i64 0, .int .i64 0, .int .i64 0]) Try.underlying40 hi hz0 hz1 hz2 rfl _ (C ++ leakTail 7) (n + 1) HN2.out rfl (HO2.out.upd (up_alloc _ _)) ([⟨39, 0, 0⟩]) _ rfl (inss_lit _ _ _ _ _ 1 _ (by simp) rfl rfl rfl (by unfold maxLen; omega)) rfl (by decide) 1 rfl (by omega) ?_))
          intro b3 c3 w3 ho hu hf
          have HUF := app_up (HU2.out.trans (up_alloc w2 (.cells #[.int .i64 39, .int .i64 0, .int .i64 0] 34)) (fun _ h _ => h)) HF2.out hu (fun k hk => by have h := hf k hk; simpa using h)
          try rw [← List.append_assoc] at ho
          have HO3 := Lib.hid ho
          have HU3 := Lib.hid HUF.1
          have HV : Hid (verifyP (leakI (C ++ leakTail 7 ++ [⟨39, 0, 0⟩])) 100 = some (0, 0, 0)) := Lib.hid (by
            have hv := HVF.out 7 (by decide) (by decide)
            rw [← HCE.out, HN.out, show leakCode (L.take 12) 7 = C ++ leakTail 7 ++ [⟨39, 0, 0⟩] by rw [HCE.out]; rfl] at hv
            simpa [leakYes, leakAt] using hv)
          clear ho hu hf HUF
          go_wp2_with fail
          have HIM := Lib.hid (img2 (w := w3) (g0 := w3.heap.size) (g1 := w3.heap.size + 1) (g2 := w3.heap.size + 1 + 1) (g3 := w3.heap.size + 1 + 1 + 1) (g4 := w3.heap.size + 1 + 1 + 1 + 1) HO3.out.inss rfl rfl rfl rfl rfl rfl)
          refine (vVerify _ _ (leakI (C ++ leakTail 7 ++ [⟨39, 0, 0⟩])) HIM.out.1 100 0 _ _ HV.out).mono ?_
          rintro e w7 ⟨rfl, hu7⟩
          have HU7 := Lib.hid (HU3.out.trans (HIM.out.2.trans hu7 (fun _ h _ => h)) (fun _ h _ => h))
          clear hu7
          go_wp2_with fail
          refine (known7 _).mono ?_
          rintro e w9 ⟨rfl, hu9⟩
          have HU9 := Lib.hid (HU7.out.trans (up1 hu9) (fun _ h _ => h))
          obtain ⟨y0, y1⟩ := box2c hu9
          clear hu9
          go_wp2_with fail
          go_ret
          exact ⟨rfl, HU9.out⟩
        · have HJ := Lib.hid hj
          clear hj
          go_wp2_with (first | (with_reducible refine (hPick x 9 _ (by omega) (by omega)).mono ?_; rw [HJ.out]; rintro e _ ⟨rfl, rfl⟩) | (at_builtin; go_loud (refine wp_append_code _ rfl _ _ 40 rfl i0 (.agg #[.int .i64 0, .int .i64 0, .int .i64 0]) Try.underlying40 hi hz0 hz1 hz2 rfl _ C n HN.out rfl (HO.out.upd (up_alloc _ _)) (leakTail 8) _ rfl (inss_lit _ _ _ _ _ 1 _ (by simp) rfl rfl rfl (by unfold maxLen; omega)) rfl (by decide) 1 rfl (by omega) ?_)))
          intro b2 c2 w2 ho hu hf
          have HUF := app_up (HU.out.trans (up_alloc wr (.cells #[.int .i64 4, .int .i64 0, .int .i64 0] 34)) (fun _ h _ => h)) HF.out hu (fun k hk => by have h := hf k hk; simpa using h)
          have HO2 := Lib.hid ho
          have HU2 := Lib.hid HUF.1
          have HF2 := Lib.hid HUF.2
          have HN2 : Hid ((C ++ leakTail 8).length = n + 1) := Lib.hid (by rw [List.length_append, HN.out]; rfl)
          clear ho hu hf HUF
          go_wp2_with (at_builtin; go_loud (refine wp_append_code _ rfl _ _ 40 rfl i0 (.agg #[.int .i64 0, .int .i64 0, .int .i64 0]) Try.underlying40 hi hz0 hz1 hz2 rfl _ (C ++ leakTail 8) (n + 1) HN2.out rfl (HO2.out.upd (up_alloc _ _)) ([⟨39, 0, 0⟩]) _ rfl (inss_lit _ _ _ _ _ 1 _ (by simp) rfl rfl rfl (by unfold maxLen; omega)) rfl (by decide) 1 rfl (by omega) ?_))
          intro b3 c3 w3 ho hu hf
          have HUF := app_up (HU2.out.trans (up_alloc w2 (.cells #[.int .i64 39, .int .i64 0, .int .i64 0] 34)) (fun _ h _ => h)) HF2.out hu (fun k hk => by have h := hf k hk; simpa using h)
          try rw [← List.append_assoc] at ho
          have HO3 := Lib.hid ho
          have HU3 := Lib.hid HUF.1
          have HV : Hid (verifyP (leakI (C ++ leakTail 8 ++ [⟨39, 0, 0⟩])) 100 = some (0, 0, 0)) := Lib.hid (by
            have hv := HVF.out 8 (by decide) (by decide)
            rw [← HCE.out, HN.out, show leakCode (L.take 12) 8 = C ++ leakTail 8 ++ [⟨39, 0, 0⟩] by rw [HCE.out]; rfl] at hv
            simpa [leakYes, leakAt] using hv)
          clear ho hu hf HUF
          go_wp2_with fail
          have HIM := Lib.hid (img2 (w := w3) (g0 := w3.heap.size) (g1 := w3.heap.size + 1) (g2 := w3.heap.size + 1 + 1) (g3 := w3.heap.size + 1 + 1 + 1) (g4 := w3.heap.size + 1 + 1 + 1 + 1) HO3.out.inss rfl rfl rfl rfl rfl rfl)
          refine (vVerify _ _ (leakI (C ++ leakTail 8 ++ [⟨39, 0, 0⟩])) HIM.out.1 100 0 _ _ HV.out).mono ?_
          rintro e w7 ⟨rfl, hu7⟩
          have HU7 := Lib.hid (HU3.out.trans (HIM.out.2.trans hu7 (fun _ h _ => h)) (fun _ h _ => h))
          clear hu7
          go_wp2_with fail
          refine (known7 _).mono ?_
          rintro e w9 ⟨rfl, hu9⟩
          have HU9 := Lib.hid (HU7.out.trans (up1 hu9) (fun _ h _ => h))
          obtain ⟨y0, y1⟩ := box2c hu9
          clear hu9
          go_wp2_with fail
          go_ret
          exact ⟨rfl, HU9.out⟩
theorem leaks_below (w : World) (v : Value) (x : Int) (L : List Int) (h : Ints w v L) (hx : wi64 x) : Calls Try.prog 4 #[v, .int .i64 x] w fun e w' => e = .returned (.bool true) ∧ Below w.heap.size w w' := (leaks_walk w v x L h hx).mono fun _ _ h => ⟨h.1, lbBelow h.2⟩
end Go.Proofs.Ytebgmpggedeplaa

/- Several texts in one. -/
import Derived.Test.YtmikibcgphkcfaaGreatDoorTDk
import Derived.Test.YtmikibcgphkcfaaGreatDoorMs
/- The reference's text: names of kinds, words. -/
namespace Go.Proofs.YtmikibcgphkcfaaGreatDoor
section
open Go.RowKit Go.Shelf Go.Lib
set_option linter.unusedVariables false
set_option linter.unusedSimpArgs false

set_option maxRecDepth 100000 in
theorem ixKind (k : Nat) (hk : k < 5) : ∀ w : World, (Instr.index 58 (.agg #[.string { data := #[110, 111, 110, 101] }, .string { data := #[112, 117, 98] }, .string { data := #[115, 101, 99] }, .string { data := #[112, 117, 98, 97] }, .string { data := #[115, 101, 99, 97] }]) (.int .i64 k)).run Tryz.prog w = .ok (.string (bs (kindT k))) w := by
  rcases (by omega : k = 0 ∨ k = 1 ∨ k = 2 ∨ k = 3 ∨ k = 4) with rfl | rfl | rfl | rfl | rfl <;> exact fun w => by kernel_rfl
set_option maxRecDepth 100000 in
theorem rKindName (k : Int) (w : World) : Calls Tryz.prog 11 #[.int .i64 k] w fun e w' => e = .returned (.string (bs (kindT k))) ∧ w = w' := by
  by_cases h : 0 ≤ k ∧ k ≤ 4
  · obtain ⟨n, rfl⟩ : ∃ n : Nat, k = n := ⟨k.toNat, by omega⟩
    have hix := ixKind n (by omega)
    have h1 : ¬ ((n : Int) < 0) := by omega
    have h2 : ¬ (4 < (n : Int)) := by omega
    go_enter Tryz.func11, Tryz.ntmps11
    go_wp2_with fail
    go_ret
    exact ⟨rfl, rfl⟩
  · have e : kindT k = [] := by
      unfold kindT
      by_cases h0 : 0 ≤ k
      · have : ¬ k ≤ 4 := fun hh => h ⟨h0, hh⟩
        simp [h0, this]
      · simp [h0]
    rw [e]
    by_cases h0 : k < 0
    · go_enter Tryz.func11, Tryz.ntmps11
      go_wp2_with fail
      go_ret
      exact ⟨rfl, rfl⟩
    · have h4 : 4 < k := by omega
      go_enter Tryz.func11, Tryz.ntmps11
      go_wp2_with fail
      go_ret
      exact ⟨rfl, rfl⟩
theorem tl_take {ks : List Int} {k : Nat} (h : k < ks.length) : tl ((ks.take (k + 1)).map kindT) = tl ((ks.take k).map kindT) ++ (32 :: kindT (ks.getD k 0)) := by
  rw [List.take_add_one, List.map_append, tl_app, List.getElem?_eq_getElem h]
  simp [tl, List.getD, h]
theorem tl_kinds_len (ks : List Int) : (tl (ks.map kindT)).length ≤ 5 * ks.length := by
  induction ks with
  | nil => simp [tl]
  | cons k ks ih =>
    have := kindT_len k
    simp [tl]
    omega
set_option maxRecDepth 100000 in
set_option maxHeartbeats 2000000 in
theorem rWords (w : World) (v : Value) (ks : List Int) (h : Ints w v ks) (hk : ks.length ≤ 1000) : Calls Tryz.prog 22 #[v] w fun e w' => e = .returned (.string (bs (tl (ks.map kindT)))) ∧ w = w' := by
  have HI := Lib.hid h
  obtain ⟨a, c, rfl, -⟩ := ints_at h (Upd.refl _ w)
  have HKL := Lib.hid hk
  clear h hk
  go_enter Tryz.func22, Tryz.ntmps22
  go_wp2_with fail
  go_loopw [3, 4] (fun sv iv wr => ∃ (k : Nat) (x : By), k ≤ ks.length ∧ iv = .int .i64 k ∧ sv = .string (bs x) ∧ Hid (x = tl ((ks.take k).map kindT)) ∧ w = wr) (fun _ iv _ => ks.length - (RowKit.intOf iv).toNat)
  case atStart => exact ⟨0, [], Nat.zero_le _, rfl, rfl, Lib.hid (by simp [tl]), rfl⟩
  case round =>
    obtain ⟨k, x, hk, rfl, rfl, HX, rfl⟩ := hrel
    by_cases hlt : k < ks.length
    · obtain ⟨a', c', he, hat⟩ := ints_at HI.out (Upd.refl _ w)
      obtain ⟨g, off, hg, c0⟩ := hat k hlt
      simp at he
      obtain ⟨rfl, rfl⟩ := he
      subst hg
      clear hat
      have HT := Lib.hid (tl_take hlt)
      have HXL : Hid (x.length ≤ 5000) := Lib.hid (by
        rw [HX.out]
        have h1 := tl_kinds_len (ks.take k)
        have h2 := HKL.out
        rw [List.length_take] at h1
        omega)
      obtain ⟨m, hm⟩ : ∃ m, m = ks.getD k 0 := ⟨_, rfl⟩
      rw [← hm] at c0 HT
      clear hm
      have hk3 : (k : Int) + 1 ≤ 9223372036854775807 := by have := HKL.out; omega
      have hi1 : (0 : Int) ≤ (k : Int) := Int.natCast_nonneg _
      have hi2 : (k : Int) < (ks.length : Int) := by omega
      have hxz := bs_size x
      have hxl := HXL.out
      have hml := kindT_len m
      have hmz := bs_size (kindT m)
      have hap1 : bs x ++ ({ data := #[32] } : ByteArray) = bs (x ++ [32]) := bs_app x [32]
      have hyz := bs_size (x ++ [32])
      have hyl : (x ++ [32]).length = x.length + 1 := by simp
      have hap2 : bs (x ++ [32]) ++ bs (kindT m) = bs (x ++ [32] ++ kindT m) := bs_app _ _
      go_wp2_with fail
      refine (rKindName m w).mono ?_
      rintro e w2 ⟨rfl, rfl⟩
      go_wp2_with fail
      go_roundw
      case rel => exact ⟨k + 1, x ++ 32 :: kindT m, hlt, by go_num, rfl, Lib.hid (by rw [HT.out, ← HX.out]), trivial⟩
      case measure => simp [RowKit.intOf]; omega
    · obtain rfl : k = ks.length := by omega
      have HE : Hid (x = tl (ks.map kindT)) := Lib.hid (by rw [HX.out, List.take_length])
      go_wp2_with fail
      go_ret
      refine ⟨?_, rfl⟩
      rw [← HE.out]
      rfl
end
end Go.Proofs.YtmikibcgphkcfaaGreatDoor
/- The reference's text: Digits. -/
namespace Go.Proofs.YtmikibcgphkcfaaGreatDoor
section
open Go.RowKit Go.Shelf Go.Lib
set_option linter.unusedVariables false
set_option linter.unusedSimpArgs false

theorem pOp_mk {P : Program} {ops : Array Oper} {Q : Exit → Act → World → Prop} {i : Nat} {o : Oper} {K : Act → World → Prop} {a : Act} {w : World} (ho : ops[i]? = some o)
    (h : if Region.wanted o (yielded ops a.tmps) = true then Oper.wp P o a w K Q else K (a.put o.dst undef) w) : wpOp P ops Q i K a w := by
  unfold wpOp
  simp only [ho]
  split
  · rename_i hw
    rw [if_pos hw] at h
    exact .inl h
  · rename_i hw
    rw [if_neg hw] at h
    exact h
theorem pHL_two {P : Program} {ops : Array Oper} {Q : Exit → Act → World → Prop} {md : Region.Mode} {S : World → Prop} {n i j : Nat} {oi oj : Oper} {L : Array Bool → Act → World → Prop} {f : Nat} {listed : Array Bool} {a : Act} {w : World} (hoi : ops[i]? = some oi) (hoj : ops[j]? = some oj) (hr : Region.ready md ops listed = [i, j]) (hin : i < n) (hjn : j < n)
    (h1 : ∀ K : Act → World → Prop, (∀ a' w', S w' → wpHL P md ops Q S n L f (listed.setIfInBounds i true) a' w' → K a' w') → if Region.wanted oi (yielded ops a.tmps) = true then Oper.wp P oi a w K Q else K (a.put oi.dst undef) w)
    (h2 : ∀ K : Act → World → Prop, (∀ a' w', S w' → wpHL P md ops Q S n L f (listed.setIfInBounds j true) a' w' → K a' w') → if Region.wanted oj (yielded ops a.tmps) = true then Oper.wp P oj a w K Q else K (a.put oj.dst undef) w) : wpHL P md ops Q S n L (f + 1) listed a w := by
  refine ⟨by rw [hr]; simp, fun k hk => ?_⟩
  rw [hr] at hk
  simp at hk
  rcases hk with rfl | rfl
  · exact ⟨hin, pOp_mk hoi (h1 _ (fun a' w' g1 g2 => ⟨g1, g2⟩))⟩
  · exact ⟨hjn, pOp_mk hoj (h2 _ (fun a' w' g1 g2 => ⟨g1, g2⟩))⟩
theorem pHL_1 {P : Program} {ops : Array Oper} {Q : Exit → Act → World → Prop} {md : Region.Mode} {S : World → Prop} {n i : Nat} {o : Oper} {L : Array Bool → Act → World → Prop} {f : Nat} {listed : Array Bool} {a : Act} {w : World} (ho : ops[i]? = some o) (hr : Region.ready md ops listed = [i]) (hin : i < n)
    (h : ∀ K : Act → World → Prop, Hid (∀ a' w', S w' → wpHL P md ops Q S n L f (listed.setIfInBounds i true) a' w' → K a' w') → if Region.wanted o (yielded ops a.tmps) = true then Oper.wp P o a w K Q else K (a.put o.dst undef) w) : wpHL P md ops Q S n L (f + 1) listed a w := wpHL_step ho hr hin (fun K hK => h K (Lib.hid hK))
theorem pHL_2 {P : Program} {ops : Array Oper} {Q : Exit → Act → World → Prop} {md : Region.Mode} {S : World → Prop} {n i j : Nat} {oi oj : Oper} {L : Array Bool → Act → World → Prop} {f : Nat} {listed : Array Bool} {a : Act} {w : World} (hoi : ops[i]? = some oi) (hoj : ops[j]? = some oj) (hr : Region.ready md ops listed = [i, j]) (hin : i < n) (hjn : j < n)
    (h1 : ∀ K : Act → World → Prop, Hid (∀ a' w', S w' → wpHL P md ops Q S n L f (listed.setIfInBounds i true) a' w' → K a' w') → if Region.wanted oi (yielded ops a.tmps) = true then Oper.wp P oi a w K Q else K (a.put oi.dst undef) w)
    (h2 : ∀ K : Act → World → Prop, Hid (∀ a' w', S w' → wpHL P md ops Q S n L f (listed.setIfInBounds j true) a' w' → K a' w') → if Region.wanted oj (yielded ops a.tmps) = true then Oper.wp P oj a w K Q else K (a.put oj.dst undef) w) : wpHL P md ops Q S n L (f + 1) listed a w := pHL_two hoi hoj hr hin hjn (fun K hK => h1 K (Lib.hid hK)) (fun K hK => h2 K (Lib.hid hK))
theorem oneStr (d : Nat) (hd : d < 10) (w W : World) (hu : Upd (fun _ => False) (w.alloc (.cells #[.int .u8 (48 + d : Int)] 5)) W) : (convert 47 9 (.slice (some ⟨w.heap.size, 0, none⟩) 1 1)).run Tryz.prog W = .ok (.string (bs [UInt8.ofNat (48 + d)])) W := by
  have h : Vw W (.slice (some ⟨w.heap.size, 0, none⟩) 1 1) [(48 + d : Int)] := Vw.upd (vw_lit w 5 (0, 0) [(48 + d : Int)] #[.int .u8 (48 + d : Int)] 1 1 rfl rfl (by omega) (by unfold maxLen; omega) (by intro y hy; simp at hy; omega)) hu (fun _ _ h => h)
  rw [run_str Tryz.underlying47 Tryz.underlying5 Tryz.underlying9 h]
  have e : strOfNums [(48 + d : Int)] = bs [UInt8.ofNat (48 + d)] := by
    rcases (by omega : d = 0 ∨ d = 1 ∨ d = 2 ∨ d = 3 ∨ d = 4 ∨ d = 5 ∨ d = 6 ∨ d = 7 ∨ d = 8 ∨ d = 9) with rfl | rfl | rfl | rfl | rfl | rfl | rfl | rfl | rfl | rfl <;> rfl
  rw [e]
theorem decDigits_step {u : Nat} (h : ¬ u < 10) : decDigits u = decDigits (u / 10) ++ [UInt8.ofNat (48 + u % 10)] := by
  rw [decDigits, dif_neg h]
theorem u8_in (x : Int) (h0 : 0 ≤ x) (h1 : x ≤ 255) : IntKind.u8.wrap x = x := by
  simp [IntKind.wrap, IntKind.signed, IntKind.bits] 
  omega
set_option maxRecDepth 100000 in
set_option maxHeartbeats 2000000 in
theorem rBelow : ∀ (u : Nat) (w : World), u ≤ 9223372036854775808 → Calls Tryz.prog 48 #[.int .i64 (-(u : Int))] w fun e w' => e = .returned (.string (bs (decDigits u))) ∧ Upd (fun _ => False) w w' := by
  intro u
  induction u using Nat.strongRecOn with
  | ind u ih =>
    intro w hu
    by_cases h10 : u < 10
    · obtain ⟨n, hn⟩ : ∃ n : Int, n = -(u : Int) := ⟨_, rfl⟩
      rw [← hn]
      have hd := oneStr u h10 w _ (Upd.refl _ _)
      have h1 : -10 < n := by omega
      have h2 : (48 : Int) - n = 48 + u := by omega
      have h3 : IntKind.i64.wrap (48 + (u : Int)) = 48 + u := Go.IntWalk.i64_in _ (by omega)
      have h4 := u8_in (48 + (u : Int)) (by omega) (by omega)
      have HU := Lib.hid (Upd.alloc (fun _ => False) w (.cells #[.int .u8 (48 + u : Int)] 5))
      rw [← decDigits_one h10] at hd
      obtain ⟨D, hD⟩ : ∃ D, D = decDigits u := ⟨_, rfl⟩
      rw [← hD] at hd ⊢
      clear hD
      go_enter Tryz.func48, Tryz.ntmps48
      go_wp2_with fail
      go_ret
      exact ⟨rfl, HU.out⟩
    · obtain ⟨n, hn⟩ : ∃ n : Int, n = -(u : Int) := ⟨_, rfl⟩
      rw [← hn]
      have h1 : ¬ (-10 < n) := by omega
      have hq : n.tdiv 10 = -((u / 10 : Nat) : Int) := by rw [hn, Int.neg_tdiv]; rfl
      have hm : n.tmod 10 = -((u % 10 : Nat) : Int) := by rw [hn, Int.neg_tmod]; rfl
      obtain ⟨q, hq0⟩ : ∃ q, q = u / 10 := ⟨_, rfl⟩
      obtain ⟨d, hd0⟩ : ∃ d, d = u % 10 := ⟨_, rfl⟩
      rw [← hq0] at hq
      rw [← hd0] at hm
      have hd10 : d < 10 := by omega
      have hS := ih q (by omega)
      have HIH : Hid (∀ w, Calls Tryz.prog 48 #[.int .i64 (-(q : Int))] w fun e w' => e = .returned (.string (bs (decDigits q))) ∧ Upd (fun _ => False) w w') := Lib.hid (fun w => hS w (by omega))
      have HE : Hid (decDigits u = decDigits q ++ [UInt8.ofNat (48 + d)]) := Lib.hid (by rw [hq0, hd0]; exact decDigits_step h10)
      have h2 : (48 : Int) - (-(d : Int)) = 48 + d := by omega
      have h3 : IntKind.i64.wrap (48 + (d : Int)) = 48 + d := Go.IntWalk.i64_in _ (by omega)
      have h4 := u8_in (48 + (d : Int)) (by omega) (by omega)
      have h5 : IntKind.i64.wrap (-(q : Int)) = -(q : Int) := Go.IntWalk.i64_in _ (by omega)
      have h6 : IntKind.i64.wrap (-(d : Int)) = -(d : Int) := Go.IntWalk.i64_in _ (by omega)
      have hql : q ≤ 922337203685477580 := by omega
      have hlen : (decDigits q).length ≤ 20 := by rw [decDigits_length]; exact nDigits_le20 q (by omega)
      have HLEN := Lib.hid hlen
      obtain ⟨D, hD⟩ : ∃ D, D = [UInt8.ofNat (48 + d)] := ⟨_, rfl⟩
      have hDl : D.length = 1 := by rw [hD]; rfl
      rw [← hD] at HE
      have HC : Hid (∀ w W : World, Upd (fun _ => False) (w.alloc (.cells #[.int .u8 (48 + d : Int)] 5)) W → (convert 47 9 (.slice (some ⟨w.heap.size, 0, none⟩) 1 1)).run Tryz.prog W = .ok (.string (bs D)) W) := Lib.hid (by rw [hD]; exact fun w W h => oneStr d hd10 w W h)
      clear hq0 hd0 hS ih hn hlen hD
      go_enter Tryz.func48, Tryz.ntmps48
      go_upto_region 3 with fail
      refine wp_region_last (S := fun _ => True) 10 _ (by kernel_rfl) (by kernel_rfl) rfl ?_
      change wpHL _ _ _ _ _ _ _ _ _ _ w.drew
      have HU0 : Hid (Upd (fun _ => False) w w.drew) := Lib.hid (Upd.drew _ _)
      generalize w.drew = w0 at HU0 ⊢
      refine wpHL_take (i := 0) (v := ?_) rfl (by kernel_rfl) (fun _ _ _ h => h) trivial (Or.inl ⟨by rfl, ?_⟩) ?_
      rotate_left
      · (intro w hSw; (try dsimp only at hSw); go_simp; try with_reducible rfl)
      simp only [Act.put, List.getElem_toArray, List.getElem_cons_succ, List.getElem_cons_zero, List.setIfInBounds_toArray, List.set_cons_zero, List.set_cons_succ]
      refine wpHL_take (i := 1) (v := ?_) rfl (by kernel_rfl) (fun _ _ _ h => h) trivial (Or.inl ⟨by rfl, ?_⟩) ?_
      rotate_left
      · (intro w hSw; (try dsimp only at hSw); go_simp; try with_reducible rfl)
      simp only [Act.put, List.getElem_toArray, List.getElem_cons_succ, List.getElem_cons_zero, List.setIfInBounds_toArray, List.set_cons_zero, List.set_cons_succ]
      refine wpHL_take (i := 3) (v := ?_) rfl (by kernel_rfl) (fun _ _ _ h => h) trivial (Or.inl ⟨by rfl, ?_⟩) ?_
      rotate_left
      · (intro w hSw; (try dsimp only at hSw); go_simp; try with_reducible rfl)
      simp only [Act.put, List.getElem_toArray, List.getElem_cons_succ, List.getElem_cons_zero, List.setIfInBounds_toArray, List.set_cons_zero, List.set_cons_succ]
      refine wpHL_take (i := 4) (v := ?_) rfl (by kernel_rfl) (fun _ _ _ h => h) trivial (Or.inl ⟨by rfl, ?_⟩) ?_
      rotate_left
      · (intro w hSw; (try dsimp only at hSw); go_simp; try with_reducible rfl)
      simp only [Act.put, List.getElem_toArray, List.getElem_cons_succ, List.getElem_cons_zero, List.setIfInBounds_toArray, List.set_cons_zero, List.set_cons_succ]
      refine wpHL_take (i := 5) (v := ?_) rfl (by kernel_rfl) (fun _ _ _ h => h) trivial (Or.inl ⟨by rfl, ?_⟩) ?_
      rotate_left
      · (intro w hSw; (try dsimp only at hSw); go_simp; try with_reducible rfl)
      simp only [Act.put, List.getElem_toArray, List.getElem_cons_succ, List.getElem_cons_zero, List.setIfInBounds_toArray, List.set_cons_zero, List.set_cons_succ]
      refine wpHL_take (i := 6) (v := ?_) rfl (by kernel_rfl) (fun _ _ _ h => h) trivial (Or.inl ⟨by rfl, ?_⟩) ?_
      rotate_left
      · (intro w hSw; (try dsimp only at hSw); go_simp; try with_reducible rfl)
      simp only [Act.put, List.getElem_toArray, List.getElem_cons_succ, List.getElem_cons_zero, List.setIfInBounds_toArray, List.set_cons_zero, List.set_cons_succ]
      refine pHL_2 (i := 2) (j := 7) rfl rfl (by kernel_rfl) (by decide) (by decide) (fun K HK0 => ?_) (fun K HK0 => ?_)
      · go_simp
        refine (HIH.out w0).mono ?_
        rintro e w1 ⟨rfl, hu1⟩
        refine HK0.out _ _ trivial ?_
        try simp only [Act.put, List.getElem_toArray, List.getElem_cons_succ, List.getElem_cons_zero, List.setIfInBounds_toArray, List.set_cons_zero, List.set_cons_succ]
        clear HK0
        refine pHL_1 (i := 7) rfl (by kernel_rfl) (by decide) (fun K HK0 => ?_)
        go_simp
        refine HK0.out _ _ trivial ?_
        try simp only [Act.put, List.getElem_toArray, List.getElem_cons_succ, List.getElem_cons_zero, List.setIfInBounds_toArray, List.set_cons_zero, List.set_cons_succ]
        clear HK0
        refine pHL_1 (i := 8) rfl (by kernel_rfl) (by decide) (fun K HK0 => ?_)
        have hc := HC.out w1 _ (Upd.refl _ _)
        go_simp
        refine HK0.out _ _ trivial ?_
        try simp only [Act.put, List.getElem_toArray, List.getElem_cons_succ, List.getElem_cons_zero, List.setIfInBounds_toArray, List.set_cons_zero, List.set_cons_succ]
        clear HK0
        have hap := bs_app (decDigits q) D
        rw [← HE.out] at hap
        have hz := bs_size (decDigits q)
        have hl := HLEN.out
        have hz2 := bs_size D
        refine wpHL_take (i := 9) (v := .string (bs (decDigits u))) rfl (by kernel_rfl) (fun _ _ _ h => h) trivial (Or.inl ⟨by rfl, ?_⟩) ?_
        · intro w hSw
          go_simp
          omega
        simp only [Act.put, List.getElem_toArray, List.getElem_cons_succ, List.getElem_cons_zero, List.setIfInBounds_toArray, List.set_cons_zero, List.set_cons_succ]
        refine wpHL_last (by kernel_rfl) ?_
        go_wp2_with fail
        go_ret
        exact ⟨rfl, (HU0.out.trans hu1 (fun _ h _ => h)).trans (Upd.alloc _ _ _) (fun _ h _ => h)⟩
      · go_simp
        refine HK0.out _ _ trivial ?_
        try simp only [Act.put, List.getElem_toArray, List.getElem_cons_succ, List.getElem_cons_zero, List.setIfInBounds_toArray, List.set_cons_zero, List.set_cons_succ]
        clear HK0
        refine pHL_2 (i := 2) (j := 8) rfl rfl (by kernel_rfl) (by decide) (by decide) (fun K HK0 => ?_) (fun K HK0 => ?_)
        · go_simp
          refine (HIH.out (w0.alloc (.cells #[.int .u8 (48 + d : Int)] 5))).mono ?_
          rintro e w1 ⟨rfl, hu1⟩
          refine HK0.out _ _ trivial ?_
          try simp only [Act.put, List.getElem_toArray, List.getElem_cons_succ, List.getElem_cons_zero, List.setIfInBounds_toArray, List.set_cons_zero, List.set_cons_succ]
          clear HK0
          refine pHL_1 (i := 8) rfl (by kernel_rfl) (by decide) (fun K HK0 => ?_)
          have hc := HC.out w0 _ hu1
          go_simp
          refine HK0.out _ _ trivial ?_
          try simp only [Act.put, List.getElem_toArray, List.getElem_cons_succ, List.getElem_cons_zero, List.setIfInBounds_toArray, List.set_cons_zero, List.set_cons_succ]
          clear HK0
          have hap := bs_app (decDigits q) D
          rw [← HE.out] at hap
          have hz := bs_size (decDigits q)
          have hl := HLEN.out
          have hz2 := bs_size D
          refine wpHL_take (i := 9) (v := .string (bs (decDigits u))) rfl (by kernel_rfl) (fun _ _ _ h => h) trivial (Or.inl ⟨by rfl, ?_⟩) ?_
          · intro w hSw
            go_simp
            omega
          simp only [Act.put, List.getElem_toArray, List.getElem_cons_succ, List.getElem_cons_zero, List.setIfInBounds_toArray, List.set_cons_zero, List.set_cons_succ]
          refine wpHL_last (by kernel_rfl) ?_
          go_wp2_with fail
          go_ret
          exact ⟨rfl, (HU0.out.trans (Upd.alloc _ _ _) (fun _ h _ => h)).trans hu1 (fun _ h _ => h)⟩
        · have hc := HC.out w0 _ (Upd.refl _ _)
          go_simp
          refine HK0.out _ _ trivial ?_
          try simp only [Act.put, List.getElem_toArray, List.getElem_cons_succ, List.getElem_cons_zero, List.setIfInBounds_toArray, List.set_cons_zero, List.set_cons_succ]
          clear HK0
          refine pHL_1 (i := 2) rfl (by kernel_rfl) (by decide) (fun K HK0 => ?_)
          go_simp
          refine (HIH.out (w0.alloc (.cells #[.int .u8 (48 + d : Int)] 5))).mono ?_
          rintro e w1 ⟨rfl, hu1⟩
          refine HK0.out _ _ trivial ?_
          try simp only [Act.put, List.getElem_toArray, List.getElem_cons_succ, List.getElem_cons_zero, List.setIfInBounds_toArray, List.set_cons_zero, List.set_cons_succ]
          clear HK0
          have hap := bs_app (decDigits q) D
          rw [← HE.out] at hap
          have hz := bs_size (decDigits q)
          have hl := HLEN.out
          have hz2 := bs_size D
          refine wpHL_take (i := 9) (v := .string (bs (decDigits u))) rfl (by kernel_rfl) (fun _ _ _ h => h) trivial (Or.inl ⟨by rfl, ?_⟩) ?_
          · intro w hSw
            go_simp
            omega
          simp only [Act.put, List.getElem_toArray, List.getElem_cons_succ, List.getElem_cons_zero, List.setIfInBounds_toArray, List.set_cons_zero, List.set_cons_succ]
          refine wpHL_last (by kernel_rfl) ?_
          go_wp2_with fail
          go_ret
          exact ⟨rfl, (HU0.out.trans (Upd.alloc _ _ _) (fun _ h _ => h)).trans hu1 (fun _ h _ => h)⟩
set_option maxRecDepth 100000 in
set_option maxHeartbeats 2000000 in
theorem rDigits (n : Int) (hn : wi64 n) (w : World) : Calls Tryz.prog 21 #[.int .i64 n] w fun e w' => e = .returned (.string (bs (itoa n))) ∧ Upd (fun _ => False) w w' := by
  obtain ⟨h0, h1⟩ := hn
  by_cases hneg : n < 0
  · obtain ⟨u, rfl⟩ : ∃ u : Nat, n = -(u : Int) := ⟨n.natAbs, by omega⟩
    have hb := rBelow u w (by omega)
    have HI := Lib.hid (itoa_neg u (by omega))
    have hap := bs_app [45] (decDigits u)
    have hz := bs_size (decDigits u)
    have hl : (decDigits u).length ≤ 20 := by rw [decDigits_length]; exact nDigits_le20 u (by omega)
    have HB := Lib.hid hb
    clear hb
    have hm1 : (-(u : Int)) < 0 := hneg
    generalize -(u : Int) = m at *
    go_enter Tryz.func21, Tryz.ntmps21
    go_wp2_with fail
    refine HB.out.mono ?_
    rintro e w1 ⟨rfl, hu1⟩
    go_wp2_with fail
    go_ret
    refine ⟨?_, hu1⟩
    rw [HI.out]
    exact congrArg (fun z => Ending.returned (.string z)) hap
  · obtain ⟨u, rfl⟩ : ∃ u : Nat, n = (u : Int) := ⟨n.toNat, by omega⟩
    have HB := Lib.hid (rBelow u w (by omega))
    have HI := Lib.hid (itoa_nonneg u)
    have hm1 : ¬ ((u : Int) < 0) := hneg
    have hm2 : IntKind.i64.wrap (-(u : Int)) = -(u : Int) := Go.IntWalk.i64_in _ (by omega)
    go_enter Tryz.func21, Tryz.ntmps21
    go_wp2_with fail
    refine HB.out.mono ?_
    rintro e w1 ⟨rfl, hu1⟩
    go_wp2_with fail
    go_ret
    rw [HI.out]
    exact ⟨rfl, hu1⟩
end
end Go.Proofs.YtmikibcgphkcfaaGreatDoor

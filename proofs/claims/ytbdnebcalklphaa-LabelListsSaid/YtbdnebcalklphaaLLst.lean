/- The walk of LabelLists. -/
import Derived.Test.YtbdnebcalklphaaLc
namespace Go.Proofs.Ytbdnebcalklphaa
open Go.RowKit Go.Lib
set_option linter.unusedVariables false

theorem lbEmpty (w : World) (e : TypeId) (size c : Nat) : (w.alloc (.cells #[] e)).ownsRow 0 e size (.slice (some ⟨w.heap.size, 0, none⟩) 0 0) 0 [] := by
  refine ⟨by simp, .inr ⟨w.heap.size, 0, #[], rfl, Nat.zero_le _, ?_, Nat.le_refl _, by unfold maxLen; omega, by simp, by simp⟩⟩
  show (w.heap.push _)[w.heap.size]? = _
  simp
theorem lbPick (n m : Int) (w : World) (hm : 1 ≤ m) (hm2 : m ≤ 9223372036854775807) :
    Calls Try.prog 23 #[.int .i64 n, .int .i64 m] w fun e w' => ∃ k : Nat, e = .returned (.int .i64 k) ∧ (k : Int) < m ∧ w = w' := by
  refine (hPick n m w hm hm2).mono fun e w' ⟨h1, h2⟩ => ?_
  have h3 := Int.emod_nonneg n (b := m) (by omega)
  have h4 := Int.emod_lt_of_pos n (b := m) (by omega)
  exact ⟨(n % m).toNat, by rw [h1]; congr 2; omega, by omega, h2⟩
theorem lbOne (L : List Int) : ∀ u ∈ lv L, u.oneCell' = true := by
  intro u hu
  obtain ⟨n, _, rfl⟩ := List.mem_map.1 hu
  rfl
theorem lv_set (L : List Int) (k : Nat) (u : Int) : (lv L).set k (.int .i64 u) = lv (L.set k u) := by unfold lv; rw [List.map_set]
theorem beqB (x : Bool) : (x == x) = true := by simp
theorem lists_eq (A : List Int) : allB eqB A A = true := allB_eq.2 rfl

set_option maxRecDepth 100000 in
set_option maxHeartbeats 20000000 in
theorem lists_walk (w : World) (v1 v2 : Value) (near : Bool) (turn : Int) (A B : List Int) (h1 : Ints w v1 A) (h2 : Ints w v2 B) (ht1 : -9223372036854775808 ≤ turn) (ht2 : turn ≤ 9223372036854775807) :
    Calls Try.prog 4 #[v1, v2, .bool near, .int .i64 turn] w fun e w' => e = .returned (.bool true) ∧ Upd (fun _ => False) w w' := by
  obtain ⟨i0, hi, hz0, hz1, hz2⟩ := info_parts lbInfo
  have HA := Lib.hid h1
  have HB := Lib.hid h2
  obtain ⟨a1, c1, rfl, -, -⟩ := h1.slice
  obtain ⟨a2, c2, rfl, -, -⟩ := h2.slice
  clear h1 h2
  go_enter Try.func4, Try.ntmps4
  go_wp2_with fail
  refine (cFew _ _ _ A HA.out).mono ?_
  rintro e w1 ⟨r1, rfl, ho1, hu1, -⟩
  have LX := fewL_len true A
  obtain ⟨X, hX⟩ : ∃ X, X = fewL true A := ⟨_, rfl⟩
  rw [← hX] at ho1 LX
  obtain ⟨x1, y1, rfl, -, -⟩ := ho1.ints.slice
  have HO1 := Lib.hid ho1
  have HB1 := Lib.hid (HB.out.later (lbBelow hu1))
  have HU1 := Lib.hid hu1
  clear hX ho1 hu1 HB HA
  go_wp2_with fail
  refine (cFew _ _ _ B HB1.out).mono ?_
  rintro e w2 ⟨r2, rfl, ho2, hu2, -⟩
  have LY := fewL_len true B
  obtain ⟨Y, hY⟩ : ∃ Y, Y = fewL true B := ⟨_, rfl⟩
  rw [← hY] at ho2 LY
  obtain ⟨x2, y2, rfl, -, -⟩ := ho2.ints.slice
  have HO2 := Lib.hid (HO1.out.upd hu2 (fun _ _ h => h))
  have HY := Lib.hid ho2.ints
  have HU := Lib.hid (HU1.out.trans hu2 (fun _ h _ => h))
  clear hY ho2 hu2 HB1 HO1 HU1
  cases near with
  | false =>
    have HX := Lib.hid HO2.out.ints
    clear HO2
    go_wp2_with fail
    obtain ⟨ok, hok⟩ : ∃ b, b = allB joinB X Y := ⟨_, rfl⟩
    refine (lJoinAll _ _ _ _ _ HX.out HY.out (by omega)).mono ?_
    rw [← hok]
    rintro e w10 ⟨r, rfl, hp, hu⟩
    obtain ⟨P, hP⟩ : ∃ P, P = joinR X Y := ⟨_, rfl⟩
    rw [← hP] at hp
    replace HX := Lib.hid (HX.out.later (lbBelow hu))
    replace HY := Lib.hid (HY.out.later (lbBelow hu))
    replace HU := Lib.hid (HU.out.trans hu (fun _ h _ => h))
    have HP := Lib.hid hp.ints
    obtain ⟨pa, pc, rfl, -, -⟩ := hp.ints.slice
    have HPE := Lib.hid hP
    have HOK := Lib.hid hok
    clear hp hu hP hok
    go_wp2_with fail
    refine (rJoinAll _ _ _ _ _ HX.out HY.out (by omega)).mono ?_
    rw [← HOK.out]
    rintro e w11 ⟨r, rfl, hp, hu⟩
    rw [← HPE.out] at hp
    replace HX := Lib.hid (HX.out.later (lbBelow hu))
    replace HY := Lib.hid (HY.out.later (lbBelow hu))
    replace HP := Lib.hid (HP.out.later (lbBelow hu))
    replace HU := Lib.hid (HU.out.trans hu (fun _ h _ => h))
    have HQ := Lib.hid hp.ints
    obtain ⟨qa, qc, rfl, -, -⟩ := hp.ints.slice
    clear hp hu
    have hbb := beqB ok
    go_wp2_with (with_reducible refine (known6 _).mono ?_; rintro e _ ⟨rfl, rfl⟩)
    refine (lbInts _ _ _ P P HP.out HQ.out).mono ?_
    rw [lists_eq P]
    rintro e w12 ⟨rfl, hu⟩
    replace HX := Lib.hid (HX.out.later (lbBelow hu))
    replace HY := Lib.hid (HY.out.later (lbBelow hu))
    replace HU := Lib.hid (HU.out.trans hu (fun _ h _ => h))
    clear hu hbb HP HQ
    go_wp2_with fail
    obtain ⟨ft, hft⟩ : ∃ b, b = allB fitB X Y := ⟨_, rfl⟩
    refine (lFitsAll _ _ _ _ _ HX.out HY.out).mono ?_
    rw [← hft]
    rintro e w13 ⟨rfl, hu⟩
    replace HX := Lib.hid (HX.out.later (lbBelow hu))
    replace HY := Lib.hid (HY.out.later (lbBelow hu))
    replace HU := Lib.hid (HU.out.trans hu (fun _ h _ => h))
    have HFT := Lib.hid hft
    clear hu hft
    go_wp2_with fail
    refine (rFitsAll _ _ _ _ _ HX.out HY.out).mono ?_
    rw [← HFT.out]
    rintro e w14 ⟨rfl, hu⟩
    replace HU := Lib.hid (HU.out.trans hu (fun _ h _ => h))
    have hbb := beqB ft
    clear hu
    go_wp2_with fail
    go_ret
    exact ⟨rfl, HU.out⟩
  | true =>
    have HE := Lib.hid (lbEmpty w2 3 1 0)
    have HS := Lib.hid ((Src.row HO2.out.1 (lbOne X)).upd (Upd.alloc (fun _ => False) w2 (.cells #[] 3)) (fun _ _ h => h))
    go_wp2_with (at_builtin; go_loud (refine wpList_append_mine _ rfl _ _ 29 rfl 0 3 i0 (.int .i64 0) 1 8 Try.underlying29 hi hz0 hz1 hz2 rfl (by decide) (.slice (some ⟨w2.heap.size, 0, none⟩) 0 0) 0 [] rfl HE.out X.length (lv X) HS.out (by unfold maxLen; omega) (by omega) (Nat.zero_le _) ?_))
    intro v' w3 ho hg hf
    have hu : Upd (fun _ => False) w2 w3 := (Upd.alloc (fun _ => False) w2 (.cells #[] 3)).trans (Upd.grown (S := fun k => w2.heap.size ≤ k) hg (fun k hk => .inl (by simp [Value.ownBlock] at hk; omega))) (fun k hk hl => by omega)
    try rw [Nat.zero_add] at ho
    try rw [List.nil_append] at ho
    have HN : Hid (ORow w3 v' X) := Lib.hid ⟨ho, HO2.out.2⟩
    have HX := Lib.hid (HO2.out.ints.later (lbBelow hu))
    have hfr : ∀ k, v'.ownBlock = some k → w2.heap.size ≤ k := fun k hk => by
      rcases hf k hk with h | h
      · simp [Value.ownBlock] at h; omega
      · simp at h; omega
    have HFR := Lib.hid hfr
    have HSZ := Lib.hid hu.size
    have HSW := Lib.hid HU.out.size
    replace HU := Lib.hid (HU.out.trans hu (fun _ h _ => h))
    obtain ⟨na, nc, rfl⟩ := ownsRow_slice ho
    have HXB : Hid (∀ g o l c, (Value.slice x1 X.length y1) = .slice (some ⟨g, o, none⟩) l c → 0 < X.length → g < w2.heap.size) := Lib.hid (fun g o l c he h0 => by
      have hI := HO2.out.ints
      rw [he] at hI
      obtain ⟨g', o', hs, hc, -⟩ := hI.at h0
      simp at hs
      rw [hs.1]
      exact World.block_lt_of_cell? w2 _ hc)
    clear ho hg hf hu HE HS HO2 HY hfr
    by_cases h0 : 0 < X.length
    · have hN := HN.out.1
      obtain ⟨g, cap, he⟩ : ∃ g cap, Value.slice na X.length nc = .slice (some ⟨g, 0, none⟩) X.length cap := by
        rcases hN.2 with ⟨h, h'⟩ | ⟨g, cap, cur, h, _⟩
        · omega
        · exact ⟨g, cap, h⟩
      simp at he
      obtain ⟨rfl, rfl⟩ := he
      have hi0 : (0 : Int) < (X.length : Int) := by omega
      have hcell : ∀ k, k < X.length → w3.cell? ⟨g, k, none⟩ = some (.int .i64 (X.getD k 0)) := fun k hk => by
        have := hN.cells (g := g) rfl k (.int .i64 (X.getD k 0)) (by simp [lv, List.getD, hk])
        rw [addr_add, Nat.zero_add] at this
        exact this
      have HC := Lib.hid hcell
      have HFZ := Lib.hid (fun k => lbFrozen hN k)
      have HGB := Lib.hid (HFR.out g rfl)
      clear hN hcell
      go_wp2_with (first
        | (go_at_call 23; (with_reducible refine (lbPick _ (X.length : Int) _ (by omega) (by omega)).mono ?_); rintro e _ ⟨k, rfl, hk, rfl⟩; have hck := HC.out k (by omega); have hfk := HFZ.out k)
        | (go_at_call 23; (with_reducible refine (lbPick _ 4 _ (by omega) (by omega)).mono ?_); rintro e _ ⟨q, rfl, hq, rfl⟩))
      have HY : Hid (Ints (w3.setCell ⟨g, k, none⟩ (.int .i64 (1 + (q : Int)))) (.slice (some ⟨g, 0, none⟩) X.length nc) (X.set k (1 + (q : Int)))) := Lib.hid (by
        have h1 := lbSet HN.out.1 k (.int .i64 (1 + (q : Int)))
        rw [lv_set] at h1
        have : ORow (w3.setCell ⟨g, k, none⟩ (.int .i64 (1 + (q : Int)))) (.slice (some ⟨g, 0, none⟩) X.length nc) (X.set k (1 + (q : Int))) := ⟨by rw [List.length_set]; exact h1, fun y hy => by
          rcases List.mem_or_eq_of_mem_set hy with h | rfl
          · exact HN.out.2 y h
          · unfold wi64; omega⟩
        exact this.ints)
      have hset := Upd.setCell (S := fun j => j = g) w3 (p := ⟨g, k, none⟩) (.inl rfl) (.int .i64 (1 + (q : Int)))
      replace HX : Hid (Ints (w3.setCell ⟨g, k, none⟩ (.int .i64 (1 + (q : Int)))) (.slice x1 X.length y1) X) := Lib.hid ⟨HX.out.1.below (hset.below (B := w2.heap.size) HSZ.out (fun j hj => by rw [hj]; exact HGB.out)) HXB.out, HX.out.2⟩
      replace HU : Hid (Upd (fun _ => False) w (w3.setCell ⟨g, k, none⟩ (.int .i64 (1 + (q : Int))))) := Lib.hid (HU.out.trans hset (fun j hj hlt => by have h1 := HGB.out; have h2 := HSW.out; omega))
      have lz : (X.set k (1 + (q : Int))).length = X.length := by simp
      clear hset hck hfk HC HFZ HN
      obtain ⟨ok, hok⟩ : ∃ b, b = allB joinB X (X.set k (1 + (q : Int))) := ⟨_, rfl⟩
      refine (lJoinAll _ _ _ _ _ HX.out HY.out (by omega)).mono ?_
      rw [← hok]
      rintro e w10 ⟨r, rfl, hp, hu⟩
      obtain ⟨P, hP⟩ : ∃ P, P = joinR X (X.set k (1 + (q : Int))) := ⟨_, rfl⟩
      rw [← hP] at hp
      replace HX := Lib.hid (HX.out.later (lbBelow hu))
      replace HY := Lib.hid (HY.out.later (lbBelow hu))
      replace HU := Lib.hid (HU.out.trans hu (fun _ h _ => h))
      have HP := Lib.hid hp.ints
      obtain ⟨pa, pc, rfl, -, -⟩ := hp.ints.slice
      have HPE := Lib.hid hP
      have HOK := Lib.hid hok
      clear hp hu hP hok
      go_wp2_with fail
      refine (rJoinAll _ _ _ _ _ HX.out HY.out (by omega)).mono ?_
      rw [← HOK.out]
      rintro e w11 ⟨r, rfl, hp, hu⟩
      rw [← HPE.out] at hp
      replace HX := Lib.hid (HX.out.later (lbBelow hu))
      replace HY := Lib.hid (HY.out.later (lbBelow hu))
      replace HP := Lib.hid (HP.out.later (lbBelow hu))
      replace HU := Lib.hid (HU.out.trans hu (fun _ h _ => h))
      have HQ := Lib.hid hp.ints
      obtain ⟨qa, qc, rfl, -, -⟩ := hp.ints.slice
      clear hp hu
      have hbb := beqB ok
      go_wp2_with (with_reducible refine (known6 _).mono ?_; rintro e _ ⟨rfl, rfl⟩)
      refine (lbInts _ _ _ P P HP.out HQ.out).mono ?_
      rw [lists_eq P]
      rintro e w12 ⟨rfl, hu⟩
      replace HX := Lib.hid (HX.out.later (lbBelow hu))
      replace HY := Lib.hid (HY.out.later (lbBelow hu))
      replace HU := Lib.hid (HU.out.trans hu (fun _ h _ => h))
      clear hu hbb HP HQ
      go_wp2_with fail
      obtain ⟨ft, hft⟩ : ∃ b, b = allB fitB X (X.set k (1 + (q : Int))) := ⟨_, rfl⟩
      refine (lFitsAll _ _ _ _ _ HX.out HY.out).mono ?_
      rw [← hft]
      rintro e w13 ⟨rfl, hu⟩
      replace HX := Lib.hid (HX.out.later (lbBelow hu))
      replace HY := Lib.hid (HY.out.later (lbBelow hu))
      replace HU := Lib.hid (HU.out.trans hu (fun _ h _ => h))
      have HFT := Lib.hid hft
      clear hu hft
      go_wp2_with fail
      refine (rFitsAll _ _ _ _ _ HX.out HY.out).mono ?_
      rw [← HFT.out]
      rintro e w14 ⟨rfl, hu⟩
      replace HU := Lib.hid (HU.out.trans hu (fun _ h _ => h))
      have hbb := beqB ft
      clear hu
      go_wp2_with fail
      go_ret
      exact ⟨rfl, HU.out⟩
    · have hz : X = [] := List.eq_nil_of_length_eq_zero (by omega)
      clear HXB HFR HSZ HSW LX h0
      subst hz
      have HY := Lib.hid HN.out.ints
      have l0 : (([] : List Int).length) ≤ 10 := by decide
      clear HN
      simp only [List.length_nil] at HX HY
      go_wp2_with fail
      obtain ⟨ok, hok⟩ : ∃ b, b = allB joinB [] [] := ⟨_, rfl⟩
      refine (lJoinAll _ _ _ _ _ HX.out HY.out (by decide)).mono ?_
      rw [← hok]
      rintro e w10 ⟨r, rfl, hp, hu⟩
      obtain ⟨P, hP⟩ : ∃ P, P = joinR [] [] := ⟨_, rfl⟩
      rw [← hP] at hp
      replace HX := Lib.hid (HX.out.later (lbBelow hu))
      replace HY := Lib.hid (HY.out.later (lbBelow hu))
      replace HU := Lib.hid (HU.out.trans hu (fun _ h _ => h))
      have HP := Lib.hid hp.ints
      obtain ⟨pa, pc, rfl, -, -⟩ := hp.ints.slice
      have HPE := Lib.hid hP
      have HOK := Lib.hid hok
      clear hp hu hP hok
      go_wp2_with fail
      refine (rJoinAll _ _ _ _ _ HX.out HY.out (by decide)).mono ?_
      rw [← HOK.out]
      rintro e w11 ⟨r, rfl, hp, hu⟩
      rw [← HPE.out] at hp
      replace HX := Lib.hid (HX.out.later (lbBelow hu))
      replace HY := Lib.hid (HY.out.later (lbBelow hu))
      replace HP := Lib.hid (HP.out.later (lbBelow hu))
      replace HU := Lib.hid (HU.out.trans hu (fun _ h _ => h))
      have HQ := Lib.hid hp.ints
      obtain ⟨qa, qc, rfl, -, -⟩ := hp.ints.slice
      clear hp hu
      have hbb := beqB ok
      go_wp2_with (with_reducible refine (known6 _).mono ?_; rintro e _ ⟨rfl, rfl⟩)
      refine (lbInts _ _ _ P P HP.out HQ.out).mono ?_
      rw [lists_eq P]
      rintro e w12 ⟨rfl, hu⟩
      replace HX := Lib.hid (HX.out.later (lbBelow hu))
      replace HY := Lib.hid (HY.out.later (lbBelow hu))
      replace HU := Lib.hid (HU.out.trans hu (fun _ h _ => h))
      clear hu hbb HP HQ
      go_wp2_with fail
      obtain ⟨ft, hft⟩ : ∃ b, b = allB fitB [] [] := ⟨_, rfl⟩
      refine (lFitsAll _ _ _ _ _ HX.out HY.out).mono ?_
      rw [← hft]
      rintro e w13 ⟨rfl, hu⟩
      replace HX := Lib.hid (HX.out.later (lbBelow hu))
      replace HY := Lib.hid (HY.out.later (lbBelow hu))
      replace HU := Lib.hid (HU.out.trans hu (fun _ h _ => h))
      have HFT := Lib.hid hft
      clear hu hft
      go_wp2_with fail
      refine (rFitsAll _ _ _ _ _ HX.out HY.out).mono ?_
      rw [← HFT.out]
      rintro e w14 ⟨rfl, hu⟩
      replace HU := Lib.hid (HU.out.trans hu (fun _ h _ => h))
      have hbb := beqB ft
      clear hu
      go_wp2_with fail
      go_ret
      exact ⟨rfl, HU.out⟩
theorem lists_below (w : World) (v1 v2 : Value) (near : Bool) (turn : Int) (A B : List Int) (h1 : Ints w v1 A) (h2 : Ints w v2 B) (ht : (Lit.int .i64 turn).wf = true) :
    Calls Try.prog 4 #[v1, v2, .bool near, .int .i64 turn] w fun e w' => e = .returned (.bool true) ∧ Below w.heap.size w w' := (lists_walk w v1 v2 near turn A B h1 h2 (bounds64 ht).1 (bounds64 ht).2).mono fun _ _ h => ⟨h.1, lbBelow h.2⟩
end Go.Proofs.Ytbdnebcalklphaa

/- The reference's Right, and its IsName. -/
import Derived.Test.YtmikibcgphkcfaaGreatDoorIs
import Derived.Test.YtmikibcgphkcfaaGreatDoorIr
import Derived.Test.YtmikibcgphkcfaaGreatDoorCd
import Derived.Test.YtmikibcgphkcfaaGreatDoorSh
import Derived.Shelf.Unicode.ValidAny
import Derived.Lib.SmallJoins
namespace Go.Proofs.YtmikibcgphkcfaaGreatDoor
section
open Go.RowKit Go.Lib
set_option linter.unusedVariables false
set_option linter.unusedSimpArgs false

theorem upd_drewN (S : Nat → Prop) (w : World) (n : Nat) : Upd S w (w.drewN n) := ⟨rfl, rfl, rfl, Nat.le_refl _, fun _ _ _ => rfl⟩
set_option maxRecDepth 100000 in
set_option maxHeartbeats 2000000 in
theorem rKinds (w : World) (v : Value) (L : List Int) (most : Int) (h : Ints w v L) :
    Calls Tryz.prog 46 #[v, .int .i64 most] w fun e w' => e = .returned (.bool (kindsB L most)) ∧ w' = w := by
  have HL := Lib.hid h
  obtain ⟨a, c, rfl, h1, h2⟩ := h.slice
  clear h
  unfold maxLen at h2
  have HT0 : Hid ((L.take 0).all kindB = true) := Lib.hid rfl
  go_enter Tryz.func46, Tryz.ntmps46
  go_wp2_with fail
  go_loop [5] (fun i => ∃ k : Nat, k ≤ L.length ∧ i = .int .i64 k ∧ Hid ((L.take k).all kindB = true)) (fun i => L.length - (RowKit.intOf i).toNat)
  case atStart => exact ⟨0, Nat.zero_le _, rfl, HT0⟩
  case round =>
    obtain ⟨k, hk, rfl, HT⟩ := hrel
    by_cases hlt : k < L.length
    · obtain ⟨g1, o1, rfl, hc1, -⟩ := HL.out.at hlt
      obtain ⟨n, hn⟩ : ∃ n, n = L.getD k 0 := ⟨_, rfl⟩
      rw [← hn] at hc1
      have HN := Lib.hid hn
      have hi1 : (0 : Int) ≤ (k : Int) := Int.natCast_nonneg _
      have hi2 : (k : Int) < (L.length : Int) := by omega
      clear hn
      by_cases hin : 1 ≤ n ∧ n ≤ 4
      · have HT2 : Hid ((L.take (k + 1)).all kindB = true) := Lib.hid (all_take (p := kindB) hlt HT.out (by show kindB (L.getD k 0) = true; rw [← HN.out]; exact decide_eq_true hin))
        obtain ⟨n1, n4⟩ := hin
        go_wp2_with fail
        go_round
        case rel => exact ⟨k + 1, by omega, by go_num, HT2⟩
        case measure => simp [RowKit.intOf]; omega
      · have HF : Hid (kindsB L most = false) := Lib.hid (by
          have hk : kindB n = false := decide_eq_false hin
          have : L.all kindB = false := by
            rw [List.all_eq_false]
            exact ⟨n, by rw [HN.out]; exact mem_getD0 hlt, by rw [hk]; simp⟩
          unfold kindsB
          rw [this, Bool.and_false])
        have hor : n < 1 ∨ (1 ≤ n ∧ 4 < n) := by omega
        clear hin
        rcases hor with n1 | ⟨n1, n4⟩
        all_goals
          go_wp2_with fail
          go_ret
          exact ⟨ret_bool HF.out.symm, rfl⟩
    · have HE : Hid (L.all kindB = true) := Lib.hid (by have := HT.out; rwa [List.take_of_length_le (by omega)] at this)
      have HD : Hid (kindsB L most = decide ((L.length : Int) ≤ most)) := Lib.hid (by unfold kindsB; rw [HE.out, Bool.and_true])
      go_wp2_with fail
      go_ret
      exact ⟨ret_bool HD.out.symm, rfl⟩
theorem ffi {P : Prop} (h : ¬ P) : (false = true) ↔ P := ⟨(fun h => by cases h), (fun p => (h p).elim)⟩
theorem tti {P : Prop} (h : P) : (true = true) ↔ P := ⟨fun _ => h, fun _ => rfl⟩
theorem img_iff {I : ImgM} : imgB insB I = true ↔ (nmB I.name = true ∧ kindsB I.fields 8 = true ∧ I.imports.length ≤ 4 ∧ (∀ m ∈ I.imports, impB m = true) ∧ 0 < I.methods.length ∧ I.methods.length ≤ 8 ∧ (∀ m ∈ I.methods, metB insB m = true) ∧ firstB I.methods = true ∧ I.exports.length ≤ 4 ∧ ∀ x ∈ I.exports, expB I.methods.length x = true) := by
  unfold imgB
  simp only [Bool.and_eq_true, decide_eq_true_eq, List.all_eq_true]
  constructor
  · rintro ⟨a, b, ⟨c, d⟩, e, ⟨f, g⟩, h, i, j⟩
    exact ⟨a, b, c, d, e, f, g, h, i, j⟩
  · rintro ⟨a, b, c, d, e, f, g, h, i, j⟩
    exact ⟨a, b, ⟨c, d⟩, e, ⟨f, g⟩, h, i, j⟩
theorem res_iff {r : Int} : (r == 0 || kindB r) = true ↔ 0 ≤ r ∧ r ≤ 4 := by
  simp only [Bool.or_eq_true, beq_iff_eq, kindB, decide_eq_true_eq]
  omega
theorem imp_iff {m : ImpM} : impB m = true ↔ (nmB m.name = true ∧ (0 ≤ m.exp ∧ m.exp ≤ 3) ∧ kindsB m.params 4 = true ∧ (0 ≤ m.res ∧ m.res ≤ 4)) := by
  unfold impB callB inB
  simp only [Bool.and_eq_true, decide_eq_true_eq, res_iff]
theorem met_iff {m : MetM} : metB insB m = true ↔ (kindsB m.params 4 = true ∧ (0 ≤ m.res ∧ m.res ≤ 4) ∧ kindsB m.locals (10 - m.params.length) = true ∧ 0 < m.code.length ∧ m.code.length ≤ 120 ∧ ∀ x ∈ m.code, insB x = true) := by
  unfold metB callB
  simp only [Bool.and_eq_true, decide_eq_true_eq, res_iff, List.all_eq_true]
  constructor
  · rintro ⟨⟨a, b⟩, c, d, e, f⟩; exact ⟨a, b, c, d, e, f⟩
  · rintro ⟨a, b, c, d, e, f⟩; exact ⟨⟨a, b⟩, c, d, e, f⟩
theorem all_of_upto {α : Type} [Inhabited α] {L : List α} {p : α → Bool} {k : Nat} (hk : L.length ≤ k) (h : ∀ j, j < k → p (L.getD j default) = true) : ∀ x ∈ L, p x = true := by
  intro x hx
  obtain ⟨j, hj, rfl⟩ := List.getElem_of_mem hx
  have := h j (by omega)
  simpa [List.getD, hj] using this
theorem upto1 {f : Nat → Bool} {k : Nat} (h : ∀ j, j < k → f j = true) (hk : f k = true) : ∀ j, j < k + 1 → f j = true := by
  intro j hj
  rcases Nat.lt_or_ge j k with h1 | h1
  · exact h j h1
  · have : j = k := by omega
    rw [this]; exact hk

set_option maxRecDepth 100000 in
set_option maxHeartbeats 20000000 in
theorem rRightI (w : World) (v : Value) (I : ImgM) (h : Img w v I) (hN : ∀ (s : ByteArray) (u : World), Below w.heap.size w u → s.size ≤ maxLen → Calls Tryz.prog 45 #[.string s] u fun e w' => e = .returned (.bool (nmB s)) ∧ Upd (fun _ => False) u w') :
    Calls Tryz.prog 20 #[v] w fun e w' => ∃ r : Bool, e = .returned (.bool r) ∧ (r = true ↔ imgB insB I = true) ∧ Upd (fun _ => False) w w' := by
  obtain ⟨f, i, m, x, rfl, hf, hi, hm, hx, hsz⟩ := h
  have HF := Lib.hid hf
  have HI := Lib.hid hi
  have HM := Lib.hid hm
  have HX := Lib.hid hx
  have HSZ := Lib.hid hsz
  have HNM := Lib.hid hN
  obtain ⟨fa, fc, rfl, uf, vf⟩ := hf.slice
  obtain ⟨ia, ic, rfl, ui, vi⟩ := hi.slice
  obtain ⟨ma, mc, rfl, um, vm⟩ := hm.slice
  obtain ⟨xa, xc, rfl, ux, vx⟩ := hx.slice
  unfold maxLen at vf vi vm vx
  clear hf hi hm hx hsz hN
  have HA := Lib.hid (Upd.alloc (fun _ => False) w (.cells #[.string I.name, .slice fa I.fields.length fc, .slice ia I.imports.length ic, .slice ma I.methods.length mc, .slice xa I.exports.length xc] 27))
  go_enter Tryz.func20, Tryz.ntmps20
  go_wp2_with fail
  refine (HNM.out _ _ (upd_below HA.out) HSZ.out).mono ?_
  obtain ⟨q1, hq1⟩ : ∃ q, q = nmB I.name := ⟨_, rfl⟩
  rw [← hq1]
  have HQ1 := Lib.hid hq1
  clear hq1
  rintro e w1 ⟨rfl, hu⟩
  have HC : Hid (Upd (fun _ => False) (w.alloc (.cells #[.string I.name, .slice fa I.fields.length fc, .slice ia I.imports.length ic, .slice ma I.methods.length mc, .slice xa I.exports.length xc] 27)) w1) := Lib.hid hu
  clear hu
  obtain ⟨c0, c1, c2, c3, c4⟩ := cell5 (S := fun _ => False) HC.out (fun h => h)
  cases q1 with
  | false =>
    have HE : Hid (¬ imgB insB I = true) := Lib.hid (fun h => by have := (img_iff.1 h).1; rw [← HQ1.out] at this; cases this)
    go_wp2_with fail
    go_ret
    exact ⟨_, rfl, by exact ffi HE.out, HA.out.trans HC.out (fun _ h _ => h)⟩
  | true =>
    go_wp2_with fail
    refine (rKinds _ _ I.fields 8 (HF.out.later (upd_below (HA.out.trans HC.out (fun _ h _ => h))))).mono ?_
    obtain ⟨q2, hq2⟩ : ∃ q, q = kindsB I.fields 8 := ⟨_, rfl⟩
    rw [← hq2]
    have HQ2 := Lib.hid hq2
    clear hq2
    rintro e _ ⟨rfl, rfl⟩
    cases q2 with
    | false =>
      have HE : Hid (¬ imgB insB I = true) := Lib.hid (fun h => by have := (img_iff.1 h).2.1; rw [← HQ2.out] at this; cases this)
      go_wp2_with fail
      go_ret
      exact ⟨_, rfl, by exact ffi HE.out, HA.out.trans HC.out (fun _ h _ => h)⟩
    | true =>
      by_cases l1 : I.imports.length ≤ 4
      rotate_left
      · have hneg : (4 : Int) < (I.imports.length : Int) := by omega
        have HE : Hid (¬ imgB insB I = true) := Lib.hid (fun h => by have := (img_iff.1 h).2.2.1; omega)
        go_wp2_with fail
        go_ret
        exact ⟨_, rfl, by exact ffi HE.out, HA.out.trans HC.out (fun _ h _ => h)⟩
      by_cases l2 : 0 < I.methods.length
      rotate_left
      · have hneg : (I.methods.length : Int) < 1 := by omega
        have HE : Hid (¬ imgB insB I = true) := Lib.hid (fun h => by have := (img_iff.1 h).2.2.2.2.1; omega)
        go_wp2_with fail
        go_ret
        exact ⟨_, rfl, by exact ffi HE.out, HA.out.trans HC.out (fun _ h _ => h)⟩
      by_cases l3 : I.methods.length ≤ 8
      rotate_left
      · have hneg : (8 : Int) < (I.methods.length : Int) := by omega
        have HE : Hid (¬ imgB insB I = true) := Lib.hid (fun h => by have := (img_iff.1 h).2.2.2.2.2.1; omega)
        go_wp2_with fail
        go_ret
        exact ⟨_, rfl, by exact ffi HE.out, HA.out.trans HC.out (fun _ h _ => h)⟩
      by_cases l4 : I.exports.length ≤ 4
      rotate_left
      · have hneg : (4 : Int) < (I.exports.length : Int) := by omega
        have HE : Hid (¬ imgB insB I = true) := Lib.hid (fun h => by have := (img_iff.1 h).2.2.2.2.2.2.2.2.1; omega)
        go_wp2_with fail
        go_ret
        exact ⟨_, rfl, by exact ffi HE.out, HA.out.trans HC.out (fun _ h _ => h)⟩
      have HP0 : Hid (∀ j, j < 0 → impB (I.imports.getD j default) = true) := Lib.hid (fun j hj => absurd hj (Nat.not_lt_zero j))
      have HS0 : Hid (∀ j, j < 0 → metB insB (I.methods.getD j default) = true) := Lib.hid (fun j hj => absurd hj (Nat.not_lt_zero j))
      have HX0 : Hid (∀ j, j < 0 → expB I.methods.length (I.exports.getD j default) = true) := Lib.hid (fun j hj => absurd hj (Nat.not_lt_zero j))
      have m1 : (I.imports.length : Int) ≤ 4 := by omega
      have m2 : (1 : Int) ≤ (I.methods.length : Int) := by omega
      have m3 : (I.methods.length : Int) ≤ 8 := by omega
      have m4 : (I.exports.length : Int) ≤ 4 := by omega
      go_wp2_with fail
      go_loopw [3, 4] (fun i _ wr => ∃ k : Nat, k ≤ I.imports.length ∧ i = .int .i64 k ∧ Hid (Upd (fun _ => False) (w.alloc (.cells #[.string I.name, .slice fa I.fields.length fc, .slice ia I.imports.length ic, .slice ma I.methods.length mc, .slice xa I.exports.length xc] 27)) wr) ∧ Hid (∀ j, j < k → impB (I.imports.getD j default) = true)) (fun i _ _ => I.imports.length - (RowKit.intOf i).toNat)
      case atStart => exact ⟨0, Nat.zero_le _, rfl, HC, HP0⟩
      case round =>
        clear c0 c1 c2 c3 c4
        obtain ⟨k, hk, rfl, HU, HP⟩ := hrel
        obtain ⟨c0, c1, c2, c3, c4⟩ := cell5 (S := fun _ => False) HU.out (fun h => h)
        by_cases hlt : k < I.imports.length
        · skip
          have HW := Lib.hid (HA.out.trans HU.out (fun _ h _ => h))
          obtain ⟨g1, o1, pv, rfl, hc0, hc1, hc2, hc3, hX, -, -, hns⟩ := (HI.out.later (upd_below HW.out)).at hlt
          obtain ⟨n, hn⟩ : ∃ n, n = I.imports.getD k default := ⟨_, rfl⟩
          try rw [← hn] at hc0
          try rw [← hn] at hc1
          try rw [← hn] at hc3
          rw [← hn] at hX hns
          obtain ⟨pa, pc, rfl, -, -⟩ := hX.slice
          have HXX := Lib.hid hX
          have HEN := Lib.hid hn
          have HNS := Lib.hid hns
          have hmem : n ∈ I.imports := by rw [hn]; exact mem_getD hlt
          have HMEM := Lib.hid hmem
          have HA1 := Lib.hid (Upd.alloc (fun _ => False) wr (.cells #[.string n.name, .int .i64 n.exp, .slice pa n.params.length pc, .int .i64 n.res] 43))
          have hi1 : (0 : Int) ≤ (k : Int) := Int.natCast_nonneg _
          have hi2 : (k : Int) < (I.imports.length : Int) := by omega
          clear hn hX hns hmem
          go_wp2_with fail
          refine (HNM.out _ _ (upd_below (HW.out.trans HA1.out (fun _ h _ => h))) HNS.out).mono ?_
          obtain ⟨q3, hq3⟩ : ∃ q, q = nmB n.name := ⟨_, rfl⟩
          rw [← hq3]
          have HQ3 := Lib.hid hq3
          clear hq3
          rintro e w5 ⟨rfl, hu⟩
          have HC5 : Hid (Upd (fun _ => False) (wr.alloc (.cells #[.string n.name, .int .i64 n.exp, .slice pa n.params.length pc, .int .i64 n.res] 43)) w5) := Lib.hid hu
          clear hu hc0 hc1 hc2 hc3 c0 c1 c2 c3 c4
          obtain ⟨b0, b1, b2, b3⟩ := cell4 (S := fun _ => False) HC5.out (fun h => h)
          have HU5 := Lib.hid ((HU.out.trans HA1.out (fun _ h _ => h)).trans HC5.out (fun _ h _ => h))
          cases q3 with
          | false =>
            have HE : Hid (¬ imgB insB I = true) := Lib.hid (fun h => by have h1 := imp_iff.1 ((img_iff.1 h).2.2.2.1 n HMEM.out); have := h1.1; rw [← HQ3.out] at this; cases this)
            go_wp2_with fail
            go_ret
            exact ⟨_, rfl, by exact ffi HE.out, HA.out.trans HU5.out (fun _ h _ => h)⟩
          | true =>
            by_cases x1 : 0 ≤ n.exp
            rotate_left
            · have hneg : n.exp < 0 := by omega
              have HE : Hid (¬ imgB insB I = true) := Lib.hid (fun h => by have h1 := imp_iff.1 ((img_iff.1 h).2.2.2.1 n HMEM.out); omega)
              go_wp2_with fail
              go_ret
              exact ⟨_, rfl, by exact ffi HE.out, HA.out.trans HU5.out (fun _ h _ => h)⟩
            by_cases x2 : n.exp ≤ 3
            rotate_left
            · have hneg : (4 : Int) ≤ n.exp := by omega
              have HE : Hid (¬ imgB insB I = true) := Lib.hid (fun h => by have h1 := imp_iff.1 ((img_iff.1 h).2.2.2.1 n HMEM.out); omega)
              go_wp2_with fail
              go_ret
              exact ⟨_, rfl, by exact ffi HE.out, HA.out.trans HU5.out (fun _ h _ => h)⟩
            have x2' : n.exp < 4 := by omega
            go_wp2_with fail
            refine (rKinds _ _ n.params 4 (HXX.out.later (upd_below (HA1.out.trans HC5.out (fun _ h _ => h))))).mono ?_
            obtain ⟨q4, hq4⟩ : ∃ q, q = kindsB n.params 4 := ⟨_, rfl⟩
            rw [← hq4]
            have HQ4 := Lib.hid hq4
            clear hq4
            rintro e _ ⟨rfl, rfl⟩
            cases q4 with
            | false =>
              have HE : Hid (¬ imgB insB I = true) := Lib.hid (fun h => by have h1 := imp_iff.1 ((img_iff.1 h).2.2.2.1 n HMEM.out); have := h1.2.2.1; rw [← HQ4.out] at this; cases this)
              go_wp2_with fail
              go_ret
              exact ⟨_, rfl, by exact ffi HE.out, HA.out.trans HU5.out (fun _ h _ => h)⟩
            | true =>
              by_cases x3 : 0 ≤ n.res
              rotate_left
              · have hneg : n.res < 0 := by omega
                have HE : Hid (¬ imgB insB I = true) := Lib.hid (fun h => by have h1 := imp_iff.1 ((img_iff.1 h).2.2.2.1 n HMEM.out); omega)
                go_wp2_with fail
                go_ret
                exact ⟨_, rfl, by exact ffi HE.out, HA.out.trans HU5.out (fun _ h _ => h)⟩
              by_cases x4 : n.res ≤ 4
              rotate_left
              · have hneg : (4 : Int) < n.res := by omega
                have HE : Hid (¬ imgB insB I = true) := Lib.hid (fun h => by have h1 := imp_iff.1 ((img_iff.1 h).2.2.2.1 n HMEM.out); omega)
                go_wp2_with fail
                go_ret
                exact ⟨_, rfl, by exact ffi HE.out, HA.out.trans HU5.out (fun _ h _ => h)⟩
              have HP2 := Lib.hid (upto1 (f := fun j => impB (I.imports.getD j default)) HP.out (by show impB (I.imports.getD k default) = true; rw [← HEN.out]; exact imp_iff.2 ⟨HQ3.out.symm, ⟨x1, x2⟩, HQ4.out.symm, x3, x4⟩))
              go_wp2_with fail
              go_roundw
              case rel => exact ⟨k + 1, by omega, by go_num, HU5, HP2⟩
              case measure => simp [RowKit.intOf]; omega
        · have HPA := Lib.hid (all_of_upto (p := impB) (L := I.imports) (k := k) (by omega) HP.out)
          go_wp2_with fail
          go_loopw [5, 6, 7] (fun i _ _ wr => ∃ k : Nat, k ≤ I.methods.length ∧ i = .int .i64 k ∧ Hid (Upd (fun _ => False) (w.alloc (.cells #[.string I.name, .slice fa I.fields.length fc, .slice ia I.imports.length ic, .slice ma I.methods.length mc, .slice xa I.exports.length xc] 27)) wr) ∧ Hid (∀ j, j < k → metB insB (I.methods.getD j default) = true)) (fun i _ _ _ => I.methods.length - (RowKit.intOf i).toNat)
          case atStart => exact ⟨0, Nat.zero_le _, rfl, HU, HS0⟩
          case round =>
            clear c0 c1 c2 c3 c4
            obtain ⟨k, hk, rfl, HUM, HS⟩ := hrel
            obtain ⟨c0, c1, c2, c3, c4⟩ := cell5 (S := fun _ => False) HUM.out (fun h => h)
            by_cases hlt : k < I.methods.length
            · skip
              have HW := Lib.hid (HA.out.trans HUM.out (fun _ h _ => h))
              obtain ⟨g1, o1, pv, lv, kv, rfl, hc0, hc1, hc2, hc3, hXp, hXl, hXk, -⟩ := (HM.out.later (upd_below HW.out)).at hlt
              obtain ⟨n, hn⟩ : ∃ n, n = I.methods.getD k default := ⟨_, rfl⟩
              try rw [← hn] at hc0
              try rw [← hn] at hc1
              try rw [← hn] at hc2
              try rw [← hn] at hc3
              rw [← hn] at hXp hXl hXk
              obtain ⟨pa, pc, rfl, upa, vpa⟩ := hXp.slice
              unfold maxLen at vpa
              obtain ⟨la, lc, rfl, ula, vla⟩ := hXl.slice
              unfold maxLen at vla
              obtain ⟨ka, kc, rfl, uka, vka⟩ := hXk.slice
              unfold maxLen at vka
              have HXP := Lib.hid hXp
              have HXL := Lib.hid hXl
              have HXK := Lib.hid hXk
              have HEN := Lib.hid hn
              have hmem : n ∈ I.methods := by rw [hn]; exact mem_getD hlt
              have HMEM := Lib.hid hmem
              have HA1 := Lib.hid (Upd.alloc (fun _ => False) wr (.cells #[.slice pa n.params.length pc, .int .i64 n.res, .slice la n.locals.length lc, .slice ka n.code.length kc] 39))
              have HU1 := Lib.hid (HUM.out.trans HA1.out (fun _ h _ => h))
              have hi1 : (0 : Int) ≤ (k : Int) := Int.natCast_nonneg _
              have hi2 : (k : Int) < (I.methods.length : Int) := by omega
              clear hn hXp hXl hXk hmem
              go_wp2_with fail
              refine (rKinds _ _ n.params 4 (HXP.out.later (upd_below HA1.out))).mono ?_
              obtain ⟨q4, hq4⟩ : ∃ q, q = kindsB n.params 4 := ⟨_, rfl⟩
              rw [← hq4]
              have HQ4 := Lib.hid hq4
              clear hq4
              rintro e _ ⟨rfl, rfl⟩
              cases q4 with
              | false =>
                have HE : Hid (¬ imgB insB I = true) := Lib.hid (fun h => by have h1 := met_iff.1 ((img_iff.1 h).2.2.2.2.2.2.1 n HMEM.out); have := h1.1; rw [← HQ4.out] at this; cases this)
                go_wp2_with fail
                go_ret
                exact ⟨_, rfl, by exact ffi HE.out, HA.out.trans HU1.out (fun _ h _ => h)⟩
              | true =>
                by_cases x3 : 0 ≤ n.res
                rotate_left
                · have hneg : n.res < 0 := by omega
                  have HE : Hid (¬ imgB insB I = true) := Lib.hid (fun h => by have h1 := met_iff.1 ((img_iff.1 h).2.2.2.2.2.2.1 n HMEM.out); omega)
                  go_wp2_with fail
                  go_ret
                  exact ⟨_, rfl, by exact ffi HE.out, HA.out.trans HU1.out (fun _ h _ => h)⟩
                by_cases x4 : n.res ≤ 4
                rotate_left
                · have hneg : (4 : Int) < n.res := by omega
                  have HE : Hid (¬ imgB insB I = true) := Lib.hid (fun h => by have h1 := met_iff.1 ((img_iff.1 h).2.2.2.2.2.2.1 n HMEM.out); omega)
                  go_wp2_with fail
                  go_ret
                  exact ⟨_, rfl, by exact ffi HE.out, HA.out.trans HU1.out (fun _ h _ => h)⟩
                have hpl : n.params.length ≤ 4 := by have h := HQ4.out; unfold kindsB at h; simp at h; omega
                go_wp2_with fail
                refine (rKinds _ _ n.locals (10 - n.params.length) (HXL.out.later (upd_below HA1.out))).mono ?_
                obtain ⟨q5, hq5⟩ : ∃ q, q = kindsB n.locals (10 - n.params.length) := ⟨_, rfl⟩
                rw [← hq5]
                have HQ5 := Lib.hid hq5
                clear hq5
                rintro e _ ⟨rfl, rfl⟩
                cases q5 with
                | false =>
                  have HE : Hid (¬ imgB insB I = true) := Lib.hid (fun h => by have h1 := met_iff.1 ((img_iff.1 h).2.2.2.2.2.2.1 n HMEM.out); have := h1.2.2.1; rw [← HQ5.out] at this; cases this)
                  go_wp2_with fail
                  go_ret
                  exact ⟨_, rfl, by exact ffi HE.out, HA.out.trans HU1.out (fun _ h _ => h)⟩
                | true =>
                  by_cases x5 : 0 < n.code.length
                  rotate_left
                  · have hneg : (n.code.length : Int) < 1 := by omega
                    have HE : Hid (¬ imgB insB I = true) := Lib.hid (fun h => by have h1 := met_iff.1 ((img_iff.1 h).2.2.2.2.2.2.1 n HMEM.out); omega)
                    go_wp2_with fail
                    go_ret
                    exact ⟨_, rfl, by exact ffi HE.out, HA.out.trans HU1.out (fun _ h _ => h)⟩
                  by_cases x6 : n.code.length ≤ 120
                  rotate_left
                  · have hneg : (120 : Int) < (n.code.length : Int) := by omega
                    have HE : Hid (¬ imgB insB I = true) := Lib.hid (fun h => by have h1 := met_iff.1 ((img_iff.1 h).2.2.2.2.2.2.1 n HMEM.out); omega)
                    go_wp2_with fail
                    go_ret
                    exact ⟨_, rfl, by exact ffi HE.out, HA.out.trans HU1.out (fun _ h _ => h)⟩
                  have x5' : (1 : Int) ≤ (n.code.length : Int) := by omega
                  have x6' : (n.code.length : Int) ≤ 120 := by omega
                  have HR0 : Hid (∀ j, j < 0 → insB (n.code.getD j default) = true) := Lib.hid (fun j hj => absurd hj (Nat.not_lt_zero j))
                  have HC0 : Hid (Upd (fun _ => False) (wr.alloc (.cells #[.slice pa n.params.length pc, .int .i64 n.res, .slice la n.locals.length lc, .slice ka n.code.length kc] 39)) (wr.alloc (.cells #[.slice pa n.params.length pc, .int .i64 n.res, .slice la n.locals.length lc, .slice ka n.code.length kc] 39))) := Lib.hid (Upd.refl _ _)
                  go_wp2_with fail
                  go_loopw [7] (fun i w' => ∃ j : Nat, j ≤ n.code.length ∧ i = .int .i64 j ∧ Hid (Upd (fun _ => False) (wr.alloc (.cells #[.slice pa n.params.length pc, .int .i64 n.res, .slice la n.locals.length lc, .slice ka n.code.length kc] 39)) w') ∧ Hid (∀ l, l < j → insB (n.code.getD l default) = true)) (fun i _ => n.code.length - (RowKit.intOf i).toNat)
                  case atStart => exact ⟨0, Nat.zero_le _, rfl, HC0, HR0⟩
                  case round =>
                    clear hc0 hc1 hc2 hc3 c0 c1 c2 c3 c4
                    obtain ⟨j, hj, rfl, HUC, HR⟩ := hrel
                    rename_i w'
                    obtain ⟨b0, b1, b2, b3⟩ := cell4 (S := fun _ => False) HUC.out (fun h => h)
                    have HWC := Lib.hid (HA1.out.trans HUC.out (fun _ h _ => h))
                    have HUQ := Lib.hid (HUM.out.trans HWC.out (fun _ h _ => h))
                    by_cases hjl : j < n.code.length
                    · skip
                      obtain ⟨g3, o3, rfl, t0, t1, t2, -⟩ := (HXK.out.later (upd_below HWC.out)).at hjl
                      obtain ⟨y, hy⟩ : ∃ y, y = n.code.getD j default := ⟨_, rfl⟩
                      rw [← hy] at t0 t1 t2
                      have HYY := Lib.hid hy
                      have hym : y ∈ n.code := by rw [hy]; exact mem_getD hjl
                      have HYM := Lib.hid hym
                      have hj1 : (0 : Int) ≤ (j : Int) := Int.natCast_nonneg _
                      have hj2 : (j : Int) < (n.code.length : Int) := by omega
                      clear hy hym
                      go_wp2_with fail
                      refine (rRight y.op y.a y.b _).mono ?_
                      obtain ⟨q6, hq6⟩ : ∃ q, q = rightB y.op y.a y.b := ⟨_, rfl⟩
                      rw [← hq6]
                      have HQ6 := Lib.hid hq6
                      clear hq6
                      rintro e w6 ⟨rfl, hu⟩
                      have HU6 := Lib.hid (HUQ.out.trans hu (fun _ h _ => h))
                      have HC6 := Lib.hid (HUC.out.trans hu (fun _ h _ => h))
                      clear hu
                      cases q6 with
                      | false =>
                        have HE : Hid (¬ imgB insB I = true) := Lib.hid (fun h => by have h1 := met_iff.1 ((img_iff.1 h).2.2.2.2.2.2.1 n HMEM.out); have h2 := h1.2.2.2.2.2 y HYM.out; unfold insB at h2; rw [← HQ6.out] at h2; cases h2)
                        go_wp2_with fail
                        go_ret
                        exact ⟨_, rfl, by exact ffi HE.out, HA.out.trans HU6.out (fun _ h _ => h)⟩
                      | true =>
                        have HR2 := Lib.hid (upto1 (f := fun l => insB (n.code.getD l default)) HR.out (by show insB (n.code.getD j default) = true; rw [← HYY.out]; unfold insB; exact HQ6.out.symm))
                        go_wp2_with fail
                        go_roundw
                        case rel => exact ⟨j + 1, by omega, by go_num, HC6, HR2⟩
                        case measure => simp [RowKit.intOf]; omega
                    · have HS2 := Lib.hid (upto1 (f := fun j => metB insB (I.methods.getD j default)) HS.out (by show metB insB (I.methods.getD k default) = true; rw [← HEN.out]; exact met_iff.2 ⟨HQ4.out.symm, ⟨x3, x4⟩, HQ5.out.symm, x5, x6, all_of_upto (p := insB) (L := n.code) (k := j) (by omega) HR.out⟩))
                      go_wp2_with fail
                      go_roundw
                      case rel => exact ⟨k + 1, by omega, by go_num, HUQ, HS2⟩
                      case measure => simp [RowKit.intOf]; omega
            · have HSA := Lib.hid (all_of_upto (p := metB insB) (L := I.methods) (k := k) (by omega) HS.out)
              go_wp2_with fail
              go_loopw [8] (fun i wr => ∃ k : Nat, k ≤ I.exports.length ∧ i = .int .i64 k ∧ Hid (Upd (fun _ => False) (w.alloc (.cells #[.string I.name, .slice fa I.fields.length fc, .slice ia I.imports.length ic, .slice ma I.methods.length mc, .slice xa I.exports.length xc] 27)) wr) ∧ Hid (∀ j, j < k → expB I.methods.length (I.exports.getD j default) = true)) (fun i _ => I.exports.length - (RowKit.intOf i).toNat)
              case atStart => exact ⟨0, Nat.zero_le _, rfl, HUM, HX0⟩
              case round =>
                clear c0 c1 c2 c3 c4
                obtain ⟨k, hk, rfl, HUX, HXS⟩ := hrel
                rename_i wx
                obtain ⟨c0, c1, c2, c3, c4⟩ := cell5 (S := fun _ => False) HUX.out (fun h => h)
                have HW := Lib.hid (HA.out.trans HUX.out (fun _ h _ => h))
                by_cases hlt : k < I.exports.length
                · skip
                  obtain ⟨g1, o1, rfl, hc0, -⟩ := (HX.out.later (upd_below HW.out)).at hlt
                  obtain ⟨n, hn⟩ : ∃ n, n = I.exports.getD k 0 := ⟨_, rfl⟩
                  rw [← hn] at hc0
                  have HEN := Lib.hid hn
                  have hmem : n ∈ I.exports := by rw [hn]; exact mem_getD0 hlt
                  have HMEM := Lib.hid hmem
                  have hi1 : (0 : Int) ≤ (k : Int) := Int.natCast_nonneg _
                  have hi2 : (k : Int) < (I.exports.length : Int) := by omega
                  clear hn hmem
                  by_cases x1 : 0 ≤ n
                  rotate_left
                  · have hneg : n < 0 := by omega
                    have HE : Hid (¬ imgB insB I = true) := Lib.hid (fun h => by have h1 := (img_iff.1 h).2.2.2.2.2.2.2.2.2 n HMEM.out; simp only [expB, inB, decide_eq_true_eq] at h1; omega)
                    go_wp2_with fail
                    go_quiet (fail)
                    go_wp2_with fail
                    go_ret
                    exact ⟨_, rfl, by exact ffi HE.out, HW.out.trans (upd_drewN _ _ _) (fun _ h _ => h)⟩
                  by_cases x2 : n < (I.methods.length : Int)
                  rotate_left
                  · have hneg : (I.methods.length : Int) ≤ n := by omega
                    have HE : Hid (¬ imgB insB I = true) := Lib.hid (fun h => by have h1 := (img_iff.1 h).2.2.2.2.2.2.2.2.2 n HMEM.out; simp only [expB, inB, decide_eq_true_eq] at h1; omega)
                    go_wp2_with fail
                    go_quiet (fail)
                    go_wp2_with fail
                    go_ret
                    exact ⟨_, rfl, by exact ffi HE.out, HW.out.trans (upd_drewN _ _ _) (fun _ h _ => h)⟩
                  have HX2 := Lib.hid (upto1 (f := fun j => expB I.methods.length (I.exports.getD j default)) HXS.out (by show expB I.methods.length (I.exports.getD k 0) = true; rw [← HEN.out]; simp only [expB, inB, decide_eq_true_eq]; omega))
                  go_wp2_with fail
                  go_quiet (fail)
                  go_wp2_with fail
                  go_roundw
                  case rel => exact ⟨k + 1, by omega, by go_num, Lib.hid (HUX.out.trans (upd_drewN _ _ _) (fun _ h _ => h)), HX2⟩
                  case measure => simp [RowKit.intOf]; omega
                · have HXA := Lib.hid (all_of_upto (p := expB I.methods.length) (L := I.exports) (k := k) (by omega) HXS.out)
                  obtain ⟨g1, o1, pv, lv, kv, rfl, hc0, hc1, hc2, hc3, hXp, -, -, -⟩ := (HM.out.later (upd_below HW.out)).at (k := 0) l2
                  obtain ⟨n, hn⟩ : ∃ n, n = I.methods.getD 0 default := ⟨_, rfl⟩
                  try rw [← hn] at hc0
                  try rw [← hn] at hc1
                  rw [← hn] at hXp
                  obtain ⟨pa, pc, rfl, upa, vpa⟩ := hXp.slice
                  rw [Nat.zero_mul, Nat.add_zero] at hc0
                  rw [Nat.zero_mul, Nat.add_zero] at hc1
                  have HEN := Lib.hid hn
                  clear hn hXp hc2 hc3
                  have HFB : Hid (firstB I.methods = (decide (n.params.length = 0) && (n.res == 0))) := Lib.hid (by rw [HEN.out]; rfl)
                  by_cases y1 : n.params.length = 0
                  rotate_left
                  · have HE : Hid (¬ imgB insB I = true) := Lib.hid (fun h => by have h1 := (img_iff.1 h).2.2.2.2.2.2.2.1; rw [HFB.out, Bool.and_eq_true] at h1; exact y1 (of_decide_eq_true h1.1))
                    have hneg : ((n.params.length : Int) == 0) = false := beq_eq_false_iff_ne.2 (by omega)
                    clear y1
                    go_wp2_with fail
                    go_ret
                    exact ⟨_, rfl, by exact ffi HE.out, HW.out⟩
                  have hpos : ((n.params.length : Int) == 0) = true := by rw [y1]; rfl
                  have HY1 := Lib.hid y1
                  clear y1
                  cases y2 : (n.res == 0) with
                  | false =>
                    have HE : Hid (¬ imgB insB I = true) := Lib.hid (fun h => by have h1 := (img_iff.1 h).2.2.2.2.2.2.2.1; rw [HFB.out, y2, Bool.and_false] at h1; cases h1)
                    go_wp2_with fail
                    go_ret
                    exact ⟨_, rfl, by exact ffi HE.out, HW.out⟩
                  | true =>
                    have HY : Hid (imgB insB I = true) := Lib.hid (img_iff.2 ⟨HQ1.out.symm, HQ2.out.symm, l1, HPA.out, l2, l3, HSA.out, by rw [HFB.out, y2, HY1.out]; rfl, l4, HXA.out⟩)
                    go_wp2_with fail
                    go_ret
                    exact ⟨_, rfl, by exact tti HY.out, HW.out⟩
end

section
open Go.RowKit Go.Lib Go.Shelf
set_option linter.unusedVariables false
set_option linter.unusedSimpArgs false

/-- utf8's tables lie as laid -/
def Tabs (w : World) : Prop := Lib.Utf8Tabs (Tryz.laysValid_ren.g 3) (Tryz.laysValid_ren.g 4) w
theorem rValid (s : ByteArray) (w : World) (hs : s.size ≤ 9223372036854775807) (hT : Tabs w) : Calls Tryz.prog 64 #[.string s] w fun e w' => e = .returned (.bool (validD s.data.toList)) ∧ Below w.heap.size w w' :=
  Any.utf8_ValidString Tryz.laysValid s w hs hT
theorem nmRune_iff {r : Nat} : nmRune r = true ↔ ((97 ≤ r ∧ r ≤ 122) ∨ (48 ≤ r ∧ r ≤ 57) ∨ r = 45 ∨ r = 46 ∨ (224 ≤ r ∧ r ≤ 255)) := by
  unfold nmRune; simp
theorem rune_no {r : Nat} (h : ¬ ((97 ≤ r ∧ r ≤ 122) ∨ (48 ≤ r ∧ r ≤ 57) ∨ r = 45 ∨ r = 46 ∨ (224 ≤ r ∧ r ≤ 255))) : nmRune r = false := by
  cases hq : nmRune r with
  | false => rfl
  | true => exact absurd (nmRune_iff.1 hq) h

set_option maxRecDepth 100000 in
set_option maxHeartbeats 8000000 in
theorem rIsName (s : ByteArray) (w : World) (hs : s.size ≤ maxLen) (hT : Tabs w) : Calls Tryz.prog 45 #[.string s] w fun e w' => e = .returned (.bool (nmB s)) ∧ Upd (fun _ => False) w w' := by
  have HB := Lib.hid (show nmB s = (decide (1 ≤ s.size ∧ s.size ≤ 16) && nmR s.data.toList) from rfl)
  have HTB := Lib.hid hT
  unfold maxLen at hs
  clear hT
  by_cases h0 : s.size < 1
  · have HF := Lib.hid (show nmB s = false by rw [HB.out, decide_eq_false (by omega)]; rfl)
    have h0i : (s.size : Int) < 1 := by omega
    clear h0
    go_enter Tryz.func45, Tryz.ntmps45
    go_wp2_with fail
    go_ret
    exact ⟨ret_bool HF.out.symm, Upd.refl _ _⟩
  · by_cases h16 : 16 < s.size
    · have HF := Lib.hid (show nmB s = false by rw [HB.out, decide_eq_false (by omega)]; rfl)
      have h0i : ¬ (s.size : Int) < 1 := by omega
      have h1i : (s.size : Int) > 16 := by omega
      clear h0
      go_enter Tryz.func45, Tryz.ntmps45
      go_wp2_with fail
      go_ret
      exact ⟨ret_bool HF.out.symm, Upd.refl _ _⟩
    · have h0i : ¬ (s.size : Int) < 1 := by omega
      have h1i : ¬ (s.size : Int) > 16 := by omega
      have HSZ : Hid (s.size ≤ 9223372036854775807) := Lib.hid (by omega)
      have HT := Lib.hid (show nmB s = nmFrom s 0 by rw [HB.out, nmFrom_zero, decide_eq_true (by omega)]; rfl)
      cases hv : validD s.data.toList with
      | false =>
        have HF := Lib.hid (show nmB s = false by
          cases hq : nmB s with
          | false => rfl
          | true =>
            rw [HB.out, Bool.and_eq_true] at hq
            rw [valid_of_nm _ _ (Nat.le_refl _) hq.2] at hv
            cases hv)
        have HV := Lib.hid hv
        clear hv h0 h16
        go_enter Tryz.func45, Tryz.ntmps45
        go_wp2_with fail
        refine (rValid s _ HSZ.out HTB.out).mono ?_
        rw [HV.out]
        rintro e w1 ⟨rfl, hb⟩
        have HU := Lib.hid (upd_of_below hb)
        clear hb
        go_wp2_with fail
        go_ret
        exact ⟨ret_bool HF.out.symm, HU.out⟩
      | true =>
        have HV := Lib.hid hv
        clear hv h0 h16
        go_enter Tryz.func45, Tryz.ntmps45
        go_wp2_with fail
        refine (rValid s _ HSZ.out HTB.out).mono ?_
        rw [HV.out]
        rintro e w1 ⟨rfl, hb⟩
        have HU1 := Lib.hid (upd_of_below hb)
        have HI0 := Lib.hid (upd_iter w1 s 0)
        clear hb
        go_wp2_with fail
        go_loopw [4] (fun _ wr => ∃ pos : Nat, Hid (wr.heap[w1.heap.size]? = some (.stringIter s pos)) ∧ Hid (Upd (fun _ => False) w1 wr) ∧ Hid (nmB s = nmFrom s pos)) (fun _ wr => 16 - wr.iterPos w1.heap.size)
        case atStart => exact ⟨0, Lib.hid (World.iter_heap _ _ _), HI0, HT⟩
        case round =>
          obtain ⟨pos, HI, HU, HP⟩ := hrel
          by_cases hp : pos < s.size
          · have hnx := fun ty => Lib.run_next_any_at (P := Tryz.prog) wr w1.heap.size s pos ty HI.out hp
            have HS := Lib.hid (nmFrom_step s pos hp)
            have hr := dec_rune s pos
            have hw := dec_width s pos
            generalize (Utf8.decode s pos).1 = r at *
            generalize (Utf8.decode s pos).2 = d at *
            have HU2 := Lib.hid (upd_iterAt w1.heap.size s (pos + d) HU.out (Nat.le_refl _))
            have HI2 : Hid ((wr.iterAt w1.heap.size s (pos + d)).heap[w1.heap.size]? = some (.stringIter s (pos + d))) := Lib.iterAt_heap _ _ _ _ _ HI.out
            have HP1 := Lib.hid (iterPos_of HI.out)
            have HP2 := Lib.hid (iterPos_of HI2.out)
            generalize wr.iterAt w1.heap.size s (pos + d) = w2 at *
            have e45 := beq_num r 45 45 rfl
            have e46 := beq_num r 46 46 rfl
            go_wp2_with fail
            all_goals first
              | (have hq : nmRune r = true := nmRune_iff.2 (by clear e45 e46 hnx HS HP HU HI; (try simp only [Bool.not_eq_true', Bool.not_eq_false', decide_eq_false_iff_not, decide_eq_true_eq] at *); omega)
                 have HS2 := Lib.hid (show nmFrom s pos = nmFrom s (pos + d) by rw [HS.out, hq]; rfl)
                 clear hq
                 go_roundw
                 case rel => exact ⟨pos + d, HI2, HU2, Lib.hid (HP.out.trans HS2.out)⟩
                 case measure => rw [HP1.out, HP2.out]; omega)
              | (have hq : nmRune r = false := rune_no (by clear e45 e46 hnx HS HP HU HI; (try simp only [Bool.not_eq_true', Bool.not_eq_false', decide_eq_false_iff_not, decide_eq_true_eq] at *); omega)
                 have HS2 := Lib.hid (show nmFrom s pos = false by rw [HS.out, hq]; rfl)
                 clear hq
                 go_ret
                 exact ⟨ret_bool (HP.out.trans HS2.out).symm, HU1.out.trans HU2.out (fun _ h _ => h)⟩)
          · have hnx := fun ty => Lib.run_next_end_at (P := Tryz.prog) wr w1.heap.size s pos ty HI.out hp
            have HE := Lib.hid (nmFrom_end s pos (by omega))
            go_wp2_with fail
            go_ret
            exact ⟨ret_bool (HP.out.trans HE.out).symm, HU1.out.trans HU.out (fun _ h _ => h)⟩
end

section
open Go.RowKit Go.Lib Go.Shelf
set_option linter.unusedVariables false
set_option linter.unusedSimpArgs false

def NameOk (w : World) : Prop := ∀ (s : ByteArray) (u : World), Below w.heap.size w u → s.size ≤ maxLen → Calls Tryz.prog 45 #[.string s] u fun e w' => e = .returned (.bool (nmB s)) ∧ Upd (fun _ => False) u w'
theorem NameOk.later {w u : World} (h : NameOk w) (hb : Below w.heap.size w u) : NameOk u := fun s x hx hs => h s x (hb.trans (hx.mono hb.size)) hs

end
end Go.Proofs.YtmikibcgphkcfaaGreatDoor

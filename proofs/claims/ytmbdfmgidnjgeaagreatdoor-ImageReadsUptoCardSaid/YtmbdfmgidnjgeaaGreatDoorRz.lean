/- The reference's Right (begun): kinds. The reference's writer beside what is kept; its list of numbers. The reference's IsName. The reference's Lay of an image. -/
import Derived.Test.YtmbdfmgidnjgeaaGreatDoorIz
import Derived.Test.YtmbdfmgidnjgeaaGreatDoorIp
import Derived.Test.YtmbdfmgidnjgeaaGreatDoorWref
import Derived.Test.YtmbdfmgidnjgeaaGreatDoorCm
import Derived.Test.YtmbdfmgidnjgeaaGreatDoorIr
import Derived.Test.YtmbdfmgidnjgeaaGreatDoorVs
import Derived.Shelf.Unicode.ValidAny
import Derived.Test.YtmbdfmgidnjgeaaGreatDoorIl
import Derived.Lib.SmallJoins
namespace Go.Proofs.YtmbdfmgidnjgeaaGreatDoor
section
open Go.RowKit Go.Lib
set_option linter.unusedVariables false
set_option linter.unusedSimpArgs false

set_option maxRecDepth 100000 in
set_option maxHeartbeats 2000000 in
theorem rKinds (w : World) (v : Value) (L : List Int) (most : Int) (h : Ints w v L) :
    Calls Tryz.prog 36 #[v, .int .i64 most] w fun e w' => e = .returned (.bool (kindsB L most)) ∧ w' = w := by
  have HL := Lib.hid h
  obtain ⟨a, c, rfl, h1, h2⟩ := h.slice
  clear h
  unfold maxLen at h2
  have HT0 : Hid ((L.take 0).all kindB = true) := Lib.hid rfl
  go_enter Tryz.func36, Tryz.ntmps36
  go_wp2_with fail
  go_loop [5] (fun i => ∃ k : Nat, k ≤ L.length ∧ i = .int .i64 k ∧ Hid ((L.take k).all kindB = true)) (fun i => L.length - (RowKit.intOf i).toNat)
  case atStart => exact ⟨0, Nat.zero_le _, rfl, HT0⟩
  case round =>
    obtain ⟨k, hk, rfl, HT⟩ := hrel
    by_cases hlt : k < L.length
    · obtain ⟨g1, o1, rfl, hc1, -⟩ := HL.out.at hlt
      obtain ⟨n, hn⟩ : ∃ n, n = L.getD k 0 := ⟨_, rfl⟩
      rw [← hn] at hc1
      have HN := Lib.hid hn
      have hi1 : (0 : Int) ≤ (k : Int) := Int.natCast_nonneg _
      have hi2 : (k : Int) < (L.length : Int) := by omega
      clear hn
      by_cases hin : 1 ≤ n ∧ n ≤ 4
      · have HT2 : Hid ((L.take (k + 1)).all kindB = true) := Lib.hid (all_take (p := kindB) hlt HT.out (by show kindB (L.getD k 0) = true; rw [← HN.out]; exact decide_eq_true hin))
        obtain ⟨n1, n4⟩ := hin
        go_wp2_with fail
        go_round
        case rel => exact ⟨k + 1, by omega, by go_num, HT2⟩
        case measure => simp [RowKit.intOf]; omega
      · have HF : Hid (kindsB L most = false) := Lib.hid (by
          have hk : kindB n = false := decide_eq_false hin
          have : L.all kindB = false := by
            rw [List.all_eq_false]
            exact ⟨n, by rw [HN.out]; exact mem_getD0 hlt, by rw [hk]; simp⟩
          unfold kindsB
          rw [this, Bool.and_false])
        have hor : n < 1 ∨ (1 ≤ n ∧ 4 < n) := by omega
        clear hin
        rcases hor with n1 | ⟨n1, n4⟩
        all_goals
          go_wp2_with fail
          go_ret
          exact ⟨ret_bool HF.out.symm, rfl⟩
    · have HE : Hid (L.all kindB = true) := Lib.hid (by have := HT.out; rwa [List.take_of_length_le (by omega)] at this)
      have HD : Hid (kindsB L most = decide ((L.length : Int) ≤ most)) := Lib.hid (by unfold kindsB; rw [HE.out, Bool.and_true])
      go_wp2_with fail
      go_ret
      exact ⟨ret_bool HD.out.symm, rfl⟩
theorem ffi {P : Prop} (h : ¬ P) : (false = true) ↔ P := ⟨(fun h => by cases h), (fun p => (h p).elim)⟩
theorem tti {P : Prop} (h : P) : (true = true) ↔ P := ⟨fun _ => h, fun _ => rfl⟩
theorem img_iff {I : ImgM} : imgB insB I = true ↔ (nmB I.name = true ∧ kindsB I.fields 8 = true ∧ I.imports.length ≤ 4 ∧ (∀ m ∈ I.imports, impB m = true) ∧ 0 < I.methods.length ∧ I.methods.length ≤ 8 ∧ (∀ m ∈ I.methods, metB insB m = true) ∧ firstB I.methods = true ∧ I.exports.length ≤ 4 ∧ ∀ x ∈ I.exports, expB I.methods.length x = true) := by
  unfold imgB
  simp only [Bool.and_eq_true, decide_eq_true_eq, List.all_eq_true]
  constructor
  · rintro ⟨a, b, ⟨c, d⟩, e, ⟨f, g⟩, h, i, j⟩
    exact ⟨a, b, c, d, e, f, g, h, i, j⟩
  · rintro ⟨a, b, c, d, e, f, g, h, i, j⟩
    exact ⟨a, b, ⟨c, d⟩, e, ⟨f, g⟩, h, i, j⟩
theorem res_iff {r : Int} : (r == 0 || kindB r) = true ↔ 0 ≤ r ∧ r ≤ 4 := by
  simp only [Bool.or_eq_true, beq_iff_eq, kindB, decide_eq_true_eq]
  omega
theorem imp_iff {m : ImpM} : impB m = true ↔ (nmB m.name = true ∧ (0 ≤ m.exp ∧ m.exp ≤ 3) ∧ kindsB m.params 4 = true ∧ (0 ≤ m.res ∧ m.res ≤ 4)) := by
  unfold impB callB inB
  simp only [Bool.and_eq_true, decide_eq_true_eq, res_iff]
theorem met_iff {m : MetM} : metB insB m = true ↔ (kindsB m.params 4 = true ∧ (0 ≤ m.res ∧ m.res ≤ 4) ∧ kindsB m.locals (10 - m.params.length) = true ∧ 0 < m.code.length ∧ m.code.length ≤ 120 ∧ ∀ x ∈ m.code, insB x = true) := by
  unfold metB callB
  simp only [Bool.and_eq_true, decide_eq_true_eq, res_iff, List.all_eq_true]
  constructor
  · rintro ⟨⟨a, b⟩, c, d, e, f⟩; exact ⟨a, b, c, d, e, f⟩
  · rintro ⟨a, b, c, d, e, f⟩; exact ⟨⟨a, b⟩, c, d, e, f⟩
theorem all_of_upto {α : Type} [Inhabited α] {L : List α} {p : α → Bool} {k : Nat} (hk : L.length ≤ k) (h : ∀ j, j < k → p (L.getD j default) = true) : ∀ x ∈ L, p x = true := by
  intro x hx
  obtain ⟨j, hj, rfl⟩ := List.getElem_of_mem hx
  have := h j (by omega)
  simpa [List.getD, hj] using this
theorem upto1 {f : Nat → Bool} {k : Nat} (h : ∀ j, j < k → f j = true) (hk : f k = true) : ∀ j, j < k + 1 → f j = true := by
  intro j hj
  rcases Nat.lt_or_ge j k with h1 | h1
  · exact h j h1
  · have : j = k := by omega
    rw [this]; exact hk

set_option maxRecDepth 100000 in
set_option maxHeartbeats 20000000 in
theorem rRightI (w : World) (v : Value) (I : ImgM) (h : Img w v I) (hN : ∀ (s : ByteArray) (u : World), Below w.heap.size w u → s.size ≤ maxLen → Calls Tryz.prog 35 #[.string s] u fun e w' => e = .returned (.bool (nmB s)) ∧ Upd (fun _ => False) u w') :
    Calls Tryz.prog 12 #[v] w fun e w' => ∃ r : Bool, e = .returned (.bool r) ∧ (r = true ↔ imgB insB I = true) ∧ Upd (fun _ => False) w w' := by
  obtain ⟨f, i, m, x, rfl, hf, hi, hm, hx, hsz⟩ := h
  have HF := Lib.hid hf
  have HI := Lib.hid hi
  have HM := Lib.hid hm
  have HX := Lib.hid hx
  have HSZ := Lib.hid hsz
  have HNM := Lib.hid hN
  obtain ⟨fa, fc, rfl, uf, vf⟩ := hf.slice
  obtain ⟨ia, ic, rfl, ui, vi⟩ := hi.slice
  obtain ⟨ma, mc, rfl, um, vm⟩ := hm.slice
  obtain ⟨xa, xc, rfl, ux, vx⟩ := hx.slice
  unfold maxLen at vf vi vm vx
  clear hf hi hm hx hsz hN
  have HA := Lib.hid (Upd.alloc (fun _ => False) w (.cells #[.string I.name, .slice fa I.fields.length fc, .slice ia I.imports.length ic, .slice ma I.methods.length mc, .slice xa I.exports.length xc] 32))
  go_enter Tryz.func12, Tryz.ntmps12
  go_wp2_with fail
  refine (HNM.out _ _ (upd_below HA.out) HSZ.out).mono ?_
  obtain ⟨q1, hq1⟩ : ∃ q, q = nmB I.name := ⟨_, rfl⟩
  rw [← hq1]
  have HQ1 := Lib.hid hq1
  clear hq1
  rintro e w1 ⟨rfl, hu⟩
  have HC : Hid (Upd (fun _ => False) (w.alloc (.cells #[.string I.name, .slice fa I.fields.length fc, .slice ia I.imports.length ic, .slice ma I.methods.length mc, .slice xa I.exports.length xc] 32)) w1) := Lib.hid hu
  clear hu
  obtain ⟨c0, c1, c2, c3, c4⟩ := cell5 (S := fun _ => False) HC.out (fun h => h)
  cases q1 with
  | false =>
    have HE : Hid (¬ imgB insB I = true) := Lib.hid (fun h => by have := (img_iff.1 h).1; rw [← HQ1.out] at this; cases this)
    go_wp2_with fail
    go_ret
    exact ⟨_, rfl, by exact ffi HE.out, HA.out.trans HC.out (fun _ h _ => h)⟩
  | true =>
    go_wp2_with fail
    refine (rKinds _ _ I.fields 8 (HF.out.later (upd_below (HA.out.trans HC.out (fun _ h _ => h))))).mono ?_
    obtain ⟨q2, hq2⟩ : ∃ q, q = kindsB I.fields 8 := ⟨_, rfl⟩
    rw [← hq2]
    have HQ2 := Lib.hid hq2
    clear hq2
    rintro e _ ⟨rfl, rfl⟩
    cases q2 with
    | false =>
      have HE : Hid (¬ imgB insB I = true) := Lib.hid (fun h => by have := (img_iff.1 h).2.1; rw [← HQ2.out] at this; cases this)
      go_wp2_with fail
      go_ret
      exact ⟨_, rfl, by exact ffi HE.out, HA.out.trans HC.out (fun _ h _ => h)⟩
    | true =>
      by_cases l1 : I.imports.length ≤ 4
      rotate_left
      · have hneg : (4 : Int) < (I.imports.length : Int) := by omega
        have HE : Hid (¬ imgB insB I = true) := Lib.hid (fun h => by have := (img_iff.1 h).2.2.1; omega)
        go_wp2_with fail
        go_ret
        exact ⟨_, rfl, by exact ffi HE.out, HA.out.trans HC.out (fun _ h _ => h)⟩
      by_cases l2 : 0 < I.methods.length
      rotate_left
      · have hneg : (I.methods.length : Int) < 1 := by omega
        have HE : Hid (¬ imgB insB I = true) := Lib.hid (fun h => by have := (img_iff.1 h).2.2.2.2.1; omega)
        go_wp2_with fail
        go_ret
        exact ⟨_, rfl, by exact ffi HE.out, HA.out.trans HC.out (fun _ h _ => h)⟩
      by_cases l3 : I.methods.length ≤ 8
      rotate_left
      · have hneg : (8 : Int) < (I.methods.length : Int) := by omega
        have HE : Hid (¬ imgB insB I = true) := Lib.hid (fun h => by have := (img_iff.1 h).2.2.2.2.2.1; omega)
        go_wp2_with fail
        go_ret
        exact ⟨_, rfl, by exact ffi HE.out, HA.out.trans HC.out (fun _ h _ => h)⟩
      by_cases l4 : I.exports.length ≤ 4
      rotate_left
      · have hneg : (4 : Int) < (I.exports.length : Int) := by omega
        have HE : Hid (¬ imgB insB I = true) := Lib.hid (fun h => by have := (img_iff.1 h).2.2.2.2.2.2.2.2.1; omega)
        go_wp2_with fail
        go_ret
        exact ⟨_, rfl, by exact ffi HE.out, HA.out.trans HC.out (fun _ h _ => h)⟩
      have HP0 : Hid (∀ j, j < 0 → impB (I.imports.getD j default) = true) := Lib.hid (fun j hj => absurd hj (Nat.not_lt_zero j))
      have HS0 : Hid (∀ j, j < 0 → metB insB (I.methods.getD j default) = true) := Lib.hid (fun j hj => absurd hj (Nat.not_lt_zero j))
      have HX0 : Hid (∀ j, j < 0 → expB I.methods.length (I.exports.getD j default) = true) := Lib.hid (fun j hj => absurd hj (Nat.not_lt_zero j))
      have m1 : (I.imports.length : Int) ≤ 4 := by omega
      have m2 : (1 : Int) ≤ (I.methods.length : Int) := by omega
      have m3 : (I.methods.length : Int) ≤ 8 := by omega
      have m4 : (I.exports.length : Int) ≤ 4 := by omega
      go_wp2_with fail
      go_loopw [3, 4] (fun i _ wr => ∃ k : Nat, k ≤ I.imports.length ∧ i = .int .i64 k ∧ Hid (Upd (fun _ => False) (w.alloc (.cells #[.string I.name, .slice fa I.fields.length fc, .slice ia I.imports.length ic, .slice ma I.methods.length mc, .slice xa I.exports.length xc] 32)) wr) ∧ Hid (∀ j, j < k → impB (I.imports.getD j default) = true)) (fun i _ _ => I.imports.length - (RowKit.intOf i).toNat)
      case atStart => exact ⟨0, Nat.zero_le _, rfl, HC, HP0⟩
      case round =>
        clear c0 c1 c2 c3 c4
        obtain ⟨k, hk, rfl, HU, HP⟩ := hrel
        obtain ⟨c0, c1, c2, c3, c4⟩ := cell5 (S := fun _ => False) HU.out (fun h => h)
        by_cases hlt : k < I.imports.length
        · skip
          have HW := Lib.hid (HA.out.trans HU.out (fun _ h _ => h))
          obtain ⟨g1, o1, pv, rfl, hc0, hc1, hc2, hc3, hX, -, -, hns⟩ := (HI.out.later (upd_below HW.out)).at hlt
          obtain ⟨n, hn⟩ : ∃ n, n = I.imports.getD k default := ⟨_, rfl⟩
          try rw [← hn] at hc0
          try rw [← hn] at hc1
          try rw [← hn] at hc3
          rw [← hn] at hX hns
          obtain ⟨pa, pc, rfl, -, -⟩ := hX.slice
          have HXX := Lib.hid hX
          have HEN := Lib.hid hn
          have HNS := Lib.hid hns
          have hmem : n ∈ I.imports := by rw [hn]; exact mem_getD hlt
          have HMEM := Lib.hid hmem
          have HA1 := Lib.hid (Upd.alloc (fun _ => False) wr (.cells #[.string n.name, .int .i64 n.exp, .slice pa n.params.length pc, .int .i64 n.res] 49))
          have hi1 : (0 : Int) ≤ (k : Int) := Int.natCast_nonneg _
          have hi2 : (k : Int) < (I.imports.length : Int) := by omega
          clear hn hX hns hmem
          go_wp2_with fail
          refine (HNM.out _ _ (upd_below (HW.out.trans HA1.out (fun _ h _ => h))) HNS.out).mono ?_
          obtain ⟨q3, hq3⟩ : ∃ q, q = nmB n.name := ⟨_, rfl⟩
          rw [← hq3]
          have HQ3 := Lib.hid hq3
          clear hq3
          rintro e w5 ⟨rfl, hu⟩
          have HC5 : Hid (Upd (fun _ => False) (wr.alloc (.cells #[.string n.name, .int .i64 n.exp, .slice pa n.params.length pc, .int .i64 n.res] 49)) w5) := Lib.hid hu
          clear hu hc0 hc1 hc2 hc3 c0 c1 c2 c3 c4
          obtain ⟨b0, b1, b2, b3⟩ := cell4 (S := fun _ => False) HC5.out (fun h => h)
          have HU5 := Lib.hid ((HU.out.trans HA1.out (fun _ h _ => h)).trans HC5.out (fun _ h _ => h))
          cases q3 with
          | false =>
            have HE : Hid (¬ imgB insB I = true) := Lib.hid (fun h => by have h1 := imp_iff.1 ((img_iff.1 h).2.2.2.1 n HMEM.out); have := h1.1; rw [← HQ3.out] at this; cases this)
            go_wp2_with fail
            go_ret
            exact ⟨_, rfl, by exact ffi HE.out, HA.out.trans HU5.out (fun _ h _ => h)⟩
          | true =>
            by_cases x1 : 0 ≤ n.exp
            rotate_left
            · have hneg : n.exp < 0 := by omega
              have HE : Hid (¬ imgB insB I = true) := Lib.hid (fun h => by have h1 := imp_iff.1 ((img_iff.1 h).2.2.2.1 n HMEM.out); omega)
              go_wp2_with fail
              go_ret
              exact ⟨_, rfl, by exact ffi HE.out, HA.out.trans HU5.out (fun _ h _ => h)⟩
            by_cases x2 : n.exp ≤ 3
            rotate_left
            · have hneg : (4 : Int) ≤ n.exp := by omega
              have HE : Hid (¬ imgB insB I = true) := Lib.hid (fun h => by have h1 := imp_iff.1 ((img_iff.1 h).2.2.2.1 n HMEM.out); omega)
              go_wp2_with fail
              go_ret
              exact ⟨_, rfl, by exact ffi HE.out, HA.out.trans HU5.out (fun _ h _ => h)⟩
            have x2' : n.exp < 4 := by omega
            go_wp2_with fail
            refine (rKinds _ _ n.params 4 (HXX.out.later (upd_below (HA1.out.trans HC5.out (fun _ h _ => h))))).mono ?_
            obtain ⟨q4, hq4⟩ : ∃ q, q = kindsB n.params 4 := ⟨_, rfl⟩
            rw [← hq4]
            have HQ4 := Lib.hid hq4
            clear hq4
            rintro e _ ⟨rfl, rfl⟩
            cases q4 with
            | false =>
              have HE : Hid (¬ imgB insB I = true) := Lib.hid (fun h => by have h1 := imp_iff.1 ((img_iff.1 h).2.2.2.1 n HMEM.out); have := h1.2.2.1; rw [← HQ4.out] at this; cases this)
              go_wp2_with fail
              go_ret
              exact ⟨_, rfl, by exact ffi HE.out, HA.out.trans HU5.out (fun _ h _ => h)⟩
            | true =>
              by_cases x3 : 0 ≤ n.res
              rotate_left
              · have hneg : n.res < 0 := by omega
                have HE : Hid (¬ imgB insB I = true) := Lib.hid (fun h => by have h1 := imp_iff.1 ((img_iff.1 h).2.2.2.1 n HMEM.out); omega)
                go_wp2_with fail
                go_ret
                exact ⟨_, rfl, by exact ffi HE.out, HA.out.trans HU5.out (fun _ h _ => h)⟩
              by_cases x4 : n.res ≤ 4
              rotate_left
              · have hneg : (4 : Int) < n.res := by omega
                have HE : Hid (¬ imgB insB I = true) := Lib.hid (fun h => by have h1 := imp_iff.1 ((img_iff.1 h).2.2.2.1 n HMEM.out); omega)
                go_wp2_with fail
                go_ret
                exact ⟨_, rfl, by exact ffi HE.out, HA.out.trans HU5.out (fun _ h _ => h)⟩
              have HP2 := Lib.hid (upto1 (f := fun j => impB (I.imports.getD j default)) HP.out (by show impB (I.imports.getD k default) = true; rw [← HEN.out]; exact imp_iff.2 ⟨HQ3.out.symm, ⟨x1, x2⟩, HQ4.out.symm, x3, x4⟩))
              go_wp2_with fail
              go_roundw
              case rel => exact ⟨k + 1, by omega, by go_num, HU5, HP2⟩
              case measure => simp [RowKit.intOf]; omega
        · have HPA := Lib.hid (all_of_upto (p := impB) (L := I.imports) (k := k) (by omega) HP.out)
          go_wp2_with fail
          go_loopw [5, 6, 7] (fun i _ _ wr => ∃ k : Nat, k ≤ I.methods.length ∧ i = .int .i64 k ∧ Hid (Upd (fun _ => False) (w.alloc (.cells #[.string I.name, .slice fa I.fields.length fc, .slice ia I.imports.length ic, .slice ma I.methods.length mc, .slice xa I.exports.length xc] 32)) wr) ∧ Hid (∀ j, j < k → metB insB (I.methods.getD j default) = true)) (fun i _ _ _ => I.methods.length - (RowKit.intOf i).toNat)
          case atStart => exact ⟨0, Nat.zero_le _, rfl, HU, HS0⟩
          case round =>
            clear c0 c1 c2 c3 c4
            obtain ⟨k, hk, rfl, HUM, HS⟩ := hrel
            obtain ⟨c0, c1, c2, c3, c4⟩ := cell5 (S := fun _ => False) HUM.out (fun h => h)
            by_cases hlt : k < I.methods.length
            · skip
              have HW := Lib.hid (HA.out.trans HUM.out (fun _ h _ => h))
              obtain ⟨g1, o1, pv, lv, kv, rfl, hc0, hc1, hc2, hc3, hXp, hXl, hXk, -⟩ := (HM.out.later (upd_below HW.out)).at hlt
              obtain ⟨n, hn⟩ : ∃ n, n = I.methods.getD k default := ⟨_, rfl⟩
              try rw [← hn] at hc0
              try rw [← hn] at hc1
              try rw [← hn] at hc2
              try rw [← hn] at hc3
              rw [← hn] at hXp hXl hXk
              obtain ⟨pa, pc, rfl, upa, vpa⟩ := hXp.slice
              unfold maxLen at vpa
              obtain ⟨la, lc, rfl, ula, vla⟩ := hXl.slice
              unfold maxLen at vla
              obtain ⟨ka, kc, rfl, uka, vka⟩ := hXk.slice
              unfold maxLen at vka
              have HXP := Lib.hid hXp
              have HXL := Lib.hid hXl
              have HXK := Lib.hid hXk
              have HEN := Lib.hid hn
              have hmem : n ∈ I.methods := by rw [hn]; exact mem_getD hlt
              have HMEM := Lib.hid hmem
              have HA1 := Lib.hid (Upd.alloc (fun _ => False) wr (.cells #[.slice pa n.params.length pc, .int .i64 n.res, .slice la n.locals.length lc, .slice ka n.code.length kc] 52))
              have HU1 := Lib.hid (HUM.out.trans HA1.out (fun _ h _ => h))
              have hi1 : (0 : Int) ≤ (k : Int) := Int.natCast_nonneg _
              have hi2 : (k : Int) < (I.methods.length : Int) := by omega
              clear hn hXp hXl hXk hmem
              go_wp2_with fail
              refine (rKinds _ _ n.params 4 (HXP.out.later (upd_below HA1.out))).mono ?_
              obtain ⟨q4, hq4⟩ : ∃ q, q = kindsB n.params 4 := ⟨_, rfl⟩
              rw [← hq4]
              have HQ4 := Lib.hid hq4
              clear hq4
              rintro e _ ⟨rfl, rfl⟩
              cases q4 with
              | false =>
                have HE : Hid (¬ imgB insB I = true) := Lib.hid (fun h => by have h1 := met_iff.1 ((img_iff.1 h).2.2.2.2.2.2.1 n HMEM.out); have := h1.1; rw [← HQ4.out] at this; cases this)
                go_wp2_with fail
                go_ret
                exact ⟨_, rfl, by exact ffi HE.out, HA.out.trans HU1.out (fun _ h _ => h)⟩
              | true =>
                by_cases x3 : 0 ≤ n.res
                rotate_left
                · have hneg : n.res < 0 := by omega
                  have HE : Hid (¬ imgB insB I = true) := Lib.hid (fun h => by have h1 := met_iff.1 ((img_iff.1 h).2.2.2.2.2.2.1 n HMEM.out); omega)
                  go_wp2_with fail
                  go_ret
                  exact ⟨_, rfl, by exact ffi HE.out, HA.out.trans HU1.out (fun _ h _ => h)⟩
                by_cases x4 : n.res ≤ 4
                rotate_left
                · have hneg : (4 : Int) < n.res := by omega
                  have HE : Hid (¬ imgB insB I = true) := Lib.hid (fun h => by have h1 := met_iff.1 ((img_iff.1 h).2.2.2.2.2.2.1 n HMEM.out); omega)
                  go_wp2_with fail
                  go_ret
                  exact ⟨_, rfl, by exact ffi HE.out, HA.out.trans HU1.out (fun _ h _ => h)⟩
                have hpl : n.params.length ≤ 4 := by have h := HQ4.out; unfold kindsB at h; simp at h; omega
                go_wp2_with fail
                refine (rKinds _ _ n.locals (10 - n.params.length) (HXL.out.later (upd_below HA1.out))).mono ?_
                obtain ⟨q5, hq5⟩ : ∃ q, q = kindsB n.locals (10 - n.params.length) := ⟨_, rfl⟩
                rw [← hq5]
                have HQ5 := Lib.hid hq5
                clear hq5
                rintro e _ ⟨rfl, rfl⟩
                cases q5 with
                | false =>
                  have HE : Hid (¬ imgB insB I = true) := Lib.hid (fun h => by have h1 := met_iff.1 ((img_iff.1 h).2.2.2.2.2.2.1 n HMEM.out); have := h1.2.2.1; rw [← HQ5.out] at this; cases this)
                  go_wp2_with fail
                  go_ret
                  exact ⟨_, rfl, by exact ffi HE.out, HA.out.trans HU1.out (fun _ h _ => h)⟩
                | true =>
                  by_cases x5 : 0 < n.code.length
                  rotate_left
                  · have hneg : (n.code.length : Int) < 1 := by omega
                    have HE : Hid (¬ imgB insB I = true) := Lib.hid (fun h => by have h1 := met_iff.1 ((img_iff.1 h).2.2.2.2.2.2.1 n HMEM.out); omega)
                    go_wp2_with fail
                    go_ret
                    exact ⟨_, rfl, by exact ffi HE.out, HA.out.trans HU1.out (fun _ h _ => h)⟩
                  by_cases x6 : n.code.length ≤ 120
                  rotate_left
                  · have hneg : (120 : Int) < (n.code.length : Int) := by omega
                    have HE : Hid (¬ imgB insB I = true) := Lib.hid (fun h => by have h1 := met_iff.1 ((img_iff.1 h).2.2.2.2.2.2.1 n HMEM.out); omega)
                    go_wp2_with fail
                    go_ret
                    exact ⟨_, rfl, by exact ffi HE.out, HA.out.trans HU1.out (fun _ h _ => h)⟩
                  have x5' : (1 : Int) ≤ (n.code.length : Int) := by omega
                  have x6' : (n.code.length : Int) ≤ 120 := by omega
                  have HR0 : Hid (∀ j, j < 0 → insB (n.code.getD j default) = true) := Lib.hid (fun j hj => absurd hj (Nat.not_lt_zero j))
                  have HC0 : Hid (Upd (fun _ => False) (wr.alloc (.cells #[.slice pa n.params.length pc, .int .i64 n.res, .slice la n.locals.length lc, .slice ka n.code.length kc] 52)) (wr.alloc (.cells #[.slice pa n.params.length pc, .int .i64 n.res, .slice la n.locals.length lc, .slice ka n.code.length kc] 52))) := Lib.hid (Upd.refl _ _)
                  go_wp2_with fail
                  go_loopw [7] (fun i w' => ∃ j : Nat, j ≤ n.code.length ∧ i = .int .i64 j ∧ Hid (Upd (fun _ => False) (wr.alloc (.cells #[.slice pa n.params.length pc, .int .i64 n.res, .slice la n.locals.length lc, .slice ka n.code.length kc] 52)) w') ∧ Hid (∀ l, l < j → insB (n.code.getD l default) = true)) (fun i _ => n.code.length - (RowKit.intOf i).toNat)
                  case atStart => exact ⟨0, Nat.zero_le _, rfl, HC0, HR0⟩
                  case round =>
                    clear hc0 hc1 hc2 hc3 c0 c1 c2 c3 c4
                    obtain ⟨j, hj, rfl, HUC, HR⟩ := hrel
                    rename_i w'
                    obtain ⟨b0, b1, b2, b3⟩ := cell4 (S := fun _ => False) HUC.out (fun h => h)
                    have HWC := Lib.hid (HA1.out.trans HUC.out (fun _ h _ => h))
                    have HUQ := Lib.hid (HUM.out.trans HWC.out (fun _ h _ => h))
                    by_cases hjl : j < n.code.length
                    · skip
                      obtain ⟨g3, o3, rfl, t0, t1, t2, -⟩ := (HXK.out.later (upd_below HWC.out)).at hjl
                      obtain ⟨y, hy⟩ : ∃ y, y = n.code.getD j default := ⟨_, rfl⟩
                      rw [← hy] at t0 t1 t2
                      have HYY := Lib.hid hy
                      have hym : y ∈ n.code := by rw [hy]; exact mem_getD hjl
                      have HYM := Lib.hid hym
                      have hj1 : (0 : Int) ≤ (j : Int) := Int.natCast_nonneg _
                      have hj2 : (j : Int) < (n.code.length : Int) := by omega
                      clear hy hym
                      go_wp2_with fail
                      refine (rRight y.op y.a y.b _).mono ?_
                      obtain ⟨q6, hq6⟩ : ∃ q, q = rightB y.op y.a y.b := ⟨_, rfl⟩
                      rw [← hq6]
                      have HQ6 := Lib.hid hq6
                      clear hq6
                      rintro e w6 ⟨rfl, hu⟩
                      have HU6 := Lib.hid (HUQ.out.trans hu (fun _ h _ => h))
                      have HC6 := Lib.hid (HUC.out.trans hu (fun _ h _ => h))
                      clear hu
                      cases q6 with
                      | false =>
                        have HE : Hid (¬ imgB insB I = true) := Lib.hid (fun h => by have h1 := met_iff.1 ((img_iff.1 h).2.2.2.2.2.2.1 n HMEM.out); have h2 := h1.2.2.2.2.2 y HYM.out; unfold insB at h2; rw [← HQ6.out] at h2; cases h2)
                        go_wp2_with fail
                        go_ret
                        exact ⟨_, rfl, by exact ffi HE.out, HA.out.trans HU6.out (fun _ h _ => h)⟩
                      | true =>
                        have HR2 := Lib.hid (upto1 (f := fun l => insB (n.code.getD l default)) HR.out (by show insB (n.code.getD j default) = true; rw [← HYY.out]; unfold insB; exact HQ6.out.symm))
                        go_wp2_with fail
                        go_roundw
                        case rel => exact ⟨j + 1, by omega, by go_num, HC6, HR2⟩
                        case measure => simp [RowKit.intOf]; omega
                    · have HS2 := Lib.hid (upto1 (f := fun j => metB insB (I.methods.getD j default)) HS.out (by show metB insB (I.methods.getD k default) = true; rw [← HEN.out]; exact met_iff.2 ⟨HQ4.out.symm, ⟨x3, x4⟩, HQ5.out.symm, x5, x6, all_of_upto (p := insB) (L := n.code) (k := j) (by omega) HR.out⟩))
                      go_wp2_with fail
                      go_roundw
                      case rel => exact ⟨k + 1, by omega, by go_num, HUQ, HS2⟩
                      case measure => simp [RowKit.intOf]; omega
            · have HSA := Lib.hid (all_of_upto (p := metB insB) (L := I.methods) (k := k) (by omega) HS.out)
              go_wp2_with fail
              go_loopw [8] (fun i wr => ∃ k : Nat, k ≤ I.exports.length ∧ i = .int .i64 k ∧ Hid (Upd (fun _ => False) (w.alloc (.cells #[.string I.name, .slice fa I.fields.length fc, .slice ia I.imports.length ic, .slice ma I.methods.length mc, .slice xa I.exports.length xc] 32)) wr) ∧ Hid (∀ j, j < k → expB I.methods.length (I.exports.getD j default) = true)) (fun i _ => I.exports.length - (RowKit.intOf i).toNat)
              case atStart => exact ⟨0, Nat.zero_le _, rfl, HUM, HX0⟩
              case round =>
                clear c0 c1 c2 c3 c4
                obtain ⟨k, hk, rfl, HUX, HXS⟩ := hrel
                rename_i wx
                obtain ⟨c0, c1, c2, c3, c4⟩ := cell5 (S := fun _ => False) HUX.out (fun h => h)
                have HW := Lib.hid (HA.out.trans HUX.out (fun _ h _ => h))
                by_cases hlt : k < I.exports.length
                · skip
                  obtain ⟨g1, o1, rfl, hc0, -⟩ := (HX.out.later (upd_below HW.out)).at hlt
                  obtain ⟨n, hn⟩ : ∃ n, n = I.exports.getD k 0 := ⟨_, rfl⟩
                  rw [← hn] at hc0
                  have HEN := Lib.hid hn
                  have hmem : n ∈ I.exports := by rw [hn]; exact mem_getD0 hlt
                  have HMEM := Lib.hid hmem
                  have hi1 : (0 : Int) ≤ (k : Int) := Int.natCast_nonneg _
                  have hi2 : (k : Int) < (I.exports.length : Int) := by omega
                  clear hn hmem
                  by_cases x1 : 0 ≤ n
                  rotate_left
                  · have hneg : n < 0 := by omega
                    have HE : Hid (¬ imgB insB I = true) := Lib.hid (fun h => by have h1 := (img_iff.1 h).2.2.2.2.2.2.2.2.2 n HMEM.out; simp only [expB, inB, decide_eq_true_eq] at h1; omega)
                    go_wp2_with fail
                    go_quiet (fail)
                    go_wp2_with fail
                    go_ret
                    exact ⟨_, rfl, by exact ffi HE.out, HW.out.trans (upd_drewN _ _ _) (fun _ h _ => h)⟩
                  by_cases x2 : n < (I.methods.length : Int)
                  rotate_left
                  · have hneg : (I.methods.length : Int) ≤ n := by omega
                    have HE : Hid (¬ imgB insB I = true) := Lib.hid (fun h => by have h1 := (img_iff.1 h).2.2.2.2.2.2.2.2.2 n HMEM.out; simp only [expB, inB, decide_eq_true_eq] at h1; omega)
                    go_wp2_with fail
                    go_quiet (fail)
                    go_wp2_with fail
                    go_ret
                    exact ⟨_, rfl, by exact ffi HE.out, HW.out.trans (upd_drewN _ _ _) (fun _ h _ => h)⟩
                  have HX2 := Lib.hid (upto1 (f := fun j => expB I.methods.length (I.exports.getD j default)) HXS.out (by show expB I.methods.length (I.exports.getD k 0) = true; rw [← HEN.out]; simp only [expB, inB, decide_eq_true_eq]; omega))
                  go_wp2_with fail
                  go_quiet (fail)
                  go_wp2_with fail
                  go_roundw
                  case rel => exact ⟨k + 1, by omega, by go_num, Lib.hid (HUX.out.trans (upd_drewN _ _ _) (fun _ h _ => h)), HX2⟩
                  case measure => simp [RowKit.intOf]; omega
                · have HXA := Lib.hid (all_of_upto (p := expB I.methods.length) (L := I.exports) (k := k) (by omega) HXS.out)
                  obtain ⟨g1, o1, pv, lv, kv, rfl, hc0, hc1, hc2, hc3, hXp, -, -, -⟩ := (HM.out.later (upd_below HW.out)).at (k := 0) l2
                  obtain ⟨n, hn⟩ : ∃ n, n = I.methods.getD 0 default := ⟨_, rfl⟩
                  try rw [← hn] at hc0
                  try rw [← hn] at hc1
                  rw [← hn] at hXp
                  obtain ⟨pa, pc, rfl, upa, vpa⟩ := hXp.slice
                  rw [Nat.zero_mul, Nat.add_zero] at hc0
                  rw [Nat.zero_mul, Nat.add_zero] at hc1
                  have HEN := Lib.hid hn
                  clear hn hXp hc2 hc3
                  have HFB : Hid (firstB I.methods = (decide (n.params.length = 0) && (n.res == 0))) := Lib.hid (by rw [HEN.out]; rfl)
                  by_cases y1 : n.params.length = 0
                  rotate_left
                  · have HE : Hid (¬ imgB insB I = true) := Lib.hid (fun h => by have h1 := (img_iff.1 h).2.2.2.2.2.2.2.1; rw [HFB.out, Bool.and_eq_true] at h1; exact y1 (of_decide_eq_true h1.1))
                    have hneg : ((n.params.length : Int) == 0) = false := beq_eq_false_iff_ne.2 (by omega)
                    clear y1
                    go_wp2_with fail
                    go_ret
                    exact ⟨_, rfl, by exact ffi HE.out, HW.out⟩
                  have hpos : ((n.params.length : Int) == 0) = true := by rw [y1]; rfl
                  have HY1 := Lib.hid y1
                  clear y1
                  cases y2 : (n.res == 0) with
                  | false =>
                    have HE : Hid (¬ imgB insB I = true) := Lib.hid (fun h => by have h1 := (img_iff.1 h).2.2.2.2.2.2.2.1; rw [HFB.out, y2, Bool.and_false] at h1; cases h1)
                    go_wp2_with fail
                    go_ret
                    exact ⟨_, rfl, by exact ffi HE.out, HW.out⟩
                  | true =>
                    have HY : Hid (imgB insB I = true) := Lib.hid (img_iff.2 ⟨HQ1.out.symm, HQ2.out.symm, l1, HPA.out, l2, l3, HSA.out, by rw [HFB.out, y2, HY1.out]; rfl, l4, HXA.out⟩)
                    go_wp2_with fail
                    go_ret
                    exact ⟨_, rfl, by exact tti HY.out, HW.out⟩
end

section
open Go.RowKit Go.Lib Go.Shelf
set_option linter.unusedVariables false

theorem wf_i64 {n : Int} (h : -9223372036854775808 ≤ n ∧ n ≤ 9223372036854775807) : (Lit.int .i64 n).wf = true := WalkArith.wf_i64 (by omega)
theorem rpU8 {K : Nat → Prop} {W w : World} {b : Nat} {xs : List Int} (n : Int) (h : Pen 43 K W w b xs) (hn : xs.length ≤ 1099511627776) (wn : (Lit.int .i64 n).wf = true) :
    Calls Tryz.prog 14 #[.pointer (some ⟨b, 0, none⟩), .int .i64 n] w fun e w' => e = .returned (.tuple #[]) ∧ Pen 43 K W w' b (xs ++ [n % 256]) := by
  obtain ⟨h1, v, h⟩ := h
  exact (refU8 w b v xs n h.wr hn wn).mono fun e w' ⟨he, hl⟩ => ⟨he, Pen.laid h1 h hl⟩

set_option maxRecDepth 100000 in
set_option maxHeartbeats 2000000 in
theorem rList (K : Nat → Prop) (G W w : World) (b : Nat) (xs : List Int) (v : Value) (L : List Int) (h : Pen 43 K W w b xs) (g : Gr G K W) (hL : Ints G v L) (hn : xs.length ≤ 1099511600000) (hl : L.length ≤ 20000) :
    Calls Tryz.prog 16 #[.pointer (some ⟨b, 0, none⟩), v] w fun e w' => e = .returned (.tuple #[]) ∧ Pen 43 K W w' b (xs ++ numsL L) := by
  have HL := Lib.hid hL
  have HG := Lib.hid g
  have HP := Lib.hid h
  have HN := Lib.hid hn
  obtain ⟨a, c, rfl, h1, h2⟩ := hL.slice
  unfold maxLen at h2
  clear hL g h hn
  go_enter Tryz.func16, Tryz.ntmps16
  go_wp2_with fail
  refine (rpU8 _ HP.out (by have := HN.out; omega) (wf_i64 (by omega))).mono ?_
  rintro e w1 ⟨rfl, hp⟩
  have HP1 : Hid (Pen 43 K W w1 b (xs ++ (((L.length : Int) % 256) :: (L.take 0).map (· % 256)))) := Lib.hid hp
  clear hp
  go_wp2_with fail
  go_loopw [4] (fun i wr => ∃ k : Nat, k ≤ L.length ∧ i = .int .i64 k ∧ Hid (Pen 43 K W wr b (xs ++ (((L.length : Int) % 256) :: (L.take k).map (· % 256))))) (fun i _ => L.length - (RowKit.intOf i).toNat)
  case atStart => exact ⟨0, Nat.zero_le _, rfl, HP1⟩
  case round =>
    obtain ⟨k, hk, rfl, HQ⟩ := hrel
    by_cases hlt : k < L.length
    · obtain ⟨gb, off, rfl, hc, hwn⟩ := (HL.out.later (HG.out.at HQ.out)).at hlt
      obtain ⟨n, hn⟩ : ∃ n, n = L.getD k 0 := ⟨_, rfl⟩
      rw [← hn] at hc hwn
      have HWN := Lib.hid hwn
      have hi1 : (0 : Int) ≤ (k : Int) := Int.natCast_nonneg _
      have hi2 : (k : Int) < (L.length : Int) := by omega
      clear hwn
      have HT := Lib.hid (map_take hlt)
      rw [← hn] at HT
      clear hn
      go_wp2_with fail
      refine (rpU8 _ HQ.out (by have := HN.out; simp; omega) (wf_i64 HWN.out)).mono ?_
      rintro e w2 ⟨rfl, hp⟩
      have HP2 : Hid (Pen 43 K W w2 b (xs ++ (((L.length : Int) % 256) :: (L.take (k + 1)).map (· % 256)))) := Lib.hid (by rw [HT.out]; simpa using hp)
      clear hp hc
      go_wp2_with fail
      go_roundw
      case rel => exact ⟨k + 1, by omega, by go_num, HP2⟩
      case measure => simp [RowKit.intOf]; omega
    · have HE := Lib.hid (show L.take k = L from List.take_of_length_le (by omega))
      go_wp2_with fail
      go_end0
      exact ⟨rfl, by have := HQ.out; rw [HE.out] at this; exact this⟩

theorem rpShort {K : Nat → Prop} {W w : World} {b : Nat} {xs ys : List Int} {x : Value} (h : Pen 43 K W w b xs) (hy : Vw w x ys) (hx : ∀ v, Wr 43 w b v xs → ∀ k, x.ownBlock = some k → ¬ fp b v k) (hn : ys.length ≤ 255) (hl : xs.length ≤ 1099511627776) :
    Calls Tryz.prog 15 #[.pointer (some ⟨b, 0, none⟩), x] w fun e w' => e = .returned (.bool true) ∧ Pen 43 K W w' b (xs ++ ((ys.length : Int) :: ys)) := by
  obtain ⟨h1, v, h⟩ := h
  exact (refShort w b v x xs ys h.wr hy (fun w' hu => hy.upd hu (hx v h.wr)) hn hl).mono fun e w' ⟨he, hl⟩ => ⟨he, Pen.laid h1 h hl⟩
theorem rpRaw {K : Nat → Prop} {W w : World} {b : Nat} {xs ys : List Int} {x : Value} (h : Pen 43 K W w b xs) (hy : Vw w x ys) (hn : xs.length + ys.length ≤ 140737488355328) :
    Calls Tryz.prog 13 #[.pointer (some ⟨b, 0, none⟩), x] w fun e w' => e = .returned (.tuple #[]) ∧ Pen 43 K W w' b (xs ++ ys) := by
  obtain ⟨h1, v, h⟩ := h
  exact (rraw w b v x xs ys h.wr hy hn).mono fun e w' ⟨he, hl⟩ => ⟨he, Pen.laid h1 h hl⟩

theorem rpLay {K : Nat → Prop} {W w : World} {b : Nat} {xs : List Int} (i : InsM) (h : Pen 43 K W w b xs) (hn : xs.length ≤ 1099511620000) (hr : insB i = true) :
    Calls Tryz.prog 17 #[.pointer (some ⟨b, 0, none⟩), ins i.op i.a i.b] w fun e w' => e = .returned (.tuple #[]) ∧ Pen 43 K W w' b (xs ++ layB i.op i.a i.b) := by
  obtain ⟨h1, v, h⟩ := h
  exact (rLay i.op i.a i.b w b v xs h.wr hn hr).mono fun e w' ⟨he, hl⟩ => ⟨he, Pen.laid h1 h hl⟩
/-- Short(w, []byte(s)): the bytes lie in new memory -/
theorem rpName {K : Nat → Prop} {W w w1 : World} {b c n : Nat} {xs : List Int} (s : ByteArray) (h : Pen 43 K W w b xs) (hn : w.heap.size = n) (hv : Vw w1 (.slice (some ⟨n, 0, none⟩) s.size c) (nums s)) (hu : Upd (fun _ => False) w w1) (hs : s.size ≤ 255) (hl : xs.length ≤ 1099511627776) :
    Calls Tryz.prog 15 #[.pointer (some ⟨b, 0, none⟩), .slice (some ⟨n, 0, none⟩) s.size c] w1 fun e w' => e = .returned (.bool true) ∧ Pen 43 K W w' b (xs ++ nameL s) := by
  subst hn
  have h1 := h.mono hu
  obtain ⟨hK, v, h0⟩ := h
  have := rpShort h1 hv (fun v1 hw k hk hf => ?_) (by rw [nums_len]; exact hs) hl
  · rw [nums_len] at this
    exact this
  · simp [Value.ownBlock] at hk
    subst hk
    obtain ⟨_, v2, h2⟩ := h1
    have e0 : v = v1 := by
      have e1 := (hu.block b h0.wr.lt (fun h => h)).trans h0.wr.blk
      rw [hw.blk] at e1
      simpa using e1.symm
    subst e0
    have := wr_inn h0.wr _ hf
    omega
end

section
open Go.RowKit Go.Lib Go.Shelf
set_option linter.unusedVariables false
set_option linter.unusedSimpArgs false

/-- utf8's tables lie as laid -/
def Tabs (w : World) : Prop := Lib.Utf8Tabs (Tryz.laysValid_ren.g 3) (Tryz.laysValid_ren.g 4) w
theorem rValid (s : ByteArray) (w : World) (hs : s.size ≤ 9223372036854775807) (hT : Tabs w) : Calls Tryz.prog 78 #[.string s] w fun e w' => e = .returned (.bool (validD s.data.toList)) ∧ Below w.heap.size w w' :=
  Any.utf8_ValidString Tryz.laysValid s w hs hT
theorem nmRune_iff {r : Nat} : nmRune r = true ↔ ((97 ≤ r ∧ r ≤ 122) ∨ (48 ≤ r ∧ r ≤ 57) ∨ r = 45 ∨ r = 46 ∨ (224 ≤ r ∧ r ≤ 255)) := by
  unfold nmRune; simp
theorem rune_no {r : Nat} (h : ¬ ((97 ≤ r ∧ r ≤ 122) ∨ (48 ≤ r ∧ r ≤ 57) ∨ r = 45 ∨ r = 46 ∨ (224 ≤ r ∧ r ≤ 255))) : nmRune r = false := by
  cases hq : nmRune r with
  | false => rfl
  | true => exact absurd (nmRune_iff.1 hq) h

set_option maxRecDepth 100000 in
set_option maxHeartbeats 8000000 in
theorem rIsName (s : ByteArray) (w : World) (hs : s.size ≤ maxLen) (hT : Tabs w) : Calls Tryz.prog 35 #[.string s] w fun e w' => e = .returned (.bool (nmB s)) ∧ Upd (fun _ => False) w w' := by
  have HB := Lib.hid (show nmB s = (decide (1 ≤ s.size ∧ s.size ≤ 16) && nmR s.data.toList) from rfl)
  have HTB := Lib.hid hT
  unfold maxLen at hs
  clear hT
  by_cases h0 : s.size < 1
  · have HF := Lib.hid (show nmB s = false by rw [HB.out, decide_eq_false (by omega)]; rfl)
    have h0i : (s.size : Int) < 1 := by omega
    clear h0
    go_enter Tryz.func35, Tryz.ntmps35
    go_wp2_with fail
    go_ret
    exact ⟨ret_bool HF.out.symm, Upd.refl _ _⟩
  · by_cases h16 : 16 < s.size
    · have HF := Lib.hid (show nmB s = false by rw [HB.out, decide_eq_false (by omega)]; rfl)
      have h0i : ¬ (s.size : Int) < 1 := by omega
      have h1i : (s.size : Int) > 16 := by omega
      clear h0
      go_enter Tryz.func35, Tryz.ntmps35
      go_wp2_with fail
      go_ret
      exact ⟨ret_bool HF.out.symm, Upd.refl _ _⟩
    · have h0i : ¬ (s.size : Int) < 1 := by omega
      have h1i : ¬ (s.size : Int) > 16 := by omega
      have HSZ : Hid (s.size ≤ 9223372036854775807) := Lib.hid (by omega)
      have HT := Lib.hid (show nmB s = nmFrom s 0 by rw [HB.out, nmFrom_zero, decide_eq_true (by omega)]; rfl)
      cases hv : validD s.data.toList with
      | false =>
        have HF := Lib.hid (show nmB s = false by
          cases hq : nmB s with
          | false => rfl
          | true =>
            rw [HB.out, Bool.and_eq_true] at hq
            rw [valid_of_nm _ _ (Nat.le_refl _) hq.2] at hv
            cases hv)
        have HV := Lib.hid hv
        clear hv h0 h16
        go_enter Tryz.func35, Tryz.ntmps35
        go_wp2_with fail
        refine (rValid s _ HSZ.out HTB.out).mono ?_
        rw [HV.out]
        rintro e w1 ⟨rfl, hb⟩
        have HU := Lib.hid (upd_of_below hb)
        clear hb
        go_wp2_with fail
        go_ret
        exact ⟨ret_bool HF.out.symm, HU.out⟩
      | true =>
        have HV := Lib.hid hv
        clear hv h0 h16
        go_enter Tryz.func35, Tryz.ntmps35
        go_wp2_with fail
        refine (rValid s _ HSZ.out HTB.out).mono ?_
        rw [HV.out]
        rintro e w1 ⟨rfl, hb⟩
        have HU1 := Lib.hid (upd_of_below hb)
        have HI0 := Lib.hid (upd_iter w1 s 0)
        clear hb
        go_wp2_with fail
        go_loopw [4] (fun _ wr => ∃ pos : Nat, Hid (wr.heap[w1.heap.size]? = some (.stringIter s pos)) ∧ Hid (Upd (fun _ => False) w1 wr) ∧ Hid (nmB s = nmFrom s pos)) (fun _ wr => 16 - wr.iterPos w1.heap.size)
        case atStart => exact ⟨0, Lib.hid (World.iter_heap _ _ _), HI0, HT⟩
        case round =>
          obtain ⟨pos, HI, HU, HP⟩ := hrel
          by_cases hp : pos < s.size
          · have hnx := fun ty => Lib.run_next_any_at (P := Tryz.prog) wr w1.heap.size s pos ty HI.out hp
            have HS := Lib.hid (nmFrom_step s pos hp)
            have hr := dec_rune s pos
            have hw := dec_width s pos
            generalize (Utf8.decode s pos).1 = r at *
            generalize (Utf8.decode s pos).2 = d at *
            have HU2 := Lib.hid (upd_iterAt w1.heap.size s (pos + d) HU.out (Nat.le_refl _))
            have HI2 : Hid ((wr.iterAt w1.heap.size s (pos + d)).heap[w1.heap.size]? = some (.stringIter s (pos + d))) := Lib.iterAt_heap _ _ _ _ _ HI.out
            have HP1 := Lib.hid (iterPos_of HI.out)
            have HP2 := Lib.hid (iterPos_of HI2.out)
            generalize wr.iterAt w1.heap.size s (pos + d) = w2 at *
            have e45 := beq_num r 45 45 rfl
            have e46 := beq_num r 46 46 rfl
            go_wp2_with fail
            all_goals first
              | (have hq : nmRune r = true := nmRune_iff.2 (by clear e45 e46 hnx HS HP HU HI; (try simp only [Bool.not_eq_true', Bool.not_eq_false', decide_eq_false_iff_not, decide_eq_true_eq] at *); omega)
                 have HS2 := Lib.hid (show nmFrom s pos = nmFrom s (pos + d) by rw [HS.out, hq]; rfl)
                 clear hq
                 go_roundw
                 case rel => exact ⟨pos + d, HI2, HU2, Lib.hid (HP.out.trans HS2.out)⟩
                 case measure => rw [HP1.out, HP2.out]; omega)
              | (have hq : nmRune r = false := rune_no (by clear e45 e46 hnx HS HP HU HI; (try simp only [Bool.not_eq_true', Bool.not_eq_false', decide_eq_false_iff_not, decide_eq_true_eq] at *); omega)
                 have HS2 := Lib.hid (show nmFrom s pos = false by rw [HS.out, hq]; rfl)
                 clear hq
                 go_ret
                 exact ⟨ret_bool (HP.out.trans HS2.out).symm, HU1.out.trans HU2.out (fun _ h _ => h)⟩)
          · have hnx := fun ty => Lib.run_next_end_at (P := Tryz.prog) wr w1.heap.size s pos ty HI.out hp
            have HE := Lib.hid (nmFrom_end s pos (by omega))
            go_wp2_with fail
            go_ret
            exact ⟨ret_bool (HP.out.trans HE.out).symm, HU1.out.trans HU.out (fun _ h _ => h)⟩
end

section
open Go.RowKit Go.Lib Go.Shelf
set_option linter.unusedVariables false
set_option linter.unusedSimpArgs false

theorem wr_made (w : World) : Wr 43 (w.alloc (.cells #[.slice none 0 0] 43)) w.heap.size (.slice none 0 0) [] := by
  refine ⟨?_, World.ownsRow_nil _ _ _ _, by simp⟩
  show (w.heap.push _)[w.heap.size]? = _
  simp
def NameOk (w : World) : Prop := ∀ (s : ByteArray) (u : World), Below w.heap.size w u → s.size ≤ maxLen → Calls Tryz.prog 35 #[.string s] u fun e w' => e = .returned (.bool (nmB s)) ∧ Upd (fun _ => False) u w'
theorem NameOk.later {w u : World} (h : NameOk w) (hb : Below w.heap.size w u) : NameOk u := fun s x hx hs => h s x (hb.trans (hx.mono hb.size)) hs

set_option maxRecDepth 100000 in
set_option maxHeartbeats 4000000 in
theorem rImgLay_no (w : World) (v : Value) (I : ImgM) (h : Img w v I) (hN : NameOk w) (hr : imgB insB I = false) :
    Calls Tryz.prog 5 #[v] w fun e w' => e = .returned (.tuple #[.slice none 0 0, .int .i64 1]) ∧ Upd (fun _ => False) w w' := by
  have HI := Lib.hid h
  obtain ⟨f, i, m, x, rfl, hf, hi, hm, hx, hsz⟩ := h
  obtain ⟨fa, fc, rfl, -, -⟩ := hf.slice
  obtain ⟨ia, ic, rfl, -, -⟩ := hi.slice
  obtain ⟨ma, mc, rfl, hl1, hl2⟩ := hm.slice
  obtain ⟨xa, xc, rfl, -, -⟩ := hx.slice
  have HA := Lib.hid (Upd.alloc (fun _ => False) w (.cells #[.string I.name, .slice fa I.fields.length fc, .slice ia I.imports.length ic, .slice ma I.methods.length mc, .slice xa I.exports.length xc] 32))
  have HR := Lib.hid hr
  have HN := Lib.hid hN
  clear hf hi hm hx hsz hl1 hl2 hr hN
  go_enter Tryz.func5, Tryz.ntmps5
  go_wp2_with fail
  refine (rRightI _ _ I (HI.out.later (upd_below HA.out)) (HN.out.later (upd_below HA.out))).mono ?_
  rintro e w1 ⟨r, rfl, hri, hu⟩
  obtain rfl : r = false := by cases r with
    | false => rfl
    | true => have := hri.1 rfl; rw [HR.out] at this; cases this
  have HU := Lib.hid (HA.out.trans hu (fun _ h _ => h))
  clear hu hri
  go_wp2_with fail
  go_ret2
  exact ⟨rfl, HU.out⟩

set_option maxRecDepth 100000 in
set_option maxHeartbeats 16000000 in
theorem rImgLay (w : World) (v : Value) (I : ImgM) (h : Img w v I) (hN : NameOk w) (hr : imgB insB I = true) :
    Calls Tryz.prog 5 #[v] w fun e w' => ∃ x, e = .returned (.tuple #[x, .int .i64 0]) ∧ New w x (imgL I) w' := by
  have HI := Lib.hid h
  have HFX := Lib.hid (imgFacts hr)
  obtain ⟨f, i, m, x, rfl, hf, hi, hm, hx, hsz⟩ := h
  have HF := Lib.hid hf
  have HIM := Lib.hid hi
  have HM := Lib.hid hm
  have HX := Lib.hid hx
  obtain ⟨fa, fc, rfl, -, -⟩ := hf.slice
  obtain ⟨ia, ic, rfl, hi1, hi2⟩ := hi.slice
  obtain ⟨ma, mc, rfl, hl1, hl2⟩ := hm.slice
  obtain ⟨xa, xc, rfl, -, -⟩ := hx.slice
  unfold maxLen at hi2 hl2
  have HA := Lib.hid (Upd.alloc (fun _ => False) w (.cells #[.string I.name, .slice fa I.fields.length fc, .slice ia I.imports.length ic, .slice ma I.methods.length mc, .slice xa I.exports.length xc] 32))
  have HR := Lib.hid hr
  have HN := Lib.hid hN
  have HSZ := Lib.hid hsz
  clear hf hi hm hx hsz hr hN
  go_enter Tryz.func5, Tryz.ntmps5
  go_wp2_with fail
  refine (rRightI _ _ I (HI.out.later (upd_below HA.out)) (HN.out.later (upd_below HA.out))).mono ?_
  rintro e w1 ⟨r, rfl, hri, hu⟩
  obtain rfl : r = true := hri.2 HR.out
  have hc := cell5 hu (fun h => h)
  have HU := Lib.hid (HA.out.trans hu (fun _ h _ => h))
  have hlt1 : w.heap.size < w1.heap.size := by have := hu.size; simp at this; omega
  clear hu HA hri
  obtain ⟨w2, hw2e⟩ : ∃ w2, w2 = w1.alloc (.cells #[.slice none 0 0] 43) := ⟨_, rfl⟩
  have hu2 : Upd (fun _ => False) w1 w2 := by rw [hw2e]; exact Upd.alloc _ _ _
  have hw2 : Wr 43 w2 w1.heap.size (.slice none 0 0) [] := by rw [hw2e]; exact wr_made w1
  have hs2 : w1.heap.size < w2.heap.size := by rw [hw2e]; simp
  have hc2 := keep5 hu2 hc
  have HC := Lib.hid hc2
  have HU2 := Lib.hid (HU.out.trans hu2 (fun _ h _ => h))
  obtain ⟨K, hp2, hg, hk⟩ : ∃ K, Pen 43 K w2 w2 w1.heap.size [] ∧ Gr w K w2 ∧ K w.heap.size :=
    ⟨fun k => k < w2.heap.size ∧ k ≠ w1.heap.size, ⟨fun k hk => hk.1, _, hw2, fun k hk hn => by
      rcases hk with hk | hk
      · exact hn.2 hk
      · simp [Value.ownBlock] at hk, Upd.refl _ _⟩, ⟨upd_below HU2.out, fun k hk => ⟨by have := HU2.out.size; omega, by omega⟩⟩, by have := hu2.size; omega, by omega⟩
  have HKB : Hid (∀ k, ¬ K k → w.heap.size ≤ k) := Lib.hid (fun k hk => by
    rcases Nat.lt_or_ge k w.heap.size with h | h
    · exact absurd (hg.keeps k h) hk
    · exact h)
  have HP2 := Lib.hid hp2
  have HG := Lib.hid hg
  have HK := Lib.hid hk
  have HB := Lib.hid (show w.heap.size < w2.heap.size by have := hu2.size; omega)
  have HW2E := Lib.hid hw2e
  clear hw2 hu2 hc2 hp2 hg hk hlt1 hs2
  obtain ⟨c0, c1, c2, c3, c4⟩ := HC.out
  have hws : w2.heap.size = w1.heap.size + 1 := by rw [hw2e]; simp
  have kc := Go.Joins.run_convert_bytes_const_at (P := Tryz.prog) w2 23 5 #[.int .u8 84, .int .u8 65, .int .u8 67, .int .u8 73] 4 4 (w1.heap.size + 1) hws.symm Tryz.underlying23 Tryz.underlying5
  have hp3 := HP2.out.mono (Upd.alloc (fun _ => False) w2 (.cells #[.int .u8 84, .int .u8 65, .int .u8 67, .int .u8 73] 5 (4, 5)))
  have hv3 := vw_lit w2 5 (4, 5) [84, 65, 67, 73] #[.int .u8 84, .int .u8 65, .int .u8 67, .int .u8 73] 4 4 rfl rfl (Nat.le_refl _) (by unfold maxLen; omega) (by decide)
  rw [hws] at hv3
  have HW2 := Lib.hid hw2e
  have HP3 : Hid (Pen 43 K w2 ((w1.alloc (.cells #[.slice none 0 0] 43)).alloc (.cells #[.int .u8 84, .int .u8 65, .int .u8 67, .int .u8 73] 5 (4, 5))) w1.heap.size []) := Lib.hid (by rw [← hw2e]; exact hp3)
  have HV3 : Hid (Vw ((w1.alloc (.cells #[.slice none 0 0] 43)).alloc (.cells #[.int .u8 84, .int .u8 65, .int .u8 67, .int .u8 73] 5 (4, 5))) (.slice (some ⟨w1.heap.size + 1, 0, none⟩) 4 4) [84, 65, 67, 73]) := Lib.hid (by rw [← hw2e]; exact hv3)
  rw [hw2e] at kc
  clear hw2e hc c0 c1 c2 c3 c4 hws hp3 hv3
  go_wp2_with fail
  refine (rpRaw HP3.out HV3.out (by simp)).mono ?_
  rintro e w4 ⟨rfl, hp⟩
  rw [List.nil_append] at hp
  have HP4 := Lib.hid hp
  clear hp kc HP2 HP3 HV3 HW2E HW2
  generalize w1.heap.size = bw at *
  go_wp2_with fail
  refine (rpU8 1 HP4.out (by simp) (wf_i64 (by omega))).mono ?_
  rintro e w5 ⟨rfl, hp⟩
  have HP5 : Hid (Pen 43 K w2 w5 bw markL) := Lib.hid hp
  have hcc := hp.box5 HB.out HK.out HC.out
  clear hp
  obtain ⟨c0, c1, c2, c3, c4⟩ := hcc
  obtain ⟨sc, w6, hcv, hv, hu, -⟩ := conv_at w5 I.name HSZ.out w5.heap.size rfl
  have HV6 := Lib.hid hv
  have HU6 := Lib.hid hu
  clear hv hu
  go_wp2_with fail
  refine (rpName I.name HP5.out rfl HV6.out HU6.out (by have := HFX.out.size; omega) (by simp [markL])).mono ?_
  rintro e w7 ⟨rfl, hp⟩
  have HP7 := Lib.hid hp
  have hcc := hp.box5 HB.out HK.out HC.out
  clear hp c0 c1 c2 c3 c4 hcv
  obtain ⟨c0, c1, c2, c3, c4⟩ := hcc
  go_wp2_with fail
  refine (rList _ w _ _ _ _ _ I.fields HP7.out HG.out HF.out (by have := HFX.out.size; simp [nameL, markL, nums_len]; omega) (by have := HFX.out.flds; omega)).mono ?_
  rintro e w8 ⟨rfl, hp⟩
  have HP8 := Lib.hid hp
  have hcc := hp.box5 HB.out HK.out HC.out
  clear hp c0 c1 c2 c3 c4
  obtain ⟨c0, c1, c2, c3, c4⟩ := hcc
  go_wp2_with fail
  refine (rpU8 _ HP8.out (by have := HFX.out.size; have := HFX.out.flds; simp [nameL, markL, nums_len, numsL]; omega) (wf_i64 (by omega))).mono ?_
  rintro e w9 ⟨rfl, hp⟩
  obtain ⟨ys, hys⟩ : ∃ ys, ys = markL ++ nameL I.name ++ numsL I.fields ++ [(I.imports.length : Int) % 256] := ⟨_, rfl⟩
  have HYL := Lib.hid (show ys.length ≤ 100 by have := HFX.out.size; have := HFX.out.flds; rw [hys]; simp [nameL, markL, nums_len, numsL]; omega)
  have HY := Lib.hid hys
  have HP9 : Hid (Pen 43 K w2 w9 bw (ys ++ impsL (I.imports.take 0))) := Lib.hid (by rw [hys]; simpa [impsL] using hp)
  clear hp c0 c1 c2 c3 c4 hys
  go_wp2_with fail
  go_loopw [5, 6] (fun i _ wr => ∃ k : Nat, k ≤ I.imports.length ∧ i = .int .i64 k ∧ Hid (Pen 43 K w2 wr bw (ys ++ impsL (I.imports.take k)))) (fun i _ _ => I.imports.length - (RowKit.intOf i).toNat)
  case atStart => exact ⟨0, Nat.zero_le _, rfl, HP9⟩
  case round =>
    obtain ⟨k, hk, rfl, HQ⟩ := hrel
    have hcc := HQ.out.box5 HB.out HK.out HC.out
    obtain ⟨c0, c1, c2, c3, c4⟩ := hcc
    by_cases hlt : k < I.imports.length
    · obtain ⟨gb, off, pv, rfl, hc0, hc1, hc2, hc3, hX⟩ := HIM.out.at hlt
      obtain ⟨n, hn⟩ : ∃ n, n = I.imports.getD k default := ⟨_, rfl⟩
      rw [← hn] at hc0 hc1 hc3 hX
      obtain ⟨pa, pc, rfl, -, -⟩ := hX.1.slice
      have hb := HG.out.at HQ.out
      have hc0 := later hb hc0
      have hc1 := later hb hc1
      have hc2 := later hb hc2
      have hc3 := later hb hc3
      have HT := Lib.hid (flat_take impL hlt)
      have HR := Lib.hid (HFX.out.imp _ (mem_getD hlt))
      rw [← hn] at HT HR
      have HPV := Lib.hid hX.1
      have HWX := Lib.hid hX.2
      have hi1 : (0 : Int) ≤ (k : Int) := Int.natCast_nonneg _
      have hi2 : (k : Int) < (I.imports.length : Int) := by omega
      have hk1 : IntKind.i64.wrap ((k : Int) + 1) = (k : Int) + 1 := IntWalk.i64_in _ (by omega)
      obtain ⟨k1, k2⟩ := box4 HQ.out (.cells #[.string n.name, .int .i64 n.exp, .slice pa n.params.length pc, .int .i64 n.res] 49)
      have HKX := Lib.hid k1
      have HBK := Lib.hid k2
      have HGX : Hid (Gr w (fun k => K k ∨ k = wr.heap.size) (wr.alloc (.cells #[.string n.name, .int .i64 n.exp, .slice pa n.params.length pc, .int .i64 n.res] 49))) := Lib.hid ⟨HG.out.at k2, fun k hk => .inl (HG.out.keeps k hk)⟩
      obtain ⟨sc2, w10, hcv, hv, hu, -⟩ := conv_at (wr.alloc (.cells #[.string n.name, .int .i64 n.exp, .slice pa n.params.length pc, .int .i64 n.res] 49)) n.name HWX.out.2.2 (wr.heap.size + 1) (by simp)
      have HV10 := Lib.hid hv
      have HU10 := Lib.hid hu
      have HXL := Lib.hid (show (ys ++ impsL (I.imports.take k)).length ≤ 1000 by have := HYL.out; have := imps_len HFX.out k; simp; omega)
      generalize hxs : ys ++ impsL (I.imports.take k) = xs at *
      have HXS := Lib.hid hxs
      obtain ⟨d0, d1, d2, d3⟩ := (k1.mono hu).box4
      clear hn hX hb k1 k2 hv hu hxs
      go_wp2_with fail
      refine (rpName n.name HKX.out (by simp) HV10.out HU10.out (by have := HR.out.size; omega) (by have := HXL.out; omega)).mono ?_
      rintro e w11 ⟨rfl, hp⟩
      have HP11 := Lib.hid hp
      have hdd := hp.box4
      clear hp hcv d0 d1 d2 d3 c0 c1 c2 c3 c4 hc0 hc1 hc2 hc3
      obtain ⟨d0, d1, d2, d3⟩ := hdd
      go_wp2_with fail
      refine (rpU8 _ HP11.out (by have := HXL.out; have := HR.out.size; simp [nameL, nums_len]; omega) (wf_i64 HWX.out.1)).mono ?_
      rintro e w12 ⟨rfl, hp⟩
      have HP12 := Lib.hid hp
      have hdd := hp.box4
      clear hp d0 d1 d2 d3
      obtain ⟨d0, d1, d2, d3⟩ := hdd
      go_wp2_with fail
      refine (rList _ w _ _ _ _ _ n.params HP12.out HGX.out HPV.out (by have := HXL.out; have := HR.out.size; simp [nameL, nums_len]; omega) (by have := HR.out.pars; omega)).mono ?_
      rintro e w13 ⟨rfl, hp⟩
      have HP13 := Lib.hid hp
      have hdd := hp.box4
      clear hp d0 d1 d2 d3
      obtain ⟨d0, d1, d2, d3⟩ := hdd
      go_wp2_with fail
      refine (rpU8 _ HP13.out (by have := HXL.out; have := HR.out.size; have := HR.out.pars; simp [nameL, numsL, nums_len]; omega) (wf_i64 HWX.out.2.1)).mono ?_
      rintro e w14 ⟨rfl, hp⟩
      have hbk := HBK.out.back hp
      have HP14 : Hid (Pen 43 K w2 w14 bw (ys ++ impsL (I.imports.take (k + 1)))) := Lib.hid (by
        unfold impsL; rw [HT.out, ← List.append_assoc, show ys ++ List.flatMap impL (List.take k I.imports) = xs from HXS.out]
        simpa [impL] using hbk)
      clear hp hbk d0 d1 d2 d3
      go_wp2_with fail
      go_roundw
      case rel => exact ⟨k + 1, by omega, by go_num, HP14⟩
      case measure => simp [RowKit.intOf]; omega
    · have HE := Lib.hid (show I.imports.take k = I.imports from List.take_of_length_le (by omega))
      have hi2 : ¬ ((k : Int) < (I.imports.length : Int)) := by omega
      go_wp2_with fail
      refine (rpU8 _ HQ.out (by have := HYL.out; have := imps_len HFX.out k; simp; omega) (wf_i64 (by omega))).mono ?_
      rintro e w10 ⟨rfl, hp⟩
      rw [HE.out] at hp
      obtain ⟨zs, hzs⟩ : ∃ zs, zs = ys ++ impsL I.imports ++ [(I.methods.length : Int) % 256] := ⟨_, rfl⟩
      have HZL := Lib.hid (show zs.length ≤ 300 by have := HYL.out; have := imps_len HFX.out k; rw [HE.out] at this; rw [hzs]; simp; omega)
      have HZ := Lib.hid hzs
      have HP10 : Hid (Pen 43 K w2 w10 bw (zs ++ metsL (I.methods.take 0))) := Lib.hid (by rw [hzs]; simpa [metsL] using hp)
      clear hp c0 c1 c2 c3 c4 hzs
      go_wp2_with fail
      go_loopw [7, 8, 9] (fun i _ _ wr => ∃ k : Nat, k ≤ I.methods.length ∧ i = .int .i64 k ∧ Hid (Pen 43 K w2 wr bw (zs ++ metsL (I.methods.take k)))) (fun i _ _ _ => I.methods.length - (RowKit.intOf i).toNat)
      case atStart => exact ⟨0, Nat.zero_le _, rfl, HP10⟩
      case round =>
        obtain ⟨k, hk, rfl, HQ⟩ := hrel
        obtain ⟨wo, hwo⟩ : ∃ wo, wo = wr := ⟨wr, rfl⟩
        subst hwo
        have hcc := HQ.out.box5 HB.out HK.out HC.out
        obtain ⟨c0, c1, c2, c3, c4⟩ := hcc
        by_cases hlt : k < I.methods.length
        · obtain ⟨gb, off, pv, qv, rv, rfl, hc0, hc1, hc2, hc3, hX⟩ := HM.out.at hlt
          obtain ⟨n, hn⟩ : ∃ n, n = I.methods.getD k default := ⟨_, rfl⟩
          rw [← hn] at hc1 hX
          obtain ⟨pa, pc, rfl, -, -⟩ := hX.1.slice
          obtain ⟨qa, qc, rfl, -, -⟩ := hX.2.1.slice
          obtain ⟨ra, rc, rfl, hr1, hr2⟩ := hX.2.2.1.slice
          unfold maxLen at hr2
          have hb := HG.out.at HQ.out
          have hc0 := later hb hc0
          have hc1 := later hb hc1
          have hc2 := later hb hc2
          have hc3 := later hb hc3
          have HT := Lib.hid (flat_take metL hlt)
          have HR := Lib.hid (HFX.out.met _ (mem_getD hlt))
          rw [← hn] at HT HR
          have HPV := Lib.hid hX.1
          have HQV := Lib.hid hX.2.1
          have HCV := Lib.hid hX.2.2.1
          have HWX := Lib.hid hX.2.2.2
          have HRR := Lib.hid (List.all_eq_true.1 HR.out.all)
          have hi1 : (0 : Int) ≤ (k : Int) := Int.natCast_nonneg _
          have hi2 : (k : Int) < (I.methods.length : Int) := by omega
          have hk1 : IntKind.i64.wrap ((k : Int) + 1) = (k : Int) + 1 := IntWalk.i64_in _ (by omega)
          obtain ⟨k1, k2⟩ := box4 HQ.out (.cells #[.slice pa n.params.length pc, .int .i64 n.res, .slice qa n.locals.length qc, .slice ra n.code.length rc] 52)
          have HKX := Lib.hid k1
          have HBK := Lib.hid k2
          have HGX : Hid (Gr w (fun k => K k ∨ k = wo.heap.size) (wo.alloc (.cells #[.slice pa n.params.length pc, .int .i64 n.res, .slice qa n.locals.length qc, .slice ra n.code.length rc] 52))) := Lib.hid ⟨HG.out.at k2, fun k hk => .inl (HG.out.keeps k hk)⟩
          have HXL := Lib.hid (show (zs ++ metsL (I.methods.take k)).length ≤ 6000 by have := HZL.out; have := mets_len HFX.out k; simp; omega)
          generalize hxs : zs ++ metsL (I.methods.take k) = xs at *
          have HXS := Lib.hid hxs
          obtain ⟨d0, d1, d2, d3⟩ := k1.box4
          clear hn hX hb k1 k2 hxs
          go_wp2_with fail
          refine (rList _ w _ _ _ _ _ n.params HKX.out HGX.out HPV.out (by have := HXL.out; omega) (by have := HR.out.pars; omega)).mono ?_
          rintro e w11 ⟨rfl, hp⟩
          have HP11 := Lib.hid hp
          have hdd := hp.box4
          clear hp d0 d1 d2 d3 c0 c1 c2 c3 c4 hc0 hc1 hc2 hc3
          obtain ⟨d0, d1, d2, d3⟩ := hdd
          go_wp2_with fail
          refine (rpU8 _ HP11.out (by have := HXL.out; have := HR.out.pars; simp [numsL]; omega) (wf_i64 HWX.out)).mono ?_
          rintro e w12 ⟨rfl, hp⟩
          have HP12 := Lib.hid hp
          have hdd := hp.box4
          clear hp d0 d1 d2 d3
          obtain ⟨d0, d1, d2, d3⟩ := hdd
          go_wp2_with fail
          refine (rList _ w _ _ _ _ _ n.locals HP12.out HGX.out HQV.out (by have := HXL.out; have := HR.out.pars; simp [numsL]; omega) (by have := HR.out.locs; omega)).mono ?_
          rintro e w13 ⟨rfl, hp⟩
          have HP13 := Lib.hid hp
          have hdd := hp.box4
          clear hp d0 d1 d2 d3
          obtain ⟨d0, d1, d2, d3⟩ := hdd
          go_wp2_with fail
          refine (rpU8 _ HP13.out (by have := HXL.out; have := HR.out.pars; have := HR.out.locs; simp [numsL]; omega) (wf_i64 (by omega))).mono ?_
          rintro e w14 ⟨rfl, hp⟩
          obtain ⟨us, hus⟩ : ∃ us, us = xs ++ (numsL n.params ++ ([n.res % 256] ++ (numsL n.locals ++ [(n.code.length : Int) % 256]))) := ⟨_, rfl⟩
          have HUL := Lib.hid (show us.length ≤ 10000 by have := HXL.out; have := HR.out.pars; have := HR.out.locs; rw [hus]; simp [numsL]; omega)
          have HUS := Lib.hid hus
          have HP14 : Hid (Pen 43 (fun k => K k ∨ k = wo.heap.size) (wo.alloc (.cells #[.slice pa n.params.length pc, .int .i64 n.res, .slice qa n.locals.length qc, .slice ra n.code.length rc] 52)) w14 bw (us ++ codeL (n.code.take 0))) := Lib.hid (by rw [hus]; simpa [codeL] using hp)
          clear hp d0 d1 d2 d3 hus
          go_wp2_with fail
          go_loopw [9] (fun i wr => ∃ j : Nat, j ≤ n.code.length ∧ i = .int .i64 j ∧ Hid (Pen 43 (fun k => K k ∨ k = wo.heap.size) (wo.alloc (.cells #[.slice pa n.params.length pc, .int .i64 n.res, .slice qa n.locals.length qc, .slice ra n.code.length rc] 52)) wr bw (us ++ codeL (n.code.take j)))) (fun i _ => n.code.length - (RowKit.intOf i).toNat)
          case atStart => exact ⟨0, Nat.zero_le _, rfl, HP14⟩
          case round =>
            obtain ⟨j, hj, rfl, HQJ⟩ := hrel
            obtain ⟨d0, d1, d2, d3⟩ := HQJ.out.box4
            by_cases hjl : j < n.code.length
            · obtain ⟨gj, oj, rfl, e0, e1, e2, -⟩ := (HCV.out.later (HGX.out.at HQJ.out)).at hjl
              obtain ⟨y, hy⟩ : ∃ y, y = n.code.getD j default := ⟨_, rfl⟩
              rw [← hy] at e0 e1 e2
              have HTJ := Lib.hid (flat_take (fun i : InsM => layB i.op i.a i.b) hjl)
              have HRJ := Lib.hid (HRR.out _ (mem_getD hjl))
              rw [← hy] at HTJ HRJ
              have HJL := Lib.hid (show (us ++ codeL (n.code.take j)).length ≤ 20000 by have := HUL.out; have := code_len n.code j; have := HR.out.code; simp; omega)
              have hj1 : (0 : Int) ≤ (j : Int) := Int.natCast_nonneg _
              have hj2 : (j : Int) < (n.code.length : Int) := by omega
              have hj3 : IntKind.i64.wrap ((j : Int) + 1) = (j : Int) + 1 := IntWalk.i64_in _ (by omega)
              clear hy
              go_wp2_with fail
              refine (rpLay y HQJ.out (by have := HJL.out; omega) HRJ.out).mono ?_
              rintro e w15 ⟨rfl, hp⟩
              have HP15 : Hid (Pen 43 (fun k => K k ∨ k = wo.heap.size) _ w15 bw (us ++ codeL (n.code.take (j + 1)))) := Lib.hid (by unfold codeL; rw [HTJ.out]; simpa [codeL] using hp)
              clear hp d0 d1 d2 d3 e0 e1 e2
              go_wp2_with fail
              go_roundw
              case rel => exact ⟨j + 1, by omega, by go_num, HP15⟩
              case measure => simp [RowKit.intOf]; omega
            · have HEJ := Lib.hid (show n.code.take j = n.code from List.take_of_length_le (by omega))
              have hj2 : ¬ ((j : Int) < (n.code.length : Int)) := by omega
              have hbk := HBK.out.back HQJ.out
              have HP16 : Hid (Pen 43 K w2 wr bw (zs ++ metsL (I.methods.take (k + 1)))) := Lib.hid (by
                rw [HEJ.out, HUS.out] at hbk
                unfold metsL; rw [HT.out, ← List.append_assoc, show zs ++ List.flatMap metL (List.take k I.methods) = xs from HXS.out]
                simpa [metL] using hbk)
              clear hbk
              go_wp2_with fail
              go_roundw
              case rel => exact ⟨k + 1, by omega, by go_num, HP16⟩
              case measure => simp [RowKit.intOf]; omega
        · have HE2 := Lib.hid (show I.methods.take k = I.methods from List.take_of_length_le (by omega))
          have hi2 : ¬ ((k : Int) < (I.methods.length : Int)) := by omega
          go_wp2_with fail
          refine (rList _ w _ _ _ _ _ I.exports HQ.out HG.out HX.out (by have := HZL.out; have := mets_len HFX.out k; simp; omega) (by have := HFX.out.exps; omega)).mono ?_
          rintro e w11 ⟨rfl, hp⟩
          rw [HE2.out] at hp
          have hL : zs ++ metsL I.methods ++ numsL I.exports = imgL I := by rw [HZ.out, HY.out]; simp [imgL]
          rw [hL] at hp
          have HP11 := Lib.hid hp
          clear hp c0 c1 c2 c3 c4 hL
          obtain ⟨_, vw, hpv⟩ := HP11.out
          obtain ⟨va, vc, rfl⟩ := ownsRow_slice hpv.wr.own
          have HPV := Lib.hid hpv
          have f0 := hpv.wr.cell
          clear hpv
          go_wp2_with fail
          go_ret2
          exact ⟨_, rfl, HPV.out.wr.own, (upd_of_below (HG.out.at HP11.out)), fun k hk => HKB.out k (HPV.out.off k (.inr hk))⟩
end
end Go.Proofs.YtmbdfmgidnjgeaaGreatDoor

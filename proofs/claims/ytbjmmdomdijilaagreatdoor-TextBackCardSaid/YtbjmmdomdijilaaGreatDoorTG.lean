/- TextBack, walked. -/
import Derived.Test.YtbjmmdomdijilaaGreatDoorTD
import Derived.Test.YtbjmmdomdijilaaGreatDoorMu
import Derived.Test.YtbjmmdomdijilaaGreatDoorIz
import Derived.OpenShut
import Derived.Lib.SmallJoins
namespace Go.Proofs.YtbjmmdomdijilaaGreatDoor
open Go.RowKit Go.Shelf Go.Lib
set_option linter.unusedVariables false
set_option linter.unusedSimpArgs false

theorem cells_at5 {w : World} {g : Nat} {C : Array Value} {e : TypeId} {fr : Nat × Nat} (h : w.heap[g]? = some (.cells C e fr)) (j : Nat) (x : Value) (hx : C[j]? = some x) : w.cell? ⟨g, j, none⟩ = some x := by
  show (match w.heap[g]? with | some (.cells c _ _) => _ | _ => _) = _
  rw [h]
  simpa using hx
theorem binsUpdG {w w' : World} (h : Bins ⟨w, fun _ => False⟩) (hu : Upd (fun _ => False) w w') : Bins ⟨w', fun _ => False⟩ :=
  ⟨fun h => h, fun k hk => (hu.cell (World.block_lt_of_cell? _ _ (h.2 k hk)) id).trans (h.2 k hk)⟩
/-- what stands between lines -/
def junk (q : Nat) : By := match q with
  | 0 => []
  | 1 => [10]
  | 2 => [32, 32, 35, 32, 110, 111, 116, 101, 10]
  | _ => [32, 32, 32]
def jOf (Ns : List Int) (n : Nat) : By := match decide (n < Ns.length) with
  | true => junk ((Ns.getD n 0) % 4).toNat
  | false => []
theorem jOf_is (Ns : List Int) (n : Nat) : jOf Ns n = junk 0 ∨ jOf Ns n = junk 1 ∨ jOf Ns n = junk 2 ∨ jOf Ns n = junk 3 := by
  unfold jOf
  split
  · have h1 := Int.emod_nonneg (Ns.getD n 0) (b := 4) (by omega)
    have h2 := Int.emod_lt_of_pos (Ns.getD n 0) (b := 4) (by omega)
    generalize Ns.getD n 0 % 4 = r at *
    rcases (by omega : r = 0 ∨ r = 1 ∨ r = 2 ∨ r = 3) with rfl | rfl | rfl | rfl
    · exact .inl rfl
    · exact .inr (.inl rfl)
    · exact .inr (.inr (.inl rfl))
    · exact .inr (.inr (.inr rfl))
  · exact .inl rfl
theorem jOf_len (Ns : List Int) (n : Nat) : (jOf Ns n).length ≤ 9 := by
  rcases jOf_is Ns n with h | h | h | h <;> rw [h] <;> decide
def noteF : By → Nat → (Nat → By) → By
  | [], _, _ => []
  | b :: t, n, J => match b == 10 with
    | true => b :: (J n ++ noteF t (n + 1) J)
    | false => b :: noteF t n J
theorem note_no {b : UInt8} (h : (b == 10) = false) (t : By) (n : Nat) (J : Nat → By) : noteF (b :: t) n J = b :: noteF t n J := by
  show (match b == 10 with | true => _ | false => _) = _
  rw [h]
theorem note_yes {b : UInt8} (h : (b == 10) = true) (t : By) (n : Nat) (J : Nat → By) : noteF (b :: t) n J = b :: (J n ++ noteF t (n + 1) J) := by
  show (match b == 10 with | true => _ | false => _) = _
  rw [h]
theorem note_line (n : Nat) (J : Nat → By) (t : By) : ∀ {x : By}, NoLf x → noteF (x ++ 10 :: t) n J = x ++ 10 :: (J n ++ noteF t (n + 1) J)
  | [], _ => rfl
  | b :: x, h => by
    have hb : (b == 10) = false := by simpa using h b (by simp)
    rw [List.cons_append, note_no hb, note_line n J t (fun c hc => h c (by simp [hc]))]
    rfl
theorem note_len (J : Nat → By) (hJ : ∀ n, (J n).length ≤ 9) : ∀ (l : By) (n : Nat), (noteF l n J).length ≤ 10 * l.length
  | [], _ => by simp [noteF]
  | b :: t, n => by
    have h1 := note_len J hJ t (n + 1)
    have h2 := note_len J hJ t n
    have h3 := hJ n
    cases hb : b == 10 with
    | false => rw [note_no hb]; simp only [List.length_cons]; omega
    | true => rw [note_yes hb]; simp only [List.length_cons, List.length_append]; omega
theorem empty_blanks : ∀ p : Nat, emptyP (plainP (List.replicate p 32)) = true
  | 0 => rfl
  | p + 1 => by
    rw [List.replicate_succ, plain_blank]
    have := empty_blanks p
    unfold emptyP at this ⊢
    rw [next_blank]
    exact this
theorem noLf_blanks (p : Nat) : NoLf (List.replicate p 32) := fun b hb => by
  have := List.eq_of_mem_replicate hb
  rw [this]
  decide
theorem noted_of (Ns : List Int) : ∀ (Ls : List By) (n p : Nat), (∀ x ∈ Ls, NoLf x) → Noted Ls (linesP (List.replicate p 32 ++ noteF (flat Ls) n (jOf Ns)))
  | [], n, p, _ => by
    show Noted [] (linesP (List.replicate p 32 ++ []))
    rw [List.append_nil]
    cases p with
    | zero => exact .nil
    | succ p =>
      rw [lines_last _ (noLf_blanks _) (by simp)]
      exact .skip _ (empty_blanks _) .nil
  | x :: Ls, n, p, h => by
    have hx := h x (by simp)
    have hLs : ∀ y ∈ Ls, NoLf y := fun y hy => h y (by simp [hy])
    rw [flat_cons, note_line n _ _ hx, ← List.append_assoc, lines_cut _ _ (fun b hb => by
      rcases List.mem_append.1 hb with hb | hb
      · exact noLf_blanks p b hb
      · exact hx b hb)]
    refine .line p x ?_
    rcases jOf_is Ns n with hj | hj | hj | hj
    · rw [hj]
      exact noted_of Ns Ls (n + 1) 0 hLs
    · rw [hj]
      show Noted Ls (linesP ([] ++ 10 :: noteF (flat Ls) (n + 1) (jOf Ns)))
      rw [lines_cut [] _ (by simp)]
      exact .skip _ rfl (noted_of Ns Ls (n + 1) 0 hLs)
    · rw [hj]
      show Noted Ls (linesP ([32, 32, 35, 32, 110, 111, 116, 101] ++ 10 :: noteF (flat Ls) (n + 1) (jOf Ns)))
      rw [lines_cut _ _ (by decide)]
      exact .skip _ (by decide +kernel) (noted_of Ns Ls (n + 1) 0 hLs)
    · rw [hj]
      exact noted_of Ns Ls (n + 1) 3 hLs
theorem parse_notes {I : ImgM} (h : imgB insB I = true) (Ns : List Int) : parseT (noteF (linesI I) 0 (jOf Ns)) = (I, 0, 0) := by
  refine parse_noted h ?_
  rw [lines_flat]
  exact noted_of Ns (linesN I) 0 0 (fun x hx => (noLf_lines h x hx).1)
set_option maxRecDepth 100000 in
theorem ixJunk (k : Nat) (hk : (k : Int) < 4) : ∀ w : World, (Instr.index 38 (.agg #[.string { data := #[] }, .string { data := #[10] }, .string { data := #[32, 32, 35, 32, 110, 111, 116, 101, 10] }, .string { data := #[32, 32, 32] }]) (.int .i64 k)).run Tryz.prog w = .ok (.string (bs (junk k))) w := by
  have h : k = 0 ∨ k = 1 ∨ k = 2 ∨ k = 3 := by omega
  rcases h with rfl | rfl | rfl | rfl
  · exact fun w => by kernel_rfl
  · exact fun w => by kernel_rfl
  · exact fun w => by kernel_rfl
  · exact fun w => by kernel_rfl
section
open Go.ChangeShapes Go.WideShapes
theorem bounds64T {n : Int} (h : (Lit.int .i64 n).wf = true) : wi64 n := bounds_i64 h
theorem open_numsT {H : Type} {enc : TypeId × Value → H} {W : World} {n : Nat} {v : Value} {x : DataW H × List MemPlace} (h : DataW.trod enc Tryz.prog W 0 (fun _ => true) true n 23 [v] = some x) :
    ∃ ys, Ints W v ys := by
  rcases open_ints Tryz.underlying23 Tryz.underlying3 (by kernel_rfl) h with ⟨hcs, hx⟩ | ⟨a, len, cap, zs, hcs, _, hl, hm, hz, hx, hcell, hwz⟩
  · simp at hcs
    subst hcs
    exact ⟨[], Sl.nil _ _ _, by simp⟩
  · simp at hcs
    subst hcs
    simp at hz
    have hlen : (zs.take len).length = len := by simp; omega
    refine ⟨zs.take len, ⟨a, cap, by rw [hlen], by omega, hm, ?_⟩, fun y hy => bounds64T (hwz y (List.mem_of_mem_take hy))⟩
    rw [hlen]
    obtain ⟨b, off, spot⟩ := a
    by_cases h0 : spot = none
    · subst h0
      refine .inr ⟨b, off, rfl, fun i hi j hj => ?_⟩
      have := hcell i (by omega)
      rw [addr_add] at this
      obtain rfl : j = 0 := by omega
      rw [Nat.mul_one, Nat.add_zero, this]
      simp [List.getD, hi]
    · refine .inl ?_
      rcases Nat.eq_zero_or_pos cap with h | h
      · omega
      · have := hcell 0 (by omega)
        have := World.cell?_spot this
        simp [Addr.add] at this
        exact absurd this h0
end
theorem bs_getkG (l : By) (k : Nat) (h : k < (bs l).size) : ((bs l)[k]'h) = l.getD k 0 := by
  have hl : k < l.length := by rw [bs_size] at h; exact h
  show (l.toArray)[k]'(by simpa using hl) = _
  simp [List.getD, hl]
theorem byte10G (b : UInt8) : (((b.toNat : Nat) : Int) == 10) = (b == 10) := by
  rw [Bool.eq_iff_iff, beq_iff_eq, beq_iff_eq]
  constructor
  · intro h
    have : b.toNat = (10 : UInt8).toNat := by show b.toNat = 10; omega
    exact UInt8.toNat_inj.1 this
  · rintro rfl
    rfl
theorem pickG (n : Int) (m : Nat) (hm : 1 ≤ m) (hm2 : m ≤ 9223372036854775807) : ∀ u : World, Calls Tryz.prog 7 #[.int .i64 n, .int .i64 m] u fun e w' => e = .returned (.int .i64 (((n % (m : Int)).toNat : Nat) : Int)) ∧ u = w' := fun u => by
  have h1 := Int.emod_nonneg n (b := (m : Int)) (by omega)
  have h := hPick n m u (by omega) (by omega)
  rw [show n % (m : Int) = (((n % (m : Int)).toNat : Nat) : Int) by omega] at h
  exact h.mono fun e w' ⟨a, b⟩ => ⟨a, by first | exact b | exact b.symm⟩
set_option maxRecDepth 100000 in
set_option maxHeartbeats 8000000 in
theorem textBack_walk (w : World) (k : Int) (lv nv : Value) (L : List RawR) (Ns : List Int) (hl : RawsAt w lv L) (hL : L.length ≤ 4398046511104) (hn : Ints w nv Ns) (hB : Bins ⟨w, fun _ => False⟩) (ht : Tb w.heap.size w) : Calls Tryz.prog 4 #[.int .i64 k, lv, nv] w fun e w' => e = .returned (.bool true) ∧ Upd (fun _ => False) w w' := by
  obtain ⟨la, lc, rfl⟩ := hl.slice
  obtain ⟨na, nc, rfl, hnl, hnm⟩ := hn.slice
  unfold maxLen at hnm
  have HL := Lib.hid hl
  have HNS := Lib.hid hn
  have HB := Lib.hid hB
  have HT := Lib.hid ht
  clear hl hB ht hn
  go_enter Tryz.func4, Tryz.ntmps4
  go_wp2_with fail
  refine (hApplet _ k _ L HL.out hL HB.out).mono ?_
  rintro e w1 ⟨v, I, rfl, hI, -, -, hu⟩
  obtain ⟨fa, fc, ia, ic, ma, mc, xa, xc, rfl⟩ := img_openE hI
  obtain ⟨W, hW⟩ : ∃ W, W = w1.alloc (.cells #[.string I.name, .slice fa I.fields.length fc, .slice ia I.imports.length ic, .slice ma I.methods.length mc, .slice xa I.exports.length xc] IMG) := ⟨_, rfl⟩
  have hal : Upd (fun _ => False) w1 W := by rw [hW]; exact Upd.alloc (fun _ => False) _ _
  have HBK : Hid (W.heap[w1.heap.size]? = some (.cells #[.string I.name, .slice fa I.fields.length fc, .slice ia I.imports.length ic, .slice ma I.methods.length mc, .slice xa I.exports.length xc] IMG (0, 0))) := Lib.hid (by rw [hW]; exact blk_top _ _ _ rfl)
  have HU1 := Lib.hid (hu.trans hal (fun _ h _ => h))
  have HI := Lib.hid (hI.later (upd_below hal))
  have HW := Lib.hid hW
  have HX := Lib.hid (show w1.heap.size < W.heap.size from (Array.getElem?_eq_some_iff.1 HBK.out).1)
  clear hI hu hal hW
  go_wp2_with fail
  rw [← HW.out]
  refine (tPrint HI.out (HT.out.kept (upd_below HU1.out)) HU1.out.size).mono ?_
  rintro e w2 ⟨rfl, hu⟩
  have HU2 := Lib.hid (HU1.out.trans hu (fun _ h _ => h))
  have HI2 := Lib.hid (HI.out.later (upd_below hu))
  have HBK2 := Lib.hid ((hu.block w1.heap.size HX.out id).trans HBK.out)
  clear hu HW HBK HI HU1 HX
  generalize w1.heap.size = X at *
  obtain ⟨rt, hrt⟩ : ∃ rt, rt = imgB insB I := ⟨_, rfl⟩
  have HR := Lib.hid hrt
  cases rt with
  | false =>
    rw [print_no hrt]
    clear hrt
    dsimp only
    go_wp2_with fail
    refine (known5 _).mono ?_
    rintro e w3 ⟨rfl, hu⟩
    have HU3 := Lib.hid (HU2.out.trans hu (fun _ h _ => h))
    have hbk3 := (hu.block X (Array.getElem?_eq_some_iff.1 HBK2.out).1 id).trans HBK2.out
    have HBK3 := Lib.hid hbk3
    have HI3 := Lib.hid (HI2.out.later (upd_below hu))
    clear hu hbk3
    go_wp2_with fail
    refine (known5 _).mono ?_
    rintro e w4 ⟨rfl, hu⟩
    have HU4 := Lib.hid (HU3.out.trans hu (fun _ h _ => h))
    have hbk4 := (hu.block X (Array.getElem?_eq_some_iff.1 HBK3.out).1 id).trans HBK3.out
    have HI4 := Lib.hid (HI3.out.later (upd_below hu))
    have x0 := cells_at5 hbk4 0 _ rfl
    have x1 := cells_at5 hbk4 1 _ rfl
    have x2 := cells_at5 hbk4 2 _ rfl
    have x3 := cells_at5 hbk4 3 _ rfl
    have x4 := cells_at5 hbk4 4 _ rfl
    clear hu hbk4
    go_wp2_with fail
    refine (cImgRight _ _ I HI4.out).mono ?_
    rintro e w5 ⟨rfl, hu⟩
    rw [← HR.out]
    have HU5 := Lib.hid (HU4.out.trans hu (fun _ h _ => h))
    clear hu
    go_wp2_with fail
    go_ret
    exact ⟨rfl, HU5.out⟩
  | true =>
    rw [print_yes hrt]
    clear hrt
    dsimp only
    obtain ⟨s, hs⟩ : ∃ s, s = linesI I := ⟨_, rfl⟩
    rw [← hs]
    have hsz : s.length ≤ 2000000 := by rw [hs]; exact right_len HR.out.symm
    have hbz := bs_size s
    obtain ⟨T, hT⟩ : ∃ T, T = noteF s 0 (jOf Ns) := ⟨_, rfl⟩
    have hTl : T.length ≤ 30000000 := by
      have := note_len (jOf Ns) (jOf_len Ns) s 0
      rw [hT]
      omega
    have HPB : Hid (parseT T = (I, 0, 0)) := Lib.hid (by rw [hT, hs]; exact parse_notes HR.out.symm Ns)
    have HTT := Lib.hid hT
    clear hs hT
    go_wp2_with fail
    refine (known5 _).mono ?_
    rintro e w3 ⟨rfl, hu⟩
    have HU3 := Lib.hid (HU2.out.trans hu (fun _ h _ => h))
    have HI3 := Lib.hid (HI2.out.later (upd_below hu))
    have hbk3 := (hu.block X (Array.getElem?_eq_some_iff.1 HBK2.out).1 id).trans HBK2.out
    have HBK3 := Lib.hid hbk3
    clear hu hbk3
    go_wp2_with fail
    go_loop [10, 11, 12] (fun o n i => ∃ (k m : Nat) (x : By), k ≤ s.length ∧ i = .int .i64 k ∧ n = .int .i64 m ∧ m ≤ k ∧ o = .string (bs x) ∧ x.length ≤ 30000000 ∧ Hid (x ++ noteF (s.drop k) m (jOf Ns) = T)) (fun _ _ i => s.length - (RowKit.intOf i).toNat)
    case atStart => exact ⟨0, 0, [], by omega, rfl, rfl, by omega, rfl, by simp, Lib.hid (by rw [List.drop_zero, HTT.out]; rfl)⟩
    case round =>
      obtain ⟨k, m, x, hk, rfl, rfl, hmk, rfl, hxl, HM⟩ := hrel
      by_cases hlt : k < s.length
      · have hi1 : (0 : Int) ≤ (k : Int) := Int.natCast_nonneg _
        have hi2 : (k : Int) < (s.length : Int) := by omega
        have hks : k < (bs s).size := by rw [bs_size]; exact hlt
        have hbk := bs_getkG s k hks
        have hext : (bs s).extract k (k + 1) = bs [s.getD k 0] := by rw [bs_ext, show k + 1 - k = 1 by omega, take_one hlt]
        have HM1 := HM.out
        rw [drop_step hlt] at HM1
        obtain ⟨c, hc⟩ : ∃ c, c = s.getD k 0 := ⟨_, rfl⟩
        rw [← hc] at hbk hext HM1
        obtain ⟨y1, hy1⟩ : ∃ y1, y1 = x ++ [c] := ⟨_, rfl⟩
        have hap : bs x ++ bs [c] = bs y1 := by rw [hy1]; exact bs_app x [c]
        have hxz := bs_size x
        have hcz : (bs [c]).size = 1 := rfl
        have hz1 : (bs y1).size = x.length + 1 := by rw [hy1, bs_size]; simp
        clear hc
        cases hq : c == 10 with
        | false =>
          rw [note_no hq] at HM1
          have HM2 : Hid (y1 ++ noteF (s.drop (k + 1)) m (jOf Ns) = T) := Lib.hid (by rw [← HM1, hy1]; simp)
          have hxl2 : y1.length ≤ 30000000 := by
            have := congrArg List.length HM2.out
            rw [List.length_append] at this
            omega
          have hb : ((((bs s)[k]'hks).toNat : Int) == 10) = false := by rw [hbk, byte10G, hq]
          clear hbk hq HM1 hy1
          go_wp2_with fail
          exact ⟨⟨k + 1, m, y1, by omega, by go_num, rfl, by omega, rfl, hxl2, HM2⟩, by simp [RowKit.intOf]; omega⟩
        | true =>
          rw [note_yes hq] at HM1
          have hb : ((((bs s)[k]'hks).toNat : Int) == 10) = true := by rw [hbk, byte10G, hq]
          by_cases hmn : m < Ns.length
          · obtain ⟨g9, o9, rfl, hc9, -⟩ := (HNS.out.later (upd_below HU3.out)).at hmn
            obtain ⟨q, hq4⟩ : ∃ q : Nat, q = (Ns.getD m 0 % 4).toNat := ⟨_, rfl⟩
            have hj : jOf Ns m = junk q := by unfold jOf; rw [show decide (m < Ns.length) = true by simpa using hmn, hq4]
            have hql : (q : Int) < 4 := by
              have h1 := Int.emod_nonneg (Ns.getD m 0) (b := 4) (by omega)
              have h2 := Int.emod_lt_of_pos (Ns.getD m 0) (b := 4) (by omega)
              omega
            have HPK := Lib.hid (pickG (Ns.getD m 0) 4 (by omega) (by omega))
            have HQ4 := Lib.hid hq4
            generalize Ns.getD m 0 = z at *
            have hix := ixJunk q hql
            rw [hj] at HM1
            obtain ⟨y2, hy2⟩ : ∃ y2, y2 = y1 ++ junk q := ⟨_, rfl⟩
            have HM2 : Hid (y2 ++ noteF (s.drop (k + 1)) (m + 1) (jOf Ns) = T) := Lib.hid (by rw [← HM1, hy2, hy1]; simp)
            have hap2 : bs y1 ++ bs (junk q) = bs y2 := by rw [hy2]; exact bs_app _ _
            have hjl : (bs (junk q)).size ≤ 9 := by
              rw [bs_size]
              unfold junk
              split <;> simp
            have hxl2 : y2.length ≤ 30000000 := by
              have := congrArg List.length HM2.out
              rw [List.length_append] at this
              omega
            have hi3 : (m : Int) < (Ns.length : Int) := by omega
            have hi4 : (0 : Int) ≤ (m : Int) := Int.natCast_nonneg _
            clear hbk hq HM1 hy1 hy2 hj hq4 hql
            go_wp2_with fail
            refine (HPK.out _).mono ?_
            rintro e _ ⟨rfl, rfl⟩
            rw [show (((z % ((4 : Nat) : Int)).toNat : Nat) : Int) = (q : Int) by rw [HQ4.out]; rfl]
            go_wp2_with fail
            exact ⟨⟨k + 1, m + 1, y2, by omega, by go_num, by go_num, by omega, rfl, hxl2, HM2⟩, by simp [RowKit.intOf]; omega⟩
          · have hj : jOf Ns m = [] := by unfold jOf; rw [show decide (m < Ns.length) = false by simpa using hmn]
            rw [hj, List.nil_append] at HM1
            have HM2 : Hid (y1 ++ noteF (s.drop (k + 1)) (m + 1) (jOf Ns) = T) := Lib.hid (by rw [← HM1, hy1]; simp)
            have hxl2 : y1.length ≤ 30000000 := by
              have := congrArg List.length HM2.out
              rw [List.length_append] at this
              omega
            have hi3 : ¬ ((m : Int) < (Ns.length : Int)) := by omega
            clear hbk hq HM1 hy1 hj
            go_wp2_with fail
            exact ⟨⟨k + 1, m + 1, y1, by omega, by go_num, by go_num, by omega, rfl, hxl2, HM2⟩, by simp [RowKit.intOf]; omega⟩
      · obtain rfl : k = s.length := by omega
        have hxT : x = T := by
          have := HM.out
          rw [List.drop_eq_nil_of_le (Nat.le_refl _)] at this
          simpa [noteF] using this
        have HXT := Lib.hid hxT
        clear hlt hxT
        go_wp2_with fail
        have HPX : Hid (parseT x = (I, 0, 0)) := Lib.hid (by rw [HXT.out]; exact HPB.out)
        refine (tParse x _ (by unfold maxLen; omega)).mono ?_
        rintro e w4 ⟨v4, rfl, hI4, hu⟩
        rw [HPX.out] at hI4 ⊢
        obtain ⟨fb, fd, ib, id', mb, md, xb, xd, rfl⟩ := img_openE hI4
        have hal := Upd.alloc (fun _ => False) w4 (.cells #[.string I.name, .slice fb I.fields.length fd, .slice ib I.imports.length id', .slice mb I.methods.length md, .slice xb I.exports.length xd] IMG)
        have HUF := Lib.hid ((HU3.out.trans hu (fun _ h _ => h)).trans hal (fun _ h _ => h))
        have HI5 := Lib.hid ((HI3.out.later (upd_below hu)).later (upd_below hal))
        have HJ5 := Lib.hid (hI4.later (upd_below hal))
        have hbk4 := (hu.block X (Array.getElem?_eq_some_iff.1 HBK3.out).1 id).trans HBK3.out
        have hbk5 := (hal.block X (Array.getElem?_eq_some_iff.1 hbk4).1 id).trans hbk4
        have x0 := cells_at5 hbk5 0 _ rfl
        have x1 := cells_at5 hbk5 1 _ rfl
        have x2 := cells_at5 hbk5 2 _ rfl
        have x3 := cells_at5 hbk5 3 _ rfl
        have x4 := cells_at5 hbk5 4 _ rfl
        clear hI4 hu hal hbk4 hbk5
        dsimp only
        go_wp2_with fail
        refine (cImgSame _ _ _ I I HI5.out HJ5.out).mono ?_
        rintro e w5 ⟨r, rfl, hr, hu⟩
        obtain rfl : r = true := hr.2 rfl
        have HUG := Lib.hid (HUF.out.trans hu (fun _ h _ => h))
        clear hu hr
        go_wp2_with fail
        go_ret
        exact ⟨rfl, HUG.out⟩
end Go.Proofs.YtbjmmdomdijilaaGreatDoor

/- Package ir: Eval, walked. -/
import Derived.Test.YtkleofpiikbpmaaDi
namespace Go.Proofs.Ytkleofpiikbpmaa
open Go.RowKit Go.ChangeShapes Go.WideShapes Go.Deep
set_option linter.unusedVariables false
set_option linter.unusedSimpArgs false
theorem evalP_no {p : PrM} {rs : List (BitVec 32)} {fr most : Int} (h : evalOk p rs fr = false) : evalP p rs fr most = ([], 0, 0) := by unfold evalP; rw [h]; rfl
theorem evalP_yes {p : PrM} {rs : List (BitVec 32)} {fr most : Int} (h : evalOk p rs fr = true) : evalP p rs fr most = evalGo p.nodes most.toNat fr.toNat 0 rs := by unfold evalP; rw [h]; rfl
theorem rgv_nil (w : World) : RgV w (.slice none 0 0) [] := .inl ⟨rfl, none, 0, rfl, by unfold maxLen; omega⟩
set_option maxRecDepth 20000 in
set_option maxHeartbeats 4000000 in
theorem irEval {w : World} {pv rv : Value} {p : PrM} {rs : List (BitVec 32)} (hp : Prg w pv p) (hr : W32 w rv rs) (hl : rs.length ≤ 1000) (fr most : Int) (hfr : wi64 fr) (hmo : wi64 most) :
    Calls Try.prog 7 #[pv, rv, .int .i64 fr, .int .i64 most] w fun e w' => ∃ v', e = .returned (.tuple #[v', .int .i64 (evalP p rs fr most).2.1, .int .i64 (evalP p rs fr most).2.2]) ∧ RgV w' v' (evalP p rs fr most).1 ∧ Upd (fun _ => False) w w' := by
  obtain ⟨P, R, L⟩ := p
  obtain ⟨s_, rfl, hN, hP, hR⟩ := hp
  dsimp only at hN hP hR
  have HN := Lib.hid hN
  obtain ⟨pv, hsl, hnd⟩ := hN
  obtain ⟨sa, sc, rfl, hsn, hsm⟩ := hsl.slice
  clear hsl hnd
  have HR := Lib.hid hr
  obtain ⟨ra, rc, rfl, hrn, hrm⟩ := Sl.slice hr
  clear hr
  unfold maxLen at hsm hrm
  have HPR := Lib.hid (And.intro hP hR)
  have HFR := Lib.hid hfr
  obtain ⟨Z, hZ⟩ : ∃ Z, evalP ⟨P, R, L⟩ rs fr most = Z := ⟨_, rfl⟩
  rw [hZ]
  have HZ := Lib.hid hZ
  clear hP hR hfr hZ
  obtain ⟨W1, hW1⟩ : ∃ W1, w.alloc (.cells #[.int .i64 P, .int .i64 R, .slice sa L.length sc] 63) = W1 := ⟨_, rfl⟩
  have HU1 : Hid (Upd (fun _ => False) w W1) := Lib.hid (by rw [← hW1]; exact Upd.alloc _ _ _)
  have hx : W1.heap[w.heap.size]? = some (.cells #[.int .i64 P, .int .i64 R, .slice sa L.length sc] 63) := by rw [← hW1]; exact heap_topD w _
  have HB1 : Hid (W1.cell? ⟨w.heap.size, 1, none⟩ = some (.int .i64 R)) := Lib.hid (by simp [World.cell?, hx])
  have HB2 : Hid (W1.cell? ⟨w.heap.size, 2, none⟩ = some (.slice sa L.length sc)) := Lib.hid (by simp [World.cell?, hx])
  have HW1 := Lib.hid hW1
  clear hx hW1
  go_enter Try.func7, Try.ntmps7
  go_wp2_with fail
  rw [HW1.out]
  generalize w.heap.size = B at *
  refine (irCheck W1 _ ⟨P, R, L⟩ ⟨_, rfl, HN.out.stay HU1.out, HPR.out.1, HPR.out.2⟩).mono ?_
  rintro e w1 ⟨rfl, hu⟩
  have HU2 := Lib.hid (HU1.out.two hu)
  have c1 : w1.cell? ⟨B, 1, none⟩ = some (.int .i64 R) := by rw [hu.cell (World.block_lt_of_cell? _ _ HB1.out) (fun h => h)]; exact HB1.out
  have c2 : w1.cell? ⟨B, 2, none⟩ = some (.slice sa L.length sc) := by rw [hu.cell (World.block_lt_of_cell? _ _ HB2.out) (fun h => h)]; exact HB2.out
  clear hu HB1 HB2 HW1
  obtain ⟨q1, hq1⟩ : ∃ q, checkP ⟨P, R, L⟩ = q := ⟨_, rfl⟩
  have HQ1 := Lib.hid hq1
  rw [hq1]
  clear hq1
  cases q1 with
  | false =>
    have hZ := HZ.out
    rw [evalP_no (by unfold evalOk; rw [HQ1.out]; rfl)] at hZ
    subst hZ
    go_wp2_with fail
    refine bodyPost_ret (v := .tuple #[.slice none 0 0, .int .i64 0, .int .i64 0]) (by simp [results, Try.f7, go_sem]) rfl ?_
    exact ⟨_, rfl, rgv_nil _, HU2.out⟩
  | true =>
    by_cases hlen : (rs.length : Int) = R
    case neg =>
      have dl : ((rs.length : Int) != R) = true := by simpa using hlen
      have hZ := HZ.out
      rw [evalP_no (by unfold evalOk; rw [HQ1.out]; simp [hlen])] at hZ
      subst hZ
      clear hlen
      go_wp2_with fail
      refine bodyPost_ret (v := .tuple #[.slice none 0 0, .int .i64 0, .int .i64 0]) (by simp [results, Try.f7, go_sem]) rfl ?_
      exact ⟨_, rfl, rgv_nil _, HU2.out⟩
    subst hlen
    have dl : ((rs.length : Int) != (rs.length : Int)) = false := by simp
    go_wp2_with fail
    refine (irBelow _ (L.length : Int) _ [fr] (ints_lit w1 3 [fr] #[.int .i64 fr] w1.heap.size 1 rfl rfl rfl (by intro x hx; simp at hx; subst hx; exact HFR.out) (by simp))).mono ?_
    rintro e w2 ⟨rfl, rfl⟩
    obtain ⟨W2, hW2⟩ : ∃ W2, w1.alloc (.cells #[.int .i64 fr] 3) = W2 := ⟨_, rfl⟩
    have hu2 : Upd (fun _ => False) w1 W2 := by rw [← hW2]; exact Upd.alloc _ _ _
    have HU3 := Lib.hid (HU2.out.two hu2)
    have d2 : W2.cell? ⟨B, 2, none⟩ = some (.slice sa L.length sc) := by rw [hu2.cell (World.block_lt_of_cell? _ _ c2) (fun h => h)]; exact c2
    rw [hW2]
    clear hu2 hW2 c1 c2
    obtain ⟨q2, hq2⟩ : ∃ q, belowP (L.length : Int) [fr] = q := ⟨_, rfl⟩
    have HQ2 := Lib.hid hq2
    rw [hq2]
    clear hq2
    cases q2 with
    | false =>
      have hZ := HZ.out
      rw [evalP_no (by unfold evalOk; rw [HQ1.out, HQ2.out]; simp)] at hZ
      subst hZ
      go_wp2_with fail
      refine bodyPost_ret (v := .tuple #[.slice none 0 0, .int .i64 0, .int .i64 0]) (by simp [results, Try.f7, go_sem]) rfl ?_
      exact ⟨_, rfl, rgv_nil _, HU3.out⟩
    | true =>
      have hZ := HZ.out
      rw [evalP_yes (by unfold evalOk; rw [HQ1.out, HQ2.out]; simp)] at hZ
      have hin : inD (L.length : Int) fr = true := by have := HQ2.out; simpa [belowP] using this
      obtain ⟨a0, rfl, ha0⟩ := inD_nat hin
      dsimp only at hZ
      rw [Int.toNat_natCast] at hZ
      have HZ2 := Lib.hid hZ
      have HA0 := Lib.hid ha0
      clear hZ hin HZ ha0
      obtain ⟨hlen1, hlen2, -, -, hok⟩ := checkP_at HQ1.out
      have HOK := Lib.hid hok
      clear hok
      go_wp2_with fail
      refine (irCloneR (HR.out.stay HU3.out) (by omega)).mono ?_
      rintro e w3 ⟨v', rfl, hv, hu, hf⟩
      have HV := Lib.hid hv
      have HU4 := Lib.hid (HU3.out.two hu)
      have HB := Lib.hid (World.block_lt_of_cell? _ _ d2)
      have HF := Lib.hid hf
      have HBW : Hid (w.heap.size ≤ W2.heap.size) := Lib.hid HU3.out.size
      have e2 : w3.cell? ⟨B, 2, none⟩ = some (.slice sa L.length sc) := by rw [hu.cell (World.block_lt_of_cell? _ _ d2) (fun h => h)]; exact d2
      have HE2 := Lib.hid e2
      obtain ⟨va, vn, vc, rfl⟩ : ∃ a n c, v' = .slice a n c := by rcases hv with ⟨-, a, c, h, -⟩ | ⟨g, c, h, -⟩ <;> exact ⟨_, _, _, h⟩
      clear hv hu hf d2 e2
      go_wp2_with fail
      go_loopw [12, 13, 14] (fun t1 t2 t3 wr => ∃ (m : Nat) (d : Int) (a : Nat) (k : Int) (rs' : List (BitVec 32)), t1 = .int .i64 (a : Int) ∧ t2 = .int .i64 k ∧ t3 = .int .i64 d ∧ a < L.length ∧ rs'.length = rs.length ∧ 0 ≤ k ∧ k ≤ d ∧ 0 ≤ d ∧ m = (most - d).toNat ∧ Hid (evalGo L m a k rs' = Z) ∧ Hid (RgV wr (.slice va vn vc) rs') ∧ Hid (Upd (fun q => (Value.slice va vn vc).ownBlock = some q) w3 wr)) (fun _ _ t3 _ => (most - intOf t3).toNat)
      case atStart => exact ⟨most.toNat, 0, a0, 0, rs, rfl, rfl, rfl, HA0.out, rfl, by omega, by omega, by omega, by omega, HZ2, HV, Lib.hid (Upd.refl _ _)⟩
      case round =>
        obtain ⟨m, d, a, k, rs', rfl, rfl, rfl, ha, hrl, hk0, hkd, hd0, hm, HG, HRV, HUR⟩ := hrel
        have HUF : Hid (Upd (fun _ => False) w wr) := Lib.hid (HU4.out.trans HUR.out (fun q hq hl => by have := HF.out q hq; have := HBW.out; omega))
        have hbel : Below w.heap.size w wr := upd_below HUF.out
        have hw1 : IntKind.i64.wrap (d + 1) = d + 1 ∨ most ≤ d := by
          rcases Int.lt_or_le d most with h | h
          · left; exact i64_inD _ (by unfold wi64 at hmo; omega)
          · exact .inr h
        cases m with
        | zero =>
          have dd : decide (d < most) = false := decide_eq_false (by omega)
          have hz : (rs', (a : Int), k) = Z := HG.out
          clear hbel hw1
          go_wp2_with fail
          try simp only [Exit.inBlock, Exit.then]
          refine bodyPost_ret (v := .tuple #[.slice va vn vc, .int .i64 (a : Int), .int .i64 k]) (by simp [results, Try.f7, go_sem]) rfl ?_
          subst hz
          exact ⟨_, rfl, HRV.out, HUF.out⟩
        | succ m =>
          have dd : decide (d < most) = true := decide_eq_true (by omega)
          have hw2 : IntKind.i64.wrap (d + 1) = d + 1 := by rcases hw1 with h | h; exact h; omega
          have hw3 : IntKind.i64.wrap (k + 1) = k + 1 := i64_inD _ (by unfold wi64 at hmo; omega)
          obtain ⟨pv, hsl, hnd⟩ := HN.out.later hbel
          obtain ⟨g, off, hga, hcell⟩ := hsl.at ha
          subst hga
          have hcl := hcell 0 (by omega)
          rw [Nat.mul_one, Nat.add_zero] at hcl
          have HVN := Lib.hid (hnd a ha)
          generalize pv a = vk at *
          obtain ⟨nk, hnk⟩ : ∃ nk, L.getD a .nil = nk := ⟨_, rfl⟩
          rw [hnk] at HVN
          have HNK := Lib.hid hnk
          have b2 : wr.cell? ⟨B, 2, none⟩ = some (.slice (some ⟨g, off, none⟩) L.length sc) := by
            rw [HUR.out.cell (World.block_lt_of_cell? _ _ HE2.out) (fun h => by have := HF.out _ h; have := HB.out; simp at *; omega)]
            exact HE2.out
          have za : (a : Int) < (L.length : Int) := by omega
          have HX := Lib.hid (And.intro hm (And.intro hk0 (And.intro hkd hd0)))
          have HRL := Lib.hid hrl
          have HOA := HOK.out a ha
          rw [hnk] at HOA
          have HOA := Lib.hid HOA
          clear hcell hsl hnd hnk hbel hw1 hm hk0 hkd hd0 hrl
          go_wp2_with fail
          refine (irPure HVN.out).mono ?_
          rintro e wq ⟨rfl, rfl⟩
          have HGo := HG.out
          unfold evalGo at HGo
          rw [HNK.out] at HGo
          cases hpu : pureP nk with
          | false =>
            rw [hpu] at HGo
            have hz : (rs', (a : Int), k) = Z := HGo
            go_wp2_with fail
            try simp only [Exit.inBlock, Exit.then]
            refine bodyPost_ret (v := .tuple #[.slice va vn vc, .int .i64 (a : Int), .int .i64 k]) (by simp [results, Try.f7, go_sem]) rfl ?_
            subst hz
            exact ⟨_, rfl, HRV.out, HUF.out⟩
          | true =>
            rw [hpu] at HGo
            simp only [cond_true] at HGo
            have HG2 := Lib.hid HGo
            have HPU := Lib.hid hpu
            clear HGo hpu
            go_wp2_with fail
            refine (irTick HVN.out).mono ?_
            rintro e w5 ⟨rfl, hu⟩
            have HV5 := Lib.hid (HVN.out.stay hu)
            have HR5 := Lib.hid (HRV.out.upd hu (fun _ _ h => h))
            have HU5 : Hid (Upd (fun q => (Value.slice va vn vc).ownBlock = some q) w3 w5) := Lib.hid (HUR.out.trans (hu.mono (fun _ h _ => h.elim)) (fun _ h _ => h))
            have e2 : w5.cell? ⟨B, 2, none⟩ = some (.slice (some ⟨g, off, none⟩) L.length sc) := by rw [hu.cell (World.block_lt_of_cell? _ _ b2) (fun h => h)]; exact b2
            have ecl : w5.cell? ⟨g, off + a, none⟩ = some vk := by rw [hu.cell (World.block_lt_of_cell? _ _ hcl) (fun h => h)]; exact hcl
            clear hu b2 hcl HVN HRV HUR HUF
            have HDO := Lib.hid (irDo HV5.out HR5.out HPU.out (by have := HOA.out; unfold okAt at this; rw [Bool.and_eq_true] at this; rw [HRL.out]; exact this.1) (a : Int) (by omega) (by omega))
            obtain ⟨j, hj, hjl⟩ := doN_in (R := (rs.length : Int)) (L := L) (k := a) (by rw [HNK.out]; exact HOA.out) (by rw [HNK.out]; exact HPU.out) rs'
            rw [HNK.out] at hj
            have HJ := Lib.hid (And.intro hj hjl)
            clear hj hjl
            cases htk : tickP nk
            · go_wp2_with fail
              refine HDO.out.mono ?_
              rw [HJ.out.1]
              rintro e w6 ⟨rfl, hrv, hu⟩
              have HR6 := Lib.hid hrv
              have HU6 := Lib.hid (HU5.out.trans hu (fun _ h _ => h))
              clear hrv hu
              have HG3 : Hid (evalGo L m j k (doR rs' nk) = Z) := Lib.hid (by have := HG2.out; rw [htk, HJ.out.1, Int.toNat_natCast] at this; exact this)
              go_wp2_with fail
              go_roundw
              case rel => exact ⟨m, d + 1, j, k, doR rs' nk, rfl, rfl, by go_num, HJ.out.2, by rw [doR_len]; exact HRL.out, HX.out.2.1, by have := HX.out; omega, by have := HX.out; omega, by have := HX.out; omega, HG3, HR6, HU6⟩
              case measure => have := HX.out; simp [intOf]; omega
            · go_wp2_with fail
              refine HDO.out.mono ?_
              rw [HJ.out.1]
              rintro e w6 ⟨rfl, hrv, hu⟩
              have HR6 := Lib.hid hrv
              have HU6 := Lib.hid (HU5.out.trans hu (fun _ h _ => h))
              clear hrv hu
              have HG3 : Hid (evalGo L m j (k + 1) (doR rs' nk) = Z) := Lib.hid (by have := HG2.out; rw [htk, HJ.out.1, Int.toNat_natCast] at this; exact this)
              go_wp2_with fail
              go_roundw
              case rel => exact ⟨m, d + 1, j, k + 1, doR rs' nk, rfl, rfl, by go_num, HJ.out.2, by rw [doR_len]; exact HRL.out, by have := HX.out; omega, by have := HX.out; omega, by have := HX.out; omega, by have := HX.out; omega, HG3, HR6, HU6⟩
              case measure => have := HX.out; simp [intOf]; omega
end Go.Proofs.Ytkleofpiikbpmaa

/- CodeReads: any bytes are instructions, one behind the other, or refused, as the document says: the walk. -/
import Derived.Test.YtcmdffkhofmfhaaCi
import Derived.Test.YtcmdffkhofmfhaaCk
import Derived.Test.YtcmdffkhofmfhaaCm
import Derived.Test.YtcmdffkhofmfhaaCq
import Derived.Test.YtcmdffkhofmfhaaRaws
import Derived.Outline
namespace Go.Proofs.Ytcmdffkhofmfhaa
open Go.RowKit
set_option linter.unusedVariables false

theorem rRead_no (w : World) (b : Nat) (v : Value) (lk : Bool) (ys : List Int) (h : Rd 51 w b v lk ys) (E : Int) (hE : errI lk ys = E) (h0 : E ≠ 0) :
    Calls Try.prog 25 #[.pointer (some ⟨b, 0, none⟩)] w fun e w' => e = .returned (.tuple #[ins 0 0 0, .int .i64 E]) ∧ Upd (fun k => k = b) w w' :=
  (rRead w b v lk ys h).mono fun e w' k => by
    rcases k with ⟨_, k1, k2⟩ | ⟨k0, _⟩
    · exact ⟨by rw [k1, hE], k2⟩
    · exact absurd (hE.symm.trans k0) h0
theorem rRead_ok (w : World) (b : Nat) (v : Value) (lk : Bool) (ys : List Int) (h : Rd 51 w b v lk ys) (hE : errI lk ys = 0) :
    Calls Try.prog 25 #[.pointer (some ⟨b, 0, none⟩)] w fun e w' => e = .returned (.tuple #[ins (opI lk ys) (restI lk ys).1 (restI lk ys).2.1, .int .i64 0]) ∧ ∃ v', Rd 51 w' b v' false (restI lk ys).2.2.2 ∧ Upd (fun k => k = b) w w' ∧ (∀ k, v'.ownBlock = some k → v.ownBlock = some k) :=
  (rRead w b v lk ys h).mono fun e w' k => by
    rcases k with ⟨k0, _⟩ | ⟨_, k⟩
    · exact absurd hE k0
    · exact k

/-- both readers have the same left, and nothing of W has turned -/
def R2 (W w : World) (bx br : Nat) (ys : List Int) : Prop :=
  ∃ vx vr, Rd 67 w bx vx false ys ∧ Rd 51 w br vr false ys ∧ Upd (fun _ => False) W w ∧ W.heap.size ≤ bx ∧ W.heap.size ≤ br ∧ (∀ k, fp bx vx k → k ≠ br) ∧ (∀ k, fp br vr k → k ≠ bx)
/-- a writer of the reference, and bytes beside it -/
structure Ph (W w : World) (bw : Nat) (v : Value) (xs : List Int) (vb : Value) (ys : List Int) : Prop where
  x : Wr 43 w bw v xs
  vw : Vw w vb ys
  upd : Upd (fun _ => False) W w
  ox : ∀ k, fp bw v k → W.heap.size ≤ k
  ab : ∀ k, vb.ownBlock = some k → ¬ fp bw v k ∧ k < w.heap.size
theorem Ph.mono {W w w' : World} {bw : Nat} {v vb : Value} {xs ys : List Int} (h : Ph W w bw v xs vb ys) (hu : Upd (fun _ => False) w w') : Ph W w' bw v xs vb ys :=
  ⟨h.x.upd hu (fun _ _ h => h), h.vw.upd hu (fun _ _ h => h), h.upd.trans hu (fun _ h _ => h), h.ox, fun k hk => ⟨(h.ab k hk).1, Nat.lt_of_lt_of_le (h.ab k hk).2 hu.size⟩⟩
theorem Ph.lay {W w w' : World} {bw : Nat} {v vb : Value} {xs ys zs : List Int} (h : Ph W w bw v xs vb ys) (g : Laid 43 w bw v zs w') : ∃ v', Ph W w' bw v' zs vb ys := by
  obtain ⟨v', g1, g2, g3⟩ := g
  refine ⟨v', g1, h.vw.upd g2 (fun k hk => (h.ab k hk).1), h.upd.trans g2 (fun i hi hlt => by have := h.ox i hi; omega), ?_, ?_⟩
  · intro k hk
    rcases hk with hk | hk
    · exact h.ox k (.inl hk)
    · rcases g3 k hk with hh | hh
      · exact h.ox k (.inr hh)
      · have := h.upd.size; omega
  · intro k hk
    refine ⟨?_, Nat.lt_of_lt_of_le (h.ab k hk).2 g2.size⟩
    intro hf
    rcases hf with hf | hf
    · exact (h.ab k hk).1 (.inl hf)
    · rcases g3 k hf with hh | hh
      · exact (h.ab k hk).1 (.inr hh)
      · have := (h.ab k hk).2; omega

set_option maxHeartbeats 4000000 in
set_option maxRecDepth 100000 in
theorem reads3_walk (vl vb0 : Value) (any : Bool) (L : List RawR) (ms : List Int) (W : World) (hl : RawsAt W vl L) (hm : Vw W vb0 ms) (hlen : ms.length ≤ 140737488351232) :
    Calls Try.prog 5 #[vl, vb0, .bool any] W fun e w' => e = .returned (.bool true) ∧ Below W.heap.size W w' := by
  obtain ⟨am, cm, rfl, hl1, hl2⟩ := hm.slice
  obtain ⟨al, cl, rfl⟩ := hl.slice
  have HL := Lib.hid hl
  have HM := Lib.hid hm
  unfold maxLen at hl2
  clear hl hm
  obtain ⟨i0, hi, hz0, hz1, hz2⟩ := info_parts info5
  go_enter Try.func5, Try.ntmps5
  go_wp2_with fail
  refine (few _ _ ms _ HM.out (.inl (by omega)) (by omega) (by omega)).mono ?_
  rw [show ms.take (Int.toNat (ms.length : Int)) = ms from List.take_of_length_le (by simp)]
  rintro e w0 ⟨vb, rfl, hN⟩
  obtain ⟨ab, cb, rfl⟩ := ownsRow_slice hN.1
  have HN := Lib.hid hN
  clear hN
  cases any with
  | true =>
    have HV := Lib.hid (HN.out.vw HM.out.1)
    have HU := Lib.hid HN.out.2.1
    have hbs : ms.length ≤ 140737488355327 := by omega
    clear HN HM HL hi hz0 hz1 hz2
    generalize hA : w0 = wA at *
    generalize hB : ms = bs at *
    clear hA hB
    go_wp2_with fail
    refine (newReader _ _ bs HV.out hbs).mono ?_
    rintro e w1 ⟨bx, vx, rfl, h1, h2, h3⟩
    have HX1 := Lib.hid h1
    have HU1 := Lib.hid (HU.out.trans h2 (fun _ h _ => h))
    have HV1 := Lib.hid (HV.out.upd h2 (fun _ _ h => h))
    have HF1 := Lib.hid h3
    have hsA : W.heap.size ≤ wA.heap.size := HU.out.size
    clear h1 h2 h3 HV HU
    go_wp2_with fail
    refine (known3 _).mono ?_
    rintro e w2 ⟨rfl, h2⟩
    have HX2 := Lib.hid (HX1.out.upd h2 (fun _ _ h => h))
    have HU2 := Lib.hid (HU1.out.trans h2 (fun _ h _ => h))
    have HV2 := Lib.hid (HV1.out.upd h2 (fun _ _ h => h))
    clear h2 HX1 HU1 HV1
    go_wp2_with fail
    refine (few _ _ bs _ HV2.out (.inl hbs) (by omega) (by omega)).mono ?_
    rw [show bs.take (Int.toNat (bs.length : Int)) = bs from List.take_of_length_le (by simp)]
    rintro e w3 ⟨vr, rfl, hN⟩
    obtain ⟨ar, cr, rfl⟩ := ownsRow_slice hN.1
    have HN := Lib.hid hN
    clear hN
    go_wp2_with fail
    have HT : Hid (R2 W (w3.alloc (.cells #[.slice ar bs.length cr, .bool false] 51)) bx w3.heap.size bs) := by
      have ha := Upd.alloc (fun _ => False) w3 (.cells #[.slice ar bs.length cr, .bool false] 51)
      have hN := HN.out
      have hx3 := HX2.out.upd hN.2.1 (fun _ _ h => h)
      have hs3 := hN.2.1.size
      have hs2 := HU2.out.size
      have hf := HF1.out bx (.inl rfl)
      refine ⟨vx, .slice ar bs.length cr, hx3.upd ha (fun _ _ h => h), ⟨?_, (hN.vw HV2.out.1).upd ha (fun _ _ h => h), ?_, hbs, by simp, fun k hk => by have := (hN.1.lt k hk).2; simp; omega⟩, (HU2.out.trans hN.2.1 (fun _ h _ => h)).trans ha (fun _ h _ => h), by omega, by omega, fun k hk e => ?_, fun k hk e => ?_⟩
      · show (w3.heap.push _)[w3.heap.size]? = _
        simp
      · intro e
        have := (hN.1.lt _ e).2
        omega
      · subst e
        rcases hk with hk | hk
        · have := hx3.lt; omega
        · have := hx3.inn _ hk; omega
      · subst e
        rcases hk with hk | hk
        · have := hx3.lt; omega
        · have := hN.2.2 _ hk
          have := HX2.out.lt
          omega
    clear HN HX2 HU2 HF1 HV2
    generalize w3.alloc (.cells #[.slice ar bs.length cr, .bool false] 51) = w4 at *
    generalize w3.heap.size = br at *
    go_loopw [13] (fun i wr => ∃ k : Nat, k ≤ 30 ∧ i = .int .i64 k ∧ Hid (∃ ys, R2 W wr bx br ys)) (fun i _ => 30 - (intOf i).toNat)
    case atStart => exact ⟨0, by omega, rfl, ⟨_, HT.out⟩⟩
    case round =>
      obtain ⟨k, hk, rfl, HR1⟩ := hrel
      obtain ⟨ys, vx1, vr1, hx, hr, hu, ox, or, ax, ari⟩ := HR1.out
      have HX := Lib.hid hx
      have HRr := Lib.hid hr
      have HU := Lib.hid hu
      have HAX := Lib.hid ax
      have HAR := Lib.hid ari
      clear hx hr hu ax ari HR1 HT
      by_cases hlt : k < 30
      · by_cases hE : errI false ys = 0
        · have HE := Lib.hid hE
          clear hE
          go_wp2_with fail
          refine (cRead_ok wr bx vx1 false ys HX.out HE.out).mono ?_
          rintro e w5 ⟨rfl, vx5, g1, g2, g3⟩
          have hA5 := Upd.alloc (fun _ => False) w5 (.cells #[.int .i64 (opI false ys), .int .i64 (restI false ys).1, .int .i64 (restI false ys).2.1] 29)
          have HX5 := Lib.hid (g1.upd hA5 (fun _ _ h => h))
          have HR5 := Lib.hid ((HRr.out.upd g2 (fun k hk e => HAR.out k hk e)).upd hA5 (fun _ _ h => h))
          have HU5 := Lib.hid ((HU.out.trans g2 (fun i hi hlt => by omega)).trans hA5 (fun _ h _ => h))
          have HAX5 := Lib.hid (show ∀ k, fp bx vx5 k → k ≠ br from fun k hk => by
            rcases hk with hk | hk
            · exact HAX.out k (.inl hk)
            · exact HAX.out k (.inr (g3 k hk)))
          have HI5 := Lib.hid (is3_new 29 w5 (.int .i64 (opI false ys)) (.int .i64 (restI false ys).1) (.int .i64 (restI false ys).2.1))
          have hb5 : br < w5.heap.size := by have := HRr.out.lt; have := g2.size; omega
          clear g1 g2 g3 hA5
          go_wp2_with fail
          refine (rRead_ok _ br vr1 false ys HR5.out HE.out).mono ?_
          rintro e w6 ⟨rfl, vr6, k1, k2, k3⟩
          have hA6 := Upd.alloc (fun _ => False) w6 (.cells #[.int .i64 (opI false ys), .int .i64 (restI false ys).1, .int .i64 (restI false ys).2.1] 29)
          have hi6 := HI5.out.upd k2 (fun e => by omega)
          have i0 := hi6.c0
          have i1 := hi6.c1
          have i2 := hi6.c2
          have hi7 := hi6.upd hA6 (fun h => h)
          have j0 := hi7.c0
          have j1 := hi7.c1
          have j2 := hi7.c2
          have HX6 := (HX5.out.upd k2 (fun k hk e => HAX5.out k hk e)).upd hA6 (fun _ _ h => h)
          have HM := Lib.hid (show R2 W (w6.alloc (.cells #[.int .i64 (opI false ys), .int .i64 (restI false ys).1, .int .i64 (restI false ys).2.1] 29)) bx br (restI false ys).2.2.2 from
            ⟨vx5, vr6, HX6, k1.upd hA6 (fun _ _ h => h), (HU5.out.trans k2 (fun i hi hlt => by omega)).trans hA6 (fun _ h _ => h), ox, or, HAX5.out, fun k hk => by
              rcases hk with hk | hk
              · exact HAR.out k (.inl hk)
              · exact HAR.out k (.inr (k3 k hk))⟩)
          clear hi6 hi7 HX6 k1 k2 k3 hA6
          go_wp2_with fail
          go_roundw
          case rel => exact ⟨k + 1, by omega, by go_num, ⟨_, HM.out⟩⟩
          case measure => simp [intOf]; omega
        · have HE := Lib.hid hE
          clear hE
          go_wp2_with fail
          refine (cRead_no wr bx vx1 false ys HX.out _ rfl HE.out).mono ?_
          rintro e w5 ⟨rfl, g2⟩
          have hA5 := Upd.alloc (fun _ => False) w5 (.cells #[.int .i64 0, .int .i64 0, .int .i64 0] 29)
          have HR5 := Lib.hid ((HRr.out.upd g2 (fun _ _ h => h)).upd hA5 (fun _ _ h => h))
          have HU5 := Lib.hid ((HU.out.trans g2 (fun _ h _ => h)).trans hA5 (fun _ h _ => h))
          have HI5 := Lib.hid (is3_new 29 w5 (.int .i64 0) (.int .i64 0) (.int .i64 0))
          have hb5 : br < w5.heap.size := by have := HRr.out.lt; have := g2.size; omega
          have hE1 : ((errI false ys) != 0) = true := by simpa using HE.out
          clear g2 hA5
          go_wp2_with fail
          refine (rRead_no _ br vr1 false ys HR5.out _ rfl HE.out).mono ?_
          rintro e w6 ⟨rfl, k2⟩
          have hA6 := Upd.alloc (fun _ => False) w6 (.cells #[.int .i64 0, .int .i64 0, .int .i64 0] 29)
          have hi6 := HI5.out.upd k2 (fun e => by omega)
          have i0 := hi6.c0
          have i1 := hi6.c1
          have i2 := hi6.c2
          have hi7 := hi6.upd hA6 (fun h => h)
          have j0 := hi7.c0
          have j1 := hi7.c1
          have j2 := hi7.c2
          have HB := Lib.hid ((HU5.out.trans k2 (fun i hi hlt => by omega)).trans hA6 (fun _ h _ => h))
          clear hi6 hi7 k2 hA6
          generalize errI false ys = E at *
          go_wp2_with fail
          go_ret
          exact ⟨rfl, HB.out.below (Nat.le_refl _) (fun _ h => h.elim)⟩
      · go_wp2_with fail
        go_ret
        exact ⟨rfl, HU.out.below (Nat.le_refl _) (fun _ h => h.elim)⟩
  | false =>
    go_wp2_with fail
    have HP : Hid (∃ v xs, Ph W (w0.alloc (.cells #[.slice none 0 0] 43)) w0.heap.size v xs (.slice ab ms.length cb) ms ∧ xs.length ≤ 5 * 0) := by
      have ha := Upd.alloc (fun _ => False) w0 (.cells #[.slice none 0 0] 43)
      have hs0 := HN.out.2.1.size
      refine ⟨.slice none 0 0, [], ⟨⟨?_, World.ownsRow_nil _ _ _ _, by simp⟩, (HN.out.vw HM.out.1).upd ha (fun _ _ h => h), HN.out.2.1.trans ha (fun _ h _ => h), ?_, ?_⟩, by simp⟩
      · show (w0.heap.push _)[w0.heap.size]? = _
        simp
      · rintro k (h | h)
        · omega
        · simp [Value.ownBlock] at h
      · intro k hk
        have := (HN.out.1.lt k hk).2
        refine ⟨?_, by simp; omega⟩
        rintro (h | h)
        · omega
        · simp [Value.ownBlock] at h
    clear HN
    generalize w0.alloc (.cells #[.slice none 0 0] 43) = w1 at *
    generalize w0.heap.size = bw at *
    go_loopw [9] (fun i wr => ∃ k : Nat, k ≤ L.length ∧ k ≤ 12 ∧ i = .int .i64 k ∧ Hid (∃ v xs, Ph W wr bw v xs (.slice ab ms.length cb) ms ∧ xs.length ≤ 5 * k)) (fun i _ => 12 - (intOf i).toNat)
    case atStart => exact ⟨0, Nat.zero_le _, by omega, rfl, HP⟩
    case round =>
      clear HP
      obtain ⟨k, hk1, hk2, rfl, HP1⟩ := hrel
      obtain ⟨v, xs, hp, hxl⟩ := HP1.out
      have HPh := Lib.hid hp
      clear hp HP1
      by_cases hlt : k < L.length ∧ k < 12
      · obtain ⟨hlt1, hlt2⟩ := hlt
        obtain ⟨g, off, rfl, _, hcl, hcm, hg, hR⟩ := raws_at HL.out (HPh.out.upd.below (Nat.le_refl _) (fun _ h => h.elim)) hlt1
        obtain ⟨c0, c1, c2, c3, wo, wa, wb, wc⟩ := hR
        generalize hs : L.getD k default = s at *
        have HI := Lib.hid (fun w => instr s.o s.a s.b s.c w wo wa wb wc)
        unfold maxLen at hcm
        clear hs wo wa wb wc
        go_wp2_with fail
        refine (HI.out _).mono ?_
        rintro e w2 ⟨⟨op, a', b', rfl, _, _, _⟩, hu⟩
        have hA2 := Upd.alloc (fun _ => False) w2 (.cells #[.int .i64 op, .int .i64 a', .int .i64 b'] 29)
        have HP2 := Lib.hid ((HPh.out.mono hu).mono hA2)
        have hI2 := Lib.hid (is3_new 29 w2 (.int .i64 op) (.int .i64 a') (.int .i64 b'))
        clear hu hA2 c0 c1 c2 c3
        go_wp2_with fail
        refine (rRight _ _ _ _).mono ?_
        cases hr : rightB op a' b' with
        | true =>
          have HRR := Lib.hid hr
          rintro e w3 ⟨rfl, hu⟩
          have HP3 := Lib.hid (HP2.out.mono hu)
          have hi3 := hI2.out.upd hu (fun h => h)
          have j0 := hi3.c0
          have j1 := hi3.c1
          have j2 := hi3.c2
          clear hu hi3 hr
          go_wp2_with fail
          refine (rLay op a' b' _ bw v xs HP3.out.x (by omega) HRR.out).mono ?_
          rintro e w4 ⟨rfl, hL⟩
          obtain ⟨v4, h4⟩ := HP3.out.lay hL
          have HP4 := Lib.hid h4
          have HLL := Lib.hid (lay_len op a' b')
          clear hL h4
          go_wp2_with fail
          go_roundw
          case rel => exact ⟨k + 1, by omega, by omega, by go_num, ⟨v4, _, HP4.out, by have := HLL.out; simp; omega⟩⟩
          case measure => simp [intOf]; omega
        | false =>
          rintro e w3 ⟨rfl, hu⟩
          have HP3 := Lib.hid (HP2.out.mono hu)
          clear hu hr
          go_wp2_with fail
          go_roundw
          case rel => exact ⟨k + 1, by omega, by omega, by go_num, ⟨v, _, HP3.out, by omega⟩⟩
          case measure => simp [intOf]; omega
      · have hx60 : xs.length ≤ 60 := by omega
        have hcB := HPh.out.x.cell
        have hsrc := HPh.out.vw.src
        have hown := HPh.out.x.own
        obtain ⟨aw, cw, rfl⟩ := ownsRow_slice hown
        have HLT := Lib.hid hlt
        have hk : ((k : Int) < L.length ∧ (k : Int) < 12) = False := by simp; omega
        by_cases hkl : k < L.length
        · have hk12 : ¬ (k : Int) < 12 := by omega
          have hkL : (k : Int) < L.length := by omega
          clear hlt hk
          go_wp2_with (at_builtin; go_loud (refine wpList_append_mine _ rfl _ _ 35 rfl 0 5 i0 (.int .u8 0) 1 1 Try.underlying35 hi hz0 hz1 hz2 rfl (by decide) (.slice aw xs.length cw) xs.length (bv xs) rfl hown ms.length (bv ms) hsrc (by unfold maxLen; omega) (by omega) (Nat.zero_le _) ?_))
          intro v' wA ho hg hf
          obtain ⟨ao, co, rfl⟩ := ownsRow_slice ho
          have hV : Vw wA (.slice ao (xs.length + ms.length) co) (xs ++ ms) := vw_of_row (by rw [bv_append, List.length_append]; exact ho) (byte_app HPh.out.x.byte HPh.out.vw.1)
          have hU : Upd (fun _ => False) W wA := HPh.out.upd.trans (T := fun k => (Value.slice aw xs.length cw).ownBlock = some k) (Upd.grown hg (fun k hk => .inl (by rw [hk]))) (fun i hi hlt => by have := HPh.out.ox i (.inr hi); omega)
          have hbs : (xs ++ ms).length ≤ 140737488355327 := by simp; omega
          rw [show xs.length + ms.length = (xs ++ ms).length by simp] at hV ⊢
          have HV := Lib.hid hV
          have HU := Lib.hid hU
          generalize hB : xs ++ ms = bs at *
          clear hB hV hU ho hg hf hcB hsrc hown HPh HL HM HLT
          go_wp2_with fail
          refine (newReader _ _ bs HV.out hbs).mono ?_
          rintro e w1 ⟨bx, vx, rfl, h1, h2, h3⟩
          have HX1 := Lib.hid h1
          have HU1 := Lib.hid (HU.out.trans h2 (fun _ h _ => h))
          have HV1 := Lib.hid (HV.out.upd h2 (fun _ _ h => h))
          have HF1 := Lib.hid h3
          have hsA : W.heap.size ≤ wA.heap.size := HU.out.size
          clear h1 h2 h3 HV HU
          go_wp2_with fail
          refine (known3 _).mono ?_
          rintro e w2 ⟨rfl, h2⟩
          have HX2 := Lib.hid (HX1.out.upd h2 (fun _ _ h => h))
          have HU2 := Lib.hid (HU1.out.trans h2 (fun _ h _ => h))
          have HV2 := Lib.hid (HV1.out.upd h2 (fun _ _ h => h))
          clear h2 HX1 HU1 HV1
          go_wp2_with fail
          refine (few _ _ bs _ HV2.out (.inl hbs) (by omega) (by omega)).mono ?_
          rw [show bs.take (Int.toNat (bs.length : Int)) = bs from List.take_of_length_le (by simp)]
          rintro e w3 ⟨vr, rfl, hN⟩
          obtain ⟨ar, cr, rfl⟩ := ownsRow_slice hN.1
          have HN := Lib.hid hN
          clear hN
          go_wp2_with fail
          have HT : Hid (R2 W (w3.alloc (.cells #[.slice ar bs.length cr, .bool false] 51)) bx w3.heap.size bs) := by
            have ha := Upd.alloc (fun _ => False) w3 (.cells #[.slice ar bs.length cr, .bool false] 51)
            have hN := HN.out
            have hx3 := HX2.out.upd hN.2.1 (fun _ _ h => h)
            have hs3 := hN.2.1.size
            have hs2 := HU2.out.size
            have hf := HF1.out bx (.inl rfl)
            refine ⟨vx, .slice ar bs.length cr, hx3.upd ha (fun _ _ h => h), ⟨?_, (hN.vw HV2.out.1).upd ha (fun _ _ h => h), ?_, hbs, by simp, fun k hk => by have := (hN.1.lt k hk).2; simp; omega⟩, (HU2.out.trans hN.2.1 (fun _ h _ => h)).trans ha (fun _ h _ => h), by omega, by omega, fun k hk e => ?_, fun k hk e => ?_⟩
            · show (w3.heap.push _)[w3.heap.size]? = _
              simp
            · intro e
              have := (hN.1.lt _ e).2
              omega
            · subst e
              rcases hk with hk | hk
              · have := hx3.lt; omega
              · have := hx3.inn _ hk; omega
            · subst e
              rcases hk with hk | hk
              · have := hx3.lt; omega
              · have := hN.2.2 _ hk
                have := HX2.out.lt
                omega
          clear HN HX2 HU2 HF1 HV2
          generalize w3.alloc (.cells #[.slice ar bs.length cr, .bool false] 51) = w4 at *
          generalize w3.heap.size = br at *
          go_loopw [13] (fun i wr => ∃ k : Nat, k ≤ 30 ∧ i = .int .i64 k ∧ Hid (∃ ys, R2 W wr bx br ys)) (fun i _ => 30 - (intOf i).toNat)
          case atStart => exact ⟨0, by omega, rfl, ⟨_, HT.out⟩⟩
          case round =>
            obtain ⟨k, hk, rfl, HR1⟩ := hrel
            obtain ⟨ys, vx1, vr1, hx, hr, hu, ox, or, ax, ari⟩ := HR1.out
            have HX := Lib.hid hx
            have HRr := Lib.hid hr
            have HU := Lib.hid hu
            have HAX := Lib.hid ax
            have HAR := Lib.hid ari
            clear hx hr hu ax ari HR1 HT
            by_cases hlt : k < 30
            · by_cases hE : errI false ys = 0
              · have HE := Lib.hid hE
                clear hE
                go_wp2_with fail
                refine (cRead_ok wr bx vx1 false ys HX.out HE.out).mono ?_
                rintro e w5 ⟨rfl, vx5, g1, g2, g3⟩
                have hA5 := Upd.alloc (fun _ => False) w5 (.cells #[.int .i64 (opI false ys), .int .i64 (restI false ys).1, .int .i64 (restI false ys).2.1] 29)
                have HX5 := Lib.hid (g1.upd hA5 (fun _ _ h => h))
                have HR5 := Lib.hid ((HRr.out.upd g2 (fun k hk e => HAR.out k hk e)).upd hA5 (fun _ _ h => h))
                have HU5 := Lib.hid ((HU.out.trans g2 (fun i hi hlt => by omega)).trans hA5 (fun _ h _ => h))
                have HAX5 := Lib.hid (show ∀ k, fp bx vx5 k → k ≠ br from fun k hk => by
                  rcases hk with hk | hk
                  · exact HAX.out k (.inl hk)
                  · exact HAX.out k (.inr (g3 k hk)))
                have HI5 := Lib.hid (is3_new 29 w5 (.int .i64 (opI false ys)) (.int .i64 (restI false ys).1) (.int .i64 (restI false ys).2.1))
                have hb5 : br < w5.heap.size := by have := HRr.out.lt; have := g2.size; omega
                clear g1 g2 g3 hA5
                go_wp2_with fail
                refine (rRead_ok _ br vr1 false ys HR5.out HE.out).mono ?_
                rintro e w6 ⟨rfl, vr6, k1, k2, k3⟩
                have hA6 := Upd.alloc (fun _ => False) w6 (.cells #[.int .i64 (opI false ys), .int .i64 (restI false ys).1, .int .i64 (restI false ys).2.1] 29)
                have hi6 := HI5.out.upd k2 (fun e => by omega)
                have i0 := hi6.c0
                have i1 := hi6.c1
                have i2 := hi6.c2
                have hi7 := hi6.upd hA6 (fun h => h)
                have j0 := hi7.c0
                have j1 := hi7.c1
                have j2 := hi7.c2
                have HX6 := (HX5.out.upd k2 (fun k hk e => HAX5.out k hk e)).upd hA6 (fun _ _ h => h)
                have HM := Lib.hid (show R2 W (w6.alloc (.cells #[.int .i64 (opI false ys), .int .i64 (restI false ys).1, .int .i64 (restI false ys).2.1] 29)) bx br (restI false ys).2.2.2 from
                  ⟨vx5, vr6, HX6, k1.upd hA6 (fun _ _ h => h), (HU5.out.trans k2 (fun i hi hlt => by omega)).trans hA6 (fun _ h _ => h), ox, or, HAX5.out, fun k hk => by
                    rcases hk with hk | hk
                    · exact HAR.out k (.inl hk)
                    · exact HAR.out k (.inr (k3 k hk))⟩)
                clear hi6 hi7 HX6 k1 k2 k3 hA6
                go_wp2_with fail
                go_roundw
                case rel => exact ⟨k + 1, by omega, by go_num, ⟨_, HM.out⟩⟩
                case measure => simp [intOf]; omega
              · have HE := Lib.hid hE
                clear hE
                go_wp2_with fail
                refine (cRead_no wr bx vx1 false ys HX.out _ rfl HE.out).mono ?_
                rintro e w5 ⟨rfl, g2⟩
                have hA5 := Upd.alloc (fun _ => False) w5 (.cells #[.int .i64 0, .int .i64 0, .int .i64 0] 29)
                have HR5 := Lib.hid ((HRr.out.upd g2 (fun _ _ h => h)).upd hA5 (fun _ _ h => h))
                have HU5 := Lib.hid ((HU.out.trans g2 (fun _ h _ => h)).trans hA5 (fun _ h _ => h))
                have HI5 := Lib.hid (is3_new 29 w5 (.int .i64 0) (.int .i64 0) (.int .i64 0))
                have hb5 : br < w5.heap.size := by have := HRr.out.lt; have := g2.size; omega
                have hE1 : ((errI false ys) != 0) = true := by simpa using HE.out
                clear g2 hA5
                go_wp2_with fail
                refine (rRead_no _ br vr1 false ys HR5.out _ rfl HE.out).mono ?_
                rintro e w6 ⟨rfl, k2⟩
                have hA6 := Upd.alloc (fun _ => False) w6 (.cells #[.int .i64 0, .int .i64 0, .int .i64 0] 29)
                have hi6 := HI5.out.upd k2 (fun e => by omega)
                have i0 := hi6.c0
                have i1 := hi6.c1
                have i2 := hi6.c2
                have hi7 := hi6.upd hA6 (fun h => h)
                have j0 := hi7.c0
                have j1 := hi7.c1
                have j2 := hi7.c2
                have HB := Lib.hid ((HU5.out.trans k2 (fun i hi hlt => by omega)).trans hA6 (fun _ h _ => h))
                clear hi6 hi7 k2 hA6
                generalize errI false ys = E at *
                go_wp2_with fail
                go_ret
                exact ⟨rfl, HB.out.below (Nat.le_refl _) (fun _ h => h.elim)⟩
            · go_wp2_with fail
              go_ret
              exact ⟨rfl, HU.out.below (Nat.le_refl _) (fun _ h => h.elim)⟩
        · have hkL : ¬ (k : Int) < L.length := by omega
          clear hlt hk
          go_wp2_with (at_builtin; go_loud (refine wpList_append_mine _ rfl _ _ 35 rfl 0 5 i0 (.int .u8 0) 1 1 Try.underlying35 hi hz0 hz1 hz2 rfl (by decide) (.slice aw xs.length cw) xs.length (bv xs) rfl hown ms.length (bv ms) hsrc (by unfold maxLen; omega) (by omega) (Nat.zero_le _) ?_))
          intro v' wA ho hg hf
          obtain ⟨ao, co, rfl⟩ := ownsRow_slice ho
          have hV : Vw wA (.slice ao (xs.length + ms.length) co) (xs ++ ms) := vw_of_row (by rw [bv_append, List.length_append]; exact ho) (byte_app HPh.out.x.byte HPh.out.vw.1)
          have hU : Upd (fun _ => False) W wA := HPh.out.upd.trans (T := fun k => (Value.slice aw xs.length cw).ownBlock = some k) (Upd.grown hg (fun k hk => .inl (by rw [hk]))) (fun i hi hlt => by have := HPh.out.ox i (.inr hi); omega)
          have hbs : (xs ++ ms).length ≤ 140737488355327 := by simp; omega
          rw [show xs.length + ms.length = (xs ++ ms).length by simp] at hV ⊢
          have HV := Lib.hid hV
          have HU := Lib.hid hU
          generalize hB : xs ++ ms = bs at *
          clear hB hV hU ho hg hf hcB hsrc hown HPh HL HM HLT
          go_wp2_with fail
          refine (newReader _ _ bs HV.out hbs).mono ?_
          rintro e w1 ⟨bx, vx, rfl, h1, h2, h3⟩
          have HX1 := Lib.hid h1
          have HU1 := Lib.hid (HU.out.trans h2 (fun _ h _ => h))
          have HV1 := Lib.hid (HV.out.upd h2 (fun _ _ h => h))
          have HF1 := Lib.hid h3
          have hsA : W.heap.size ≤ wA.heap.size := HU.out.size
          clear h1 h2 h3 HV HU
          go_wp2_with fail
          refine (known3 _).mono ?_
          rintro e w2 ⟨rfl, h2⟩
          have HX2 := Lib.hid (HX1.out.upd h2 (fun _ _ h => h))
          have HU2 := Lib.hid (HU1.out.trans h2 (fun _ h _ => h))
          have HV2 := Lib.hid (HV1.out.upd h2 (fun _ _ h => h))
          clear h2 HX1 HU1 HV1
          go_wp2_with fail
          refine (few _ _ bs _ HV2.out (.inl hbs) (by omega) (by omega)).mono ?_
          rw [show bs.take (Int.toNat (bs.length : Int)) = bs from List.take_of_length_le (by simp)]
          rintro e w3 ⟨vr, rfl, hN⟩
          obtain ⟨ar, cr, rfl⟩ := ownsRow_slice hN.1
          have HN := Lib.hid hN
          clear hN
          go_wp2_with fail
          have HT : Hid (R2 W (w3.alloc (.cells #[.slice ar bs.length cr, .bool false] 51)) bx w3.heap.size bs) := by
            have ha := Upd.alloc (fun _ => False) w3 (.cells #[.slice ar bs.length cr, .bool false] 51)
            have hN := HN.out
            have hx3 := HX2.out.upd hN.2.1 (fun _ _ h => h)
            have hs3 := hN.2.1.size
            have hs2 := HU2.out.size
            have hf := HF1.out bx (.inl rfl)
            refine ⟨vx, .slice ar bs.length cr, hx3.upd ha (fun _ _ h => h), ⟨?_, (hN.vw HV2.out.1).upd ha (fun _ _ h => h), ?_, hbs, by simp, fun k hk => by have := (hN.1.lt k hk).2; simp; omega⟩, (HU2.out.trans hN.2.1 (fun _ h _ => h)).trans ha (fun _ h _ => h), by omega, by omega, fun k hk e => ?_, fun k hk e => ?_⟩
            · show (w3.heap.push _)[w3.heap.size]? = _
              simp
            · intro e
              have := (hN.1.lt _ e).2
              omega
            · subst e
              rcases hk with hk | hk
              · have := hx3.lt; omega
              · have := hx3.inn _ hk; omega
            · subst e
              rcases hk with hk | hk
              · have := hx3.lt; omega
              · have := hN.2.2 _ hk
                have := HX2.out.lt
                omega
          clear HN HX2 HU2 HF1 HV2
          generalize w3.alloc (.cells #[.slice ar bs.length cr, .bool false] 51) = w4 at *
          generalize w3.heap.size = br at *
          go_loopw [13] (fun i wr => ∃ k : Nat, k ≤ 30 ∧ i = .int .i64 k ∧ Hid (∃ ys, R2 W wr bx br ys)) (fun i _ => 30 - (intOf i).toNat)
          case atStart => exact ⟨0, by omega, rfl, ⟨_, HT.out⟩⟩
          case round =>
            obtain ⟨k, hk, rfl, HR1⟩ := hrel
            obtain ⟨ys, vx1, vr1, hx, hr, hu, ox, or, ax, ari⟩ := HR1.out
            have HX := Lib.hid hx
            have HRr := Lib.hid hr
            have HU := Lib.hid hu
            have HAX := Lib.hid ax
            have HAR := Lib.hid ari
            clear hx hr hu ax ari HR1 HT
            by_cases hlt : k < 30
            · by_cases hE : errI false ys = 0
              · have HE := Lib.hid hE
                clear hE
                go_wp2_with fail
                refine (cRead_ok wr bx vx1 false ys HX.out HE.out).mono ?_
                rintro e w5 ⟨rfl, vx5, g1, g2, g3⟩
                have hA5 := Upd.alloc (fun _ => False) w5 (.cells #[.int .i64 (opI false ys), .int .i64 (restI false ys).1, .int .i64 (restI false ys).2.1] 29)
                have HX5 := Lib.hid (g1.upd hA5 (fun _ _ h => h))
                have HR5 := Lib.hid ((HRr.out.upd g2 (fun k hk e => HAR.out k hk e)).upd hA5 (fun _ _ h => h))
                have HU5 := Lib.hid ((HU.out.trans g2 (fun i hi hlt => by omega)).trans hA5 (fun _ h _ => h))
                have HAX5 := Lib.hid (show ∀ k, fp bx vx5 k → k ≠ br from fun k hk => by
                  rcases hk with hk | hk
                  · exact HAX.out k (.inl hk)
                  · exact HAX.out k (.inr (g3 k hk)))
                have HI5 := Lib.hid (is3_new 29 w5 (.int .i64 (opI false ys)) (.int .i64 (restI false ys).1) (.int .i64 (restI false ys).2.1))
                have hb5 : br < w5.heap.size := by have := HRr.out.lt; have := g2.size; omega
                clear g1 g2 g3 hA5
                go_wp2_with fail
                refine (rRead_ok _ br vr1 false ys HR5.out HE.out).mono ?_
                rintro e w6 ⟨rfl, vr6, k1, k2, k3⟩
                have hA6 := Upd.alloc (fun _ => False) w6 (.cells #[.int .i64 (opI false ys), .int .i64 (restI false ys).1, .int .i64 (restI false ys).2.1] 29)
                have hi6 := HI5.out.upd k2 (fun e => by omega)
                have i0 := hi6.c0
                have i1 := hi6.c1
                have i2 := hi6.c2
                have hi7 := hi6.upd hA6 (fun h => h)
                have j0 := hi7.c0
                have j1 := hi7.c1
                have j2 := hi7.c2
                have HX6 := (HX5.out.upd k2 (fun k hk e => HAX5.out k hk e)).upd hA6 (fun _ _ h => h)
                have HM := Lib.hid (show R2 W (w6.alloc (.cells #[.int .i64 (opI false ys), .int .i64 (restI false ys).1, .int .i64 (restI false ys).2.1] 29)) bx br (restI false ys).2.2.2 from
                  ⟨vx5, vr6, HX6, k1.upd hA6 (fun _ _ h => h), (HU5.out.trans k2 (fun i hi hlt => by omega)).trans hA6 (fun _ h _ => h), ox, or, HAX5.out, fun k hk => by
                    rcases hk with hk | hk
                    · exact HAR.out k (.inl hk)
                    · exact HAR.out k (.inr (k3 k hk))⟩)
                clear hi6 hi7 HX6 k1 k2 k3 hA6
                go_wp2_with fail
                go_roundw
                case rel => exact ⟨k + 1, by omega, by go_num, ⟨_, HM.out⟩⟩
                case measure => simp [intOf]; omega
              · have HE := Lib.hid hE
                clear hE
                go_wp2_with fail
                refine (cRead_no wr bx vx1 false ys HX.out _ rfl HE.out).mono ?_
                rintro e w5 ⟨rfl, g2⟩
                have hA5 := Upd.alloc (fun _ => False) w5 (.cells #[.int .i64 0, .int .i64 0, .int .i64 0] 29)
                have HR5 := Lib.hid ((HRr.out.upd g2 (fun _ _ h => h)).upd hA5 (fun _ _ h => h))
                have HU5 := Lib.hid ((HU.out.trans g2 (fun _ h _ => h)).trans hA5 (fun _ h _ => h))
                have HI5 := Lib.hid (is3_new 29 w5 (.int .i64 0) (.int .i64 0) (.int .i64 0))
                have hb5 : br < w5.heap.size := by have := HRr.out.lt; have := g2.size; omega
                have hE1 : ((errI false ys) != 0) = true := by simpa using HE.out
                clear g2 hA5
                go_wp2_with fail
                refine (rRead_no _ br vr1 false ys HR5.out _ rfl HE.out).mono ?_
                rintro e w6 ⟨rfl, k2⟩
                have hA6 := Upd.alloc (fun _ => False) w6 (.cells #[.int .i64 0, .int .i64 0, .int .i64 0] 29)
                have hi6 := HI5.out.upd k2 (fun e => by omega)
                have i0 := hi6.c0
                have i1 := hi6.c1
                have i2 := hi6.c2
                have hi7 := hi6.upd hA6 (fun h => h)
                have j0 := hi7.c0
                have j1 := hi7.c1
                have j2 := hi7.c2
                have HB := Lib.hid ((HU5.out.trans k2 (fun i hi hlt => by omega)).trans hA6 (fun _ h _ => h))
                clear hi6 hi7 k2 hA6
                generalize errI false ys = E at *
                go_wp2_with fail
                go_ret
                exact ⟨rfl, HB.out.below (Nat.le_refl _) (fun _ h => h.elim)⟩
            · go_wp2_with fail
              go_ret
              exact ⟨rfl, HU.out.below (Nat.le_refl _) (fun _ h => h.elim)⟩
end Go.Proofs.Ytcmdffkhofmfhaa

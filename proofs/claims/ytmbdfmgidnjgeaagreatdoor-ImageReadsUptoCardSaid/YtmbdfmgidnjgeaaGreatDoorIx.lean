/- Package image's Read: the parts behind the mark. -/
import Derived.Test.YtmbdfmgidnjgeaaGreatDoorIw
import Derived.Deep.RegionHeld3
import Derived.Outline
namespace Go.Proofs.YtmbdfmgidnjgeaaGreatDoor
open Go.RowKit Go.Lib
set_option linter.unusedVariables false

theorem ImgFrom.low {B B' : Nat} {w : World} {v : Value} {I : ImgM} (h : ImgFrom B w v I) (hb : B' ≤ B) : ImgFrom B' w v I := by
  obtain ⟨f, i, m, x, rfl, h1, ⟨h2, p, h3, h4, h5⟩, ⟨h6, p2, q2, r2, h7, h8, h9⟩, h10, h11⟩ := h
  exact ⟨f, i, m, x, rfl, ⟨h1.is, h1.fr.mono hb⟩, ⟨h2.mono hb, p, h3, fun i hi => ⟨(h4 i hi).is, (h4 i hi).fr.mono hb⟩, h5⟩,
    ⟨h6.mono hb, p2, q2, r2, h7, fun i hi => ⟨⟨(h8 i hi).1.is, (h8 i hi).1.fr.mono hb⟩, ⟨(h8 i hi).2.1.is, (h8 i hi).2.1.fr.mono hb⟩, ⟨(h8 i hi).2.2.is, (h8 i hi).2.2.fr.mono hb⟩⟩, h9⟩, ⟨h10.is, h10.fr.mono hb⟩, h11⟩
/-- so many imports, taken -/
def impsGo : Nat → Bool → List Int → List ImpM × Bool × List Int
  | 0, lk, ys => ([], lk, ys)
  | n + 1, lk, ys => ((impP lk ys).1 :: (impsGo n (impP lk ys).2.1 (impP lk ys).2.2).1, (impsGo n (impP lk ys).2.1 (impP lk ys).2.2).2)
/-- so many methods, taken: the error, or 0 -/
def metsGo : Nat → Bool → List Int → Int × List MetM × Bool × List Int
  | 0, lk, ys => (0, [], lk, ys)
  | n + 1, lk, ys => if (metP lk ys).1 = 0 then ((metsGo n (metP lk ys).2.2.1 (metP lk ys).2.2.2).1, (metP lk ys).2.1 :: (metsGo n (metP lk ys).2.2.1 (metP lk ys).2.2.2).2.1, (metsGo n (metP lk ys).2.2.1 (metP lk ys).2.2.2).2.2) else ((metP lk ys).1, [], lk, ys)
def preI (L : List ImpM) (r : List ImpM × Bool × List Int) : List ImpM × Bool × List Int := (L ++ r.1, r.2)
theorem preI_nil (r : List ImpM × Bool × List Int) : preI [] r = r := rfl
theorem impsGo_step {n : Nat} {lk : Bool} {ys : List Int} (L : List ImpM) : preI L (impsGo (n + 1) lk ys) = preI (L ++ [(impP lk ys).1]) (impsGo n (impP lk ys).2.1 (impP lk ys).2.2) := by
  unfold preI
  rw [impsGo]
  simp
theorem metsGo_step {n : Nat} {lk : Bool} {ys : List Int} (L : List MetM) (h : (metP lk ys).1 = 0) : pre L (metsGo (n + 1) lk ys) = pre (L ++ [(metP lk ys).2.1]) (metsGo n (metP lk ys).2.2.1 (metP lk ys).2.2.2) := by
  unfold pre
  rw [metsGo, if_pos h]
  simp
theorem metsGo_err {n : Nat} {lk : Bool} {ys : List Int} (L : List MetM) (h : (metP lk ys).1 ≠ 0) : (pre L (metsGo (n + 1) lk ys)).1 = (metP lk ys).1 := by
  unfold pre
  rw [metsGo, if_neg h]
/-- all parts behind the mark -/
def partsP (lk : Bool) (ys : List Int) : Int × ImgM × Bool × List Int :=
  let a := shortP lk ys
  let f := shortP a.2.1 a.2.2
  let n := takeP 1 f.2.1 f.2.2
  let i := impsGo (beN n.1).toNat n.2.1 n.2.2
  let k := takeP 1 i.2.1 i.2.2
  let m := metsGo (beN k.1).toNat k.2.1 k.2.2
  let x := shortP m.2.2.1 m.2.2.2
  (m.1, ⟨strOfNums a.1, f.1, i.1, m.2.1, x.1⟩, x.2)
/-- the image that is none -/
abbrev img0 : Value := img5 { data := #[] } (.slice none 0 0) (.slice none 0 0) (.slice none 0 0) (.slice none 0 0)

structure ImgAns (W w : World) (b : Nat) (V : Value) (I : ImgM) (lk : Bool) (ys : List Int) (x : Value) (w' : World) : Prop where
  rd : RdW 88 W w' b V lk ys
  upd : Upd (fun k => k = b) w w'
  img : ImgFrom w.heap.size w' x I

set_option maxRecDepth 100000 in
set_option maxHeartbeats 8000000 in
theorem cTakeParts (W w : World) (b : Nat) (V : Value) (lk : Bool) (ys : List Int) (h : RdW 88 W w b V lk ys) :
    Calls Tryz.prog 22 #[.pointer (some ⟨b, 0, none⟩)] w fun e w' =>
      ((partsP lk ys).1 ≠ 0 ∧ e = .returned (.tuple #[img0, .int .i64 (partsP lk ys).1]) ∧ Upd (fun k => k = b) w w') ∨
      ((partsP lk ys).1 = 0 ∧ ∃ x, e = .returned (.tuple #[x, .int .i64 0]) ∧ ImgAns W w b V (partsP lk ys).2.1 (partsP lk ys).2.2.1 (partsP lk ys).2.2.2 x w') := by
  obtain ⟨i0, hi, hz0, hz1, hz2⟩ := info_parts infoImp
  obtain ⟨i1, hi', hz0', hz1', hz2'⟩ := info_parts infoMet
  obtain ⟨A, hA⟩ : ∃ A, A = shortP lk ys := ⟨_, rfl⟩
  obtain ⟨F, hF⟩ : ∃ F, F = shortP A.2.1 A.2.2 := ⟨_, rfl⟩
  obtain ⟨D, hD⟩ : ∃ D, D = takeP 1 F.2.1 F.2.2 := ⟨_, rfl⟩
  obtain ⟨J, hJ⟩ : ∃ J, J = impsGo (beN D.1).toNat D.2.1 D.2.2 := ⟨_, rfl⟩
  obtain ⟨E, hE⟩ : ∃ E, E = takeP 1 J.2.1 J.2.2 := ⟨_, rfl⟩
  obtain ⟨M, hM⟩ : ∃ M, M = metsGo (beN E.1).toNat E.2.1 E.2.2 := ⟨_, rfl⟩
  have HP := Lib.hid (show partsP lk ys = (M.1, ⟨strOfNums A.1, F.1, J.1, M.2.1, (shortP M.2.2.1 M.2.2.2).1⟩, (shortP M.2.2.1 M.2.2.2).2) by rw [hM, hE, hJ, hD, hF, hA]; rfl)
  have HEA := Lib.hid hA
  have HEF := Lib.hid hF
  have HED := Lib.hid hD
  have HEJ := Lib.hid hJ
  have HEE := Lib.hid hE
  have HEM := Lib.hid hM
  have HNL := Lib.hid (show A.1.length ≤ 255 by rw [hA]; obtain ⟨_, v, h1, _⟩ := h; exact shortP_len h1.vw.1)
  have H0 := Lib.hid (MC.start (t := 32) (x0 := .string { data := #[] }) (y0 := .slice none 0 0) (z0 := .slice none 0 0) (u0 := .slice none 0 0) (s0 := .slice none 0 0) h)
  clear h hA hF hD hJ hE hM
  go_enter Tryz.func22, Tryz.ntmps22
  go_wp2_with fail
  refine (eShort H0.out.K).mono ?_
  rw [← HEA.out]
  rintro e w1 ⟨r, rfl, k1, k2, k3, -, k5⟩
  have hs := str3 (vw_of_row k3 k5)
  obtain ⟨ra, rc, rfl⟩ := ownsRow_slice k3
  obtain ⟨nm, hnm⟩ : ∃ nm, nm = strOfNums A.1 := ⟨_, rfl⟩
  rw [← hnm] at hs
  have HNM := Lib.hid hnm
  have H1 := Lib.hid (H0.out.rd k1 k2)
  have c0 := H1.out.I.c0
  have f0 := H1.out.I.fr 0
  clear k1 k2 k3 k5 hnm
  go_wp2_with fail
  have H2 := Lib.hid (H1.out.set0 (.string nm))
  clear c0 f0 hs
  refine (cTakeNumbers _ _ _ _ _ _ H2.out.K).mono ?_
  rw [← HEF.out]
  rintro e w2 ⟨q, rfl, k1, k2, k3, k4⟩
  obtain ⟨qa, qc, rfl⟩ := ownsRow_slice k3.1
  have H3 := Lib.hid (H2.out.rd k1 k2)
  have hs4 := H2.out.size
  have Q3 : Hid (NNew w w2 (.slice qa F.1.length qc) F.1) := Lib.hid ⟨k3, fun k hk => by have := k4 k hk; omega⟩
  have c1 := H3.out.I.c1
  have f1 := H3.out.I.fr 1
  clear k1 k2 k3 k4
  go_wp2_with fail
  have H4 := Lib.hid (H3.out.set1 (.slice qa F.1.length qc))
  have Q4 := Lib.hid (Q3.out.stay (box_upd w2 (w.heap.size + 1) 1 (.slice qa F.1.length qc)) (fun k hk => by omega))
  have hbl := H4.out.bl
  clear c1 f1
  refine (eU8 H4.out.K).mono ?_
  rw [← HED.out]
  rintro e w3 ⟨rfl, k1, k2, hb3, hb4⟩
  have H5 := Lib.hid (H4.out.rd k1 k2)
  have Q5 := Lib.hid (Q4.out.stay k2 (fun k hk => by omega))
  obtain ⟨N, hN⟩ : ∃ N : Nat, beN D.1 = N := ⟨(beN D.1).toNat, by omega⟩
  rw [hN] at hb4 ⊢
  have HEJ2 : Hid (J = preI [] (impsGo N D.2.1 D.2.2)) := Lib.hid (by rw [preI_nil, HEJ.out, hN]; rfl)
  have HN := Lib.hid (show N ≤ 255 by omega)
  have R5 : Hid (ImpRow (w.heap.size + 2) w3 (.slice none 0 0) []) := Lib.hid ⟨World.ownsRow_nil _ _ _ _, by simp [From, Value.ownBlock], by simp⟩
  have HL0 : Hid (([] : List (ImpM × Value)).length = 0) := Lib.hid rfl
  clear k1 k2 hb3 hb4 hN HEJ H0 H1 H2 H3 H4 Q3 Q4 hs4
  go_wp2_with fail
  go_loopw [17] (fun i wr => ∃ (k m : Nat) (lk' : Bool) (ys' : List Int) (Q : List (ImpM × Value)) (va : Option Addr) (vc : Nat), k + m ≤ N ∧ N ≤ k + m ∧ i = .int .i64 k ∧ Hid (Q.length = k) ∧
    Hid (MC 88 32 W w wr b V lk' ys' (.string { data := #[] }) (.slice none 0 0) (.slice none 0 0) (.slice none 0 0) (.slice none 0 0) (.string nm) (.slice qa F.1.length qc) (.slice va k vc) (.slice none 0 0) (.slice none 0 0)) ∧
    Hid (NNew w wr (.slice qa F.1.length qc) F.1) ∧ Hid (ImpRow (w.heap.size + 2) wr (.slice va k vc) Q) ∧
    Hid (J = preI (Q.map (·.1)) (impsGo m lk' ys'))) (fun i _ => N - (intOf i).toNat)
  case atStart => exact ⟨0, N, _, _, [], none, 0, by omega, by omega, rfl, HL0, H5, Q5, R5, HEJ2⟩
  case round =>
    obtain ⟨k, m, lk', ys', Q, va, vc, hm1, hm2, rfl, HQL, HM, HQV, HR, HJJ⟩ := hrel
    by_cases hlt : k < N
    · obtain ⟨m', rfl⟩ : ∃ m', m = m' + 1 := ⟨m - 1, by omega⟩
      have HMD := Lib.hid (HM.out.mono (Upd.drew (fun _ => False) wr))
      have HRD := Lib.hid (HR.out.mono (Upd.drew (fun _ => False) wr))
      have HQD := Lib.hid (HQV.out.stay (Upd.drew (fun _ => False) wr) (fun _ h => h.elim))
      have hbl := HMD.out.bl
      have c2 := HMD.out.I.c2
      have hNL := HN.out
      go_wp2_with fail
      go_region_law ((first
        | (refine step_append_mine rfl (.tmp 20) (.tmp 23) 29 rfl 0 49 i0 _ 4 56 Tryz.underlying29 hi hz0 hz1 hz2 rfl (by decide) (.slice va k vc) k (Q.flatMap ipc) rfl (HOWN.out.alloc _) 1 (ipc ((impP lk' ys').1, .slice pa (impP lk' ys').1.params.length pc)) HSRC.out (by unfold maxLen; omega) (by omega) (Nat.zero_le _) ?_; intro v7 w7 ho hg hf; have hu7 := Upd.row (Upd.alloc _ w5 _) hg; obtain ⟨na, nc, rfl⟩ := ownsRow_slice ho; have HM7 := Lib.hid (HM5.out.step hu7 (fun j hj => HR5.out.new j hj)); have HX7 := Lib.hid (And.intro hu7 (And.intro ho hf)); have c7 := HM7.out.I.c2; have f7 := HM7.out.I.fr 2; clear ho hg hf hu7)
        | (go_simp; (with_reducible refine (cTakeImport W wr.drew b V lk' ys' HMD.out.K).mono ?_); rintro e w5 ⟨r5, rfl, k1, k2, k3, k4, k5, k6, k7⟩; have HM5 := Lib.hid (HMD.out.rd k1 k2); have HQ5 := Lib.hid (HQD.out.stay k2 (fun j hj => by omega)); have HR5 := Lib.hid (HRD.out.stay k2 (fun j hj => by omega)); have hsz := HMD.out.size; have HX5 : Hid (ImpOk (w.heap.size + 2) w5 ((impP lk' ys').1, r5)) := Lib.hid ⟨k3, fun j hj => by have := k4 j hj; omega, k5, k6, k7⟩; obtain ⟨pa, pc, rfl⟩ := ownsRow_slice k3.1; have c5 := HM5.out.I.c2; have c5' := (HM5.out.mono (Upd.alloc _ w5 (.cells #[.string (impP lk' ys').1.name, .int .i64 (impP lk' ys').1.exp, .slice pa (impP lk' ys').1.params.length pc, .int .i64 (impP lk' ys').1.res] 49))).I.c2; have hown := HR5.out.row; rw [HQL.out] at hown; have HOWN := Lib.hid hown; have HSRC := Lib.hid (srcAt w5 49 #[.string (impP lk' ys').1.name, .int .i64 (impP lk' ys').1.exp, .slice pa (impP lk' ys').1.params.length pc, .int .i64 (impP lk' ys').1.res] (ipc ((impP lk' ys').1, .slice pa (impP lk' ys').1.params.length pc)) rfl 4 (by simp [ipc, Value.oneCell']) 1 1 w5.heap.size rfl rfl); clear k1 k2 k3 k4 k5 k6 k7 hown; go_simp)))
      all_goals
        obtain ⟨hu7, ho, hf⟩ := HX7.out
        have hsz5 := HM5.out.size
        have hF7 : From (w.heap.size + 2) (.slice na (k + 1) nc) := fun j hj => by
          rcases hf j hj with h | h
          · exact HR.out.new j h
          · simp at h; omega
        have hQ7 := HQ5.out.apart HOWN.out (by decide) hu7
        have hR7 : ImpRow (w.heap.size + 2) w7 (.slice na (k + 1) nc) (Q ++ [((impP lk' ys').1, .slice pa (impP lk' ys').1.params.length pc)]) := ⟨by
          rw [List.length_append, HQL.out, List.flatMap_append]
          simpa using ho, hF7, fun x hx => by
          rcases List.mem_append.1 hx with h | h
          · exact (HR5.out.each x h).upd hu7 (fun j hj => row_ne (HR5.out.each x h).row.1 HOWN.out (by decide) j hj)
          · simp at h; rw [h]; exact HX5.out.upd hu7 (fun j hj => row_ne HX5.out.row.1 HOWN.out (by decide) j hj)⟩
        have HM8 := Lib.hid (HM7.out.set2 (.slice na (k + 1) nc))
        have HQ8 := Lib.hid (hQ7.stay (box_upd w7 (w.heap.size + 1) 2 (.slice na (k + 1) nc)) (fun j hj => by omega))
        have HR8 := Lib.hid (hR7.stay (box_upd w7 (w.heap.size + 1) 2 (.slice na (k + 1) nc)) (fun j hj => by omega))
        have HL8 : Hid ((Q ++ [((impP lk' ys').1, Value.slice pa (impP lk' ys').1.params.length pc)]).length = k + 1) := Lib.hid (by rw [List.length_append, HQL.out]; rfl)
        have HJ8 : Hid (J = preI ((Q ++ [((impP lk' ys').1, Value.slice pa (impP lk' ys').1.params.length pc)]).map (·.1)) (impsGo m' (impP lk' ys').2.1 (impP lk' ys').2.2)) := Lib.hid (by rw [HJJ.out, impsGo_step, List.map_append]; rfl)
        clear hu7 ho hf hF7 hQ7 hR7 c2 c5 c5' c7 f7
        go_wp2_with fail
        go_roundw
        case rel => exact ⟨k + 1, m', _, _, _, na, nc, by omega, by omega, by go_num, HL8, HM8, HQ8, HR8, HJ8⟩
        case measure => simp [intOf]; omega
    · obtain rfl : m = 0 := by omega
      obtain rfl : k = N := by omega
      have HJE := Lib.hid (show J = (Q.map (·.1), lk', ys') by rw [HJJ.out]; simp [preI, impsGo])
      have hbl := HM.out.bl
      go_wp2_with fail
      refine (eU8 HM.out.K).mono ?_
      rw [show takeP 1 lk' ys' = E by rw [HEE.out, HJE.out]]
      rintro e w4 ⟨rfl, k1, k2, hb3, hb4⟩
      have H6 := Lib.hid (HM.out.rd k1 k2)
      have Q6 := Lib.hid (HQV.out.stay k2 (fun j hj => by omega))
      have R6 := Lib.hid (HR.out.stay k2 (fun j hj => by omega))
      obtain ⟨G, hG⟩ : ∃ G : Nat, beN E.1 = G := ⟨(beN E.1).toNat, by omega⟩
      rw [hG] at hb4 ⊢
      have HEM2 : Hid (M = pre [] (metsGo G E.2.1 E.2.2)) := Lib.hid (by rw [pre_nil, HEM.out, hG]; rfl)
      have HGL := Lib.hid (show G ≤ 255 by omega)
      have T6 : Hid (MetRow (w.heap.size + 2) w4 (.slice none 0 0) []) := Lib.hid ⟨World.ownsRow_nil _ _ _ _, by simp [From, Value.ownBlock], by simp⟩
      have HT0 : Hid (([] : List (MetM × Value × Value × Value)).length = 0) := Lib.hid rfl
      clear k1 k2 hb3 hb4 hG HEM
      go_wp2_with fail
      go_loopw [29, 5, 6] (fun i _ _ wr => ∃ (g m : Nat) (lk' : Bool) (ys' : List Int) (T : List (MetM × Value × Value × Value)) (ta : Option Addr) (tc : Nat), g + m ≤ G ∧ G ≤ g + m ∧ i = .int .i64 g ∧ Hid (T.length = g) ∧
        Hid (MC 88 32 W w wr b V lk' ys' (.string { data := #[] }) (.slice none 0 0) (.slice none 0 0) (.slice none 0 0) (.slice none 0 0) (.string nm) (.slice qa F.1.length qc) (.slice va k vc) (.slice ta g tc) (.slice none 0 0)) ∧
        Hid (NNew w wr (.slice qa F.1.length qc) F.1) ∧ Hid (ImpRow (w.heap.size + 2) wr (.slice va k vc) Q) ∧ Hid (MetRow (w.heap.size + 2) wr (.slice ta g tc) T) ∧
        Hid (M = pre (T.map (·.1)) (metsGo m lk' ys'))) (fun i _ _ _ => G - (intOf i).toNat)
      case atStart => exact ⟨0, G, _, _, [], none, 0, by omega, by omega, rfl, HT0, H6, Q6, R6, T6, HEM2⟩
      case round =>
        obtain ⟨g, m, lk', ys', T, ta, tc, hm1, hm2, rfl, HTL, HM, HQV, HR, HT, HMM⟩ := hrel
        by_cases hlt : g < G
        · obtain ⟨m', rfl⟩ : ∃ m', m = m' + 1 := ⟨m - 1, by omega⟩
          go_wp2_with fail
          refine (cTakeMethod _ _ _ _ _ _ HM.out.K).mono ?_
          rintro e w5 (⟨he, rfl, hu⟩ | ⟨he, x, rfl, hA⟩)
          · have e1 : (partsP lk ys).1 = M.1 := by rw [HP.out]
            have e2 : M.1 = (metP lk' ys').1 := by rw [HMM.out]; exact metsGo_err (T.map (·.1)) he
            have HE := Lib.hid (e1.trans e2)
            clear e1 e2
            obtain ⟨er, her⟩ : ∃ er, er = (metP lk' ys').1 := ⟨_, rfl⟩
            rw [← her] at he HE ⊢
            have hb : (er == 0) = false := beq_eq_false_iff_ne.2 he
            have hb' : (er != 0) = true := by simp [bne, hb]
            have HNE := Lib.hid he
            clear her
            have HJ9 := Lib.hid ((HM.out.J.upd hu (fun e => by omega)).upd (Upd.alloc (fun _ => False) w5 (.cells #[.slice none 0 0, .int .i64 0, .slice none 0 0, .slice none 0 0] 52)) (fun h => h))
            have HU9 := Lib.hid ((HM.out.U.trans hu (fun _ h _ => h)).trans (Upd.alloc (fun _ => False) w5 (.cells #[.slice none 0 0, .int .i64 0, .slice none 0 0, .slice none 0 0] 52)) (fun _ h _ => h.elim))
            have j0 := HJ9.out.c0
            have j1 := HJ9.out.c1
            have j2 := HJ9.out.c2
            have j3 := HJ9.out.c3
            have j4 := HJ9.out.c4
            have g0 := HJ9.out.fr 0
            have g1 := HJ9.out.fr 1
            have g2 := HJ9.out.fr 2
            have g3 := HJ9.out.fr 3
            have g4 := HJ9.out.fr 4
            clear he hu
            go_wp2_with fail
            obtain ⟨HF1, HF2⟩ := fin5 HJ9.out (.string { data := #[] }) (.slice none 0 0) (.slice none 0 0) (.slice none 0 0) (.slice none 0 0)
            have j0 := HF1.c0
            have j1 := HF1.c1
            have j2 := HF1.c2
            have j3 := HF1.c3
            have j4 := HF1.c4
            refine bodyPost_ret (v := .tuple #[img0, .int .i64 er]) (by simp only [results, Tryz.f22]; simp [go_sem, j0, j1, j2, j3, j4]) rfl ?_
            exact .inl ⟨by rw [HE.out]; exact HNE.out, by rw [HE.out], HU9.out.trans HF2 (fun i hi hlt => by omega)⟩
          · have HE := Lib.hid he
            obtain ⟨mm, hmm⟩ : ∃ mm, mm = (metP lk' ys').2.1 := ⟨_, rfl⟩
            have HMM2 : Hid (M = pre ((T.map (·.1)) ++ [mm]) (metsGo m' (metP lk' ys').2.2.1 (metP lk' ys').2.2.2)) := Lib.hid (by rw [HMM.out, metsGo_step _ he, hmm])
            rw [← hmm] at hA
            obtain ⟨k1, k2, ⟨p, q, r, rfl, k3, k4, k5, k6, k7, k8⟩, k9⟩ := hA
            generalize (metP lk' ys').2.2.1 = lk2 at *
            generalize (metP lk' ys').2.2.2 = ys2 at *
            clear he hmm
            obtain ⟨pa, pc, rfl⟩ := ownsRow_slice k3.1
            obtain ⟨qa2, qc2, rfl⟩ := ownsRow_slice k4.1
            obtain ⟨ra2, rc2, rfl⟩ := ownsRow_slice k5.1
            have hszr := HM.out.size
            have HX5 : Hid (MetOk (w.heap.size + 2) w5 (mm, .slice pa mm.params.length pc, .slice qa2 mm.locals.length qc2, .slice ra2 mm.code.length rc2)) := Lib.hid ⟨k3, k4, k5, fun j hj => by have := k6 j hj; omega, fun j hj => by have := k7 j hj; omega, fun j hj => by have := k8 j hj; omega, k9⟩
            have HM5 := Lib.hid (HM.out.rd k1 k2)
            have HQ5 := Lib.hid (HQV.out.stay k2 (fun j hj => by omega))
            have HR5 := Lib.hid (HR.out.stay k2 (fun j hj => by omega))
            have HT5 := Lib.hid (HT.out.stay k2 (fun j hj => by omega))
            have ha := Upd.alloc (fun _ => False) w5 (.cells #[.slice pa mm.params.length pc, .int .i64 mm.res, .slice qa2 mm.locals.length qc2, .slice ra2 mm.code.length rc2] 52)
            have HX6 := Lib.hid (HX5.out.upd ha (fun _ _ h => h) (fun _ _ h => h) (fun _ _ h => h))
            have HM6 := Lib.hid (HM5.out.mono ha)
            have HQ6 := Lib.hid (HQ5.out.mono ha)
            have HR6 := Lib.hid (HR5.out.mono ha)
            have HT6 := Lib.hid (HT5.out.mono ha)
            have hown := HT6.out.row
            rw [HTL.out] at hown
            have HOWN := Lib.hid hown
            have HSRC := Lib.hid (srcAt (w5.alloc (.cells #[.slice pa mm.params.length pc, .int .i64 mm.res, .slice qa2 mm.locals.length qc2, .slice ra2 mm.code.length rc2] 52)) 52 #[.slice pa mm.params.length pc, .int .i64 mm.res, .slice qa2 mm.locals.length qc2, .slice ra2 mm.code.length rc2] (mtc (mm, .slice pa mm.params.length pc, .slice qa2 mm.locals.length qc2, .slice ra2 mm.code.length rc2)) rfl 4 (by simp [mtc, Value.oneCell']) 1 1 (w5.heap.size + 1) (by simp) rfl)
            have c3 := HM5.out.I.c3
            have c3' := HM6.out.I.c3
            have hGL := HGL.out
            have hlt5 := HM5.out.size
            clear k1 k2 k3 k4 k5 k6 k7 k8 k9 ha hown
            go_wp2_with (at_builtin; go_loud (refine wpList_append_mine _ rfl _ _ 30 rfl 0 52 i1 (.agg #[.slice none 0 0, .int .i64 0, .slice none 0 0, .slice none 0 0]) 4 80 Tryz.underlying30 hi' hz0' hz1' hz2' rfl (by decide) (.slice ta g tc) g (T.flatMap mtc) rfl (HOWN.out.alloc _) 1 (mtc (mm, .slice pa mm.params.length pc, .slice qa2 mm.locals.length qc2, .slice ra2 mm.code.length rc2)) HSRC.out (by unfold maxLen; omega) (by omega) (Nat.zero_le _) ?_))
            intro v' w7 ho hg hf
            have hu7 := Upd.row (Upd.alloc _ (w5.alloc (.cells #[.slice pa mm.params.length pc, .int .i64 mm.res, .slice qa2 mm.locals.length qc2, .slice ra2 mm.code.length rc2] 52)) _) hg
            obtain ⟨na, nc, rfl⟩ := ownsRow_slice ho
            have hF7 : From (w.heap.size + 2) (.slice na (g + 1) nc) := fun j hj => by
              rcases hf j hj with h | h
              · exact HT.out.new j h
              · simp at h; omega
            have HM7 := Lib.hid (HM6.out.step hu7 (fun j hj => HT.out.new j hj))
            have hQ7 := HQ6.out.apart HOWN.out (by decide) hu7
            have hR7 := HR6.out.apart HOWN.out (by decide) (by decide) hu7
            have hT7 : MetRow (w.heap.size + 2) w7 (.slice na (g + 1) nc) (T ++ [(mm, .slice pa mm.params.length pc, .slice qa2 mm.locals.length qc2, .slice ra2 mm.code.length rc2)]) := ⟨by
              rw [List.length_append, HTL.out, List.flatMap_append]
              simpa using ho, hF7, fun x hx => by
              rcases List.mem_append.1 hx with h | h
              · exact (HT6.out.each x h).upd hu7 (fun j hj => row_ne (HT6.out.each x h).p.1 HOWN.out (by decide) j hj) (fun j hj => row_ne (HT6.out.each x h).q.1 HOWN.out (by decide) j hj) (fun j hj => row_ne (HT6.out.each x h).r.1 HOWN.out (by decide) j hj)
              · simp at h; rw [h]; exact HX6.out.upd hu7 (fun j hj => row_ne HX6.out.p.1 HOWN.out (by decide) j hj) (fun j hj => row_ne HX6.out.q.1 HOWN.out (by decide) j hj) (fun j hj => row_ne HX6.out.r.1 HOWN.out (by decide) j hj)⟩
            have HM8 := Lib.hid (HM7.out.set3 (.slice na (g + 1) nc))
            have HQ8 := Lib.hid (hQ7.stay (box_upd w7 (w.heap.size + 1) 3 (.slice na (g + 1) nc)) (fun j hj => by omega))
            have HR8 := Lib.hid (hR7.stay (box_upd w7 (w.heap.size + 1) 3 (.slice na (g + 1) nc)) (fun j hj => by omega))
            have HT8 := Lib.hid (hT7.stay (box_upd w7 (w.heap.size + 1) 3 (.slice na (g + 1) nc)) (fun j hj => by omega))
            have HL8 : Hid ((T ++ [(mm, Value.slice pa mm.params.length pc, Value.slice qa2 mm.locals.length qc2, Value.slice ra2 mm.code.length rc2)]).length = g + 1) := Lib.hid (by rw [List.length_append, HTL.out]; rfl)
            have HM9 : Hid (M = pre ((T ++ [(mm, Value.slice pa mm.params.length pc, Value.slice qa2 mm.locals.length qc2, Value.slice ra2 mm.code.length rc2)]).map (·.1)) (metsGo m' lk2 ys2)) := Lib.hid (by rw [HMM2.out, List.map_append]; rfl)
            have c7 := HM7.out.I.c3
            have f7 := HM7.out.I.fr 3
            clear ho hg hf hu7 hF7 hQ7 hR7 hT7 c3 c3'
            go_wp2_with fail
            go_roundw
            case rel => exact ⟨g + 1, m', _, _, _, na, nc, by omega, by omega, by go_num, HL8, HM8, HQ8, HR8, HT8, HM9⟩
            case measure => simp [intOf]; omega
        · obtain rfl : m = 0 := by omega
          have HME := Lib.hid (show M = (0, T.map (·.1), lk', ys') by rw [HMM.out]; simp [pre, metsGo])
          go_wp2_with fail
          refine (cTakeNumbers _ _ _ _ _ _ HM.out.K).mono ?_
          rintro e w5 ⟨x, rfl, k1, k2, k3, k4⟩
          obtain ⟨X, hX⟩ : ∃ X, X = shortP lk' ys' := ⟨_, rfl⟩
          rw [← hX] at k1 k3
          have HXE := Lib.hid hX
          obtain ⟨xa, xc, rfl⟩ := ownsRow_slice k3.1
          have hszr := HM.out.size
          have H7 := Lib.hid (HM.out.rd k1 k2)
          have Q7 := Lib.hid (HQV.out.stay k2 (fun j hj => by omega))
          have R7 := Lib.hid (HR.out.stay k2 (fun j hj => by omega))
          have T7 := Lib.hid (HT.out.stay k2 (fun j hj => by omega))
          have X7 : Hid (NNew w w5 (.slice xa X.1.length xc) X.1) := Lib.hid ⟨k3, fun j hj => by have := k4 j hj; omega⟩
          clear k1 k2 k3 k4 hX
          have H8 := Lib.hid (H7.out.set4 (.slice xa X.1.length xc))
          have Q8 := Lib.hid (Q7.out.stay (box_upd w5 (w.heap.size + 1) 4 (.slice xa X.1.length xc)) (fun j hj => by omega))
          have R8 := Lib.hid (R7.out.stay (box_upd w5 (w.heap.size + 1) 4 (.slice xa X.1.length xc)) (fun j hj => by omega))
          have T8 := Lib.hid (T7.out.stay (box_upd w5 (w.heap.size + 1) 4 (.slice xa X.1.length xc)) (fun j hj => by omega))
          have X8 := Lib.hid (X7.out.stay (box_upd w5 (w.heap.size + 1) 4 (.slice xa X.1.length xc)) (fun j hj => by omega))
          have i0 := H7.out.I.c0
          have i1 := H7.out.I.c1
          have i2 := H7.out.I.c2
          have i3 := H7.out.I.c3
          have i4 := H7.out.I.c4
          have h4 := H7.out.I.fr 4
          have j0 := H7.out.J.c0
          have j1 := H7.out.J.c1
          have j2 := H7.out.J.c2
          have j3 := H7.out.J.c3
          have j4 := H7.out.J.c4
          have g0 := H7.out.J.fr 0
          have g1 := H7.out.J.fr 1
          have g2 := H7.out.J.fr 2
          have g3 := H7.out.J.fr 3
          have g4 := H7.out.J.fr 4
          go_wp2_with fail
          obtain ⟨HF1, HF2⟩ := H8.out.fin (.string nm) (.slice qa F.1.length qc) (.slice va k vc) (.slice ta g tc) (.slice xa X.1.length xc)
          have j0 := HF1.J.c0
          have j1 := HF1.J.c1
          have j2 := HF1.J.c2
          have j3 := HF1.J.c3
          have j4 := HF1.J.c4
          refine bodyPost_ret (v := .tuple #[img5 nm (.slice qa F.1.length qc) (.slice va k vc) (.slice ta g tc) (.slice xa X.1.length xc), .int .i64 0]) (by simp only [results, Tryz.f22]; simp [go_sem, j0, j1, j2, j3, j4]) rfl ?_
          have e1 : partsP lk ys = (0, ⟨nm, F.1, Q.map (·.1), T.map (·.1), X.1⟩, X.2) := by rw [HP.out, HME.out, HNM.out, HJE.out, HXE.out]
          refine .inr ⟨by rw [e1], _, rfl, ?_⟩
          rw [e1]
          have hlt9 : ∀ j, j = w.heap.size → j < w.heap.size + 2 := fun j hj => by omega
          have Q9 := Q8.out.stay HF2 hlt9
          have R9 := (R8.out.stay HF2 hlt9).imps
          have T9 := (T8.out.stay HF2 hlt9).mets
          have X9 := X8.out.stay HF2 hlt9
          have hnm : nm.size ≤ maxLen := by
            rw [HNM.out, strOfNums_size]
            have := HNL.out
            unfold maxLen
            omega
          have img : ImgFrom (w.heap.size + 2) _ (img5 nm (.slice qa F.1.length qc) (.slice va k vc) (.slice ta g tc) (.slice xa X.1.length xc)) ⟨nm, F.1, Q.map (·.1), T.map (·.1), X.1⟩ :=
            ⟨_, _, _, _, rfl, ⟨Q9.row.ints, Q9.new⟩, R9, T9, ⟨X9.row.ints, X9.new⟩, hnm⟩
          exact ⟨HF1.K, HF1.U, img.low (by omega)⟩
end Go.Proofs.YtmbdfmgidnjgeaaGreatDoor

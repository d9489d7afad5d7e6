/- RoomFields: each applet's fields hold what was set last, whatever is set in others, and begin with 0. -/
import Derived.Test.YtdmadfahgkikkaaDoorQBk
import Derived.Test.YtdmadfahgkikkaaDoorKQe
import Derived.Test.YtdmadfahgkikkaaDoorKQh
import Derived.Test.YtdmadfahgkikkaaDoorQapk
namespace Go.Proofs.YtdmadfahgkikkaaDoor
open Go.RowKit Go.Lib Go.ChangeShapes Go.WideShapes Go.Deep
set_option linter.unusedVariables false
set_option linter.unusedSimpArgs false

/-- three applets' four fields -/
def fl (x : Nat → Int) : List (List Int) := [[x 0, x 1, x 2, x 3], [x 4, x 5, x 6, x 7], [x 8, x 9, x 10, x 11]]
def flC (x : Nat → Int) : Array Value := #[.int .i32 (x 0), .int .i32 (x 1), .int .i32 (x 2), .int .i32 (x 3), .int .i32 (x 4), .int .i32 (x 5), .int .i32 (x 6), .int .i32 (x 7), .int .i32 (x 8), .int .i32 (x 9), .int .i32 (x 10), .int .i32 (x 11)]
def flS (x : Nat → Int) (p : Nat) (n : Int) (j : Nat) : Int := if j = p then n else x j
theorem fl_get (x : Nat → Int) {a b : Nat} (ha : a < 3) (hb : b < 4) : ((fl x).getD a []).getD b 0 = x (a * 4 + b) := by
  rcases (by omega : a = 0 ∨ a = 1 ∨ a = 2) with rfl | rfl | rfl <;> rcases (by omega : b = 0 ∨ b = 1 ∨ b = 2 ∨ b = 3) with rfl | rfl | rfl | rfl <;> rfl
theorem fl_len (x : Nat → Int) {a : Nat} (ha : a < 3) : ((fl x).getD a []).length = 4 := by
  rcases (by omega : a = 0 ∨ a = 1 ∨ a = 2) with rfl | rfl | rfl <;> rfl
theorem fl_set (x : Nat → Int) {a b : Nat} (ha : a < 3) (hb : b < 4) (n : Int) : (fl x).set a (((fl x).getD a []).set b n) = fl (flS x (a * 4 + b) n) := by
  rcases (by omega : a = 0 ∨ a = 1 ∨ a = 2) with rfl | rfl | rfl <;> rcases (by omega : b = 0 ∨ b = 1 ∨ b = 2 ∨ b = 3) with rfl | rfl | rfl | rfl <;> rfl
theorem flC_get (x : Nat → Int) {j : Nat} (hj : j < 12) : (flC x)[j]? = some (.int .i32 (x j)) := by
  rcases (by omega : j = 0 ∨ j = 1 ∨ j = 2 ∨ j = 3 ∨ j = 4 ∨ j = 5 ∨ j = 6 ∨ j = 7 ∨ j = 8 ∨ j = 9 ∨ j = 10 ∨ j = 11) with rfl | rfl | rfl | rfl | rfl | rfl | rfl | rfl | rfl | rfl | rfl | rfl <;> rfl
theorem flC_set (x : Nat → Int) {j : Nat} (hj : j < 12) (n : Int) : (flC x).setIfInBounds j (.int .i32 n) = flC (flS x j n) := by
  rcases (by omega : j = 0 ∨ j = 1 ∨ j = 2 ∨ j = 3 ∨ j = 4 ∨ j = 5 ∨ j = 6 ∨ j = 7 ∨ j = 8 ∨ j = 9 ∨ j = 10 ∨ j = 11) with rfl | rfl | rfl | rfl | rfl | rfl | rfl | rfl | rfl | rfl | rfl | rfl <;> rfl
/-- the law's state: the room, what is wanted of its fields, nothing of W turned -/
structure Fs (W : World) (rb wb : Nat) (c : Nat → Nat) (w : World) (F : List (List Int)) (x : Nat → Int) : Prop where
  rm : ∃ M Ps, M.fields = F ∧ RmI c w rb M Ps
  up : Upd (fun _ => False) W w
  cz : ∀ k, k < W.heap.size → c k = 0
  wt : w.heap[wb]? = some (.cells (flC x) 80 (0, 0))
  cw : c wb = 9
  wl : W.heap.size ≤ wb
theorem Fs.cell {W : World} {rb wb : Nat} {c : Nat → Nat} {w : World} {F : List (List Int)} {x : Nat → Int} (h : Fs W rb wb c w F x) {j : Nat} (hj : j < 12) : w.cell? ⟨wb, j, none⟩ = some (.int .i32 (x j)) ∧ w.frozen? ⟨wb, j, none⟩ = false := by
  refine ⟨?_, ?_⟩
  · simp [World.cell?, h.wt, flC_get x hj]
  · simp [World.frozen?, h.wt]
theorem Fs.ext {T : Nat → Prop} {W : World} {rb wb : Nat} {c c' : Nat → Nat} {w w' : World} {F F' : List (List Int)} {x : Nat → Int} (h : Fs W rb wb c w F x) (hx : Ext T c w c' w') (h0 : ¬ T 0) (h9 : ¬ T 9) (hr : ∃ M Ps, M.fields = F' ∧ RmI c' w' rb M Ps) : Fs W rb wb c' w' F' x := by
  obtain ⟨h1, h2⟩ := hx.upW h.up h.cz h0
  exact ⟨hr, h1, h2, hx.blk h.wt (by rw [h.cw]; exact h9), hx.col (Array.getElem?_eq_some_iff.1 h.wt).1 h.cw, h.wl⟩
/-- what is wanted is set -/
theorem Fs.want {W : World} {rb wb : Nat} {c : Nat → Nat} {w : World} {F : List (List Int)} {x : Nat → Int} (h : Fs W rb wb c w F x) {j : Nat} (hj : j < 12) (n : Int) : Fs W rb wb c (w.setCell ⟨wb, j, none⟩ (.int .i32 n)) F (flS x j n) := by
  have hu : Upd (fun q => q = wb) w (w.setCell ⟨wb, j, none⟩ (.int .i32 n)) := hpS (Upd.refl _ _) rfl
  have E : Ext (fun i => i = 9) c w c (w.setCell ⟨wb, j, none⟩ (.int .i32 n)) := ⟨fun _ _ => rfl, hu.mono (fun k hk _ => by rw [hk]; exact h.cw)⟩
  obtain ⟨h1, h2⟩ := E.upW h.up h.cz (by omega)
  obtain ⟨M, Ps, hM, hR⟩ := h.rm
  refine ⟨⟨M, Ps, hM, hR.ext E (fun i hi => by simp only [RmC] at hi; omega) (by omega)⟩, h1, h2, ?_, h.cw, h.wl⟩
  simp [World.setCell, Array.getElem?_modify, h.wt, ← flC_set x hj]
theorem Fs.set {W : World} {rb wb : Nat} {c : Nat → Nat} {w w' : World} {x : Nat → Int} (h : Fs W rb wb c w (fl x) x) {M : RmM} {Ps : List PI} {a b : Nat} (ha : a < 3) (hb : b < 4) (hM : M.fields = fl x) (hR : RmI c w rb M Ps) (n : Int) (hx : Ext (FT a) c w c w') (hr : Rm c w' rb (M.setF a b n)) :
    Fs W rb wb c w' (fl (flS x (a * 4 + b) n)) x :=
  h.ext hx (ft_ne (by omega)) (ft_ne (by omega)) ⟨M.setF a b n, Ps, by simp only [RmM.setF]; rw [hM]; exact fl_set x ha hb n, hR.turn hr rfl (by simp [RmM.setF]) hx (ft_ne (by omega))⟩
set_option maxRecDepth 100000 in
set_option maxHeartbeats 4000000 in
theorem roomFields_walk (W : World) (lv : Value) (L : List St12) (hl : Qs12At W lv L) (hB : Bins ⟨W, fun _ => False⟩) : Calls Tryd.prog 5 #[lv] W fun e w' => e = .returned (.bool true) ∧ Upd (fun _ => False) W w' := by
  have HN := Lib.hid (rNewRoom zero0 100 W (by omega) (by omega))
  have HL := Lib.hid hl
  have HBN := Lib.hid hB
  obtain ⟨la, lc, rfl⟩ := hl.slice
  clear hl hB
  go_enter Tryd.func5, Tryd.ntmps5
  go_wp2_with fail
  refine HN.out.mono ?_
  rintro e w1 ⟨rb, c1, rfl, hx, hr⟩
  obtain ⟨hu1, hc1⟩ := hx.upW (Upd.refl _ W) (fun _ _ => rfl) (fun h => h)
  go_wp2_with fail
  refine (known12 w1).mono ?_
  rintro e w2 ⟨rfl, hu2⟩
  have HR2 := Lib.hid (hr.quiet hu2)
  have HU2 := Lib.hid (hu1.trans hu2 (fun _ h _ => h))
  have HC2 := Lib.hid hc1
  clear hx hr hu1 hc1 HN hu2
  go_wp2_with fail
  obtain ⟨w3, hw3⟩ : ∃ w3, w3 = w2.alloc (.cells (flC (fun _ => 0)) 80) := ⟨_, rfl⟩
  have hw3' := hw3
  simp only [flC] at hw3'
  rw [← hw3']
  have hF0 : Fs W rb w2.heap.size (paint c1 w2 9) w3 (List.replicate 0 [0, 0, 0, 0]) (fun _ => 0) := by
    have hu3 : Upd (fun _ => False) w2 w3 := by rw [hw3]; exact Upd.alloc _ _ _
    have E := Ext.made None0 9 (c := c1) hu3
    obtain ⟨h1, h2⟩ := E.upW HU2.out HC2.out (fun h => h)
    exact ⟨⟨noRoom 100, [], rfl, RmI.of0 (HR2.out.ext E (fun _ _ h => h)) rfl⟩, h1, h2, by rw [hw3]; exact hpTop w2 _ _ rfl, paint_new c1 w2 9 (Nat.le_refl _), HU2.out.size⟩
  obtain ⟨wb, hwb⟩ : ∃ wb, wb = w2.heap.size := ⟨_, rfl⟩
  rw [← hwb] at hF0 ⊢
  have HF0 := Lib.hid hF0
  clear hw3 hw3' hF0 hwb HR2 HU2 HC2
  generalize paint c1 w2 9 = cA at *
  go_loopw [6, 7, 8] (fun t _ _ wr => ∃ (k : Nat) (c : Nat → Nat), k ≤ 3 ∧ t = .int .i64 (k : Nat) ∧ Hid (Fs W rb wb c wr (List.replicate k [0, 0, 0, 0]) (fun _ => 0))) (fun t _ _ _ => 3 - (intOf t).toNat)
  case atStart => exact ⟨0, cA, Nat.zero_le _, rfl, HF0⟩
  case round =>
    obtain ⟨k, c, hk, rfl, HF⟩ := hrel
    by_cases hlt : k < 3
    · have t1 : decide ((k : Int) < 3) = true := by simp; omega
      have HAP := Lib.hid (hAppletN wr k (bins_up HBN.out HF.out.up))
      go_wp2_with fail
      refine HAP.out.mono ?_
      rintro e w4 ⟨v, I, rfl, hI, hS, h4, hu⟩
      obtain ⟨M, Ps, hM, hR⟩ := HF.out.rm
      have hx : Ext None0 c wr c w4 := Ext.quiet c hu
      have HF4 := Lib.hid (HF.out.ext hx (fun h => h) (fun h => h) (F' := List.replicate k [0, 0, 0, 0]) ⟨M, Ps, hM, hR.ext hx (fun _ _ h => h) (fun h => h)⟩)
      have hn : M.fields.length = k := by rw [hM]; simp
      have HAD := Lib.hid (rAdd (hR.ext hx (fun _ _ h => h) (fun h => h)) (by omega) v I hI hS)
      rw [hn] at HAD
      have H4 := Lib.hid h4
      have HM := Lib.hid hM
      clear hI hS h4 hu hx hR hM hn HAP
      go_wp2_with fail
      refine HAD.out.mono ?_
      rintro e w5 ⟨rfl, c5, P, -, hx, hR⟩
      have HF5 : Hid (Fs W rb wb c5 w5 (List.replicate (k + 1) [0, 0, 0, 0]) (fun _ => 0)) := Lib.hid (HF4.out.ext hx (by simp [TA]) (by simp [TA]) ⟨_, _, by simp only [RmM.addI]; rw [HM.out, H4.out]; exact (List.replicate_succ' (n := k) (a := [(0 : Int), 0, 0, 0])).symm, hR⟩)
      clear hx hR HAD
      go_wp2_with fail
      go_roundw
      case rel => exact ⟨k + 1, c5, by omega, by go_num, HF5⟩
      case measure => simp [intOf]; omega
    · have hke : k = 3 := by omega
      subst hke
      have HFA : Hid (Fs W rb wb c wr (fl (fun _ => 0)) (fun _ => 0)) := HF
      go_wp2_with fail
      go_loopw [9, 10, 11, 12, 13, 14, 15] (fun t _ _ _ _ _ _ wr => ∃ (k : Nat) (c : Nat → Nat) (x : Nat → Int), k ≤ L.length ∧ k ≤ 50 ∧ t = .int .i64 (k : Nat) ∧ Hid (Fs W rb wb c wr (fl x) x)) (fun t _ _ _ _ _ _ _ => L.length - (intOf t).toNat)
      case atStart => exact ⟨0, c, _, Nat.zero_le _, by omega, rfl, HFA⟩
      case round =>
        clear HFA HF HBN HF0
        obtain ⟨k, c, x, hk, hk2, rfl, HF⟩ := hrel
        obtain ⟨wo, rfl⟩ : ∃ wo, wo = wr := ⟨wr, rfl⟩
        by_cases hlt : k < L.length ∧ k < 50
        · have hb : Below W.heap.size W wo := HF.out.up.below (Nat.le_refl _) (fun _ h => h.elim)
          obtain ⟨lg, loff, rfl, -, hlg, hst⟩ := HL.out.at hlt.1
          have hst2 := hst.below hb
          obtain ⟨-, -, -, -, -, -, z3, -⟩ := hst
          obtain ⟨va, vp, vq, q0, q1, q2, q3, q4, q5, q6, -, -, -, -⟩ := hst2
          obtain ⟨hl1, hl2⟩ := hlt
          generalize (L.getD k default).app = s1 at *
          generalize (L.getD k default).a = s2 at *
          generalize (L.getD k default).b = s3 at *
          have t1 : decide ((k : Int) < (L.length : Int)) = true := by simp; omega
          have t2 : decide ((k : Int) < 50) = true := by simp; omega
          have hk0 : (0 : Int) ≤ (k : Int) := Int.natCast_nonneg _
          have hk1 : (k : Int) < (L.length : Int) := by omega
          obtain ⟨a, ha⟩ : ∃ a : Nat, s1 % 3 = (a : Int) := ⟨(s1 % 3).toNat, by omega⟩
          obtain ⟨b, hb2⟩ : ∃ b : Nat, s2 % 4 = (b : Int) := ⟨(s2 % 4).toNat, by omega⟩
          have ha3 : a < 3 := by omega
          have hb4 : b < 4 := by omega
          have HQ3 : Hid (∀ u, Upd (fun _ => False) W u → u.cell? ⟨lg, loff + k * 7 + 3, none⟩ = some (.int .i64 s3)) := Lib.hid (fun u hu => (hu.cell (p := ⟨lg, loff + k * 7 + 3, none⟩) hlg (fun h => h)).trans z3)
          obtain ⟨M, Ps, hM, hR⟩ := HF.out.rm
          have HSF := Lib.hid (rSetField hR.rm (i := a) (k := b) (by rw [hM]; exact ha3) (by rw [hM, fl_len x ha3]; exact hb4) (wrap32 s3))
          have HM := Lib.hid hM
          have HR := Lib.hid hR
          have HA3 := Lib.hid ha3
          have HB4 := Lib.hid hb4
          clear hb q0 q4 q5 q6 z3 hM hR
          go_wp2_with fail
          refine (hPick s1 3 wo (by omega) (by omega)).mono ?_
          rintro e w' ⟨rfl, rfl⟩
          rw [ha]
          go_wp2_with fail
          refine (hPick s2 4 wo (by omega) (by omega)).mono ?_
          rintro e w' ⟨rfl, rfl⟩
          rw [hb2]
          go_wp2_with fail
          clear q1 q2 q3
          refine HSF.out.mono ?_
          rintro e w5 ⟨rfl, hx, hr⟩
          have HF5 := Lib.hid (HF.out.set HA3.out HB4.out HM.out HR.out (wrap32 s3) hx hr)
          have q3 := HQ3.out w5 HF5.out.up
          obtain ⟨k1, k2⟩ := HF5.out.cell (show a * 4 + b < 12 by omega)
          have ha0 : (0 : Int) ≤ (a : Int) := Int.natCast_nonneg _
          have ha1 : (a : Int) < 3 := by omega
          have hb0 : (0 : Int) ≤ (b : Int) := Int.natCast_nonneg _
          have hb1 : (b : Int) < 4 := by omega
          clear hx hr HSF
          go_upto_region 10 with fail
          have hHeld : (fun w' : World => w'.cell? ⟨lg, loff + k * 7 + 3, none⟩ = some (.int .i64 s3)) w5.drew := HQ3.out _ (HF5.out.up.trans (Upd.drew _ _) (fun _ h _ => h))
          refine wp_region_last (S := (fun w' : World => w'.cell? ⟨lg, loff + k * 7 + 3, none⟩ = some (.int .i64 s3))) 10 _ (by kernel_rfl) (by kernel_rfl) rfl ?_
          change wpHL _ _ _ _ _ _ _ _ _ _ w5.drew
          refine wpHL_take (i := 0) (v := ?_) rfl (by kernel_rfl) (fun _ _ _ h => h) hHeld (Or.inl ⟨by rfl, ?_⟩) ?_
          rotate_left
          · (intro w y0; go_simp; try with_reducible rfl)
          try simp only [Act.put, List.getElem_toArray, List.getElem_cons_succ, List.getElem_cons_zero, List.setIfInBounds_toArray, List.set_cons_zero, List.set_cons_succ]
          refine wpHL_take (i := 1) (v := ?_) rfl (by kernel_rfl) (fun _ _ _ h => h) hHeld (Or.inl ⟨by rfl, ?_⟩) ?_
          rotate_left
          · (intro w y0; go_simp; try with_reducible rfl)
          try simp only [Act.put, List.getElem_toArray, List.getElem_cons_succ, List.getElem_cons_zero, List.setIfInBounds_toArray, List.set_cons_zero, List.set_cons_succ]
          refine wpHL_take (i := 2) (v := ?_) rfl (by kernel_rfl) (fun _ _ _ h => h) hHeld (Or.inl ⟨by rfl, ?_⟩) ?_
          rotate_left
          · (intro w y0; go_simp; try with_reducible rfl)
          try simp only [Act.put, List.getElem_toArray, List.getElem_cons_succ, List.getElem_cons_zero, List.setIfInBounds_toArray, List.set_cons_zero, List.set_cons_succ]
          refine wpHL_take (i := 3) (v := ?_) rfl (by kernel_rfl) (fun _ _ _ h => h) hHeld (Or.inl ⟨by rfl, ?_⟩) ?_
          rotate_left
          · (intro w y0; go_simp; try with_reducible rfl)
          try simp only [Act.put, List.getElem_toArray, List.getElem_cons_succ, List.getElem_cons_zero, List.setIfInBounds_toArray, List.set_cons_zero, List.set_cons_succ]
          refine wpHL_take (i := 4) (v := ?_) rfl (by kernel_rfl) (fun _ _ _ h => h) hHeld (Or.inl ⟨by rfl, ?_⟩) ?_
          rotate_left
          · (intro w y0; go_simp; try with_reducible rfl)
          try simp only [Act.put, List.getElem_toArray, List.getElem_cons_succ, List.getElem_cons_zero, List.setIfInBounds_toArray, List.set_cons_zero, List.set_cons_succ]
          refine wpHL_take (i := 5) (v := ?_) rfl (by kernel_rfl) (fun _ _ _ h => h) hHeld (Or.inl ⟨by rfl, ?_⟩) ?_
          rotate_left
          · (intro w y0; go_simp; try with_reducible rfl)
          try simp only [Act.put, List.getElem_toArray, List.getElem_cons_succ, List.getElem_cons_zero, List.setIfInBounds_toArray, List.set_cons_zero, List.set_cons_succ]
          refine wpHL_take (i := 6) (v := ?_) rfl (by kernel_rfl) (fun _ _ _ h => h) hHeld (Or.inl ⟨by rfl, ?_⟩) ?_
          rotate_left
          · (intro w y0; go_simp; try with_reducible rfl)
          try simp only [Act.put, List.getElem_toArray, List.getElem_cons_succ, List.getElem_cons_zero, List.setIfInBounds_toArray, List.set_cons_zero, List.set_cons_succ]
          refine wpHL_take (i := 7) (v := ?_) rfl (by kernel_rfl) (fun _ _ _ h => h) hHeld (Or.inl ⟨by rfl, ?_⟩) ?_
          rotate_left
          · (intro w y0; go_simp; try with_reducible rfl)
          try simp only [Act.put, List.getElem_toArray, List.getElem_cons_succ, List.getElem_cons_zero, List.setIfInBounds_toArray, List.set_cons_zero, List.set_cons_succ]
          refine wpHL_take (i := 8) (v := ?_) rfl (by kernel_rfl) (fun _ _ _ h => h) hHeld (Or.inl ⟨by rfl, ?_⟩) ?_
          rotate_left
          · (intro w y0; go_simp; try with_reducible rfl)
          try simp only [Act.put, List.getElem_toArray, List.getElem_cons_succ, List.getElem_cons_zero, List.setIfInBounds_toArray, List.set_cons_zero, List.set_cons_succ]
          refine wpHL_take (i := 9) (v := ?_) rfl (by kernel_rfl) (fun _ _ _ h => h) hHeld (Or.inl ⟨by rfl, ?_⟩) ?_
          rotate_left
          · (intro w y0; go_simp; try with_reducible rfl)
          try simp only [Act.put, List.getElem_toArray, List.getElem_cons_succ, List.getElem_cons_zero, List.setIfInBounds_toArray, List.set_cons_zero, List.set_cons_succ]
          refine wpHL_last (by kernel_rfl) ?_
          go_wp2_with fail
          obtain ⟨w6, hw6⟩ : ∃ w6, w6 = (w5.setCell ⟨wb, a * 4 + b, none⟩ (.int .i32 (wrap32 s3))).drew := ⟨_, rfl⟩
          rw [← hw6]
          have hF6 : Fs W rb wb c w6 (fl (flS x (a * 4 + b) (wrap32 s3))) (flS x (a * 4 + b) (wrap32 s3)) := by
            have h1 := HF5.out.want (show a * 4 + b < 12 by omega) (wrap32 s3)
            obtain ⟨M5, P5, hM5, hR5⟩ := h1.rm
            have hxq := Ext.quiet c (Upd.drew (fun _ => False) (w5.setCell ⟨wb, a * 4 + b, none⟩ (.int .i32 (wrap32 s3))))
            rw [hw6]
            exact h1.ext hxq (fun h => h) (fun h => h) ⟨M5, P5, hM5, hR5.ext hxq (fun _ _ h => h) (fun h => h)⟩
          have HF6 := Lib.hid hF6
          clear hw6 hF6 k1 k2 q3 hHeld HF5 HQ3 ha0 ha1 hb0 hb1 ha hb2 ha3 hb4 HA3 HB4 HM HR HF
          generalize flS x (a * 4 + b) (wrap32 s3) = y at *
          go_loop [12, 13, 14, 15] (fun t _ _ _ => ∃ a : Nat, a ≤ 3 ∧ t = .int .i64 (a : Nat)) (fun t _ _ _ => 3 - (intOf t).toNat)
          case atStart => exact ⟨0, Nat.zero_le _, rfl⟩
          case round =>
            obtain ⟨i, hi, rfl⟩ := hrel
            by_cases hi3 : i < 3
            · have t3 : decide ((i : Int) < 3) = true := by simp; omega
              go_wp2_with fail
              go_loop [13, 14, 15] (fun t _ _ => ∃ j : Nat, j ≤ 4 ∧ t = .int .i64 (j : Nat)) (fun t _ _ => 4 - (intOf t).toNat)
              case atStart => exact ⟨0, Nat.zero_le _, rfl⟩
              case round =>
                obtain ⟨j, hj, rfl⟩ := hrel
                by_cases hj4 : j < 4
                · have t4 : decide ((j : Int) < 4) = true := by simp; omega
                  obtain ⟨M, Ps, hM, hR⟩ := HF6.out.rm
                  have HG := Lib.hid (rField hR.rm (i := i) (k := j) (by rw [hM]; exact hi3) (by rw [hM, fl_len y hi3]; exact hj4))
                  rw [hM, fl_get y hi3 hj4] at HG
                  obtain ⟨g0, -⟩ := HF6.out.cell (show i * 4 + j < 12 by omega)
                  have hi0 : (0 : Int) ≤ (i : Int) := Int.natCast_nonneg _
                  have hi1 : (i : Int) < 3 := by omega
                  have hj0 : (0 : Int) ≤ (j : Int) := Int.natCast_nonneg _
                  have hj1 : (j : Int) < 4 := by omega
                  clear hM hR
                  generalize y (i * 4 + j) = z at *
                  go_wp2_with fail
                  refine HG.out.mono ?_
                  rintro e w' ⟨rfl, rfl⟩
                  go_wp2_with fail
                  go_round
                  case rel => exact ⟨j + 1, by omega, by go_num⟩
                  case measure => simp [intOf]; omega
                · have hje : j = 4 := by omega
                  subst hje
                  go_wp2_with fail
                  go_round
                  case rel => exact ⟨i + 1, by omega, by go_num⟩
                  case measure => simp [intOf]; omega
            · have hie : i = 3 := by omega
              subst hie
              go_wp2_with fail
              go_roundw
              case rel => exact ⟨k + 1, c, y, by omega, by omega, by go_num, HF6⟩
              case measure => simp [intOf]; omega
        · obtain ⟨M, Ps, hM, hR⟩ := HF.out.rm
          have hn : M.fields.length = 3 := by rw [hM]; rfl
          have HG1 := Lib.hid (rField_of 3 0 (rFieldA hR.rm 3 0 (by omega) (by rw [hn]; decide)))
          have HG2 := Lib.hid (rField_of (0 : Nat) 4 (rFieldK hR.rm (i := 0) (by omega) 4 (.inr (by rw [hM]; exact Int.le_refl 4))))
          have HG3 := Lib.hid (rField_of (0 : Nat) (-1) (rFieldK hR.rm (i := 0) (by omega) (-1) (.inl (by decide))))
          have HIM := Lib.hid (rImage_no hR.rm 3 (by omega) (by rw [hn]; decide))
          have HCN := Lib.hid (fun u (hu : Upd (fun _ => False) wo u) => rCount (hR.rm.quiet hu))
          rw [hn] at HCN
          have HUP := Lib.hid HF.out.up
          have t1 : (decide ((k : Int) < (L.length : Int)) = false) ∨ (decide ((k : Int) < (L.length : Int)) = true ∧ decide ((k : Int) < 50) = false) := by simp only [decide_eq_false_iff_not, decide_eq_true_eq]; omega
          clear hM hR hn HF HL
          rcases t1 with t1 | ⟨t1, t2⟩
          · go_wp2_with fail
            all_goals
              refine HG1.out.mono ?_
              rintro e w' ⟨rfl, rfl⟩
              go_wp2_with fail
              refine HG2.out.mono ?_
              rintro e w' ⟨rfl, rfl⟩
              go_wp2_with fail
              refine HG3.out.mono ?_
              rintro e w' ⟨rfl, rfl⟩
              go_wp2_with fail
              refine HIM.out.mono ?_
              rintro e w7 ⟨rfl, hu⟩
              have HU7 := Lib.hid hu
              clear hu
              simp only [noImg]
              go_wp2_with fail
              refine (HCN.out _ (HU7.out.trans (Upd.alloc _ _ _) (fun _ h _ => h))).mono ?_
              rintro e w' ⟨rfl, rfl⟩
              go_wp2_with fail
              go_ret
              exact ⟨rfl, HUP.out.trans (HU7.out.trans (Upd.alloc _ _ _) (fun _ h _ => h)) (fun _ h _ => h)⟩
          · go_wp2_with fail
            all_goals
              refine HG1.out.mono ?_
              rintro e w' ⟨rfl, rfl⟩
              go_wp2_with fail
              refine HG2.out.mono ?_
              rintro e w' ⟨rfl, rfl⟩
              go_wp2_with fail
              refine HG3.out.mono ?_
              rintro e w' ⟨rfl, rfl⟩
              go_wp2_with fail
              refine HIM.out.mono ?_
              rintro e w7 ⟨rfl, hu⟩
              have HU7 := Lib.hid hu
              clear hu
              simp only [noImg]
              go_wp2_with fail
              refine (HCN.out _ (HU7.out.trans (Upd.alloc _ _ _) (fun _ h _ => h))).mono ?_
              rintro e w' ⟨rfl, rfl⟩
              go_wp2_with fail
              go_ret
              exact ⟨rfl, HUP.out.trans (HU7.out.trans (Upd.alloc _ _ _) (fun _ h _ => h)) (fun _ h _ => h)⟩
end Go.Proofs.YtdmadfahgkikkaaDoor

/- Chapter 4's example, as each law asks it first. -/
import Derived.Test.YtpangghcfmgidaaDoorIy
import Derived.Deep.RegionWith
namespace Go.Proofs.YtpangghcfmgidaaDoor
open Go.RowKit Go.Lib
set_option linter.unusedVariables false

def pinS : ByteArray := { data := #[112, 105, 110, 45, 49] }
/-- the applet of the example -/
def smallM : ImgM := ⟨pinS, [], [], [⟨[], 0, [], [⟨39, 0, 0⟩]⟩], []⟩
def smallL : List Int := [84, 65, 67, 73, 1, 5, 112, 105, 110, 45, 49, 0, 0, 1, 0, 0, 0, 1, 39, 0]
theorem small_right : imgB insB smallM = true := by kernel_rfl
theorem small_lay : imgL smallM = smallL := by kernel_rfl
theorem small_read : readP smallL = (0, smallM) := by kernel_rfl
theorem small_str : strOfNums (smallL.take 11) = { data := #[84, 65, 67, 73, 1, 5, 112, 105, 110, 45, 49] } := by kernel_rfl

theorem ints_nil (w : World) : Ints w (.slice none 0 0) [] := ⟨Sl.nil _ _ _, by simp⟩
/-- one instruction, one method with it, each in a block of its own -/
theorem small_mem (w : World) (e1 e2 : TypeId) (n : Nat) (hn : n = w.heap.size) : Mets ((w.alloc (.cells #[.int .i64 39, .int .i64 0, .int .i64 0] e1)).alloc (.cells #[.slice none 0 0, .int .i64 0, .slice none 0 0, .slice (some ⟨n, 0, none⟩) 1 1] e2)) (.slice (some ⟨n + 1, 0, none⟩) 1 1) smallM.methods := by
  subst hn
  have hi : Inss (w.alloc (.cells #[.int .i64 39, .int .i64 0, .int .i64 0] e1)) (.slice (some ⟨w.heap.size, 0, none⟩) 1 1) [⟨39, 0, 0⟩] := by
    refine ⟨(Sl.lit w e1 (0, 0) _ 3 1 1 (by decide) (Nat.le_refl _) (by decide)).congr (fun i hi j hj => ?_), by simp [wi64]⟩
    obtain rfl : i = 0 := by omega
    match j, hj with
    | 0, _ => rfl
    | 1, _ => rfl
    | 2, _ => rfl
  have hb := (upd_below (Upd.alloc (fun _ => False) (w.alloc (.cells #[.int .i64 39, .int .i64 0, .int .i64 0] e1)) (.cells #[.slice none 0 0, .int .i64 0, .slice none 0 0, .slice (some ⟨w.heap.size, 0, none⟩) 1 1] e2)))
  refine ⟨fun _ => .slice none 0 0, fun _ => .slice none 0 0, fun _ => .slice (some ⟨w.heap.size, 0, none⟩) 1 1, ?_, fun i hi2 => ?_, by simp [smallM, wi64]⟩
  · have := Sl.lit (w.alloc (.cells #[.int .i64 39, .int .i64 0, .int .i64 0] e1)) e2 (0, 0) #[.slice none 0 0, .int .i64 0, .slice none 0 0, .slice (some ⟨w.heap.size, 0, none⟩) 1 1] 4 1 1 (Nat.le_refl _) (Nat.le_refl _) (by decide)
    rw [show (w.alloc (.cells #[.int .i64 39, .int .i64 0, .int .i64 0] e1)).heap.size = w.heap.size + 1 by simp] at this
    refine this.congr (fun i hi j hj => ?_)
    obtain rfl : i = 0 := by omega
    match j, hj with
    | 0, _ => rfl
    | 1, _ => rfl
    | 2, _ => rfl
    | 3, _ => rfl
  · obtain rfl : i = 0 := by
      have : smallM.methods.length = 1 := rfl
      omega
    exact ⟨ints_nil _, ints_nil _, hi.later hb⟩

theorem cSmall (w : World) : Calls Tryd.prog 29 #[] w fun e w' => ∃ fa ia ma xa fc ic mc xc, e = .returned (img5 pinS (.slice fa 0 fc) (.slice ia 0 ic) (.slice ma 1 mc) (.slice xa 0 xc)) ∧ Img w' (img5 pinS (.slice fa 0 fc) (.slice ia 0 ic) (.slice ma 1 mc) (.slice xa 0 xc)) smallM ∧ Upd (fun _ => False) w w' := by
  go_enter Tryd.func29, Tryd.ntmps29
  go_wp2_with fail
  refine bodyPost_ret (v := img5 pinS (.slice none 0 0) (.slice none 0 0) (.slice (some ⟨w.heap.size + 1 + 1, 0, none⟩) 1 1) (.slice none 0 0)) (by simp [results, Tryd.f29, go_sem, pinS]) rfl ?_
  have hm := small_mem (w.alloc (.cells #[.string { data := #[112, 105, 110, 45, 49] }, .slice none 0 0, .slice none 0 0, .slice (some ⟨w.heap.size + 1 + 1, 0, none⟩) 1 1, .slice none 0 0] 27)) 46 49 (w.heap.size + 1) (by simp)
  refine ⟨_, _, _, _, _, _, _, _, rfl, ⟨_, _, _, _, rfl, ints_nil _, ⟨fun _ => .slice none 0 0, Sl.nil _ _ _, by simp [smallM], by simp [smallM]⟩, hm, ints_nil _, by decide⟩, ((Upd.alloc _ w _).trans (Upd.alloc _ _ _) (fun _ h _ => h)).trans (Upd.alloc _ _ _) (fun _ h _ => h)⟩

theorem keep_cells {w w' : World} (hu : Upd (fun _ => False) w w') {p : Addr} {v : Value} (h : w.cell? p = some v) : w'.cell? p = some v := (hu.cell (World.block_lt_of_cell? _ _ h) (fun h => h)).trans h

set_option maxRecDepth 100000 in
set_option maxHeartbeats 4000000 in
theorem known4 (w : World) : Calls Tryd.prog 9 #[] w fun e w' => e = .returned (.bool true) ∧ Upd (fun _ => False) w w' := by
  go_enter Tryd.func9, Tryd.ntmps9
  go_wp2_with fail
  refine (cSmall _).mono ?_
  rintro e w1 ⟨fa, ia, ma, xa, fc, ic, mc, xc, rfl, hI, hu⟩
  have HI := Lib.hid hI
  have HU := Lib.hid hu
  clear hI hu
  go_wp2_with fail
  refine (cImgLay _ _ smallM HI.out small_right).mono ?_
  rw [small_lay]
  rintro e w2 ⟨x, rfl, hN⟩
  obtain ⟨a2, n2, c2, rfl, hn2⟩ : ∃ a n c, x = .slice a n c ∧ n = 20 := by obtain ⟨a, c, h⟩ := ownsRow_slice hN.1; exact ⟨a, _, c, h, rfl⟩
  have hv := hN.vw (by decide)
  have hc2 : n2 ≤ c2 ∧ c2 ≤ maxLen := by
    obtain ⟨a, c, h1, h2, h3⟩ := hv.slice
    simp at h1
    obtain ⟨_, h4, rfl⟩ := h1
    rw [h4]
    exact ⟨h2, h3⟩
  obtain ⟨hc2, hc3⟩ := hc2
  have h11 : (11 : Int) < (n2 : Int) := by omega
  have h12 : 11 ≤ c2 := by omega
  have h13 : (11 : Int) ≤ (c2 : Int) := by omega
  subst hn2
  unfold maxLen at hc3
  have HV := Lib.hid hv
  have HU2 := Lib.hid (HU.out.trans hN.2.1 (fun _ h _ => h))
  clear hN hv
  go_wp2_with fail
  refine (cImgRead _ _ smallL HV.out).mono ?_
  rw [small_read]
  rintro e w3 ⟨r, rfl, hI, hu⟩
  obtain ⟨f, i, m, y, hr, hf, hi, hm, hy, hsz⟩ := hI
  replace hr : r = img5 pinS f i m y := hr
  subst hr
  obtain ⟨ga, gc, rfl⟩ : ∃ a c, f = .slice a 0 c := by obtain ⟨a, c, h, _⟩ := hf.slice; exact ⟨a, c, h⟩
  obtain ⟨ja, jc, rfl⟩ : ∃ a c, i = .slice a 0 c := by obtain ⟨a, c, h, _⟩ := hi.slice; exact ⟨a, c, h⟩
  obtain ⟨na, nc, rfl⟩ : ∃ a c, m = .slice a 1 c := by obtain ⟨a, c, h, _⟩ := hm.slice; exact ⟨a, c, h⟩
  obtain ⟨ya, yc, rfl⟩ : ∃ a c, y = .slice a 0 c := by obtain ⟨a, c, h, _⟩ := hy.slice; exact ⟨a, c, h⟩
  have ha := (Upd.alloc (fun _ => False) w3 (.cells #[.string pinS, .slice ga 0 gc, .slice ja 0 jc, .slice na 1 nc, .slice ya 0 yc] 27)).trans (Upd.drew (fun _ => False) _) (fun _ h _ => h)
  have HU3 := Lib.hid ((HU2.out.trans hu (fun _ h _ => h)).trans ha (fun _ h _ => h))
  have HI4 : Hid (Img _ (img5 pinS (.slice ga 0 gc) (.slice ja 0 jc) (.slice na 1 nc) (.slice ya 0 yc)) smallM) := Lib.hid ((show Img w3 (img5 pinS (.slice ga 0 gc) (.slice ja 0 jc) (.slice na 1 nc) (.slice ya 0 yc)) smallM from ⟨_, _, _, _, rfl, hf, hi, hm, hy, hsz⟩).later (upd_below ha))
  have hs := str3 (((HV.out.upd hu (fun _ _ h => h)).upd ha (fun _ _ h => h)).take rfl 11 (by decide))
  rw [small_str] at hs
  have HB4 : Hid (Is5 27 (w3.alloc (.cells #[.string pinS, .slice ga 0 gc, .slice ja 0 jc, .slice na 1 nc, .slice ya 0 yc] 27)).drew w3.heap.size (.string pinS) (.slice ga 0 gc) (.slice ja 0 jc) (.slice na 1 nc) (.slice ya 0 yc)) := Lib.hid (Is5.upd (cells5_new (w := w3) (t := 27)) (Upd.drew (fun _ => False) _) (fun h => h))
  have HP : Hid (pinS = { data := #[112, 105, 110, 45, 49] }) := Lib.hid rfl
  clear hf hi hm hy hsz hu ha
  go_wp2_with fail
  refine wp_region_any (by kernel_rfl) ?_
  try (change wpAny _ _ _ _ _ _ _ (World.drew _))
  refine wpAny_ready (rs := [0]) (by kernel_rfl) (by simp) ?_
  refine AllReady.cons rfl (fun K hK => ?_) AllReady.nil
  go_simp
  refine hK _ _ ?_
  clear hK K
  refine wpAny_ready (rs := [1]) (by kernel_rfl) (by simp) ?_
  refine AllReady.cons rfl (fun K hK => ?_) AllReady.nil
  go_simp
  refine hK _ _ ?_
  clear hK K
  refine wpAny_ready (rs := [2]) (by kernel_rfl) (by simp) ?_
  refine AllReady.cons rfl (fun K hK => ?_) AllReady.nil
  go_simp
  refine hK _ _ ?_
  clear hK K
  refine wpAny_ready (rs := [3]) (by kernel_rfl) (by simp) ?_
  refine AllReady.cons rfl (fun K hK => ?_) AllReady.nil
  go_simp
  refine hK _ _ ?_
  clear hK K
  refine wpAny_ready (rs := [4]) (by kernel_rfl) (by simp) ?_
  refine AllReady.cons rfl (fun K hK => ?_) AllReady.nil
  go_simp
  refine hK _ _ ?_
  clear hK K
  refine wpAny_ready (rs := [5]) (by kernel_rfl) (by simp) ?_
  refine AllReady.cons rfl (fun K hK => ?_) AllReady.nil
  go_simp
  refine hK _ _ ?_
  clear hK K
  refine wpAny_ready (rs := [6]) (by kernel_rfl) (by simp) ?_
  refine AllReady.cons rfl (fun K hK => ?_) AllReady.nil
  go_simp
  refine hK _ _ ?_
  clear hK K
  refine wpAny_ready (rs := [7]) (by kernel_rfl) (by simp) ?_
  refine AllReady.cons rfl (fun K hK => ?_) AllReady.nil
  go_simp
  refine hK _ _ ?_
  clear hK K
  refine wpAny_ready (rs := [8]) (by kernel_rfl) (by simp) ?_
  refine AllReady.cons rfl (fun K hK => ?_) AllReady.nil
  go_simp
  refine hK _ _ ?_
  clear hK K
  refine wpAny_ready (rs := [9]) (by kernel_rfl) (by simp) ?_
  refine AllReady.cons rfl (fun K hK => ?_) AllReady.nil
  go_simp
  refine hK _ _ ?_
  clear hK K
  refine wpAny_ready (rs := [10]) (by kernel_rfl) (by simp) ?_
  refine AllReady.cons rfl (fun K hK => ?_) AllReady.nil
  go_simp
  refine hK _ _ ?_
  clear hK K
  refine wpAny_ready (rs := [11]) (by kernel_rfl) (by simp) ?_
  refine AllReady.cons rfl (fun K hK => ?_) AllReady.nil
  go_simp
  refine hK _ _ ?_
  clear hK K
  refine wpAny_ready (rs := [12]) (by kernel_rfl) (by simp) ?_
  refine AllReady.cons rfl (fun K hK => ?_) AllReady.nil
  go_simp
  refine hK _ _ ?_
  clear hK K
  refine wpAny_ready (rs := [13]) (by kernel_rfl) (by simp) ?_
  refine AllReady.cons rfl (fun K hK => ?_) AllReady.nil
  go_simp
  refine hK _ _ ?_
  clear hK K
  refine wpAny_ready (rs := [14]) (by kernel_rfl) (by simp) ?_
  refine AllReady.cons rfl (fun K hK => ?_) AllReady.nil
  go_simp
  refine hK _ _ ?_
  clear hK K
  refine wpAny_ready (rs := [15]) (by kernel_rfl) (by simp) ?_
  refine AllReady.cons rfl (fun K hK => ?_) AllReady.nil
  go_simp
  refine hK _ _ ?_
  clear hK K
  refine wpAny_ready (rs := [16]) (by kernel_rfl) (by simp) ?_
  refine AllReady.cons rfl (fun K hK => ?_) AllReady.nil
  go_simp
  refine hK _ _ ?_
  clear hK K
  refine wpAny_ready (rs := [17]) (by kernel_rfl) (by simp) ?_
  refine AllReady.cons rfl (fun K hK => ?_) AllReady.nil
  go_simp
  refine hK _ _ ?_
  clear hK K
  have b0 := HB4.out.c0
  have b1 := HB4.out.c1
  have b2 := HB4.out.c2
  have b3 := HB4.out.c3
  have b4 := HB4.out.c4
  clear hs
  refine wpAny_ready (rs := [18, 19]) (by kernel_rfl) (by simp) ?_
  refine AllReady.cons rfl (fun K hK => ?_) (AllReady.cons rfl (fun K hK => ?_) AllReady.nil)
  · go_simp
    refine hK _ _ ?_
    clear hK K
    refine wpAny_ready (rs := [19]) (by kernel_rfl) (by simp) ?_
    refine AllReady.cons rfl (fun K hK => ?_) AllReady.nil
    go_simp
    go_wp2_with (go_at_call 29; (with_reducible refine (cSmall _).mono ?_); rintro e w5 ⟨fa5, ia5, ma5, xa5, fc5, ic5, mc5, xc5, rfl, hI5, hu5⟩; have HI5 := Lib.hid hI5; have HU5 := Lib.hid hu5; have HB5 := Lib.hid (HB4.out.upd hu5 (fun h => h)); clear b0 b1 b2 b3 b4; have b0 := HB5.out.c0; have b1 := HB5.out.c1; have b2 := HB5.out.c2; have b3 := HB5.out.c3; have b4 := HB5.out.c4; clear hI5 hu5)
    refine wpAny_ready (rs := [20]) (by kernel_rfl) (by simp) ?_
    refine AllReady.cons rfl (fun K hK => ?_) AllReady.nil
    go_simp
    go_wp2_with (go_at_call 31; (with_reducible refine (cImgSame _ _ _ smallM smallM (HI4.out.later (upd_below HU5.out)) HI5.out).mono ?_); rintro e w6 ⟨q, rfl, hq, hu6⟩; obtain rfl := hq.2 rfl; have HU6 := Lib.hid ((HU3.out.trans HU5.out (fun _ h _ => h)).trans hu6 (fun _ h _ => h)); have HB6 := Lib.hid (HB5.out.upd hu6 (fun h => h)); clear b0 b1 b2 b3 b4; have b0 := HB6.out.c0; rw [HP.out] at b0; clear hu6 hq)
    refine wpAny_ready (rs := [21]) (by kernel_rfl) (by simp) ?_
    refine AllReady.cons rfl (fun K hK => ?_) AllReady.nil
    go_simp
    refine hK _ _ ?_
    clear hK K
    refine wpAny_ready (rs := [22]) (by kernel_rfl) (by simp) ?_
    refine AllReady.cons rfl (fun K hK => ?_) AllReady.nil
    go_simp
    refine hK _ _ ?_
    clear hK K
    refine wpAny_ready (rs := [23]) (by kernel_rfl) (by simp) ?_
    refine AllReady.cons rfl (fun K hK => ?_) AllReady.nil
    go_simp
    refine hK _ _ ?_
    clear hK K
    refine wpAny_ready (rs := [24]) (by kernel_rfl) (by simp) ?_
    refine AllReady.cons rfl (fun K hK => ?_) AllReady.nil
    go_simp
    refine hK _ _ ?_
    clear hK K
    refine wpAny_ready (rs := [25]) (by kernel_rfl) (by simp) ?_
    refine AllReady.cons rfl (fun K hK => ?_) AllReady.nil
    go_simp
    refine hK _ _ ?_
    clear hK K
    refine wpAny_ready (rs := [26]) (by kernel_rfl) (by simp) ?_
    refine AllReady.cons rfl (fun K hK => ?_) AllReady.nil
    go_simp
    refine hK _ _ ?_
    clear hK K
    refine wpAny_ready (rs := [27]) (by kernel_rfl) (by simp) ?_
    refine AllReady.cons rfl (fun K hK => ?_) AllReady.nil
    go_simp
    refine hK _ _ ?_
    clear hK K
    refine wpAny_done (by kernel_rfl) ?_ _
    go_wp2_with fail
    go_ret
    exact ⟨rfl, HU6.out⟩
  · go_simp
    go_wp2_with (go_at_call 29; (with_reducible refine (cSmall _).mono ?_); rintro e w5 ⟨fa5, ia5, ma5, xa5, fc5, ic5, mc5, xc5, rfl, hI5, hu5⟩; have HI5 := Lib.hid hI5; have HU5 := Lib.hid hu5; have HB5 := Lib.hid (HB4.out.upd hu5 (fun h => h)); clear b0 b1 b2 b3 b4; have b0 := HB5.out.c0; have b1 := HB5.out.c1; have b2 := HB5.out.c2; have b3 := HB5.out.c3; have b4 := HB5.out.c4; clear hI5 hu5)
    refine wpAny_ready (rs := [18]) (by kernel_rfl) (by simp) ?_
    refine AllReady.cons rfl (fun K hK => ?_) AllReady.nil
    go_simp
    refine hK _ _ ?_
    clear hK K
    refine wpAny_ready (rs := [20]) (by kernel_rfl) (by simp) ?_
    refine AllReady.cons rfl (fun K hK => ?_) AllReady.nil
    go_simp
    go_wp2_with (go_at_call 31; (with_reducible refine (cImgSame _ _ _ smallM smallM (HI4.out.later (upd_below HU5.out)) HI5.out).mono ?_); rintro e w6 ⟨q, rfl, hq, hu6⟩; obtain rfl := hq.2 rfl; have HU6 := Lib.hid ((HU3.out.trans HU5.out (fun _ h _ => h)).trans hu6 (fun _ h _ => h)); have HB6 := Lib.hid (HB5.out.upd hu6 (fun h => h)); clear b0 b1 b2 b3 b4; have b0 := HB6.out.c0; rw [HP.out] at b0; clear hu6 hq)
    refine wpAny_ready (rs := [21]) (by kernel_rfl) (by simp) ?_
    refine AllReady.cons rfl (fun K hK => ?_) AllReady.nil
    go_simp
    refine hK _ _ ?_
    clear hK K
    refine wpAny_ready (rs := [22]) (by kernel_rfl) (by simp) ?_
    refine AllReady.cons rfl (fun K hK => ?_) AllReady.nil
    go_simp
    refine hK _ _ ?_
    clear hK K
    refine wpAny_ready (rs := [23]) (by kernel_rfl) (by simp) ?_
    refine AllReady.cons rfl (fun K hK => ?_) AllReady.nil
    go_simp
    refine hK _ _ ?_
    clear hK K
    refine wpAny_ready (rs := [24]) (by kernel_rfl) (by simp) ?_
    refine AllReady.cons rfl (fun K hK => ?_) AllReady.nil
    go_simp
    refine hK _ _ ?_
    clear hK K
    refine wpAny_ready (rs := [25]) (by kernel_rfl) (by simp) ?_
    refine AllReady.cons rfl (fun K hK => ?_) AllReady.nil
    go_simp
    refine hK _ _ ?_
    clear hK K
    refine wpAny_ready (rs := [26]) (by kernel_rfl) (by simp) ?_
    refine AllReady.cons rfl (fun K hK => ?_) AllReady.nil
    go_simp
    refine hK _ _ ?_
    clear hK K
    refine wpAny_ready (rs := [27]) (by kernel_rfl) (by simp) ?_
    refine AllReady.cons rfl (fun K hK => ?_) AllReady.nil
    go_simp
    refine hK _ _ ?_
    clear hK K
    refine wpAny_done (by kernel_rfl) ?_ _
    go_wp2_with fail
    go_ret
    exact ⟨rfl, HU6.out⟩
end Go.Proofs.YtpangghcfmgidaaDoor

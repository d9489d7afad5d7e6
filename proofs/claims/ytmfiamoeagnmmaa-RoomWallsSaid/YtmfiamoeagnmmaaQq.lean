/- Package room: what was told; the laws' known. -/
import Derived.Test.YtmfiamoeagnmmaaQk
import Derived.Test.YtmfiamoeagnmmaaQo
namespace Go.Proofs.Ytmfiamoeagnmmaa
open Go.RowKit Go.Lib Go.ChangeShapes Go.WideShapes Go.Deep
set_option linter.unusedVariables false
set_option linter.unusedSimpArgs false

theorem i32_lit {w : World} {g n : Nat} {xs : List Int} {C : Array Value} {t : TypeId} (h : w.heap[g]? = some (.cells C t (0, 0))) (hC : C = (i32v xs).toArray) (hn : n = xs.length) (hl : n ≤ 100) (hx : ∀ x ∈ xs, -2147483648 ≤ x ∧ x ≤ 2147483647) : I32 w (.slice (some ⟨g, 0, none⟩) n n) xs := by
  subst hn
  refine ⟨hx, _, _, rfl, Nat.le_refl _, by unfold maxLen; omega, .inr ⟨g, 0, rfl, fun j hj => ?_⟩⟩
  simp [World.cell?, h, hC, i32v, List.getD, hj]
section
variable {c : Nat → Nat} {w : World} {rb : Nat} {M : RmM}
set_option maxRecDepth 100000 in
set_option maxHeartbeats 1000000 in
theorem rTold (h : Rm c w rb M) : Calls Try.prog 18 #[.pointer (some ⟨rb, 0, none⟩)] w fun e w' => ∃ p q, e = .returned (.tuple #[p, q]) ∧ Vw w' p M.pub ∧ Vw w' q M.sec ∧ Upd (fun _ => False) w w' := by
  obtain ⟨hb, iv, fv, pv, sv, ivs, fvs, h⟩ := h
  have HB : Hid (∀ u, Upd (fun _ => False) w u → u.cell? ⟨rb, 3, none⟩ = some pv ∧ u.cell? ⟨rb, 4, none⟩ = some sv) := Lib.hid (fun u hu => ⟨(h.quiet hu).bx.2.2.2.1, (h.quiet hu).bx.2.2.2.2.1⟩)
  have h1 := h.pb.1
  have h2 := h.sb.1
  have HP := Lib.hid (fun u (hu : Upd (fun _ => False) w u) => clone u pv M.pub (vw_of_row (h.quiet hu).pub h.pb.2) (by omega))
  have HQ := Lib.hid (fun u (hu : Upd (fun _ => False) w u) => clone u sv M.sec (vw_of_row (h.quiet hu).sec h.sb.2) (by omega))
  have HPB := Lib.hid h.pb.2
  have HSB := Lib.hid h.sb.2
  obtain ⟨pa, pc, rfl⟩ := ownsRow_slice h.pub
  obtain ⟨sa, sc, rfl⟩ := ownsRow_slice h.sec
  have HD := Lib.hid (Upd.drew (fun _ => False) w)
  clear h
  go_enter Try.func18, Try.ntmps18
  go_wp2_with fail
  go_region_held3 (fun w' => w'.cell? ⟨rb, 3, none⟩ = some (.slice pa M.pub.length pc) ∧ w'.cell? ⟨rb, 4, none⟩ = some (.slice sa M.sec.length sc)) (first
    | with_reducible exact HB.out _ HX2.out
    | with_reducible exact HB.out _ HX1.out
    | with_reducible exact HB.out _ HD.out) (first
    | (go_at_call 37; (with_reducible refine (HP.out _ HD.out).mono ?_); rintro e w1 ⟨x1, rfl, hn⟩; have HX1 := Lib.hid (HD.out.trans hn.2.1 (fun _ h _ => h)); have HV1 := Lib.hid (hn.vw HPB.out); obtain ⟨xa, xc, rfl⟩ := ownsRow_slice hn.1; clear hn)
    | (go_at_call 37; (with_reducible refine (HQ.out _ HX1.out).mono ?_); rintro e w2 ⟨x2, rfl, hn⟩; have HX2 := Lib.hid (HX1.out.trans hn.2.1 (fun _ h _ => h)); have HV2 := Lib.hid (hn.vw HSB.out); have hv1 := HV1.out.upd hn.2.1 (fun _ _ h => h); have HV3 := Lib.hid hv1; obtain ⟨ya, yc, rfl⟩ := ownsRow_slice hn.1; clear hn hv1))
  all_goals
    go_wp2_with fail
    refine bodyPost_ret (v := .tuple #[.slice xa M.pub.length xc, .slice ya M.sec.length yc]) (by simp only [results, Try.f18]; simp [go_sem]) rfl ?_
    exact ⟨_, _, rfl, HV3.out, HV2.out, HX2.out⟩
end
theorem Ext.up0 {c c' : Nat → Nat} {w w' : World} (h : Ext None0 c w c' w') : Upd (fun _ => False) w w' := h.upd.mono (fun _ h _ => h.elim)
/-- nothing of W is turned -/
theorem Ext.upW {T : Nat → Prop} {c c' : Nat → Nat} {W w w' : World} (h0 : Upd (fun _ => False) W w) (hc : ∀ k, k < W.heap.size → c k = 0) (h : Ext T c w c' w') (hT : ¬ T 0) : Upd (fun _ => False) W w' ∧ ∀ k, k < W.heap.size → c' k = 0 :=
  ⟨h0.trans h.upd (fun k hk hl => hT (by rw [hc k hl] at hk; exact hk)), fun k hk => (h.same k (Nat.lt_of_lt_of_le hk h0.size)).trans (hc k hk)⟩
def zero0 (_ : Nat) : Nat := 0
set_option maxRecDepth 100000 in
set_option maxHeartbeats 2000000 in
theorem known12 (w : World) : Calls Try.prog 7 #[] w fun e w' => e = .returned (.bool true) ∧ Upd (fun _ => False) w w' := by
  have h7 : si 7#32 = 7 := by decide +kernel
  have h0 : si 0#32 = 0 := by decide +kernel
  have h2 : si 2#32 = 2 := by decide +kernel
  have h3 : si (bDiv 7#32 2#32) = 3 := by decide +kernel
  have hz0 : bZero 0#32 = false := by decide +kernel
  have hz2 : bZero 2#32 = true := by decide +kernel
  have HN := Lib.hid (rNewRoom zero0 100 w (by omega) (by omega))
  have H7 := Lib.hid h7; have H0 := Lib.hid h0; have H2 := Lib.hid h2; have H3 := Lib.hid h3; have HZ0 := Lib.hid hz0; have HZ2 := Lib.hid hz2
  clear h7 h0 h2 h3 hz0 hz2
  go_enter Try.func7, Try.ntmps7
  go_wp2_with fail
  refine HN.out.mono ?_
  rintro e w1 ⟨rb, c1, rfl, hx, hr⟩
  obtain ⟨hu1, hc1⟩ := hx.upW (Upd.refl _ w) (fun _ _ => rfl) (fun h => h)
  have HU1 := Lib.hid hu1
  have HC1 := Lib.hid hc1
  have HR1 := Lib.hid hr
  clear hx hr hu1 hc1
  obtain ⟨wa, hwa⟩ : ∃ wa, wa = w1.alloc (.cells #[.int .i32 7, .int .i32 0] 21) := ⟨_, rfl⟩
  have ha1 : Upd (fun _ => False) w1 wa := by rw [hwa]; exact Upd.alloc _ _ _
  have hqa : wa.heap[w1.heap.size]? = some (.cells #[.int .i32 7, .int .i32 0] 21 (0, 0)) := by rw [hwa]; exact hpTop _ _ _ rfl
  have HE1 := Lib.hid (Ext.made None0 9 (c := c1) ha1)
  have HS1 : Hid (Calls Try.prog 12 #[.pointer (some ⟨rb, 0, none⟩), .pointer none, .int .i64 0, .int .i64 17, .int .i64 0, .int .i64 0, .slice (some ⟨w1.heap.size, 0, none⟩) 2 2] wa fun e w' => Served (paint c1 w1 9) wa rb (.pointer none) ⟨0, 28419, noRoom 100⟩ none e w') := Lib.hid
    (sv17n (HR1.out.ext HE1.out (fun _ _ h => h)) (show TrO (paint c1 w1 9) wa (.pointer none) none from rfl) 0 0 0 _ 7#32 0#32 (i32_lit hqa (by rw [H7.out, H0.out]; rfl) rfl (show 2 ≤ 100 by omega) (by rw [H7.out, H0.out]; simp)) HZ0.out (fun k hk => by simp [Value.ownBlock] at hk; rw [← hk, paint_new _ _ _ (Nat.le_refl _)]; exact nR9))
  have HWA := Lib.hid hwa
  clear hwa ha1 hqa
  go_wp2_with fail
  rw [← HWA.out]
  refine HS1.out.mono ?_
  rintro e w2 ⟨rfl, c2, hx, hr, -⟩
  obtain ⟨hua, hca⟩ := HE1.out.upW HU1.out HC1.out (fun h => h)
  obtain ⟨hu2, hc2⟩ := hx.upW hua hca (by simp [TR])
  have HU2 := Lib.hid hu2
  have HC2 := Lib.hid hc2
  have HR2 := Lib.hid hr
  clear hx hr hu2 hc2 hua hca HS1
  obtain ⟨wb, hwb⟩ : ∃ wb, wb = w2.alloc (.cells #[.int .i32 7, .int .i32 2] 21) := ⟨_, rfl⟩
  have ha1 : Upd (fun _ => False) w2 wb := by rw [hwb]; exact Upd.alloc _ _ _
  have hqa : wb.heap[w2.heap.size]? = some (.cells #[.int .i32 7, .int .i32 2] 21 (0, 0)) := by rw [hwb]; exact hpTop _ _ _ rfl
  have HE2 := Lib.hid (Ext.made None0 9 (c := c2) ha1)
  have HS2 : Hid (Calls Try.prog 12 #[.pointer (some ⟨rb, 0, none⟩), .pointer none, .int .i64 0, .int .i64 17, .int .i64 0, .int .i64 0, .slice (some ⟨w2.heap.size, 0, none⟩) 2 2] wb fun e w' => Served (paint c2 w2 9) wb rb (.pointer none) ⟨3, 36864, noRoom 100⟩ none e w') := Lib.hid (by
    have := sv17y (HR2.out.ext HE2.out (fun _ _ h => h)) (show TrO (paint c2 w2 9) wb (.pointer none) none from rfl) 0 0 0 _ 7#32 2#32 (i32_lit hqa (by rw [H7.out, H2.out]; rfl) rfl (show 2 ≤ 100 by omega) (by rw [H7.out, H2.out]; simp)) HZ2.out (fun k hk => by simp [Value.ownBlock] at hk; rw [← hk, paint_new _ _ _ (Nat.le_refl _)]; exact nR9)
    rw [H3.out] at this
    exact this)
  have HWB := Lib.hid hwb
  clear hwb ha1 hqa
  go_wp2_with fail
  rw [← HWB.out]
  refine HS2.out.mono ?_
  rintro e w3 ⟨rfl, c3, hx, hr, -⟩
  obtain ⟨hua, hca⟩ := HE2.out.upW HU2.out HC2.out (fun h => h)
  obtain ⟨hu3, -⟩ := hx.upW hua hca (by simp [TR])
  have HU3 := Lib.hid hu3
  clear hx hr hu3 hua hca HS2
  go_wp2_with fail
  go_ret
  exact ⟨rfl, HU3.out⟩
end Go.Proofs.Ytmfiamoeagnmmaa

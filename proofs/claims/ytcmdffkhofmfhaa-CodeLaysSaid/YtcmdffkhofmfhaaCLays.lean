/- CodeLays: which instructions may be, and their bytes, are as the document says: the walk. -/
import Derived.Test.YtcmdffkhofmfhaaCi
import Derived.Test.YtcmdffkhofmfhaaCk
import Derived.Test.YtcmdffkhofmfhaaCm
import Derived.Outline
namespace Go.Proofs.Ytcmdffkhofmfhaa
open Go.RowKit
set_option linter.unusedVariables false

/-- what Lay answers, and what it lays -/
def layE (op a b : Int) : Int := if rightB op a b = true then 0 else 1
def layX (op a b : Int) : List Int := if rightB op a b = true then layB op a b else []
theorem layX_len (op a b : Int) : (layX op a b).length ≤ 5 := by
  unfold layX
  split
  · exact lay_len op a b
  · simp
theorem cLay_any (op a b : Int) (w : World) (p : Nat) (v : Value) (xs : List Int) (h : Wr 65 w p v xs) (hn : xs.length ≤ 1099511620000) :
    Calls Try.prog 18 #[.pointer (some ⟨p, 0, none⟩), ins op a b] w fun e w' => e = .returned (.int .i64 (layE op a b)) ∧ Laid 65 w p v (xs ++ layX op a b) w' := by
  unfold layE layX
  cases hr : rightB op a b with
  | true => simpa using cLay op a b w p v xs h hn hr
  | false =>
    refine (cLay_no op a b w _ (.inr hr)).mono fun e w' k => ⟨by simpa using k.1, ?_⟩
    have := h.upd k.2 (fun _ _ h => h)
    simpa using (Laid.same this).pre k.2

/-- an instruction, and both writers, apart -/
structure LB (W w : World) (bi bw br : Nat) (op a b : Int) (vw vr : Value) (xs ys : List Int) : Prop where
  i : Is3 29 w bi (.int .i64 op) (.int .i64 a) (.int .i64 b)
  x : Wr 65 w bw vw xs
  r : Wr 43 w br vr ys
  upd : Upd (fun _ => False) W w
  ix : ¬ fp bw vw bi
  ir : ¬ fp br vr bi
  xr : ∀ k, fp bw vw k → ¬ fp br vr k
  ox : ∀ k, fp bw vw k → W.heap.size ≤ k
  or : ∀ k, fp br vr k → W.heap.size ≤ k
section
variable {W w w' : World} {bi bw br : Nat} {op a b : Int} {vw vr : Value} {xs ys zs : List Int}
theorem LB.mono (h : LB W w bi bw br op a b vw vr xs ys) (hu : Upd (fun _ => False) w w') : LB W w' bi bw br op a b vw vr xs ys :=
  ⟨h.i.upd hu (fun h => h), h.x.upd hu (fun _ _ h => h), h.r.upd hu (fun _ _ h => h), h.upd.trans hu (fun _ h _ => h), h.ix, h.ir, h.xr, h.ox, h.or⟩
theorem LB.layx (h : LB W w bi bw br op a b vw vr xs ys) (g : Laid 65 w bw vw zs w') : ∃ vw', LB W w' bi bw br op a b vw' vr zs ys := by
  obtain ⟨vw', g1, g2, g3⟩ := g
  refine ⟨vw', h.i.upd g2 h.ix, g1, h.r.upd g2 (fun k hk hf => h.xr k hf hk), h.upd.trans g2 (fun i hi hlt => by have := h.ox i hi; omega), ?_, h.ir, ?_, ?_, h.or⟩
  · intro hf
    rcases hf with hf | hf
    · exact h.ix (.inl hf)
    · rcases g3 _ hf with hh | hh
      · exact h.ix (.inr hh)
      · have := h.i.lt; omega
  · intro k hk hf
    rcases hk with hk | hk
    · exact h.xr k (.inl hk) hf
    · rcases g3 k hk with hh | hh
      · exact h.xr k (.inr hh) hf
      · have := wr_inn h.r k hf; omega
  · intro k hk
    rcases hk with hk | hk
    · exact h.ox k (.inl hk)
    · rcases g3 k hk with hh | hh
      · exact h.ox k (.inr hh)
      · have := h.upd.size; omega
theorem LB.layr (h : LB W w bi bw br op a b vw vr xs ys) (g : Laid 43 w br vr zs w') : ∃ vr', LB W w' bi bw br op a b vw vr' xs zs := by
  obtain ⟨vr', g1, g2, g3⟩ := g
  refine ⟨vr', h.i.upd g2 h.ir, h.x.upd g2 (fun k hk hf => h.xr k hk hf), g1, h.upd.trans g2 (fun i hi hlt => by have := h.or i hi; omega), h.ix, ?_, ?_, h.ox, ?_⟩
  · intro hf
    rcases hf with hf | hf
    · exact h.ir (.inl hf)
    · rcases g3 _ hf with hh | hh
      · exact h.ir (.inr hh)
      · have := h.i.lt; omega
  · intro k hk hf
    rcases hf with hf | hf
    · exact h.xr k hk (.inl hf)
    · rcases g3 k hf with hh | hh
      · exact h.xr k hk (.inr hh)
      · have := wr_inn h.x k hk; omega
  · intro k hk
    rcases hk with hk | hk
    · exact h.or k (.inl hk)
    · rcases g3 k hk with hh | hh
      · exact h.or k (.inr hh)
      · have := h.upd.size; omega
end

set_option maxHeartbeats 40000000 in
theorem lays3_walk (o a b c : Int) (W : World) (wo : wf64 o) (wa : wf64 a) (wb : wf64 b) (wc : wf64 c) : Calls Try.prog 4 #[raw4 o a b c] W fun e w' => e = .returned (.bool true) ∧ Below W.heap.size W w' := by
  have HR := Lib.hid (fun w => instr o a b c w wo wa wb wc)
  have HA := Lib.hid (Upd.alloc (fun _ => False) W (.cells #[.int .i64 o, .int .i64 a, .int .i64 b, .int .i64 c] 39))
  clear wo wa wb wc
  go_enter Try.func4, Try.ntmps4
  go_wp2_with fail
  refine (HR.out _).mono ?_
  rintro e w1 ⟨⟨op, a', b', rfl, _, _, _⟩, hu⟩
  have hu1 := (HA.out.trans hu (fun _ h _ => h)).trans (Upd.alloc (fun _ => False) w1 (.cells #[.int .i64 op, .int .i64 a', .int .i64 b'] 29)) (fun _ h _ => h)
  have HU1 := Lib.hid hu1
  have HI1 := Lib.hid (is3_new 29 w1 (.int .i64 op) (.int .i64 a') (.int .i64 b'))
  have hs1 : W.heap.size < w1.heap.size := by have := hu.size; simp at this; omega
  clear hu hu1 HA HR
  go_wp2_with fail
  refine (newWriter _).mono ?_
  rintro e w2 ⟨rfl, h1, h2⟩
  rw [show (w1.alloc (.cells #[.int .i64 op, .int .i64 a', .int .i64 b'] 29)).heap.size = w1.heap.size + 1 by simp] at h1 ⊢
  have HW2 := Lib.hid h1
  have HI2 := Lib.hid (HI1.out.upd h2 (fun h => h))
  have HU2 := Lib.hid (HU1.out.trans h2 (fun _ h _ => h))
  clear h1 h2 HI1 HU1
  go_wp2_with fail
  refine (known3 _).mono ?_
  rintro e w3 ⟨rfl, h2⟩
  have HB3 : Hid (LB W (w3.alloc (.cells #[.slice none 0 0] 43)) w1.heap.size (w1.heap.size + 1) w3.heap.size op a' b' (.slice none 0 0) (.slice none 0 0) [] []) := by
    have ha := Upd.alloc (fun _ => False) w3 (.cells #[.slice none 0 0] 43)
    have hw := (HW2.out.upd h2 (fun _ _ h => h)).upd ha (fun _ _ h => h)
    have hlt := HW2.out.lt
    have hsz := h2.size
    refine ⟨(HI2.out.upd h2 (fun h => h)).upd ha (fun h => h), hw, ⟨?_, World.ownsRow_nil _ _ _ _, by simp⟩, (HU2.out.trans h2 (fun _ h _ => h)).trans ha (fun _ h _ => h), ?_, ?_, ?_, ?_, ?_⟩
    · show (w3.heap.push _)[w3.heap.size]? = _
      simp
    · rintro (h | h)
      · omega
      · simp [Value.ownBlock] at h
    · rintro (h | h)
      · omega
      · simp [Value.ownBlock] at h
    · rintro k (h | h) (hf | hf)
      · omega
      · simp [Value.ownBlock] at hf
      · simp [Value.ownBlock] at h
      · simp [Value.ownBlock] at h
    · rintro k (h | h)
      · omega
      · simp [Value.ownBlock] at h
    · rintro k (h | h)
      · omega
      · simp [Value.ownBlock] at h
  have i0 := HB3.out.i.c0
  have i1 := HB3.out.i.c1
  have i2 := HB3.out.i.c2
  clear h2 HW2 HI2 HU2
  go_wp2_with fail
  refine (rRight _ _ _ _).mono ?_
  rintro e w5 ⟨rfl, h2⟩
  have HB5 := Lib.hid (HB3.out.mono h2)
  clear h2 i0 i1 i2
  have i0 := HB5.out.i.c0
  have i1 := HB5.out.i.c1
  have i2 := HB5.out.i.c2
  generalize hbi : w1.heap.size = bi at *
  generalize hbr : w3.heap.size = br at *
  generalize hbw : bi + 1 = bw at *
  have HLX := Lib.hid (layX_len op a' b')
  cases hr : rightB op a' b' with
  | true =>
    have HRR := Lib.hid hr
    have HE := Lib.hid (show layE op a' b' = 0 by simp [layE, hr])
    have HX := Lib.hid (show layX op a' b' = layB op a' b' by simp [layX, hr])
    clear hr
    go_wp2_with fail
    refine (rLay op a' b' _ br _ [] HB5.out.r (by simp) HRR.out).mono ?_
    rw [← HX.out]
    rintro e w6 ⟨rfl, hL⟩
    obtain ⟨vr, hB6⟩ := HB5.out.layr hL
    rw [List.nil_append] at hB6
    have HB6 := Lib.hid hB6
    clear hL hB6 i0 i1 i2 HB5
    have HD := Lib.hid (HB6.out.mono (Upd.drew (fun _ => False) w6))
    have i0 := HD.out.i.c0
    have i1 := HD.out.i.c1
    have i2 := HD.out.i.c2
    obtain ⟨ar, cr, rfl⟩ := ownsRow_slice HB6.out.r.own
    have he := HE.out
    go_wp2_with fail
    go_region_with ((first
      | (go_at_call 23; (with_reducible refine (cRight op a' b' w6.drew).mono ?_); rintro e w7 ⟨rfl, hu⟩; have H7 := Lib.hid (HD.out.mono hu); have i0 := H7.out.i.c0; have i1 := H7.out.i.c1; have i2 := H7.out.i.c2; clear hu)
      | (go_at_call 21; (with_reducible refine (rRight op a' b' w7).mono ?_); rintro e w8 ⟨rfl, hu⟩; have H8 := Lib.hid (H7.out.mono hu); have i0 := H8.out.i.c0; have i1 := H8.out.i.c1; have i2 := H8.out.i.c2; clear hu)
      | (go_at_call 18; (with_reducible refine (cLay_any op a' b' w8 bw _ [] H8.out.x (by simp)).mono ?_); rw [List.nil_append]; rintro e w9 ⟨rfl, hL⟩; obtain ⟨vw, hB9⟩ := H8.out.layx hL; have H9 := Lib.hid hB9; have hrc := H9.out.r.cell; have hsr := str3 H9.out.r.vw; clear hL hB9)
      | (go_at_call 19; (with_reducible refine (bytesOf w9 bw _ _ H9.out.x (by have := HLX.out; omega)).mono ?_); rintro e w10 ⟨x10, rfl, hN⟩; obtain ⟨a10, c10, rfl⟩ := ownsRow_slice hN.1; have hs10 := str3 (hN.vw H9.out.x.byte); have H10 := Lib.hid (H9.out.mono hN.2.1); have hrc10 := H10.out.r.cell; have hsr10 := str3 H10.out.r.vw; clear hN)))
    all_goals
      go_wp2_with fail
      go_ret
      exact ⟨rfl, H10.out.upd.below (Nat.le_refl _) (fun _ h => h.elim)⟩
  | false =>
    have HE := Lib.hid (show layE op a' b' = 1 by simp [layE, hr])
    have HX := Lib.hid (show layX op a' b' = [] by simp [layX, hr])
    clear hr
    obtain ⟨vr, hB6⟩ : ∃ vr, LB W w5 bi bw br op a' b' (.slice none 0 0) vr [] (layX op a' b') := ⟨_, by rw [HX.out]; exact HB5.out⟩
    have HB6 := Lib.hid hB6
    clear hB6 i0 i1 i2 HB5
    have HD := Lib.hid (HB6.out.mono (Upd.drew (fun _ => False) w5))
    have i0 := HD.out.i.c0
    have i1 := HD.out.i.c1
    have i2 := HD.out.i.c2
    obtain ⟨ar, cr, rfl⟩ := ownsRow_slice HB6.out.r.own
    have he := HE.out
    go_wp2_with fail
    go_region_with ((first
      | (go_at_call 23; (with_reducible refine (cRight op a' b' w5.drew).mono ?_); rintro e w7 ⟨rfl, hu⟩; have H7 := Lib.hid (HD.out.mono hu); have i0 := H7.out.i.c0; have i1 := H7.out.i.c1; have i2 := H7.out.i.c2; clear hu)
      | (go_at_call 21; (with_reducible refine (rRight op a' b' w7).mono ?_); rintro e w8 ⟨rfl, hu⟩; have H8 := Lib.hid (H7.out.mono hu); have i0 := H8.out.i.c0; have i1 := H8.out.i.c1; have i2 := H8.out.i.c2; clear hu)
      | (go_at_call 18; (with_reducible refine (cLay_any op a' b' w8 bw _ [] H8.out.x (by simp)).mono ?_); rw [List.nil_append]; rintro e w9 ⟨rfl, hL⟩; obtain ⟨vw, hB9⟩ := H8.out.layx hL; have H9 := Lib.hid hB9; have hrc := H9.out.r.cell; have hsr := str3 H9.out.r.vw; clear hL hB9)
      | (go_at_call 19; (with_reducible refine (bytesOf w9 bw _ _ H9.out.x (by have := HLX.out; omega)).mono ?_); rintro e w10 ⟨x10, rfl, hN⟩; obtain ⟨a10, c10, rfl⟩ := ownsRow_slice hN.1; have hs10 := str3 (hN.vw H9.out.x.byte); have H10 := Lib.hid (H9.out.mono hN.2.1); have hrc10 := H10.out.r.cell; have hsr10 := str3 H10.out.r.vw; clear hN)))
    all_goals
      go_wp2_with fail
      go_ret
      exact ⟨rfl, H10.out.upd.below (Nat.le_refl _) (fun _ h => h.elim)⟩
end Go.Proofs.Ytcmdffkhofmfhaa

/- The reference's heap: Alloc, of the other label. -/
import Derived.Test.YteapemjkfncbjaaHt
namespace Go.Proofs.Yteapemjkfncbjaa
open Go.RowKit Go.Lib Go.ChangeShapes Go.WideShapes Go.Deep
set_option linter.unusedVariables false
set_option linter.unusedSimpArgs false

section
variable {F : Nat → Prop} {w : World} {b : Nat} {sz : Int} {av : Value} {R : List (ArrM × Value)}
set_option maxRecDepth 100000 in
set_option maxHeartbeats 8000000 in
theorem rAlloc4 (h : Hp RT F w b sz av R) (hl : R.length ≤ 1000) (h0 : 0 < R.length) (hs : 0 ≤ sz ∧ sz ≤ 4096) (own life : Int) (n : Nat) (sh : Bool) (hf : fitsB ⟨sz, R.map Prod.fst⟩ 4 life n = true) :
    Calls Try.prog 25 #[.pointer (some ⟨b, 0, none⟩), .int .i64 own, .int .i64 4, .int .i64 life, .bool sh, .int .i64 n] w fun e w' => e = .returned (.tuple #[.int .i64 ((R.length + 1 : Nat) : Int), .bool true]) ∧
      (∃ av' d, Hp RT (More F w w') w' b sz av' (R ++ [(newA own 4 life sh n, d)])) ∧ Upd F w w' := by
  have hu := used_le (L := R.map Prod.fst) (fun x hx => by obtain ⟨p, hp, rfl⟩ := List.mem_map.1 hx; exact (h.dat p hp).len) R.length (by simp)
  rw [List.take_of_length_le (by simp)] at hu
  have HUS : Hid (∀ u, Upd (fun _ => False) w u → Calls Try.prog 41 #[.pointer (some ⟨b, 0, none⟩)] u fun e w' => e = .returned (.int .i64 (usedP (R.map Prod.fst) : Int)) ∧ u = w') := Lib.hid (fun u hu => rUsed (h.upd hu (fun _ _ h => h)) hl)
  obtain ⟨c0, c1, cf⟩ := h.bx
  obtain ⟨h1, h2, h3, h4, h5⟩ := fits_yes hf
  have hlf := life012 h2
  obtain ⟨i0, hi, hz0, hz1, hz2⟩ := info_parts b8Info
  obtain ⟨j0, hj, hy0, hy1, hy2⟩ := info_parts arrInfo
  have H := Lib.hid h
  clear h hf h1 h2
  generalize usedP (R.map Prod.fst) = u at *
  have t1 : decide (life < 0) = false := by simp; omega
  have t2 : decide (2 < life) = false := by simp; omega
  have t3 : decide ((n : Int) < 0) = false := by simp
  have t4 : decide (64 < (n : Int)) = false := by simp; omega
  have hw1 : IntKind.i64.wrap (8 + (n : Int)) = 8 + n := IntWalk.i64_in _ (by omega)
  have hw2 : IntKind.i64.wrap (sz - (u : Int)) = sz - u := IntWalk.i64_in _ (by omega)
  have t5 : decide (sz - (u : Int) < 8 + n) = false := by simp; omega
  · go_enter Try.func25, Try.ntmps25
    go_wp2_with fail
    go_quiet (first
      | exact Calls.quiet_of_same ((HUS.out _ (Upd.refl _ _)).mono fun _ _ h => ⟨h.1, h.2.symm⟩)
      | exact Calls.quiet_of_same ((HUS.out _ (Upd.drew _ _)).mono fun _ _ h => ⟨h.1, h.2.symm⟩)
      | exact Calls.quiet_of_same ((HUS.out _ (hpDrewN _ _ _)).mono fun _ _ h => ⟨h.1, h.2.symm⟩))
    go_wp2_with fail
    clear t1 t2 t3 t4 t5 hw1 hw2 c0 c1 cf
    obtain ⟨w0, hw0⟩ : ∃ w0, w0 = w.drewN nq := ⟨_, rfl⟩
    have hu0 : Upd (fun _ => False) w w0 := by rw [hw0]; exact hpDrewN _ _ _
    rw [← hw0]
    have H0 := Lib.hid (H.out.upd hu0 (fun _ _ h => h))
    have HUW := Lib.hid hu0
    clear hw0 hu0
    obtain ⟨q0, q1, qf⟩ := H0.out.bx
    obtain ⟨aa, ac, rfl⟩ := H0.out.len
    have hbl : b < w0.heap.size := (Array.getElem?_eq_some_iff.1 H0.out.box).1
    have HSR : Hid (∀ w', Upd (fun _ => False) w0 w' → Src w' 5 (.slice aa R.length ac) R.length (R.flatMap acl)) := Lib.hid (fun w' hu => (hpSrcRow H0.out.row H0.out.one).upd hu (fun _ _ h => h))
    have HU6 := Lib.hid (Upd.refl (fun _ => False) w0)
    have HU7 := Lib.hid (Upd.refl (fun _ => False) w0)
    have hbl1 : b < w0.heap.size + 1 := by omega
    have hbl2 : b < w0.heap.size + 1 + 1 := by omega
    have hbl3 : b < w0.heap.size + 1 + 1 + 1 := by omega
    have HMK := fun u : World => run_make_row (P := Try.prog) 31 5 i0 (.int .u8 0) Try.underlying31 hi hz0 hz1 rfl .i64 .i64 n (by rw [hz2]; omega) (by omega) u
    go_region_law ((first
      | (refine hpStep rfl (.tmp 54) (.tmp 62) 34 rfl 0 38 j0 zarr 5 56 Try.underlying34 hj hy0 hy1 hy2 rfl (by decide) (.slice va R.length vc) R.length (R.flatMap acl) rfl (by first | exact HO7.out | exact HO7.out.alloc _ | exact (HO7.out.alloc _).alloc _) 1 (acl (newA own 4 life sh n, .slice (some ⟨_, 0, none⟩) n n)) (by first | exact srcAtX _ #[.int .i64 own, .int .i64 4, .int .i64 life, .bool sh, .slice (some ⟨_, 0, none⟩) n n] _ (by simp) (by simp [Value.oneCell']) rfl | exact Src.upd (srcAtX _ #[.int .i64 own, .int .i64 4, .int .i64 life, .bool sh, .slice (some ⟨_, 0, none⟩) n n] _ (by simp) (by simp [Value.oneCell']) rfl) HV7.out (fun _ _ h => h) | exact Src.upd (Src.upd (srcAtX _ #[.int .i64 own, .int .i64 4, .int .i64 life, .bool sh, .slice (some ⟨_, 0, none⟩) n n] _ (by simp) (by simp [Value.oneCell']) rfl) (Upd.drew (fun _ => False) _) (fun _ _ h => h)) HV7.out (fun _ _ h => h) | exact Src.upd (Src.upd (srcAtX _ #[.int .i64 own, .int .i64 4, .int .i64 life, .bool sh, .slice (some ⟨_, 0, none⟩) n n] _ (by simp) (by simp [Value.oneCell']) rfl) (uD (Upd.alloc (fun _ => False) _ _)) (fun _ _ h => h)) HV7.out (fun _ _ h => h)) (by unfold maxLen; omega) (by omega) (Nat.zero_le _) ?_; intro v9 w9 ho hg hf; obtain ⟨v9a, v9c, rfl⟩ := ownsRow_slice ho; have HADD := Lib.hid (rAdd H0.out hg hf ho HN7.out (zeros_byte _) (by simp only [newA, zeros_len]; omega) (fun k hk => by simp [Value.ownBlock] at hk; omega) (by (repeat (first | refine uA ?_ | refine uD ?_)); first | exact HU7.out | exact Upd.refl _ _) (by first | exact HO7.out | exact HO7.out.alloc _ | exact (HO7.out.alloc _).alloc _) (by simp only [newA, zeros_len]; first | exact mkRow _ n _ (by omega) (by simp) | exact (mkRow _ n _ (by omega) (by simp)).alloc _ | exact ownsRow_upd (by (try refine rD ?_); first | exact mkRow _ n _ (by omega) (by simp) | exact (mkRow _ n _ (by omega) (by simp)).alloc _ | exact ((mkRow _ n _ (by omega) (by simp)).alloc _).alloc _) HV7.out (fun _ _ h => h) | exact (ownsRow_upd (by (try refine rD ?_); first | exact mkRow _ n _ (by omega) (by simp) | exact (mkRow _ n _ (by omega) (by simp)).alloc _ | exact ((mkRow _ n _ (by omega) (by simp)).alloc _).alloc _) HV7.out (fun _ _ h => h)).alloc _)); have q1 := HADD.out.1.1; have q2 := HADD.out.1.2; clear ho hg hf)
      | (refine hpStep0 rfl (.tmp 49) (.tmp 53) 34 rfl 38 j0 zarr 5 56 Try.underlying34 hj hy0 hy1 hy2 rfl (by decide) _ rfl R.length (R.flatMap acl) h0 (HSR.out _ (by (repeat (first | refine uA ?_ | refine uD ?_)); first | exact HU7.out | exact Upd.refl _ _)) (by unfold maxLen; omega) (by omega) ?_; intro v7 w7 ho hu hn; obtain ⟨va, vc, rfl⟩ := ownsRow_slice ho; have hup : Upd (fun _ => False) w0 w7 := Upd.trans (by (repeat (first | refine uA ?_ | refine uD ?_)); first | exact HU7.out | exact Upd.refl _ _) hu (fun _ h _ => h); have HN7 : Hid (∀ k, (Value.slice va R.length vc).ownBlock = some k → w0.heap.size ≤ k) := Lib.hid (fun k hk => Nat.le_trans (show w0.heap.size ≤ _ from Upd.size (by (repeat (first | refine uA ?_ | refine uD ?_)); first | exact HU7.out | exact Upd.refl _ _)) (hn k hk)); have HU7 := Lib.hid hup; have HO7 := Lib.hid ho; have HV7 := Lib.hid hu; have hsz7 := hu.size; simp at hsz7; clear ho hu hn hup)))
    all_goals
      go_wp2_with fail
      clear q1 q2
      refine bodyPost_ret (v := .tuple #[.int .i64 ((R.length + 1 : Nat) : Int), .bool true]) (by simp only [results, Try.f25]; simp [go_sem]) rfl ?_
      have hsw := HUW.out.size
      exact ⟨rfl, ⟨_, _, HADD.out.2.1.wide (fun k hk => by rcases hk with hk | hk; exact .inl hk; exact .inr ⟨by omega, hk.2⟩) (fun k hk => by
        rcases hk with hk | hk
        · exact HADD.out.2.1.lt k (.inl hk)
        · exact hk.2)⟩, (HUW.out.mono (T := F) (fun _ h _ => h.elim)).trans HADD.out.2.2 (fun _ h _ => h)⟩
end
end Go.Proofs.Yteapemjkfncbjaa

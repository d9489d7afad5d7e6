/- The reference's heap: what is used, a new one, an array, whether two are the same. -/
import Derived.Test.YteapemjkfncbjaaHl
import Derived.Test.YteapemjkfncbjaaHf
import Derived.Deep.QuietTactic
namespace Go.Proofs.Yteapemjkfncbjaa
open Go.RowKit Go.Lib Go.ChangeShapes Go.WideShapes Go.Deep
set_option linter.unusedVariables false
set_option linter.unusedSimpArgs false

abbrev RT : TypeId := 36
section
variable {F : Nat → Prop} {w : World} {b : Nat} {sz : Int} {av : Value} {R : List (ArrM × Value)}
theorem rUsed (h : Hp RT F w b sz av R) (hl : R.length ≤ 1000) : Calls Try.prog 41 #[.pointer (some ⟨b, 0, none⟩)] w fun e w' => e = .returned (.int .i64 (usedP (R.map Prod.fst) : Int)) ∧ w = w' := by
  obtain ⟨h0, h1, h2⟩ := h.bx
  have H := Lib.hid h
  obtain ⟨a, c, rfl⟩ := h.len
  have HLE := Lib.hid (used_le (L := R.map Prod.fst) (fun x hx => by obtain ⟨p, hp, rfl⟩ := List.mem_map.1 hx; exact (h.dat p hp).len))
  have HE0 : Hid (usedP ((R.map Prod.fst).take 2) = 0) := Lib.hid (by
    have : ((R.map Prod.fst).take 2).drop 2 = [] := by rw [List.drop_eq_nil_iff]; simp; omega
    simp [usedP, this, usedL])
  have hmx := h.maxl
  clear h
  go_enter Try.func41, Try.ntmps41
  go_wp2_with fail
  go_loop [4, 3] (fun i u => ∃ k n : Nat, 2 ≤ k ∧ k ≤ 1000 ∧ i = .int .i64 k ∧ u = .int .i64 n ∧ n ≤ 72 * k ∧ (k ≤ R.length ∨ k = 2) ∧ Hid (usedP ((R.map Prod.fst).take k) = n)) (fun i _ => R.length - (intOf i).toNat)
  case atStart => exact ⟨2, 0, by omega, by omega, rfl, rfl, by omega, .inr rfl, HE0⟩
  case round =>
    obtain ⟨k, n, hk2, hk, rfl, rfl, hn, hkl, HN⟩ := hrel
    by_cases hlt : k < R.length
    · obtain ⟨g, c', hv, k0, k1, k2, k3, k4, k5⟩ := H.out.at hlt
      simp at hv
      obtain ⟨rfl, rfl⟩ := hv
      obtain ⟨da, dc, hd, -, -⟩ := H.out.dslice hlt
      have hdl := (H.out.dat _ (List.getElem_mem hlt)).len
      rw [hd] at k4
      have HS := Lib.hid (used_take (L := R.map Prod.fst) (k := k) (by simpa using hlt))
      simp only [List.getElem_map] at HS
      rw [HN.out, if_neg (by omega)] at HS
      clear hd k0 k1 k2 k3 k5
      generalize R[k].1.data.length = dn at *
      have hki : (0 : Int) ≤ (k : Int) := Int.natCast_nonneg _
      go_wp2_with fail
      go_round
      case rel => exact ⟨k + 1, n + 8 + dn, by omega, by omega, by go_num, by go_num, by omega, .inl (by omega), Lib.hid (by rw [HS.out]; omega)⟩
      case measure => simp [intOf]; omega
    · have HN2 : Hid (usedP (R.map Prod.fst) = n) := Lib.hid (by rw [← HN.out, List.take_of_length_le (by simp; omega)])
      go_wp2_with fail
      go_ret
      exact ⟨by rw [HN2.out]; rfl, rfl⟩
theorem rNew (s : Int) : Calls Try.prog 11 #[.int .i64 s] w fun e w' => ∃ b, e = .returned (.pointer (some ⟨b, 0, none⟩)) ∧ Hep RT (Since w w') w' b (two s) ∧ Upd (fun _ => False) w w' := by
  go_enter Try.func11, Try.ntmps11
  go_wp2_with fail
  go_ret
  refine ⟨_, rfl, ?_, ?_⟩
  · exact two_hp RT (by decide) w w (Upd.refl _ _) s _ 2 rfl rfl _ _ rfl rfl
  · exact (Upd.alloc _ _ _).trans (Upd.alloc _ _ _) (fun _ h _ => h)
theorem rAt_no (h : Hp RT F w b sz av R) (hl : R.length ≤ 1000) (ref : Int) (hr : hasB R.length ref = false) : Calls Try.prog 12 #[.pointer (some ⟨b, 0, none⟩), .int .i64 ref] w fun e w' => e = .returned (.tuple #[zarr, .bool false]) ∧ Upd (fun _ => False) w w' := by
  have hr2 : ref < 1 ∨ (1 ≤ ref ∧ (R.length : Int) < ref) := by simp [hasB] at hr; omega
  have hu := Upd.alloc (fun _ => False) w (.cells #[.int .i64 0, .int .i64 0, .int .i64 0, .bool false, .slice none 0 0] 38)
  obtain ⟨w1, hw1⟩ : ∃ w1, w1 = w.alloc (.cells #[.int .i64 0, .int .i64 0, .int .i64 0, .bool false, .slice none 0 0] 38) := ⟨_, rfl⟩
  have hx : w1.heap[w.heap.size]? = some (.cells #[.int .i64 0, .int .i64 0, .int .i64 0, .bool false, .slice none 0 0] 38 (0, 0)) := by
    rw [hw1]; exact hpTop _ _ _ rfl
  rw [← hw1] at hu
  have H1 := h.upd hu (fun _ _ h => h)
  obtain ⟨h0, h1, h2⟩ := H1.bx
  obtain ⟨a, c, rfl⟩ := h.len
  obtain ⟨c0, c1, c2, c3, c4, cf⟩ := five hx
  have f0 := cf 0; have f1 := cf 1; have f2 := cf 2; have f3 := cf 3; have f4 := cf 4
  have HU := Lib.hid hu
  clear cf hx hr h H1 hu h0 h2
  subst hw1
  rcases hr2 with hr2 | ⟨hr2, hr3⟩
  all_goals
    go_enter Try.func12, Try.ntmps12
    go_wp2_with fail
    refine bodyPost_ret (v := .tuple #[zarr, .bool false]) (by simp only [results, Try.f12]; simp [go_sem, zarr, c0, c1, c2, c3, c4, f0, f1, f2, f3, f4]) rfl ?_
    clear c0 c1 c2 c3 c4 f0 f1 f2 f3 f4
    exact ⟨rfl, Upd.alloc _ _ _⟩
theorem rAt (h : Hp RT F w b sz av R) (hl : R.length ≤ 1000) {i : Nat} (hi : i < R.length) : Calls Try.prog 12 #[.pointer (some ⟨b, 0, none⟩), .int .i64 ((i : Int) + 1)] w fun e w' => ∃ a c, R[i].2 = .slice a R[i].1.data.length c ∧ e = .returned (.tuple #[aval R[i].1 (.slice a R[i].1.data.length c), .bool true]) ∧ Upd (fun _ => False) w w' := by
  obtain ⟨w1, hw1⟩ : ∃ w1, w1 = w.alloc (.cells #[.int .i64 0, .int .i64 0, .int .i64 0, .bool false, .slice none 0 0] 38) := ⟨_, rfl⟩
  have hu : Upd (fun _ => False) w w1 := by rw [hw1]; exact Upd.alloc _ _ _
  have hx : w1.heap[w.heap.size]? = some (.cells #[.int .i64 0, .int .i64 0, .int .i64 0, .bool false, .slice none 0 0] 38 (0, 0)) := by
    rw [hw1]; exact hpTop _ _ _ rfl
  have H1 := h.upd hu (fun _ _ h => h)
  obtain ⟨h0, h1, h2⟩ := H1.bx
  obtain ⟨g, c', hv, k0, k1, k2, k3, k4, k5⟩ := H1.at hi
  obtain ⟨da, dc, hd, -, -⟩ := H1.dslice hi
  obtain ⟨a, c, rfl⟩ := h.len
  simp at hv
  obtain ⟨rfl, rfl⟩ := hv
  rw [hd] at k4
  have HD := Lib.hid hd
  obtain ⟨c0, c1, c2, c3, c4, cf⟩ := five hx
  have f0 := cf 0; have f1 := cf 1; have f2 := cf 2; have f3 := cf 3; have f4 := cf 4
  have HW := Lib.hid hw1
  clear cf hx hd H1 hu h0 h2 h hw1 k5
  obtain ⟨p, hp⟩ : ∃ p, p = R[i] := ⟨_, rfl⟩
  rw [← hp] at k0 k1 k2 k3 k4 HD ⊢
  obtain ⟨⟨own1, lab1, life1, sh1, ys⟩, pd⟩ := p
  simp only [aval] at k0 k1 k2 k3 k4 HD ⊢
  clear hp
  have hw2 : IntKind.i64.wrap (i : Int) = (i : Int) := IntWalk.i64_in _ (by omega)
  have hi3 : (0 : Int) ≤ (i : Int) := Int.natCast_nonneg _
  have hi4 : (i : Int) < (R.length : Int) := by omega
  have hx2 := HW.out
  subst hx2
  go_enter Try.func12, Try.ntmps12
  go_wp2_with fail
  refine bodyPost_ret (v := .tuple #[.agg #[.int .i64 own1, .int .i64 lab1, .int .i64 life1, .bool sh1, .slice da ys.length dc], .bool true]) (by simp only [results, Try.f12]; simp [go_sem, c0, c1, c2, c3, c4, f0, f1, f2, f3, f4]) rfl ?_
  clear c0 c1 c2 c3 c4 f0 f1 f2 f3 f4 k0 k1 k2 k3 k4
  exact ⟨da, dc, HD.out, rfl, Upd.alloc _ _ _⟩
end
theorem rSame (own lab life : Int) (sh : Bool) (d1 d2 : Value) (ys : List Int) (w : World) (h1 : Vw w d1 ys) (h2 : Vw w d2 ys) : Calls Try.prog 42 #[.agg #[.int .i64 own, .int .i64 lab, .int .i64 life, .bool sh, d1], .agg #[.int .i64 own, .int .i64 lab, .int .i64 life, .bool sh, d2]] w fun e w' => e = .returned (.bool true) ∧ Upd (fun _ => False) w w' := by
  obtain ⟨a1, c1, rfl, -, -⟩ := h1.slice
  obtain ⟨a2, c2, rfl, -, -⟩ := h2.slice
  obtain ⟨w1, hw1⟩ : ∃ w1, w1 = (w.alloc (.cells #[.int .i64 own, .int .i64 lab, .int .i64 life, .bool sh, .slice a1 ys.length c1] 38)).alloc (.cells #[.int .i64 own, .int .i64 lab, .int .i64 life, .bool sh, .slice a2 ys.length c2] 38) := ⟨_, rfl⟩
  have hu : Upd (fun _ => False) w w1 := by rw [hw1]; exact (Upd.alloc _ _ _).trans (Upd.alloc _ _ _) (fun _ h _ => h)
  have e1 := run_str (P := Try.prog) Try.underlying31 Try.underlying5 Try.underlying9 (h1.upd hu (fun _ _ h => h))
  have e2 := run_str (P := Try.prog) Try.underlying31 Try.underlying5 Try.underlying9 (h2.upd hu (fun _ _ h => h))
  have hbq : ((strOfNums ys).toList == (strOfNums ys).toList) = true := by simp
  have HU := Lib.hid hu
  clear h1 h2 hu
  generalize strOfNums ys = st at *
  generalize ys.length = n at *
  subst hw1
  go_enter Try.func42, Try.ntmps42
  go_wp2_with fail
  go_ret
  exact ⟨rfl, HU.out⟩

theorem setFrom_snoc {α : Type} : ∀ (vs xs : List α) (o : Nat) (v : α), setFrom xs o (vs ++ [v]) = (setFrom xs o vs).set (o + vs.length) v
  | [], xs, o, v => rfl
  | u :: r, xs, o, v => by
    show setFrom (xs.set o u) (o + 1) (r ++ [v]) = _
    rw [setFrom_snoc r (xs.set o u) (o + 1) v]
    show _ = (setFrom (xs.set o u) (o + 1) r).set (o + (r.length + 1)) v
    rw [show o + 1 + r.length = o + (r.length + 1) by omega]
theorem setFrom_byte : ∀ (vs xs : List Int) (o : Nat), (∀ y ∈ xs, 0 ≤ y ∧ y ≤ 255) → (∀ y ∈ vs, 0 ≤ y ∧ y ≤ 255) → ∀ y ∈ setFrom xs o vs, 0 ≤ y ∧ y ≤ 255
  | [], xs, o, hx, hv => hx
  | v :: r, xs, o, hx, hv => setFrom_byte r (xs.set o v) (o + 1) (fun y hy => by
      rcases List.mem_or_eq_of_mem_set hy with h | rfl
      · exact hx y h
      · exact hv y (by simp)) (fun y hy => hv y (by simp [hy]))
theorem hpSrcRow {w : World} {base : Nat} {e : TypeId} {size : Nat} {v : Value} {n : Nat} {xs : List Value} (h : w.ownsRow base e size v n xs) (h1 : ∀ u ∈ xs, u.oneCell' = true) : Src w size v n xs := by
  rcases h.2 with ⟨rfl, rfl⟩ | ⟨g, cap, cur, rfl, _⟩
  · exact .inl ⟨rfl, rfl, List.eq_nil_of_length_eq_zero (by simpa using h.1)⟩
  · exact .inr ⟨⟨g, 0, none⟩, cap, rfl, h.1, h.cells (g := g) rfl, h1⟩
theorem freshRow {w w3 : World} {o : Obj} {v3 : Value} (hg : (w.alloc o).grownBy w3 (Value.slice (some ⟨w.heap.size, 0, none⟩) 0 0).ownBlock) (hf : Fresh (w.alloc o) (.slice (some ⟨w.heap.size, 0, none⟩) 0 0) v3) :
    Upd (fun _ => False) w w3 ∧ ∀ k, v3.ownBlock = some k → w.heap.size ≤ k := by
  refine ⟨?_, fun k hk => ?_⟩
  · exact (Upd.alloc _ w _).trans (T := fun k => k = w.heap.size) (Upd.grown hg (fun k hk => .inl (by simpa [Value.ownBlock] using hk.symm))) (fun i hi hlt => by omega)
  · rcases hf k hk with h | h
    · simp [Value.ownBlock] at h
      omega
    · simp at h
      omega
theorem rowHead {w : World} {base : Nat} {e : TypeId} {size n : Nat} {v : Value} {xs : List Value} (h : w.ownsRow base e size v n xs) (h0 : 0 < n) : ∃ g c, v = .slice (some ⟨g, 0, none⟩) n c ∧ g < w.heap.size := by
  rcases h.2 with ⟨_, h1⟩ | ⟨g, cap, cur, rfl, _, hg, _⟩
  · omega
  · exact ⟨g, cap, rfl, (Array.getElem?_eq_some_iff.1 hg).1⟩
theorem rowCell {w : World} {base : Nat} {e : TypeId} {size n g c : Nat} {xs : List Value} (h : w.ownsRow base e size (.slice (some ⟨g, 0, none⟩) n c) n xs) {j : Nat} {u : Value} (hu : xs[j]? = some u) : w.cell? ⟨g, j, none⟩ = some u := by
  have := h.cells (g := g) rfl j u hu
  rw [addr_add, Nat.zero_add] at this
  exact this
section
variable {F : Nat → Prop} {w : World} {b : Nat} {sz : Int} {av : Value} {R : List (ArrM × Value)}
theorem Hp.one (h : Hp RT F w b sz av R) : ∀ u ∈ R.flatMap acl, u.oneCell' = true :=
  acl_one R (fun p hp => by
    obtain ⟨a, c, he⟩ := ownsRow_slice (h.dat p hp).row
    rw [he]; rfl)
/-- the reference's way: a new list, in which one array has new bytes -/
theorem rSwap (h : Hp RT F w b sz av R) {i : Nat} (hi : i < R.length) {w4 : World} {v3 d : Value} {ys : List Int} (hu : Upd (fun k => w.heap.size ≤ k) w w4)
    (hrow : w4.ownsRow 0 38 5 v3 R.length ((R.flatMap acl).set (i * 5 + 4) d)) (hd : w4.ownsRow 0 5 1 d ys.length (bv ys)) (hy : ∀ y ∈ ys, 0 ≤ y ∧ y ≤ 255) (hl : ys.length ≤ 64)
    (hnd : ∀ k, d.ownBlock = some k → w.heap.size ≤ k) (hn3 : ∀ k, v3.ownBlock = some k → w.heap.size ≤ k) :
    Hp RT (More F w (w4.setCell ⟨b, 1, none⟩ v3)) (w4.setCell ⟨b, 1, none⟩ v3) b sz v3 (R.set i (R[i].1.put ys, d)) ∧ Upd F w (w4.setCell ⟨b, 1, none⟩ v3) := by
  have hsz : (w4.setCell ⟨b, 1, none⟩ v3).heap.size = w4.heap.size := by simp [World.setCell]
  have hs := hu.size
  have hbl := (Array.getElem?_eq_some_iff.1 h.box).1
  refine ⟨?_, ?_⟩
  · refine Hp.turn (hpBlk hu h.box (by omega)) (.inl h.fb) (fun k hk => ?_) (by decide) (by decide) _ _ ?_ (fun p hp => ?_) ?_ (fun k hk => .inr ⟨hn3 k hk, by rw [hsz]; exact hpRowLt hrow k hk⟩)
    · rcases hk with hk | hk
      · exact Nat.lt_of_lt_of_le (h.lt k hk) hs
      · rw [hsz] at hk; exact hk.2
    · rw [List.length_set, acl_set R i hi]
      exact hrow
    · obtain ⟨k, hk, rfl⟩ := List.mem_iff_getElem.1 hp
      rw [List.length_set] at hk
      rw [List.getElem_set]
      split
      · exact ⟨hd, hy, fun q hq => .inr ⟨hnd q hq, by rw [hsz]; exact hpRowLt hd q hq⟩, hl⟩
      · have hm := h.dat _ (List.getElem_mem hk)
        exact (hm.upd hu (fun q hq hq' => by have := h.lt q (hm.inn q hq); omega)).wide (fun q hq => .inl hq)
    · rw [List.pairwise_iff_getElem]
      intro k l hk hl' hkl q hq hq'
      rw [List.length_set] at hk hl'
      rw [List.getElem_set] at hq hq'
      split at hq <;> split at hq'
      · omega
      · have h1 := hnd q hq
        have h2 := h.lt q ((h.dat _ (List.getElem_mem hl')).inn q hq')
        omega
      · have h1 := hnd q hq'
        have h2 := h.lt q ((h.dat _ (List.getElem_mem hk)).inn q hq)
        omega
      · exact List.pairwise_iff_getElem.1 h.ap k l hk hl' hkl q hq hq'
  · refine hpS ?_ h.fb
    exact ⟨hu.os, hu.tape, hu.output, hu.size, fun k hk hF => hu.block k hk (by omega)⟩
set_option maxHeartbeats 1000000 in
theorem rSet (h : Hp RT F w b sz av R) (hl : R.length ≤ 1000) {i : Nat} (hi : i < R.length) (hi2 : i < 2) (v : Value) (ys : List Int) (hv : Vw w v ys) (hl64 : ys.length ≤ 64) :
    Calls Try.prog 18 #[.pointer (some ⟨b, 0, none⟩), .int .i64 ((i : Int) + 1), v] w fun e w' => e = .returned (.bool true) ∧ (∃ av' d, Hp RT (More F w w') w' b sz av' (R.set i (R[i].1.put ys, d))) ∧ Upd F w w' := by
  obtain ⟨va, vc, rfl, -, -⟩ := hv.slice
  obtain ⟨i0, hi0, hz0, hz1, hz2⟩ := info_parts b8Info
  obtain ⟨j0, hj, hy0, hy1, hy2⟩ := info_parts arrInfo
  have H := Lib.hid h
  have HV := Lib.hid hv
  obtain ⟨h0, h1, h2⟩ := h.bx
  obtain ⟨aa, ac, rfl⟩ := h.len
  have hbl : b < w.heap.size := (Array.getElem?_eq_some_iff.1 h.box).1
  have HRW := Lib.hid (World.ownsRow_lit (base := 0) (e := 38) (size := 5) w #[] 0 (Nat.zero_le _) (by unfold maxLen; omega) rfl)
  have HSR := Lib.hid ((hpSrcRow h.row h.one).upd (Upd.alloc (fun _ => False) w (.cells #[] 38)) (fun _ _ h => h))
  have hi3 : (0 : Int) ≤ (i : Int) := Int.natCast_nonneg _
  have hi4 : (i : Int) < (R.length : Int) := by omega
  clear h hv h0 h2
  generalize hn : ys.length = n at *
  have HN := Lib.hid hn
  clear hn
  go_enter Try.func18, Try.ntmps18
  go_wp2_with (at_builtin; go_loud (refine wpList_append_mine _ rfl _ _ 34 rfl 0 38 j0 zarr 5 56 Try.underlying34 hj hy0 hy1 hy2 rfl (by decide) (.slice (some ⟨w.heap.size, 0, none⟩) 0 0) 0 [] rfl HRW.out R.length (R.flatMap acl) HSR.out (by unfold maxLen; omega) (by omega) (Nat.zero_le _) ?_))
  intro v3 w3 ho hg hf
  obtain ⟨hu3, hn3⟩ := freshRow hg hf
  obtain ⟨g3, c3, rfl, hgl3⟩ := rowHead ho (by omega)
  have H3 := H.out.upd hu3 (fun _ _ h => h)
  have HO3 := Lib.hid ho
  have hg3 := hn3 g3 rfl
  have HV3 := Lib.hid (HV.out.upd hu3 (fun _ _ h => h))
  have HBR := Lib.hid (World.ownsRow_lit (base := 0) (e := 5) (size := 1) w3 #[] 0 (Nat.zero_le _) (by unfold maxLen; omega) rfl)
  have HBS := Lib.hid (HV3.out.src.upd (Upd.alloc (fun _ => False) w3 (.cells #[] 5)) (fun _ _ h => h))
  rw [HN.out] at HBS
  have HU3 := Lib.hid hu3
  have hw1 : IntKind.i64.wrap (i : Int) = (i : Int) := IntWalk.i64_in _ (by omega)
  clear ho hg hf hu3 hn3 H3
  go_wp2_with (at_builtin; go_loud (refine wpList_append_mine _ rfl _ _ 31 rfl 0 5 i0 (.int .u8 0) 1 1 Try.underlying31 hi0 hz0 hz1 hz2 rfl (by decide) (.slice (some ⟨w3.heap.size, 0, none⟩) 0 0) 0 [] rfl HBR.out n (bv ys) HBS.out (by unfold maxLen; omega) (by omega) (Nat.zero_le _) ?_))
  intro d w5 ho hg hf
  obtain ⟨hu5, hn5⟩ := freshRow hg hf
  obtain ⟨da, dc, rfl⟩ := ownsRow_slice ho
  have hb5 := hpBlk (HU3.out.trans hu5 (fun _ h _ => h)) H.out.box (fun h => h)
  have c1 : w5.cell? ⟨b, 1, none⟩ = some (.slice aa R.length ac) := by simp [World.cell?, hb5]
  have f1 : w5.frozen? ⟨b, 1, none⟩ = false := by simp [World.frozen?, hb5]
  have hr5 := ownsRow_upd HO3.out hu5 (fun _ _ h => h)
  have c4 : w5.cell? ⟨g3, i * 5 + 4, none⟩ = some R[i].2 := rowCell hr5 (by rw [acl_at R i 4 hi (by omega)]; rfl)
  have f4 : w5.frozen? ⟨g3, i * 5 + 4, none⟩ = false := hpFrozen hr5 _
  obtain ⟨oa, oc, hod, -, -⟩ := H.out.dslice hi
  rw [hod] at c4
  have hbg : ¬ b = g3 := by omega
  have hgb : ¬ g3 = b := by omega
  have HO5 := Lib.hid ho
  have HR5 := Lib.hid (hpSet hr5 (i * 5 + 4) (.slice da n dc))
  have HU5 := Lib.hid (HU3.out.trans hu5 (fun _ h _ => h))
  have HN5 := Lib.hid hn5
  have s3 := HU3.out.size
  have HS3 := Lib.hid s3
  clear ho hg hf hu5 hn5 hr5 hb5 hod s3
  go_wp2_with fail
  go_ret
  clear c1 c4 f1 f4 h1
  have hsw := rSwap H.out hi (w4 := w5.setCell ⟨g3, i * 5 + 4, none⟩ (.slice da n dc)) (v3 := .slice (some ⟨g3, 0, none⟩) R.length c3) (d := .slice da n dc) (ys := ys) (hpS (HU5.out.mono (fun _ h _ => h.elim)) hg3) HR5.out
    (by rw [HN.out]; exact ownsRow_upd HO5.out (Upd.setCell (S := fun k => k = g3) w5 (.inl rfl) _) (fun k hk hk' => by have := HN5.out k hk; omega)) HV.out.1 (by rw [HN.out]; exact hl64) (fun k hk => by have := HN5.out k hk; have := HS3.out; omega) (fun k hk => by simp [Value.ownBlock] at hk; omega)
  exact ⟨rfl, ⟨_, _, hsw.1⟩, hsw.2⟩
end
end Go.Proofs.Yteapemjkfncbjaa

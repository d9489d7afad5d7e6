/- Package room: the bytes of a span; an array's length; a byte. -/
import Derived.Test.YtdmadfahgkikkaaGreatQbk
import Derived.Deep.RegionLaw
namespace Go.Proofs.YtdmadfahgkikkaaGreat
open Go.RowKit Go.Lib Go.ChangeShapes Go.WideShapes Go.Deep
set_option linter.unusedVariables false
set_option linter.unusedSimpArgs false

theorem rng_fine {L : List ArrM} {ref at_ n ap : Int} (h : rngP L ref at_ n ap = 36864) : ∃ i a k : Nat, i < L.length ∧ ref = (i : Int) + 1 ∧ at_ = (a : Int) ∧ n = (k : Int) ∧ a + k ≤ (L.getD i default).data.length ∧ mayB (L.getD i default) ap = true := by
  unfold rngP at h
  split at h
  · rename_i hc
    split at h
    · rename_i hi
      rcases chk_three L ref ap with ⟨-, e, -⟩ | ⟨i, hi2, rfl, ⟨-, e, -⟩ | ⟨hm, -, e2⟩⟩
      · omega
      · omega
      · rw [e2] at hi
        simp [winB] at hi
        refine ⟨i, at_.toNat, n.toNat, hi2, rfl, by omega, by omega, ?_, hm⟩
        simp only [List.getD_eq_getElem?_getD] at hi ⊢
        omega
    · omega
  · rename_i hc
    exact absurd h hc
theorem chk_fine {L : List ArrM} {ref ap : Int} (h : chkP L ref ap = 36864) : ∃ i : Nat, i < L.length ∧ ref = (i : Int) + 1 ∧ mayB (L.getD i default) ap = true := by
  rcases chk_three L ref ap with ⟨-, e, -⟩ | ⟨i, hi2, rfl, ⟨-, e, -⟩ | ⟨hm, -, -⟩⟩
  · omega
  · omega
  · exact ⟨i, hi2, rfl, hm⟩
/-- a piece of a view -/
theorem vw_cut {w : World} {a a' : Option Addr} {c : Nat} {ys : List Int} (h : Vw w (.slice a ys.length c) ys) (lo n : Nat) (hl : lo + n ≤ ys.length) (ha : (c = lo ∧ a' = a) ∨ (c ≠ lo ∧ a' = a.map (·.add lo))) :
    Vw w (.slice a' n (c - lo)) ((ys.drop lo).take n) := by
  have hd : Vw w (.slice a' (ys.length - lo) (c - lo)) (ys.drop lo) := by
    rcases h.2 with ⟨⟨a0, he⟩, hys⟩ | ⟨g, off, c1, he, h1, h2, h3⟩
    · simp at he
      obtain ⟨rfl, hl0, rfl⟩ := he
      subst hys
      exact ⟨by simp, .inl ⟨⟨a', by simp⟩, by simp⟩⟩
    · simp at he
      obtain ⟨rfl, rfl⟩ := he
      have hg : ∃ off', a' = some ⟨g, off', none⟩ ∧ (lo < ys.length → off' = off + lo) := by
        rcases ha with ⟨e, rfl⟩ | ⟨_, rfl⟩
        · exact ⟨off, rfl, fun hlt => by omega⟩
        · exact ⟨off + lo, by simp [addr_add], fun _ => rfl⟩
      obtain ⟨off', rfl, ho⟩ := hg
      exact h.drop rfl lo (by omega) off' ho
  rw [show ys.length - lo = (ys.drop lo).length by simp] at hd
  exact hd.take rfl n (by simp; omega)
theorem blk_same (a : Option Addr) (n c n' c' : Nat) : (Value.slice a n c).ownBlock = (Value.slice a n' c').ownBlock := by cases a <;> rfl
theorem blk_map (a : Option Addr) (j n c n' c' : Nat) : (Value.slice (a.map (fun x => x.add j)) n c).ownBlock = (Value.slice a n' c').ownBlock := by
  cases a with
  | none => rfl
  | some x => simp [Value.ownBlock, Addr.add]; split <;> rfl
theorem news5 {w1 w2 : World} (h : Upd (fun _ => False) w1 w2) (v0 v1 v2 v3 v4 : Value) : Upd (fun _ => False) w1 (((((w2.setCell ⟨w1.heap.size, 0, none⟩ v0).setCell ⟨w1.heap.size, 1, none⟩ v1).setCell ⟨w1.heap.size, 2, none⟩ v2).setCell ⟨w1.heap.size, 3, none⟩ v3).setCell ⟨w1.heap.size, 4, none⟩ v4) :=
  h.trans (T := fun k => k = w1.heap.size) (hpS (hpS (hpS (hpS (hpS (Upd.refl _ _) rfl) rfl) rfl) rfl) rfl) (fun k hk hl => by omega)
section
variable {c : Nat → Nat} {w : World} {rb : Nat} {M : RmM}
set_option maxRecDepth 100000 in
set_option maxHeartbeats 1000000 in
theorem rRead (h : Rm c w rb M) {i a k : Nat} (hi : i < M.hp.arrs.length) (hk : a + k ≤ (M.hp.arrs.getD i default).data.length) :
    Calls Tryz.prog 99 #[.pointer (some ⟨rb, 0, none⟩), .agg #[.int .i64 ((i : Int) + 1), .int .i64 a, .int .i64 k]] w fun e w' => ∃ v, e = .returned v ∧ Vw w' v (((M.hp.arrs.getD i default).data.drop a).take k) ∧ Upd (fun _ => False) w w' ∧ ∀ b, v.ownBlock = some b → w.heap.size ≤ b := by
  obtain ⟨hb, iv, fv, pv, sv, ivs, fvs, h⟩ := h
  have hdl := hep_dl h.hp hi
  have hby : ∀ y ∈ (M.hp.arrs.getD i default).data, 0 ≤ y ∧ y ≤ 255 := by
    obtain ⟨av, R, hh, hR⟩ := h.hp
    obtain ⟨hr, e⟩ := fst_at hR hi
    rw [← e]
    exact (hh.dat _ (List.getElem_mem hr)).byt
  have hfew := h.ok.few
  obtain ⟨w1, hw1⟩ : ∃ w1, w1 = w.alloc (.cells #[.int .i64 ((i : Int) + 1), .int .i64 a, .int .i64 k] 132) := ⟨_, rfl⟩
  have hu1 : Upd (fun _ => False) w w1 := by rw [hw1]; exact Upd.alloc _ _ _
  have hx1 : w1.heap[w.heap.size]? = some (.cells #[.int .i64 ((i : Int) + 1), .int .i64 a, .int .i64 k] 132 (0, 0)) := by rw [hw1]; exact hpTop _ _ _ rfl
  have HA : Hid (∀ u, Upd (fun _ => False) w1 u → Calls Tryz.prog 95 #[.pointer (some ⟨hb, 0, none⟩), .int .i64 ((i : Int) + 1)] u fun e w' => ∃ d, e = .returned (.tuple #[aval (M.hp.arrs.getD i default) d, .bool true]) ∧ New u d (M.hp.arrs.getD i default).data w') :=
    Lib.hid (fun u hu => pArray (h.quiet (hu1.trans hu (fun _ h _ => h))).hp hi (by omega))
  have HB : Hid (∀ u, Upd (fun _ => False) w1 u → u.cell? ⟨rb, 2, none⟩ = some (.pointer (some ⟨hb, 0, none⟩)) ∧ u.cell? ⟨w.heap.size, 0, none⟩ = some (.int .i64 ((i : Int) + 1)) ∧ u.cell? ⟨w.heap.size, 1, none⟩ = some (.int .i64 a) ∧ u.cell? ⟨w.heap.size, 2, none⟩ = some (.int .i64 k)) :=
    Lib.hid (fun u hu => by
      obtain ⟨e0, e1, e2, -⟩ := three (hpBlk hu hx1 (fun h => h))
      exact ⟨(h.quiet (hu1.trans hu (fun _ h _ => h))).bx.2.2.1, e0, e1, e2⟩)
  have HD := Lib.hid (Upd.drew (fun _ => False) w1)
  have HD2 : Hid (∀ o, Upd (fun _ => False) w1 (w1.alloc o).drew) := Lib.hid (fun o => (Upd.alloc _ _ _).trans (Upd.drew _ _) (fun _ h _ => h))
  have HT2 : Hid (∀ u C t, Upd (fun _ => False) (w1.alloc (.cells C t)).drew u → u.heap[w1.heap.size]? = some (.cells C t (0, 0))) := Lib.hid (fun u C t hu => hpBlk hu (by show (w1.alloc (.cells C t)).heap[w1.heap.size]? = _; exact hpTop _ _ _ rfl) (fun h => h))
  have HU1 := Lib.hid hu1
  have HW1 := Lib.hid hw1
  have HBY := Lib.hid hby
  have hwr : IntKind.i64.wrap ((a : Int) + (k : Int)) = (a : Int) + (k : Int) := IntWalk.i64_in _ (by omega)
  clear h hw1 hu1 hx1 hby
  generalize M.hp.arrs.getD i default = x at *
  obtain ⟨own, lab, life, sh, ys⟩ := x
  simp only at hk hdl HBY HA ⊢
  go_enter Tryz.func99, Tryz.ntmps99
  go_wp2_with fail
  rw [← HW1.out]
  go_region_held3 (fun w' => w'.cell? ⟨rb, 2, none⟩ = some (.pointer (some ⟨hb, 0, none⟩)) ∧ w'.cell? ⟨w.heap.size, 0, none⟩ = some (.int .i64 ((i : Int) + 1)) ∧ w'.cell? ⟨w.heap.size, 1, none⟩ = some (.int .i64 a) ∧ w'.cell? ⟨w.heap.size, 2, none⟩ = some (.int .i64 k)) (first
    | with_reducible exact HB.out _ HD.out
    | with_reducible exact HB.out _ (HD2.out _)
    | with_reducible exact HB.out _ HX2.out
    | with_reducible exact HB.out _ (HX3.out _)
    | with_reducible exact HB.out _ (HX4.out _ _ _ _ _)) (first
    | (go_at_call 95; (refine (HA.out _ HD.out).mono ?_); rintro e w2 ⟨d, rfl, hn⟩; have HN := Lib.hid hn; have hx2 := HD.out.trans hn.2.1 (fun _ h _ => h); have HX2 := Lib.hid hx2; have HX3 := Lib.hid (fun o => hx2.trans (Upd.alloc (fun _ => False) w2 o) (fun _ h _ => h)); obtain ⟨da, dc, rfl⟩ := ownsRow_slice hn.1; clear hn hx2; simp only [aval])
    | (go_at_call 95; (refine (HA.out _ (HD2.out _)).mono ?_); rintro e w2 ⟨d, rfl, hn⟩; have HN := Lib.hid hn; have hx2 := (HD2.out _).trans hn.2.1 (fun _ h _ => h); have HX2 := Lib.hid hx2; have HX4 := Lib.hid (news5 hx2); have HZ := Lib.hid (HT2.out _ _ _ hn.2.1); obtain ⟨k0, k1, k2, k3, k4, kf⟩ := five HZ.out; obtain ⟨da, dc, rfl⟩ := ownsRow_slice hn.1; have f0 := kf 0; have f1 := kf 1; have f2 := kf 2; have f3 := kf 3; have f4 := kf 4; clear hn hx2 kf; simp only [aval]))
  · obtain ⟨u, hu⟩ : ∃ u, u = w2.alloc (.cells #[.int .i64 own, .int .i64 lab, .int .i64 life, .bool sh, .slice da ys.length dc] 89) := ⟨_, rfl⟩
    have hq : u.heap[w2.heap.size]? = some (.cells #[.int .i64 own, .int .i64 lab, .int .i64 life, .bool sh, .slice da ys.length dc] 89 (0, 0)) := by rw [hu]; exact hpTop _ _ _ rfl
    have hxu : Upd (fun _ => False) w2 u := by rw [hu]; exact Upd.alloc _ _ _
    obtain ⟨-, -, -, -, e4, -⟩ := five hq
    obtain ⟨b0, b1, b2, b3⟩ := HB.out u (HX2.out.trans hxu (fun _ h _ => h))
    rw [← hu]
    have hv := (HN.out.vw HBY.out).upd hxu (fun _ _ h => h)
    obtain ⟨_, _, he, hc1, hc2⟩ := hv.slice
    simp at he
    obtain ⟨rfl, rfl⟩ := he
    have HV := Lib.hid hv
    have HXU := Lib.hid (HU1.out.trans (HX2.out.trans hxu (fun _ h _ => h)) (fun _ h _ => h))
    have HNB := Lib.hid (fun b hb => Nat.le_trans HU1.out.size (HN.out.2.2 b hb))
    clear hu hq hxu hv
    unfold maxLen at hc2
    go_wp2_with fail
    all_goals go_ret
    · rename_i h
      have hv := vw_cut HV.out a k hk (.inl ⟨h, rfl⟩)
      rw [show dc - a = 0 by omega] at hv
      exact ⟨.slice da k 0, rfl, hv, HXU.out, fun b hb => HNB.out b ((blk_same da ys.length dc k 0).trans hb)⟩
    · rename_i h
      exact ⟨.slice (da.map (fun x => x.add a)) k (dc - a), rfl, vw_cut HV.out a k hk (.inr ⟨h, rfl⟩), HXU.out, fun b hb => HNB.out b ((blk_map da a k (dc - a) ys.length dc).symm.trans hb)⟩
  · obtain ⟨u, hu⟩ : ∃ u, u = (((((w2.setCell ⟨w1.heap.size, 0, none⟩ (.int .i64 own)).setCell ⟨w1.heap.size, 1, none⟩ (.int .i64 lab)).setCell ⟨w1.heap.size, 2, none⟩ (.int .i64 life)).setCell ⟨w1.heap.size, 3, none⟩ (.bool sh)).setCell ⟨w1.heap.size, 4, none⟩ (.slice da ys.length dc)) := ⟨_, rfl⟩
    have hxu : Upd (fun k => k = w1.heap.size) w2 u := by
      rw [hu]
      iterate 5 refine hpS ?_ rfl
      exact Upd.refl _ _
    have hq : u.heap[w1.heap.size]? = some (.cells #[.int .i64 own, .int .i64 lab, .int .i64 life, .bool sh, .slice da ys.length dc] 89 (0, 0)) := by rw [hu]; simp [World.setCell, Array.getElem?_modify, HZ.out]
    obtain ⟨-, -, -, -, e4, -⟩ := five hq
    have hw1u : Upd (fun _ => False) w1 u := by rw [hu]; exact HX4.out _ _ _ _ _
    obtain ⟨b0, b1, b2, b3⟩ := HB.out u hw1u
    rw [← hu]
    have hv := (HN.out.vw HBY.out).upd hxu (fun q hq hq' => by
      have h1 : (w1.alloc (.cells #[.int .i64 0, .int .i64 0, .int .i64 0, .bool false, .slice none 0 0] 89)).heap.size ≤ q := HN.out.2.2 q hq
      simp at h1
      omega)
    obtain ⟨_, _, he, hc1, hc2⟩ := hv.slice
    simp at he
    obtain ⟨rfl, rfl⟩ := he
    have HV := Lib.hid hv
    have HXU := Lib.hid (HU1.out.trans hw1u (fun _ h _ => h))
    have HNB := Lib.hid (fun b hb => Nat.le_trans HU1.out.size (Nat.le_trans (HD2.out _).size (HN.out.2.2 b hb)))
    clear hu hq hxu hv hw1u k0 k1 k2 k3 k4 f0 f1 f2 f3 f4
    unfold maxLen at hc2
    go_wp2_with fail
    all_goals go_ret
    · rename_i h
      have hv := vw_cut HV.out a k hk (.inl ⟨h, rfl⟩)
      rw [show dc - a = 0 by omega] at hv
      exact ⟨.slice da k 0, rfl, hv, HXU.out, fun b hb => HNB.out b ((blk_same da ys.length dc k 0).trans hb)⟩
    · rename_i h
      exact ⟨.slice (da.map (fun x => x.add a)) k (dc - a), rfl, vw_cut HV.out a k hk (.inr ⟨h, rfl⟩), HXU.out, fun b hb => HNB.out b ((blk_map da a k (dc - a) ys.length dc).symm.trans hb)⟩
end
end Go.Proofs.YtdmadfahgkikkaaGreat

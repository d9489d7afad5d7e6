/- How an argument of type []Step (stage 9) reads; both heaps made of it. -/
import Derived.Test.YteapemjkfncbjaaGb
import Derived.Test.YteapemjkfncbjaaHx
import Derived.Test.YteapemjkfncbjaaHand
import Derived.ProofKit
import Derived.Deep.Slices
import Derived.Deep.Fields
import Derived.ChangeSame
import Derived.Carry
namespace Go.Proofs.Yteapemjkfncbjaa
open Go.RowKit Go.Lib Go.ChangeShapes Go.WideShapes Go.Deep
set_option linter.unusedVariables false
set_option linter.unusedSimpArgs false

structure St9 where
  own : Int
  lab : Int
  life : Int
  n : Int
  sh : Bool
instance : Inhabited St9 := ⟨⟨0, 0, 0, 0, false⟩⟩
def St9At (w : World) (g off : Nat) (s : St9) : Prop :=
  w.cell? ⟨g, off, none⟩ = some (.int .i64 s.own) ∧ w.cell? ⟨g, off + 1, none⟩ = some (.int .i64 s.lab) ∧ w.cell? ⟨g, off + 2, none⟩ = some (.int .i64 s.life) ∧ w.cell? ⟨g, off + 3, none⟩ = some (.int .i64 s.n) ∧ w.cell? ⟨g, off + 4, none⟩ = some (.bool s.sh)
def Sts9At (w : World) (v : Value) (L : List St9) : Prop :=
  ((∃ a c, v = .slice a 0 c) ∧ L = []) ∨ ∃ g off c, v = .slice (some ⟨g, off, none⟩) L.length c ∧ L.length ≤ c ∧ c ≤ maxLen ∧ ∀ i, i < L.length → St9At w g (off + i * 5) (L.getD i default)
theorem St9At.below {W w : World} {g off : Nat} {s : St9} (h : St9At W g off s) (hb : Below W.heap.size W w) : St9At w g off s := by
  obtain ⟨h0, h1, h2, h3, h4⟩ := h
  have hg : g < W.heap.size := World.block_lt_of_cell? W _ h0
  have k := fun q => hb.cell (p := ⟨g, q, none⟩) hg
  exact ⟨(k _).trans h0, (k _).trans h1, (k _).trans h2, (k _).trans h3, (k _).trans h4⟩
theorem Sts9At.below {W w : World} {v : Value} {L : List St9} (h : Sts9At W v L) (hb : Below W.heap.size W w) : Sts9At w v L := by
  rcases h with h | ⟨g, off, c, h1, h2, h3, h4⟩
  · exact .inl h
  · exact .inr ⟨g, off, c, h1, h2, h3, fun i hi => (h4 i hi).below hb⟩
theorem Sts9At.slice {w : World} {v : Value} {L : List St9} (h : Sts9At w v L) : ∃ a c, v = .slice a L.length c := by
  rcases h with ⟨⟨a, c, rfl⟩, rfl⟩ | ⟨g, off, c, rfl, _⟩
  · exact ⟨_, _, rfl⟩
  · exact ⟨_, _, rfl⟩
theorem Sts9At.at {w : World} {a : Option Addr} {n c k : Nat} {L : List St9} (h : Sts9At w (.slice a n c) L) (hk : k < L.length) : ∃ g off, a = some ⟨g, off, none⟩ ∧ n = L.length ∧ g < w.heap.size ∧ St9At w g (off + k * 5) (L.getD k default) := by
  rcases h with ⟨⟨a, c, he⟩, rfl⟩ | ⟨g, off, c, he, _, _, h4⟩
  · simp at hk
  · simp at he
    have h0 := (h4 k hk).1
    exact ⟨g, off, he.1, he.2.1, World.block_lt_of_cell? w _ h0, h4 k hk⟩
theorem cells_st9 : Try.prog.cellsOf 76 = 5 := by kernel_rfl
theorem cells_bool9 : Try.prog.cellsOf 4 = 1 := by kernel_rfl
theorem open_st9 {H : Type} {enc : TypeId × Value → H} {W : World} {n : Nat} {cs : List Value} {x : DataW H × List MemPlace} (h : DataW.trod enc Try.prog W 0 (fun _ => true) true n 76 cs = some x) :
    ∃ c0 c1 c2 c3 c4 y0 y1 y2 y3 y4 m, cs = [c0, c1, c2, c3, c4] ∧ x.1 = .agg [y0.1, y1.1, y2.1, y3.1, y4.1] ∧ DataW.trod enc Try.prog W 0 (fun _ => true) true m 3 [c0] = some y0 ∧ DataW.trod enc Try.prog W 0 (fun _ => true) true m 3 [c1] = some y1 ∧
      DataW.trod enc Try.prog W 0 (fun _ => true) true m 3 [c2] = some y2 ∧ DataW.trod enc Try.prog W 0 (fun _ => true) true m 3 [c3] = some y3 ∧
      DataW.trod enc Try.prog W 0 (fun _ => true) true m 4 [c4] = some y4 := by
  obtain ⟨ys, m, _, rfl, hl, hlen, hg⟩ := DataW.trod_struct Try.underlying76 h
  rw [cells_st9] at hl
  match cs, hl, ys, hlen with
  | [c0, c1, c2, c3, c4], _, [y0, y1, y2, y3, y4], _ =>
    have g0 : DataW.trod enc Try.prog W 0 (fun _ => true) true m 3 (([c0, c1, c2, c3, c4].drop 0).take (Try.prog.cellsOf 3)) = some y0 := hg 0 _ rfl
    have g1 : DataW.trod enc Try.prog W 0 (fun _ => true) true m 3 (([c0, c1, c2, c3, c4].drop 1).take (Try.prog.cellsOf 3)) = some y1 := hg 1 _ rfl
    have g2 : DataW.trod enc Try.prog W 0 (fun _ => true) true m 3 (([c0, c1, c2, c3, c4].drop 2).take (Try.prog.cellsOf 3)) = some y2 := hg 2 _ rfl
    have g3 : DataW.trod enc Try.prog W 0 (fun _ => true) true m 3 (([c0, c1, c2, c3, c4].drop 3).take (Try.prog.cellsOf 3)) = some y3 := hg 3 _ rfl
    have g4 : DataW.trod enc Try.prog W 0 (fun _ => true) true m 4 (([c0, c1, c2, c3, c4].drop 4).take (Try.prog.cellsOf 4)) = some y4 := hg 4 _ rfl
    rw [cells_int] at g0 g1 g2 g3
    rw [cells_bool9] at g4
    exact ⟨c0, c1, c2, c3, c4, y0, y1, y2, y3, y4, m, rfl, rfl, by simpa using g0, by simpa using g1, by simpa using g2, by simpa using g3, by simpa using g4⟩
theorem open_sts9 {H : Type} {enc : TypeId × Value → H} {W : World} {n : Nat} {v : Value} {x : DataW H × List MemPlace} (h : DataW.trod enc Try.prog W 0 (fun _ => true) true n 55 [v] = some x) : ∃ L, Sts9At W v L := by
  rcases open_slice Try.underlying55 h with ⟨hcs, hx⟩ | ⟨a, len, cap, m, n1, D, Pl, hcs, _, hl, hm, hmm, hx, hf⟩
  · simp at hcs
    subst hcs
    exact ⟨[], .inl ⟨⟨_, _, rfl⟩, rfl⟩⟩
  · simp at hcs
    subst hcs
    simp at hmm
    subst hmm
    have each : ∀ i, i < m → ∃ s : St9, W.cell? (a.add (i * 5)) = some (.int .i64 s.own) ∧ W.cell? (a.add (i * 5 + 1)) = some (.int .i64 s.lab) ∧ W.cell? (a.add (i * 5 + 2)) = some (.int .i64 s.life) ∧ W.cell? (a.add (i * 5 + 3)) = some (.int .i64 s.n) ∧ W.cell? (a.add (i * 5 + 4)) = some (.bool s.sh) := by
      intro i hi
      obtain ⟨cs', hc, ht⟩ := hf i hi
      obtain ⟨c0, c1, c2, c3, c4, y0, y1, y2, y3, y4, m1, rfl, hD, t0, t1, t2, t3, t4⟩ := open_st9 ht
      obtain ⟨_, _, hat⟩ := World.cells?_some hc
      rw [cells_st9] at hat
      have a0 := hat 0 (by omega)
      have a1 := hat 1 (by omega)
      have a2 := hat 2 (by omega)
      have a3 := hat 3 (by omega)
      have a4 := hat 4 (by omega)
      rw [Go.Deep.add_add] at a0 a1 a2 a3 a4
      obtain ⟨n0, e0, rfl, w0⟩ := DataW.trod_int Try.underlying3 t0
      obtain ⟨n1, e1, rfl, w1⟩ := DataW.trod_int Try.underlying3 t1
      obtain ⟨n2, e2, rfl, w2⟩ := DataW.trod_int Try.underlying3 t2
      obtain ⟨n3, e3, rfl, w3⟩ := DataW.trod_int Try.underlying3 t3
      obtain ⟨b4, e4, hb4⟩ := DataW.trod_bool Try.underlying4 t4
      simp at e0 e1 e2 e3 e4
      subst e0 e1 e2 e3 e4
      exact ⟨⟨n0, n1, n2, n3, b4⟩, by simpa using a0, by simpa using a1, by simpa using a2, by simpa using a3, by simpa using a4⟩
    by_cases hlen0 : len = 0
    · subst hlen0
      exact ⟨[], .inl ⟨⟨_, _, rfl⟩, rfl⟩⟩
    · have hspot : a.spot = none := by
        obtain ⟨s, hc, _⟩ := each 0 (by omega)
        have := World.cell?_spot hc
        simpa [Addr.add] using this
      obtain ⟨g, off, spot⟩ := a
      simp at hspot
      subst hspot
      let f : Nat → St9 := fun i => if hi : i < m then Classical.choose (each i hi) else default
      have hf2 : ∀ i (hi : i < m), f i = Classical.choose (each i hi) := fun i hi => by simp only [f, dif_pos hi]
      have hget : ∀ i, i < len → ((List.range len).map f).getD i default = f i := fun i hi => by simp [List.getD, hi]
      refine ⟨(List.range len).map f, .inr ⟨g, off, m, by simp, by simp; omega, hm, fun i hi => ?_⟩⟩
      simp only [List.length_map, List.length_range] at hi
      have hc := Classical.choose_spec (each i (by omega))
      rw [← hf2 i (by omega)] at hc
      rw [hget i hi]
      obtain ⟨h0, h1, h2, h3, h4⟩ := hc
      rw [addr_add] at h0 h1 h2 h3 h4
      rw [← Nat.add_assoc] at h1 h2 h3 h4
      exact ⟨h0, h1, h2, h3, h4⟩

theorem Own.fewer {K K' : Nat → Prop} {w0 w : World} {b : Nat} {m : HpM} (h : Own K w0 w b m) (hK : ∀ k, K' k → K k) : Own K' w0 w b m :=
  ⟨h.hp.wide (fun k hk => ⟨hk.1, fun h => hk.2 (hK k h)⟩) (fun k hk => hk.1.2), h.up, fun k hk => h.kl k (hK k hk)⟩
/-- what holds of both heaps -/
def P9 (m : HpM) (k : Nat) : Prop := 2 ≤ m.arrs.length ∧ m.arrs.length ≤ k + 2 ∧ m.size = 1000 ∧ usedP m.arrs ≤ 16 * k ∧ ∀ a ∈ m.arrs, a.data.length ≤ 8
theorem P9.start : P9 (two 1000) 0 := ⟨Nat.le_refl _, Nat.le_refl _, rfl, Nat.le_refl _, fun a ha => by
  simp [two] at ha
  rcases ha with rfl | rfl <;> simp⟩
theorem P9.fits {m : HpM} {k : Nat} (h : P9 m k) (hk : k < 20) (lab life n : Int) (h1 : lab = 3 ∨ lab = 4) (h2 : 0 ≤ life ∧ life ≤ 2) (h3 : 0 ≤ n ∧ n ≤ 8) : fitsB m lab life n = true := by
  obtain ⟨-, -, hs, hu, -⟩ := h
  have q1 : labB lab = true := by rcases h1 with rfl | rfl <;> rfl
  have q2 : lifeB life = true := by simp [lifeB]; omega
  unfold fitsB
  rw [hs, q1, q2]
  simp
  omega
theorem used_add {m : HpM} (h : 2 ≤ m.arrs.length) (a : ArrM) : usedP (m.add a).arrs = usedP m.arrs + (8 + a.data.length) := by
  unfold usedP HpM.add usedL
  rw [List.drop_append_of_le_length h]
  simp
theorem P9.add {m : HpM} {k : Nat} (h : P9 m k) (own lab life : Int) (sh : Bool) (n : Int) (h3 : 0 ≤ n ∧ n ≤ 8) : P9 (m.add (newA own lab life sh n)) (k + 1) := by
  obtain ⟨h0, h1, hs, hu, hd⟩ := h
  have hz : (newA own lab life sh n).data.length ≤ 8 := by simp [newA, zeros]; omega
  refine ⟨by simp [HpM.add]; omega, by simp [HpM.add]; omega, hs, by rw [used_add h0]; omega, fun a ha => ?_⟩
  rcases List.mem_append.1 ha with ha | ha
  · exact hd a ha
  · simp at ha
    rw [ha]
    exact hz
/-- both heaps, and what they hold -/
def HP9 (W wr : World) (b c : Nat) (K : Nat → Prop) (m : HpM) (k : Nat) : Prop := Both K W wr b c m ∧ P9 m k
set_option maxRecDepth 100000 in
set_option maxHeartbeats 4000000 in
theorem both9 (W : World) (v : Value) (L : List St9) (hL : Sts9At W v L) : Calls Try.prog 30 #[v] W fun e w' => ∃ b c K m, e = .returned (.tuple #[.pointer (some ⟨b, 0, none⟩), .pointer (some ⟨c, 0, none⟩)]) ∧ Both K W w' b c m ∧ P9 m 20 := by
  obtain ⟨la, lc, rfl⟩ := hL.slice
  have HL := Lib.hid hL
  have hlm : L.length ≤ maxLen := by
    rcases hL with ⟨_, rfl⟩ | ⟨g, off, c, _, h1, h2, _⟩
    · simp
    · omega
  clear hL
  unfold maxLen at hlm
  go_enter Try.func30, Try.ntmps30
  go_wp2_with fail
  refine (oNew (K := Free) (Upd.refl _ W) (fun _ h => h.elim) 1000 (by omega) (by omega)).mono ?_
  rintro e w2 ⟨b, rfl, ho, -⟩
  have H2 := Lib.hid ho
  clear ho
  go_wp2_with fail
  refine (rNew (w := w2) 1000).mono ?_
  rintro e w3 ⟨c, rfl, hr, hu⟩
  have H3 : Hid (HP9 W w3 b c (Since w2 w3) (two 1000) 0) := Lib.hid ⟨⟨H2.out.keep hu (fun q hq => .inr hq), hr, fun q hq => by have := H2.out.up.size; have := hq.1; omega⟩, P9.start⟩
  clear hr hu
  go_wp2_with fail
  go_loopw [7, 8] (fun i _ wr => ∃ (k : Nat) (K : Nat → Prop) (m : HpM), k ≤ L.length ∧ k ≤ 20 ∧ i = .int .i64 k ∧ Hid (HP9 W wr b c K m k)) (fun i _ _ => 20 - (intOf i).toNat)
  case atStart => exact ⟨0, _, _, Nat.zero_le _, by omega, rfl, H3⟩
  case round =>
    obtain ⟨k, K, m, hk, hk20, rfl, HH⟩ := hrel
    by_cases hlt : k < L.length ∧ k < 20
    · obtain ⟨hlt, hlt2⟩ := hlt
      have hml := HH.out.2.2.1
      have HBL := Lib.hid (HH.out.1.own.up.below (Nat.le_refl _) (fun _ h => h.elim))
      obtain ⟨g, off, rfl, -, hgl, c0, c1, c2, c3, c4⟩ := (HL.out.below HBL.out).at hlt
      generalize L.getD k default = s at *
      obtain ⟨w4, hw4⟩ : ∃ w4, w4 = wr.alloc (.cells #[.int .i64 s.own, .int .i64 s.lab, .int .i64 s.life, .int .i64 s.n, .bool s.sh] 76) := ⟨_, rfl⟩
      have hu4 : Upd (fun _ => False) wr w4 := by rw [hw4]; exact Upd.alloc _ _ _
      have hs4 : wr.heap.size < w4.heap.size := by rw [hw4]; simp
      have hx4 : w4.heap[wr.heap.size]? = some (.cells #[.int .i64 s.own, .int .i64 s.lab, .int .i64 s.life, .int .i64 s.n, .bool s.sh] 76 (0, 0)) := by rw [hw4]; exact hpTop _ _ _ rfl
      obtain ⟨K1, hK1⟩ : ∃ K1 : Nat → Prop, K1 = fun q => K q ∨ q = wr.heap.size := ⟨_, rfl⟩
      have hkl := HH.out.1.own.kl
      have hK1b : K1 wr.heap.size := by rw [hK1]; exact .inr rfl
      have hKb : ¬ K wr.heap.size := fun h => by have := hkl _ h; omega
      have hKK : ∀ q, K q → K1 q := fun q hq => by rw [hK1]; exact .inl hq
      have hud : Upd (fun _ => False) wr w4.drew := hu4.trans (Upd.drew (fun _ => False) w4) (fun _ h _ => h)
      have HO4 : Hid (Own K1 W w4.drew b m) := Lib.hid (HH.out.1.own.keep hud (fun q hq => by
          rw [hK1] at hq
          rcases hq with hq | hq
          · exact .inl hq
          · exact .inr ⟨by omega, by rw [hq]; exact hs4⟩))
      have HR4 : Hid (Hep RT K w4.drew c m) := Lib.hid (HH.out.1.ref.upd hud (fun _ _ h => h))
      have HNW : Hid (∀ q, K q → W.heap.size ≤ q) := Lib.hid HH.out.1.new
      have HPM := Lib.hid HH.out.2
      have HKK := Lib.hid hKK
      have HKB := Lib.hid hKb
      have HKB1 := Lib.hid hK1b
      have HW4 := Lib.hid hw4
      have HX4 := Lib.hid hx4
      obtain ⟨l1, hl1, hl2⟩ : ∃ l1, l1 = 3 + s.lab % 2 ∧ (l1 = 3 ∨ l1 = 4) := ⟨_, rfl, by omega⟩
      have hwl : IntKind.i64.wrap (3 + s.lab % 2) = l1 := by rw [hl1]; exact IntWalk.i64_in _ (by omega)
      have HF := Lib.hid (HPM.out.fits hlt2 l1 (s.life % 3) (s.n % 9) hl2 (by omega) (by omega))
      have hz : m.size = 1000 := HPM.out.2.2.1
      have HA := Lib.hid (oAlloc HO4.out (by omega) ⟨by omega, by omega⟩ (s.own % 3) l1 (s.life % 3) (s.n % 9) s.sh HF.out)
      have HC : Hid (∀ w', Upd (Ours K1 W w4.drew) w4.drew w' → w'.cell? ⟨wr.heap.size, 0, none⟩ = some (.int .i64 s.own) ∧ w'.cell? ⟨wr.heap.size, 1, none⟩ = some (.int .i64 s.lab) ∧ w'.cell? ⟨wr.heap.size, 2, none⟩ = some (.int .i64 s.life) ∧ w'.cell? ⟨wr.heap.size, 3, none⟩ = some (.int .i64 s.n) ∧ w'.cell? ⟨wr.heap.size, 4, none⟩ = some (.bool s.sh)) := Lib.hid (fun w' hu => by
        have hx := hpBlk hu (show w4.drew.heap[wr.heap.size]? = _ from HX4.out) (fun h => h.2 HKB1.out)
        exact ⟨by simp [World.cell?, hx], by simp [World.cell?, hx], by simp [World.cell?, hx], by simp [World.cell?, hx], by simp [World.cell?, hx]⟩)
      have HRF := Lib.hid (Upd.refl (Ours K1 W w4.drew) w4.drew)
      clear hK1 hu4 hs4 hx4 hkl hK1b hKb hKK hud hw4 hl1 hl2 hz
      go_wp2_with fail
      rw [← HW4.out]
      clear c0 c1 c2 c3 c4
      go_region_held3 (fun w' => w'.cell? ⟨wr.heap.size, 0, none⟩ = some (.int .i64 s.own) ∧ w'.cell? ⟨wr.heap.size, 1, none⟩ = some (.int .i64 s.lab) ∧ w'.cell? ⟨wr.heap.size, 2, none⟩ = some (.int .i64 s.life) ∧ w'.cell? ⟨wr.heap.size, 3, none⟩ = some (.int .i64 s.n) ∧ w'.cell? ⟨wr.heap.size, 4, none⟩ = some (.bool s.sh)) (first
        | with_reducible exact HC.out _ HRF.out
        | with_reducible exact HC.out _ HX5.out) (first
        | (go_at_call 8; (refine (hPick _ _ _ (by omega) (by omega)).mono ?_); rintro e w' ⟨rfl, rfl⟩)
        | (go_at_call 23; (refine HA.out.mono ?_); rintro e w5 ⟨rfl, ho⟩; have HO5 := Lib.hid ho.own; have HX5 := Lib.hid ho.step; clear ho))
      all_goals
        have hu5 := Upd.drew (fun _ => False) w5
        have HHF : Hid (Half K W w5.drew b c m (m.add (newA (s.own % 3) l1 (s.life % 3) s.sh (s.n % 9)))) := Lib.hid ⟨((HO5.out.fewer HKK.out).quiet hu5).own, (HR4.out.upd HX5.out (fun q hq hq' => hq'.2 (HKK.out q hq))).upd hu5 (fun _ _ h => h), HNW.out⟩
        have hz : m.size = 1000 := HPM.out.2.2.1
        have HB := Lib.hid (qAlloc HHF.out.ref (by omega) (by have := HPM.out.1; omega) ⟨by omega, by omega⟩ (s.own % 3) l1 (s.life % 3) (s.n % 9) s.sh HF.out)
        have HX5d : Hid (w5.drew.heap[wr.heap.size]? = some (.cells #[.int .i64 s.own, .int .i64 s.lab, .int .i64 s.life, .int .i64 s.n, .bool s.sh] 76 (0, 0))) := Lib.hid (hpBlk hu5 (hpBlk HX5.out (show w4.drew.heap[wr.heap.size]? = _ from HX4.out) (fun h => h.2 HKB1.out)) (fun h => h))
        have HD : Hid (∀ w', Upd K w5.drew w' → w'.cell? ⟨wr.heap.size, 0, none⟩ = some (.int .i64 s.own) ∧ w'.cell? ⟨wr.heap.size, 1, none⟩ = some (.int .i64 s.lab) ∧ w'.cell? ⟨wr.heap.size, 2, none⟩ = some (.int .i64 s.life) ∧ w'.cell? ⟨wr.heap.size, 3, none⟩ = some (.int .i64 s.n) ∧ w'.cell? ⟨wr.heap.size, 4, none⟩ = some (.bool s.sh)) := Lib.hid (fun w' hu => by
          have hx := hpBlk hu HX5d.out HKB.out
          exact ⟨by simp [World.cell?, hx], by simp [World.cell?, hx], by simp [World.cell?, hx], by simp [World.cell?, hx], by simp [World.cell?, hx]⟩)
        have HSF := Lib.hid (Upd.refl K w5.drew)
        clear hu5 hz
        go_wp2_with fail
        go_region_held3 (fun w' => w'.cell? ⟨wr.heap.size, 0, none⟩ = some (.int .i64 s.own) ∧ w'.cell? ⟨wr.heap.size, 1, none⟩ = some (.int .i64 s.lab) ∧ w'.cell? ⟨wr.heap.size, 2, none⟩ = some (.int .i64 s.life) ∧ w'.cell? ⟨wr.heap.size, 3, none⟩ = some (.int .i64 s.n) ∧ w'.cell? ⟨wr.heap.size, 4, none⟩ = some (.bool s.sh)) (first
          | with_reducible exact HD.out _ HSF.out
          | with_reducible exact HD.out _ HX6.out) (first
          | (go_at_call 8; (refine (hPick _ _ _ (by omega) (by omega)).mono ?_); rintro e w' ⟨rfl, rfl⟩)
          | (go_at_call 25; (refine HB.out.mono ?_); rintro e w6 ⟨rfl, hr, hu⟩; have HR6 := Lib.hid hr; have HX6 := Lib.hid hu; clear hr hu))
        all_goals
          have H7 : Hid (HP9 W w6 b c _ _ (k + 1)) := Lib.hid ⟨HHF.out.both HR6.out HX6.out, HPM.out.add _ _ _ _ _ (by omega)⟩
          go_wp2_with fail
          go_roundw
          case rel => exact ⟨k + 1, _, _, by omega, by omega, by go_num, H7⟩
          case measure => simp [intOf]; omega
    · have hor : L.length ≤ k ∨ (k < L.length ∧ k = 20) := by omega
      have H9 : Hid (∃ K m, Both K W wr b c m ∧ P9 m 20) := Lib.hid ⟨K, m, HH.out.1, by
        obtain ⟨q0, q1, q2, q3, q4⟩ := HH.out.2
        exact ⟨q0, by omega, q2, by omega, q4⟩⟩
      clear HH
      rcases hor with hor | ⟨hor1, hor2⟩
      all_goals
        go_wp2_with fail
        refine bodyPost_ret (v := .tuple #[.pointer (some ⟨b, 0, none⟩), .pointer (some ⟨c, 0, none⟩)]) (by simp only [results, Try.f30]; simp [go_sem]) rfl ?_
        obtain ⟨K, m, h1, h2⟩ := H9.out
        exact ⟨b, c, K, m, rfl, h1, h2⟩
end Go.Proofs.Yteapemjkfncbjaa

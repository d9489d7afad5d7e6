/- LinkResolves, walked. -/
import Derived.Test.YtkjmpobbbjljjaaDoorNH
namespace Go.Proofs.YtkjmpobbbjljjaaDoor
open Go.RowKit Go.Lib
set_option linter.unusedVariables false
set_option linter.unusedSimpArgs false

theorem pickM (n : Int) (m : Nat) (hm : 1 ≤ m) (hm2 : m ≤ 9223372036854775807) : ∃ q : Nat, (q : Int) < m ∧ ∀ u : World, Calls Tryd.prog 9 #[.int .i64 n, .int .i64 m] u fun e w' => e = .returned (.int .i64 q) ∧ u = w' := by
  have h1 := Int.emod_nonneg n (b := (m : Int)) (by omega)
  have h2 := Int.emod_lt_of_pos n (b := (m : Int)) (by omega)
  refine ⟨(n % (m : Int)).toNat, by omega, fun u => ?_⟩
  have h := hPick n m u (by omega) (by omega)
  rw [show n % (m : Int) = (((n % (m : Int)).toNat : Nat) : Int) by omega] at h
  exact h.mono fun e w' ⟨a, b⟩ => ⟨a, by first | exact b | exact b.symm⟩

theorem infoLI : (Tryd.prog.info? 26).map (fun i => (i.zero, i.size, i.bytes)) = some (some (.agg #[.string { data := #[] }, .slice none 0 0, .slice none 0 0, .slice none 0 0, .slice none 0 0]), 5, 112) := by kernel_rfl
theorem Lst.lt {w0 w : World} {v : Value} {P : List PIm} (h : Lst w0 w v P) : ∀ k, v.ownBlock = some k → k < w.heap.size := by
  intro k hk
  rcases h.row.2 with ⟨rfl, _⟩ | ⟨g, cap, cur, rfl, _, hg, _⟩
  · simp [Value.ownBlock] at hk
  · simp [Value.ownBlock] at hk
    subst hk
    exact (Array.getElem?_eq_some_iff.1 hg).1
theorem src5 (w : World) (e : TypeId) (s : ByteArray) (f1 f2 f3 f4 : Option Addr) (n1 n2 n3 n4 d1 d2 d3 d4 : Nat) :
    Src (w.alloc (.cells #[.string s, .slice f1 n1 d1, .slice f2 n2 d2, .slice f3 n3 d3, .slice f4 n4 d4] e)) 5 (.slice (some ⟨w.heap.size, 0, none⟩) 1 1) 1 [.string s, .slice f1 n1 d1, .slice f2 n2 d2, .slice f3 n3 d3, .slice f4 n4 d4] := by
  refine .inr ⟨_, _, rfl, rfl, fun j u hj => ?_, fun u hu => ?_⟩
  · rw [addr_add, Nat.zero_add, World.cell?_alloc_new]
    simpa using hj
  · simp at hu
    rcases hu with rfl | rfl | rfl | rfl | rfl <;> rfl
theorem cov_past {w w' : World} (o : Option Nat) (hu : Upd (fun k => w.heap.size ≤ k) w w') : Cov (hide o w) (hide o w') := fun g j x hx => by
  obtain ⟨h1, h2⟩ := hide_cell hx
  have hlt := World.block_lt_of_cell? _ _ h2
  exact hide_to h1 ((hu.cell (p := ⟨g, j, none⟩) hlt (fun hge => Nat.lt_irrefl _ (Nat.lt_of_lt_of_le hlt hge))).trans h2)
theorem newInts {o : Option Nat} {W : World} {E : Nat} {C : Array Value} {e : TypeId} {fr : Nat × Nat} (ho : o ≠ some E) (hb : W.heap[E]? = some (.cells C e fr)) (L : List Int) (hL : (iv L) <+: C.toList) (c : Nat) (hc : L.length ≤ c) (hm : c ≤ maxLen) (hw : ∀ n ∈ L, wi64 n) : Ints (hide o W) (.slice (some ⟨E, 0, none⟩) L.length c) L :=
  Ints.blk (by rw [hide_other _ _ _ ho]; exact hb) L hL c hc hm hw
set_option maxRecDepth 100000 in
set_option maxHeartbeats 16000000 in
theorem linkResolves_walk (w : World) (wv tv : Value) (Ws : List Int) (Ts : List RawR) (hw : Ints w wv Ws) (htr : RawsAt w tv Ts) (hB : Bins ⟨w, fun _ => False⟩) (a k : Int) (nm : ByteArray) :
    Calls Tryd.prog 4 #[wv, tv, .int .i64 a, .int .i64 k, .string nm] w fun e w' => e = .returned (.bool true) ∧ Upd (fun _ => False) w w' := by
  obtain ⟨wa, wc, rfl, hwl, hwm⟩ := hw.slice
  obtain ⟨ta, tc, rfl⟩ := htr.slice
  have HW := Lib.hid hw
  have HTR := Lib.hid htr
  have HB := Lib.hid hB
  unfold maxLen at hwm
  clear hw htr hB
  have H0 := Lib.hid (Upd.refl (fun _ => False) w)
  have HL0 := Lib.hid (Lst.nil w w)
  go_enter Tryd.func4, Tryd.ntmps4
  go_wp2_with fail
  go_loopw [11, 12] (fun l i wr => ∃ (P : List PIm), P.length ≤ 4 ∧ P.length ≤ Ws.length ∧ i = .int .i64 (P.length : Nat) ∧ (∃ la lc, l = .slice la P.length lc) ∧ Hid (Upd (fun _ => False) w wr) ∧ Hid (Lst w wr l P)) (fun _ i _ => 4 - (intOf i).toNat)
  case atStart => exact ⟨[], by simp, by simp, rfl, ⟨none, 0, rfl⟩, H0, HL0⟩
  case round =>
    obtain ⟨P, hn4, hnw, rfl, ⟨la, lc, rfl⟩, HU, HLS⟩ := hrel
    by_cases hlt : P.length < Ws.length ∧ P.length < 4
    · obtain ⟨hlt1, hlt2⟩ := hlt
      obtain ⟨g1, o1, rfl, hc1, -⟩ := (HW.out.later (upd_below HU.out)).at hlt1
      generalize Ws.getD P.length 0 = z at *
      have hi1 : (0 : Int) ≤ (P.length : Int) := Int.natCast_nonneg _
      have hi2 : (P.length : Int) < (Ws.length : Int) := by omega
      have hi3 : (P.length : Int) < 4 := by omega
      have HBR := Lib.hid (binsUpd HB.out HU.out)
      go_wp2_with fail
      refine (hAppletX _ z _ [] (raws_nil _) (by simp) HBR.out).mono ?_
      rintro e w1 ⟨s, s1, s2, c0, c1, c2, C0, C1, C2, rfl, hA, -, -, -⟩
      have hip := hA.hid (Value.slice la P.length lc).ownBlock HLS.out.lt
      have HOW := Lib.hid HLS.out.lt
      have HIP0 := Lib.hid hip
      have HAU := Lib.hid hA.up
      have hal := Upd.alloc (fun _ => False) w1 (.cells #[.string s, .slice (some ⟨wr.heap.size + 2, 0, none⟩) 4 4, .slice (some ⟨wr.heap.size + 7, 0, none⟩) 2 2, .slice (some ⟨wr.heap.size + 10, 0, none⟩) 3 3, .slice (some ⟨wr.heap.size + 3, 0, none⟩) 2 2] 26)
      have HIP1 := Lib.hid (hip.past (hal.mono (fun _ h _ => h.elim)))
      have HU1 := Lib.hid (hA.up.trans hal (fun _ h _ => h))
      have HBX1 : Hid ((w1.alloc (.cells #[.string s, .slice (some ⟨wr.heap.size + 2, 0, none⟩) 4 4, .slice (some ⟨wr.heap.size + 7, 0, none⟩) 2 2, .slice (some ⟨wr.heap.size + 10, 0, none⟩) 3 3, .slice (some ⟨wr.heap.size + 3, 0, none⟩) 2 2] 26)).heap[w1.heap.size]? = some (.cells #[.string s, .slice (some ⟨wr.heap.size + 2, 0, none⟩) 4 4, .slice (some ⟨wr.heap.size + 7, 0, none⟩) 2 2, .slice (some ⟨wr.heap.size + 10, 0, none⟩) 3 3, .slice (some ⟨wr.heap.size + 3, 0, none⟩) 2 2] 26 (0, 0))) := Lib.hid (blk_top' _ _ _ rfl)
      clear hip hal hA hc1
      by_cases htl : P.length < Ts.length
      · obtain ⟨gt, ot, hta, -, -, -, hgt, r0, r1, r2, r3, -⟩ := raws_at HTR.out (upd_below (HU.out.trans HU1.out (fun _ h _ => h))) htl
        subst hta
        generalize Ts.getD P.length default = T at *
        have hi4 : (P.length : Int) < (Ts.length : Int) := by omega
        have hxl := (Array.getElem?_eq_some_iff.1 HBX1.out).1
        have hal := Upd.alloc (fun _ => False) (w1.alloc (.cells #[.string s, .slice (some ⟨wr.heap.size + 2, 0, none⟩) 4 4, .slice (some ⟨wr.heap.size + 7, 0, none⟩) 2 2, .slice (some ⟨wr.heap.size + 10, 0, none⟩) 3 3, .slice (some ⟨wr.heap.size + 3, 0, none⟩) 2 2] 26)) (.cells #[.int .i64 T.o, .int .i64 T.a, .int .i64 T.b, .int .i64 T.c] 38)
        have HBX2 : Hid (((w1.alloc (.cells #[.string s, .slice (some ⟨wr.heap.size + 2, 0, none⟩) 4 4, .slice (some ⟨wr.heap.size + 7, 0, none⟩) 2 2, .slice (some ⟨wr.heap.size + 10, 0, none⟩) 3 3, .slice (some ⟨wr.heap.size + 3, 0, none⟩) 2 2] 26)).alloc (.cells #[.int .i64 T.o, .int .i64 T.a, .int .i64 T.b, .int .i64 T.c] 38)).heap[w1.heap.size]? = some (.cells #[.string s, .slice (some ⟨wr.heap.size + 2, 0, none⟩) 4 4, .slice (some ⟨wr.heap.size + 7, 0, none⟩) 2 2, .slice (some ⟨wr.heap.size + 10, 0, none⟩) 3 3, .slice (some ⟨wr.heap.size + 3, 0, none⟩) 2 2] 26 (0, 0))) := Lib.hid ((hal.block w1.heap.size hxl id).trans HBX1.out)
        have HBY2 : Hid (((w1.alloc (.cells #[.string s, .slice (some ⟨wr.heap.size + 2, 0, none⟩) 4 4, .slice (some ⟨wr.heap.size + 7, 0, none⟩) 2 2, .slice (some ⟨wr.heap.size + 10, 0, none⟩) 3 3, .slice (some ⟨wr.heap.size + 3, 0, none⟩) 2 2] 26)).alloc (.cells #[.int .i64 T.o, .int .i64 T.a, .int .i64 T.b, .int .i64 T.c] 38)).heap[w1.heap.size + 1]? = some (.cells #[.int .i64 T.o, .int .i64 T.a, .int .i64 T.b, .int .i64 T.c] 38 (0, 0))) := Lib.hid (blk_top' _ _ _ (by simp))
        have HU12 := Lib.hid ((Upd.alloc (fun _ => False) w1 (.cells #[.string s, .slice (some ⟨wr.heap.size + 2, 0, none⟩) 4 4, .slice (some ⟨wr.heap.size + 7, 0, none⟩) 2 2, .slice (some ⟨wr.heap.size + 10, 0, none⟩) 3 3, .slice (some ⟨wr.heap.size + 3, 0, none⟩) 2 2] 26)).trans hal (fun _ h _ => h))
        have HU2 := Lib.hid (HU1.out.trans hal (fun _ h _ => h))
        have HNW := Lib.hid HAU.out.size
        obtain ⟨q, hq, HP8⟩ := pickM T.o 8 (by omega) (by omega)
        have H8 := Lib.hid HP8
        clear HP8 hxl hal HIP1 HU1 HBX1
        go_wp2_with fail
        refine (H8.out _).mono ?_
        rintro e _ ⟨rfl, rfl⟩
        have hgen : ∃ W2, (w1.alloc (.cells #[.string s, .slice (some ⟨wr.heap.size + 2, 0, none⟩) 4 4, .slice (some ⟨wr.heap.size + 7, 0, none⟩) 2 2, .slice (some ⟨wr.heap.size + 10, 0, none⟩) 3 3, .slice (some ⟨wr.heap.size + 3, 0, none⟩) 2 2] 26)).alloc (.cells #[.int .i64 T.o, .int .i64 T.a, .int .i64 T.b, .int .i64 T.c] 38) = W2 := ⟨_, rfl⟩
        obtain ⟨W2, hW2⟩ := hgen
        rw [hW2] at HBX2 HBY2 HU12 HU2 ⊢
        clear hW2 r0 r1 r2 r3
        unfold appP at HIP0
        generalize hNe : wr.heap.size = N at *
        have HWN := Lib.hid hNe
        clear hNe
        have HXE : Hid (∃ X, w1.heap.size = X) := Lib.hid ⟨_, rfl⟩
        obtain ⟨X, hX⟩ := HXE.out
        rw [hX] at HBX2 HBY2 ⊢
        have HXE := Lib.hid hX
        clear hX
        have HXL := Lib.hid (Array.getElem?_eq_some_iff.1 HBX2.out).1
        have HNX : Hid (N ≤ X) := Lib.hid (by rw [← HXE.out]; exact HNW.out)
        have HON : Hid (∀ E, N ≤ E → (Value.slice la P.length lc).ownBlock ≠ some E) := Lib.hid (fun E hE e => by have := HOW.out E e; omega)
        have hway : q = 0 ∨ q = 1 ∨ q = 2 ∨ q = 3 ∨ q = 4 ∨ q = 5 ∨ q = 6 ∨ q = 7 := by omega
        rcases hway with rfl | rfl | rfl | rfl | rfl | rfl | rfl | rfl
        · obtain ⟨p5, hp5, HP5⟩ := pickM T.a 5 (by omega) (by omega)
          have H5 := Lib.hid HP5
          clear HP5
          have y1 := cells_at HBY2.out 1 _ rfl
          go_wp2_with fail
          refine (H5.out _).mono ?_
          rintro e _ ⟨rfl, rfl⟩
          have hal := Upd.alloc (fun _ => False) W2 (.cells #[.int .i64 (p5 : Int)] 3)
          have hb3 := (hal.block X HXL.out id).trans HBX2.out
          have k4 := cells_at hb3 4 _ rfl
          have f4 := cells_fr hb3 4
          clear y1
          go_upto_region 22 with fail
          clear k4 f4
          have hbx : ((W2.alloc (.cells #[.int .i64 (p5 : Int)] 3)).setCell ⟨X, 4, none⟩ (.slice (some ⟨W2.heap.size, 0, none⟩) 1 1)).heap[X]? = some (.cells #[.string s, .slice (some ⟨N + 2, 0, none⟩) 4 4, .slice (some ⟨N + 7, 0, none⟩) 2 2, .slice (some ⟨N + 10, 0, none⟩) 3 3, .slice (some ⟨W2.heap.size, 0, none⟩) 1 1] 26 (0, 0)) := set_blk (j := 4) hb3
          have hW : Upd (fun k => k = X ∨ W2.heap.size ≤ k) W2 ((W2.alloc (.cells #[.int .i64 (p5 : Int)] 3)).setCell ⟨X, 4, none⟩ (.slice (some ⟨W2.heap.size, 0, none⟩) 1 1)) := (hal.mono (fun _ h _ => h.elim)).trans (setAt _ X 4 _) (fun k hk hl => .inl hk)
          have hux : Upd (fun _ => False) wr ((W2.alloc (.cells #[.int .i64 (p5 : Int)] 3)).setCell ⟨X, 4, none⟩ (.slice (some ⟨W2.heap.size, 0, none⟩) 1 1)) := HU2.out.trans hW (fun k hk hl => by have := HNX.out; have := HU2.out.size; have := HWN.out; rcases hk with hk | hk <;> omega)
          have hw1 : Upd (fun k => w1.heap.size ≤ k) w1 ((W2.alloc (.cells #[.int .i64 (p5 : Int)] 3)).setCell ⟨X, 4, none⟩ (.slice (some ⟨W2.heap.size, 0, none⟩) 1 1)) := (HU12.out.mono (fun _ h _ => h.elim)).trans hW (fun k hk hl => by have := HXE.out; have := HU12.out.size; rcases hk with hk | hk <;> omega)
          have hcv := cov_past (Value.slice la P.length lc).ownBlock hw1
          have hp0 := HIP0.out
          have hip : IsP (hide (Value.slice la P.length lc).ownBlock ((W2.alloc (.cells #[.int .i64 (p5 : Int)] 3)).setCell ⟨X, 4, none⟩ (.slice (some ⟨W2.heap.size, 0, none⟩) 1 1))) (⟨s, [1, 2, 3, 4], appImps s1 s2, appMets C0 C1 C2, [(p5 : Int)]⟩, .slice (some ⟨N + 2, 0, none⟩) 4 4, .slice (some ⟨N + 7, 0, none⟩) 2 2, .slice (some ⟨N + 10, 0, none⟩) 3 3, .slice (some ⟨W2.heap.size, 0, none⟩) 1 1) := ⟨hp0.1.cov hcv, hp0.2.1.cov hcv, hp0.2.2.1.cov hcv, newInts (HON.out _ (by have := HNX.out; have := HXL.out; omega)) (set_keep (blk_top' _ _ _ rfl) (by have := HXL.out; show X ≠ _; omega)) [(p5 : Int)] ⟨[], rfl⟩ 1 (by simp) (by decide) (by simp [wi64]; omega), hp0.2.2.2.2⟩
          clear hW hw1 hcv hp0
          clear hal hb3
          have HIPX := Lib.hid hip
          have HUX := Lib.hid hux
          have HBX := Lib.hid hbx
          clear hip hux hbx
          generalize (W2.alloc (.cells #[.int .i64 (p5 : Int)] 3)).setCell ⟨X, 4, none⟩ (.slice (some ⟨W2.heap.size, 0, none⟩) 1 1) = W5 at *
          have x0 := cells_at HBX.out 0 _ rfl
          have x1 := cells_at HBX.out 1 _ rfl
          have x2 := cells_at HBX.out 2 _ rfl
          have x3 := cells_at HBX.out 3 _ rfl
          have x4 := cells_at HBX.out 4 _ rfl
          have hal := Upd.alloc (fun _ => False) W5 (.cells #[.string s, .slice (some ⟨N + 2, 0, none⟩) 4 4, .slice (some ⟨N + 7, 0, none⟩) 2 2, .slice (some ⟨N + 10, 0, none⟩) 3 3, .slice (some ⟨W2.heap.size, 0, none⟩) 1 1] 26)
          have HS5 := Lib.hid ((HLS.out.keep HUX.out).keep hal)
          have HSRC : Hid (Src (W5.alloc (.cells #[.string s, .slice (some ⟨N + 2, 0, none⟩) 4 4, .slice (some ⟨N + 7, 0, none⟩) 2 2, .slice (some ⟨N + 10, 0, none⟩) 3 3, .slice (some ⟨W2.heap.size, 0, none⟩) 1 1] 26)) 5 (.slice (some ⟨W5.heap.size, 0, none⟩) 1 1) 1 (pimC (⟨s, [1, 2, 3, 4], appImps s1 s2, appMets C0 C1 C2, [(p5 : Int)]⟩, .slice (some ⟨N + 2, 0, none⟩) 4 4, .slice (some ⟨N + 7, 0, none⟩) 2 2, .slice (some ⟨N + 10, 0, none⟩) 3 3, .slice (some ⟨W2.heap.size, 0, none⟩) 1 1))) := Lib.hid (src5 W5 26 s _ _ _ _ _ _ _ _ _ _ _ _)
          have HPN : Hid (IsP (hide (Value.slice la P.length lc).ownBlock (W5.alloc (.cells #[.string s, .slice (some ⟨N + 2, 0, none⟩) 4 4, .slice (some ⟨N + 7, 0, none⟩) 2 2, .slice (some ⟨N + 10, 0, none⟩) 3 3, .slice (some ⟨W2.heap.size, 0, none⟩) 1 1] 26))) (⟨s, [1, 2, 3, 4], appImps s1 s2, appMets C0 C1 C2, [(p5 : Int)]⟩, .slice (some ⟨N + 2, 0, none⟩) 4 4, .slice (some ⟨N + 7, 0, none⟩) 2 2, .slice (some ⟨N + 10, 0, none⟩) 3 3, .slice (some ⟨W2.heap.size, 0, none⟩) 1 1)) := Lib.hid (HIPX.out.past (hal.mono (fun _ h _ => h.elim)))
          have HUN := Lib.hid ((HU.out.trans HUX.out (fun _ h _ => h)).trans hal (fun _ h _ => h))
          obtain ⟨i0, hi, hz0, hz1, hz2⟩ := info_parts infoLI
          clear hal HBX
          go_wp2_with (at_builtin; go_loud (refine wpList_append_mine _ rfl _ _ 28 rfl 0 26 i0 (.agg #[.string { data := #[] }, .slice none 0 0, .slice none 0 0, .slice none 0 0, .slice none 0 0]) 5 112 Tryd.underlying28 hi hz0 hz1 hz2 rfl (by decide) (.slice la P.length lc) P.length (P.flatMap pimC) rfl HS5.out.row 1 (pimC (⟨s, [1, 2, 3, 4], appImps s1 s2, appMets C0 C1 C2, [(p5 : Int)]⟩, .slice (some ⟨N + 2, 0, none⟩) 4 4, .slice (some ⟨N + 7, 0, none⟩) 2 2, .slice (some ⟨N + 10, 0, none⟩) 3 3, .slice (some ⟨W2.heap.size, 0, none⟩) 1 1)) HSRC.out (by unfold maxLen; omega) (by omega) (Nat.zero_le _) ?_))
          intro v6 w6 ho hg hf
          have HN6 := Lib.hid (HS5.out.add HPN.out ho hg hf HUN.out.size)
          have HU6 := Lib.hid (HUN.out.trans (Upd.grown (S := fun k => w.heap.size ≤ k) hg (fun k hk => .inl (HLS.out.own k hk))) (fun k hk hl => by omega))
          obtain ⟨a6, c6, rfl⟩ := HN6.out.slice
          clear ho hg hf x0 x1 x2 x3 x4
          go_wp2_with fail
          go_roundw
          case rel => exact ⟨P ++ [(⟨s, [1, 2, 3, 4], appImps s1 s2, appMets C0 C1 C2, [(p5 : Int)]⟩, .slice (some ⟨N + 2, 0, none⟩) 4 4, .slice (some ⟨N + 7, 0, none⟩) 2 2, .slice (some ⟨N + 10, 0, none⟩) 3 3, .slice (some ⟨W2.heap.size, 0, none⟩) 1 1)], by simp; omega, by simp; omega, by simp, ⟨_, _, rfl⟩, HU6, HN6⟩
          case measure => simp [intOf]; omega
        · have hb3 := HBX2.out
          have k4 := cells_at hb3 4 _ rfl
          have f4 := cells_fr hb3 4
          go_upto_region 22 with fail
          clear k4 f4
          have hbx : (W2.setCell ⟨X, 4, none⟩ (.slice none 0 0)).heap[X]? = some (.cells #[.string s, .slice (some ⟨N + 2, 0, none⟩) 4 4, .slice (some ⟨N + 7, 0, none⟩) 2 2, .slice (some ⟨N + 10, 0, none⟩) 3 3, .slice none 0 0] 26 (0, 0)) := set_blk (j := 4) hb3
          have hW : Upd (fun k => k = X ∨ W2.heap.size ≤ k) W2 (W2.setCell ⟨X, 4, none⟩ (.slice none 0 0)) := (setAt _ X 4 _).mono (fun k hk _ => .inl hk)
          have hux : Upd (fun _ => False) wr (W2.setCell ⟨X, 4, none⟩ (.slice none 0 0)) := HU2.out.trans hW (fun k hk hl => by have := HNX.out; have := HU2.out.size; have := HWN.out; rcases hk with hk | hk <;> omega)
          have hw1 : Upd (fun k => w1.heap.size ≤ k) w1 (W2.setCell ⟨X, 4, none⟩ (.slice none 0 0)) := (HU12.out.mono (fun _ h _ => h.elim)).trans hW (fun k hk hl => by have := HXE.out; have := HU12.out.size; rcases hk with hk | hk <;> omega)
          have hcv := cov_past (Value.slice la P.length lc).ownBlock hw1
          have hp0 := HIP0.out
          have hip : IsP (hide (Value.slice la P.length lc).ownBlock (W2.setCell ⟨X, 4, none⟩ (.slice none 0 0))) (⟨s, [1, 2, 3, 4], appImps s1 s2, appMets C0 C1 C2, []⟩, .slice (some ⟨N + 2, 0, none⟩) 4 4, .slice (some ⟨N + 7, 0, none⟩) 2 2, .slice (some ⟨N + 10, 0, none⟩) 3 3, .slice none 0 0) := ⟨hp0.1.cov hcv, hp0.2.1.cov hcv, hp0.2.2.1.cov hcv, ⟨Sl.nil _ _ _, by simp⟩, hp0.2.2.2.2⟩
          clear hW hw1 hcv hp0
          clear hb3
          have HIPX := Lib.hid hip
          have HUX := Lib.hid hux
          have HBX := Lib.hid hbx
          clear hip hux hbx
          generalize W2.setCell ⟨X, 4, none⟩ (.slice none 0 0) = W5 at *
          have x0 := cells_at HBX.out 0 _ rfl
          have x1 := cells_at HBX.out 1 _ rfl
          have x2 := cells_at HBX.out 2 _ rfl
          have x3 := cells_at HBX.out 3 _ rfl
          have x4 := cells_at HBX.out 4 _ rfl
          have hal := Upd.alloc (fun _ => False) W5 (.cells #[.string s, .slice (some ⟨N + 2, 0, none⟩) 4 4, .slice (some ⟨N + 7, 0, none⟩) 2 2, .slice (some ⟨N + 10, 0, none⟩) 3 3, .slice none 0 0] 26)
          have HS5 := Lib.hid ((HLS.out.keep HUX.out).keep hal)
          have HSRC : Hid (Src (W5.alloc (.cells #[.string s, .slice (some ⟨N + 2, 0, none⟩) 4 4, .slice (some ⟨N + 7, 0, none⟩) 2 2, .slice (some ⟨N + 10, 0, none⟩) 3 3, .slice none 0 0] 26)) 5 (.slice (some ⟨W5.heap.size, 0, none⟩) 1 1) 1 (pimC (⟨s, [1, 2, 3, 4], appImps s1 s2, appMets C0 C1 C2, []⟩, .slice (some ⟨N + 2, 0, none⟩) 4 4, .slice (some ⟨N + 7, 0, none⟩) 2 2, .slice (some ⟨N + 10, 0, none⟩) 3 3, .slice none 0 0))) := Lib.hid (src5 W5 26 s _ _ _ _ _ _ _ _ _ _ _ _)
          have HPN : Hid (IsP (hide (Value.slice la P.length lc).ownBlock (W5.alloc (.cells #[.string s, .slice (some ⟨N + 2, 0, none⟩) 4 4, .slice (some ⟨N + 7, 0, none⟩) 2 2, .slice (some ⟨N + 10, 0, none⟩) 3 3, .slice none 0 0] 26))) (⟨s, [1, 2, 3, 4], appImps s1 s2, appMets C0 C1 C2, []⟩, .slice (some ⟨N + 2, 0, none⟩) 4 4, .slice (some ⟨N + 7, 0, none⟩) 2 2, .slice (some ⟨N + 10, 0, none⟩) 3 3, .slice none 0 0)) := Lib.hid (HIPX.out.past (hal.mono (fun _ h _ => h.elim)))
          have HUN := Lib.hid ((HU.out.trans HUX.out (fun _ h _ => h)).trans hal (fun _ h _ => h))
          obtain ⟨i0, hi, hz0, hz1, hz2⟩ := info_parts infoLI
          clear hal HBX
          go_wp2_with (at_builtin; go_loud (refine wpList_append_mine _ rfl _ _ 28 rfl 0 26 i0 (.agg #[.string { data := #[] }, .slice none 0 0, .slice none 0 0, .slice none 0 0, .slice none 0 0]) 5 112 Tryd.underlying28 hi hz0 hz1 hz2 rfl (by decide) (.slice la P.length lc) P.length (P.flatMap pimC) rfl HS5.out.row 1 (pimC (⟨s, [1, 2, 3, 4], appImps s1 s2, appMets C0 C1 C2, []⟩, .slice (some ⟨N + 2, 0, none⟩) 4 4, .slice (some ⟨N + 7, 0, none⟩) 2 2, .slice (some ⟨N + 10, 0, none⟩) 3 3, .slice none 0 0)) HSRC.out (by unfold maxLen; omega) (by omega) (Nat.zero_le _) ?_))
          intro v6 w6 ho hg hf
          have HN6 := Lib.hid (HS5.out.add HPN.out ho hg hf HUN.out.size)
          have HU6 := Lib.hid (HUN.out.trans (Upd.grown (S := fun k => w.heap.size ≤ k) hg (fun k hk => .inl (HLS.out.own k hk))) (fun k hk hl => by omega))
          obtain ⟨a6, c6, rfl⟩ := HN6.out.slice
          clear ho hg hf x0 x1 x2 x3 x4
          go_wp2_with fail
          go_roundw
          case rel => exact ⟨P ++ [(⟨s, [1, 2, 3, 4], appImps s1 s2, appMets C0 C1 C2, []⟩, .slice (some ⟨N + 2, 0, none⟩) 4 4, .slice (some ⟨N + 7, 0, none⟩) 2 2, .slice (some ⟨N + 10, 0, none⟩) 3 3, .slice none 0 0)], by simp; omega, by simp; omega, by simp, ⟨_, _, rfl⟩, HU6, HN6⟩
          case measure => simp [intOf]; omega
        · obtain ⟨p, hS, hR, hres⟩ := HIP0.out.2.1
          have hal := Upd.alloc (fun _ => False) W2 (.cells #[] 41)
          have hb3 := (hal.block X HXL.out id).trans HBX2.out
          have kj := cells_at hb3 2 _ rfl
          have HSRC : Hid (Src (W2.alloc (.cells #[] 41)) 4 (.slice (some ⟨N + 7, 0, none⟩) 2 2) 2 (cellsL 4 2 (impF (appImps s1 s2) p))) := Lib.hid ((Imps.src (L := appImps s1 s2) (hS.cov (cov_hide _ _)) (fun i hi => (hR i hi).cov (cov_hide _ _)) (by simp [appImps])).upd (HU12.out.trans hal (fun _ h _ => h)) (fun _ _ h => h))
          have HE : Hid ((W2.alloc (.cells #[] 41)).ownsRow 0 41 4 (.slice (some ⟨W2.heap.size, 0, none⟩) 0 0) 0 []) := Lib.hid (bnEmpty _ _ _ _ rfl)
          have HR := Lib.hid hR
          obtain ⟨i0, hi, hz0, hz1, hz2⟩ := info_parts infoImp
          clear hal hb3 hS hR hres
          go_wp2_with (at_builtin; go_loud (refine wpList_append_mine _ rfl _ _ 23 rfl 0 41 i0 (.agg #[.string { data := #[] }, .int .i64 0, .slice none 0 0, .int .i64 0]) 4 56 Tryd.underlying23 hi hz0 hz1 hz2 rfl (by decide) (.slice (some ⟨W2.heap.size, 0, none⟩) 0 0) 0 [] rfl HE.out 2 (cellsL 4 2 (impF (appImps s1 s2) p)) HSRC.out (by unfold maxLen; omega) (by omega) (Nat.zero_le _) ?_))
          intro v6 w6 ho hg hf
          obtain ⟨gm, cap, rfl, e1, e2, e3, e4, hu6, hS6, hfz⟩ := copy4 (n := 2) (f := impF (appImps s1 s2) p) ho hg hf (by decide)
          have hb6 := (hu6.block X HXL.out id).trans HBX2.out
          have hne : gm ≠ X := by have := HXL.out; omega
          have kj := cells_at hb6 2 _ rfl
          have fj := cells_fr hb6 2
          have hs7 := setAt w6 X 2 (.slice (some ⟨gm, 0, none⟩) 2 cap)
          have hb7 := set_blk (j := 2) (v := .slice (some ⟨gm, 0, none⟩) 2 cap) hb6
          have mj := cells_at hb7 2 (.slice (some ⟨gm, 0, none⟩) 2 cap) rfl
          have hS7 : Sl (w6.setCell ⟨X, 2, none⟩ (.slice (some ⟨gm, 0, none⟩) 2 cap)) (.slice (some ⟨gm, 0, none⟩) 2 cap) 4 2 (impF (appImps s1 s2) p) := hS6.upd hs7 (fun k hk e => hne (by simp [Value.ownBlock] at hk; omega))
          have hz7 : ∀ q, (w6.setCell ⟨X, 2, none⟩ (.slice (some ⟨gm, 0, none⟩) 2 cap)).frozen? ⟨gm, q, none⟩ = false := fun q => by
            rw [World.frozen?_of_block (w := w6) (hs7.block gm e4 hne)]
            exact hfz q
          have hgm7 : gm < (w6.setCell ⟨X, 2, none⟩ (.slice (some ⟨gm, 0, none⟩) 2 cap)).heap.size := Nat.lt_of_lt_of_le e4 hs7.size
          unfold maxLen at e2
          have ha8 := Upd.alloc (fun _ => False) (w6.setCell ⟨X, 2, none⟩ (.slice (some ⟨gm, 0, none⟩) 2 cap)) (.cells #[.int .i64 1] 3)
          have hS8 := hS7.upd ha8 (fun _ _ h => h)
          have hz8 : ((w6.setCell ⟨X, 2, none⟩ (.slice (some ⟨gm, 0, none⟩) 2 cap)).alloc (.cells #[.int .i64 1] 3)).frozen? ⟨gm, 2, none⟩ = false := by
            rw [World.frozen?_of_block (w := (w6.setCell ⟨X, 2, none⟩ (.slice (some ⟨gm, 0, none⟩) 2 cap))) (ha8.block gm hgm7 id)]
            exact hz7 2
          have hb8 := (ha8.block X (Array.getElem?_eq_some_iff.1 hb7).1 id).trans hb7
          obtain ⟨g9, o9, he9, h9⟩ := hS8.at (k := 0) (by decide)
          simp only [Option.some.injEq, Addr.mk.injEq, and_true] at he9
          obtain ⟨rfl, rfl⟩ := he9
          have k9 := h9 2 (by decide)
          rw [show 0 + 0 * 4 + 2 = 2 from rfl] at k9
          have HS9 := Lib.hid (hS8.put (k := 0) (l := 2) (by decide) (by decide) (.slice (some ⟨w6.heap.size, 0, none⟩) 1 1))
          have HHB8 := Lib.hid hb8
          have HBN : Hid ((((w6.setCell ⟨X, 2, none⟩ (.slice (some ⟨gm, 0, none⟩) 2 cap)).alloc (.cells #[.int .i64 1] 3)).setCell ⟨gm, 2, none⟩ (.slice (some ⟨w6.heap.size, 0, none⟩) 1 1)).heap[w6.heap.size]? = some (.cells #[.int .i64 1] 3 (0, 0))) := Lib.hid (set_keep (blk_top' _ _ _ (by simp [World.setCell])) (by show gm ≠ w6.heap.size; omega))
          have HW9 : Hid (Upd (fun k => k = X ∨ W2.heap.size ≤ k) W2 (((w6.setCell ⟨X, 2, none⟩ (.slice (some ⟨gm, 0, none⟩) 2 cap)).alloc (.cells #[.int .i64 1] 3)).setCell ⟨gm, 2, none⟩ (.slice (some ⟨w6.heap.size, 0, none⟩) 1 1))) := Lib.hid ((((hu6.mono (fun _ h _ => h.elim)).trans hs7 (fun k hk _ => .inl hk)).trans ha8 (fun _ h _ => h.elim)).trans (setAt _ gm 2 _) (fun k hk hl => .inr (by omega)))
          have HNE := Lib.hid (And.intro hne (And.intro e3 e4))
          clear hs7 hb7 hS7 hz7 hgm7 ha8 hS8 hb8 h9 hS6 hb6 hu6 ho hg hf hfz hne e3 e4 HSRC HE
          go_upto_region 22 with fail
          clear kj fj mj hz8 k9
          have hbx : (((w6.setCell ⟨X, 2, none⟩ (.slice (some ⟨gm, 0, none⟩) 2 cap)).alloc (.cells #[.int .i64 1] 3)).setCell ⟨gm, 2, none⟩ (.slice (some ⟨w6.heap.size, 0, none⟩) 1 1)).heap[X]? = some (.cells #[.string s, .slice (some ⟨N + 2, 0, none⟩) 4 4, .slice (some ⟨gm, 0, none⟩) 2 cap, .slice (some ⟨N + 10, 0, none⟩) 3 3, .slice (some ⟨N + 3, 0, none⟩) 2 2] 26 (0, 0)) := set_keep HHB8.out HNE.out.1
          have hW : Upd (fun k => k = X ∨ W2.heap.size ≤ k) W2 (((w6.setCell ⟨X, 2, none⟩ (.slice (some ⟨gm, 0, none⟩) 2 cap)).alloc (.cells #[.int .i64 1] 3)).setCell ⟨gm, 2, none⟩ (.slice (some ⟨w6.heap.size, 0, none⟩) 1 1)) := HW9.out
          have hux : Upd (fun _ => False) wr (((w6.setCell ⟨X, 2, none⟩ (.slice (some ⟨gm, 0, none⟩) 2 cap)).alloc (.cells #[.int .i64 1] 3)).setCell ⟨gm, 2, none⟩ (.slice (some ⟨w6.heap.size, 0, none⟩) 1 1)) := HU2.out.trans hW (fun k hk hl => by have := HNX.out; have := HU2.out.size; have := HWN.out; rcases hk with hk | hk <;> omega)
          have hw1 : Upd (fun k => w1.heap.size ≤ k) w1 (((w6.setCell ⟨X, 2, none⟩ (.slice (some ⟨gm, 0, none⟩) 2 cap)).alloc (.cells #[.int .i64 1] 3)).setCell ⟨gm, 2, none⟩ (.slice (some ⟨w6.heap.size, 0, none⟩) 1 1)) := (HU12.out.mono (fun _ h _ => h.elim)).trans hW (fun k hk hl => by have := HXE.out; have := HU12.out.size; rcases hk with hk | hk <;> omega)
          have hcv := cov_past (Value.slice la P.length lc).ownBlock hw1
          have hp0 := HIP0.out
          have hip : IsP (hide (Value.slice la P.length lc).ownBlock (((w6.setCell ⟨X, 2, none⟩ (.slice (some ⟨gm, 0, none⟩) 2 cap)).alloc (.cells #[.int .i64 1] 3)).setCell ⟨gm, 2, none⟩ (.slice (some ⟨w6.heap.size, 0, none⟩) 1 1))) (⟨s, [1, 2, 3, 4], [⟨s1, 0, [1], 2⟩, ⟨s2, 1, [4, 3], 3⟩], appMets C0 C1 C2, [1, 2]⟩, .slice (some ⟨N + 2, 0, none⟩) 4 4, .slice (some ⟨gm, 0, none⟩) 2 cap, .slice (some ⟨N + 10, 0, none⟩) 3 3, .slice (some ⟨N + 3, 0, none⟩) 2 2) := ⟨hp0.1.cov hcv, ⟨fun i => if i = 0 then (.slice (some ⟨w6.heap.size, 0, none⟩) 1 1) else p i, (HS9.out.upd (hide_upd _ _) (fun k hk e => HON.out k (by simp [Value.ownBlock] at hk; have := HNX.out; have := HXL.out; have := HNE.out; omega) e)).congr (fun i hi j hj => by
              have hi2 : i < 2 := hi
              rcases (by omega : i = 0 ∨ i = 1) with rfl | rfl <;> rcases (by omega : j = 0 ∨ j = 1 ∨ j = 2 ∨ j = 3) with rfl | rfl | rfl | rfl <;> rfl), fun i hi => by
              have hi2 : i < 2 := hi
              rcases (by omega : i = 0 ∨ i = 1) with rfl | rfl
              · exact newInts (HON.out _ (by have := HNX.out; have := HXL.out; have := HNE.out; omega)) HBN.out [1] ⟨[], rfl⟩ 1 (by simp) (by decide) (by simp [wi64])
              · exact (HR.out 1 (by simp [appImps])).cov hcv, fun x hx => by
              have := hp0.2.1
              obtain ⟨_, _, _, hh⟩ := this
              have h0 := hh ⟨s1, 0, [1, 2], 2⟩ (by simp [appImps])
              have h1 := hh ⟨s2, 1, [4, 3], 3⟩ (by simp [appImps])
              simp at hx
              rcases hx with rfl | rfl
              · exact h0
              · exact h1⟩, hp0.2.2.1.cov hcv, hp0.2.2.2.1.cov hcv, hp0.2.2.2.2⟩
          clear hW hw1 hcv hp0
          clear HS9 HHB8 HW9 HR
          have HIPX := Lib.hid hip
          have HUX := Lib.hid hux
          have HBX := Lib.hid hbx
          clear hip hux hbx
          generalize ((w6.setCell ⟨X, 2, none⟩ (.slice (some ⟨gm, 0, none⟩) 2 cap)).alloc (.cells #[.int .i64 1] 3)).setCell ⟨gm, 2, none⟩ (.slice (some ⟨w6.heap.size, 0, none⟩) 1 1) = W5 at *
          have x0 := cells_at HBX.out 0 _ rfl
          have x1 := cells_at HBX.out 1 _ rfl
          have x2 := cells_at HBX.out 2 _ rfl
          have x3 := cells_at HBX.out 3 _ rfl
          have x4 := cells_at HBX.out 4 _ rfl
          have hal := Upd.alloc (fun _ => False) W5 (.cells #[.string s, .slice (some ⟨N + 2, 0, none⟩) 4 4, .slice (some ⟨gm, 0, none⟩) 2 cap, .slice (some ⟨N + 10, 0, none⟩) 3 3, .slice (some ⟨N + 3, 0, none⟩) 2 2] 26)
          have HS5 := Lib.hid ((HLS.out.keep HUX.out).keep hal)
          have HSRC : Hid (Src (W5.alloc (.cells #[.string s, .slice (some ⟨N + 2, 0, none⟩) 4 4, .slice (some ⟨gm, 0, none⟩) 2 cap, .slice (some ⟨N + 10, 0, none⟩) 3 3, .slice (some ⟨N + 3, 0, none⟩) 2 2] 26)) 5 (.slice (some ⟨W5.heap.size, 0, none⟩) 1 1) 1 (pimC (⟨s, [1, 2, 3, 4], [⟨s1, 0, [1], 2⟩, ⟨s2, 1, [4, 3], 3⟩], appMets C0 C1 C2, [1, 2]⟩, .slice (some ⟨N + 2, 0, none⟩) 4 4, .slice (some ⟨gm, 0, none⟩) 2 cap, .slice (some ⟨N + 10, 0, none⟩) 3 3, .slice (some ⟨N + 3, 0, none⟩) 2 2))) := Lib.hid (src5 W5 26 s _ _ _ _ _ _ _ _ _ _ _ _)
          have HPN : Hid (IsP (hide (Value.slice la P.length lc).ownBlock (W5.alloc (.cells #[.string s, .slice (some ⟨N + 2, 0, none⟩) 4 4, .slice (some ⟨gm, 0, none⟩) 2 cap, .slice (some ⟨N + 10, 0, none⟩) 3 3, .slice (some ⟨N + 3, 0, none⟩) 2 2] 26))) (⟨s, [1, 2, 3, 4], [⟨s1, 0, [1], 2⟩, ⟨s2, 1, [4, 3], 3⟩], appMets C0 C1 C2, [1, 2]⟩, .slice (some ⟨N + 2, 0, none⟩) 4 4, .slice (some ⟨gm, 0, none⟩) 2 cap, .slice (some ⟨N + 10, 0, none⟩) 3 3, .slice (some ⟨N + 3, 0, none⟩) 2 2)) := Lib.hid (HIPX.out.past (hal.mono (fun _ h _ => h.elim)))
          have HUN := Lib.hid ((HU.out.trans HUX.out (fun _ h _ => h)).trans hal (fun _ h _ => h))
          obtain ⟨i0, hi, hz0, hz1, hz2⟩ := info_parts infoLI
          clear hal HBX
          go_wp2_with (at_builtin; go_loud (refine wpList_append_mine _ rfl _ _ 28 rfl 0 26 i0 (.agg #[.string { data := #[] }, .slice none 0 0, .slice none 0 0, .slice none 0 0, .slice none 0 0]) 5 112 Tryd.underlying28 hi hz0 hz1 hz2 rfl (by decide) (.slice la P.length lc) P.length (P.flatMap pimC) rfl HS5.out.row 1 (pimC (⟨s, [1, 2, 3, 4], [⟨s1, 0, [1], 2⟩, ⟨s2, 1, [4, 3], 3⟩], appMets C0 C1 C2, [1, 2]⟩, .slice (some ⟨N + 2, 0, none⟩) 4 4, .slice (some ⟨gm, 0, none⟩) 2 cap, .slice (some ⟨N + 10, 0, none⟩) 3 3, .slice (some ⟨N + 3, 0, none⟩) 2 2)) HSRC.out (by unfold maxLen; omega) (by omega) (Nat.zero_le _) ?_))
          intro v6 w6 ho hg hf
          have HN6 := Lib.hid (HS5.out.add HPN.out ho hg hf HUN.out.size)
          have HU6 := Lib.hid (HUN.out.trans (Upd.grown (S := fun k => w.heap.size ≤ k) hg (fun k hk => .inl (HLS.out.own k hk))) (fun k hk hl => by omega))
          obtain ⟨a6, c6, rfl⟩ := HN6.out.slice
          clear ho hg hf x0 x1 x2 x3 x4
          go_wp2_with fail
          go_roundw
          case rel => exact ⟨P ++ [(⟨s, [1, 2, 3, 4], [⟨s1, 0, [1], 2⟩, ⟨s2, 1, [4, 3], 3⟩], appMets C0 C1 C2, [1, 2]⟩, .slice (some ⟨N + 2, 0, none⟩) 4 4, .slice (some ⟨gm, 0, none⟩) 2 cap, .slice (some ⟨N + 10, 0, none⟩) 3 3, .slice (some ⟨N + 3, 0, none⟩) 2 2)], by simp; omega, by simp; omega, by simp, ⟨_, _, rfl⟩, HU6, HN6⟩
          case measure => simp [intOf]; omega
        · obtain ⟨p, q, r, hS, hR, hres⟩ := HIP0.out.2.2.1
          have hal := Upd.alloc (fun _ => False) W2 (.cells #[] 33)
          have hb3 := (hal.block X HXL.out id).trans HBX2.out
          have kj := cells_at hb3 3 _ rfl
          have HSRC : Hid (Src (W2.alloc (.cells #[] 33)) 4 (.slice (some ⟨N + 10, 0, none⟩) 3 3) 3 (cellsL 4 3 (metF (appMets C0 C1 C2) p q r))) := Lib.hid ((Mets.src (L := appMets C0 C1 C2) (hS.cov (cov_hide _ _)) (fun i hi => ⟨(hR i hi).1.cov (cov_hide _ _), (hR i hi).2.1.cov (cov_hide _ _), (hR i hi).2.2.cov (cov_hide _ _)⟩) (by simp [appMets])).upd (HU12.out.trans hal (fun _ h _ => h)) (fun _ _ h => h))
          have HE : Hid ((W2.alloc (.cells #[] 33)).ownsRow 0 33 4 (.slice (some ⟨W2.heap.size, 0, none⟩) 0 0) 0 []) := Lib.hid (bnEmpty _ _ _ _ rfl)
          have HR := Lib.hid hR
          obtain ⟨i0, hi, hz0, hz1, hz2⟩ := info_parts infoMet
          clear hal hb3 hS hR hres
          go_wp2_with (at_builtin; go_loud (refine wpList_append_mine _ rfl _ _ 24 rfl 0 33 i0 (.agg #[.slice none 0 0, .int .i64 0, .slice none 0 0, .slice none 0 0]) 4 80 Tryd.underlying24 hi hz0 hz1 hz2 rfl (by decide) (.slice (some ⟨W2.heap.size, 0, none⟩) 0 0) 0 [] rfl HE.out 3 (cellsL 4 3 (metF (appMets C0 C1 C2) p q r)) HSRC.out (by unfold maxLen; omega) (by omega) (Nat.zero_le _) ?_))
          intro v6 w6 ho hg hf
          obtain ⟨gm, cap, rfl, e1, e2, e3, e4, hu6, hS6, hfz⟩ := copy4 (n := 3) (f := metF (appMets C0 C1 C2) p q r) ho hg hf (by decide)
          have hb6 := (hu6.block X HXL.out id).trans HBX2.out
          have hne : gm ≠ X := by have := HXL.out; omega
          have kj := cells_at hb6 3 _ rfl
          have fj := cells_fr hb6 3
          have hs7 := setAt w6 X 3 (.slice (some ⟨gm, 0, none⟩) 3 cap)
          have hb7 := set_blk (j := 3) (v := .slice (some ⟨gm, 0, none⟩) 3 cap) hb6
          have mj := cells_at hb7 3 (.slice (some ⟨gm, 0, none⟩) 3 cap) rfl
          have hS7 : Sl (w6.setCell ⟨X, 3, none⟩ (.slice (some ⟨gm, 0, none⟩) 3 cap)) (.slice (some ⟨gm, 0, none⟩) 3 cap) 4 3 (metF (appMets C0 C1 C2) p q r) := hS6.upd hs7 (fun k hk e => hne (by simp [Value.ownBlock] at hk; omega))
          have hz7 : ∀ q, (w6.setCell ⟨X, 3, none⟩ (.slice (some ⟨gm, 0, none⟩) 3 cap)).frozen? ⟨gm, q, none⟩ = false := fun q => by
            rw [World.frozen?_of_block (w := w6) (hs7.block gm e4 hne)]
            exact hfz q
          have hgm7 : gm < (w6.setCell ⟨X, 3, none⟩ (.slice (some ⟨gm, 0, none⟩) 3 cap)).heap.size := Nat.lt_of_lt_of_le e4 hs7.size
          unfold maxLen at e2
          have ha8 := Upd.alloc (fun _ => False) (w6.setCell ⟨X, 3, none⟩ (.slice (some ⟨gm, 0, none⟩) 3 cap)) (.cells #[.int .i64 1, .int .i64 1] 3)
          have hS8 := hS7.upd ha8 (fun _ _ h => h)
          have hz8 : ((w6.setCell ⟨X, 3, none⟩ (.slice (some ⟨gm, 0, none⟩) 3 cap)).alloc (.cells #[.int .i64 1, .int .i64 1] 3)).frozen? ⟨gm, 4, none⟩ = false := by
            rw [World.frozen?_of_block (w := (w6.setCell ⟨X, 3, none⟩ (.slice (some ⟨gm, 0, none⟩) 3 cap))) (ha8.block gm hgm7 id)]
            exact hz7 4
          have hb8 := (ha8.block X (Array.getElem?_eq_some_iff.1 hb7).1 id).trans hb7
          obtain ⟨g9, o9, he9, h9⟩ := hS8.at (k := 1) (by decide)
          simp only [Option.some.injEq, Addr.mk.injEq, and_true] at he9
          obtain ⟨rfl, rfl⟩ := he9
          have k9 := h9 0 (by decide)
          rw [show 0 + 1 * 4 + 0 = 4 from rfl] at k9
          have HS9 := Lib.hid (hS8.put (k := 1) (l := 0) (by decide) (by decide) (.slice (some ⟨w6.heap.size, 0, none⟩) 2 2))
          have HHB8 := Lib.hid hb8
          have HBN : Hid ((((w6.setCell ⟨X, 3, none⟩ (.slice (some ⟨gm, 0, none⟩) 3 cap)).alloc (.cells #[.int .i64 1, .int .i64 1] 3)).setCell ⟨gm, 4, none⟩ (.slice (some ⟨w6.heap.size, 0, none⟩) 2 2)).heap[w6.heap.size]? = some (.cells #[.int .i64 1, .int .i64 1] 3 (0, 0))) := Lib.hid (set_keep (blk_top' _ _ _ (by simp [World.setCell])) (by show gm ≠ w6.heap.size; omega))
          have HW9 : Hid (Upd (fun k => k = X ∨ W2.heap.size ≤ k) W2 (((w6.setCell ⟨X, 3, none⟩ (.slice (some ⟨gm, 0, none⟩) 3 cap)).alloc (.cells #[.int .i64 1, .int .i64 1] 3)).setCell ⟨gm, 4, none⟩ (.slice (some ⟨w6.heap.size, 0, none⟩) 2 2))) := Lib.hid ((((hu6.mono (fun _ h _ => h.elim)).trans hs7 (fun k hk _ => .inl hk)).trans ha8 (fun _ h _ => h.elim)).trans (setAt _ gm 4 _) (fun k hk hl => .inr (by omega)))
          have HNE := Lib.hid (And.intro hne (And.intro e3 e4))
          clear hs7 hb7 hS7 hz7 hgm7 ha8 hS8 hb8 h9 hS6 hb6 hu6 ho hg hf hfz hne e3 e4 HSRC HE
          go_upto_region 22 with fail
          clear kj fj mj hz8 k9
          have hbx : (((w6.setCell ⟨X, 3, none⟩ (.slice (some ⟨gm, 0, none⟩) 3 cap)).alloc (.cells #[.int .i64 1, .int .i64 1] 3)).setCell ⟨gm, 4, none⟩ (.slice (some ⟨w6.heap.size, 0, none⟩) 2 2)).heap[X]? = some (.cells #[.string s, .slice (some ⟨N + 2, 0, none⟩) 4 4, .slice (some ⟨N + 7, 0, none⟩) 2 2, .slice (some ⟨gm, 0, none⟩) 3 cap, .slice (some ⟨N + 3, 0, none⟩) 2 2] 26 (0, 0)) := set_keep HHB8.out HNE.out.1
          have hW : Upd (fun k => k = X ∨ W2.heap.size ≤ k) W2 (((w6.setCell ⟨X, 3, none⟩ (.slice (some ⟨gm, 0, none⟩) 3 cap)).alloc (.cells #[.int .i64 1, .int .i64 1] 3)).setCell ⟨gm, 4, none⟩ (.slice (some ⟨w6.heap.size, 0, none⟩) 2 2)) := HW9.out
          have hux : Upd (fun _ => False) wr (((w6.setCell ⟨X, 3, none⟩ (.slice (some ⟨gm, 0, none⟩) 3 cap)).alloc (.cells #[.int .i64 1, .int .i64 1] 3)).setCell ⟨gm, 4, none⟩ (.slice (some ⟨w6.heap.size, 0, none⟩) 2 2)) := HU2.out.trans hW (fun k hk hl => by have := HNX.out; have := HU2.out.size; have := HWN.out; rcases hk with hk | hk <;> omega)
          have hw1 : Upd (fun k => w1.heap.size ≤ k) w1 (((w6.setCell ⟨X, 3, none⟩ (.slice (some ⟨gm, 0, none⟩) 3 cap)).alloc (.cells #[.int .i64 1, .int .i64 1] 3)).setCell ⟨gm, 4, none⟩ (.slice (some ⟨w6.heap.size, 0, none⟩) 2 2)) := (HU12.out.mono (fun _ h _ => h.elim)).trans hW (fun k hk hl => by have := HXE.out; have := HU12.out.size; rcases hk with hk | hk <;> omega)
          have hcv := cov_past (Value.slice la P.length lc).ownBlock hw1
          have hp0 := HIP0.out
          have hip : IsP (hide (Value.slice la P.length lc).ownBlock (((w6.setCell ⟨X, 3, none⟩ (.slice (some ⟨gm, 0, none⟩) 3 cap)).alloc (.cells #[.int .i64 1, .int .i64 1] 3)).setCell ⟨gm, 4, none⟩ (.slice (some ⟨w6.heap.size, 0, none⟩) 2 2))) (⟨s, [1, 2, 3, 4], appImps s1 s2, [⟨[], 0, [1, 2, 3, 4], C0⟩, ⟨[1, 1], 2, [1, 2, 3, 4], C1⟩, ⟨[4, 3], 3, [1, 2], C2⟩], [1, 2]⟩, .slice (some ⟨N + 2, 0, none⟩) 4 4, .slice (some ⟨N + 7, 0, none⟩) 2 2, .slice (some ⟨gm, 0, none⟩) 3 cap, .slice (some ⟨N + 3, 0, none⟩) 2 2) := ⟨hp0.1.cov hcv, hp0.2.1.cov hcv, ⟨fun i => if i = 1 then (.slice (some ⟨w6.heap.size, 0, none⟩) 2 2) else p i, q, r, (HS9.out.upd (hide_upd _ _) (fun k hk e => HON.out k (by simp [Value.ownBlock] at hk; have := HNX.out; have := HXL.out; have := HNE.out; omega) e)).congr (fun i hi j hj => by
              have hi2 : i < 3 := hi
              rcases (by omega : i = 0 ∨ i = 1 ∨ i = 2) with rfl | rfl | rfl <;> rcases (by omega : j = 0 ∨ j = 1 ∨ j = 2 ∨ j = 3) with rfl | rfl | rfl | rfl <;> rfl), fun i hi => by
              have hi2 : i < 3 := hi
              rcases (by omega : i = 0 ∨ i = 1 ∨ i = 2) with rfl | rfl | rfl
              · have := HR.out 0 (by simp [appMets]); exact ⟨this.1.cov hcv, this.2.1.cov hcv, this.2.2.cov hcv⟩
              · have := HR.out 1 (by simp [appMets]); exact ⟨newInts (HON.out _ (by have := HNX.out; have := HXL.out; have := HNE.out; omega)) HBN.out [1, 1] ⟨[], rfl⟩ 2 (by simp) (by decide) (by simp [wi64]), this.2.1.cov hcv, this.2.2.cov hcv⟩
              · have := HR.out 2 (by simp [appMets]); exact ⟨this.1.cov hcv, this.2.1.cov hcv, this.2.2.cov hcv⟩, fun x hx => by
              simp at hx
              rcases hx with rfl | rfl | rfl <;> simp [wi64]⟩, hp0.2.2.2.1.cov hcv, hp0.2.2.2.2⟩
          clear hW hw1 hcv hp0
          clear HS9 HHB8 HW9 HR
          have HIPX := Lib.hid hip
          have HUX := Lib.hid hux
          have HBX := Lib.hid hbx
          clear hip hux hbx
          generalize ((w6.setCell ⟨X, 3, none⟩ (.slice (some ⟨gm, 0, none⟩) 3 cap)).alloc (.cells #[.int .i64 1, .int .i64 1] 3)).setCell ⟨gm, 4, none⟩ (.slice (some ⟨w6.heap.size, 0, none⟩) 2 2) = W5 at *
          have x0 := cells_at HBX.out 0 _ rfl
          have x1 := cells_at HBX.out 1 _ rfl
          have x2 := cells_at HBX.out 2 _ rfl
          have x3 := cells_at HBX.out 3 _ rfl
          have x4 := cells_at HBX.out 4 _ rfl
          have hal := Upd.alloc (fun _ => False) W5 (.cells #[.string s, .slice (some ⟨N + 2, 0, none⟩) 4 4, .slice (some ⟨N + 7, 0, none⟩) 2 2, .slice (some ⟨gm, 0, none⟩) 3 cap, .slice (some ⟨N + 3, 0, none⟩) 2 2] 26)
          have HS5 := Lib.hid ((HLS.out.keep HUX.out).keep hal)
          have HSRC : Hid (Src (W5.alloc (.cells #[.string s, .slice (some ⟨N + 2, 0, none⟩) 4 4, .slice (some ⟨N + 7, 0, none⟩) 2 2, .slice (some ⟨gm, 0, none⟩) 3 cap, .slice (some ⟨N + 3, 0, none⟩) 2 2] 26)) 5 (.slice (some ⟨W5.heap.size, 0, none⟩) 1 1) 1 (pimC (⟨s, [1, 2, 3, 4], appImps s1 s2, [⟨[], 0, [1, 2, 3, 4], C0⟩, ⟨[1, 1], 2, [1, 2, 3, 4], C1⟩, ⟨[4, 3], 3, [1, 2], C2⟩], [1, 2]⟩, .slice (some ⟨N + 2, 0, none⟩) 4 4, .slice (some ⟨N + 7, 0, none⟩) 2 2, .slice (some ⟨gm, 0, none⟩) 3 cap, .slice (some ⟨N + 3, 0, none⟩) 2 2))) := Lib.hid (src5 W5 26 s _ _ _ _ _ _ _ _ _ _ _ _)
          have HPN : Hid (IsP (hide (Value.slice la P.length lc).ownBlock (W5.alloc (.cells #[.string s, .slice (some ⟨N + 2, 0, none⟩) 4 4, .slice (some ⟨N + 7, 0, none⟩) 2 2, .slice (some ⟨gm, 0, none⟩) 3 cap, .slice (some ⟨N + 3, 0, none⟩) 2 2] 26))) (⟨s, [1, 2, 3, 4], appImps s1 s2, [⟨[], 0, [1, 2, 3, 4], C0⟩, ⟨[1, 1], 2, [1, 2, 3, 4], C1⟩, ⟨[4, 3], 3, [1, 2], C2⟩], [1, 2]⟩, .slice (some ⟨N + 2, 0, none⟩) 4 4, .slice (some ⟨N + 7, 0, none⟩) 2 2, .slice (some ⟨gm, 0, none⟩) 3 cap, .slice (some ⟨N + 3, 0, none⟩) 2 2)) := Lib.hid (HIPX.out.past (hal.mono (fun _ h _ => h.elim)))
          have HUN := Lib.hid ((HU.out.trans HUX.out (fun _ h _ => h)).trans hal (fun _ h _ => h))
          obtain ⟨i0, hi, hz0, hz1, hz2⟩ := info_parts infoLI
          clear hal HBX
          go_wp2_with (at_builtin; go_loud (refine wpList_append_mine _ rfl _ _ 28 rfl 0 26 i0 (.agg #[.string { data := #[] }, .slice none 0 0, .slice none 0 0, .slice none 0 0, .slice none 0 0]) 5 112 Tryd.underlying28 hi hz0 hz1 hz2 rfl (by decide) (.slice la P.length lc) P.length (P.flatMap pimC) rfl HS5.out.row 1 (pimC (⟨s, [1, 2, 3, 4], appImps s1 s2, [⟨[], 0, [1, 2, 3, 4], C0⟩, ⟨[1, 1], 2, [1, 2, 3, 4], C1⟩, ⟨[4, 3], 3, [1, 2], C2⟩], [1, 2]⟩, .slice (some ⟨N + 2, 0, none⟩) 4 4, .slice (some ⟨N + 7, 0, none⟩) 2 2, .slice (some ⟨gm, 0, none⟩) 3 cap, .slice (some ⟨N + 3, 0, none⟩) 2 2)) HSRC.out (by unfold maxLen; omega) (by omega) (Nat.zero_le _) ?_))
          intro v6 w6 ho hg hf
          have HN6 := Lib.hid (HS5.out.add HPN.out ho hg hf HUN.out.size)
          have HU6 := Lib.hid (HUN.out.trans (Upd.grown (S := fun k => w.heap.size ≤ k) hg (fun k hk => .inl (HLS.out.own k hk))) (fun k hk hl => by omega))
          obtain ⟨a6, c6, rfl⟩ := HN6.out.slice
          clear ho hg hf x0 x1 x2 x3 x4
          go_wp2_with fail
          go_roundw
          case rel => exact ⟨P ++ [(⟨s, [1, 2, 3, 4], appImps s1 s2, [⟨[], 0, [1, 2, 3, 4], C0⟩, ⟨[1, 1], 2, [1, 2, 3, 4], C1⟩, ⟨[4, 3], 3, [1, 2], C2⟩], [1, 2]⟩, .slice (some ⟨N + 2, 0, none⟩) 4 4, .slice (some ⟨N + 7, 0, none⟩) 2 2, .slice (some ⟨gm, 0, none⟩) 3 cap, .slice (some ⟨N + 3, 0, none⟩) 2 2)], by simp; omega, by simp; omega, by simp, ⟨_, _, rfl⟩, HU6, HN6⟩
          case measure => simp [intOf]; omega
        · obtain ⟨p, hS, hR, hres⟩ := HIP0.out.2.1
          have hal := Upd.alloc (fun _ => False) W2 (.cells #[] 41)
          have hb3 := (hal.block X HXL.out id).trans HBX2.out
          have kj := cells_at hb3 2 _ rfl
          have HSRC : Hid (Src (W2.alloc (.cells #[] 41)) 4 (.slice (some ⟨N + 7, 0, none⟩) 2 2) 2 (cellsL 4 2 (impF (appImps s1 s2) p))) := Lib.hid ((Imps.src (L := appImps s1 s2) (hS.cov (cov_hide _ _)) (fun i hi => (hR i hi).cov (cov_hide _ _)) (by simp [appImps])).upd (HU12.out.trans hal (fun _ h _ => h)) (fun _ _ h => h))
          have HE : Hid ((W2.alloc (.cells #[] 41)).ownsRow 0 41 4 (.slice (some ⟨W2.heap.size, 0, none⟩) 0 0) 0 []) := Lib.hid (bnEmpty _ _ _ _ rfl)
          have HR := Lib.hid hR
          obtain ⟨i0, hi, hz0, hz1, hz2⟩ := info_parts infoImp
          clear hal hb3 hS hR hres
          go_wp2_with (at_builtin; go_loud (refine wpList_append_mine _ rfl _ _ 23 rfl 0 41 i0 (.agg #[.string { data := #[] }, .int .i64 0, .slice none 0 0, .int .i64 0]) 4 56 Tryd.underlying23 hi hz0 hz1 hz2 rfl (by decide) (.slice (some ⟨W2.heap.size, 0, none⟩) 0 0) 0 [] rfl HE.out 2 (cellsL 4 2 (impF (appImps s1 s2) p)) HSRC.out (by unfold maxLen; omega) (by omega) (Nat.zero_le _) ?_))
          intro v6 w6 ho hg hf
          obtain ⟨gm, cap, rfl, e1, e2, e3, e4, hu6, hS6, hfz⟩ := copy4 (n := 2) (f := impF (appImps s1 s2) p) ho hg hf (by decide)
          have hb6 := (hu6.block X HXL.out id).trans HBX2.out
          have hne : gm ≠ X := by have := HXL.out; omega
          have kj := cells_at hb6 2 _ rfl
          have fj := cells_fr hb6 2
          have hs7 := setAt w6 X 2 (.slice (some ⟨gm, 0, none⟩) 2 cap)
          have hb7 := set_blk (j := 2) (v := .slice (some ⟨gm, 0, none⟩) 2 cap) hb6
          have mj := cells_at hb7 2 (.slice (some ⟨gm, 0, none⟩) 2 cap) rfl
          have hS7 : Sl (w6.setCell ⟨X, 2, none⟩ (.slice (some ⟨gm, 0, none⟩) 2 cap)) (.slice (some ⟨gm, 0, none⟩) 2 cap) 4 2 (impF (appImps s1 s2) p) := hS6.upd hs7 (fun k hk e => hne (by simp [Value.ownBlock] at hk; omega))
          have hz7 : ∀ q, (w6.setCell ⟨X, 2, none⟩ (.slice (some ⟨gm, 0, none⟩) 2 cap)).frozen? ⟨gm, q, none⟩ = false := fun q => by
            rw [World.frozen?_of_block (w := w6) (hs7.block gm e4 hne)]
            exact hfz q
          have hgm7 : gm < (w6.setCell ⟨X, 2, none⟩ (.slice (some ⟨gm, 0, none⟩) 2 cap)).heap.size := Nat.lt_of_lt_of_le e4 hs7.size
          unfold maxLen at e2
          have hS8 : Sl ((w6.setCell ⟨X, 2, none⟩ (.slice (some ⟨gm, 0, none⟩) 2 cap)).drew) (.slice (some ⟨gm, 0, none⟩) 2 cap) 4 2 (impF (appImps s1 s2) p) := hS7
          have hz8 : ((w6.setCell ⟨X, 2, none⟩ (.slice (some ⟨gm, 0, none⟩) 2 cap)).drew).frozen? ⟨gm, 1, none⟩ = false := hz7 1
          replace mj : ((w6.setCell ⟨X, 2, none⟩ (.slice (some ⟨gm, 0, none⟩) 2 cap)).drew).cell? ⟨X, 2, none⟩ = some (.slice (some ⟨gm, 0, none⟩) 2 cap) := mj
          obtain ⟨g9, o9, he9, h9⟩ := hS8.at (k := 0) (by decide)
          simp only [Option.some.injEq, Addr.mk.injEq, and_true] at he9
          obtain ⟨rfl, rfl⟩ := he9
          have k9 : ((w6.setCell ⟨X, 2, none⟩ (.slice (some ⟨gm, 0, none⟩) 2 cap)).drew).cell? ⟨gm, 1, none⟩ = some (.int .i64 0) := h9 1 (by decide)
          have y1 : ((w6.setCell ⟨X, 2, none⟩ (.slice (some ⟨gm, 0, none⟩) 2 cap)).drew).cell? ⟨X + 1, 1, none⟩ = some (.int .i64 T.a) := by
            have hby := (hu6.block (X + 1) (Array.getElem?_eq_some_iff.1 HBY2.out).1 id).trans HBY2.out
            exact cells_at (set_keep (p := ⟨X, 2, none⟩) hby (by show X ≠ X + 1; omega)) 1 _ rfl
          obtain ⟨p4, hp4, HP4⟩ := pickM T.a 4 (by omega) (by omega)
          have H4 := Lib.hid HP4
          have HS9 : Hid (Sl (((w6.setCell ⟨X, 2, none⟩ (.slice (some ⟨gm, 0, none⟩) 2 cap)).setCell ⟨gm, 1, none⟩ (.int .i64 (p4 : Int))).drew) (.slice (some ⟨gm, 0, none⟩) 2 cap) 4 2 (fun i j => if i = 0 ∧ j = 1 then (.int .i64 (p4 : Int)) else impF (appImps s1 s2) p i j)) := Lib.hid (hS7.put (k := 0) (l := 1) (by decide) (by decide) (.int .i64 (p4 : Int)))
          have HHB8 := Lib.hid hb7
          have HW9 : Hid (Upd (fun k => k = X ∨ W2.heap.size ≤ k) W2 (((w6.setCell ⟨X, 2, none⟩ (.slice (some ⟨gm, 0, none⟩) 2 cap)).setCell ⟨gm, 1, none⟩ (.int .i64 (p4 : Int))).drew)) := Lib.hid ((((hu6.mono (fun _ h _ => h.elim)).trans hs7 (fun k hk _ => .inl hk)).trans (setAt _ gm 1 _) (fun k hk hl => .inr (by omega))).trans (Upd.drew (fun _ => False) _) (fun _ h _ => h.elim))
          have HNE := Lib.hid (And.intro hne (And.intro e3 e4))
          clear HP4 hs7 hb7 hS7 hz7 hgm7 hS8 h9 hS6 hb6 hu6 ho hg hf hfz hne e3 e4 HSRC HE
          go_upto_region 21 with fail
          refine wp_region_last (S := fun w' : World => w'.cell? ⟨X, 2, none⟩ = some (.slice (some ⟨gm, 0, none⟩) 2 cap) ∧ w'.cell? ⟨X + 1, 1, none⟩ = some (.int .i64 T.a) ∧ w'.cell? ⟨gm, 1, none⟩ = some (.int .i64 0) ∧ w'.frozen? ⟨gm, 1, none⟩ = false) 7 _ (by kernel_rfl) (by kernel_rfl) rfl ?_
          change wpHL _ _ _ _ _ _ _ _ _ _ (w6.setCell ⟨X, 2, none⟩ (.slice (some ⟨gm, 0, none⟩) 2 cap)).drew
          have HH : Hid ((fun w' : World => w'.cell? ⟨X, 2, none⟩ = some (.slice (some ⟨gm, 0, none⟩) 2 cap) ∧ w'.cell? ⟨X + 1, 1, none⟩ = some (.int .i64 T.a) ∧ w'.cell? ⟨gm, 1, none⟩ = some (.int .i64 0) ∧ w'.frozen? ⟨gm, 1, none⟩ = false) (w6.setCell ⟨X, 2, none⟩ (.slice (some ⟨gm, 0, none⟩) 2 cap)).drew) := Lib.hid ⟨mj, y1, k9, hz8⟩
          have hHeld := HH.out
          refine wpHL_take (i := 0) (v := ?_) rfl (by kernel_rfl) (fun _ _ _ h => h) hHeld (Or.inl ⟨by rfl, ?_⟩) ?_
          rotate_left
          · (intro w hSw; (try dsimp only at hSw); go_simp; try with_reducible rfl)
          simp only [Act.put, List.setIfInBounds_toArray, List.set_cons_zero, List.set_cons_succ]
          refine wpHL_take (i := 1) (v := ?_) rfl (by kernel_rfl) (fun _ _ _ h => h) hHeld (Or.inl ⟨by rfl, ?_⟩) ?_
          rotate_left
          · (intro w hSw; (try dsimp only at hSw); go_simp; try with_reducible rfl)
          simp only [Act.put, List.setIfInBounds_toArray, List.set_cons_zero, List.set_cons_succ]
          refine wpHL_take (i := 2) (v := ?_) rfl (by kernel_rfl) (fun _ _ _ h => h) hHeld (Or.inl ⟨by rfl, ?_⟩) ?_
          rotate_left
          · (intro w hSw; (try dsimp only at hSw); go_simp; try with_reducible rfl)
          simp only [Act.put, List.setIfInBounds_toArray, List.set_cons_zero, List.set_cons_succ]
          refine wpHL_take (i := 3) (v := ?_) rfl (by kernel_rfl) (fun _ _ _ h => h) hHeld (Or.inl ⟨by rfl, ?_⟩) ?_
          rotate_left
          · (intro w hSw; (try dsimp only at hSw); go_simp; try with_reducible rfl)
          simp only [Act.put, List.setIfInBounds_toArray, List.set_cons_zero, List.set_cons_succ]
          refine wpHL_step (i := 4) rfl (by kernel_rfl) (by decide) (fun K hK => ?_)
          have HKK := Lib.hid hK
          clear hK hHeld
          go_simp
          refine (H4.out _).mono ?_
          rintro e _ ⟨rfl, rfl⟩
          go_simp
          have hHeld := HH.out
          refine HKK.out _ _ hHeld ?_
          try simp only [Act.put, List.setIfInBounds_toArray, List.set_cons_zero, List.set_cons_succ]
          refine wpHL_take (i := 5) (v := ?_) rfl (by kernel_rfl) (fun _ _ _ h => h) hHeld (Or.inl ⟨by rfl, ?_⟩) ?_
          rotate_left
          · (intro w hSw; (try dsimp only at hSw); go_simp; try with_reducible rfl)
          simp only [Act.put, List.setIfInBounds_toArray, List.set_cons_zero, List.set_cons_succ]
          refine wpHL_take (i := 6) (v := ?_) rfl (by kernel_rfl) (fun _ _ _ h => h) hHeld (Or.inl ⟨by rfl, ?_⟩) ?_
          rotate_left
          · (intro w hSw; (try dsimp only at hSw); go_simp; try with_reducible rfl)
          simp only [Act.put, List.setIfInBounds_toArray, List.set_cons_zero, List.set_cons_succ]
          refine wpHL_last (by kernel_rfl) ?_
          clear hHeld HKK
          go_upto_region 22 with fail
          clear kj fj mj hz8 k9 y1
          have hbx : (((w6.setCell ⟨X, 2, none⟩ (.slice (some ⟨gm, 0, none⟩) 2 cap)).setCell ⟨gm, 1, none⟩ (.int .i64 (p4 : Int))).drew).heap[X]? = some (.cells #[.string s, .slice (some ⟨N + 2, 0, none⟩) 4 4, .slice (some ⟨gm, 0, none⟩) 2 cap, .slice (some ⟨N + 10, 0, none⟩) 3 3, .slice (some ⟨N + 3, 0, none⟩) 2 2] 26 (0, 0)) := set_keep HHB8.out HNE.out.1
          have hW : Upd (fun k => k = X ∨ W2.heap.size ≤ k) W2 (((w6.setCell ⟨X, 2, none⟩ (.slice (some ⟨gm, 0, none⟩) 2 cap)).setCell ⟨gm, 1, none⟩ (.int .i64 (p4 : Int))).drew) := HW9.out
          have hux : Upd (fun _ => False) wr (((w6.setCell ⟨X, 2, none⟩ (.slice (some ⟨gm, 0, none⟩) 2 cap)).setCell ⟨gm, 1, none⟩ (.int .i64 (p4 : Int))).drew) := HU2.out.trans hW (fun k hk hl => by have := HNX.out; have := HU2.out.size; have := HWN.out; rcases hk with hk | hk <;> omega)
          have hw1 : Upd (fun k => w1.heap.size ≤ k) w1 (((w6.setCell ⟨X, 2, none⟩ (.slice (some ⟨gm, 0, none⟩) 2 cap)).setCell ⟨gm, 1, none⟩ (.int .i64 (p4 : Int))).drew) := (HU12.out.mono (fun _ h _ => h.elim)).trans hW (fun k hk hl => by have := HXE.out; have := HU12.out.size; rcases hk with hk | hk <;> omega)
          have hcv := cov_past (Value.slice la P.length lc).ownBlock hw1
          have hp0 := HIP0.out
          have hip : IsP (hide (Value.slice la P.length lc).ownBlock (((w6.setCell ⟨X, 2, none⟩ (.slice (some ⟨gm, 0, none⟩) 2 cap)).setCell ⟨gm, 1, none⟩ (.int .i64 (p4 : Int))).drew)) (⟨s, [1, 2, 3, 4], [⟨s1, (p4 : Int), [1, 2], 2⟩, ⟨s2, 1, [4, 3], 3⟩], appMets C0 C1 C2, [1, 2]⟩, .slice (some ⟨N + 2, 0, none⟩) 4 4, .slice (some ⟨gm, 0, none⟩) 2 cap, .slice (some ⟨N + 10, 0, none⟩) 3 3, .slice (some ⟨N + 3, 0, none⟩) 2 2) := ⟨hp0.1.cov hcv, ⟨p, (HS9.out.upd (hide_upd _ _) (fun k hk e => HON.out k (by simp [Value.ownBlock] at hk; have := HNX.out; have := HXL.out; have := HNE.out; omega) e)).congr (fun i hi j hj => by
              have hi2 : i < 2 := hi
              rcases (by omega : i = 0 ∨ i = 1) with rfl | rfl <;> rcases (by omega : j = 0 ∨ j = 1 ∨ j = 2 ∨ j = 3) with rfl | rfl | rfl | rfl <;> rfl), fun i hi => by
              have hi2 : i < 2 := hi
              rcases (by omega : i = 0 ∨ i = 1) with rfl | rfl
              · exact (HR.out 0 (by simp [appImps])).cov hcv
              · exact (HR.out 1 (by simp [appImps])).cov hcv, fun x hx => by
              have := hp0.2.1
              obtain ⟨_, _, _, hh⟩ := this
              have h0 := hh ⟨s1, 0, [1, 2], 2⟩ (by simp [appImps])
              have h1 := hh ⟨s2, 1, [4, 3], 3⟩ (by simp [appImps])
              simp at hx
              rcases hx with rfl | rfl
              · exact ⟨by unfold wi64; simp; omega, h0.2⟩
              · exact h1⟩, hp0.2.2.1.cov hcv, hp0.2.2.2.1.cov hcv, hp0.2.2.2.2⟩
          clear hW hw1 hcv hp0
          clear HS9 HHB8 HW9 HR
          have HIPX := Lib.hid hip
          have HUX := Lib.hid hux
          have HBX := Lib.hid hbx
          clear hip hux hbx
          generalize ((w6.setCell ⟨X, 2, none⟩ (.slice (some ⟨gm, 0, none⟩) 2 cap)).setCell ⟨gm, 1, none⟩ (.int .i64 (p4 : Int))).drew = W5 at *
          have x0 := cells_at HBX.out 0 _ rfl
          have x1 := cells_at HBX.out 1 _ rfl
          have x2 := cells_at HBX.out 2 _ rfl
          have x3 := cells_at HBX.out 3 _ rfl
          have x4 := cells_at HBX.out 4 _ rfl
          have hal := Upd.alloc (fun _ => False) W5 (.cells #[.string s, .slice (some ⟨N + 2, 0, none⟩) 4 4, .slice (some ⟨gm, 0, none⟩) 2 cap, .slice (some ⟨N + 10, 0, none⟩) 3 3, .slice (some ⟨N + 3, 0, none⟩) 2 2] 26)
          have HS5 := Lib.hid ((HLS.out.keep HUX.out).keep hal)
          have HSRC : Hid (Src (W5.alloc (.cells #[.string s, .slice (some ⟨N + 2, 0, none⟩) 4 4, .slice (some ⟨gm, 0, none⟩) 2 cap, .slice (some ⟨N + 10, 0, none⟩) 3 3, .slice (some ⟨N + 3, 0, none⟩) 2 2] 26)) 5 (.slice (some ⟨W5.heap.size, 0, none⟩) 1 1) 1 (pimC (⟨s, [1, 2, 3, 4], [⟨s1, (p4 : Int), [1, 2], 2⟩, ⟨s2, 1, [4, 3], 3⟩], appMets C0 C1 C2, [1, 2]⟩, .slice (some ⟨N + 2, 0, none⟩) 4 4, .slice (some ⟨gm, 0, none⟩) 2 cap, .slice (some ⟨N + 10, 0, none⟩) 3 3, .slice (some ⟨N + 3, 0, none⟩) 2 2))) := Lib.hid (src5 W5 26 s _ _ _ _ _ _ _ _ _ _ _ _)
          have HPN : Hid (IsP (hide (Value.slice la P.length lc).ownBlock (W5.alloc (.cells #[.string s, .slice (some ⟨N + 2, 0, none⟩) 4 4, .slice (some ⟨gm, 0, none⟩) 2 cap, .slice (some ⟨N + 10, 0, none⟩) 3 3, .slice (some ⟨N + 3, 0, none⟩) 2 2] 26))) (⟨s, [1, 2, 3, 4], [⟨s1, (p4 : Int), [1, 2], 2⟩, ⟨s2, 1, [4, 3], 3⟩], appMets C0 C1 C2, [1, 2]⟩, .slice (some ⟨N + 2, 0, none⟩) 4 4, .slice (some ⟨gm, 0, none⟩) 2 cap, .slice (some ⟨N + 10, 0, none⟩) 3 3, .slice (some ⟨N + 3, 0, none⟩) 2 2)) := Lib.hid (HIPX.out.past (hal.mono (fun _ h _ => h.elim)))
          have HUN := Lib.hid ((HU.out.trans HUX.out (fun _ h _ => h)).trans hal (fun _ h _ => h))
          obtain ⟨i0, hi, hz0, hz1, hz2⟩ := info_parts infoLI
          clear hal HBX
          go_wp2_with (at_builtin; go_loud (refine wpList_append_mine _ rfl _ _ 28 rfl 0 26 i0 (.agg #[.string { data := #[] }, .slice none 0 0, .slice none 0 0, .slice none 0 0, .slice none 0 0]) 5 112 Tryd.underlying28 hi hz0 hz1 hz2 rfl (by decide) (.slice la P.length lc) P.length (P.flatMap pimC) rfl HS5.out.row 1 (pimC (⟨s, [1, 2, 3, 4], [⟨s1, (p4 : Int), [1, 2], 2⟩, ⟨s2, 1, [4, 3], 3⟩], appMets C0 C1 C2, [1, 2]⟩, .slice (some ⟨N + 2, 0, none⟩) 4 4, .slice (some ⟨gm, 0, none⟩) 2 cap, .slice (some ⟨N + 10, 0, none⟩) 3 3, .slice (some ⟨N + 3, 0, none⟩) 2 2)) HSRC.out (by unfold maxLen; omega) (by omega) (Nat.zero_le _) ?_))
          intro v6 w6 ho hg hf
          have HN6 := Lib.hid (HS5.out.add HPN.out ho hg hf HUN.out.size)
          have HU6 := Lib.hid (HUN.out.trans (Upd.grown (S := fun k => w.heap.size ≤ k) hg (fun k hk => .inl (HLS.out.own k hk))) (fun k hk hl => by omega))
          obtain ⟨a6, c6, rfl⟩ := HN6.out.slice
          clear ho hg hf x0 x1 x2 x3 x4
          go_wp2_with fail
          go_roundw
          case rel => exact ⟨P ++ [(⟨s, [1, 2, 3, 4], [⟨s1, (p4 : Int), [1, 2], 2⟩, ⟨s2, 1, [4, 3], 3⟩], appMets C0 C1 C2, [1, 2]⟩, .slice (some ⟨N + 2, 0, none⟩) 4 4, .slice (some ⟨gm, 0, none⟩) 2 cap, .slice (some ⟨N + 10, 0, none⟩) 3 3, .slice (some ⟨N + 3, 0, none⟩) 2 2)], by simp; omega, by simp; omega, by simp, ⟨_, _, rfl⟩, HU6, HN6⟩
          case measure => simp [intOf]; omega
        · go_upto_region 22 with fail
          have hbx := HBX2.out
          have hux := HU2.out
          have hip := HIP0.out.past ((HU12.out).mono (fun _ h _ => h.elim))
          have HIPX := Lib.hid hip
          have HUX := Lib.hid hux
          have HBX := Lib.hid hbx
          clear hip hux hbx
          generalize W2 = W5 at *
          have x0 := cells_at HBX.out 0 _ rfl
          have x1 := cells_at HBX.out 1 _ rfl
          have x2 := cells_at HBX.out 2 _ rfl
          have x3 := cells_at HBX.out 3 _ rfl
          have x4 := cells_at HBX.out 4 _ rfl
          have hal := Upd.alloc (fun _ => False) W5 (.cells #[.string s, .slice (some ⟨N + 2, 0, none⟩) 4 4, .slice (some ⟨N + 7, 0, none⟩) 2 2, .slice (some ⟨N + 10, 0, none⟩) 3 3, .slice (some ⟨N + 3, 0, none⟩) 2 2] 26)
          have HS5 := Lib.hid ((HLS.out.keep HUX.out).keep hal)
          have HSRC : Hid (Src (W5.alloc (.cells #[.string s, .slice (some ⟨N + 2, 0, none⟩) 4 4, .slice (some ⟨N + 7, 0, none⟩) 2 2, .slice (some ⟨N + 10, 0, none⟩) 3 3, .slice (some ⟨N + 3, 0, none⟩) 2 2] 26)) 5 (.slice (some ⟨W5.heap.size, 0, none⟩) 1 1) 1 (pimC (⟨s, [1, 2, 3, 4], appImps s1 s2, appMets C0 C1 C2, [1, 2]⟩, .slice (some ⟨N + 2, 0, none⟩) 4 4, .slice (some ⟨N + 7, 0, none⟩) 2 2, .slice (some ⟨N + 10, 0, none⟩) 3 3, .slice (some ⟨N + 3, 0, none⟩) 2 2))) := Lib.hid (src5 W5 26 s _ _ _ _ _ _ _ _ _ _ _ _)
          have HPN : Hid (IsP (hide (Value.slice la P.length lc).ownBlock (W5.alloc (.cells #[.string s, .slice (some ⟨N + 2, 0, none⟩) 4 4, .slice (some ⟨N + 7, 0, none⟩) 2 2, .slice (some ⟨N + 10, 0, none⟩) 3 3, .slice (some ⟨N + 3, 0, none⟩) 2 2] 26))) (⟨s, [1, 2, 3, 4], appImps s1 s2, appMets C0 C1 C2, [1, 2]⟩, .slice (some ⟨N + 2, 0, none⟩) 4 4, .slice (some ⟨N + 7, 0, none⟩) 2 2, .slice (some ⟨N + 10, 0, none⟩) 3 3, .slice (some ⟨N + 3, 0, none⟩) 2 2)) := Lib.hid (HIPX.out.past (hal.mono (fun _ h _ => h.elim)))
          have HUN := Lib.hid ((HU.out.trans HUX.out (fun _ h _ => h)).trans hal (fun _ h _ => h))
          obtain ⟨i0, hi, hz0, hz1, hz2⟩ := info_parts infoLI
          clear hal HBX
          go_wp2_with (at_builtin; go_loud (refine wpList_append_mine _ rfl _ _ 28 rfl 0 26 i0 (.agg #[.string { data := #[] }, .slice none 0 0, .slice none 0 0, .slice none 0 0, .slice none 0 0]) 5 112 Tryd.underlying28 hi hz0 hz1 hz2 rfl (by decide) (.slice la P.length lc) P.length (P.flatMap pimC) rfl HS5.out.row 1 (pimC (⟨s, [1, 2, 3, 4], appImps s1 s2, appMets C0 C1 C2, [1, 2]⟩, .slice (some ⟨N + 2, 0, none⟩) 4 4, .slice (some ⟨N + 7, 0, none⟩) 2 2, .slice (some ⟨N + 10, 0, none⟩) 3 3, .slice (some ⟨N + 3, 0, none⟩) 2 2)) HSRC.out (by unfold maxLen; omega) (by omega) (Nat.zero_le _) ?_))
          intro v6 w6 ho hg hf
          have HN6 := Lib.hid (HS5.out.add HPN.out ho hg hf HUN.out.size)
          have HU6 := Lib.hid (HUN.out.trans (Upd.grown (S := fun k => w.heap.size ≤ k) hg (fun k hk => .inl (HLS.out.own k hk))) (fun k hk hl => by omega))
          obtain ⟨a6, c6, rfl⟩ := HN6.out.slice
          clear ho hg hf x0 x1 x2 x3 x4
          go_wp2_with fail
          go_roundw
          case rel => exact ⟨P ++ [(⟨s, [1, 2, 3, 4], appImps s1 s2, appMets C0 C1 C2, [1, 2]⟩, .slice (some ⟨N + 2, 0, none⟩) 4 4, .slice (some ⟨N + 7, 0, none⟩) 2 2, .slice (some ⟨N + 10, 0, none⟩) 3 3, .slice (some ⟨N + 3, 0, none⟩) 2 2)], by simp; omega, by simp; omega, by simp, ⟨_, _, rfl⟩, HU6, HN6⟩
          case measure => simp [intOf]; omega
        · go_upto_region 22 with fail
          have hbx := HBX2.out
          have hux := HU2.out
          have hip := HIP0.out.past ((HU12.out).mono (fun _ h _ => h.elim))
          have HIPX := Lib.hid hip
          have HUX := Lib.hid hux
          have HBX := Lib.hid hbx
          clear hip hux hbx
          generalize W2 = W5 at *
          have x0 := cells_at HBX.out 0 _ rfl
          have x1 := cells_at HBX.out 1 _ rfl
          have x2 := cells_at HBX.out 2 _ rfl
          have x3 := cells_at HBX.out 3 _ rfl
          have x4 := cells_at HBX.out 4 _ rfl
          have hal := Upd.alloc (fun _ => False) W5 (.cells #[.string s, .slice (some ⟨N + 2, 0, none⟩) 4 4, .slice (some ⟨N + 7, 0, none⟩) 2 2, .slice (some ⟨N + 10, 0, none⟩) 3 3, .slice (some ⟨N + 3, 0, none⟩) 2 2] 26)
          have HS5 := Lib.hid ((HLS.out.keep HUX.out).keep hal)
          have HSRC : Hid (Src (W5.alloc (.cells #[.string s, .slice (some ⟨N + 2, 0, none⟩) 4 4, .slice (some ⟨N + 7, 0, none⟩) 2 2, .slice (some ⟨N + 10, 0, none⟩) 3 3, .slice (some ⟨N + 3, 0, none⟩) 2 2] 26)) 5 (.slice (some ⟨W5.heap.size, 0, none⟩) 1 1) 1 (pimC (⟨s, [1, 2, 3, 4], appImps s1 s2, appMets C0 C1 C2, [1, 2]⟩, .slice (some ⟨N + 2, 0, none⟩) 4 4, .slice (some ⟨N + 7, 0, none⟩) 2 2, .slice (some ⟨N + 10, 0, none⟩) 3 3, .slice (some ⟨N + 3, 0, none⟩) 2 2))) := Lib.hid (src5 W5 26 s _ _ _ _ _ _ _ _ _ _ _ _)
          have HPN : Hid (IsP (hide (Value.slice la P.length lc).ownBlock (W5.alloc (.cells #[.string s, .slice (some ⟨N + 2, 0, none⟩) 4 4, .slice (some ⟨N + 7, 0, none⟩) 2 2, .slice (some ⟨N + 10, 0, none⟩) 3 3, .slice (some ⟨N + 3, 0, none⟩) 2 2] 26))) (⟨s, [1, 2, 3, 4], appImps s1 s2, appMets C0 C1 C2, [1, 2]⟩, .slice (some ⟨N + 2, 0, none⟩) 4 4, .slice (some ⟨N + 7, 0, none⟩) 2 2, .slice (some ⟨N + 10, 0, none⟩) 3 3, .slice (some ⟨N + 3, 0, none⟩) 2 2)) := Lib.hid (HIPX.out.past (hal.mono (fun _ h _ => h.elim)))
          have HUN := Lib.hid ((HU.out.trans HUX.out (fun _ h _ => h)).trans hal (fun _ h _ => h))
          obtain ⟨i0, hi, hz0, hz1, hz2⟩ := info_parts infoLI
          clear hal HBX
          go_wp2_with (at_builtin; go_loud (refine wpList_append_mine _ rfl _ _ 28 rfl 0 26 i0 (.agg #[.string { data := #[] }, .slice none 0 0, .slice none 0 0, .slice none 0 0, .slice none 0 0]) 5 112 Tryd.underlying28 hi hz0 hz1 hz2 rfl (by decide) (.slice la P.length lc) P.length (P.flatMap pimC) rfl HS5.out.row 1 (pimC (⟨s, [1, 2, 3, 4], appImps s1 s2, appMets C0 C1 C2, [1, 2]⟩, .slice (some ⟨N + 2, 0, none⟩) 4 4, .slice (some ⟨N + 7, 0, none⟩) 2 2, .slice (some ⟨N + 10, 0, none⟩) 3 3, .slice (some ⟨N + 3, 0, none⟩) 2 2)) HSRC.out (by unfold maxLen; omega) (by omega) (Nat.zero_le _) ?_))
          intro v6 w6 ho hg hf
          have HN6 := Lib.hid (HS5.out.add HPN.out ho hg hf HUN.out.size)
          have HU6 := Lib.hid (HUN.out.trans (Upd.grown (S := fun k => w.heap.size ≤ k) hg (fun k hk => .inl (HLS.out.own k hk))) (fun k hk hl => by omega))
          obtain ⟨a6, c6, rfl⟩ := HN6.out.slice
          clear ho hg hf x0 x1 x2 x3 x4
          go_wp2_with fail
          go_roundw
          case rel => exact ⟨P ++ [(⟨s, [1, 2, 3, 4], appImps s1 s2, appMets C0 C1 C2, [1, 2]⟩, .slice (some ⟨N + 2, 0, none⟩) 4 4, .slice (some ⟨N + 7, 0, none⟩) 2 2, .slice (some ⟨N + 10, 0, none⟩) 3 3, .slice (some ⟨N + 3, 0, none⟩) 2 2)], by simp; omega, by simp; omega, by simp, ⟨_, _, rfl⟩, HU6, HN6⟩
          case measure => simp [intOf]; omega
        · go_upto_region 22 with fail
          have hbx := HBX2.out
          have hux := HU2.out
          have hip := HIP0.out.past ((HU12.out).mono (fun _ h _ => h.elim))
          have HIPX := Lib.hid hip
          have HUX := Lib.hid hux
          have HBX := Lib.hid hbx
          clear hip hux hbx
          generalize W2 = W5 at *
          have x0 := cells_at HBX.out 0 _ rfl
          have x1 := cells_at HBX.out 1 _ rfl
          have x2 := cells_at HBX.out 2 _ rfl
          have x3 := cells_at HBX.out 3 _ rfl
          have x4 := cells_at HBX.out 4 _ rfl
          have hal := Upd.alloc (fun _ => False) W5 (.cells #[.string s, .slice (some ⟨N + 2, 0, none⟩) 4 4, .slice (some ⟨N + 7, 0, none⟩) 2 2, .slice (some ⟨N + 10, 0, none⟩) 3 3, .slice (some ⟨N + 3, 0, none⟩) 2 2] 26)
          have HS5 := Lib.hid ((HLS.out.keep HUX.out).keep hal)
          have HSRC : Hid (Src (W5.alloc (.cells #[.string s, .slice (some ⟨N + 2, 0, none⟩) 4 4, .slice (some ⟨N + 7, 0, none⟩) 2 2, .slice (some ⟨N + 10, 0, none⟩) 3 3, .slice (some ⟨N + 3, 0, none⟩) 2 2] 26)) 5 (.slice (some ⟨W5.heap.size, 0, none⟩) 1 1) 1 (pimC (⟨s, [1, 2, 3, 4], appImps s1 s2, appMets C0 C1 C2, [1, 2]⟩, .slice (some ⟨N + 2, 0, none⟩) 4 4, .slice (some ⟨N + 7, 0, none⟩) 2 2, .slice (some ⟨N + 10, 0, none⟩) 3 3, .slice (some ⟨N + 3, 0, none⟩) 2 2))) := Lib.hid (src5 W5 26 s _ _ _ _ _ _ _ _ _ _ _ _)
          have HPN : Hid (IsP (hide (Value.slice la P.length lc).ownBlock (W5.alloc (.cells #[.string s, .slice (some ⟨N + 2, 0, none⟩) 4 4, .slice (some ⟨N + 7, 0, none⟩) 2 2, .slice (some ⟨N + 10, 0, none⟩) 3 3, .slice (some ⟨N + 3, 0, none⟩) 2 2] 26))) (⟨s, [1, 2, 3, 4], appImps s1 s2, appMets C0 C1 C2, [1, 2]⟩, .slice (some ⟨N + 2, 0, none⟩) 4 4, .slice (some ⟨N + 7, 0, none⟩) 2 2, .slice (some ⟨N + 10, 0, none⟩) 3 3, .slice (some ⟨N + 3, 0, none⟩) 2 2)) := Lib.hid (HIPX.out.past (hal.mono (fun _ h _ => h.elim)))
          have HUN := Lib.hid ((HU.out.trans HUX.out (fun _ h _ => h)).trans hal (fun _ h _ => h))
          obtain ⟨i0, hi, hz0, hz1, hz2⟩ := info_parts infoLI
          clear hal HBX
          go_wp2_with (at_builtin; go_loud (refine wpList_append_mine _ rfl _ _ 28 rfl 0 26 i0 (.agg #[.string { data := #[] }, .slice none 0 0, .slice none 0 0, .slice none 0 0, .slice none 0 0]) 5 112 Tryd.underlying28 hi hz0 hz1 hz2 rfl (by decide) (.slice la P.length lc) P.length (P.flatMap pimC) rfl HS5.out.row 1 (pimC (⟨s, [1, 2, 3, 4], appImps s1 s2, appMets C0 C1 C2, [1, 2]⟩, .slice (some ⟨N + 2, 0, none⟩) 4 4, .slice (some ⟨N + 7, 0, none⟩) 2 2, .slice (some ⟨N + 10, 0, none⟩) 3 3, .slice (some ⟨N + 3, 0, none⟩) 2 2)) HSRC.out (by unfold maxLen; omega) (by omega) (Nat.zero_le _) ?_))
          intro v6 w6 ho hg hf
          have HN6 := Lib.hid (HS5.out.add HPN.out ho hg hf HUN.out.size)
          have HU6 := Lib.hid (HUN.out.trans (Upd.grown (S := fun k => w.heap.size ≤ k) hg (fun k hk => .inl (HLS.out.own k hk))) (fun k hk hl => by omega))
          obtain ⟨a6, c6, rfl⟩ := HN6.out.slice
          clear ho hg hf x0 x1 x2 x3 x4
          go_wp2_with fail
          go_roundw
          case rel => exact ⟨P ++ [(⟨s, [1, 2, 3, 4], appImps s1 s2, appMets C0 C1 C2, [1, 2]⟩, .slice (some ⟨N + 2, 0, none⟩) 4 4, .slice (some ⟨N + 7, 0, none⟩) 2 2, .slice (some ⟨N + 10, 0, none⟩) 3 3, .slice (some ⟨N + 3, 0, none⟩) 2 2)], by simp; omega, by simp; omega, by simp, ⟨_, _, rfl⟩, HU6, HN6⟩
          case measure => simp [intOf]; omega
      · have hi4 : ¬ ((P.length : Int) < (Ts.length : Int)) := by omega
        go_upto_region 22 with fail
        have hip := HIP1.out
        have hux := HU1.out
        have hbx := HBX1.out
        clear HIP1 HU1 HBX1
        unfold appP at hip
        generalize wr.heap.size = N at *
        have HIPX := Lib.hid hip
        have HUX := Lib.hid hux
        have HBX := Lib.hid hbx
        clear hip hux hbx
        generalize w1.alloc (.cells #[.string s, .slice (some ⟨N + 2, 0, none⟩) 4 4, .slice (some ⟨N + 7, 0, none⟩) 2 2, .slice (some ⟨N + 10, 0, none⟩) 3 3, .slice (some ⟨N + 3, 0, none⟩) 2 2] 26) = W5 at *
        have x0 := cells_at HBX.out 0 _ rfl
        have x1 := cells_at HBX.out 1 _ rfl
        have x2 := cells_at HBX.out 2 _ rfl
        have x3 := cells_at HBX.out 3 _ rfl
        have x4 := cells_at HBX.out 4 _ rfl
        have hal := Upd.alloc (fun _ => False) W5 (.cells #[.string s, .slice (some ⟨N + 2, 0, none⟩) 4 4, .slice (some ⟨N + 7, 0, none⟩) 2 2, .slice (some ⟨N + 10, 0, none⟩) 3 3, .slice (some ⟨N + 3, 0, none⟩) 2 2] 26)
        have HS5 := Lib.hid ((HLS.out.keep HUX.out).keep hal)
        have HSRC : Hid (Src (W5.alloc (.cells #[.string s, .slice (some ⟨N + 2, 0, none⟩) 4 4, .slice (some ⟨N + 7, 0, none⟩) 2 2, .slice (some ⟨N + 10, 0, none⟩) 3 3, .slice (some ⟨N + 3, 0, none⟩) 2 2] 26)) 5 (.slice (some ⟨W5.heap.size, 0, none⟩) 1 1) 1 (pimC (⟨s, [1, 2, 3, 4], appImps s1 s2, appMets C0 C1 C2, [1, 2]⟩, .slice (some ⟨N + 2, 0, none⟩) 4 4, .slice (some ⟨N + 7, 0, none⟩) 2 2, .slice (some ⟨N + 10, 0, none⟩) 3 3, .slice (some ⟨N + 3, 0, none⟩) 2 2))) := Lib.hid (src5 W5 26 s _ _ _ _ _ _ _ _ _ _ _ _)
        have HPN : Hid (IsP (hide (Value.slice la P.length lc).ownBlock (W5.alloc (.cells #[.string s, .slice (some ⟨N + 2, 0, none⟩) 4 4, .slice (some ⟨N + 7, 0, none⟩) 2 2, .slice (some ⟨N + 10, 0, none⟩) 3 3, .slice (some ⟨N + 3, 0, none⟩) 2 2] 26))) (⟨s, [1, 2, 3, 4], appImps s1 s2, appMets C0 C1 C2, [1, 2]⟩, .slice (some ⟨N + 2, 0, none⟩) 4 4, .slice (some ⟨N + 7, 0, none⟩) 2 2, .slice (some ⟨N + 10, 0, none⟩) 3 3, .slice (some ⟨N + 3, 0, none⟩) 2 2)) := Lib.hid (HIPX.out.past (hal.mono (fun _ h _ => h.elim)))
        have HUN := Lib.hid ((HU.out.trans HUX.out (fun _ h _ => h)).trans hal (fun _ h _ => h))
        obtain ⟨i0, hi, hz0, hz1, hz2⟩ := info_parts infoLI
        clear hal HBX
        go_wp2_with (at_builtin; go_loud (refine wpList_append_mine _ rfl _ _ 28 rfl 0 26 i0 (.agg #[.string { data := #[] }, .slice none 0 0, .slice none 0 0, .slice none 0 0, .slice none 0 0]) 5 112 Tryd.underlying28 hi hz0 hz1 hz2 rfl (by decide) (.slice la P.length lc) P.length (P.flatMap pimC) rfl HS5.out.row 1 (pimC (⟨s, [1, 2, 3, 4], appImps s1 s2, appMets C0 C1 C2, [1, 2]⟩, .slice (some ⟨N + 2, 0, none⟩) 4 4, .slice (some ⟨N + 7, 0, none⟩) 2 2, .slice (some ⟨N + 10, 0, none⟩) 3 3, .slice (some ⟨N + 3, 0, none⟩) 2 2)) HSRC.out (by unfold maxLen; omega) (by omega) (Nat.zero_le _) ?_))
        intro v6 w6 ho hg hf
        have HN6 := Lib.hid (HS5.out.add HPN.out ho hg hf HUN.out.size)
        have HU6 := Lib.hid (HUN.out.trans (Upd.grown (S := fun k => w.heap.size ≤ k) hg (fun k hk => .inl (HLS.out.own k hk))) (fun k hk hl => by omega))
        obtain ⟨a6, c6, rfl⟩ := HN6.out.slice
        clear ho hg hf x0 x1 x2 x3 x4
        go_wp2_with fail
        go_roundw
        case rel => exact ⟨P ++ [(⟨s, [1, 2, 3, 4], appImps s1 s2, appMets C0 C1 C2, [1, 2]⟩, .slice (some ⟨N + 2, 0, none⟩) 4 4, .slice (some ⟨N + 7, 0, none⟩) 2 2, .slice (some ⟨N + 10, 0, none⟩) 3 3, .slice (some ⟨N + 3, 0, none⟩) 2 2)], by simp; omega, by simp; omega, by simp, ⟨_, _, rfl⟩, HU6, HN6⟩
        case measure => simp [intOf]; omega
    · have HI := Lib.hid HLS.out.imgs
      by_cases h1 : P.length < Ws.length
      · have h2 : ¬ ((P.length : Int) < 4) := by omega
        have h3 : (P.length : Int) < (Ws.length : Int) := by omega
        by_cases h5 : 0 < k.tmod 5
        · obtain ⟨q1, hq1, HP1⟩ := pickM a 5 (by omega) (by omega)
          obtain ⟨q2, hq2, HP2⟩ := pickM k 3 (by omega) (by omega)
          have H1 := Lib.hid HP1
          have H2 := Lib.hid HP2
          clear HP1 HP2
          go_wp2_with fail
          refine (H1.out _).mono ?_
          rintro e _ ⟨rfl, rfl⟩
          go_wp2_with fail
          refine (H2.out _).mono ?_
          rintro e _ ⟨rfl, rfl⟩
          go_wp2_with fail
          refine (hName2 _ _).mono ?_
          rintro e _ ⟨rfl, rfl⟩
          generalize nmOf _ = nm2
          go_wp2_with fail
          refine (nResolve _ _ P HI.out (q1 : Int) (q2 : Int)).mono ?_
          rintro e w3 ⟨rfl, hu⟩
          obtain ⟨R, hR⟩ : ∃ R, resP P (q1 : Int) (q2 : Int) = R := ⟨_, rfl⟩
          rw [hR]
          obtain ⟨r1, r2, r3⟩ := R
          have HR := Lib.hid hR
          have HU3 := Lib.hid (HU.out.trans hu (fun _ h _ => h))
          have HI3 := Lib.hid (HI.out.later (upd_below hu))
          clear hu hR
          unfold resV
          dsimp only
          go_wp2_with fail
          refine (rResolve8 _ _ P HI3.out (q1 : Int) (q2 : Int)).mono ?_
          rintro e w4 ⟨rfl, hu⟩
          rw [HR.out]
          have HU4 := Lib.hid (HU3.out.trans hu (fun _ h _ => h))
          have HI4 := Lib.hid (HI3.out.later (upd_below hu))
          clear hu
          unfold resV
          dsimp only
          go_wp2_with fail
          refine (lKnown _ (binsUpd HB.out HU4.out)).mono ?_
          rintro e w5 ⟨rfl, hu⟩
          have HU5 := Lib.hid (HU4.out.trans hu (fun _ h _ => h))
          have HI5 := Lib.hid (HI4.out.later (upd_below hu))
          have e1 : (r1 == r1) = true := by simp
          have e2 : (r2 == r2) = true := by simp
          clear hu
          obtain ⟨fp, hfp⟩ : ∃ fp, findP nm2 P = fp := ⟨_, rfl⟩
          have HFP := Lib.hid hfp
          have e3 : (fp == fp) = true := by simp
          clear hfp
          cases r3 <;>
          · go_wp2_with fail
            refine (nFind _ _ P HI5.out nm2).mono ?_
            rintro e w6 ⟨rfl, hu⟩
            rw [HFP.out]
            have HU6 := Lib.hid (HU5.out.trans hu (fun _ h _ => h))
            have HI6 := Lib.hid (HI5.out.later (upd_below hu))
            clear hu
            go_wp2_with fail
            refine (rFind8 _ _ P HI6.out nm2).mono ?_
            rintro e w7 ⟨rfl, hu⟩
            rw [HFP.out]
            have HU7 := Lib.hid (HU6.out.trans hu (fun _ h _ => h))
            clear hu
            go_wp2_with fail
            go_ret
            exact ⟨rfl, HU7.out⟩
        · go_wp2_with fail
          refine (nResolve _ _ P HI.out a k).mono ?_
          rintro e w3 ⟨rfl, hu⟩
          obtain ⟨R, hR⟩ : ∃ R, resP P a k = R := ⟨_, rfl⟩
          rw [hR]
          obtain ⟨r1, r2, r3⟩ := R
          have HR := Lib.hid hR
          have HU3 := Lib.hid (HU.out.trans hu (fun _ h _ => h))
          have HI3 := Lib.hid (HI.out.later (upd_below hu))
          clear hu hR
          unfold resV
          dsimp only
          go_wp2_with fail
          refine (rResolve8 _ _ P HI3.out a k).mono ?_
          rintro e w4 ⟨rfl, hu⟩
          rw [HR.out]
          have HU4 := Lib.hid (HU3.out.trans hu (fun _ h _ => h))
          have HI4 := Lib.hid (HI3.out.later (upd_below hu))
          clear hu
          unfold resV
          dsimp only
          go_wp2_with fail
          refine (lKnown _ (binsUpd HB.out HU4.out)).mono ?_
          rintro e w5 ⟨rfl, hu⟩
          have HU5 := Lib.hid (HU4.out.trans hu (fun _ h _ => h))
          have HI5 := Lib.hid (HI4.out.later (upd_below hu))
          have e1 : (r1 == r1) = true := by simp
          have e2 : (r2 == r2) = true := by simp
          clear hu
          obtain ⟨fp, hfp⟩ : ∃ fp, findP nm P = fp := ⟨_, rfl⟩
          have HFP := Lib.hid hfp
          have e3 : (fp == fp) = true := by simp
          clear hfp
          cases r3 <;>
          · go_wp2_with fail
            refine (nFind _ _ P HI5.out nm).mono ?_
            rintro e w6 ⟨rfl, hu⟩
            rw [HFP.out]
            have HU6 := Lib.hid (HU5.out.trans hu (fun _ h _ => h))
            have HI6 := Lib.hid (HI5.out.later (upd_below hu))
            clear hu
            go_wp2_with fail
            refine (rFind8 _ _ P HI6.out nm).mono ?_
            rintro e w7 ⟨rfl, hu⟩
            rw [HFP.out]
            have HU7 := Lib.hid (HU6.out.trans hu (fun _ h _ => h))
            clear hu
            go_wp2_with fail
            go_ret
            exact ⟨rfl, HU7.out⟩
      · have h3 : ¬ ((P.length : Int) < (Ws.length : Int)) := by omega
        by_cases h5 : 0 < k.tmod 5
        · obtain ⟨q1, hq1, HP1⟩ := pickM a 5 (by omega) (by omega)
          obtain ⟨q2, hq2, HP2⟩ := pickM k 3 (by omega) (by omega)
          have H1 := Lib.hid HP1
          have H2 := Lib.hid HP2
          clear HP1 HP2
          go_wp2_with fail
          refine (H1.out _).mono ?_
          rintro e _ ⟨rfl, rfl⟩
          go_wp2_with fail
          refine (H2.out _).mono ?_
          rintro e _ ⟨rfl, rfl⟩
          go_wp2_with fail
          refine (hName2 _ _).mono ?_
          rintro e _ ⟨rfl, rfl⟩
          generalize nmOf _ = nm2
          go_wp2_with fail
          refine (nResolve _ _ P HI.out (q1 : Int) (q2 : Int)).mono ?_
          rintro e w3 ⟨rfl, hu⟩
          obtain ⟨R, hR⟩ : ∃ R, resP P (q1 : Int) (q2 : Int) = R := ⟨_, rfl⟩
          rw [hR]
          obtain ⟨r1, r2, r3⟩ := R
          have HR := Lib.hid hR
          have HU3 := Lib.hid (HU.out.trans hu (fun _ h _ => h))
          have HI3 := Lib.hid (HI.out.later (upd_below hu))
          clear hu hR
          unfold resV
          dsimp only
          go_wp2_with fail
          refine (rResolve8 _ _ P HI3.out (q1 : Int) (q2 : Int)).mono ?_
          rintro e w4 ⟨rfl, hu⟩
          rw [HR.out]
          have HU4 := Lib.hid (HU3.out.trans hu (fun _ h _ => h))
          have HI4 := Lib.hid (HI3.out.later (upd_below hu))
          clear hu
          unfold resV
          dsimp only
          go_wp2_with fail
          refine (lKnown _ (binsUpd HB.out HU4.out)).mono ?_
          rintro e w5 ⟨rfl, hu⟩
          have HU5 := Lib.hid (HU4.out.trans hu (fun _ h _ => h))
          have HI5 := Lib.hid (HI4.out.later (upd_below hu))
          have e1 : (r1 == r1) = true := by simp
          have e2 : (r2 == r2) = true := by simp
          clear hu
          obtain ⟨fp, hfp⟩ : ∃ fp, findP nm2 P = fp := ⟨_, rfl⟩
          have HFP := Lib.hid hfp
          have e3 : (fp == fp) = true := by simp
          clear hfp
          cases r3 <;>
          · go_wp2_with fail
            refine (nFind _ _ P HI5.out nm2).mono ?_
            rintro e w6 ⟨rfl, hu⟩
            rw [HFP.out]
            have HU6 := Lib.hid (HU5.out.trans hu (fun _ h _ => h))
            have HI6 := Lib.hid (HI5.out.later (upd_below hu))
            clear hu
            go_wp2_with fail
            refine (rFind8 _ _ P HI6.out nm2).mono ?_
            rintro e w7 ⟨rfl, hu⟩
            rw [HFP.out]
            have HU7 := Lib.hid (HU6.out.trans hu (fun _ h _ => h))
            clear hu
            go_wp2_with fail
            go_ret
            exact ⟨rfl, HU7.out⟩
        · go_wp2_with fail
          refine (nResolve _ _ P HI.out a k).mono ?_
          rintro e w3 ⟨rfl, hu⟩
          obtain ⟨R, hR⟩ : ∃ R, resP P a k = R := ⟨_, rfl⟩
          rw [hR]
          obtain ⟨r1, r2, r3⟩ := R
          have HR := Lib.hid hR
          have HU3 := Lib.hid (HU.out.trans hu (fun _ h _ => h))
          have HI3 := Lib.hid (HI.out.later (upd_below hu))
          clear hu hR
          unfold resV
          dsimp only
          go_wp2_with fail
          refine (rResolve8 _ _ P HI3.out a k).mono ?_
          rintro e w4 ⟨rfl, hu⟩
          rw [HR.out]
          have HU4 := Lib.hid (HU3.out.trans hu (fun _ h _ => h))
          have HI4 := Lib.hid (HI3.out.later (upd_below hu))
          clear hu
          unfold resV
          dsimp only
          go_wp2_with fail
          refine (lKnown _ (binsUpd HB.out HU4.out)).mono ?_
          rintro e w5 ⟨rfl, hu⟩
          have HU5 := Lib.hid (HU4.out.trans hu (fun _ h _ => h))
          have HI5 := Lib.hid (HI4.out.later (upd_below hu))
          have e1 : (r1 == r1) = true := by simp
          have e2 : (r2 == r2) = true := by simp
          clear hu
          obtain ⟨fp, hfp⟩ : ∃ fp, findP nm P = fp := ⟨_, rfl⟩
          have HFP := Lib.hid hfp
          have e3 : (fp == fp) = true := by simp
          clear hfp
          cases r3 <;>
          · go_wp2_with fail
            refine (nFind _ _ P HI5.out nm).mono ?_
            rintro e w6 ⟨rfl, hu⟩
            rw [HFP.out]
            have HU6 := Lib.hid (HU5.out.trans hu (fun _ h _ => h))
            have HI6 := Lib.hid (HI5.out.later (upd_below hu))
            clear hu
            go_wp2_with fail
            refine (rFind8 _ _ P HI6.out nm).mono ?_
            rintro e w7 ⟨rfl, hu⟩
            rw [HFP.out]
            have HU7 := Lib.hid (HU6.out.trans hu (fun _ h _ => h))
            clear hu
            go_wp2_with fail
            go_ret
            exact ⟨rfl, HU7.out⟩
end Go.Proofs.YtkjmpobbbjljjaaDoor

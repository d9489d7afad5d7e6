/- Package leak: an argument of events; the law's fill. -/
import Derived.Test.YtklokkbgjpfogaaKd
import Derived.IntWalk
import Derived.ProofKit
import Derived.Deep.Slices
import Derived.Deep.Fields
import Derived.ChangeSame
import Derived.Carry
namespace Go.Proofs.Ytklokkbgjpfogaa
open Go.RowKit Go.Lib Go.ChangeShapes Go.WideShapes Go.Deep
set_option linter.unusedVariables false
set_option linter.unusedSimpArgs false

theorem cells_ev : Try.prog.cellsOf 26 = 4 := by kernel_rfl
theorem open_ev {H : Type} {enc : TypeId × Value → H} {W : World} {n : Nat} {cs : List Value} {x : DataW H × List MemPlace} (h : DataW.trod enc Try.prog W 0 (fun _ => true) true n 26 cs = some x) :
    ∃ c0 c1 c2 c3 y0 y1 y2 y3 m, cs = [c0, c1, c2, c3] ∧ x.1 = .agg [y0.1, y1.1, y2.1, y3.1] ∧ DataW.trod enc Try.prog W 0 (fun _ => true) true m 3 [c0] = some y0 ∧ DataW.trod enc Try.prog W 0 (fun _ => true) true m 3 [c1] = some y1 ∧
      DataW.trod enc Try.prog W 0 (fun _ => true) true m 3 [c2] = some y2 ∧ DataW.trod enc Try.prog W 0 (fun _ => true) true m 3 [c3] = some y3 := by
  obtain ⟨ys, m, _, rfl, hl, hlen, hg⟩ := DataW.trod_struct Try.underlying26 h
  rw [cells_ev] at hl
  match cs, hl, ys, hlen with
  | [c0, c1, c2, c3], _, [y0, y1, y2, y3], _ =>
    have g0 : DataW.trod enc Try.prog W 0 (fun _ => true) true m 3 (([c0, c1, c2, c3].drop 0).take (Try.prog.cellsOf 3)) = some y0 := hg 0 _ rfl
    have g1 : DataW.trod enc Try.prog W 0 (fun _ => true) true m 3 (([c0, c1, c2, c3].drop 1).take (Try.prog.cellsOf 3)) = some y1 := hg 1 _ rfl
    have g2 : DataW.trod enc Try.prog W 0 (fun _ => true) true m 3 (([c0, c1, c2, c3].drop 2).take (Try.prog.cellsOf 3)) = some y2 := hg 2 _ rfl
    have g3 : DataW.trod enc Try.prog W 0 (fun _ => true) true m 3 (([c0, c1, c2, c3].drop 3).take (Try.prog.cellsOf 3)) = some y3 := hg 3 _ rfl
    rw [cells_int] at g0 g1 g2 g3
    exact ⟨c0, c1, c2, c3, y0, y1, y2, y3, m, rfl, rfl, by simpa using g0, by simpa using g1, by simpa using g2, by simpa using g3⟩
def evWi (s : EvM) : Prop := -9223372036854775808 ≤ s.b ∧ s.b ≤ 9223372036854775807
theorem open_evs {H : Type} {enc : TypeId × Value → H} {W : World} {n : Nat} {v : Value} {x : DataW H × List MemPlace} (h : DataW.trod enc Try.prog W 0 (fun _ => true) true n 31 [v] = some x) : ∃ L, Evs W v L ∧ ∀ s ∈ L, evWi s := by
  rcases open_slice Try.underlying31 h with ⟨hcs, hx⟩ | ⟨a, len, cap, m, n1, D, Pl, hcs, _, hl, hm, hmm, hx, hf⟩
  · simp at hcs
    subst hcs
    exact ⟨[], Evs.nil _, by simp⟩
  · simp at hcs
    subst hcs
    simp at hmm
    subst hmm
    have each : ∀ i, i < m → ∃ s : EvM, (W.cell? (a.add (i * 4)) = some (.int .i64 s.what) ∧ W.cell? (a.add (i * 4 + 1)) = some (.int .i64 s.a) ∧ W.cell? (a.add (i * 4 + 2)) = some (.int .i64 s.b) ∧ W.cell? (a.add (i * 4 + 3)) = some (.int .i64 s.c)) ∧ evWi s := by
      intro i hi
      obtain ⟨cs', hc, ht⟩ := hf i hi
      obtain ⟨c0, c1, c2, c3, y0, y1, y2, y3, m1, rfl, hD, t0, t1, t2, t3⟩ := open_ev ht
      obtain ⟨_, _, hat⟩ := World.cells?_some hc
      rw [cells_ev] at hat
      have a0 := hat 0 (by omega)
      have a1 := hat 1 (by omega)
      have a2 := hat 2 (by omega)
      have a3 := hat 3 (by omega)
      rw [Go.Deep.add_add] at a0 a1 a2 a3
      obtain ⟨n0, e0, rfl, w0⟩ := DataW.trod_int Try.underlying3 t0
      obtain ⟨n1, e1, rfl, w1⟩ := DataW.trod_int Try.underlying3 t1
      obtain ⟨n2, e2, rfl, w2⟩ := DataW.trod_int Try.underlying3 t2
      obtain ⟨n3, e3, rfl, w3⟩ := DataW.trod_int Try.underlying3 t3
      simp at e0 e1 e2 e3
      subst e0 e1 e2 e3
      exact ⟨⟨n0, n1, n2, n3⟩, ⟨by simpa using a0, by simpa using a1, by simpa using a2, by simpa using a3⟩, by have := bounds_i64 w2; unfold evWi; omega⟩
    by_cases hlen0 : len = 0
    · subst hlen0
      exact ⟨[], ⟨_, _, rfl, by simp, hm, .inl rfl⟩, by simp⟩
    · have hspot : a.spot = none := by
        obtain ⟨s, ⟨hc, _⟩, _⟩ := each 0 (by omega)
        have := World.cell?_spot hc
        simpa [Addr.add] using this
      obtain ⟨g, off, spot⟩ := a
      simp at hspot
      subst hspot
      let f : Nat → EvM := fun i => if hi : i < m then Classical.choose (each i hi) else default
      have hf2 : ∀ i (hi : i < m), f i = Classical.choose (each i hi) := fun i hi => by simp only [f, dif_pos hi]
      have hget : ∀ i, i < len → ((List.range len).map f).getD i default = f i := fun i hi => by simp [List.getD, hi]
      refine ⟨(List.range len).map f, ⟨_, m, by simp, by simp; omega, hm, .inr ⟨g, off, rfl, fun i hi => ?_⟩⟩, fun s hs => ?_⟩
      · simp only [List.length_map, List.length_range] at hi
        have hc := Classical.choose_spec (each i (by omega))
        rw [← hf2 i (by omega)] at hc
        rw [hget i hi]
        obtain ⟨⟨h0, h1, h2, h3⟩, -⟩ := hc
        rw [addr_add] at h0 h1 h2 h3
        rw [← Nat.add_assoc] at h1 h2 h3
        exact ⟨h0, h1, h2, h3⟩
      · obtain ⟨i, hi, rfl⟩ := List.mem_map.1 hs
        rw [List.mem_range] at hi
        have hc := Classical.choose_spec (each i (by omega))
        rw [← hf2 i (by omega)] at hc
        exact hc.2
/-- an event whose b is turned by so much -/
def bump (s : EvM) (by' : Int) : EvM := ⟨s.what, s.a, IntKind.i64.wrap (s.b + by'), s.c⟩
def evOne (t by' : Int) (i : Nat) (s : EvM) : EvM := match (i : Int) == t with
  | true => bump s by'
  | false => s
def turnL (L : List EvM) (t by' : Int) : List EvM := L.mapIdx (evOne t by')
theorem turnL_len (L : List EvM) (t by' : Int) : (turnL L t by').length = L.length := by simp [turnL]
theorem turnL_get (L : List EvM) (t by' : Int) (k : Nat) (hk : k < L.length) : (turnL L t by')[k]? = some (evOne t by' k (L.getD k default)) := by
  simp [turnL, List.getElem?_mapIdx, hk, List.getD]
theorem turnL_take (L : List EvM) (t by' : Int) (k : Nat) (hk : k < L.length) : (turnL L t by').take (k + 1) = (turnL L t by').take k ++ [evOne t by' k (L.getD k default)] := by
  rw [List.take_add_one, turnL_get L t by' k hk]
  rfl
theorem turnL_no (L : List EvM) (t by' : Int) (h : t < 0 ∨ (L.length : Int) ≤ t) : turnL L t by' = L := by
  refine List.ext_getElem? fun k => ?_
  by_cases hk : k < L.length
  · rw [turnL_get L t by' k hk]
    have : ((k : Int) == t) = false := by simp; omega
    simp only [evOne, this]
    simp [List.getD, hk]
  · rw [List.getElem?_eq_none (by rw [turnL_len]; omega), List.getElem?_eq_none (by omega)]
theorem turnL_zero (L : List EvM) (t : Int) (h : ∀ s ∈ L, evWi s) : turnL L t 0 = L := by
  refine List.ext_getElem? fun k => ?_
  by_cases hk : k < L.length
  · rw [turnL_get L t 0 k hk]
    have e : L.getD k default = L[k] := by simp [List.getD, hk]
    have hw := h L[k] (List.getElem_mem hk)
    rw [e, List.getElem?_eq_getElem hk]
    unfold evOne bump
    split
    · rw [Int.add_zero, IntWalk.i64_in _ ⟨hw.1, hw.2⟩]
    · rfl
  · rw [List.getElem?_eq_none (by rw [turnL_len]; omega), List.getElem?_eq_none (by omega)]
theorem turnL_parts (L : List EvM) (t by' : Int) (h : ∀ s ∈ L, evWi s) (h0 : 0 ≤ t) (h1 : t < L.length) (hb : by' ≠ 0) (hb1 : -9223372036854775808 ≤ by' ∧ by' ≤ 9223372036854775807) : Parts L (turnL L t by') t := by
  obtain ⟨k, rfl⟩ := Int.eq_ofNat_of_zero_le h0
  have hk : k < L.length := by omega
  refine .inr ⟨k, rfl, ?_, ?_⟩
  · refine List.ext_getElem? fun j => ?_
    rw [List.getElem?_take, List.getElem?_take]
    split
    · rename_i hj
      rw [turnL_get L _ by' j (by omega)]
      have : ((j : Int) == (k : Int)) = false := by simp; omega
      simp only [evOne, this]
      simp [List.getD, (by omega : j < L.length)]
    · rfl
  · rw [turnL_get L _ by' k hk, List.getElem?_eq_getElem hk]
    have e : L.getD k default = L[k] := by simp [List.getD, hk]
    have hw := h L[k] (List.getElem_mem hk)
    rw [e]
    have : ((k : Int) == (k : Int)) = true := by simp
    simp only [evOne, this]
    intro he
    have he := congrArg (fun s => s.map EvM.b) he
    simp [bump] at he
    have h2 : IntKind.i64.wrap (L[k].b + by') = (L[k].b + by' + 9223372036854775808) % 18446744073709551616 - 9223372036854775808 := IntKind.wrap_i64 _
    rw [h2] at he
    obtain ⟨w1, w2⟩ := hw
    omega
section
variable {F G : Nat → Prop} {w w' : World} {b : Nat} {ev : Value} {L M : List EvM}
theorem emore_step (hu0 : Upd F w w') {w2 : World} (h : Trc (EMore (EMore F w w') w' w2) w2 b L) (hu : Upd (EMore F w w') w' w2) : Trc (EMore F w w2) w2 b L ∧ Upd F w w2 := by
  refine ⟨h.wide (fun k hk => ?_) (fun k hk => ?_), hu0.trans hu (fun i hi hl => ?_)⟩
  · have h1 := hu0.size
    have h2 := hu.size
    rcases hk with (hk | hk) | hk
    · exact .inl hk
    · exact .inr ⟨hk.1, by omega⟩
    · exact .inr ⟨by omega, hk.2⟩
  · rcases hk with hk | hk
    · exact h.lt k (.inl (.inl hk))
    · exact hk.2
  · rcases hi with hi | hi
    · exact hi
    · omega
set_option maxHeartbeats 2000000 in
theorem fillC (v : Value) (t by' : Int) (h : Trc F w b M) (hv : ∀ w', Upd F w w' → Evs w' v L) (hl : M.length + L.length ≤ 1000) :
    Calls Try.prog 15 #[.pointer (some ⟨b, 0, none⟩), v, .int .i64 t, .int .i64 by'] w fun e w' => e = .returned (.bool true) ∧ Trc (EMore F w w') w' b (M ++ turnL L t by') ∧ Upd F w w' := by
  have HV := Lib.hid hv
  obtain ⟨va, vc, rfl, -, -⟩ := (hv w (Upd.refl _ _)).slice
  have HT0 : Hid (Trc (EMore F w w) w b (M ++ (turnL L t by').take 0)) := Lib.hid (by
    simp only [List.take_zero, List.append_nil]
    exact h.wide (fun k hk => .inl hk) (fun k hk => by
      rcases hk with hk | hk
      · exact h.lt k hk
      · omega))
  have HU0 := Lib.hid (Upd.refl F w)
  have HLL := Lib.hid hl
  have hln : (L.length : Int) ≤ 1000 := by omega
  clear hv h hl
  go_enter Try.func15, Try.ntmps15
  go_wp2_with fail
  go_loopw [9, 10] (fun i _ wr => ∃ k : Nat, k ≤ L.length ∧ i = .int .i64 k ∧ Hid (Trc (EMore F w wr) wr b (M ++ (turnL L t by').take k)) ∧ Hid (Upd F w wr)) (fun i _ _ => L.length - (intOf i).toNat)
  case atStart => exact ⟨0, Nat.zero_le _, rfl, HT0, HU0⟩
  case round =>
    obtain ⟨k, hk, rfl, HT, HU⟩ := hrel
    have hki : (0 : Int) ≤ (k : Int) := Int.natCast_nonneg _
    by_cases hlt : k < L.length
    · obtain ⟨g, off, rfl, hg, c0, c1, c2, c3⟩ := (HV.out wr HU.out).at hlt
      have HS := Lib.hid (turnL_take L t by' k hlt)
      have HLN : Hid ((M ++ (turnL L t by').take k).length < 200000) := Lib.hid (by have := HLL.out; have := turnL_len L t by'; simp; omega)
      generalize L.getD k default = s at *
      obtain ⟨w4, hw4⟩ : ∃ w4, w4 = wr.alloc (.cells #[.int .i64 s.what, .int .i64 s.a, .int .i64 s.b, .int .i64 s.c] 26) := ⟨_, rfl⟩
      have hu4 : Upd (fun _ => False) wr w4 := by rw [hw4]; exact Upd.alloc _ _ _
      have hx4 : w4.heap[wr.heap.size]? = some (.cells #[.int .i64 s.what, .int .i64 s.a, .int .i64 s.b, .int .i64 s.c] 26 (0, 0)) := by rw [hw4]; exact eTop _ _ _ rfl
      have HW4 := Lib.hid hw4
      have hsz4 : wr.heap.size < w4.heap.size := by rw [hw4]; simp
      cases he : ((k : Int) == t) with
      | false =>
        have HS2 : Hid ((turnL L t by').take (k + 1) = (turnL L t by').take k ++ [s]) := Lib.hid (by rw [HS.out]; simp only [evOne, he])
        have HT4 : Hid (Trc (EMore F w w4) w4 b (M ++ (turnL L t by').take k)) := Lib.hid ((HT.out.upd hu4 (fun _ _ h => h)).wide (fun q hq => by
          rcases hq with hq | hq
          · exact .inl hq
          · exact .inr ⟨hq.1, by omega⟩) (fun q hq => by
          rcases hq with hq | hq
          · have := HT.out.lt q (.inl hq); omega
          · exact hq.2))
        have HU4 := Lib.hid (HU.out.trans (hu4.mono (T := F) (fun _ h _ => h.elim)) (fun _ h _ => h))
        obtain ⟨d0, d1, d2, d3, -⟩ := four hx4
        clear hw4 hu4 hx4 hsz4
        go_wp2_with fail
        rw [← HW4.out]
        clear c0 c1 c2 c3
        go_wp2_with fail
        refine (tAdd HT4.out HLN.out s.what s.a s.b s.c).mono ?_
        rintro e w5 ⟨rfl, ht, hu⟩
        have h2 := emore_step HU4.out ht hu
        rw [List.append_assoc, ← HS2.out] at h2
        have HT5 := Lib.hid h2.1
        have HU5 := Lib.hid h2.2
        clear h2 ht hu d0 d1 d2 d3
        go_wp2_with fail
        go_roundw
        case rel => exact ⟨k + 1, by omega, by go_num, HT5, HU5⟩
        case measure => simp [intOf]; omega
      | true =>
        clear hx4 hu4 hsz4 HW4 hw4
        clear w4
        have hwr : wrap64 (s.b + by') = IntKind.i64.wrap (s.b + by') := by rw [IntKind.wrap_i64]; unfold wrap64; first | rfl | omega
        obtain ⟨x, hxw⟩ : ∃ x, x = IntKind.i64.wrap (s.b + by') := ⟨_, rfl⟩
        rw [← hxw] at hwr
        have HXW := Lib.hid hxw
        obtain ⟨w4, hw4⟩ : ∃ w4, w4 = wr.alloc (.cells #[.int .i64 s.what, .int .i64 s.a, .int .i64 x, .int .i64 s.c] 26) := ⟨_, rfl⟩
        have hu4 : Upd (fun _ => False) wr w4 := by rw [hw4]; exact Upd.alloc _ _ _
        have HW4 := Lib.hid hw4
        have hsz4 : wr.heap.size < w4.heap.size := by rw [hw4]; simp
        have HS2 : Hid ((turnL L t by').take (k + 1) = (turnL L t by').take k ++ [⟨s.what, s.a, x, s.c⟩]) := Lib.hid (by rw [HS.out]; simp only [evOne, he, bump, hxw])
        have HT4 : Hid (Trc (EMore F w w4) w4 b (M ++ (turnL L t by').take k)) := Lib.hid ((HT.out.upd hu4 (fun _ _ h => h)).wide (fun q hq => by
          rcases hq with hq | hq
          · exact .inl hq
          · exact .inr ⟨hq.1, by omega⟩) (fun q hq => by
          rcases hq with hq | hq
          · have := HT.out.lt q (.inl hq); omega
          · exact hq.2))
        have HU4 := Lib.hid (HU.out.trans (hu4.mono (T := F) (fun _ h _ => h.elim)) (fun _ h _ => h))
        clear hw4 hu4 hsz4 hxw
        go_wp2_with fail
        rw [hwr, ← HW4.out]
        clear c0 c1 c2 c3 hwr
        refine (tAdd HT4.out HLN.out s.what s.a x s.c).mono ?_
        rintro e w5 ⟨rfl, ht, hu⟩
        have h2 := emore_step HU4.out ht hu
        rw [List.append_assoc, ← HS2.out] at h2
        have HT5 := Lib.hid h2.1
        have HU5 := Lib.hid h2.2
        clear h2 ht hu
        go_wp2_with fail
        go_roundw
        case rel => exact ⟨k + 1, by omega, by go_num, HT5, HU5⟩
        case measure => simp [intOf]; omega
    · have HT2 : Hid (Trc (EMore F w wr) wr b (M ++ turnL L t by')) := Lib.hid (by
        have := HT.out
        rwa [List.take_of_length_le (by rw [turnL_len]; omega)] at this)
      go_wp2_with fail
      go_ret
      exact ⟨rfl, HT2.out, HU.out⟩
end
/-- two traces made since W, side by side -/
structure Two10 (W w : World) (a b : Nat) (F G : Nat → Prop) (L M : List EvM) : Prop where
  ta : Trc F w a L
  tb : Trc G w b M
  dis : ∀ k, F k → ¬ G k
  nf : ∀ k, F k → W.heap.size ≤ k
  ng : ∀ k, G k → W.heap.size ≤ k
  up : Upd (fun _ => False) W w
section
variable {W w w' : World} {a b : Nat} {F G : Nat → Prop} {L M L' : List EvM}
theorem Two10.quiet (h : Two10 W w a b F G L M) (hu : Upd (fun _ => False) w w') : Two10 W w' a b F G L M :=
  ⟨h.ta.upd hu (fun _ _ h => h), h.tb.upd hu (fun _ _ h => h), h.dis, h.nf, h.ng, h.up.trans hu (fun _ h _ => h)⟩
theorem Two10.first (h : Two10 W w a b F G L M) (ht : Trc (EMore F w w') w' a L') (hu : Upd F w w') : Two10 W w' a b (EMore F w w') G L' M :=
  ⟨ht, h.tb.upd hu (fun k hk hk' => h.dis k hk' hk), fun k hk hk' => by
    rcases hk with hk | hk
    · exact h.dis k hk hk'
    · have := h.tb.lt k hk'; omega, fun k hk => by
    rcases hk with hk | hk
    · exact h.nf k hk
    · have := h.up.size; omega, h.ng, h.up.trans hu (fun i hi hl => by have := h.nf i hi; omega)⟩
theorem Two10.second (h : Two10 W w a b F G L M) (ht : Trc (EMore G w w') w' b L') (hu : Upd G w w') : Two10 W w' a b F (EMore G w w') L L' :=
  ⟨h.ta.upd hu (fun k hk hk' => h.dis k hk hk'), ht, fun k hk hk' => by
    rcases hk' with hk' | hk'
    · exact h.dis k hk hk'
    · have := h.ta.lt k hk; omega, h.nf, fun k hk => by
    rcases hk with hk | hk
    · exact h.ng k hk
    · have := h.up.size; omega, h.up.trans hu (fun i hi hl => by have := h.ng i hi; omega)⟩
/-- an argument is read on -/
theorem Two10.arg {S : Nat → Prop} (h : Upd (fun _ => False) W w) (hS : ∀ k, S k → W.heap.size ≤ k) {v : Value} {X : List EvM} (hv : Evs W v X) (hu : Upd S w w') : Evs w' v X :=
  hv.below ((h.trans hu (fun i hi hl => by have := hS i hi; omega) : Upd (fun _ => False) W w').below (Nat.le_refl _) (fun _ h => h.elim))
theorem Parts.snoc {r : Int} (h : Parts L M r) (x : EvM) (hr : 0 ≤ r → r < L.length) (q : Int) (hq : (r < 0 ∧ q = L.length) ∨ (0 ≤ r ∧ q = r)) : Parts (L ++ [x]) M q := by
  rcases h with ⟨rfl, rfl⟩ | ⟨k, rfl, h1, h2⟩
  · obtain rfl : q = (L.length : Int) := by omega
    refine .inr ⟨L.length, rfl, by simp, ?_⟩
    rw [List.getElem?_eq_none (Nat.le_refl _)]
    simp
  · obtain rfl : q = (k : Int) := by omega
    have hk : k < L.length := by omega
    refine .inr ⟨k, rfl, ?_, ?_⟩
    · rw [List.take_append_of_le_length (by omega)]; exact h1
    · rw [List.getElem?_append_left hk]; exact h2
end
end Go.Proofs.Ytklokkbgjpfogaa

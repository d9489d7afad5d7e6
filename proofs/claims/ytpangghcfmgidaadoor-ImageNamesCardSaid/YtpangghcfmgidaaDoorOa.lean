/- An argument of type api.Image: how it reads. -/
import Derived.Test.YtpangghcfmgidaaDoorRaws
import Derived.Test.YtpangghcfmgidaaDoorIa
import Derived.ProofKit
import Derived.OpenShut
import Derived.ChangeArms
import Derived.Deep.Slices
import Derived.Deep.Strs
import Derived.Deep.Fields
import Derived.Lib.SmallJoins
namespace Go.Proofs.YtpangghcfmgidaaDoor
open Go.RowKit Go.Lib Go.ChangeShapes Go.WideShapes Go.Deep Go.Joins
set_option linter.unusedVariables false
set_option linter.unusedSimpArgs false

section
variable {H : Type} {enc : TypeId × Value → H} {W : World}
/-- a slice of structs of sz cells each, element by element -/
theorem open_rows {α : Type} [Inhabited α] {t e : TypeId} {sz n : Nat} {v : Value} {x : DataW H × List MemPlace} (ht : Tryd.prog.underlying t = some (.slice e)) (hc : Tryd.prog.cellsOf e = sz) (h0 : 0 < sz) (Rel : α → (Nat → Value) → Prop)
    (each : ∀ (m : Nat) (cs : List Value) (y : DataW H × List MemPlace), cs.length = sz → DataW.trod enc Tryd.prog W 0 (fun _ => true) true m e cs = some y → ∃ a : α, Rel a (fun j => cs.getD j (.int .i64 0)))
    (h : DataW.trod enc Tryd.prog W 0 (fun _ => true) true n t [v] = some x) : ∃ (L : List α) (f : Nat → Nat → Value), Sl W v sz L.length f ∧ ∀ i, i < L.length → Rel (L.getD i default) (f i) := by
  rcases open_slice ht h with ⟨hcs, hx⟩ | ⟨a, len, cap, m, n1, D, Pl, hcs, _, hl, hm, hmm, hx, hf⟩
  · simp at hcs
    subst hcs
    exact ⟨[], fun _ _ => .int .i64 0, Sl.nil _ _ _, fun i hi => by simp at hi⟩
  · simp at hcs
    subst hcs
    simp at hmm
    subst hmm
    have all : ∀ i, i < m → ∃ (a' : α) (c : Nat → Value), (∀ j, j < sz → W.cell? (a.add (i * sz + j)) = some (c j)) ∧ Rel a' c := by
      intro i hi
      obtain ⟨cs', hcell, htr⟩ := hf i hi
      obtain ⟨_, hlen, hat⟩ := World.cells?_some hcell
      rw [hc] at hlen hat
      obtain ⟨a', hr⟩ := each _ cs' _ hlen htr
      refine ⟨a', _, fun j hj => ?_, hr⟩
      have := hat j hj
      rw [Go.Deep.add_add] at this
      rw [this]
      simp [List.getD, hlen, hj]
    by_cases hlen0 : len = 0
    · subst hlen0
      exact ⟨[], fun _ _ => .int .i64 0, ⟨some a, m, rfl, Nat.zero_le _, hm, .inl rfl⟩, fun i hi => by simp at hi⟩
    · have hspot : a.spot = none := by
        obtain ⟨a', c, h1, _⟩ := all 0 (by omega)
        have := World.cell?_spot (h1 0 h0)
        simpa [Addr.add] using this
      obtain ⟨g, off, spot⟩ := a
      simp at hspot
      subst hspot
      obtain ⟨F, hF⟩ : ∃ F : Nat → α × (Nat → Value), ∀ i, i < m → (∀ j, j < sz → W.cell? ((⟨g, off, none⟩ : Addr).add (i * sz + j)) = some ((F i).2 j)) ∧ Rel (F i).1 (F i).2 :=
        ⟨fun i => if hi : i < m then (Classical.choose (all i hi), Classical.choose (Classical.choose_spec (all i hi))) else (default, fun _ => .int .i64 0), fun i hi => by
          simp only [dif_pos hi]
          exact Classical.choose_spec (Classical.choose_spec (all i hi))⟩
      have hget : ∀ i, i < len → ((List.range len).map (fun i => (F i).1)).getD i default = (F i).1 := fun i hi => by simp [List.getD, hi]
      refine ⟨(List.range len).map (fun i => (F i).1), fun i => (F i).2, ⟨some ⟨g, off, none⟩, m, by simp, by simp; omega, hm, .inr ⟨g, off, rfl, fun i hi j hj => ?_⟩⟩, fun i hi => ?_⟩
      · simp at hi
        have := (hF i (by omega)).1 j hj
        rw [addr_add] at this
        rw [← this, Nat.add_assoc]
      · simp at hi
        rw [hget i hi]
        exact (hF i (by omega)).2

set_option maxRecDepth 100000 in
theorem cellsOf_ins : Tryd.prog.cellsOf 46 = 3 := by kernel_rfl
theorem cellsOf_imp : Tryd.prog.cellsOf 44 = 4 := by kernel_rfl
theorem cellsOf_met : Tryd.prog.cellsOf 49 = 4 := by kernel_rfl
theorem cellsOf_img : Tryd.prog.cellsOf 27 = 5 := by kernel_rfl
theorem cellsOf_str : Tryd.prog.cellsOf 9 = 1 := by kernel_rfl
theorem cellsOf_ints : Tryd.prog.cellsOf 23 = 1 := by kernel_rfl
theorem cellsOf_inss : Tryd.prog.cellsOf 47 = 1 := by kernel_rfl
theorem cellsOf_imps : Tryd.prog.cellsOf 24 = 1 := by kernel_rfl
theorem cellsOf_mets : Tryd.prog.cellsOf 25 = 1 := by kernel_rfl
theorem wiO_of {n : Int} (h : wf64 n) : wi64 n := bounds_i64 h

theorem open_numsI {H : Type} {enc : TypeId × Value → H} {W : World} {n : Nat} {v : Value} {x : DataW H × List MemPlace} (h : DataW.trod enc Tryd.prog W 0 (fun _ => true) true n 23 [v] = some x) :
    ∃ ys, Ints W v ys := by
  rcases open_ints Tryd.underlying23 Tryd.underlying3 (by kernel_rfl) h with ⟨hcs, hx⟩ | ⟨a, len, cap, zs, hcs, _, hl, hm, hz, hx, hcell, hwz⟩
  · simp at hcs
    subst hcs
    exact ⟨[], Sl.nil _ _ _, by simp⟩
  · simp at hcs
    subst hcs
    simp at hz
    have hlen : (zs.take len).length = len := by simp; omega
    refine ⟨zs.take len, ⟨a, cap, by rw [hlen], by omega, hm, ?_⟩, fun y hy => bounds_i64 (hwz y (List.mem_of_mem_take hy))⟩
    rw [hlen]
    obtain ⟨b, off, spot⟩ := a
    by_cases h0 : spot = none
    · subst h0
      refine .inr ⟨b, off, rfl, fun i hi j hj => ?_⟩
      have := hcell i (by omega)
      rw [addr_add] at this
      obtain rfl : j = 0 := by omega
      rw [Nat.mul_one, Nat.add_zero, this]
      simp [List.getD, hi]
    · refine .inl ?_
      rcases Nat.eq_zero_or_pos cap with h | h
      · omega
      · have := hcell 0 (by omega)
        have := World.cell?_spot this
        simp [Addr.add] at this
        exact absurd this h0

set_option maxRecDepth 100000 in
theorem open_inss {n : Nat} {v : Value} {x : DataW H × List MemPlace} (h : DataW.trod enc Tryd.prog W 0 (fun _ => true) true n 47 [v] = some x) : ∃ L, Inss W v L := by
  obtain ⟨L, f, hs, hr⟩ := open_rows (α := InsM) (sz := 3) Tryd.underlying47 cellsOf_ins (by omega) (fun y c => c 0 = .int .i64 y.op ∧ c 1 = .int .i64 y.a ∧ c 2 = .int .i64 y.b ∧ wi64 y.op ∧ wi64 y.a ∧ wi64 y.b) (fun m cs y hl ht => by
    obtain ⟨y0, y1, y2, m1, hD, hcl, t0, t1, t2⟩ := trod_struct3 Tryd.underlying46 ht
    match cs, hl with
    | [c0, c1, c2], _ =>
      have t0' : DataW.trod enc Tryd.prog W 0 (fun _ => true) true m1 3 (([c0, c1, c2].drop 0).take (Tryd.prog.cellsOf 3)) = some y0 := t0
      have t1' : DataW.trod enc Tryd.prog W 0 (fun _ => true) true m1 3 (([c0, c1, c2].drop 1).take (Tryd.prog.cellsOf 3)) = some y1 := t1
      have t2' : DataW.trod enc Tryd.prog W 0 (fun _ => true) true m1 3 (([c0, c1, c2].drop 2).take (Tryd.prog.cellsOf 3)) = some y2 := t2
      rw [one_raw] at t0' t1' t2'
      obtain ⟨o, rfl, _, wo⟩ := lit_of (v := c0) (by simpa using t0')
      obtain ⟨b, rfl, _, wb⟩ := lit_of (v := c1) (by simpa using t1')
      obtain ⟨c, rfl, _, wc⟩ := lit_of (v := c2) (by simpa using t2')
      exact ⟨⟨o, b, c⟩, rfl, rfl, rfl, wiO_of wo, wiO_of wb, wiO_of wc⟩) h
  refine ⟨L, hs.congr (fun i hi j hj => ?_), fun y hy => ?_⟩
  · obtain ⟨h0, h1, h2, -⟩ := hr i hi
    have : j = 0 ∨ j = 1 ∨ j = 2 := by omega
    rcases this with rfl | rfl | rfl
    · rw [h0]; rfl
    · rw [h1]; rfl
    · rw [h2]; rfl
  · obtain ⟨i, hi, rfl⟩ := List.mem_iff_getElem.1 hy
    have := hr i hi
    rw [show L.getD i default = L[i] by simp [List.getD, hi]] at this
    exact this.2.2.2

set_option maxRecDepth 100000 in
theorem open_imps {n : Nat} {v : Value} {x : DataW H × List MemPlace} (h : DataW.trod enc Tryd.prog W 0 (fun _ => true) true n 24 [v] = some x) : ∃ L, Imps W v L := by
  obtain ⟨L, f, hs, hr⟩ := open_rows (α := ImpM) (sz := 4) Tryd.underlying24 cellsOf_imp (by omega) (fun y c => c 0 = .string y.name ∧ c 1 = .int .i64 y.exp ∧ Ints W (c 2) y.params ∧ c 3 = .int .i64 y.res ∧ wi64 y.exp ∧ wi64 y.res ∧ y.name.size ≤ maxLen) (fun m cs y hl ht => by
    obtain ⟨y0, y1, y2, y3, m1, hD, hcl, t0, t1, t2, t3⟩ := trod_struct4 Tryd.underlying44 ht
    match cs, hl with
    | [c0, c1, c2, c3], _ =>
      have t0' : DataW.trod enc Tryd.prog W 0 (fun _ => true) true m1 9 (([c0, c1, c2, c3].drop 0).take (Tryd.prog.cellsOf 9)) = some y0 := t0
      have t1' : DataW.trod enc Tryd.prog W 0 (fun _ => true) true m1 3 (([c0, c1, c2, c3].drop 1).take (Tryd.prog.cellsOf 3)) = some y1 := t1
      have t2' : DataW.trod enc Tryd.prog W 0 (fun _ => true) true m1 23 (([c0, c1, c2, c3].drop 2).take (Tryd.prog.cellsOf 23)) = some y2 := t2
      have t3' : DataW.trod enc Tryd.prog W 0 (fun _ => true) true m1 3 (([c0, c1, c2, c3].drop 3).take (Tryd.prog.cellsOf 3)) = some y3 := t3
      rw [one_raw] at t1' t3'
      rw [cellsOf_str] at t0'
      rw [cellsOf_ints] at t2'
      obtain ⟨s, hs0, _, hss⟩ := DataW.trod_string Tryd.underlying9 t0'
      obtain ⟨b, rfl, _, wb⟩ := lit_of (v := c1) (by simpa using t1')
      obtain ⟨N, hN⟩ := open_numsI (v := c2) (by simpa using t2')
      obtain ⟨d, rfl, _, wd⟩ := lit_of (v := c3) (by simpa using t3')
      simp at hs0
      exact ⟨⟨s, b, N, d⟩, hs0, rfl, hN, rfl, wiO_of wb, wiO_of wd, hss⟩) h
  refine ⟨L, fun i => f i 2, hs.congr (fun i hi j hj => ?_), fun i hi => (hr i hi).2.2.1, fun y hy => ?_⟩
  · obtain ⟨h0, h1, -, h3, -⟩ := hr i hi
    have : j = 0 ∨ j = 1 ∨ j = 2 ∨ j = 3 := by omega
    rcases this with rfl | rfl | rfl | rfl
    · rw [h0]; rfl
    · rw [h1]; rfl
    · rfl
    · rw [h3]; rfl
  · obtain ⟨i, hi, rfl⟩ := List.mem_iff_getElem.1 hy
    have := hr i hi
    rw [show L.getD i default = L[i] by simp [List.getD, hi]] at this
    exact this.2.2.2.2

set_option maxRecDepth 100000 in
theorem open_mets {n : Nat} {v : Value} {x : DataW H × List MemPlace} (h : DataW.trod enc Tryd.prog W 0 (fun _ => true) true n 25 [v] = some x) : ∃ L, Mets W v L := by
  obtain ⟨L, f, hs, hr⟩ := open_rows (α := MetM) (sz := 4) Tryd.underlying25 cellsOf_met (by omega) (fun y c => Ints W (c 0) y.params ∧ c 1 = .int .i64 y.res ∧ Ints W (c 2) y.locals ∧ Inss W (c 3) y.code ∧ wi64 y.res) (fun m cs y hl ht => by
    obtain ⟨y0, y1, y2, y3, m1, hD, hcl, t0, t1, t2, t3⟩ := trod_struct4 Tryd.underlying49 ht
    match cs, hl with
    | [c0, c1, c2, c3], _ =>
      have t0' : DataW.trod enc Tryd.prog W 0 (fun _ => true) true m1 23 (([c0, c1, c2, c3].drop 0).take (Tryd.prog.cellsOf 23)) = some y0 := t0
      have t1' : DataW.trod enc Tryd.prog W 0 (fun _ => true) true m1 3 (([c0, c1, c2, c3].drop 1).take (Tryd.prog.cellsOf 3)) = some y1 := t1
      have t2' : DataW.trod enc Tryd.prog W 0 (fun _ => true) true m1 23 (([c0, c1, c2, c3].drop 2).take (Tryd.prog.cellsOf 23)) = some y2 := t2
      have t3' : DataW.trod enc Tryd.prog W 0 (fun _ => true) true m1 47 (([c0, c1, c2, c3].drop 3).take (Tryd.prog.cellsOf 47)) = some y3 := t3
      rw [one_raw] at t1'
      rw [cellsOf_ints] at t0' t2'
      rw [cellsOf_inss] at t3'
      obtain ⟨N, hN⟩ := open_numsI (v := c0) (by simpa using t0')
      obtain ⟨b, rfl, _, wb⟩ := lit_of (v := c1) (by simpa using t1')
      obtain ⟨M, hM⟩ := open_numsI (v := c2) (by simpa using t2')
      obtain ⟨C, hC⟩ := open_inss (v := c3) (by simpa using t3')
      exact ⟨⟨N, b, M, C⟩, hN, rfl, hM, hC, wiO_of wb⟩) h
  refine ⟨L, fun i => f i 0, fun i => f i 2, fun i => f i 3, hs.congr (fun i hi j hj => ?_), fun i hi => ⟨(hr i hi).1, (hr i hi).2.2.1, (hr i hi).2.2.2.1⟩, fun y hy => ?_⟩
  · obtain ⟨-, h1, -⟩ := hr i hi
    have : j = 0 ∨ j = 1 ∨ j = 2 ∨ j = 3 := by omega
    rcases this with rfl | rfl | rfl | rfl
    · rfl
    · rw [h1]; rfl
    · rfl
    · rfl
  · obtain ⟨i, hi, rfl⟩ := List.mem_iff_getElem.1 hy
    have := hr i hi
    rw [show L.getD i default = L[i] by simp [List.getD, hi]] at this
    exact this.2.2.2.2

set_option maxRecDepth 100000 in
theorem open_img {r : Reach} {b0 : Nat} {v : Value} {d : DataW H} {p : List MemPlace} (hv : Value.okWide Tryd.prog W r b0 27 v) (h : DataW.Trod enc Tryd.prog W 0 (fun _ => true) true 27 v d p) : ∃ I, Img W v I := by
  obtain ⟨cs, rfl, hsz⟩ := okWide_struct Tryd.underlying27 hv
  obtain ⟨l⟩ := cs
  match l, hsz.trans cellsOf_img with
  | [c0, c1, c2, c3, c4], _ =>
    obtain ⟨fuel, hf⟩ := h
    obtain ⟨xs, n, _, hx, _, hlen, hg⟩ := DataW.trod_struct Tryd.underlying27 hf
    have e : (Value.agg #[c0, c1, c2, c3, c4]).cells.toList = [c0, c1, c2, c3, c4] := rfl
    match xs, hlen with
    | [y0, y1, y2, y3, y4], _ =>
      have t0 : DataW.trod enc Tryd.prog W 0 (fun _ => true) true n 9 (([c0, c1, c2, c3, c4].drop 0).take (Tryd.prog.cellsOf 9)) = some y0 := hg 0 _ rfl
      have t1 : DataW.trod enc Tryd.prog W 0 (fun _ => true) true n 23 (([c0, c1, c2, c3, c4].drop 1).take (Tryd.prog.cellsOf 23)) = some y1 := hg 1 _ rfl
      have t2 : DataW.trod enc Tryd.prog W 0 (fun _ => true) true n 24 (([c0, c1, c2, c3, c4].drop 2).take (Tryd.prog.cellsOf 24)) = some y2 := hg 2 _ rfl
      have t3 : DataW.trod enc Tryd.prog W 0 (fun _ => true) true n 25 (([c0, c1, c2, c3, c4].drop 3).take (Tryd.prog.cellsOf 25)) = some y3 := hg 3 _ rfl
      have t4 : DataW.trod enc Tryd.prog W 0 (fun _ => true) true n 23 (([c0, c1, c2, c3, c4].drop 4).take (Tryd.prog.cellsOf 23)) = some y4 := hg 4 _ rfl
      rw [cellsOf_str] at t0
      rw [cellsOf_ints] at t1 t4
      rw [cellsOf_imps] at t2
      rw [cellsOf_mets] at t3
      obtain ⟨s, hs0, _, hss⟩ := DataW.trod_string Tryd.underlying9 t0
      obtain ⟨F, hF⟩ := open_numsI (v := c1) (by simpa using t1)
      obtain ⟨P, hP⟩ := open_imps (v := c2) (by simpa using t2)
      obtain ⟨M, hM⟩ := open_mets (v := c3) (by simpa using t3)
      obtain ⟨X, hX⟩ := open_numsI (v := c4) (by simpa using t4)
      simp at hs0
      subst hs0
      exact ⟨⟨s, F, P, M, X⟩, c1, c2, c3, c4, rfl, hF, hP, hM, hX, hss⟩
end
end Go.Proofs.YtpangghcfmgidaaDoor

/- Package text: a draft's last method. -/
import Derived.Test.YtiadkidhfhkokaaDoorTk
namespace Go.Proofs.YtiadkidhfhkokaaDoor
open Go.RowKit Go.Lib
set_option linter.unusedVariables false
set_option linter.unusedSimpArgs false

section
variable {B b : Nat} {w w' : World} {D : DrM} {V : DrV} {S : Nat → Prop}
theorem Row.cellSet {w : World} {g c q : Nat} {M M' : List PM} {u : Value} (h : Row w MET 4 metC (.slice (some ⟨g, 0, none⟩) M.length c) M) (hM : M'.flatMap metC = (M.flatMap metC).set q u) (hl : M'.length = M.length) :
    Row (w.setCell ⟨g, q, none⟩ u) MET 4 metC (.slice (some ⟨g, 0, none⟩) M.length c) M' := by
  have := hpSet h q u
  unfold Row
  rw [hM, hl]
  exact this
theorem memSet {α : Type} {L : List α} {i : Nat} {x y : α} (h : y ∈ L.set i x) : y ∈ L ∨ y = x := List.mem_or_eq_of_mem_set h
/-- method i is another one: its cells are so already; its rows are as they should be -/
theorem DrAt.turnM (h : DrAt B w b D V) {i : Nat} (hi : i < V.M.length) (m : PM) {g c q : Nat} {u : Value} (hmv : V.mv = .slice (some ⟨g, 0, none⟩) V.M.length c) (hset : (V.M.set i m).flatMap metC = (V.M.flatMap metC).set q u)
    (hp : Row w INT 1 intC m.2.1 m.1.params) (hq : Row w INT 1 intC m.2.2.1 m.1.locals) (hc : Row w INS 3 insC m.2.2.2 m.1.code)
    (h1 : Ap m.2.1 V.fv ∧ Ap m.2.1 V.xv ∧ ∀ k, m.2.1.ownBlock = some k → B ≤ k) (h2 : Ap m.2.2.1 V.fv ∧ Ap m.2.2.1 V.xv ∧ ∀ k, m.2.2.1.ownBlock = some k → B ≤ k)
    (h3 : (∀ k, m.2.2.2.ownBlock = some k → B ≤ k) ∧ m.1.code.length ≤ 121) (h4 : (V.M.set i m).Pairwise (fun m n => Ap m.2.2.2 n.2.2.2)) :
    DrAt B (w.setCell ⟨g, q, none⟩ u) b (D.setM ((V.M.set i m).map Prod.fst)) ⟨V.fv, V.iv, V.mv, V.xv, V.P, V.M.set i m⟩ := by
  have hown : V.mv.ownBlock = some g := by rw [hmv]; rfl
  obtain ⟨C0, fr0, hg0⟩ := h.mrow.type hown
  have hu := updBox w g q u
  have hbg : b ≠ g := fun e => by have := h.nm g hown; have := h.bB; omega
  have hr : ∀ {α : Type} {e : TypeId} {sz : Nat} {cl : α → List Value} {z : Value} {L : List α}, Row w e sz cl z L → e ≠ MET → Row (w.setCell ⟨g, q, none⟩ u) e sz cl z L := fun hz he => hz.upd hu (fun k hk hkg => by
    obtain ⟨C2, fr, hc2⟩ := hz.type hk
    rw [hkg, hg0] at hc2
    simp at hc2
    exact he hc2.2.1.symm)
  have hro : ∀ z, (⟨V.fv, V.iv, V.mv, V.xv, V.P, V.M.set i m⟩ : DrV).ro z → V.ro z ∨ (Ap z V.fv ∧ Ap z V.xv ∧ ∀ k, z.ownBlock = some k → B ≤ k) := fun z hz => by
    rcases hz with hz | ⟨n, hn, hz⟩
    · exact .inl (.inl hz)
    · rcases memSet hn with hn | rfl
      · exact .inl (.inr ⟨n, hn, hz⟩)
      · rcases hz with rfl | rfl
        · exact .inr h1
        · exact .inr h2
  have hrow := h.mrow
  rw [hmv] at hrow
  exact ⟨tBlk hu h.box hbg, hr h.frow (by decide), hr h.xrow (by decide), hr h.irow (by decide), by rw [hmv]; exact hrow.cellSet hset (by simp), h.pI, rfl,
    fun p hp => hr (h.prow p hp) (by decide),
    fun n hn => by
      rcases memSet hn with hn | rfl
      · exact ⟨hr (h.qrow n hn).1 (by decide), hr (h.qrow n hn).2.1 (by decide), hr (h.qrow n hn).2.2 (by decide)⟩
      · exact ⟨hr hp (by decide), hr hq (by decide), hr hc (by decide)⟩,
    fun z hz => by
      rcases hro z hz with h1 | h1
      · exact h.apf z h1
      · exact h1.1,
    fun z hz => by
      rcases hro z hz with h1 | h1
      · exact h.apx z h1
      · exact h1.2.1,
    h.afx, h4, h.nf, h.nx, h.ni, h.nm, fun z hz => by
      rcases hro z hz with h1 | h1
      · exact h.nr z h1
      · exact h1.2.2,
    fun n hn => by
      rcases memSet hn with hn | rfl
      · exact h.nc n hn
      · exact h3.1,
    h.bB, by have := hu.size; have := h.sB; omega, h.lf, h.lx, h.li, by rw [List.length_set]; exact h.lm, fun n hn => by
      rcases memSet hn with hn | rfl
      · exact h.lc n hn
      · exact h3.2⟩
theorem DrAt.locals (h : DrAt B w b D V) {i : Nat} (hi : i < V.M.length) {g c : Nat} (hmv : V.mv = .slice (some ⟨g, 0, none⟩) V.M.length c) {L : List Int} {v : Value} (hr : Row w INT 1 intC v L) (ha : Ap v V.fv ∧ Ap v V.xv ∧ ∀ k, v.ownBlock = some k → B ≤ k) :
    ∃ V', DrAt B (w.setCell ⟨g, i * 4 + 2, none⟩ v) b (D.setM ((V.M.set i (⟨V.M[i].1.params, V.M[i].1.res, L, V.M[i].1.code⟩, V.M[i].2.1, v, V.M[i].2.2.2)).map Prod.fst)) V' := by
  have hm := List.getElem_mem hi
  have hq := h.qrow _ hm
  refine ⟨_, h.turnM hi _ hmv (metC_set V.M i 2 hi _ v (by omega) rfl) hq.1 hr hq.2.2 ⟨h.apf _ (.inr ⟨_, hm, .inl rfl⟩), h.apx _ (.inr ⟨_, hm, .inl rfl⟩), h.nr _ (.inr ⟨_, hm, .inl rfl⟩)⟩ ha ⟨h.nc V.M[i] hm, h.lc V.M[i] hm⟩ ?_⟩
  rw [List.pairwise_iff_getElem]
  intro x y hx hy hxy
  rw [List.length_set] at hx hy
  have hp := List.pairwise_iff_getElem.1 h.apc x y hx hy hxy
  rw [List.getElem_set, List.getElem_set]
  split <;> split <;> simp_all
theorem DrAt.code (h : DrAt B w b D V) {i : Nat} (hi : i < V.M.length) {g c : Nat} (hmv : V.mv = .slice (some ⟨g, 0, none⟩) V.M.length c) {C : List InsM} {v : Value} (hr : Row w' INS 3 insC v C) (hu : Upd (fun k => V.M[i].2.2.2.ownBlock = some k) w w') (hf : Fresh w V.M[i].2.2.2 v) (hl : C.length ≤ 121) :
    ∃ V', DrAt B (w'.setCell ⟨g, i * 4 + 3, none⟩ v) b (D.setM ((V.M.set i (⟨V.M[i].1.params, V.M[i].1.res, V.M[i].1.locals, C⟩, V.M[i].2.1, V.M[i].2.2.1, v)).map Prod.fst)) V' := by
  have hm := List.getElem_mem hi
  have hq := h.qrow _ hm
  have hnb := h.nc _ hm
  have hr2 : ∀ {α : Type} {e : TypeId} {sz : Nat} {cl : α → List Value} {z : Value} {L : List α}, Row w e sz cl z L → e ≠ INS → Row w' e sz cl z L := fun hz he => hz.upd hu (hz.ne hq.2.2 he)
  have hbnd : ∀ n ∈ V.M, ∀ k, n.2.2.2.ownBlock = some k → k < w.heap.size := fun n hn => (h.qrow n hn).2.2.lt
  have hpw := List.pairwise_iff_getElem.1 h.apc
  have hother : ∀ j (hj : j < V.M.length), j ≠ i → Ap V.M[j].2.2.2 V.M[i].2.2.2 := fun j hj hji => by
    rcases Nat.lt_or_ge j i with h1 | h1
    · exact hpw j i hj hi h1
    · exact (hpw i j hi hj (by omega)).symm
  -- the draft in w', but for method i, whose code is told of by v
  have hset := metC_set V.M i 3 hi (⟨V.M[i].1.params, V.M[i].1.res, V.M[i].1.locals, C⟩, V.M[i].2.1, V.M[i].2.2.1, v) v (by omega) rfl
  have hown : V.mv.ownBlock = some g := by rw [hmv]; rfl
  have hmr := hr2 h.mrow (by decide)
  obtain ⟨C0, fr0, hg0⟩ := hmr.type hown
  have hus := updBox w' g (i * 4 + 3) v
  have hbg : b ≠ g := fun e => by have := h.nm g hown; have := h.bB; omega
  have hbox : w'.heap[b]? = _ := tBlk hu h.box (fun hk => by have := hnb b hk; have := h.bB; omega)
  have hrs : ∀ {α : Type} {e : TypeId} {sz : Nat} {cl : α → List Value} {z : Value} {L : List α}, Row w' e sz cl z L → e ≠ MET → Row (w'.setCell ⟨g, i * 4 + 3, none⟩ v) e sz cl z L := fun hz he => hz.upd hus (fun k hk hkg => by
    obtain ⟨C2, fr, hc2⟩ := hz.type hk
    rw [hkg, hg0] at hc2
    simp at hc2
    exact he hc2.2.1.symm)
  obtain ⟨m, hmdef⟩ : ∃ m : PM, m = (⟨V.M[i].1.params, V.M[i].1.res, V.M[i].1.locals, C⟩, V.M[i].2.1, V.M[i].2.2.1, v) := ⟨_, rfl⟩
  rw [← hmdef] at hset ⊢
  have e1 : m.2.1 = V.M[i].2.1 := by rw [hmdef]
  have e2 : m.2.2.1 = V.M[i].2.2.1 := by rw [hmdef]
  have e3 : m.2.2.2 = v := by rw [hmdef]
  have e4 : m.1 = ⟨V.M[i].1.params, V.M[i].1.res, V.M[i].1.locals, C⟩ := by rw [hmdef]
  have hro : ∀ z, (⟨V.fv, V.iv, V.mv, V.xv, V.P, V.M.set i m⟩ : DrV).ro z → V.ro z := fun z hz => by
    rcases hz with hz | ⟨n, hn, hz⟩
    · exact .inl hz
    · rcases memSet hn with hn | rfl
      · exact .inr ⟨n, hn, hz⟩
      · rw [e1, e2] at hz
        exact .inr ⟨_, hm, hz⟩
  have hcode : ∀ j (hj : j < V.M.length), j ≠ i → Ap V.M[j].2.2.2 v := fun j hj hji => (hother j hj hji).fresh (hbnd _ (List.getElem_mem hj)) hf
  have hin : ∀ j (hj : j < V.M.length), j ≠ i → Row w' INS 3 insC V.M[j].2.2.2 V.M[j].1.code := fun j hj hji => (h.qrow _ (List.getElem_mem hj)).2.2.upd hu (hother j hj hji)
  have hmem : ∀ n ∈ V.M.set i m, n = m ∨ ∃ j, ∃ hj : j < V.M.length, j ≠ i ∧ n = V.M[j] := fun n hn => by
    obtain ⟨j, hj, rfl⟩ := List.mem_iff_getElem.1 hn
    rw [List.length_set] at hj
    rw [List.getElem_set]
    by_cases hji : i = j
    · left; rw [if_pos hji]
    · right; rw [if_neg hji]; exact ⟨j, hj, fun e => hji e.symm, rfl⟩
  have hrow := hmr
  rw [hmv] at hrow
  refine ⟨⟨V.fv, V.iv, V.mv, V.xv, V.P, V.M.set i m⟩, tBlk hus hbox hbg, hrs (hr2 h.frow (by decide)) (by decide), hrs (hr2 h.xrow (by decide)) (by decide), hrs (hr2 h.irow (by decide)) (by decide), by rw [hmv]; exact hrow.cellSet hset (by simp), h.pI, rfl,
    fun p hp => hrs (hr2 (h.prow p hp) (by decide)) (by decide), fun n hn => ?_, fun z hz => h.apf z (hro z hz), fun z hz => h.apx z (hro z hz), h.afx, ?_, h.nf, h.nx, h.ni, h.nm, fun z hz => h.nr z (hro z hz), fun n hn => ?_, h.bB,
    by have := hus.size; have := hu.size; have := h.sB; omega, h.lf, h.lx, h.li, by rw [List.length_set]; exact h.lm, fun n hn => ?_⟩
  · rcases hmem n hn with rfl | ⟨j, hj, hji, rfl⟩
    · rw [e1, e2, e3, e4]
      exact ⟨hrs (hr2 hq.1 (by decide)) (by decide), hrs (hr2 hq.2.1 (by decide)) (by decide), hrs hr (by decide)⟩
    · have := h.qrow _ (List.getElem_mem hj)
      exact ⟨hrs (hr2 this.1 (by decide)) (by decide), hrs (hr2 this.2.1 (by decide)) (by decide), hrs (hin j hj hji) (by decide)⟩
  · rw [List.pairwise_iff_getElem]
    intro x y hx hy hxy
    rw [List.length_set] at hx hy
    rw [List.getElem_set, List.getElem_set]
    by_cases h1 : i = x
    · rw [if_pos h1, if_neg (by omega), e3]
      exact (hcode y hy (by omega)).symm
    · rw [if_neg h1]
      by_cases h2 : i = y
      · rw [if_pos h2, e3]
        exact hcode x hx (by omega)
      · rw [if_neg h2]
        exact hpw x y hx hy hxy
  · rcases hmem n hn with rfl | ⟨j, hj, hji, rfl⟩
    · rw [e3]; exact freshB hnb h.sB hf
    · exact h.nc _ (List.getElem_mem hj)
  · rcases hmem n hn with rfl | ⟨j, hj, hji, rfl⟩
    · rw [e4]; exact hl
    · exact h.lc _ (List.getElem_mem hj)
end
end Go.Proofs.YtiadkidhfhkokaaDoor

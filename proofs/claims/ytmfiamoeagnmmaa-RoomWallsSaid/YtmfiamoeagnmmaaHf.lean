/- Package heap: SetBuffer, Clear. -/
import Derived.Test.YtmfiamoeagnmmaaHe
import Derived.Lib.SliceRun
namespace Go.Proofs.Ytmfiamoeagnmmaa
open Go.RowKit Go.ChangeShapes Go.WideShapes Go.Deep
set_option linter.unusedVariables false
set_option linter.unusedSimpArgs false

def setFrom {α : Type} (xs : List α) : Nat → List α → List α
  | _, [] => xs
  | o, v :: r => setFrom (xs.set o v) (o + 1) r
theorem setFrom_len {α : Type} : ∀ (vs xs : List α) (o : Nat), (setFrom xs o vs).length = xs.length
  | [], xs, o => rfl
  | v :: r, xs, o => by simp [setFrom, setFrom_len r]
theorem setFrom_at {α : Type} : ∀ (vs xs : List α) (o j : Nat), j < xs.length → (setFrom xs o vs)[j]? = if o ≤ j ∧ j < o + vs.length then vs[j - o]? else xs[j]?
  | [], xs, o, j, hj => by
    rw [if_neg (by simp; try omega)]; rfl
  | v :: r, xs, o, j, hj => by
    simp only [setFrom]
    rw [setFrom_at r (xs.set o v) (o + 1) j (by simpa using hj), List.getElem?_set, List.length_cons]
    by_cases h1 : o = j
    · subst h1
      rw [if_neg (by omega), if_pos rfl, if_pos hj, if_pos (by omega)]
      simp
    · by_cases h2 : o + 1 ≤ j ∧ j < o + 1 + r.length
      · rw [if_pos h2, if_pos (by omega)]
        rw [show j - o = (j - (o + 1)) + 1 by omega, List.getElem?_cons_succ]
      · rw [if_neg h2, if_neg h1, if_neg (by omega)]
theorem setFrom_all {α : Type} (xs vs : List α) (h : xs.length = vs.length) : setFrom xs 0 vs = vs := by
  apply List.ext_getElem?
  intro j
  by_cases hj : j < xs.length
  · rw [setFrom_at vs xs 0 j hj, if_pos (by omega)]; simp
  · rw [List.getElem?_eq_none (by rw [setFrom_len]; omega), List.getElem?_eq_none (by omega)]
theorem row_setCells {e : TypeId} {g n c : Nat} : ∀ (vs xs : List Value) (o : Nat) (w : World), w.ownsRow 0 e 1 (.slice (some ⟨g, 0, none⟩) n c) n xs → (w.setCells g o vs).ownsRow 0 e 1 (.slice (some ⟨g, 0, none⟩) n c) n (setFrom xs o vs)
  | [], xs, o, w, h => h
  | v :: r, xs, o, w, h => row_setCells r _ _ _ (hpSet h o v)
theorem upd_setCells {S : Nat → Prop} {g : Nat} (hg : S g) {w0 : World} : ∀ (vs : List Value) (o : Nat) (w : World), Upd S w0 w → Upd S w0 (w.setCells g o vs)
  | [], o, w, h => h
  | v :: r, o, w, h => upd_setCells hg r _ _ (hpS h hg)
theorem zero8 (w : World) : (zeroValue 5).run Try.prog w = .ok (.int .u8 0) w := by
  obtain ⟨i0, hi, hz0, hz1, hz2⟩ := info_parts b8Info
  simp [zeroValue, typeInfo, hi, hz0]
/-- a row of bytes is cleared -/
theorem clear_row (w : World) (v : Value) (ys : List Int) (h : w.ownsRow 0 5 1 v ys.length (bv ys)) :
    ∃ w', (∀ ty, (Builtin.clear_ #[31] ty #[v]).run Try.prog w = .ok (.tuple #[]) w') ∧ w'.ownsRow 0 5 1 v ys.length (bv (zeros ys.length)) ∧ Upd (fun k => v.ownBlock = some k) w w' := by
  have hz : ys = [] → bv (zeros ys.length) = bv ys := by rintro rfl; rfl
  have ht := Try.underlying31
  rcases h.2 with ⟨rfl, h0⟩ | ⟨g, cap, cur, rfl, hb, hg, hc, hm, hcs, hk⟩
  · rw [hz (List.eq_nil_of_length_eq_zero h0)]
    refine ⟨w, fun ty => ?_, h, Upd.refl _ _⟩
    simp [Builtin.clear_, run_underlying ht]
  · by_cases h0 : ys.length = 0
    · rw [hz (List.eq_nil_of_length_eq_zero h0)]
      refine ⟨w, fun ty => ?_, h, Upd.refl _ _⟩
      rw [h0]
      simp [Builtin.clear_, run_underlying ht]
    · refine ⟨_, fun ty => Lib.run_clear_slice w _ _ ty (.int .u8 0) ht zero8 rfl rfl g 0 _ cap (by omega) (fun j hj => ?_) (fun j hj => hpFrozen h _), ?_, ?_⟩
      · have := h.cells (g := g) rfl j (.int .u8 (ys.getD j 0)) (by simp [bv, List.getElem?_eq_getElem hj, List.getD])
        rw [addr_add] at this
        rw [this]; rfl
      · have h1 := row_setCells (List.replicate ys.length (Value.int .u8 0)) _ 0 w h
        rw [setFrom_all _ _ (by simp [bv])] at h1
        simpa [bv, zeros] using h1
      · exact upd_setCells (S := fun k => (Value.slice (some ⟨g, 0, none⟩) ys.length cap).ownBlock = some k) (by simp [Value.ownBlock]) _ _ _ (Upd.refl _ _)
section
variable {t : TypeId} {F : Nat → Prop} {w w' : World} {b : Nat} {sz : Int} {av : Value} {R : List (ArrM × Value)}
/-- array i's bytes are others, as many, in their block -/
theorem Hp.relay (h : Hp t F w b sz av R) (ht : t ≠ 5) {i : Nat} (hi : i < R.length) (hu : Upd (fun k => R[i].2.ownBlock = some k) w w') (ys : List Int)
    (hr : w'.ownsRow 0 5 1 R[i].2 ys.length (bv ys)) (hy : ∀ y ∈ ys, 0 ≤ y ∧ y ≤ 255) (hl : ys.length ≤ 64) : Hp t F w' b sz av (R.set i (R[i].1.put ys, R[i].2)) := by
  have hm := h.dat _ (List.getElem_mem hi)
  refine ⟨hpBlk hu h.box (hpBoxNe hm.row h.box (Ne.symm ht)), ?_, fun p hp => ?_, ?_, h.fb, h.fr, fun k hk => Nat.lt_of_lt_of_le (h.lt k hk) hu.size⟩
  · rw [List.length_set, acl_keep R i hi]
    exact ownsRow_upd h.row hu (fun k hk hk' => hpRowNe h.row hm.row (by decide) k hk hk')
  · obtain ⟨k, hk, rfl⟩ := List.mem_iff_getElem.1 hp
    rw [List.length_set] at hk
    rw [List.getElem_set]
    split
    · exact ⟨hr, hy, hm.inn, hl⟩
    · rename_i he
      refine (h.dat _ (List.getElem_mem hk)).upd hu (fun q hq hq' => ?_)
      have hp2 := List.pairwise_iff_getElem.1 h.ap
      rcases Nat.lt_or_ge k i with h1 | h1
      · exact hp2 k i hk hi h1 _ hq hq'
      · exact hp2 i k hi hk (by omega) _ hq' hq
  · rw [List.pairwise_iff_getElem]
    intro k l hk hl hkl q hq hq'
    rw [List.length_set] at hk hl
    rw [snd_set R i hi _ k hk] at hq
    rw [snd_set R i hi _ l hl] at hq'
    exact List.pairwise_iff_getElem.1 h.ap k l hk hl hkl q hq hq'
end
end Go.Proofs.Ytmfiamoeagnmmaa

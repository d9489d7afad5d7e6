/- Package heap: Clear, SetBuffer. -/
import Derived.Test.YtmfiamoeagnmmaaHf
import Derived.Deep.RegionLaw
namespace Go.Proofs.Ytmfiamoeagnmmaa
open Go.RowKit Go.ChangeShapes Go.WideShapes Go.Deep
set_option linter.unusedVariables false
set_option linter.unusedSimpArgs false

def clrR (life own : Int) (p : ArrM × Value) : ArrM × Value := (clrA life own p.1, p.2)
def midR (life own : Int) (R : List (ArrM × Value)) (k : Nat) : List (ArrM × Value) := (R.take k).map (clrR life own) ++ R.drop k
theorem midR_len (life own : Int) (R : List (ArrM × Value)) (k : Nat) (hk : k ≤ R.length) : (midR life own R k).length = R.length := by simp [midR]; omega
theorem midR_at (life own : Int) (R : List (ArrM × Value)) (k : Nat) (hk : k < R.length) : (midR life own R k)[k]? = some R[k] := by
  unfold midR
  rw [List.getElem?_append_right (by simp; omega)]
  simp [List.getElem?_drop, Nat.min_eq_left (by omega : k ≤ R.length), hk]
theorem midR_set (life own : Int) (R : List (ArrM × Value)) (k : Nat) (hk : k < R.length) : midR life own R (k + 1) = (midR life own R k).set k (clrR life own R[k]) := by
  have e1 : R.take (k + 1) = R.take k ++ [R[k]] := by rw [List.take_add_one, List.getElem?_eq_getElem hk]; rfl
  have e2 : R.drop k = R[k] :: R.drop (k + 1) := List.drop_eq_getElem_cons hk
  have e3 : ((R.take k).map (clrR life own)).length = k := by simp; omega
  unfold midR
  rw [e1, e2, List.map_append, List.set_append_right _ _ (by omega), e3, Nat.sub_self, List.append_assoc]
  rfl
theorem midR_zero (life own : Int) (R : List (ArrM × Value)) : midR life own R 0 = R := by simp [midR]
theorem midR_all (life own : Int) (R : List (ArrM × Value)) : midR life own R R.length = R.map (clrR life own) := by simp [midR]
theorem gone_take (life own : Int) (L : List ArrM) (k : Nat) (hk : k < L.length) : goneN (L.take (k + 1)) life own = goneN (L.take k) life own + (if endsB L[k] life own then 1 else 0) := by
  unfold goneN
  rw [List.take_add_one, List.filter_append, List.length_append, List.getElem?_eq_getElem hk]
  simp [List.filter_cons]
  split <;> simp
theorem gone_le (life own : Int) (L : List ArrM) : goneN L life own ≤ L.length := List.length_filter_le _ _
section
variable {F : Nat → Prop} {w : World} {b : Nat} {sz : Int} {av : Value} {R : List (ArrM × Value)}
theorem hSet_no (h : Hp 62 F w b sz av R) (ref : Int) (v : Value) (ys : List Int) (hv : Vw w v ys) (hf : bufB ref = false ∨ 64 < ys.length) :
    Calls Try.prog 36 #[.pointer (some ⟨b, 0, none⟩), .int .i64 ref, v] w fun e w' => e = .returned (.bool false) ∧ w = w' := by
  obtain ⟨da, dc, rfl, -, -⟩ := hv.slice
  cases hq : bufB ref with
  | false =>
    have HQ := Lib.hid hq
    clear hq hf
    go_enter Try.func36, Try.ntmps36
    go_wp2_with (refine (hBuffer _ _).mono ?_; rw [HQ.out]; rintro e w' ⟨rfl, rfl⟩)
    go_ret
    exact ⟨rfl, rfl⟩
  | true =>
    rw [hq] at hf
    have HQ := Lib.hid hq
    have hl : 64 < ys.length := by rcases hf with h | h; cases h; exact h
    clear hq hf
    go_enter Try.func36, Try.ntmps36
    go_wp2_with (refine (hBuffer _ _).mono ?_; rw [HQ.out]; rintro e w' ⟨rfl, rfl⟩)
    go_ret
    exact ⟨rfl, rfl⟩
theorem hpGive {t : TypeId} {w5 : World} {d : Value} {ys : List Int} {g c : Nat} (h : Hp t F w5 b sz (.slice (some ⟨g, 0, none⟩) R.length c) R) {i : Nat} (hi : i < R.length) (h5 : New w.drew d ys w5) (hy : ∀ y ∈ ys, 0 ≤ y ∧ y ≤ 255) (hl : ys.length ≤ 64) (hlt : ∀ k, F k → k < w.heap.size)
    (ht : t ≠ 42 := by decide) : Hp t (More F w (w5.setCell ⟨g, i * 5 + 4, none⟩ d)) (w5.setCell ⟨g, i * 5 + 4, none⟩ d) b sz (.slice (some ⟨g, 0, none⟩) R.length c) (R.set i (R[i].1.put ys, d)) := by
  have hsz : (w5.setCell ⟨g, i * 5 + 4, none⟩ d).heap.size = w5.heap.size := by simp [World.setCell]
  have h6 : Hp t (More F w (w5.setCell ⟨g, i * 5 + 4, none⟩ d)) w5 b sz (.slice (some ⟨g, 0, none⟩) R.length c) R := h.wide (fun k hk => .inl hk) (fun k hk => by
    rcases hk with hk | hk
    · exact h.lt k hk
    · rw [hsz] at hk; exact hk.2)
  refine h6.give ht hi rfl d ys h5.1 hy hl (fun k hk => ?_)
  have h1 := h5.2.2 k hk
  have h2 := hpRowLt h5.1 k hk
  simp at h1
  refine ⟨.inr ⟨h1, by rw [hsz]; exact h2⟩, fun p hp hpk => ?_⟩
  have := hlt k ((h.dat p hp).inn k hpk)
  omega
set_option maxHeartbeats 1000000 in
theorem hSet (h : Hp 62 F w b sz av R) {i : Nat} (hi : i < R.length) (hi2 : i < 2) (v : Value) (ys : List Int) (hv : Vw w v ys) (hl : ys.length ≤ 64) :
    Calls Try.prog 36 #[.pointer (some ⟨b, 0, none⟩), .int .i64 ((i : Int) + 1), v] w fun e w' => e = .returned (.bool true) ∧ (∃ d, Hp 62 (More F w w') w' b sz av (R.set i (R[i].1.put ys, d))) ∧ Upd F w w' := by
  obtain ⟨da, dc, rfl, -, -⟩ := hv.slice
  have HQ : Hid (bufB ((i : Int) + 1) = true) := Lib.hid (by simp [bufB]; omega)
  have H := Lib.hid (h.upd (Upd.drew (fun _ => False) w) (fun _ _ h => h))
  have HL := Lib.hid h.lt
  have HV := Lib.hid (hv.upd (Upd.drew (fun _ => False) w) (fun _ _ h => h))
  obtain ⟨h0, h1, h2⟩ := h.bx
  obtain ⟨g, c, rfl, -, -, -, -, k4, k5⟩ := h.at hi
  have f4 := k5 (i * 5 + 4)
  obtain ⟨oa, oc, hd, -, -⟩ := h.dslice hi
  rw [hd] at k4
  have hbl : b < w.heap.size := (Array.getElem?_eq_some_iff.1 h.box).1
  have hgl : g < w.heap.size := hpRowLt h.row g rfl
  have HUD := Lib.hid (Upd.drew (fun _ => False) w)
  have hw1 : IntKind.i64.wrap (i : Int) = (i : Int) := IntWalk.i64_in _ (by omega)
  have hi3 : (0 : Int) ≤ (i : Int) := Int.natCast_nonneg _
  have hi4 : (i : Int) < (R.length : Int) := by omega
  clear h hd k5 h2 h0 hv
  generalize hn : ys.length = n at *
  have HN := Lib.hid hn
  clear hn
  go_enter Try.func36, Try.ntmps36
  go_wp2_with (refine (hBuffer _ _).mono ?_; rw [HQ.out]; rintro e w' ⟨rfl, rfl⟩)
  go_region_law ((first
    | (go_simp; (refine (clone w.drew _ ys HV.out (by rw [HN.out]; omega)).mono ?_); rintro e w5 ⟨v', rfl, hnew⟩; have HX5 := Lib.hid hnew; have HC5 := Lib.hid (H.out.upd hnew.2.1 (fun _ _ h => h)); obtain ⟨va, vc, rfl⟩ := ownsRow_slice hnew.1; have c1 := HC5.out.bx.2.1; have c4 := ((hnew.2.1.cell (p := ⟨g, i * 5 + 4, none⟩) (by simpa using hgl) (fun h => h)).trans (by simpa using k4)); have c5 := ((hnew.2.1.frozen (p := ⟨g, i * 5 + 4, none⟩) (by simpa using hgl) (fun h => h)).trans (by simpa using f4)); clear hnew)))
  all_goals
    clear c1 c4 c5
    go_wp2_with fail
    go_ret
    refine ⟨rfl, ⟨.slice va ys.length vc, hpGive HC5.out hi (h5 := HX5.out) HV.out.1 (by rw [HN.out]; omega) HL.out⟩, ?_⟩
    exact hpS ((HUD.out.trans HX5.out.2.1 (fun _ h _ => h)).mono (T := F) (fun _ h _ => h.elim)) (HC5.out.fr g rfl)
end
end Go.Proofs.Ytmfiamoeagnmmaa

/- HeapPlays: what its last branches ask of both heaps. -/
import Derived.Test.YteapemjkfncbjaaHx
namespace Go.Proofs.Yteapemjkfncbjaa
open Go.RowKit Go.Lib Go.ChangeShapes Go.WideShapes Go.Deep
set_option linter.unusedVariables false
set_option linter.unusedSimpArgs false

theorem five5 {w : World} {g : Nat} {v0 v1 v2 v3 v4 v5 v6 : Value} {t : TypeId} (h : w.heap[g]? = some (.cells #[v0, v1, v2, v3, v4, v5, v6] t (0, 0))) : w.cell? ⟨g, 5, none⟩ = some v5 := (seven h).2.2.2.2.2.1
theorem five3 {w : World} {g : Nat} {v0 v1 v2 v3 v4 v5 v6 : Value} {t : TypeId} (h : w.heap[g]? = some (.cells #[v0, v1, v2, v3, v4, v5, v6] t (0, 0))) : w.cell? ⟨g, 3, none⟩ = some v3 := (seven h).2.2.2.1
section
variable {K K1 F : Nat → Prop} {W w w' : World} {b c : Nat} {m m' : HpM}
theorem Both.keep (h : Both K W w b c m) (hu : Upd (fun _ => False) w w') : Both (More K w w') W w' b c m :=
  ⟨h.own.keep hu (fun q hq => hq), h.ref.more hu, fun q hq => by
    rcases hq with hq | hq
    · exact h.new q hq
    · have := h.own.up.size; omega⟩
theorem Half.quiet (h : Half K W w b c m m') (hu : Upd (fun _ => False) w w') : Half K W w' b c m m' :=
  ⟨(h.own.quiet hu).own, h.ref.upd hu (fun _ _ h => h), h.new⟩
theorem Half.both2 (h : Half K1 W w b c m m') (hr : Hep RT (More K w w') w' c m') (hu : Upd K w w') (hK : ∀ q, K q → K1 q) : Both (More K1 w w') W w' b c m' :=
  h.both (hr.wide (fun q hq => hq.imp (hK q) id) (fun q hq => by
    rcases hq with hq | hq
    · have := h.own.kl q hq; have := hu.size; omega
    · exact hq.2)) (hu.mono (fun q hq _ => hK q hq))
/-- the reference's SetBuffer where there is none, or too much -/
theorem rSet_no (ref : Int) (v : Value) (ys : List Int) (hv : Vw w v ys) (hf : bufB ref = false ∨ 64 < ys.length) :
    Calls Try.prog 18 #[.pointer (some ⟨b, 0, none⟩), .int .i64 ref, v] w fun e w' => e = .returned (.bool false) ∧ w = w' := by
  obtain ⟨da, dc, rfl, -, -⟩ := hv.slice
  have hor : ref < 1 ∨ (1 ≤ ref ∧ 2 < ref) ∨ (1 ≤ ref ∧ ref ≤ 2 ∧ 64 < ys.length) := by
    by_cases h1 : ref < 1
    · exact .inl h1
    · by_cases h2 : 2 < ref
      · exact .inr (.inl ⟨by omega, h2⟩)
      · refine .inr (.inr ⟨by omega, by omega, ?_⟩)
        rcases hf with hf | hf
        · simp [bufB] at hf; omega
        · exact hf
  clear hf hv
  rcases hor with h1 | ⟨h1, h2⟩ | ⟨h1, h2, h3⟩
  all_goals
    go_enter Try.func18, Try.ntmps18
    go_wp2_with fail
    go_ret
    exact ⟨rfl, rfl⟩
theorem hasNo {n : Nat} {ref : Int} (h : hasB n ref = true) : ∃ i : Nat, i < n ∧ ref = (i : Int) + 1 := by
  simp [hasB] at h
  exact ⟨(ref - 1).toNat, by omega, by omega⟩
/-- At, whatever it answers -/
theorem qAny (h : Hep RT F w c m) (hl : m.arrs.length ≤ 1000) (ref : Int) :
    Calls Try.prog 12 #[.pointer (some ⟨c, 0, none⟩), .int .i64 ref] w fun e w' => ∃ own lab life sh a n cc, e = .returned (.tuple #[.agg #[.int .i64 own, .int .i64 lab, .int .i64 life, .bool sh, .slice a n cc], .bool (hasB m.arrs.length ref)]) ∧ Upd (fun _ => False) w w' ∧ ∀ i : Nat, i < m.arrs.length → ref = (i : Int) + 1 → n = (m.arrs.getD i default).data.length := by
  cases hq : hasB m.arrs.length ref with
  | false =>
    refine (qAt_no h hl ref hq).mono ?_
    rintro e w' ⟨rfl, hu⟩
    exact ⟨0, 0, 0, false, none, 0, 0, rfl, hu, fun i hi he => by simp [hasB] at hq; omega⟩
  | true =>
    obtain ⟨i, hi, rfl⟩ := hasNo hq
    refine (qAt h hl hi).mono ?_
    rintro e w' ⟨a, cc, rfl, -, hu⟩
    refine ⟨_, _, _, _, a, _, cc, rfl, hu, fun j hj he => ?_⟩
    have e : i = j := by omega
    rw [e]
def NoB (m : HpM) (ref at_ : Int) : Prop := hasB m.arrs.length ref = false ∨ ∃ i : Nat, i < m.arrs.length ∧ ref = (i : Int) + 1 ∧ (at_ < 0 ∨ ((m.arrs.getD i default).data.length : Int) ≤ at_)
theorem noPut (h : Hep HT F w b m) (hl : m.arrs.length ≤ 1000) (ref at_ y : Int) (hno : NoB m ref at_) : Calls Try.prog 13 #[.pointer (some ⟨b, 0, none⟩), .int .i64 ref, .int .i64 at_, .int .u8 y] w fun e w' => e = .returned (.bool false) ∧ w = w' := by
  rcases hno with hno | ⟨i, hi, rfl, hno⟩
  · exact pPut_none h ref at_ y hno
  · exact pPut_out h hi hl at_ y hno
theorem noGet (h : Hep HT F w b m) (hl : m.arrs.length ≤ 1000) (ref at_ : Int) (hno : NoB m ref at_) : Calls Try.prog 15 #[.pointer (some ⟨b, 0, none⟩), .int .i64 ref, .int .i64 at_] w fun e w' => e = .returned (.tuple #[.int .u8 0, .bool false]) ∧ w = w' := by
  rcases hno with hno | ⟨i, hi, rfl, hno⟩
  · exact pGet_none h ref at_ hno
  · exact pGet_out h hi hl at_ hno
theorem put_len (m : HpM) (i j : Nat) (y : Int) : (m.put i j y).arrs.length = m.arrs.length := by simp [HpM.put, HpM.lay]
theorem put_at (m : HpM) {i j : Nat} (y : Int) (hi : i < m.arrs.length) (hj : j < (m.arrs.getD i default).data.length) : ((m.put i j y).arrs.getD i default).data.getD j 0 = y ∧ j < ((m.put i j y).arrs.getD i default).data.length := by
  simp [List.getD, hi] at hj
  simp [HpM.put, HpM.lay, List.getD, hi, ArrM.put, hj]
/-- a byte that was put is told -/
theorem putGet {i j : Nat} {y : Int} (h : Hep HT F w b (m.put i j y)) (hl : m.arrs.length ≤ 1000) (hi : i < m.arrs.length) (hj : j < (m.arrs.getD i default).data.length) : Calls Try.prog 15 #[.pointer (some ⟨b, 0, none⟩), .int .i64 ((i : Int) + 1), .int .i64 (j : Int)] w fun e w' => e = .returned (.tuple #[.int .u8 y, .bool true]) ∧ w = w' := by
  have e := put_at m y hi hj
  have := pGet h (by rw [put_len]; exact hi) (by rw [put_len]; exact hl) e.2
  rw [e.1] at this
  exact this
/-- Alloc and Put on a copy, whatever they answer -/
theorem cAlloc (h : Hep HT F w b m) (hl : m.arrs.length ≤ 1000) (hs : 0 ≤ m.size ∧ m.size ≤ 4096) :
    Calls Try.prog 23 #[.pointer (some ⟨b, 0, none⟩), .int .i64 0, .int .i64 3, .int .i64 0, .bool false, .int .i64 1] w fun e w' => ∃ r m', e = .returned (.tuple r) ∧ Hep HT (More F w w') w' b m' ∧ m'.arrs.length ≤ m.arrs.length + 1 ∧ Upd F w w' := by
  cases hf : fitsB m 3 0 1 with
  | false =>
    refine (pAlloc_no h hl hs 0 3 0 1 false hf).mono ?_
    rintro e w' ⟨rfl, hu⟩
    exact ⟨_, m, rfl, h.more hu, by omega, hu.mono (fun _ h _ => h.elim)⟩
  | true =>
    refine (pAlloc h hl hs 0 3 0 1 false hf).mono ?_
    rintro e w' ⟨rfl, h1, hu⟩
    exact ⟨_, _, rfl, h1, by simp [HpM.add], hu⟩
theorem cPut (h : Hep HT F w b m) (hl : m.arrs.length ≤ 1000) :
    Calls Try.prog 13 #[.pointer (some ⟨b, 0, none⟩), .int .i64 3, .int .i64 0, .int .u8 77] w fun e w' => ∃ q, e = .returned (.bool q) ∧ Upd F w w' := by
  by_cases hn : 3 ≤ m.arrs.length ∧ 0 < (m.arrs.getD 2 default).data.length
  · refine (pPut h (i := 2) (by omega) hl (j := 0) hn.2 77 (by omega)).mono ?_
    rintro e w' ⟨rfl, -, hu⟩
    exact ⟨_, rfl, hu⟩
  · refine (noPut h hl 3 0 77 ?_).mono ?_
    · by_cases h3 : 3 ≤ m.arrs.length
      · exact .inr ⟨2, by omega, rfl, .inr (by omega)⟩
      · exact .inl (by simp [hasB]; omega)
    · rintro e w' ⟨rfl, rfl⟩
      exact ⟨_, rfl, Upd.refl _ _⟩
/-- Array, whatever it answers: its bytes are new -/
theorem cArray (h : Hep HT F w b m) (hl : m.arrs.length ≤ 1000) (ref : Int) :
    Calls Try.prog 24 #[.pointer (some ⟨b, 0, none⟩), .int .i64 ref] w fun e w' => ∃ own lab life sh a cc zs is, e = .returned (.tuple #[.agg #[.int .i64 own, .int .i64 lab, .int .i64 life, .bool sh, .slice a zs.length cc], .bool is]) ∧ New w (.slice a zs.length cc) zs w' := by
  cases hq : hasB m.arrs.length ref with
  | false =>
    refine (pArray_no h ref hq).mono ?_
    rintro e w' ⟨rfl, hu⟩
    exact ⟨0, 0, 0, false, none, 0, [], false, rfl, World.ownsRow_nil _ _ _ _, hu, fun k hk => by simp [Value.ownBlock] at hk⟩
  | true =>
    obtain ⟨i, hi, rfl⟩ := hasNo hq
    refine (pArray h hi hl).mono ?_
    rintro e w' ⟨d, rfl, hn⟩
    obtain ⟨a, cc, rfl⟩ := ownsRow_slice hn.1
    exact ⟨_, _, _, _, a, cc, _, true, rfl, hn⟩
theorem rowMax {base : Nat} {e : TypeId} {n : Nat} {v : Value} {xs : List Value} (h : w.ownsRow base e 1 v n xs) : n ≤ maxLen := by
  rcases h.2 with ⟨_, h0⟩ | ⟨g, cap, cur, rfl, hb, hg, hc, hm, hcs, ht⟩
  · omega
  · omega
/-- the answer's own bytes, while they are turned -/
def Bmp (w0 wr : World) (x : Nat) (own lab life : Int) (sh : Bool) (a : Option Addr) (n cc : Nat) (zs : List Int) : Prop :=
  Upd (fun _ => False) w0 wr ∧ wr.heap[x]? = some (.cells #[.int .i64 own, .int .i64 lab, .int .i64 life, .bool sh, .slice a n cc] 38 (0, 0)) ∧ zs.length = n ∧ wr.ownsRow 0 5 1 (.slice a n cc) n (bv zs) ∧ (∀ k, (Value.slice a n cc).ownBlock = some k → w0.heap.size ≤ k) ∧ n ≤ maxLen
theorem Bmp.at {w0 wr : World} {x : Nat} {own lab life : Int} {sh : Bool} {a : Option Addr} {n cc : Nat} {zs : List Int} (h : Bmp w0 wr x own lab life sh a n cc zs) {j : Nat} (hj : j < n) :
    ∃ g, a = some ⟨g, 0, none⟩ ∧ wr.cell? ⟨g, j, none⟩ = some (.int .u8 (zs.getD j 0)) ∧ wr.frozen? ⟨g, j, none⟩ = false := by
  obtain ⟨h1, h2, h3, h4, h5, h6⟩ := h
  obtain ⟨g, c', he, -⟩ := rowHead h4 (by omega)
  simp at he
  obtain ⟨rfl, rfl⟩ := he
  refine ⟨g, rfl, rowCell h4 ?_, hpFrozen h4 j⟩
  simp [bv, List.getD]
  rw [List.getElem?_eq_getElem (by omega)]
  rfl
theorem Bmp.set {w0 wr : World} {x : Nat} {own lab life : Int} {sh : Bool} {g : Nat} {n cc : Nat} {zs : List Int} (h : Bmp w0 wr x own lab life sh (some ⟨g, 0, none⟩) n cc zs) (j : Nat) (y : Int) :
    Bmp w0 (wr.setCell ⟨g, j, none⟩ (.int .u8 y)) x own lab life sh (some ⟨g, 0, none⟩) n cc (zs.set j y) := by
  obtain ⟨h1, h2, h3, h4, h5, h6⟩ := h
  have hu : Upd (fun k => k = g) wr (wr.setCell ⟨g, j, none⟩ (.int .u8 y)) := Upd.setCell (S := fun k => k = g) wr (.inl rfl) _
  have hg := h5 g rfl
  refine ⟨h1.trans hu (fun k hk hl => by omega), hpBlk hu h2 (fun hx => ?_), by simpa using h3, ?_, h5, h6⟩
  · subst hx
    exact hpBoxNe h4 h2 (by decide) rfl
  · have := hpSet h4 j (.int .u8 y)
    simpa [bv, List.map_set] using this
end
end Go.Proofs.Yteapemjkfncbjaa

/- Package room: whatever an applet is served, no array of another one is turned unless it is shared. -/
import Derived.Test.YtmfiamoeagnmmaaQs
import Derived.Test.YtmfiamoeagnmmaaQm
import Derived.Test.YtmfiamoeagnmmaaQn
import Derived.Test.YtmfiamoeagnmmaaQp
import Derived.Test.YtmfiamoeagnmmaaQq
namespace Go.Proofs.Ytmfiamoeagnmmaa
open Go.RowKit Go.Lib Go.ChangeShapes Go.WideShapes Go.Deep
set_option linter.unusedVariables false
set_option linter.unusedSimpArgs false

/-- what may be turned: an array that is the card's own, the applet's, or shared; nothing, unless the status is Fine -/
def Walled (M M' : RmM) (st ap : Int) : Prop :=
  M.hp.arrs.length ≤ M'.hp.arrs.length ∧ (∀ i, i < M.hp.arrs.length → M'.hp.arrs.getD i default = M.hp.arrs.getD i default ∨ (st = 36864 ∧ mayB (M.hp.arrs.getD i default) ap = true)) ∧ (st ≠ 36864 → M'.hp = M.hp)
theorem Walled.same (M M' : RmM) (st ap : Int) (h : M'.hp = M.hp) : Walled M M' st ap := by
  refine ⟨by rw [h]; exact Nat.le_refl _, fun i _ => .inl (by rw [h]), fun _ => h⟩
theorem walled_new (M : RmM) (ap a b n : Int) : Walled M (newM M ap a b n) (newS M a b n) ap := by
  unfold newM
  split
  · rename_i h
    refine ⟨by simp [RmM.withHp, HpM.add], fun i hi => .inl ?_, fun hne => absurd h hne⟩
    simp only [RmM.withHp, HpM.add, List.getD_eq_getElem?_getD]
    rw [List.getElem?_append_left hi]
  · exact Walled.same _ _ _ _ rfl
theorem walled_lay {M : RmM} {ap : Int} {i0 : Nat} (ys : List Int) (hm : mayB (M.hp.arrs.getD i0 default) ap = true) : Walled M (M.withHp (M.hp.lay i0 ys)) 36864 ap := by
  refine ⟨by simp [RmM.withHp, HpM.lay], fun i hi => ?_, fun hne => absurd rfl hne⟩
  by_cases e : i0 = i
  · subst e
    exact .inr ⟨rfl, hm⟩
  · refine .inl ?_
    simp only [RmM.withHp, HpM.lay, List.getD_eq_getElem?_getD]
    rw [List.getElem?_set_ne e]
theorem walled_put (M : RmM) (ap ref at_ y : Int) : Walled M (putM M ap ref at_ y) (rngP M.hp.arrs ref at_ 1 ap) ap := by
  unfold putM
  split
  · rename_i h
    obtain ⟨i, a, k, hi, rfl, rfl, -, -, hm⟩ := rng_fine h
    rw [h]
    rw [show ((i : Int) + 1 - 1).toNat = i by omega]
    exact walled_lay _ hm
  · exact Walled.same _ _ _ _ rfl
theorem walled_copy (M : RmM) (ap : Int) (s u : SpM) : Walled M (copyM M ap s u) (reachP M.hp.arrs ap [s, u]) ap := by
  unfold copyM
  split
  · rename_i h
    obtain ⟨i, a, k, hi, e1, -, -, -, hm⟩ := rng_fine (reach2 h).1
    rw [h, e1, show ((i : Int) + 1 - 1).toNat = i by omega]
    exact walled_lay _ hm
  · exact Walled.same _ _ _ _ rfl
theorem walled_send (M : RmM) (ap a : Int) (s : SpM) : Walled M (sendM M ap a s) (sendS M ap a s) ap := by
  refine Walled.same _ _ _ _ ?_
  unfold sendM
  split
  · split <;> rfl
  · rfl
def opB (op : Int) : Prop := op = 27 ∨ op = 30 ∨ op = 31 ∨ op = 29 ∨ op = 36 ∨ op = 32 ∨ op = 28
/-- Serve, without a trace, whichever instruction -/
theorem servedW {c : Nat → Nat} {w : World} {rb : Nat} {M : RmM} (h : Rm c w rb M) (ap op b : Int) (v : Value) (xs : List Int) (ho : opB op) (hb : 0 ≤ b ∧ b ≤ 7) (hx : I32 w v xs) (hl : (xs.length : Int) = servesP op) (hv : ∀ k, v.ownBlock = some k → ¬ TR (c k)) :
    Calls Try.prog 12 #[.pointer (some ⟨rb, 0, none⟩), .pointer none, .int .i64 ap, .int .i64 op, .int .i64 3, .int .i64 b, v] w fun e w' => ∃ n st M', Served c w rb (.pointer none) ⟨n, st, M'⟩ none e w' ∧ Walled M M' st ap := by
  have ht : TrO c w (.pointer none) none := rfl
  rcases ho with rfl | rfl | rfl | rfl | rfl | rfl | rfl
  · match xs, hl with
    | [x0], _ => exact (sv27 h ht ap 3 b v x0 hx hv hb).mono fun e w' hs => ⟨_, _, _, hs, walled_new M ap 3 b x0⟩
  · match xs, hl with
    | [x0, x1, x2], _ => exact (sv30 h ht ap 3 b v x0 x1 x2 hx hv).mono fun e w' hs => ⟨_, _, _, hs, walled_put M ap x0 x1 _⟩
  · match xs, hl with
    | [x0, x1, x2, x3, x4], _ => exact (sv31 h ht ap 3 b v x0 x1 x2 x3 x4 hx hv).mono fun e w' hs => ⟨_, _, _, hs, walled_copy M ap _ _⟩
  · match xs, hl with
    | [x0, x1], _ => exact (sv29 h ht ap 3 b v x0 x1 hx hv).mono fun e w' hs => ⟨_, _, _, hs, Walled.same _ _ _ _ rfl⟩
  · match xs, hl with
    | [x0, x1, x2], _ => exact (sv36q h ht ap 3 b v x0 x1 x2 hx hv (by omega)).mono fun e w' hs => ⟨_, _, _, hs, walled_send M ap 3 _⟩
  · match xs, hl with
    | [x0, x1, x2, x3, x4], _ => exact (sv32 h ht ap 3 b v x0 x1 x2 x3 x4 hx hv).mono fun e w' hs => ⟨_, _, _, hs, Walled.same _ _ _ _ rfl⟩
  · match xs, hl with
    | [x0], _ => exact (sv28 h ht ap 3 b v x0 hx hv).mono fun e w' hs => ⟨_, _, _, hs, Walled.same _ _ _ _ rfl⟩
theorem qServes (op : Int) (w : World) : Calls Try.prog 10 #[.int .i64 op] w fun e w' => e = .returned (.int .i64 (servesP op)) ∧ w = w' := by
  have HP := Lib.hid (show servesP op = if op = 27 ∨ op = 28 then 1 else if op = 17 ∨ op = 18 ∨ op = 29 then 2 else if op = 30 ∨ op = 36 then 3 else if op = 31 ∨ op = 32 then 5 else -1 from rfl)
  generalize servesP op = r at *
  go_enter Try.func10, Try.ntmps10
  go_wp2_with fail
  all_goals go_ret
  all_goals
    refine ⟨ret_i64 ?_, rfl⟩
    rw [HP.out]
    simp_all
set_option maxRecDepth 100000 in
set_option maxHeartbeats 4000000 in
/-- whether two arrays are the same: told, whatever it is -/
theorem rSameAny (o1 l1 f1 o2 l2 f2 : Int) (s1 s2 : Bool) (d1 d2 : Value) (xs ys : List Int) (w : World) (h1 : Vw w d1 xs) (h2 : Vw w d2 ys) : Calls Try.prog 15 #[.agg #[.int .i64 o1, .int .i64 l1, .int .i64 f1, .bool s1, d1], .agg #[.int .i64 o2, .int .i64 l2, .int .i64 f2, .bool s2, d2]] w fun e w' => (∃ z, e = .returned (.bool z)) ∧ Upd (fun _ => False) w w' := by
  obtain ⟨a1, c1, rfl, -, -⟩ := h1.slice
  obtain ⟨a2, c2, rfl, -, -⟩ := h2.slice
  obtain ⟨w1, hw1⟩ : ∃ w1, w1 = (w.alloc (.cells #[.int .i64 o1, .int .i64 l1, .int .i64 f1, .bool s1, .slice a1 xs.length c1] 42)).alloc (.cells #[.int .i64 o2, .int .i64 l2, .int .i64 f2, .bool s2, .slice a2 ys.length c2] 42) := ⟨_, rfl⟩
  have hu : Upd (fun _ => False) w w1 := by rw [hw1]; exact (Upd.alloc _ _ _).trans (Upd.alloc _ _ _) (fun _ h _ => h)
  have e1 := run_str (P := Try.prog) Try.underlying31 Try.underlying5 Try.underlying9 (h1.upd hu (fun _ _ h => h))
  have e2 := run_str (P := Try.prog) Try.underlying31 Try.underlying5 Try.underlying9 (h2.upd hu (fun _ _ h => h))
  have HU := Lib.hid hu
  clear h1 h2 hu
  generalize strOfNums xs = st1 at *
  generalize strOfNums ys = st2 at *
  generalize xs.length = n1 at *
  generalize ys.length = n2 at *
  subst hw1
  by_cases h1 : o1 = o2
  · subst h1
    by_cases h2 : l1 = l2
    · subst h2
      by_cases h3 : f1 = f2
      · subst h3
        by_cases h4 : s1 = s2
        · subst h4
          go_enter Try.func15, Try.ntmps15
          go_wp2_with fail
          go_ret
          exact ⟨⟨_, rfl⟩, HU.out⟩
        · have b4 : (s1 == s2) = false := by cases s1 <;> cases s2 <;> simp_all
          clear h4
          go_enter Try.func15, Try.ntmps15
          go_wp2_with fail
          go_ret
          exact ⟨⟨_, rfl⟩, HU.out⟩
      · have b3 : (f1 == f2) = false := by simpa using h3
        clear h3
        go_enter Try.func15, Try.ntmps15
        go_wp2_with fail
        go_ret
        exact ⟨⟨_, rfl⟩, HU.out⟩
    · have b2 : (l1 == l2) = false := by simpa using h2
      clear h2
      go_enter Try.func15, Try.ntmps15
      go_wp2_with fail
      go_ret
      exact ⟨⟨_, rfl⟩, HU.out⟩
  · have b1 : (o1 == o2) = false := by simpa using h1
    clear h1
    go_enter Try.func15, Try.ntmps15
    go_wp2_with fail
    go_ret
    exact ⟨⟨_, rfl⟩, HU.out⟩
end Go.Proofs.Ytmfiamoeagnmmaa

/- Package heap: what is used of its size; a new one. -/
import Derived.Test.YtdmadfahgkikkaaGreatKHa
import Derived.Test.YtdmadfahgkikkaaGreatHand
namespace Go.Proofs.YtdmadfahgkikkaaGreat
open Go.RowKit Go.ChangeShapes Go.WideShapes Go.Deep
set_option linter.unusedVariables false
set_option linter.unusedSimpArgs false

theorem usedL_app (A B : List ArrM) : usedL (A ++ B) = usedL A + usedL B := by simp [usedL]
theorem used_take {L : List ArrM} {k : Nat} (hk : k < L.length) : usedP (L.take (k + 1)) = usedP (L.take k) + (if k < 2 then 0 else 8 + L[k].data.length) := by
  unfold usedP
  rw [List.drop_take, List.drop_take]
  split
  · rw [show k + 1 - 2 = 0 by omega, show k - 2 = 0 by omega]; simp
  · rw [show k + 1 - 2 = (k - 2) + 1 by omega, List.take_add_one, usedL_app]
    have : (L.drop 2)[k - 2]? = some L[k] := by
      rw [List.getElem?_drop, show 2 + (k - 2) = k by omega]
      exact List.getElem?_eq_getElem hk
    rw [this]
    simp [usedL]
theorem used_le {L : List ArrM} (h : ∀ a ∈ L, a.data.length ≤ 64) : ∀ k, k ≤ L.length → usedP (L.take k) ≤ 72 * k
  | 0, _ => by simp [usedP, usedL]
  | k + 1, hk => by
    have ih := used_le h k (by omega)
    have := h L[k] (List.getElem_mem (by omega))
    rw [used_take (by omega : k < L.length)]
    split <;> omega
section
variable {F : Nat → Prop} {w : World} {b : Nat} {sz : Int} {av : Value} {R : List (ArrM × Value)}
theorem hUsed (h : Hp 92 F w b sz av R) (hl : R.length ≤ 1000) : Calls Tryz.prog 106 #[.pointer (some ⟨b, 0, none⟩)] w fun e w' => e = .returned (.int .i64 (usedP (R.map Prod.fst) : Int)) ∧ Upd (fun _ => False) w w' := by
  obtain ⟨h0, h1, h2⟩ := h.bx
  have H := Lib.hid h
  obtain ⟨a, c, rfl⟩ := h.len
  have HLE := Lib.hid (used_le (L := R.map Prod.fst) (fun x hx => by obtain ⟨p, hp, rfl⟩ := List.mem_map.1 hx; exact (h.dat p hp).len))
  have HU0 := Lib.hid (Upd.refl (fun _ => False) w)
  have HE0 : Hid (usedP ((R.map Prod.fst).take 0) = 0) := Lib.hid (by simp [usedP, usedL])
  have hmx := h.maxl
  clear h
  go_enter Tryz.func106, Tryz.ntmps106
  go_wp2_with fail
  go_loopw [11, 3, 4, 5] (fun i u _ _ wr => ∃ k n : Nat, k ≤ R.length ∧ i = .int .i64 k ∧ u = .int .i64 n ∧ n ≤ 72 * k ∧ Hid (usedP ((R.map Prod.fst).take k) = n) ∧ Hid (Upd (fun _ => False) w wr)) (fun i _ _ _ _ => R.length - (intOf i).toNat)
  case atStart => exact ⟨0, 0, Nat.zero_le _, rfl, rfl, Nat.zero_le _, HE0, HU0⟩
  case round =>
    obtain ⟨k, n, hk, rfl, rfl, hn, HN, HU⟩ := hrel
    by_cases hlt : k < R.length
    · have H1 := Lib.hid (H.out.upd HU.out (fun _ _ h => h))
      obtain ⟨g, c', hv, k0, k1, k2, k3, k4, k5⟩ := H1.out.at hlt
      simp at hv
      obtain ⟨rfl, rfl⟩ := hv
      obtain ⟨da, dc, hd, -, -⟩ := H1.out.dslice hlt
      have hdl := (H1.out.dat _ (List.getElem_mem hlt)).len
      rw [hd] at k4
      have HS := Lib.hid (used_take (L := R.map Prod.fst) (k := k) (by simpa using hlt))
      simp only [List.getElem_map] at HS
      rw [HN.out] at HS
      clear hd
      generalize R[k].1.own = x0 at *
      generalize R[k].1.lab = x1 at *
      generalize R[k].1.life = x2 at *
      generalize R[k].1.sh = x3 at *
      generalize R[k].1.data.length = dn at *
      have f0 := k5 (k * 5); have f1 := k5 (k * 5 + 1)
      have HUA := Lib.hid (fun o => HU.out.trans (Upd.alloc (fun _ => False) wr o) (fun _ h _ => h))
      by_cases h2 : k < 2
      · have HB : Hid (bufB ((k : Int) + 1) = true) := Lib.hid (by simp [bufB]; omega)
        rw [if_pos h2] at HS
        go_wp2_with (refine (hBuffer _ _).mono ?_; rw [HB.out]; rintro e w' ⟨rfl, rfl⟩)
        go_roundw
        case rel => exact ⟨k + 1, n, by omega, by go_num, rfl, by omega, Lib.hid (by rw [HS.out]; rfl), Lib.hid (HUA.out _)⟩
        case measure => simp [intOf]; omega
      · have HB : Hid (bufB ((k : Int) + 1) = false) := Lib.hid (by simp [bufB]; omega)
        rw [if_neg h2] at HS
        go_wp2_with (refine (hBuffer _ _).mono ?_; rw [HB.out]; rintro e w' ⟨rfl, rfl⟩)
        go_roundw
        case rel => exact ⟨k + 1, n + (8 + dn), by omega, by go_num, by go_num, by omega, Lib.hid (by rw [HS.out]), Lib.hid (HUA.out _)⟩
        case measure => simp [intOf]; omega
    · obtain rfl : k = R.length := by omega
      have HN2 : Hid (usedP (R.map Prod.fst) = n) := Lib.hid (by rw [← HN.out, List.take_of_length_le (by simp)])
      go_wp2_with fail
      go_ret
      exact ⟨by rw [HN2.out]; rfl, HU.out⟩
end
/-- a new heap's two arrays -/
def twoR : List (ArrM × Value) := [(⟨-1, 3, 0, false, []⟩, .slice none 0 0), (⟨-1, 4, 0, false, []⟩, .slice none 0 0)]
theorem two_hp (t : TypeId) (ht : t ≠ 89) (w0 w : World) (hu : Upd (fun _ => False) w0 w) (s : Int) (C : Array Value) (n : Nat) (hC : C.toList = twoR.flatMap acl) (hn : n = 2) (X B : Nat) (hX : X = w.heap.size) (hB : B = w.heap.size + 1) :
    Hep t (fun k => w0.heap.size ≤ k ∧ k < ((w.alloc (.cells C 89)).alloc (.cells #[.int .i64 s, .slice (some ⟨X, 0, none⟩) n n] t)).heap.size) ((w.alloc (.cells C 89)).alloc (.cells #[.int .i64 s, .slice (some ⟨X, 0, none⟩) n n] t)) B (two s) := by
  subst hn hX hB
  have hrow : (w.alloc (.cells C 89)).ownsRow 0 89 5 (.slice (some ⟨w.heap.size, 0, none⟩) 2 2) 2 (twoR.flatMap acl) := by
    rw [← hC]
    exact World.ownsRow_lit w C 2 (Nat.zero_le _) (by unfold maxLen; omega) (by rw [← Array.length_toList, hC]; rfl)
  have hs := hu.size
  refine ⟨_, twoR, ⟨hpTop _ _ _ (by simp), hrow.alloc _, fun p hp => ?_, ?_, ⟨by omega, by simp⟩, fun k hk => ?_, fun k hk => hk.2⟩, rfl⟩
  · simp [twoR] at hp
    rcases hp with rfl | rfl
    all_goals exact ⟨World.ownsRow_nil _ _ _ _, by simp, by simp [Value.ownBlock], by simp⟩
  · simp [twoR, Apart2, Value.ownBlock]
  · simp [Value.ownBlock] at hk
    subst hk
    exact ⟨by omega, by simp; omega⟩
theorem hNew_no (s : Int) (w : World) (h : s < 64 ∨ 4096 < s) : Calls Tryz.prog 29 #[.int .i64 s] w fun e w' => e = .returned (.tuple #[.pointer none, .int .i64 1]) ∧ w = w' := by
  go_enter Tryz.func29, Tryz.ntmps29
  go_wp2_with fail
  all_goals first
    | (refine bodyPost_ret (v := .tuple #[.pointer none, .int .i64 1]) (by simp only [results, Tryz.f29]; simp [go_sem]) rfl ?_; exact ⟨rfl, rfl⟩)
    | (exfalso; omega)
theorem hNew (s : Int) (w : World) (h1 : 64 ≤ s) (h2 : s ≤ 4096) : Calls Tryz.prog 29 #[.int .i64 s] w fun e w' => ∃ b, e = .returned (.tuple #[.pointer (some ⟨b, 0, none⟩), .int .i64 0]) ∧ Hep 92 (fun k => w.heap.size ≤ k ∧ k < w'.heap.size) w' b (two s) ∧ Upd (fun _ => False) w w' := by
  go_enter Tryz.func29, Tryz.ntmps29
  go_wp2_with fail
  refine bodyPost_ret (v := .tuple #[.pointer (some ⟨_, 0, none⟩), .int .i64 0]) (by simp only [results, Tryz.f29]; simp [go_sem]; rfl) rfl ?_
  have hu : Upd (fun _ => False) w ((w.alloc (.cells #[.int .i64 (-1), .int .i64 3, .int .i64 0, .bool false, .slice none 0 0] 89)).alloc (.cells #[.int .i64 (-1), .int .i64 4, .int .i64 0, .bool false, .slice none 0 0] 89)) := (Upd.alloc _ _ _).trans (Upd.alloc _ _ _) (fun _ h _ => h)
  refine ⟨_, rfl, ?_, ?_⟩
  · exact two_hp 92 (by decide) w _ hu s _ 2 rfl rfl _ _ (by simp) (by simp)
  · exact ((hu.trans (Upd.alloc _ _ _) (fun _ h _ => h)).trans (Upd.alloc _ _ _) (fun _ h _ => h))
end Go.Proofs.YtdmadfahgkikkaaGreat

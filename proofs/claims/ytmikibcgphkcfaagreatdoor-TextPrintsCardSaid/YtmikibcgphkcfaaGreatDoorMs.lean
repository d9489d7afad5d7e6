/- A region that draws its order, whose last operation waits for all others: what the loads read need hold ahead of that last one alone. No program is named here. The hand's names of applets. The hand's maker: grounds anew; its code's row, spot by spot. -/
import Derived.Test.YtmikibcgphkcfaaGreatDoorRl
import Derived.Test.YtmikibcgphkcfaaGreatDoorMl
import Derived.Test.YtmikibcgphkcfaaGreatDoorMq
import Derived.Test.YtmikibcgphkcfaaGreatDoorRaws
namespace Go.Proofs.YtmikibcgphkcfaaGreatDoor
section
open Go.RowKit Go.Lib
set_option linter.unusedVariables false

def ns0 : ByteArray := { data := #[97, 108, 112, 104, 97] }
def ns1 : ByteArray := { data := #[98, 195, 169, 116, 97] }
def ns2 : ByteArray := { data := #[103, 45, 49] }
def ns3 : ByteArray := { data := #[100, 46, 195, 191] }
/-- the hand's names -/
def nmK (k : Nat) : ByteArray := match k with
  | 0 => ns0
  | 1 => ns1
  | 2 => ns2
  | _ => ns3
def nmOf (n : Int) : ByteArray := nmK (n % 4).toNat
theorem nmK_size (k : Nat) : (nmK k).size ≤ 5 := by
  unfold nmK
  split <;> decide
theorem nmOf_size (n : Int) : (nmOf n).size ≤ 5 := nmK_size _
set_option maxRecDepth 100000 in
theorem ixn (k : Nat) (hk : (k : Int) < 4) : ∀ w : World, (Instr.index 59 (.agg #[.string { data := #[97, 108, 112, 104, 97] }, .string { data := #[98, 195, 169, 116, 97] }, .string { data := #[103, 45, 49] }, .string { data := #[100, 46, 195, 191] }]) (.int .i64 k)).run Tryz.prog w = .ok (.string (nmK k)) w := by
  have h : k = 0 ∨ k = 1 ∨ k = 2 ∨ k = 3 := by omega
  rcases h with rfl | rfl | rfl | rfl
  · exact fun w => by kernel_rfl
  · exact fun w => by kernel_rfl
  · exact fun w => by kernel_rfl
  · exact fun w => by kernel_rfl

set_option maxRecDepth 100000 in
set_option maxHeartbeats 4000000 in
theorem hName2 (n : Int) (w : World) : Calls Tryz.prog 12 #[.int .i64 n] w fun e w' => e = .returned (.string (nmOf n)) ∧ w = w' := by
  obtain ⟨q, hq⟩ : ∃ q : Nat, n % 4 = (q : Int) := ⟨(n % 4).toNat, by have := Int.emod_nonneg n (b := 4) (by omega); omega⟩
  have hq4 : (q : Int) < 4 := by have := Int.emod_lt_of_pos n (b := 4) (by omega); omega
  have HN : Hid (nmK q = nmOf n) := Lib.hid (by unfold nmOf; rw [hq]; rfl)
  have HP : ∀ u : World, Calls Tryz.prog 6 #[.int .i64 n, .int .i64 4] u fun e w' => e = .returned (.int .i64 q) ∧ u = w' := fun u => by
    have h := hPick n 4 u (by omega) (by omega)
    rw [hq] at h
    refine h.mono fun e w' ⟨h1, h2⟩ => ⟨h1, by first | exact h2 | exact h2.symm⟩
  have HPP := Lib.hid HP
  have hix := ixn q hq4
  clear hq hq4 HP
  go_enter Tryz.func12, Tryz.ntmps12
  go_wp2_with (first
    | (go_at_call 6; (with_reducible refine (HPP.out _).mono ?_); rintro e _ ⟨rfl, rfl⟩))
  go_ret
  rw [HN.out]
  exact ⟨rfl, rfl⟩
theorem hName (n : Int) (w : World) : Calls Tryz.prog 12 #[.int .i64 n] w fun e w' => ∃ s : ByteArray, e = .returned (.string s) ∧ Hid (s.size ≤ 5 ∧ s = nmOf n) ∧ w = w' :=
  (hName2 n w).mono fun e w' ⟨h1, h2⟩ => ⟨_, h1, Lib.hid ⟨nmOf_size n, rfl⟩, h2⟩
end

section
open Go.RowKit Go.Lib
set_option linter.unusedVariables false

theorem Ints.take {w : World} {a : Option Addr} {n c : Nat} {L : List Int} (h : Ints w (.slice a n c) L) (k : Nat) (hk : k ≤ L.length) : Ints w (.slice a k c) (L.take k) := by
  obtain ⟨⟨a', c', he, h1, h2, h3⟩, hw⟩ := h
  simp at he
  obtain ⟨rfl, rfl, rfl⟩ := he
  have hl : (L.take k).length = k := by simp; omega
  refine ⟨⟨a, c, by rw [hl], by omega, h2, ?_⟩, fun n hn => hw n (List.mem_of_mem_take hn)⟩
  rw [hl]
  rcases h3 with h3 | ⟨g, off, rfl, h4⟩
  · exact .inl (by omega)
  · refine .inr ⟨g, off, rfl, fun i hi j hj => ?_⟩
    rw [h4 i (by omega) j hj]
    simp [List.getD, hi]
/-- a ground anew, behind what turned none of the maker's blocks -/
theorem Mk.over {t : TypeId} {W : Gnd} {w w' : World} {b : Nat} {d : Int} {c : Nat} {T : Nat → Prop} (h : Mk t W w b d c) (hu : Upd T w w') (hT : ∀ k, T k → ¬ W.may k ∨ w.heap.size ≤ k) :
    ∃ S : Nat → Prop, (∀ k, S k → k < w.heap.size ∧ W.may k) ∧ Mk t ⟨w', S⟩ w' b d c := by
  obtain ⟨cv, nv, kv, C, Ns, Ks, a, h⟩ := h
  have no : ∀ k, k < w.heap.size → W.may k → ¬ T k := fun k hk hm ht => by
    rcases hT k ht with h1 | h1
    · exact h1 hm
    · omega
  refine ⟨fun k => k = b ∨ cv.ownBlock = some k ∨ nv.ownBlock = some k ∨ kv.ownBlock = some k, ?_, cv, nv, kv, C, Ns, Ks, a,
    h.box.upd hu (no _ h.box.lt h.new), h.code.upd hu (fun k hk => no k (h.code.row.lt k hk).2 (h.fc k hk)), h.ns.upd hu (fun k hk => no k (h.ns.row.lt k hk).2 (h.fn k hk)), h.ks.upd hu (fun k hk => no k (h.ks.row.lt k hk).2 (h.fk k hk)),
    .inl (.inl rfl), fun k hk => .inl (.inr (.inl hk)), fun k hk => .inl (.inr (.inr (.inl hk))), fun k hk => .inl (.inr (.inr (.inr hk))), Upd.refl _ _, h.at0, h.atc, h.len, h.nsl, h.ksl, h.ty⟩
  rintro k (rfl | hk | hk | hk)
  · exact ⟨h.box.lt, h.new⟩
  · exact ⟨(h.code.row.lt k hk).2, h.fc k hk⟩
  · exact ⟨(h.ns.row.lt k hk).2, h.fn k hk⟩
  · exact ⟨(h.ks.row.lt k hk).2, h.fk k hk⟩
theorem MkAt.setAny {t : TypeId} {W : Gnd} {w : World} {b : Nat} {d : Int} {c g cap : Nat} {nv kv : Value} {C : List InsM} {Ns Ks : List Int} {at' : Int} (h : MkAt t W w b d c (.slice (some ⟨g, 0, none⟩) C.length cap) nv kv C Ns Ks at') {q : Nat} (hq : q < C.length) (u : Int) (hu' : wi64 u) :
    MkAt t W (w.setCell ⟨g, q * 3 + 1, none⟩ (.int .i64 u)) b d c (.slice (some ⟨g, 0, none⟩) C.length cap) nv kv (C.set q ⟨(C.getD q default).op, u, (C.getD q default).b⟩) Ns Ks at' := by
  have hu := Upd.setCell (S := fun k => (Value.slice (some ⟨g, 0, none⟩) C.length cap).ownBlock = some k) w (p := ⟨g, q * 3 + 1, none⟩) (.inl (by simp [Value.ownBlock])) (.int .i64 u)
  obtain ⟨n1, n2, n3⟩ := h.ne
  have hr := h.code.setA q hq u hu'
  exact ⟨h.box.upd hu n1, hr, h.ns.upd hu (fun k hk hk' => row_ne h.ns.row h.code.row (by decide) k hk hk'), h.ks.upd hu (fun k hk hk' => row_ne h.ks.row h.code.row (by decide) k hk hk'), h.new, h.fc, h.fn, h.fk,
    upd_of_new h.below hu (fun k hk => h.fc k hk), h.at0, h.atc, by rw [List.length_set]; exact h.len, h.nsl, h.ksl, h.ty⟩
/-- what is read of the maker's code, and what may be set there -/
theorem Mk.codes {t : TypeId} {W : Gnd} {w : World} {b : Nat} {d : Int} {c : Nat} (h : Mk t W w b d c) : ∃ ca n cc, w.cell? ⟨b, 0, none⟩ = some (.slice ca n cc) ∧ n ≤ c ∧
    ∀ q, q < n → ∃ g o u, ca = some ⟨g, 0, none⟩ ∧ w.cell? ⟨g, q * 3, none⟩ = some (.int .i64 o) ∧ w.cell? ⟨g, q * 3 + 1, none⟩ = some (.int .i64 u) ∧ w.frozen? ⟨g, q * 3 + 1, none⟩ = false ∧ g < w.heap.size ∧ wi64 o ∧ wi64 u ∧
      ∀ y, wi64 y → Mk t W (w.setCell ⟨g, q * 3 + 1, none⟩ (.int .i64 y)) b d c := by
  obtain ⟨cv, nv, kv, C, Ns, Ks, a, h⟩ := h
  obtain ⟨ca, cc, rfl⟩ := ownsRow_slice h.code.row
  refine ⟨ca, C.length, cc, h.box.c0, h.len, fun q hq => ?_⟩
  obtain ⟨g, off, rfl, c0, c1, c2, w1, w2, w3⟩ := h.code.inss.at hq
  have hr := h.code.row
  obtain ⟨hl, hh⟩ := hr
  rcases hh with ⟨h0, _⟩ | ⟨g', cap, cur, he, hb, hg, hc, hm, hcs, ht⟩
  · simp at h0
  · simp at he
    obtain ⟨⟨rfl, rfl⟩, rfl⟩ := he
    rw [Nat.zero_add] at c0 c1
    exact ⟨g, _, _, rfl, c0, c1, by simp [World.frozen?, hg], World.block_lt_of_cell? w _ c1, w1, w2, fun y hy => ⟨_, _, _, _, _, _, _, h.setAny hq y hy⟩⟩
/-- the numbers' row grown, and stored; it lies apart from the kinds -/
theorem MkAt.growN {t : TypeId} {W : Gnd} {w w' : World} {b : Nat} {d : Int} {c : Nat} {cv nv kv v' : Value} {C : List InsM} {Ns Ks Ns' : List Int} {at' : Int} (h : MkAt t W w b d c cv nv kv C Ns Ks at') (ha : ∀ k, kv.ownBlock = some k → nv.ownBlock ≠ some k) (hu : Upd (fun k => nv.ownBlock = some k) w w') (hr : WRow w' v' Ns') (hf : Fresh w nv v') (hl : Ns'.length ≤ 140737488355328) :
    Is5 t w' b cv nv (.int .i64 at') kv (.int .i64 d) ∧ MkAt t W (w'.setCell ⟨b, 1, none⟩ v') b d c cv v' kv C Ns' Ks at' ∧ ∀ k, kv.ownBlock = some k → v'.ownBlock ≠ some k := by
  obtain ⟨n1, n2, n3⟩ := h.ne
  have hb := h.box.upd hu n2
  have hc := h.code.upd hu (fun k hk hk' => row_ne h.code.row h.ns.row (by decide) k hk hk')
  have hk := h.ks.upd hu (fun k hk hk' => ha k hk hk')
  have hu2 := box_upd w' b 1 v'
  have n4 := row_blk hr.row hb (Ne.symm h.ty.1)
  refine ⟨hb, ⟨hb.set1 _, hc.upd hu2 (fun k hk e => n1 (by rw [hk, e])), hr.upd hu2 (fun k hk e => n4 (by rw [hk, e])), hk.upd hu2 (fun k hk e => n3 (by rw [hk, e])), h.new, h.fc, fun k hk => ?_, h.fk, ?_, h.at0, h.atc, h.len, hl, h.ksl, h.ty⟩, fun k hk e => ?_⟩
  · rcases hf k hk with h1 | h1
    · exact h.fn k h1
    · exact .inr (Nat.le_trans h.below.size h1)
  · exact upd_of_new (upd_of_new h.below hu (fun k hk => h.fn k hk)) hu2 (fun k hk => hk ▸ h.new)
  · rcases hf k e with h1 | h1
    · exact ha k hk h1
    · have := (h.ks.row.lt k hk).2
      omega
end
end Go.Proofs.YtmikibcgphkcfaaGreatDoor

/- ImageReads: the reference's reader beside what was turned; its readList. -/
import Derived.Test.YtmbdfmgidnjgeaaGreatDoorRyb
import Derived.Test.YtmbdfmgidnjgeaaGreatDoorRref
import Derived.Test.YtmbdfmgidnjgeaaGreatDoorCq
namespace Go.Proofs.YtmbdfmgidnjgeaaGreatDoor
open Go.RowKit Go.Lib
set_option linter.unusedVariables false

abbrev RR : TypeId := 65
theorem fU8 {W w : World} {b : Nat} {V : Value} {lk : Bool} {ys : List Int} (h : RdW RR W w b V lk ys) :
    Calls Tryz.prog 29 #[.pointer (some ⟨b, 0, none⟩)] w fun e w' => e = .returned (.int .i64 (beN (takeP 1 lk ys).1)) ∧ RdW RR W w' b V (takeP 1 lk ys).2.1 (takeP 1 lk ys).2.2 ∧ Upd (fun k => k = b) w w' ∧ 0 ≤ beN (takeP 1 lk ys).1 ∧ beN (takeP 1 lk ys).1 ≤ 255 := by
  obtain ⟨h0, v, h1, h2, h3⟩ := h
  have hb := taken_bd h1.vw.1 1 lk (by omega)
  refine (qU8 w b v lk ys h1).mono fun e w' ⟨he, v1, k1, k2, k3⟩ => ⟨he, RdW.call h0 h2 h3 k1 k2 k3, k2, hb.1, ?_⟩
  have := hb.2
  simp at this
  omega
theorem fShort {W w : World} {b : Nat} {V : Value} {lk : Bool} {ys : List Int} (h : RdW RR W w b V lk ys) :
    Calls Tryz.prog 27 #[.pointer (some ⟨b, 0, none⟩)] w fun e w' => ∃ r, e = .returned r ∧ RdW RR W w' b V (shortP lk ys).2.1 (shortP lk ys).2.2 ∧ Upd (fun k => k = b) w w' ∧ Vw w' r (shortP lk ys).1 ∧ (shortP lk ys).1.length ≤ 255 := by
  obtain ⟨h0, v, h1, h2, h3⟩ := h
  exact (qShort w b v lk ys h1).mono fun e w' ⟨r, he, v1, k1, k2, k3, k4, k5⟩ => ⟨r, he, RdW.call h0 h2 h3 k1 k3 k4, k3, vw_of_row k2 (takeP_bd (fun y hy => h1.vw.1 y (takeP_sub _ _ _ y hy)) _ _), shortP_len h1.vw.1⟩
theorem fRaw5 {W w : World} {b : Nat} {V : Value} {lk : Bool} {ys : List Int} (h : RdW RR W w b V lk ys) :
    Calls Tryz.prog 26 #[.pointer (some ⟨b, 0, none⟩), .int .i64 5] w fun e w' => ∃ r, e = .returned r ∧ RdW RR W w' b V (takeP 5 lk ys).2.1 (takeP 5 lk ys).2.2 ∧ Upd (fun k => k = b) w w' ∧ Vw w' r (takeP 5 lk ys).1 := by
  obtain ⟨h0, v, h1, h2, h3⟩ := h
  exact (qRaw w b v 5 lk ys h1 (by omega) (by omega)).mono fun e w' ⟨r, he, v1, k1, k2, k3, k4, k5⟩ => ⟨r, he, RdW.call h0 h2 h3 k1 k3 k4, k3, vw_of_row k2 (takeP_bd h1.vw.1 _ _)⟩
theorem fRead {W w : World} {b : Nat} {V : Value} {lk : Bool} {ys : List Int} (h : RdW RR W w b V lk ys) :
    Calls Tryz.prog 30 #[.pointer (some ⟨b, 0, none⟩)] w fun e w' =>
      (errI lk ys ≠ 0 ∧ e = .returned (.tuple #[ins 0 0 0, .int .i64 (errI lk ys)]) ∧ Upd (fun k => k = b) w w') ∨
      (errI lk ys = 0 ∧ e = .returned (.tuple #[ins (opI lk ys) (restI lk ys).1 (restI lk ys).2.1, .int .i64 0]) ∧ RdW RR W w' b V false (restI lk ys).2.2.2 ∧ Upd (fun k => k = b) w w') := by
  obtain ⟨h0, v, h1, h2, h3⟩ := h
  refine (rRead w b v lk ys h1).mono fun e w' k => ?_
  rcases k with k | ⟨k1, k2, v', k3, k4, k5⟩
  · exact .inl k
  · exact .inr ⟨k1, k2, RdW.call h0 h2 h3 k3 k4 k5, k4⟩
theorem RdW.st {t : TypeId} {W w : World} {b : Nat} {V : Value} {lk : Bool} {ys : List Int} (h : RdW t W w b V lk ys) : St (lk, ys) := by
  obtain ⟨h0, v, h1, h2, h3⟩ := h
  exact ⟨h1.lacks, h1.vw.1⟩
theorem RdW.cell1 {t : TypeId} {W w : World} {b : Nat} {V : Value} {lk : Bool} {ys : List Int} (h : RdW t W w b V lk ys) : w.cell? ⟨b, 1, none⟩ = some (.bool lk) := by
  obtain ⟨h0, v, h1, h2, h3⟩ := h
  exact h1.cell1
theorem RdW.cell0 {t : TypeId} {W w : World} {b : Nat} {V : Value} {lk : Bool} {ys : List Int} (h : RdW t W w b V lk ys) : ∃ a c, w.cell? ⟨b, 0, none⟩ = some (.slice a ys.length c) := by
  obtain ⟨h0, v, h1, h2, h3⟩ := h
  obtain ⟨a, c, rfl, -, -⟩ := h1.vw.slice
  exact ⟨a, c, h1.cell0⟩
/-- some were taken already -/
def preL {α β : Type} (L : List α) (r : List α × β) : List α × β := (L ++ r.1, r.2)
theorem preL_nil {α β : Type} (r : List α × β) : preL [] r = r := rfl
theorem listP_step {n : Nat} {ys : List Int} (L : List Int) : preL L (listP (n + 1) false ys) = preL (L ++ [beN (takeP 1 false ys).1]) (listP n (takeP 1 false ys).2.1 (takeP 1 false ys).2.2) := by
  unfold preL
  rw [listP, if_neg (by simp)]
  simp
theorem listP_stop {n : Nat} {lk : Bool} {ys : List Int} (L : List Int) (h : n = 0 ∨ lk = true) : preL L (listP n lk ys) = (L, lk, ys) := by
  rcases h with rfl | rfl
  · unfold preL; rw [listP]; simp
  · unfold preL; rw [listP_lacks]; simp
/-- numbers in new memory, from B on -/
structure NF (B : Nat) (w : World) (v : Value) (L : List Int) : Prop where
  row : NRow w v L
  new : From B v
theorem NF.stay {B : Nat} {w w' : World} {v : Value} {L : List Int} {T : Nat → Prop} (h : NF B w v L) (hu : Upd T w w') (hT : ∀ k, T k → k < B) : NF B w' v L :=
  ⟨h.row.upd hu (fun k hk hTk => by have := h.new k hk; have := hT k hTk; omega), h.new⟩
theorem NF.apart {B : Nat} {w w' : World} {v v' : Value} {L : List Int} {base : Nat} {e : TypeId} {sz n : Nat} {xs : List Value} (h : NF B w v L) (hr : w.ownsRow base e sz v' n xs) (he : 3 ≠ e) (hu : Upd (fun k => v'.ownBlock = some k) w w') : NF B w' v L :=
  ⟨h.row.upd hu (fun k hk => row_ne h.row.1 hr he k hk), h.new⟩

set_option maxRecDepth 100000 in
set_option maxHeartbeats 2000000 in
theorem rReadList (W w : World) (b : Nat) (V : Value) (lk : Bool) (ys : List Int) (h : RdW RR W w b V lk ys) :
    Calls Tryz.prog 28 #[.pointer (some ⟨b, 0, none⟩)] w fun e w' => ∃ r, e = .returned r ∧ RdW RR W w' b V (rListP lk ys).2.1 (rListP lk ys).2.2 ∧ Upd (fun k => k = b) w w' ∧ NF w.heap.size w' r (rListP lk ys).1 ∧ (rListP lk ys).1.length ≤ 255 := by
  obtain ⟨i0, hi, hz0, hz1, hz2⟩ := info_parts infoInt
  have HH := Lib.hid h
  obtain ⟨A, hA⟩ : ∃ A, A = takeP 1 lk ys := ⟨_, rfl⟩
  have HEA := Lib.hid hA
  have HP := Lib.hid (show rListP lk ys = listP (beN A.1).toNat A.2.1 A.2.2 by rw [hA]; rfl)
  clear h hA
  go_enter Tryz.func28, Tryz.ntmps28
  go_wp2_with fail
  refine (fU8 HH.out).mono ?_
  rw [← HEA.out]
  rintro e w1 ⟨rfl, k1, k2, hb1, hb2⟩
  obtain ⟨N, hN⟩ : ∃ N : Nat, beN A.1 = N := ⟨(beN A.1).toNat, by omega⟩
  rw [hN] at hb2 ⊢
  have HP2 : Hid (rListP lk ys = preL [] (listP N A.2.1 A.2.2)) := Lib.hid (by rw [preL_nil, HP.out, hN]; rfl)
  have K1 := Lib.hid k1
  have U1 := Lib.hid k2
  have HNL := Lib.hid (show N ≤ 255 by omega)
  have R1 : Hid (NF w.heap.size w1 (.slice none 0 0) []) := Lib.hid ⟨⟨World.ownsRow_nil _ _ _ _, by simp⟩, by simp [From, Value.ownBlock]⟩
  have HL0 : Hid (([] : List Int).length = 0) := Lib.hid rfl
  clear k1 k2 hb1 hb2 hN HP
  go_wp2_with fail
  go_loopw [4, 3] (fun n l wr => ∃ (k m : Nat) (lk' : Bool) (ys' : List Int) (L : List Int) (na : Option Addr) (nc : Nat), k + m ≤ N ∧ N ≤ k + m ∧ n = .int .i64 m ∧ l = .slice na k nc ∧ Hid (L.length = k) ∧ Hid (RdW RR W wr b V lk' ys') ∧ Hid (Upd (fun k => k = b) w wr) ∧ Hid (NF w.heap.size wr (.slice na k nc) L) ∧ Hid (rListP lk ys = preL L (listP m lk' ys'))) (fun n _ _ => (intOf n).toNat)
  case atStart => exact ⟨0, N, _, _, [], none, 0, by omega, by omega, rfl, rfl, HL0, K1, U1, R1, HP2⟩
  case round =>
    obtain ⟨k, m, lk', ys', L, na, nc, hm1, hm2, rfl, rfl, HLL, K, U, R, HPP⟩ := hrel
    have c1 := K.out.cell1
    have hNL := HNL.out
    by_cases hgo : 0 < m ∧ lk' = false
    · obtain ⟨hm0, rfl⟩ := hgo
      obtain ⟨m', rfl⟩ : ∃ m', m = m' + 1 := ⟨m - 1, by omega⟩
      go_wp2_with fail
      refine (fU8 K.out).mono ?_
      obtain ⟨T, hT⟩ : ∃ T, T = takeP 1 false ys' := ⟨_, rfl⟩
      have HT := Lib.hid hT
      rw [← hT]
      rintro e w2 ⟨rfl, k1, k2, hb1, hb2⟩
      obtain ⟨y, hy⟩ : ∃ y, y = beN T.1 := ⟨_, rfl⟩
      have HY := Lib.hid hy
      rw [← hy] at hb1 hb2 ⊢
      have HPS := Lib.hid (listP_step (n := m') (ys := ys') L)
      rw [← hT, ← hy] at HPS
      have K2 := Lib.hid k1
      have U2 := Lib.hid (U.out.trans k2 (fun _ h _ => h))
      have hbW := K.out.lt
      have hWw := HH.out.size
      have R2 := Lib.hid (R.out.stay k2 (fun j hj => by omega))
      have hrow := R2.out.row.1
      rw [HLL.out] at hrow
      have HROW := Lib.hid hrow
      have HB12 := Lib.hid (And.intro hb1 hb2)
      clear hT hy k1 k2 hrow c1 hb1 hb2
      go_wp2_with (at_builtin; go_loud (refine wpList_append_mine _ rfl _ _ 24 rfl 0 3 i0 (.int .i64 0) 1 8 Tryz.underlying24 hi hz0 hz1 hz2 rfl (by decide) (.slice na k nc) k (iv L) rfl (HROW.out.alloc _) 1 [.int .i64 y] (srcN w2 3 #[.int .i64 y] 1 (by simp [Value.oneCell']) 1 _ rfl) (by unfold maxLen; omega) (by omega) (Nat.zero_le _) ?_))
      intro v' w3 ho hg hf
      obtain ⟨va, vc, rfl⟩ := ownsRow_slice ho
      have hu3 := Upd.row (Upd.alloc _ w2 _) hg
      have hsz := U2.out.size
      have R3 : Hid (NF w.heap.size w3 (.slice va (k + 1) vc) (L ++ [y])) := Lib.hid ⟨⟨by
        rw [List.length_append, HLL.out]
        simpa [iv] using ho, fun z hz => by
        rcases List.mem_append.1 hz with h | h
        · exact R.out.row.2 z h
        · simp at h; rw [h]; exact HB12.out⟩, fun j hj => by
        rcases hf j hj with h | h
        · exact R.out.new j h
        · simp at h; omega⟩
      have K3 := Lib.hid (K2.out.step hu3 (fun j hj => by have := R.out.new j hj; omega))
      have U3 := Lib.hid (U2.out.trans hu3 (fun j hj hlt => by have := R.out.new j hj; omega))
      have HL3 : Hid ((L ++ [y]).length = k + 1) := Lib.hid (by rw [List.length_append, HLL.out]; rfl)
      have HP3 : Hid (rListP lk ys = preL (L ++ [y]) (listP m' T.2.1 T.2.2)) := Lib.hid (by rw [HPP.out, HPS.out])
      clear ho hg hf hu3
      go_wp2_with fail
      go_roundw
      case rel => exact ⟨k + 1, m', _, _, _, va, vc, by omega, by omega, by go_num, rfl, HL3, K3, U3, R3, HP3⟩
      case measure => simp [intOf]
    · have hor : (m = 0) ∨ (0 < m ∧ lk' = true) := by
        by_cases h0 : m = 0
        · exact .inl h0
        · refine .inr ⟨by omega, ?_⟩
          cases lk' with
          | true => rfl
          | false => exact absurd ⟨by omega, rfl⟩ hgo
      clear hgo
      have HF : Hid (rListP lk ys = (L, lk', ys')) := Lib.hid (by rw [HPP.out]; exact listP_stop L (hor.imp id (fun h => h.2)))
      rcases hor with rfl | ⟨hm0, rfl⟩
      all_goals
        go_wp2_with fail
        go_ret
        refine ⟨_, rfl, ?_, U.out, ?_, ?_⟩
        · rw [HF.out]; exact K.out
        · rw [HF.out]; exact R.out
        · rw [HF.out]; show L.length ≤ 255; rw [HLL.out]; omega
end Go.Proofs.YtmbdfmgidnjgeaaGreatDoor

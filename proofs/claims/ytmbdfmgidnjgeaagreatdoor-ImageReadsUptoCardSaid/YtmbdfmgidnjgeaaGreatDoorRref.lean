/- What the reference's Reader does to the world: a contract for each call. -/
import Derived.Test.YtmbdfmgidnjgeaaGreatDoorRd
namespace Go.Proofs.YtmbdfmgidnjgeaaGreatDoor
open Go.RowKit
set_option linter.unusedVariables false

theorem got_of {t : TypeId} {w w1 w2 : World} {b : Nat} {v x r : Value} {n : Int} {lk : Bool} {ys ts : List Int} (hN : New w r ts w1) (ht : Took t w1 b v n lk ys x w2) (hP : (takeP n lk ys).1 = ts) (hlt : b < w.heap.size) : Got t w b v (takeP n lk ys) r w2 := by
  obtain ⟨v', h1, h2, h3, h4, h5⟩ := ht
  subst hP
  exact ⟨v', h1, ownsRow_upd hN.1 h3 (fun k hk e => by have := hN.2.2 k hk; omega), (hN.2.1.mono (fun _ h _ => h.elim)).trans h3 (fun _ h _ => h), h4, hN.2.2⟩

set_option maxHeartbeats 1000000 in
set_option maxRecDepth 100000 in
theorem qRaw (w : World) (b : Nat) (v : Value) (n : Int) (lk : Bool) (ys : List Int) (h : Rd 65 w b v lk ys) (hlo : -9223372036854775808 ≤ n) (hhi : n ≤ 9223372036854775807) :
    Calls Tryz.prog 26 #[.pointer (some ⟨b, 0, none⟩), .int .i64 n] w fun e w' => ∃ r, e = .returned r ∧ Got 65 w b v (takeP n lk ys) r w' := by
  obtain ⟨i0, hi, hz0, hz1, hz2⟩ := info_parts info5
  obtain ⟨a, c, rfl, h1, h2⟩ := h.vw.slice
  have hc0 := h.cell0
  have hc1 := h.cell1
  have hf0 := h.free 0
  have hf1 := h.free 1
  have H := Lib.hid h
  have HO := Lib.hid (World.ownsRow_lit (base := 0) (e := 5) (size := 1) w #[] 0 (Nat.zero_le _) (by unfold maxLen; omega) rfl)
  unfold maxLen at h2
  have hsm := h.small
  have hlt := h.lt
  have hblk := h.blk
  have lacked : Got 65 w b (.slice a ys.length c) ([], true, []) (.slice none 0 0) ((w.setCell ⟨b, 1, none⟩ (.bool true)).setCell ⟨b, 0, none⟩ (.slice none 0 0)) := by
    refine ⟨.slice none 0 0, ⟨?_, Vw.nil _, by simp [Value.ownBlock], by simp, by simp, by simp [Value.ownBlock]⟩, World.ownsRow_nil _ _ _ _, ?_, by simp [Value.ownBlock], by simp [Value.ownBlock]⟩
    · simp [World.setCell, Array.getElem?_modify, hblk]
    · exact (Upd.setCell (S := fun k => k = b) w (.inl rfl) _).trans (Upd.setCell (S := fun k => k = b) _ (.inl rfl) _) (fun _ h _ => h)
  have HL := Lib.hid lacked
  clear lacked hblk h
  by_cases hlk : lk = true
  · have HP := Lib.hid (show takeP n lk ys = ([], true, []) by
      have := H.out.lacks hlk
      subst this
      unfold takeP
      split
      · rfl
      · simp [hlk])
    subst hlk
    go_enter Tryz.func26, Tryz.ntmps26
    go_wp2
    go_ret
    exact ⟨_, rfl, by rw [HP.out]; exact HL.out⟩
  · obtain rfl : lk = false := by simpa using hlk
    clear hlk
    by_cases hneg : n < 0
    · have HP := Lib.hid (show takeP n false ys = ([], true, []) by unfold takeP; rw [if_pos (.inl hneg)])
      go_enter Tryz.func26, Tryz.ntmps26
      go_wp2
      go_ret
      exact ⟨_, rfl, by rw [HP.out]; exact HL.out⟩
    · by_cases hbig : (ys.length : Int) < n
      · have HP := Lib.hid (show takeP n false ys = ([], true, []) by unfold takeP; rw [if_pos (.inr hbig)])
        go_enter Tryz.func26, Tryz.ntmps26
        go_wp2
        go_ret
        exact ⟨_, rfl, by rw [HP.out]; exact HL.out⟩
      · obtain ⟨k, rfl⟩ := Int.eq_ofNat_of_zero_le (show 0 ≤ n by omega)
        have hkl : k ≤ ys.length := by omega
        have hP : takeP (k : Int) false ys = (ys.take k, false, ys.drop k) := by unfold takeP; rw [if_neg (by omega)]; rfl
        have HP := Lib.hid hP
        have HS := Lib.hid (((H.out.vw.take rfl k hkl).src).upd (Upd.alloc (fun _ => False) w (.cells #[] 5)) (fun _ _ h => h))
        have HK := Lib.hid (show (ys.take k).length = k by simp; omega)
        rw [HK.out] at HS
        clear hP
        go_enter Tryz.func26, Tryz.ntmps26
        go_wp2_with (at_builtin; go_loud (refine wpList_append_mine _ rfl _ _ 23 rfl 0 5 i0 (.int .u8 0) 1 1 Tryz.underlying23 hi hz0 hz1 hz2 rfl (by decide) (.slice (some ⟨w.heap.size, 0, none⟩) 0 0) 0 [] rfl HO.out k (bv (ys.take k)) HS.out (by unfold maxLen; omega) (by omega) (Nat.zero_le _) ?_))
        intro v' w1 ho hg hf
        have hN : New w v' (ys.take k) w1 := new_of (by rw [HK.out]; exact ho) hg hf
        have hr1 := H.out.upd hN.2.1 (fun _ _ h => h)
        have hc01 := hr1.cell0
        have hf01 := hr1.free 0
        have HN := Lib.hid hN
        have HR1 := Lib.hid hr1
        obtain ⟨a1, c1, rfl⟩ := ownsRow_slice ho
        clear ho hg hf hN hr1 hc0 hc1 hf0 hf1
        go_wp2
        all_goals go_ret
        · obtain rfl : c = k := by assumption
          exact ⟨_, rfl, got_of HN.out (took_ok HR1.out hkl (by omega) (.inl ⟨rfl, rfl⟩)) (by rw [HP.out]) hlt⟩
        · exact ⟨_, rfl, got_of HN.out (took_ok HR1.out hkl rfl (.inr ⟨by assumption, rfl⟩)) (by rw [HP.out]) hlt⟩

set_option maxHeartbeats 1000000 in
theorem qU (w : World) (b : Nat) (v : Value) (n : Int) (lk : Bool) (ys : List Int) (h : Rd 65 w b v lk ys) (hlo : 1 ≤ n) (hhi : n ≤ 4) :
    Calls Tryz.prog 61 #[.pointer (some ⟨b, 0, none⟩), .int .i64 n] w fun e w' => e = .returned (.int .i64 (beN (takeP n lk ys).1)) ∧ ∃ v', Rd 65 w' b v' (takeP n lk ys).2.1 (takeP n lk ys).2.2 ∧ Upd (fun k => k = b) w w' ∧ (∀ k, v'.ownBlock = some k → v.ownBlock = some k) := by
  have hbb := takeP_bd h.vw.1 n lk
  go_enter Tryz.func61, Tryz.ntmps61
  go_wp2_with fail
  refine (qRaw w b v n lk ys h (by omega) (by omega)).mono ?_
  rintro e w1 ⟨r, rfl, v', h1, h2', h3, h4, h5⟩
  have h2 := vw_of_row h2' hbb
  obtain ⟨a, c, rfl, hl1, hl2⟩ := h2.slice
  have HE := Lib.hid (show ∃ v', Rd 65 w1 b v' (takeP n lk ys).2.1 (takeP n lk ys).2.2 ∧ Upd (fun k => k = b) w w1 ∧ (∀ k, v'.ownBlock = some k → v.ownBlock = some k) from ⟨v', h1, h3, h4⟩)
  have hlen : (takeP n lk ys).1.length ≤ 4 := by
    unfold takeP
    split
    · simp
    · simp; omega
  clear h1 h2' h3 h4 h5 hbb
  generalize hts : (takeP n lk ys).1 = ts at *
  have HT := Lib.hid hts
  clear hts
  go_wp2_with fail
  go_loop [6, 7] (fun n i => ∃ k : Nat, k ≤ ts.length ∧ i = .int .i64 k ∧ n = .int .i64 (beN (ts.take k))) (fun _ i => ts.length - (intOf i).toNat)
  case atStart => exact ⟨0, Nat.zero_le _, rfl, rfl⟩
  case round =>
    obtain ⟨k, hk, rfl, rfl⟩ := hrel
    by_cases hlt : k < ts.length
    · rcases h2.2 with ⟨_, hys⟩ | ⟨g, off, c1, he, _, _, h3⟩
      · subst hys; simp at hlt
      · simp at he
        obtain ⟨rfl, rfl⟩ := he
        have hc := h3 k hlt
        have hbd := beN_bd (ts.take k) (fun y hy => h2.1 y (List.mem_of_mem_take hy))
        have hp := pow_le3 (k := (ts.take k).length) (by simp; omega)
        have hb1 : 0 ≤ beN (ts.take k) := hbd.1
        have hb2 : beN (ts.take k) < 16777216 := by omega
        have hr : 0 ≤ ts.getD k 0 ∧ ts.getD k 0 ≤ 255 := by
          have : ts.getD k 0 ∈ ts := by simp [List.getD, hlt]
          exact h2.1 _ this
        obtain ⟨hr1, hr2⟩ := hr
        have HS := Lib.hid (beN_take ts k hlt)
        generalize hq : ts.getD k 0 = q at *
        generalize hm : beN (ts.take k) = m at *
        have HQ := Lib.hid hq
        have HM := Lib.hid hm
        clear hq hm h3 hbd hp
        unfold maxLen at hl2
        go_wp2
        go_round
        case rel => exact ⟨k + 1, by omega, by go_num, by rw [HS.out]⟩
        case measure => simp [intOf]; omega
    · have HK := Lib.hid (show ts.take k = ts from List.take_of_length_le (by omega))
      go_wp2
      go_ret
      exact ⟨by rw [HT.out, HK.out]; rfl, HE.out⟩

theorem qU8 (w : World) (b : Nat) (v : Value) (lk : Bool) (ys : List Int) (h : Rd 65 w b v lk ys) :
    Calls Tryz.prog 29 #[.pointer (some ⟨b, 0, none⟩)] w fun e w' => e = .returned (.int .i64 (beN (takeP 1 lk ys).1)) ∧ ∃ v', Rd 65 w' b v' (takeP 1 lk ys).2.1 (takeP 1 lk ys).2.2 ∧ Upd (fun k => k = b) w w' ∧ (∀ k, v'.ownBlock = some k → v.ownBlock = some k) := by
  have HB := Lib.hid (show 0 ≤ beN (takeP 1 lk ys).1 ∧ beN (takeP 1 lk ys).1 < 4294967296 from ⟨(taken_bd h.vw.1 1 lk (by omega)).1, Int.lt_of_lt_of_le (taken_bd h.vw.1 1 lk (by omega)).2 (by decide)⟩)
  go_enter Tryz.func29, Tryz.ntmps29
  go_wp2_with fail
  refine (qU w b v 1 lk ys h (by omega) (by omega)).mono ?_
  rintro e w1 ⟨rfl, hE⟩
  have HE := Lib.hid hE
  clear hE
  obtain ⟨hb1, hb2⟩ := HB.out
  generalize hm : beN (takeP 1 lk ys).1 = m at *
  have HM := Lib.hid hm
  clear hm
  go_wp2
  go_ret
  exact ⟨by rw [HM.out]; rfl, HE.out⟩

theorem qU16 (w : World) (b : Nat) (v : Value) (lk : Bool) (ys : List Int) (h : Rd 65 w b v lk ys) :
    Calls Tryz.prog 64 #[.pointer (some ⟨b, 0, none⟩)] w fun e w' => e = .returned (.int .i64 (beN (takeP 2 lk ys).1)) ∧ ∃ v', Rd 65 w' b v' (takeP 2 lk ys).2.1 (takeP 2 lk ys).2.2 ∧ Upd (fun k => k = b) w w' ∧ (∀ k, v'.ownBlock = some k → v.ownBlock = some k) := by
  have HB := Lib.hid (show 0 ≤ beN (takeP 2 lk ys).1 ∧ beN (takeP 2 lk ys).1 < 4294967296 from ⟨(taken_bd h.vw.1 2 lk (by omega)).1, Int.lt_of_lt_of_le (taken_bd h.vw.1 2 lk (by omega)).2 (by decide)⟩)
  go_enter Tryz.func64, Tryz.ntmps64
  go_wp2_with fail
  refine (qU w b v 2 lk ys h (by omega) (by omega)).mono ?_
  rintro e w1 ⟨rfl, hE⟩
  have HE := Lib.hid hE
  clear hE
  obtain ⟨hb1, hb2⟩ := HB.out
  generalize hm : beN (takeP 2 lk ys).1 = m at *
  have HM := Lib.hid hm
  clear hm
  go_wp2
  go_ret
  exact ⟨by rw [HM.out]; rfl, HE.out⟩

theorem qS32 (w : World) (b : Nat) (v : Value) (lk : Bool) (ys : List Int) (h : Rd 65 w b v lk ys) :
    Calls Tryz.prog 63 #[.pointer (some ⟨b, 0, none⟩)] w fun e w' => e = .returned (.int .i64 (sgn (beN (takeP 4 lk ys).1))) ∧ ∃ v', Rd 65 w' b v' (takeP 4 lk ys).2.1 (takeP 4 lk ys).2.2 ∧ Upd (fun k => k = b) w w' ∧ (∀ k, v'.ownBlock = some k → v.ownBlock = some k) := by
  have HB := Lib.hid (show 0 ≤ beN (takeP 4 lk ys).1 ∧ beN (takeP 4 lk ys).1 < 4294967296 from ⟨(taken_bd h.vw.1 4 lk (by omega)).1, Int.lt_of_lt_of_le (taken_bd h.vw.1 4 lk (by omega)).2 (by decide)⟩)
  go_enter Tryz.func63, Tryz.ntmps63
  go_wp2_with fail
  refine (qU w b v 4 lk ys h (by omega) (by omega)).mono ?_
  rintro e w1 ⟨rfl, hE⟩
  have HE := Lib.hid hE
  clear hE
  obtain ⟨hb1, hb2⟩ := HB.out
  generalize hm : beN (takeP 4 lk ys).1 = m at *
  have HM := Lib.hid hm
  clear hm
  go_wp2
  go_ret
  exact ⟨by rw [HM.out]; exact ret_int (by unfold sgn wrap64 wrap32; split <;> omega), HE.out⟩

theorem qShort (w : World) (b : Nat) (v : Value) (lk : Bool) (ys : List Int) (h : Rd 65 w b v lk ys) :
    Calls Tryz.prog 27 #[.pointer (some ⟨b, 0, none⟩)] w fun e w' => ∃ r, e = .returned r ∧ Got 65 w b v (shortP lk ys) r w' := by
  have HB := Lib.hid (show 0 ≤ beN (takeP 1 lk ys).1 ∧ beN (takeP 1 lk ys).1 < 4294967296 from ⟨(taken_bd h.vw.1 1 lk (by omega)).1, Int.lt_of_lt_of_le (taken_bd h.vw.1 1 lk (by omega)).2 (by decide)⟩)
  go_enter Tryz.func27, Tryz.ntmps27
  go_wp2_with fail
  refine (qU8 w b v lk ys h).mono ?_
  rintro e w1 ⟨rfl, v1, h1, h2, h3⟩
  have H1 := Lib.hid h1
  have H2 := Lib.hid h2
  have H3 := Lib.hid h3
  clear h1 h2 h3
  go_wp2_with fail
  refine (qRaw w1 b v1 _ _ _ H1.out (by have := HB.out; omega) (by have := HB.out; omega)).mono ?_
  rintro e w2 ⟨r, rfl, v2, k1, k2, k3, k4, k5⟩
  have HE := Lib.hid (show Got 65 w b v (shortP lk ys) r w2 from ⟨v2, k1, k2, H2.out.trans k3 (fun _ h _ => h), fun k hk => H3.out k (k4 k hk), fun k hk => Nat.le_trans H2.out.size (k5 k hk)⟩)
  clear k1 k2 k3 k4 k5
  go_wp2
  go_ret
  exact ⟨_, rfl, HE.out⟩
end Go.Proofs.YtmbdfmgidnjgeaaGreatDoor

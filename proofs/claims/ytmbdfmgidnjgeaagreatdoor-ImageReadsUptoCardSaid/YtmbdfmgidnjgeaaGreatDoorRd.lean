/- What octet's Reader does to the world: a contract for each call. -/
import Derived.Test.YtmbdfmgidnjgeaaGreatDoorSl
namespace Go.Proofs.YtmbdfmgidnjgeaaGreatDoor
open Go.RowKit
set_option linter.unusedVariables false

/-- A Reader of octet: two cells: the slice of what is left, and whether it lacks. -/
structure Rd (t : TypeId) (w : World) (b : Nat) (v : Value) (lk : Bool) (ys : List Int) : Prop where
  blk : w.heap[b]? = some (.cells #[v, .bool lk] t (0, 0))
  vw : Vw w v ys
  ne : v.ownBlock ≠ some b
  small : ys.length ≤ 140737488355327
  lacks : lk = true → ys = []
  inn : ∀ k, v.ownBlock = some k → k < w.heap.size

theorem Rd.cell0 {t : TypeId} {w : World} {b : Nat} {v : Value} {lk : Bool} {ys : List Int} (h : Rd t w b v lk ys) : w.cell? ⟨b, 0, none⟩ = some v := by have := h.blk; simp [World.cell?, this]
theorem Rd.cell1 {t : TypeId} {w : World} {b : Nat} {v : Value} {lk : Bool} {ys : List Int} (h : Rd t w b v lk ys) : w.cell? ⟨b, 1, none⟩ = some (.bool lk) := by have := h.blk; simp [World.cell?, this]
theorem Rd.free {t : TypeId} {w : World} {b : Nat} {v : Value} {lk : Bool} {ys : List Int} (h : Rd t w b v lk ys) (o : Nat) : w.frozen? ⟨b, o, none⟩ = false := by have := h.blk; simp [World.frozen?, this]
theorem Rd.lt {t : TypeId} {w : World} {b : Nat} {v : Value} {lk : Bool} {ys : List Int} (h : Rd t w b v lk ys) : b < w.heap.size := (Array.getElem?_eq_some_iff.1 h.blk).1
theorem Rd.upd {t : TypeId} {w w' : World} {b : Nat} {v : Value} {lk : Bool} {ys : List Int} {S : Nat → Prop} (h : Rd t w b v lk ys) (hu : Upd S w w') (hS : ∀ k, fp b v k → ¬ S k) : Rd t w' b v lk ys :=
  ⟨by rw [hu.block b h.lt (hS b (.inl rfl))]; exact h.blk, h.vw.upd hu (fun k hk => hS k (.inr hk)), h.ne, h.small, h.lacks, fun k hk => Nat.lt_of_lt_of_le (h.inn k hk) hu.size⟩

/-- what is taken of n bytes: the bytes, whether it lacks then, what is left -/
def takeP (n : Int) (lk : Bool) (ys : List Int) : List Int × Bool × List Int :=
  if n < 0 ∨ (ys.length : Int) < n then ([], true, []) else (ys.take n.toNat, lk, ys.drop n.toNat)

theorem newReader (w : World) (x : Value) (ys : List Int) (hy : Vw w x ys) (hn : ys.length ≤ 140737488355327) :
    Calls Tryz.prog 20 #[x] w fun e w' => ∃ b v, e = .returned (.pointer (some ⟨b, 0, none⟩)) ∧ Rd 88 w' b v false ys ∧ Upd (fun _ => False) w w' ∧ ∀ k, fp b v k → w.heap.size ≤ k := by
  go_enter Tryz.func20, Tryz.ntmps20
  go_wp2_with fail
  refine (clone _ _ ys hy hn).mono ?_
  rintro e w1 ⟨v1, rfl, hN⟩
  obtain ⟨a, c, rfl⟩ := ownsRow_slice hN.1
  have HN := Lib.hid hN
  clear hN
  go_wp2
  go_ret
  have hN := HN.out
  have ha := Upd.alloc (fun _ => False) w1 (.cells #[.slice a ys.length c, .bool false] 88)
  refine ⟨_, .slice a ys.length c, rfl, ⟨?_, (hN.vw hy.1).upd ha (fun _ _ h => h), ?_, hn, by simp, fun k hk => by have := (hN.1.lt k hk).2; simp; omega⟩, hN.2.1.trans ha (fun _ h _ => h), ?_⟩
  · show (w1.heap.push _)[w1.heap.size]? = _
    simp
  · intro e
    have := (hN.1.lt _ e).2
    omega
  · rintro k (rfl | h)
    · exact hN.2.1.size
    · exact hN.2.2 k h

/-- behind a take of n bytes: the reader, and a view of what was taken -/
def Took (t : TypeId) (w : World) (b : Nat) (v : Value) (n : Int) (lk : Bool) (ys : List Int) (r : Value) (w' : World) : Prop :=
  ∃ v', Rd t w' b v' (takeP n lk ys).2.1 (takeP n lk ys).2.2 ∧ Vw w' r (takeP n lk ys).1 ∧ Upd (fun k => k = b) w w' ∧ (∀ k, v'.ownBlock = some k → v.ownBlock = some k) ∧ ∀ k, r.ownBlock = some k → v.ownBlock = some k

theorem took_ok {t : TypeId} {w : World} {b k c c' : Nat} {a a' : Option Addr} {lk : Bool} {ys : List Int} (h : Rd t w b (.slice a ys.length c) lk ys) (hk : k ≤ ys.length) (hc' : c' = c - k)
    (ha : (c = k ∧ a' = a) ∨ (c ≠ k ∧ a' = a.map (·.add k))) : Took t w b (.slice a ys.length c) (k : Int) lk ys (.slice a k c) (w.setCell ⟨b, 0, none⟩ (.slice a' (ys.length - k) c')) := by
  have hP : takeP (k : Int) lk ys = (ys.take k, lk, ys.drop k) := by unfold takeP; rw [if_neg (by omega)]; rfl
  unfold Took
  rw [hP]
  subst hc'
  have hu := Upd.setCell (S := fun k => k = b) w (p := ⟨b, 0, none⟩) (.inl rfl) (.slice a' (ys.length - k) (c - k))
  have hne : ∀ i, a.map (·.block) = some i → i ≠ b := fun i hi e => h.ne (by
    cases a with
    | none => simp at hi
    | some x => simp [Value.ownBlock] at hi ⊢; omega)
  have hblk : ∀ a0 n c0, (Value.slice a0 n c0).ownBlock = a0.map (·.block) := fun a0 n c0 => by cases a0 <;> rfl
  have hblk' : a'.map (·.block) = a.map (·.block) := by
    rcases ha with ⟨_, rfl⟩ | ⟨_, rfl⟩
    · rfl
    · cases a with
      | none => rfl
      | some x => simp [Addr.add]; split <;> rfl
  have htake := h.vw.take rfl k hk
  have hdrop : Vw w (.slice a' (ys.length - k) (c - k)) (ys.drop k) := by
    rcases h.vw.2 with ⟨⟨a0, he⟩, hys⟩ | ⟨g, off, c1, he, h1, h2, h3⟩
    · simp at he
      obtain ⟨rfl, hl0, rfl⟩ := he
      subst hys
      exact ⟨by simp, .inl ⟨⟨a', by simp⟩, by simp⟩⟩
    · simp at he
      obtain ⟨rfl, rfl⟩ := he
      have hg : ∃ off', a' = some ⟨g, off', none⟩ ∧ (k < ys.length → off' = off + k) := by
        rcases ha with ⟨e, rfl⟩ | ⟨_, rfl⟩
        · exact ⟨off, rfl, fun hlt => by omega⟩
        · exact ⟨off + k, by simp [addr_add], fun _ => rfl⟩
      obtain ⟨off', rfl, ho⟩ := hg
      exact h.vw.drop rfl k hk off' ho
  refine ⟨.slice a' (ys.length - k) (c - k), ⟨?_, hdrop.upd hu ?_, ?_, ?_, ?_, fun i hi => by rw [hblk, hblk'] at hi; exact Nat.lt_of_lt_of_le (h.inn i (by rw [hblk]; exact hi)) hu.size⟩, htake.upd hu ?_, hu, ?_, ?_⟩
  · have := h.blk
    simp [World.setCell, Array.getElem?_modify, this]
  · intro i hi
    rw [hblk, hblk'] at hi
    exact hne i hi
  · intro e
    rw [hblk, hblk'] at e
    exact hne b e rfl
  · have := h.small
    simp
    omega
  · intro hl
    rw [h.lacks hl]; simp
  · intro i hi
    rw [hblk] at hi
    exact hne i hi
  · intro i hi
    rw [hblk, hblk'] at hi
    rw [hblk]
    exact hi
  · intro i hi
    rw [hblk] at hi ⊢
    exact hi

set_option maxHeartbeats 400000 in
theorem take (w : World) (b : Nat) (v : Value) (n : Int) (lk : Bool) (ys : List Int) (h : Rd 88 w b v lk ys) (hlo : -9223372036854775808 ≤ n) (hhi : n ≤ 9223372036854775807) :
    Calls Tryz.prog 84 #[.pointer (some ⟨b, 0, none⟩), .int .i64 n] w fun e w' => ∃ r, e = .returned r ∧ Took 88 w b v n lk ys r w' := by
  obtain ⟨a, c, rfl, h1, h2⟩ := h.vw.slice
  have hc0 := h.cell0
  have hc1 := h.cell1
  have hf0 := h.free 0
  have hf1 := h.free 1
  unfold maxLen at h2
  have hsm := h.small
  have hblk := h.blk
  have lacked : Rd 88 ((w.setCell ⟨b, 0, none⟩ (.slice none 0 0)).setCell ⟨b, 1, none⟩ (.bool true)) b (.slice none 0 0) true [] ∧ Upd (fun k => k = b) w ((w.setCell ⟨b, 0, none⟩ (.slice none 0 0)).setCell ⟨b, 1, none⟩ (.bool true)) := by
    refine ⟨⟨?_, Vw.nil _, by simp [Value.ownBlock], by simp, by simp, by simp [Value.ownBlock]⟩, ?_⟩
    · simp [World.setCell, Array.getElem?_modify, hblk]
    · exact (Upd.setCell (S := fun k => k = b) w (.inl rfl) _).trans (Upd.setCell (S := fun k => k = b) _ (.inl rfl) _) (fun _ h _ => h)
  have HL := Lib.hid lacked
  have HB := Lib.hid hblk
  clear lacked hblk
  by_cases hneg : n < 0
  · have HP := Lib.hid (show takeP n lk ys = ([], true, []) by unfold takeP; rw [if_pos (.inl hneg)])
    go_enter Tryz.func84, Tryz.ntmps84
    go_wp2
    go_ret
    refine ⟨_, rfl, ?_⟩
    unfold Took
    rw [HP.out]
    exact ⟨_, HL.out.1, Vw.nil _, HL.out.2, by simp [Value.ownBlock], by simp [Value.ownBlock]⟩
  · by_cases hbig : (ys.length : Int) < n
    · have HP := Lib.hid (show takeP n lk ys = ([], true, []) by unfold takeP; rw [if_pos (.inr hbig)])
      go_enter Tryz.func84, Tryz.ntmps84
      go_wp2
      go_ret
      refine ⟨_, rfl, ?_⟩
      unfold Took
      rw [HP.out]
      exact ⟨_, HL.out.1, Vw.nil _, HL.out.2, by simp [Value.ownBlock], by simp [Value.ownBlock]⟩
    · obtain ⟨k, rfl⟩ := Int.eq_ofNat_of_zero_le (show 0 ≤ n by omega)
      have HP := Lib.hid (show takeP (k : Int) lk ys = (ys.take k, lk, ys.drop k) by unfold takeP; rw [if_neg (by omega)]; rfl)
      go_enter Tryz.func84, Tryz.ntmps84
      go_wp2
      all_goals go_ret
      · obtain rfl : c = k := by assumption
        exact ⟨_, rfl, took_ok (by assumption) (by omega) (by omega) (.inl ⟨by first | rfl | assumption, rfl⟩)⟩
      · exact ⟨_, rfl, took_ok (by assumption) (by omega) rfl (.inr ⟨by assumption, rfl⟩)⟩


/-- bytes as a number, the highest first -/
def beN (l : List Int) : Int := l.foldl (fun n b => 256 * n + b) 0
theorem beN_snoc (l : List Int) (b : Int) : beN (l ++ [b]) = 256 * beN l + b := by simp [beN]
theorem beN_acc (l : List Int) (h : ∀ y ∈ l, 0 ≤ y ∧ y ≤ 255) : ∀ acc : Int, 0 ≤ acc → 0 ≤ l.foldl (fun n b => 256 * n + b) acc ∧ l.foldl (fun n b => 256 * n + b) acc < (acc + 1) * 256 ^ l.length := by
  induction l with
  | nil => intro acc ha; simp; omega
  | cons b l ih =>
    intro acc ha
    have h2 := h b (by simp)
    have h1 := ih (fun y hy => h y (by simp [hy])) (256 * acc + b) (by omega)
    refine ⟨h1.1, Int.lt_of_lt_of_le h1.2 ?_⟩
    rw [List.length_cons, Int.pow_succ, Int.mul_comm (256 ^ l.length), ← Int.mul_assoc]
    exact Int.mul_le_mul_of_nonneg_right (by omega) (Int.pow_nonneg (by omega))
theorem beN_bd (l : List Int) (h : ∀ y ∈ l, 0 ≤ y ∧ y ≤ 255) : 0 ≤ beN l ∧ beN l < 256 ^ l.length := by
  have := beN_acc l h 0 (by omega)
  simpa [beN] using this
theorem pow_le3 {k : Nat} (h : k ≤ 3) : (256 : Int) ^ k ≤ 16777216 := by
  match k, h with
  | 0, _ => decide
  | 1, _ => decide
  | 2, _ => decide
  | 3, _ => decide
theorem or_shl (m q : Int) (h1 : 0 ≤ m) (h2 : m < 16777216) (h3 : 0 ≤ q) (h4 : q ≤ 255) : bits .or .u32 (m * 256) q = 256 * m + q := by
  obtain ⟨a, rfl⟩ := Int.eq_ofNat_of_zero_le h1
  obtain ⟨b, rfl⟩ := Int.eq_ofNat_of_zero_le h3
  rw [u32_or _ _ (by omega) (by omega) (by omega) (by omega)]
  have e : ((a : Int) * 256).toNat = 2 ^ 8 * a := by omega
  rw [e, Int.toNat_natCast, ← Nat.two_pow_add_eq_or_of_lt (by omega)]
  omega
theorem beN_take (l : List Int) (k : Nat) (hk : k < l.length) : beN (l.take (k + 1)) = 256 * beN (l.take k) + l.getD k 0 := by
  rw [List.take_succ_eq_append_getElem hk, beN_snoc]
  simp [List.getD, hk]

set_option maxHeartbeats 1000000 in
theorem number (w : World) (b : Nat) (v : Value) (n : Int) (lk : Bool) (ys : List Int) (h : Rd 88 w b v lk ys) (hlo : 1 ≤ n) (hhi : n ≤ 4) :
    Calls Tryz.prog 85 #[.pointer (some ⟨b, 0, none⟩), .int .i64 n] w fun e w' => e = .returned (.int .u32 (beN (takeP n lk ys).1)) ∧ ∃ v', Rd 88 w' b v' (takeP n lk ys).2.1 (takeP n lk ys).2.2 ∧ Upd (fun k => k = b) w w' ∧ (∀ k, v'.ownBlock = some k → v.ownBlock = some k) := by
  go_enter Tryz.func85, Tryz.ntmps85
  go_wp2_with fail
  refine (take w b v n lk ys h (by omega) (by omega)).mono ?_
  rintro e w1 ⟨r, rfl, v', h1, h2, h3, h4, h5⟩
  obtain ⟨a, c, rfl, hl1, hl2⟩ := h2.slice
  have HE := Lib.hid (show ∃ v', Rd 88 w1 b v' (takeP n lk ys).2.1 (takeP n lk ys).2.2 ∧ Upd (fun k => k = b) w w1 ∧ (∀ k, v'.ownBlock = some k → v.ownBlock = some k) from ⟨v', h1, h3, h4⟩)
  have hlen : (takeP n lk ys).1.length ≤ 4 := by
    unfold takeP
    split
    · simp
    · simp; omega
  clear h1 h3 h4 h5
  generalize hts : (takeP n lk ys).1 = ts at *
  have HT := Lib.hid hts
  clear hts
  go_wp2_with fail
  go_loop [5, 12] (fun n i => ∃ k : Nat, k ≤ ts.length ∧ i = .int .i64 k ∧ n = .int .u32 (beN (ts.take k))) (fun _ i => ts.length - (intOf i).toNat)
  case atStart => exact ⟨0, Nat.zero_le _, rfl, rfl⟩
  case round =>
    obtain ⟨k, hk, rfl, rfl⟩ := hrel
    by_cases hlt : k < ts.length
    · rcases h2.2 with ⟨_, hys⟩ | ⟨g, off, c1, he, _, _, h3⟩
      · subst hys; simp at hlt
      · simp at he
        obtain ⟨rfl, rfl⟩ := he
        have hc := h3 k hlt
        have hbd := beN_bd (ts.take k) (fun y hy => h2.1 y (List.mem_of_mem_take hy))
        have hp := pow_le3 (k := (ts.take k).length) (by simp; omega)
        have hb1 : 0 ≤ beN (ts.take k) := hbd.1
        have hb2 : beN (ts.take k) < 16777216 := by omega
        have hr : 0 ≤ ts.getD k 0 ∧ ts.getD k 0 ≤ 255 := by
          have : ts.getD k 0 ∈ ts := by simp [List.getD, hlt]
          exact h2.1 _ this
        obtain ⟨hr1, hr2⟩ := hr
        have HS := Lib.hid (beN_take ts k hlt)
        generalize hq : ts.getD k 0 = q at *
        generalize hm : beN (ts.take k) = m at *
        have HQ := Lib.hid hq
        have HM := Lib.hid hm
        clear hq hm h3 hbd hp
        go_wp2
        go_round
        case rel => exact ⟨k + 1, by omega, by go_num, by rw [HS.out, or_shl m q hb1 hb2 hr1 hr2]⟩
        case measure => simp [intOf]; omega
    · have HK := Lib.hid (show ts.take k = ts from List.take_of_length_le (by omega))
      go_wp2
      go_ret
      exact ⟨by rw [HT.out, HK.out]; rfl, HE.out⟩


theorem taken_bd {ys : List Int} (h : ∀ y ∈ ys, 0 ≤ y ∧ y ≤ 255) (n : Int) (lk : Bool) (hn : 0 ≤ n) : 0 ≤ beN (takeP n lk ys).1 ∧ beN (takeP n lk ys).1 < 256 ^ n.toNat := by
  unfold takeP
  split
  · simp [beN, Int.pow_pos]
  · have := beN_bd (ys.take n.toNat) (fun y hy => h y (List.mem_of_mem_take hy))
    have hl : (ys.take n.toNat).length = n.toNat := by simp; omega
    rw [hl] at this
    exact this
/-- a number of 32 bits, read with a sign -/
def sgn (n : Int) : Int := if n < 2147483648 then n else n - 4294967296

theorem rU8 (w : World) (b : Nat) (v : Value) (lk : Bool) (ys : List Int) (h : Rd 88 w b v lk ys) :
    Calls Tryz.prog 49 #[.pointer (some ⟨b, 0, none⟩)] w fun e w' => e = .returned (.int .i64 (beN (takeP 1 lk ys).1)) ∧ ∃ v', Rd 88 w' b v' (takeP 1 lk ys).2.1 (takeP 1 lk ys).2.2 ∧ Upd (fun k => k = b) w w' ∧ (∀ k, v'.ownBlock = some k → v.ownBlock = some k) := by
  have HB := Lib.hid (show 0 ≤ beN (takeP 1 lk ys).1 ∧ beN (takeP 1 lk ys).1 < 4294967296 from ⟨(taken_bd h.vw.1 1 lk (by omega)).1, Int.lt_of_lt_of_le (taken_bd h.vw.1 1 lk (by omega)).2 (by decide)⟩)
  go_enter Tryz.func49, Tryz.ntmps49
  go_wp2_with fail
  refine (number w b v 1 lk ys h (by omega) (by omega)).mono ?_
  rintro e w1 ⟨rfl, hE⟩
  have HE := Lib.hid hE
  clear hE
  obtain ⟨hb1, hb2⟩ := HB.out
  generalize hm : beN (takeP 1 lk ys).1 = m at *
  have HM := Lib.hid hm
  clear hm
  go_wp2
  go_ret
  exact ⟨by rw [HM.out]; rfl, HE.out⟩

theorem rU16 (w : World) (b : Nat) (v : Value) (lk : Bool) (ys : List Int) (h : Rd 88 w b v lk ys) :
    Calls Tryz.prog 105 #[.pointer (some ⟨b, 0, none⟩)] w fun e w' => e = .returned (.int .i64 (beN (takeP 2 lk ys).1)) ∧ ∃ v', Rd 88 w' b v' (takeP 2 lk ys).2.1 (takeP 2 lk ys).2.2 ∧ Upd (fun k => k = b) w w' ∧ (∀ k, v'.ownBlock = some k → v.ownBlock = some k) := by
  have HB := Lib.hid (show 0 ≤ beN (takeP 2 lk ys).1 ∧ beN (takeP 2 lk ys).1 < 4294967296 from ⟨(taken_bd h.vw.1 2 lk (by omega)).1, Int.lt_of_lt_of_le (taken_bd h.vw.1 2 lk (by omega)).2 (by decide)⟩)
  go_enter Tryz.func105, Tryz.ntmps105
  go_wp2_with fail
  refine (number w b v 2 lk ys h (by omega) (by omega)).mono ?_
  rintro e w1 ⟨rfl, hE⟩
  have HE := Lib.hid hE
  clear hE
  obtain ⟨hb1, hb2⟩ := HB.out
  generalize hm : beN (takeP 2 lk ys).1 = m at *
  have HM := Lib.hid hm
  clear hm
  go_wp2
  go_ret
  exact ⟨by rw [HM.out]; rfl, HE.out⟩

theorem rS32 (w : World) (b : Nat) (v : Value) (lk : Bool) (ys : List Int) (h : Rd 88 w b v lk ys) :
    Calls Tryz.prog 104 #[.pointer (some ⟨b, 0, none⟩)] w fun e w' => e = .returned (.int .i64 (sgn (beN (takeP 4 lk ys).1))) ∧ ∃ v', Rd 88 w' b v' (takeP 4 lk ys).2.1 (takeP 4 lk ys).2.2 ∧ Upd (fun k => k = b) w w' ∧ (∀ k, v'.ownBlock = some k → v.ownBlock = some k) := by
  have HB := Lib.hid (show 0 ≤ beN (takeP 4 lk ys).1 ∧ beN (takeP 4 lk ys).1 < 4294967296 from ⟨(taken_bd h.vw.1 4 lk (by omega)).1, Int.lt_of_lt_of_le (taken_bd h.vw.1 4 lk (by omega)).2 (by decide)⟩)
  go_enter Tryz.func104, Tryz.ntmps104
  go_wp2_with fail
  refine (number w b v 4 lk ys h (by omega) (by omega)).mono ?_
  rintro e w1 ⟨rfl, hE⟩
  have HE := Lib.hid hE
  clear hE
  obtain ⟨hb1, hb2⟩ := HB.out
  generalize hm : beN (takeP 4 lk ys).1 = m at *
  have HM := Lib.hid hm
  clear hm
  go_wp2
  go_ret
  exact ⟨by rw [HM.out]; exact ret_int (by unfold sgn wrap64 wrap32; split <;> omega), HE.out⟩


theorem takeP_bd {ys : List Int} (h : ∀ y ∈ ys, 0 ≤ y ∧ y ≤ 255) (n : Int) (lk : Bool) : ∀ y ∈ (takeP n lk ys).1, 0 ≤ y ∧ y ≤ 255 := by
  unfold takeP
  split
  · simp
  · exact fun y hy => h y (List.mem_of_mem_take hy)
theorem takeP_sub (ys : List Int) (n : Int) (lk : Bool) : ∀ y ∈ (takeP n lk ys).2.2, y ∈ ys := by
  unfold takeP
  split
  · simp
  · exact fun y hy => List.mem_of_mem_drop hy
theorem takeP_len (ys : List Int) (n : Int) (lk : Bool) : (takeP n lk ys).1.length ≤ ys.length ∧ (takeP n lk ys).2.2.length ≤ ys.length := by
  unfold takeP
  split
  · simp
  · simp; omega

/-- behind a call that took the bytes p.1: a copy of them, and the reader with the rest -/
def Got (t : TypeId) (w : World) (b : Nat) (v : Value) (p : List Int × Bool × List Int) (r : Value) (w' : World) : Prop :=
  ∃ v', Rd t w' b v' p.2.1 p.2.2 ∧ w'.ownsRow 0 5 1 r p.1.length (bv p.1) ∧ Upd (fun k => k = b) w w' ∧ (∀ k, v'.ownBlock = some k → v.ownBlock = some k) ∧ ∀ k, r.ownBlock = some k → w.heap.size ≤ k

theorem rRaw (w : World) (b : Nat) (v : Value) (n : Int) (lk : Bool) (ys : List Int) (h : Rd 88 w b v lk ys) (hlo : -9223372036854775808 ≤ n) (hhi : n ≤ 9223372036854775807) :
    Calls Tryz.prog 46 #[.pointer (some ⟨b, 0, none⟩), .int .i64 n] w fun e w' => ∃ r, e = .returned r ∧ Got 88 w b v (takeP n lk ys) r w' := by
  have HB := Lib.hid (takeP_bd h.vw.1 n lk)
  have HL := Lib.hid (Nat.le_trans (takeP_len ys n lk).1 h.small)
  go_enter Tryz.func46, Tryz.ntmps46
  go_wp2_with fail
  refine (take w b v n lk ys h hlo hhi).mono ?_
  rintro e w1 ⟨r, rfl, v', h1, h2, h3, h4, h5⟩
  have H1 := Lib.hid h1
  have H3 := Lib.hid h3
  have H4 := Lib.hid h4
  clear h1 h3 h4 h5
  go_wp2_with fail
  refine (clone w1 r _ h2 HL.out).mono ?_
  rintro e w2 ⟨v2, rfl, hN⟩
  have hlt := H1.out.lt
  have HE := Lib.hid (show Got 88 w b v (takeP n lk ys) v2 w2 from ⟨v', H1.out.upd hN.2.1 (fun _ _ h => h), hN.1, H3.out.trans hN.2.1 (fun _ h _ => h.elim), H4.out, fun k hk => Nat.le_trans H3.out.size (hN.2.2 k hk)⟩)
  clear hN
  go_wp2
  go_ret
  exact ⟨_, rfl, HE.out⟩

/-- a length, and so many bytes -/
def shortP (lk : Bool) (ys : List Int) : List Int × Bool × List Int := takeP (beN (takeP 1 lk ys).1) (takeP 1 lk ys).2.1 (takeP 1 lk ys).2.2

theorem rShort (w : World) (b : Nat) (v : Value) (lk : Bool) (ys : List Int) (h : Rd 88 w b v lk ys) :
    Calls Tryz.prog 47 #[.pointer (some ⟨b, 0, none⟩)] w fun e w' => ∃ r, e = .returned r ∧ Got 88 w b v (shortP lk ys) r w' := by
  have HB := Lib.hid (show 0 ≤ beN (takeP 1 lk ys).1 ∧ beN (takeP 1 lk ys).1 < 4294967296 from ⟨(taken_bd h.vw.1 1 lk (by omega)).1, Int.lt_of_lt_of_le (taken_bd h.vw.1 1 lk (by omega)).2 (by decide)⟩)
  go_enter Tryz.func47, Tryz.ntmps47
  go_wp2_with fail
  refine (rU8 w b v lk ys h).mono ?_
  rintro e w1 ⟨rfl, v1, h1, h2, h3⟩
  have H1 := Lib.hid h1
  have H2 := Lib.hid h2
  have H3 := Lib.hid h3
  clear h1 h2 h3
  go_wp2_with fail
  refine (rRaw w1 b v1 _ _ _ H1.out (by have := HB.out; omega) (by have := HB.out; omega)).mono ?_
  rintro e w2 ⟨r, rfl, v2, k1, k2, k3, k4, k5⟩
  have HE := Lib.hid (show Got 88 w b v (shortP lk ys) r w2 from ⟨v2, k1, k2, H2.out.trans k3 (fun _ h _ => h), fun k hk => H3.out k (k4 k hk), fun k hk => Nat.le_trans H2.out.size (k5 k hk)⟩)
  clear k1 k2 k3 k4 k5
  go_wp2
  go_ret
  exact ⟨_, rfl, HE.out⟩

theorem rLack (w : World) (b : Nat) (v : Value) (lk : Bool) (ys : List Int) (h : Rd 88 w b v lk ys) :
    Calls Tryz.prog 23 #[.pointer (some ⟨b, 0, none⟩)] w fun e w' => e = .returned (.bool lk) ∧ w = w' := by
  have hc := h.cell1
  go_enter Tryz.func23, Tryz.ntmps23
  go_wp2
  go_ret
  exact ⟨rfl, rfl⟩
theorem rLeft (w : World) (b : Nat) (v : Value) (lk : Bool) (ys : List Int) (h : Rd 88 w b v lk ys) :
    Calls Tryz.prog 24 #[.pointer (some ⟨b, 0, none⟩)] w fun e w' => e = .returned (.int .i64 ys.length) ∧ w = w' := by
  obtain ⟨a, c, rfl, h1, h2⟩ := h.vw.slice
  have hc := h.cell0
  go_enter Tryz.func24, Tryz.ntmps24
  go_wp2
  go_ret
  exact ⟨rfl, rfl⟩

end Go.Proofs.YtmbdfmgidnjgeaaGreatDoor

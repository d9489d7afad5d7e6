/- Package text: kindNames, callNames, printLine. Package text: printLine. Package text: Itoa; what a method prints. -/
import Derived.Test.YtbjmmdomdijilabDoorTv
import Derived.Lib.ItoaLen
namespace Go.Proofs.YtbjmmdomdijilabDoor
section
open Go.RowKit Go.Shelf Go.Lib
set_option linter.unusedVariables false
set_option linter.unusedSimpArgs false

/-- a kind's name, of any number; none of others -/
def kindT (k : Int) : By := match decide (0 ≤ k), decide (k ≤ 4) with
  | true, true => kindS k.toNat
  | _, _ => []
theorem kindS_len (k : Nat) : (kindS k).length ≤ 4 := by
  unfold kindS
  split <;> simp
theorem kindT_len (k : Int) : (kindT k).length ≤ 4 := by
  unfold kindT
  split
  · exact kindS_len _
  · simp
theorem tKindT (k : Int) (w : World) : Calls Tryd.prog 14 #[.int .i64 k] w fun e w' => e = .returned (.string (bs (kindT k))) ∧ w = w' := by
  by_cases h : 0 ≤ k ∧ k ≤ 4
  · have e : kindT k = kindS k.toNat := by unfold kindT; simp [h.1, h.2]
    have hk : k = (k.toNat : Int) := by omega
    rw [e, hk]
    exact tKindName _ (by omega) w
  · have e : kindT k = [] := by
      unfold kindT
      by_cases h0 : 0 ≤ k
      · have h4 : ¬ k ≤ 4 := fun h4 => h ⟨h0, h4⟩
        simp [h4]
      · simp [h0]
    rw [e]
    exact tKindName_no k (by omega) w
theorem join_cons (x y : By) (r : List By) : joinB (x :: y :: r) = x ++ 32 :: joinB (y :: r) := by
  simp [joinB, Lib.join, List.intercalate]
theorem join_len {m : Nat} : ∀ (xs : List By), (∀ x ∈ xs, x.length ≤ m) → (joinB xs).length ≤ xs.length * (m + 1)
  | [], _ => by simp [joinB, Lib.join, List.intercalate]
  | [x], h => by
    have := h x (by simp)
    have e : joinB [x] = x := Lib.join_one x [32]
    rw [e]
    simp
    omega
  | x :: y :: r, h => by
    have h1 := h x (by simp)
    have h2 := join_len (y :: r) (fun z hz => h z (List.mem_cons_of_mem _ hz))
    rw [join_cons]
    simp only [List.length_append, List.length_cons, Nat.add_mul] at h2 ⊢
    omega
def strC (x : By) : List Value := [.string (bs x)]
theorem flatStr (L : List By) : L.flatMap strC = L.map (fun x => .string (bs x)) := by
  induction L with
  | nil => rfl
  | cons x L ih => rw [List.flatMap_cons, ih]; rfl
theorem Row.strs {w : World} {v : Value} {L : List By} (h : Row w STR 1 strC v L) (hl : L.length ≤ 140737488355328) : Strs w v L := by
  refine ⟨(Sl.own h).congr (fun i hi j hj => ?_), hl⟩
  obtain rfl : j = 0 := by omega
  rw [flatStr]
  simp [hi, List.getD]
theorem tInfoStr : (Tryd.prog.info? 9).map (fun i => (i.zero, i.size, i.bytes)) = some (some (.string { data := #[] }), 1, 16) := by kernel_rfl
/-- names of the kinds so far -/
def KN (w wr : World) (v : Value) (L : List By) : Prop := Row wr STR 1 strC v L ∧ Upd (fun _ => False) w wr ∧ (∀ k, v.ownBlock = some k → w.heap.size ≤ k)
theorem ints_at {w wr : World} {v : Value} {ks : List Int} (h : Ints w v ks) (hu : Upd (fun _ => False) w wr) : ∃ a c, v = .slice a ks.length c ∧ ∀ k, k < ks.length → ∃ g off, a = some ⟨g, off, none⟩ ∧ wr.cell? ⟨g, off + k, none⟩ = some (.int .i64 (ks.getD k 0)) := by
  obtain ⟨⟨a, c, rfl, -, -, hs⟩, -⟩ := h
  refine ⟨a, c, rfl, fun k hk => ?_⟩
  obtain ⟨g, off, rfl, hs2⟩ := hs.resolve_left (by omega)
  have h1 := hs2 k hk 0 (by omega)
  refine ⟨g, off, rfl, ?_⟩
  have h2 := (World.cell?_of_block (a := ⟨g, off + k * 1 + 0, none⟩) (hu.block g (World.block_lt_of_cell? w _ h1) (fun h => h))).trans h1
  simpa using h2
set_option maxHeartbeats 2000000 in
theorem tKindNames (w : World) (v : Value) (ks : List Int) (h : Ints w v ks) (hk : ks.length ≤ 1000) : Calls Tryd.prog 37 #[v] w fun e w' => e = .returned (.string (bs (joinB (ks.map kindT)))) ∧ Upd (fun _ => False) w w' := by
  obtain ⟨i0, hi, hz0, hz1, hz2⟩ := info_parts tInfoStr
  have HI := Lib.hid h
  obtain ⟨a, c, rfl, -⟩ := ints_at h (Upd.refl _ w)
  have HKL := Lib.hid hk
  have H0 : Hid (KN w w (.slice none 0 0) ((ks.take 0).map kindT)) := Lib.hid ⟨Row.nil _ _ _ _, Upd.refl _ _, by simp [Value.ownBlock]⟩
  clear h hk
  go_enter Tryd.func37, Tryd.ntmps37
  go_wp2_with fail
  go_loopw [3, 8] (fun nv iv wr => ∃ k : Nat, k ≤ ks.length ∧ iv = .int .i64 k ∧ Hid (KN w wr nv ((ks.take k).map kindT))) (fun _ iv _ => ks.length - (RowKit.intOf iv).toNat)
  case atStart => exact ⟨0, Nat.zero_le _, rfl, H0⟩
  case round =>
    obtain ⟨k, hk, rfl, HK⟩ := hrel
    obtain ⟨L, hL⟩ : ∃ L, L = (ks.take k).map kindT := ⟨_, rfl⟩
    rw [← hL] at HK
    have HL := Lib.hid hL
    have hLL : L.length ≤ 1000 := by rw [hL]; simp; have := HKL.out; omega
    have HLL := Lib.hid hLL
    clear hL hLL
    obtain ⟨na, nc, rfl⟩ := ownsRow_slice HK.out.1
    by_cases hlt : k < ks.length
    · obtain ⟨a', c', he, hat⟩ := ints_at HI.out HK.out.2.1
      obtain ⟨g, off, hg, c0⟩ := hat k hlt
      simp at he
      obtain ⟨rfl, rfl⟩ := he
      subst hg
      clear hat
      obtain ⟨x, hx⟩ : ∃ x, x = ks.getD k 0 := ⟨_, rfl⟩
      rw [← hx] at c0
      have HT : Hid ((ks.take (k + 1)).map kindT = L ++ [kindT x]) := Lib.hid (by
        rw [HL.out, hx, List.take_add_one, List.map_append, List.getElem?_eq_getElem hlt]
        simp only [Option.toList, List.map_cons, List.map_nil, List.getD_eq_getElem?_getD, List.getElem?_eq_getElem hlt, Option.getD_some])
      clear hx
      have hk3 : (k : Int) + 1 ≤ 9223372036854775807 := by have := HKL.out; omega
      have hal : Upd (fun _ => False) wr (wr.alloc (.cells #[.string (bs (kindT x))] STR)) := Upd.alloc _ _ _
      have HS : Hid (Src (wr.alloc (.cells #[.string (bs (kindT x))] STR)) 1 (.slice (some ⟨wr.heap.size, 0, none⟩) 1 1) 1 (strC (kindT x))) := Lib.hid (tSrc wr STR (strC (kindT x)) _ rfl 1 (by
        intro u hu
        simp [strC] at hu
        rcases hu with rfl
        rfl) 1 1 _ rfl rfl)
      have HV : Hid (Row (wr.alloc (.cells #[.string (bs (kindT x))] STR)) STR 1 strC (.slice na L.length nc) L) := Lib.hid (HK.out.1.upd hal (fun _ _ h => h))
      have HA := Lib.hid hal
      clear hal
      go_wp2_with fail
      refine (tKindT x wr).mono ?_
      rintro e w2 ⟨rfl, rfl⟩
      go_wp2_with (at_builtin; go_loud (refine wpList_append_mine _ rfl _ _ 82 rfl 0 9 i0 (.string { data := #[] }) 1 16 Tryd.underlying82 hi hz0 hz1 hz2 rfl (by decide) (.slice na L.length nc) L.length (L.flatMap strC) rfl HV.out 1 (strC (kindT x)) HS.out (by have := HLL.out; unfold maxLen; omega) (by have := HLL.out; omega) (Nat.zero_le _) ?_))
      intro v' w2 ho hgr hf
      have HK2 : Hid (KN w w2 v' ((ks.take (k + 1)).map kindT)) := Lib.hid (by
        rw [HT.out]
        refine ⟨?_, ?_, ?_⟩
        · unfold Row
          rw [List.length_append, List.flatMap_append]
          simpa using ho
        · exact HK.out.2.1.trans (Upd.row HA.out hgr) (fun i hi hl => by have := HK.out.2.2 i hi; omega)
        · intro j hj
          rcases hf j hj with h | h
          · exact HK.out.2.2 j h
          · exact Nat.le_trans (Nat.le_trans HK.out.2.1.size HA.out.size) h)
      obtain ⟨va, vc, rfl⟩ := ownsRow_slice ho
      clear ho hgr hf
      go_wp2_with fail
      go_roundw
      case rel => exact ⟨k + 1, hlt, by go_num, HK2⟩
      case measure => simp [RowKit.intOf]; omega
    · obtain rfl : k = ks.length := by omega
      have HE : Hid (L = ks.map kindT) := Lib.hid (by rw [HL.out, List.take_length])
      go_wp2_with fail
      refine (tJoin (w := wr) (xs := L) (HK.out.1.strs (by have := HLL.out; omega)) (by
        have h1 := join_len (m := 4) L (fun x hx => by
          rw [HE.out] at hx
          obtain ⟨y, -, rfl⟩ := List.mem_map.1 hx
          exact kindT_len y)
        have := HLL.out
        omega)).mono ?_
      rintro e w2 ⟨rfl, hu⟩
      have HU := Lib.hid (HK.out.2.1.trans hu (fun _ h _ => h))
      clear hu
      go_wp2_with fail
      go_ret
      exact ⟨by rw [HE.out]; rfl, HU.out⟩
/-- what a call bears: its result, then its parameters -/
def callT (ps : List Int) (r : Int) : By := match ps.isEmpty with
  | true => kindT r
  | false => kindT r ++ 32 :: joinB (ps.map kindT)
theorem callT_len (ps : List Int) (r : Int) : (callT ps r).length ≤ 5 + ps.length * 5 := by
  have h1 := kindT_len r
  have h2 := join_len (m := 4) (ps.map kindT) (fun x hx => by
    obtain ⟨y, -, rfl⟩ := List.mem_map.1 hx
    exact kindT_len y)
  unfold callT
  split
  · omega
  · simp only [List.length_append, List.length_cons, List.length_map] at h2 ⊢
    omega
theorem bs_app (a b : By) : bs a ++ bs b = bs (a ++ b) := by
  apply ByteArray.ext
  simp [bs]
set_option maxHeartbeats 1000000 in
theorem tCallNames (w : World) (v : Value) (ks : List Int) (r : Int) (h : Ints w v ks) (hk : ks.length ≤ 1000) : Calls Tryd.prog 15 #[v, .int .i64 r] w fun e w' => e = .returned (.string (bs (callT ks r))) ∧ Upd (fun _ => False) w w' := by
  have HI := Lib.hid h
  have HKL := Lib.hid hk
  obtain ⟨a, c, rfl, -⟩ := ints_at h (Upd.refl _ w)
  cases ks with
  | nil =>
    clear h hk
    go_enter Tryd.func15, Tryd.ntmps15
    go_wp2_with fail
    refine (tKindT r w).mono ?_
    rintro e w2 ⟨rfl, rfl⟩
    go_wp2_with fail
    go_ret
    exact ⟨rfl, Upd.refl _ _⟩
  | cons x xs =>
    have hb : ((((x :: xs).length : Nat) : Int) == 0) = false := by simp; omega
    obtain ⟨n, hn⟩ : ∃ n, n = (x :: xs).length := ⟨_, rfl⟩
    rw [← hn] at hb
    rw [← hn] at HI ⊢
    have HN := Lib.hid (fun w => tKindNames w (.slice a n c) (x :: xs))
    clear h hk hn
    go_enter Tryd.func15, Tryd.ntmps15
    go_wp2_with fail
    refine (tKindT r w).mono ?_
    rintro e w2 ⟨rfl, rfl⟩
    go_wp2_with fail
    · rename_i hh
      rw [bs_size] at hh
      have h4 := kindT_len r
      exfalso
      omega
    refine (HN.out w HI.out HKL.out).mono ?_
    rintro e w3 ⟨rfl, hu⟩
    have HU := Lib.hid hu
    clear hu
    have HJ := Lib.hid (join_len (m := 4) ((x :: xs).map kindT) (fun x hx => by
      obtain ⟨y, -, rfl⟩ := List.mem_map.1 hx
      exact kindT_len y))
    obtain ⟨j, hj⟩ : ∃ j, j = joinB ((x :: xs).map kindT) := ⟨_, rfl⟩
    rw [← hj] at HJ ⊢
    have HE := Lib.hid hj
    clear hj
    go_wp2_with fail
    · rename_i h1 hh
      have h4 := kindT_len r
      have h5 := HJ.out
      have h6 := HKL.out
      simp only [bs_size, List.length_map] at hh h5
      exfalso
      omega
    go_ret
    refine ⟨?_, HU.out⟩
    unfold callT
    rw [← HE.out]
    show Ending.returned (.string (bs (kindT r) ++ bs [32] ++ bs j)) = _
    rw [bs_app, bs_app, List.append_assoc]
    rfl
end

section
open Go.RowKit Go.Shelf Go.Lib
set_option linter.unusedVariables false
set_option linter.unusedSimpArgs false

/-- a line: words, and its end -/
def lineT (xs : List By) : By := joinB xs ++ [10]
theorem tPrintLine {B b : Nat} {w : World} {s : By} {v : Value} {xs : List By} (h : Bd B b w s) (hv : Strs w v xs) (hl : s.length + (joinB xs).length + 1 ≤ 140737488355328) (hB : B ≤ w.heap.size) : Calls Tryd.prog 13 #[.pointer (some ⟨b, 0, none⟩), v] w fun e w' => e = .returned (.tuple #[]) ∧ Bd B b w' (s ++ lineT xs) ∧ Kb B b w w' := by
  have HD := Lib.hid h
  have HV := Lib.hid hv
  have HL := Lib.hid hl
  have HB := Lib.hid hB
  obtain ⟨⟨a, c, rfl, -⟩, -⟩ := hv
  clear h hl hB
  go_enter Tryd.func13, Tryd.ntmps13
  go_wp2_with fail
  refine (tJoin HV.out (by have := HL.out; omega)).mono ?_
  rintro e w2 ⟨rfl, hu⟩
  have HD2 := Lib.hid (HD.out.kept hu)
  have HB2 : Hid (B ≤ w2.heap.size) := Lib.hid (Nat.le_trans HB.out hu.size)
  have HK2 := Lib.hid (Kb.of (B := B) (b := b) hu HB.out)
  clear hu
  go_wp2_with fail
  refine (tWS HD2.out (joinB xs) (by have := HL.out; omega) HB2.out).mono ?_
  rintro e w3 ⟨rfl, hd, hk⟩
  have HD3 := Lib.hid hd
  have HB3 : Hid (B ≤ w3.heap.size) := Lib.hid (Nat.le_trans HB2.out hk.1.size)
  have HK3 := Lib.hid (HK2.out.trans hk)
  clear hd hk
  go_wp2_with fail
  refine (tWB HD3.out (by have := HL.out; rw [List.length_append]; omega) HB3.out).mono ?_
  rintro e w4 ⟨rfl, hd, hk⟩
  have HD4 := Lib.hid hd
  have HK4 := Lib.hid (HK3.out.trans hk)
  clear hd hk
  go_wp2_with fail
  first | (refine bodyPost_end (results_none rfl _ _ _) rfl ?_) | (simp only [Exit.inBlock, Exit.then]; refine bodyPost_end (results_none rfl _ _ _) rfl ?_)
  refine ⟨rfl, ?_, HK4.out⟩
  have := HD4.out
  rwa [List.append_assoc] at this
/-- a row of strings that was just made -/
theorem strs_new (w : World) (xs : List By) (hl : xs.length ≤ 1000) (cs : Array Value) (hc : cs = (xs.map (fun x => Value.string (bs x))).toArray) (g : Nat) (hg : w.heap.size = g) : Strs (w.alloc (.cells cs STR)) (.slice (some ⟨g, 0, none⟩) xs.length xs.length) xs := by
  subst hc hg
  refine ⟨⟨_, _, rfl, Nat.le_refl _, by unfold maxLen; omega, .inr ⟨_, _, rfl, fun i hi j hj => ?_⟩⟩, by omega⟩
  obtain rfl : j = 0 := by omega
  have hh : (w.alloc (.cells (xs.map (fun x => Value.string (bs x))).toArray STR)).heap[w.heap.size]? = some (.cells (xs.map (fun x => Value.string (bs x))).toArray STR (0, 0)) := hp_new w _ _ rfl
  rw [(tCell hh _).1]
  simp [List.getD, hi]
end

section
open Go.RowKit Go.Shelf Go.Lib
set_option linter.unusedVariables false
set_option linter.unusedSimpArgs false

abbrev P10 : String := "internal/strconv.uint64pow10"
/-- strconv's table, in a block below B -/
def Tb (B : Nat) (w : World) : Prop := ∃ g, Tryd.prog.globalNamed P10 = some g ∧ g < B ∧ TabIs Tryd.prog w P10 .u64 pow10Tab
theorem Tb.kept {B : Nat} {w w' : World} (h : Tb B w) (hb : Below B w w') : Tb B w' := by
  obtain ⟨g, hg, hlt, ht⟩ := h
  refine ⟨g, hg, hlt, ?_⟩
  unfold TabIs World.var? at ht ⊢
  rw [hg] at ht ⊢
  simp only [Option.bind_some] at ht ⊢
  rw [hb.block g hlt]
  exact ht
theorem tItoa {B : Nat} {w : World} (ht : Tb B w) {n : Int} (hn : wi64 n) : Calls Tryd.prog 16 #[.int .i64 n] w fun e w' => e = .returned (.string (bs (itoa n))) ∧ Upd (fun _ => False) w w' := by
  obtain ⟨g, hg, hlt, ht⟩ := ht
  obtain ⟨h0, h1⟩ := hn
  refine (Any.strconv_Itoa Tryd.laysItoaM n (by omega) (by omega) w ht).mono ?_
  rintro e w' ⟨rfl, k, os, rfl⟩
  refine ⟨rfl, upd_of_below ⟨rfl, rfl, rfl, by show w.heap.size ≤ (w.heap ++ os).size; simp, fun j hj => ?_⟩⟩
  show (w.heap ++ os)[j]? = _
  rw [Array.getElem?_append_left hj]
end
end Go.Proofs.YtbjmmdomdijilabDoor

/- Package text: number. -/
import Derived.Test.YtiadkidhfhkokaaDoorTc
import Derived.IntWalk
namespace Go.Proofs.YtiadkidhfhkokaaDoor
open Go.RowKit Go.Lib
set_option linter.unusedVariables false
set_option linter.unusedSimpArgs false

def digB (n : Nat) : Bool := decide (48 ≤ n ∧ n ≤ 57)
def numVal (ds : By) : Nat := ds.foldl (fun n b => 10 * n + (b.toNat - 48)) 0
def numOk (l : By) : Bool := decide ((cutP l).1 ≠ []) && (decide ((cutP l).1.length ≤ 10) && (!(decide (byAt (cutP l).1 0 = 48) && decide (l ≠ [48])) && (cutP l).1.all (fun b => digB b.toNat)))
def signV (sg : Bool) (n : Nat) : Int := match sg with
  | true => -(n : Int)
  | false => (n : Int)
def numP (l : By) : Int × Bool := match numOk l with
  | true => (signV (cutP l).2 (numVal (cutP l).1), true)
  | false => (0, false)
theorem num_no {l : By} (h : numOk l = false) : numP l = (0, false) := by unfold numP; rw [h]
theorem bs_get0 (ds : By) (h : 0 < (bs ds).size) : ((bs ds)[0]'h).toNat = byAt ds 0 := by
  have h2 : 0 < ds.length := by rw [bs_size] at h; exact h
  have e : (bs ds)[0]'h = ds[0] := rfl
  rw [e]
  simp [byAt, List.getD, h2]
theorem scan_any (l : By) (pos : Nat) (hp : pos < l.length) :
    (byAt l pos < 128 ∧ (Utf8.decode (bs l) pos).1 = byAt l pos ∧ (Utf8.decode (bs l) pos).2 = 1) ∨ (128 ≤ byAt l pos ∧ 128 ≤ (Utf8.decode (bs l) pos).1) := by
  by_cases h : byAt l pos < 128
  · obtain ⟨_, _, h1 | h1⟩ := scan_step l pos (byAt l pos) hp h
    · exact .inl ⟨h, h1.2⟩
    · exact absurd rfl (h1.2 pos (Nat.le_refl _) (by have := dec_width (bs l) pos; omega))
  · refine .inr ⟨by omega, ?_⟩
    by_cases hr : (Utf8.decode (bs l) pos).1 < 128
    · obtain ⟨_, _, h1 | h1⟩ := scan_step l pos _ hp hr
      · omega
      · exact absurd rfl h1.1
    · omega
theorem numVal_take (ds : By) (pos : Nat) (h : pos < ds.length) : numVal (ds.take (pos + 1)) = 10 * numVal (ds.take pos) + (byAt ds pos - 48) := by
  unfold numVal
  rw [List.take_add_one, List.foldl_append, List.getElem?_eq_getElem h]
  simp [byAt, List.getD, h]
theorem numVal_lt (ds : By) : ∀ pos, pos ≤ ds.length → (∀ j, j < pos → digB (byAt ds j) = true) → numVal (ds.take pos) < 10 ^ pos
  | 0, _, _ => by simp [numVal]
  | pos + 1, h, hd => by
    have ih := numVal_lt ds pos (by omega) (fun j hj => hd j (by omega))
    have h1 := hd pos (by omega)
    simp [digB] at h1
    rw [numVal_take ds pos (by omega), Nat.pow_succ]
    omega
theorem dig_all (ds : By) (h : ∀ j, j < ds.length → digB (byAt ds j) = true) : ds.all (fun b => digB b.toNat) = true := by
  rw [List.all_eq_true]
  intro b hb
  obtain ⟨j, hj, rfl⟩ := List.mem_iff_getElem.1 hb
  have := h j hj
  simpa [byAt, List.getD, hj] using this
theorem dig_no (ds : By) (j : Nat) (hj : j < ds.length) (h : digB (byAt ds j) = false) : ds.all (fun b => digB b.toNat) = false := by
  cases ha : ds.all (fun b => digB b.toNat) with
  | false => rfl
  | true =>
    have := List.all_eq_true.1 ha ds[j] (List.getElem_mem hj)
    have h2 : digB (ds[j].toNat) = false := by simpa [byAt, List.getD, hj] using h
    rw [h2] at this
    cases this
set_option maxHeartbeats 2000000 in
theorem tNumber (l : By) (w : World) (hl : l.length ≤ maxLen) : Calls Tryd.prog 102 #[.string (bs l)] w fun e w' => e = .returned (.tuple #[.int .i64 (numP l).1, .bool (numP l).2]) ∧ Upd (fun _ => False) w w' := by
  obtain ⟨ds, hds⟩ : ∃ ds, ds = (cutP l).1 := ⟨_, rfl⟩
  obtain ⟨sg, hsg⟩ : ∃ sg, sg = (cutP l).2 := ⟨_, rfl⟩
  have HC := Lib.hid (fun w => tCut l w)
  have hz := bs_size ds
  have HE := bs_empty ds
  rw [← hds, ← hsg] at HC
  have HOK := Lib.hid (show numOk l = (decide (ds ≠ []) && (decide (ds.length ≤ 10) && (!(decide (byAt ds 0 = 48) && decide (l ≠ [48])) && ds.all (fun b => digB b.toNat)))) by rw [hds]; rfl)
  have HDS := Lib.hid hds
  have HSG := Lib.hid hsg
  clear hds hsg
  by_cases h0 : ds = []
  · have HN := Lib.hid (num_no (l := l) (by rw [HOK.out]; simp [h0]))
    rw [show decide (ds = []) = true by simpa using h0] at HE
    clear h0
    go_enter Tryd.func102, Tryd.ntmps102
    go_wp2_with (refine (HC.out _).mono ?_; rintro e w' ⟨rfl, rfl⟩)
    refine bodyPost_ret (v := .tuple #[.int .i64 0, .bool false]) (by simp only [results, Tryd.f102]; simp [go_sem]) rfl ?_
    exact ⟨by rw [HN.out], Upd.refl _ _⟩
  · have hpos : 0 < ds.length := List.length_pos_iff.2 h0
    rw [show decide (ds = []) = false by simpa using h0] at HE
    by_cases h10 : 10 < ds.length
    · have HN := Lib.hid (num_no (l := l) (by rw [HOK.out]; simp; intro _ h; omega))
      have hg : (10 : Int) < ((bs ds).size : Int) := by rw [bs_size]; omega
      clear h0 hz
      go_enter Tryd.func102, Tryd.ntmps102
      go_wp2_with (refine (HC.out _).mono ?_; rintro e w' ⟨rfl, rfl⟩)
      refine bodyPost_ret (v := .tuple #[.int .i64 0, .bool false]) (by simp only [results, Tryd.f102]; simp [go_sem]) rfl ?_
      exact ⟨by rw [HN.out], Upd.refl _ _⟩
    · have hg : ¬ (10 : Int) < ((bs ds).size : Int) := by rw [bs_size]; omega
      have hg0 : (0 : Int) < ((bs ds).size : Int) := by rw [bs_size]; omega
      clear hz
      go_enter Tryd.func102, Tryd.ntmps102
      go_wp2_with (refine (HC.out _).mono ?_; rintro e w' ⟨rfl, rfl⟩)
      all_goals first
        | (refine bodyPost_ret (v := .tuple #[.int .i64 0, .bool false]) (by simp only [results, Tryd.f102]; simp [go_sem]) rfl ?_
           rename_i q1 q2 q3
           rw [bs_get0] at q2
           refine ⟨?_, Upd.refl _ _⟩
           rw [num_no (l := l) (by
             rw [HOK.out]
             have e1 : decide (byAt ds 0 = 48) = true := by simp; omega
             have e2 : decide (l ≠ [48]) = true := by
               rcases q3 with q3 | q3
               · exfalso; omega
               · simpa [bs_list] using q3
             rw [e1, e2]; simp)])
        | skip
      all_goals
        have HZ : Hid ((decide (byAt ds 0 = 48) && decide (l ≠ [48])) = false) := Lib.hid (by
          first
            | (rename_i q1 q2 q3 q4 q5
               rw [bs_get0] at q2
               have : l = [48] := by simpa [bs_list] using q3.2
               simp [this])
            | (rename_i q1 q2 q3 q4 q5
               rw [bs_get0] at q2
               simp; omega))
        have hl10 : ds.length ≤ 10 := by omega
        have HD0 : Hid (∀ j, j < 0 → digB (byAt ds j) = true) := Lib.hid (fun j h => by omega)
        have HI0 := Lib.hid (upd_iter w (bs ds) 0)
        clear HE hg hg0
        go_loopw [6, 32] (fun nv _ wr => ∃ pos : Nat, pos ≤ ds.length ∧ nv = .int .i64 (numVal (ds.take pos) : Nat) ∧ Hid (wr.heap[w.heap.size]? = some (.stringIter (bs ds) pos)) ∧ Hid (Upd (fun _ => False) w wr) ∧ Hid (∀ j, j < pos → digB (byAt ds j) = true)) (fun _ _ wr => ds.length - wr.iterPos w.heap.size)
        case atStart => exact ⟨0, Nat.zero_le _, rfl, Lib.hid (World.iter_heap _ _ _), HI0, HD0⟩
        case round =>
          obtain ⟨pos, hpl, rfl, HI, HU, HD⟩ := hrel
          have hlt10 := numVal_lt ds pos hpl HD.out
          have hle10 : 10 ^ pos ≤ 10 ^ 10 := Nat.pow_le_pow_right (by omega) (by omega)
          by_cases hp : pos < ds.length
          · have hnx := fun ty => Lib.run_next_any_at (P := Tryd.prog) wr w.heap.size (bs ds) pos ty HI.out (by rw [bs_size]; exact hp)
            have hcs := scan_any ds pos hp
            have hr := dec_rune (bs ds) pos
            have hw1 := dec_width (bs ds) pos
            have HV := Lib.hid (numVal_take ds pos hp)
            generalize (Utf8.decode (bs ds) pos).1 = r at *
            generalize (Utf8.decode (bs ds) pos).2 = d at *
            have HU2 := Lib.hid (upd_iterAt w.heap.size (bs ds) (pos + d) HU.out (Nat.le_refl _))
            have HI2 : Hid ((wr.iterAt w.heap.size (bs ds) (pos + d)).heap[w.heap.size]? = some (.stringIter (bs ds) (pos + d))) := Lib.iterAt_heap _ _ _ _ _ HI.out
            have HP1 := Lib.hid (iterPos_of HI.out)
            have HP2 := Lib.hid (iterPos_of HI2.out)
            generalize wr.iterAt w.heap.size (bs ds) (pos + d) = w2 at *
            by_cases hdg : 48 ≤ r ∧ r ≤ 57
            · obtain ⟨g1, g2⟩ := hdg
              obtain ⟨hb, rfl, rfl⟩ : byAt ds pos < 128 ∧ r = byAt ds pos ∧ d = 1 := by
                rcases hcs with h | ⟨_, h⟩
                · exact h
                · omega
              have HD2 : Hid (∀ j, j < pos + 1 → digB (byAt ds j) = true) := Lib.hid (fun j hj => by
                by_cases h : j < pos
                · exact HD.out j h
                · obtain rfl : j = pos := by omega
                  simp [digB]; omega)
              generalize hx : byAt ds pos = x at *
              generalize hn : numVal (ds.take pos) = n at *
              have hn10 : n < 10000000000 := by
                have : (10 : Nat) ^ 10 = 10000000000 := rfl
                omega
              have k1 : IntKind.i32.wrap ((x : Int) - 48) = (x : Int) - 48 := by rw [IntKind.wrap_i32]; omega
              have k2 : IntKind.i64.wrap (10 * (n : Int)) = 10 * (n : Int) := IntWalk.i64_in _ (by omega)
              have k3 : IntKind.i64.wrap (10 * (n : Int) + ((x : Int) - 48)) = 10 * (n : Int) + ((x : Int) - 48) := IntWalk.i64_in _ (by omega)
              have k4 : IntKind.i64.wrap ((x : Int) - 48) = (x : Int) - 48 := IntWalk.i64_in _ (by omega)
              have b1 : decide ((x : Int) < 48) = false := by simp; omega
              have b2 : decide (57 < (x : Int)) = false := by simp; omega
              have HX := Lib.hid hx
              have HNN := Lib.hid hn
              clear hlt10 hle10 hb hcs hx hn
              go_wp2_with fail
              go_roundw
              case rel => exact ⟨pos + 1, by omega, by rw [HV.out]; congr 1; omega, HI2, HU2, HD2⟩
              case measure => rw [HP1.out, HP2.out]; omega
            · have HN := Lib.hid (num_no (l := l) (by
                rw [HOK.out, dig_no ds pos hp (by
                  simp only [digB, decide_eq_false_iff_not]
                  rcases hcs with ⟨_, h, _⟩ | ⟨h, _⟩
                  · omega
                  · omega)]
                simp))
              clear hlt10 hle10 hcs
              go_wp2_with fail
              all_goals first
                | (exfalso; omega)
                | (refine bodyPost_ret (v := .tuple #[.int .i64 0, .bool false]) (by simp only [results, Tryd.f102]; simp [go_sem]) rfl ?_
                   exact ⟨by rw [HN.out], HU2.out⟩)
          · obtain rfl : pos = ds.length := by omega
            have hnx := fun ty => Lib.run_next_end_at (P := Tryd.prog) wr w.heap.size (bs ds) ds.length ty HI.out (by rw [bs_size]; omega)
            rw [List.take_of_length_le (Nat.le_refl _)] at hlt10
            have e1 : ds.take ds.length = ds := List.take_of_length_le (Nat.le_refl _)
            rw [e1]
            have HO : Hid (numOk l = true) := Lib.hid (by
              rw [HOK.out, HZ.out, dig_all ds HD.out]
              simp [h0, hl10])
            have HP : Hid (numP l = (signV sg (numVal ds), true)) := Lib.hid (by
              unfold numP
              rw [HO.out, ← HDS.out, ← HSG.out])
            generalize numVal ds = n at *
            have hn10 : n < 10000000000 := by
              have : (10 : Nat) ^ 10 = 10000000000 := rfl
              omega
            have k1 : IntKind.i64.wrap (-(n : Int)) = -(n : Int) := IntWalk.i64_in _ (by omega)
            clear hlt10 hle10 e1
            cases sg with
            | true =>
              have HP2 : Hid (numP l = (-(n : Int), true)) := HP
              go_wp2_with fail
              refine bodyPost_ret (v := .tuple #[.int .i64 (-(n : Int)), .bool true]) (by simp only [results, Tryd.f102]; simp [go_sem, k1]) rfl ?_
              exact ⟨by rw [HP2.out], HU.out⟩
            | false =>
              have HP2 : Hid (numP l = ((n : Int), true)) := HP
              go_wp2_with fail
              refine bodyPost_ret (v := .tuple #[.int .i64 (n : Int), .bool true]) (by simp only [results, Tryd.f102]; simp [go_sem]) rfl ?_
              exact ⟨by rw [HP2.out], HU.out⟩
end Go.Proofs.YtiadkidhfhkokaaDoor

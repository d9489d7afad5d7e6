/- word.SameBytes: 1 just where both texts are as long as one another, and alike; the world stays. -/
import Derived.Test.YtdmadfahgkikkaaGreatBytes
import Derived.Test.YtdmadfahgkikkaaGreatHand
import Derived.LoopTactic
import Derived.Lib.Bytes
namespace Go.Proofs.YtdmadfahgkikkaaGreat
open Go.RowKit
set_option linter.unusedVariables false

def nthB (xs : List Int) (k : Nat) : Int := xs.getD k 0
theorem nthB_in (xs : List Int) {k : Nat} (h : k < xs.length) : nthB xs k = xs[k] := by simp [nthB, List.getD, h]
theorem nthB_out (xs : List Int) {k : Nat} (h : ¬ k < xs.length) : nthB xs k = 0 := by simp [nthB, List.getD, List.getElem?_eq_none (by omega : xs.length ≤ k)]
/-- what SameBytes has gathered after k bytes -/
def gat (xs ys : List Int) : Nat → BitVec 32
  | 0 => BitVec.ofInt 32 (bits .xor .i64 (xs.length : Int) (ys.length : Int))
  | k + 1 => gat xs ys k ||| BitVec.ofInt 32 (bits .xor .u8 (nthB xs k) (nthB ys k))
theorem ofInt_wrap32 (n : Int) : BitVec.ofInt 32 (wrap32 n) = BitVec.ofInt 32 n := by
  rw [wrap32_bv, BitVec.ofInt_toInt]
theorem gat_or (xs ys : List Int) (k : Nat) : bits .or .i32 (si (gat xs ys k)) (wrap32 (bits .xor .u8 (nthB xs k) (nthB ys k))) = si (gat xs ys (k + 1)) := by
  unfold bits; simp only [IntKind.bits, si, BitVec.ofInt_toInt]; rw [ofInt_wrap32]; exact wrap_i32_bv _
theorem gat_0 (xs ys : List Int) : wrap32 (bits .xor .i64 (xs.length : Int) (ys.length : Int)) = si (gat xs ys 0) := by
  rw [wrap32_bv]; rfl
theorem wEqZ (c : BitVec 32) (w : World) : Calls Tryz.prog 57 #[.int .i32 (si c), .int .i32 0] w fun e w' => e = .returned (.int .i32 (si (bEq c 0#32))) ∧ w = w' := w0Eq c 0#32 w

set_option maxHeartbeats 1000000 in
theorem same_x0 (w : World) (xs ys : List Int) (hn : xs.length ≤ 2147483647) (hm : ys.length ≤ 2147483647) (a : Option Addr) (y : Value) (cx : Nat) (hcx : cx ≤ maxLen) (hx : xs = []) (hy : Vw w y ys) :
    Calls Tryz.prog 100 #[(.slice a 0 cx), y] w fun e w' => e = .returned (.int .i32 (si (bEq (gat xs ys 0) 0#32))) ∧ w = w' := by
  have H0 := Lib.hid (gat_0 xs ys)
  subst hx
  obtain ⟨a', c', rfl, h1', h2'⟩ := hy.slice
  unfold maxLen at h2' hcx
  clear hy
  have h0 : decide (ys.length < 0) = false := by simp
  go_enter Tryz.func100, Tryz.ntmps100
  go_wp2
  go_loop [5, 27] (fun t i => i = .int .i64 0 ∧ t = .int .i32 (si (gat [] ys 0))) (fun _ i => 0 - (intOf i).toNat)
  case atStart => exact ⟨rfl, by rw [← H0.out]; rfl⟩
  case round =>
    obtain ⟨rfl, rfl⟩ := hrel
    go_wp2_with fail
    refine (wEqZ _ _).mono ?_
    rintro e w1 ⟨rfl, rfl⟩
    go_wp2
    go_ret
    exact ⟨rfl, rfl⟩
set_option maxHeartbeats 1000000 in
theorem same_y0 (w : World) (xs ys : List Int) (hn : xs.length ≤ 2147483647) (hm : ys.length ≤ 2147483647) (a : Option Addr) (x : Value) (cx : Nat) (hcx : cx ≤ maxLen) (hx : Vw w x xs) (hy : ys = []) (h0 : xs ≠ []) :
    Calls Tryz.prog 100 #[x, (.slice a 0 cx)] w fun e w' => e = .returned (.int .i32 (si (bEq (gat xs ys 0) 0#32))) ∧ w = w' := by
  have H0 := Lib.hid (gat_0 xs ys)
  subst hy
  obtain ⟨a', c', rfl, h1', h2'⟩ := hx.slice
  unfold maxLen at h2' hcx
  clear hx
  have h0 : 0 < xs.length := List.length_pos_iff.2 h0
  go_enter Tryz.func100, Tryz.ntmps100
  go_wp2
  go_loop [5, 27] (fun t i => i = .int .i64 0 ∧ t = .int .i32 (si (gat xs [] 0))) (fun _ i => 0 - (intOf i).toNat)
  case atStart => exact ⟨rfl, by rw [← H0.out]; rfl⟩
  case round =>
    obtain ⟨rfl, rfl⟩ := hrel
    go_wp2_with fail
    refine (wEqZ _ _).mono ?_
    rintro e w1 ⟨rfl, rfl⟩
    go_wp2
    go_ret
    exact ⟨rfl, rfl⟩
set_option maxHeartbeats 1000000 in
theorem same_lt (w : World) (xs ys : List Int) (hn : xs.length ≤ 2147483647) (hm : ys.length ≤ 2147483647) (g off c g' off' c' : Nat) (h1 : xs.length ≤ c) (h2 : c ≤ maxLen) (h1' : ys.length ≤ c') (h2' : c' ≤ maxLen)
    (h3 : ∀ j, j < xs.length → w.cell? ⟨g, off + j, none⟩ = some (.int .u8 (nthB xs j))) (h3' : ∀ j, j < ys.length → w.cell? ⟨g', off' + j, none⟩ = some (.int .u8 (nthB ys j))) (hlt0 : ys.length < xs.length) :
    Calls Tryz.prog 100 #[.slice (some ⟨g, off, none⟩) xs.length c, .slice (some ⟨g', off', none⟩) ys.length c'] w fun e w' => e = .returned (.int .i32 (si (bEq (gat xs ys ys.length) 0#32))) ∧ w = w' := by
  unfold maxLen at h2 h2'
  have H0 := Lib.hid (gat_0 xs ys)
  have H3 := Lib.hid h3
  have H3' := Lib.hid h3'
  clear h3 h3'
  go_enter Tryz.func100, Tryz.ntmps100
  go_wp2
  go_loop [5, 27] (fun t i => ∃ k : Nat, k ≤ ys.length ∧ i = .int .i64 k ∧ t = .int .i32 (si (gat xs ys k))) (fun _ i => ys.length - (intOf i).toNat)
  case atStart => exact ⟨0, Nat.zero_le _, rfl, by rw [H0.out]⟩
  case round =>
    obtain ⟨k, hk, rfl, rfl⟩ := hrel
    by_cases hlt : k < ys.length
    · have c1 := H3.out k (by omega)
      have c2 := H3'.out k hlt
      have hg := gat_or xs ys k
      go_wp2
      go_round
      case rel => exact ⟨k + 1, by omega, by go_num, rfl⟩
      case measure => simp [intOf]; omega
    · have HK := Lib.hid (show k = ys.length by omega)
      go_wp2_with fail
      refine (wEqZ _ _).mono ?_
      rintro e w1 ⟨rfl, rfl⟩
      go_wp2
      go_ret
      exact ⟨ret_i32 (by rw [HK.out]), rfl⟩
set_option maxHeartbeats 1000000 in
theorem same_ge (w : World) (xs ys : List Int) (hn : xs.length ≤ 2147483647) (hm : ys.length ≤ 2147483647) (g off c g' off' c' : Nat) (h1 : xs.length ≤ c) (h2 : c ≤ maxLen) (h1' : ys.length ≤ c') (h2' : c' ≤ maxLen)
    (h3 : ∀ j, j < xs.length → w.cell? ⟨g, off + j, none⟩ = some (.int .u8 (nthB xs j))) (h3' : ∀ j, j < ys.length → w.cell? ⟨g', off' + j, none⟩ = some (.int .u8 (nthB ys j))) (hlt0 : ¬ ys.length < xs.length) :
    Calls Tryz.prog 100 #[.slice (some ⟨g, off, none⟩) xs.length c, .slice (some ⟨g', off', none⟩) ys.length c'] w fun e w' => e = .returned (.int .i32 (si (bEq (gat xs ys xs.length) 0#32))) ∧ w = w' := by
  unfold maxLen at h2 h2'
  have H0 := Lib.hid (gat_0 xs ys)
  have H3 := Lib.hid h3
  have H3' := Lib.hid h3'
  clear h3 h3'
  go_enter Tryz.func100, Tryz.ntmps100
  go_wp2
  go_loop [5, 27] (fun t i => ∃ k : Nat, k ≤ xs.length ∧ i = .int .i64 k ∧ t = .int .i32 (si (gat xs ys k))) (fun _ i => xs.length - (intOf i).toNat)
  case atStart => exact ⟨0, Nat.zero_le _, rfl, by rw [H0.out]⟩
  case round =>
    obtain ⟨k, hk, rfl, rfl⟩ := hrel
    by_cases hlt : k < xs.length
    · have c1 := H3.out k hlt
      have c2 := H3'.out k (by omega)
      have hg := gat_or xs ys k
      go_wp2
      go_round
      case rel => exact ⟨k + 1, by omega, by go_num, rfl⟩
      case measure => simp [intOf]; omega
    · have HK := Lib.hid (show k = xs.length by omega)
      go_wp2_with fail
      refine (wEqZ _ _).mono ?_
      rintro e w1 ⟨rfl, rfl⟩
      go_wp2
      go_ret
      exact ⟨ret_i32 (by rw [HK.out]), rfl⟩
theorem same_gat (w : World) (x y : Value) (xs ys : List Int) (hx : Vw w x xs) (hy : Vw w y ys) (hn : xs.length ≤ 2147483647) (hm : ys.length ≤ 2147483647) :
    Calls Tryz.prog 100 #[x, y] w fun e w' => e = .returned (.int .i32 (si (bEq (gat xs ys (min xs.length ys.length)) 0#32))) ∧ w = w' := by
  by_cases h0 : xs = []
  · obtain ⟨a, c, rfl, h1, h2⟩ := hx.slice
    subst h0
    have := same_x0 w [] ys hn hm a y c h2 rfl hy
    simpa using this
  · by_cases h0' : ys = []
    · obtain ⟨a, c, rfl, h1, h2⟩ := hy.slice
      subst h0'
      have := same_y0 w xs [] hn hm a x c h2 hx rfl h0
      simpa using this
    · rcases hx.2 with ⟨_, h⟩ | ⟨g, off, c, rfl, h1, h2, h3⟩
      · exact absurd h h0
      · rcases hy.2 with ⟨_, h⟩ | ⟨g', off', c', rfl, h1', h2', h3'⟩
        · exact absurd h h0'
        · by_cases hlt : ys.length < xs.length
          · rw [show min xs.length ys.length = ys.length by omega]
            exact same_lt w xs ys hn hm g off c g' off' c' h1 h2 h1' h2' h3 h3' hlt
          · rw [show min xs.length ys.length = xs.length by omega]
            exact same_ge w xs ys hn hm g off c g' off' c' h1 h2 h1' h2' h3 h3' hlt
theorem xor_i64 (m n : Nat) (hm : m < 2147483648) (hn : n < 2147483648) : bits .xor .i64 (m : Int) (n : Int) = ((m ^^^ n : Nat) : Int) := by
  have hx : m ^^^ n < 2 ^ 31 := Nat.xor_lt_two_pow (by omega) (by omega)
  unfold bits
  simp only [IntKind.bits, BitVec.ofInt_natCast]
  have e : (BitVec.ofNat 64 m ^^^ BitVec.ofNat 64 n).toNat = m ^^^ n := by
    rw [BitVec.toNat_xor, BitVec.toNat_ofNat, BitVec.toNat_ofNat, Nat.mod_eq_of_lt (by omega), Nat.mod_eq_of_lt (by omega)]
  exact (congrArg (fun k : Nat => IntKind.i64.wrap (k : Int)) e).trans (IntWalk.i64_in _ (by omega))
theorem xor_u8 (m n : Nat) (hm : m < 256) (hn : n < 256) : bits .xor .u8 (m : Int) (n : Int) = ((m ^^^ n : Nat) : Int) := by
  have hx : m ^^^ n < 2 ^ 8 := Nat.xor_lt_two_pow (by omega) (by omega)
  unfold bits
  simp only [IntKind.bits, BitVec.ofInt_natCast]
  have e : (BitVec.ofNat 8 m ^^^ BitVec.ofNat 8 n).toNat = m ^^^ n := by
    rw [BitVec.toNat_xor, BitVec.toNat_ofNat, BitVec.toNat_ofNat, Nat.mod_eq_of_lt (by omega), Nat.mod_eq_of_lt (by omega)]
  exact (congrArg (fun k : Nat => IntKind.u8.wrap (k : Int)) e).trans (IntWalk.u8_in _ (by omega))
theorem xor_zero32 (m n : Nat) (hm : m < 2147483648) (hn : n < 2147483648) : BitVec.ofInt 32 ((m ^^^ n : Nat) : Int) = 0#32 ↔ m = n := by
  have hx : m ^^^ n < 2 ^ 31 := Nat.xor_lt_two_pow (by omega) (by omega)
  rw [BitVec.ofInt_natCast]
  constructor
  · intro h
    have h2 := congrArg BitVec.toNat h
    rw [BitVec.toNat_ofNat, Nat.mod_eq_of_lt (by omega)] at h2
    have h3 : (m ^^^ n) ^^^ n = m := by rw [Nat.xor_assoc, Nat.xor_self, Nat.xor_zero]
    rw [h2, show (0#32).toNat = 0 from rfl, Nat.zero_xor] at h3
    exact h3.symm
  · rintro rfl; rw [Nat.xor_self]
theorem nth_range (xs : List Int) (h : ∀ v ∈ xs, 0 ≤ v ∧ v ≤ 255) (k : Nat) : 0 ≤ nthB xs k ∧ nthB xs k ≤ 255 := by
  by_cases hk : k < xs.length
  · rw [nthB_in _ hk]; exact h _ (List.getElem_mem hk)
  · rw [nthB_out _ hk]; omega
theorem gat_zero_k (xs ys : List Int) (hx : ∀ v ∈ xs, 0 ≤ v ∧ v ≤ 255) (hy : ∀ v ∈ ys, 0 ≤ v ∧ v ≤ 255) (hn : xs.length ≤ 2147483647) (hm : ys.length ≤ 2147483647) (k : Nat) :
    gat xs ys k = 0#32 ↔ xs.length = ys.length ∧ ∀ j, j < k → nthB xs j = nthB ys j := by
  induction k with
  | zero =>
    unfold gat
    rw [xor_i64 _ _ (by omega) (by omega), xor_zero32 _ _ (by omega) (by omega)]
    exact ⟨fun h => ⟨h, fun j hj => absurd hj (by omega)⟩, fun h => h.1⟩
  | succ k ih =>
    unfold gat
    have h1 := nth_range xs hx k
    have h2 := nth_range ys hy k
    obtain ⟨p, hp⟩ := Int.eq_ofNat_of_zero_le h1.1
    obtain ⟨q, hq⟩ := Int.eq_ofNat_of_zero_le h2.1
    rw [BitVec.or_eq_zero_iff, ih, hp, hq, xor_u8 _ _ (by omega) (by omega), xor_zero32 _ _ (by omega) (by omega)]
    constructor
    · rintro ⟨⟨a, b⟩, c⟩
      refine ⟨a, fun j hj => ?_⟩
      by_cases e : j = k
      · subst e; omega
      · exact b j (by omega)
    · rintro ⟨a, b⟩
      exact ⟨⟨a, fun j hj => b j (by omega)⟩, by have := b k (by omega); omega⟩
theorem gat_zero (xs ys : List Int) (hx : ∀ v ∈ xs, 0 ≤ v ∧ v ≤ 255) (hy : ∀ v ∈ ys, 0 ≤ v ∧ v ≤ 255) (hn : xs.length ≤ 2147483647) (hm : ys.length ≤ 2147483647) :
    gat xs ys (min xs.length ys.length) = 0#32 ↔ xs = ys := by
  rw [gat_zero_k xs ys hx hy hn hm]
  constructor
  · rintro ⟨a, b⟩
    refine List.ext_getElem a (fun i h1 h2 => ?_)
    have := b i (by omega)
    rwa [nthB_in _ h1, nthB_in _ h2] at this
  · rintro rfl
    exact ⟨rfl, fun _ _ => rfl⟩
theorem same (w : World) (x y : Value) (xs ys : List Int) (hx : Vw w x xs) (hy : Vw w y ys) (hn : xs.length ≤ 2147483647) (hm : ys.length ≤ 2147483647) :
    Calls Tryz.prog 100 #[x, y] w fun e w' => e = .returned (.int .i32 (si (bit (decide (xs = ys))))) ∧ w = w' := by
  refine (same_gat w x y xs ys hx hy hn hm).mono fun e w' ⟨he, hw⟩ => ⟨he.trans (ret_i32 ?_), hw⟩
  have h : (gat xs ys (min xs.length ys.length) == 0#32) = decide (xs = ys) := by
    rw [Bool.eq_iff_iff]; simp only [beq_iff_eq, decide_eq_true_eq]; exact gat_zero xs ys hx.1 hy.1 hn hm
  unfold bEq; rw [h]
theorem strOf_inj (xs ys : List Int) (hx : ∀ v ∈ xs, 0 ≤ v ∧ v ≤ 255) (hy : ∀ v ∈ ys, 0 ≤ v ∧ v ≤ 255) (h : strOfNums xs = strOfNums ys) : xs = ys := by
  have h2 : (strOfNums xs).data.toList = (strOfNums ys).data.toList := by rw [h]
  rw [strOfNums_data, strOfNums_data] at h2
  have inv : ∀ zs : List Int, (∀ v ∈ zs, 0 ≤ v ∧ v ≤ 255) → (zs.map fun n => UInt8.ofNat n.toNat).map (fun b => (b.toNat : Int)) = zs := by
    intro zs hz
    rw [List.map_map]
    conv => rhs; rw [← List.map_id zs]
    refine List.map_congr_left fun v hv => ?_
    have := hz v hv
    simp only [Function.comp, id]
    rw [UInt8.toNat_ofNat']
    omega
  rw [← inv xs hx, ← inv ys hy, h2]
theorem str_cv {w : World} {v : Value} {ys : List Int} (h : Vw w v ys) : (convert 81 9 v).run Tryz.prog w = .ok (.string (strOfNums ys)) w :=
  run_str Tryz.underlying81 Tryz.underlying5 Tryz.underlying9 h
theorem str_same (xs ys : List Int) (hx : ∀ v ∈ xs, 0 ≤ v ∧ v ≤ 255) (hy : ∀ v ∈ ys, 0 ≤ v ∧ v ≤ 255) : ((strOfNums xs).toList == (strOfNums ys).toList) = decide (xs = ys) := by
  rw [Bool.eq_iff_iff, beq_iff_eq, decide_eq_true_eq]
  constructor
  · intro h
    refine strOf_inj xs ys hx hy ?_
    have h2 : (strOfNums xs).data.toList = (strOfNums ys).data.toList := by
      rw [Lib.strOfNums_toList, Lib.strOfNums_toList] at h
      exact h
    have h3 : (strOfNums xs).data = (strOfNums ys).data := Array.toList_inj.1 h2
    exact ByteArray.ext h3
  · rintro rfl; rfl
theorem same_yes (w : World) (x y : Value) (xs ys : List Int) (hx : Vw w x xs) (hy : Vw w y ys) (hn : xs.length ≤ 2147483647) (hm : ys.length ≤ 2147483647) (h : xs = ys) :
    Calls Tryz.prog 100 #[x, y] w fun e w' => e = .returned (.int .i32 1) ∧ w = w' := by
  have := same w x y xs ys hx hy hn hm
  rw [decide_eq_true h, show si (bit true) = 1 from by decide +kernel] at this; exact this
theorem same_no (w : World) (x y : Value) (xs ys : List Int) (hx : Vw w x xs) (hy : Vw w y ys) (hn : xs.length ≤ 2147483647) (hm : ys.length ≤ 2147483647) (h : ¬ xs = ys) :
    Calls Tryz.prog 100 #[x, y] w fun e w' => e = .returned (.int .i32 0) ∧ w = w' := by
  have := same w x y xs ys hx hy hn hm
  rw [decide_eq_false h, show si (bit false) = 0 from by decide +kernel] at this; exact this
end Go.Proofs.YtdmadfahgkikkaaGreat

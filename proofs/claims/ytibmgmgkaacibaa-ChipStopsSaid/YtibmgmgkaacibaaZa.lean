/- Plain facts on the rows of package thumb's table: which bits of a halfword each mask takes, what a row has, takes, lays. No program is named here. -/
import Derived.WalkKit
import Derived.WalkSpells
import Derived.Laws.BitsAll
import Derived.KernelRfl
namespace Go.Proofs.Ytibmgmgkaacibaa
open Go.RowKit
set_option linter.unusedVariables false

/-- the number whose bits stand at these places -/
def msk : List Nat → Nat
  | [] => 0
  | p :: l => 2 ^ p + msk l
/-- the bits of h at these places, as one number -/
def ga (h : Nat) : List Nat → Nat
  | [] => 0
  | p :: l => h / 2 ^ p % 2 + 2 * ga h l
/-- the lowest bits of n, laid at these places -/
def sp (n : Int) : List Nat → Nat
  | [] => 0
  | p :: l => (n % 2).toNat * 2 ^ p + sp (n / 2) l

/-- the table's masks -/
def maskL : List (List Nat) := [[], [0, 1, 2], [3, 4, 5], [6, 7, 8], [6, 7, 8, 9, 10], [0, 1, 2, 3, 4, 5, 6, 7], [9], [11, 12], [8, 9, 10], [6, 7, 8, 9], [0, 1, 2, 7], [3, 4, 5, 6], [7], [0, 1, 2, 3, 4, 5, 6], [0, 1, 2, 3, 4, 5, 6, 7, 8], [8, 9, 10, 11], [0, 1, 2, 3, 4, 5, 6, 7, 8, 9, 10]]
def OkM (l : List Nat) : Prop := l ∈ maskL
def OkL (l : List Nat) : Prop := ∃ m ∈ maskL, ∃ k < 12, l = m.drop k
theorem OkM.okL {l : List Nat} (h : OkM l) : OkL l := ⟨l, h, 0, by decide, rfl⟩
def tailB (l : List Nat) : Bool := match l with
  | [] => true
  | p :: r => decide (p < 16) && decide (msk l < 65536) && decide (msk l &&& (65536 - msk l) = 2 ^ p) && decide (msk l &&& (msk l - 1) = msk r) && r.all (fun q => decide (p < q))
theorem tails_ok : maskL.all (fun m => (List.range 12).all (fun k => tailB (m.drop k))) = true := by decide +kernel
theorem mask_len : maskL.all (fun m => decide (m.length < 12)) = true := by decide +kernel
theorem OkL.tailB {l : List Nat} (h : OkL l) : tailB l = true := by
  obtain ⟨m, hm, k, hk, rfl⟩ := h
  exact List.all_eq_true.1 (List.all_eq_true.1 tails_ok m hm) k (List.mem_range.2 hk)
theorem OkL.tail {p : Nat} {l : List Nat} (h : OkL (p :: l)) : OkL l := by
  obtain ⟨m, hm, k, hk, e⟩ := h
  have hl : m.length < 12 := of_decide_eq_true (List.all_eq_true.1 mask_len m hm)
  have h1 : (m.drop k).length = m.length - k := by simp
  rw [← e] at h1
  simp at h1
  refine ⟨m, hm, k + 1, by omega, ?_⟩
  rw [← List.drop_drop, ← e]; rfl
theorem OkL.cons {p : Nat} {l : List Nat} (h : OkL (p :: l)) : p < 16 ∧ msk (p :: l) < 65536 ∧ msk (p :: l) &&& (65536 - msk (p :: l)) = 2 ^ p ∧ msk (p :: l) &&& (msk (p :: l) - 1) = msk l ∧ ∀ q ∈ l, p < q := by
  have := h.tailB
  unfold Go.Proofs.Ytibmgmgkaacibaa.tailB at this
  simp only [Bool.and_eq_true, decide_eq_true_eq, List.all_eq_true] at this
  exact ⟨this.1.1.1.1, this.1.1.1.2, this.1.1.2, this.1.2, this.2⟩
theorem OkL.lt {l : List Nat} (h : OkL l) : msk l < 65536 := by
  cases l with
  | nil => simp [msk]
  | cons p l => exact h.cons.2.1
theorem msk_pos (p : Nat) (l : List Nat) : 0 < msk (p :: l) := by have := Nat.two_pow_pos p; simp only [msk]; omega
theorem msk_tail (p : Nat) (l : List Nat) : msk l < msk (p :: l) := by have := Nat.two_pow_pos p; simp only [msk]; omega

theorem nat_bit (h p : Nat) : h &&& 2 ^ p = h / 2 ^ p % 2 * 2 ^ p := by
  have := nat_midmask (p + 1) p h (by omega)
  rw [show 2 ^ (p + 1) - 2 ^ p = 2 ^ p by rw [Nat.pow_succ]; omega, Nat.pow_succ, Nat.mod_mul_right_div_self] at this
  exact this
/-- what gather asks of h at its mask's lowest bit -/
theorem ga_test {p : Nat} {l : List Nat} (hl : OkL (p :: l)) {h : Nat} (hh : h < 65536) :
    bits .and .u16 (bits .and .u16 (h : Int) (msk (p :: l) : Int)) ((65536 - msk (p :: l) : Nat) : Int) = ((h / 2 ^ p % 2 * 2 ^ p : Nat) : Int) := by
  obtain ⟨h1, h2, h3, h4, h5⟩ := hl.cons
  have h6 := msk_pos p l
  rw [u16_and_nat h _ hh h2, u16_and_nat _ _ (Nat.lt_of_le_of_lt Nat.and_le_left hh) (by omega), Nat.and_assoc, h3, nat_bit]
theorem low_bit {p : Nat} {l : List Nat} (hl : OkL (p :: l)) :
    bits .and .u16 (msk (p :: l) : Int) ((65536 - msk (p :: l) : Nat) : Int) = ((2 ^ p : Nat) : Int) := by
  obtain ⟨h1, h2, h3, h4, h5⟩ := hl.cons
  have h6 := msk_pos p l
  rw [u16_and_nat _ _ h2 (by omega), h3]
theorem next_mask {p : Nat} {l : List Nat} (hl : OkL (p :: l)) :
    bits .and .u16 (msk (p :: l) : Int) ((msk (p :: l) - 1 : Nat) : Int) = (msk l : Int) := by
  obtain ⟨h1, h2, h3, h4, h5⟩ := hl.cons
  rw [u16_and_nat _ _ h2 (by omega), h4]
theorem neg_mask {l : List Nat} (hl : OkL l) (h0 : 0 < msk l) : IntKind.u16.wrap (-(msk l : Int)) = ((65536 - msk l : Nat) : Int) := by
  have := hl.lt
  rw [IntKind.wrap_u16]; omega
theorem i64_or_bit (n k : Nat) (hn : n < 2 ^ k) (hk : k < 40) : bits .or .i64 (n : Int) ((2 ^ k : Nat) : Int) = ((n + 2 ^ k : Nat) : Int) := by
  have h1 : (2 : Nat) ^ k < 2 ^ 40 := Nat.pow_lt_pow_right (by decide) hk
  rw [(bits_nat .i64 41 (by decide) (fun n h h' => by rw [IntKind.wrap_i64]; omega) n (2 ^ k) (by omega) (by omega)).2]
  congr 1
  have := Nat.two_pow_add_eq_or_of_lt hn 1
  rw [Nat.mul_one] at this
  rw [Nat.or_comm, ← this]; omega
theorem u16_or_bit (n p : Nat) (hn : n < 2 ^ p) (hp : p < 16) : bits .or .u16 (n : Int) ((2 ^ p : Nat) : Int) = ((n + 2 ^ p : Nat) : Int) := by
  have h1 : (2 : Nat) ^ p ≤ 2 ^ 15 := Nat.pow_le_pow_right (by decide) (by omega)
  rw [u16_or_nat n (2 ^ p) (by omega) (by omega)]
  congr 1
  have := Nat.two_pow_add_eq_or_of_lt hn 1
  rw [Nat.mul_one] at this
  rw [Nat.or_comm, ← this]; omega

theorem ga_lt (h : Nat) (l : List Nat) : ga h l < 2 ^ l.length := by
  induction l with
  | nil => simp [ga]
  | cons p l ih => simp only [ga, List.length_cons, Nat.pow_succ]; omega
/-- a mask of places that follow one another -/
theorem ga_run (h : Nat) : ∀ (w lo : Nat), ga h (List.range' lo w) = h / 2 ^ lo % 2 ^ w
  | 0, lo => by simp [ga, Nat.mod_one]
  | w + 1, lo => by
    rw [List.range'_succ]
    simp only [ga]
    rw [ga_run h w (lo + 1), Nat.pow_succ 2 lo, ← Nat.div_div_eq_div_mul, Nat.pow_succ, Nat.mul_comm (2 ^ w) 2, Nat.mod_mul]
theorem int_mod_two (n B : Int) (hB : 0 < B) : n % (2 * B) = n % 2 + 2 * (n / 2 % B) := by
  have h1 := Int.emod_add_mul_ediv n 2
  have h2 := Int.emod_add_mul_ediv (n / 2) B
  have h3 := Int.emod_nonneg (n / 2) (by omega : B ≠ 0)
  have h4 := Int.emod_lt_of_pos (n / 2) hB
  have h5 : n = (n % 2 + 2 * (n / 2 % B)) + 2 * B * (n / 2 / B) := by
    rw [Int.mul_assoc]; omega
  generalize n / 2 / B = s at *
  generalize n / 2 % B = t at *
  have h6 : 0 ≤ n % 2 ∧ n % 2 < 2 := by omega
  generalize n % 2 = r at *
  rw [h5, Int.add_mul_emod_self_left]
  exact Int.emod_eq_of_lt (by omega) (by omega)
theorem sp_run : ∀ (w lo : Nat) (n : Int), sp n (List.range' lo w) = (n % 2 ^ w).toNat * 2 ^ lo
  | 0, lo, n => by simp [sp, Int.emod_one]
  | w + 1, lo, n => by
    rw [List.range'_succ]
    simp only [sp]
    rw [sp_run w (lo + 1) (n / 2)]
    have hB : (0 : Int) < 2 ^ w := Int.pow_pos (by decide)
    have e := int_mod_two n (2 ^ w) hB
    have e2 : (2 : Int) ^ (w + 1) = 2 * 2 ^ w := by rw [Int.pow_succ, Int.mul_comm]
    rw [e2, e]
    have h3 := Int.emod_nonneg (n / 2) (by omega : (2 : Int) ^ w ≠ 0)
    have h6 : 0 ≤ n % 2 := by omega
    generalize n / 2 % 2 ^ w = t at *
    generalize n % 2 = r at *
    rw [show (r + 2 * t).toNat = r.toNat + t.toNat * 2 by omega, Nat.add_mul, Nat.pow_succ 2 lo, Nat.mul_comm (2 ^ lo) 2, Nat.mul_assoc]

/-- an instruction -/
structure I6 where
  op : Int
  d : Int
  n : Int
  m : Int
  imm : Int
  cond : Int
deriving DecidableEq
abbrev I6.val (i : I6) : Value := .agg #[.int .i64 i.op, .int .i64 i.d, .int .i64 i.n, .int .i64 i.m, .int .i64 i.imm, .int .i64 i.cond]
def I6.zero : I6 := ⟨0, 0, 0, 0, 0, 0⟩
def i64R (x : Int) : Prop := -9223372036854775808 ≤ x ∧ x ≤ 9223372036854775807
structure I6.Ok (i : I6) : Prop where
  op : i64R i.op
  d : i64R i.d
  n : i64R i.n
  m : i64R i.m
  imm : i64R i.imm
  cond : i64R i.cond
/-- a row of the table -/
structure Rw where
  first : Int
  fixed : Nat
  p : List Nat
  d : List Nat
  n : List Nat
  m : List Nat
  imm : List Nat
  cond : List Nat
  least : Int
  most : Int
  halved : Nat
abbrev Rw.cells (r : Rw) : Array Value := #[.int .i64 r.first, .int .u16 (r.fixed : Int), .int .u16 (msk r.p : Int), .int .u16 (msk r.d : Int), .int .u16 (msk r.n : Int), .int .u16 (msk r.m : Int), .int .u16 (msk r.imm : Int), .int .u16 (msk r.cond : Int), .int .i32 r.least, .int .i32 r.most, .int .u8 (r.halved : Int)]
abbrev Rw.val (r : Rw) : Value := .agg r.cells
def rowL : List Rw := [
  ⟨1, 0, [], [0, 1, 2], [], [3, 4, 5], [6, 7, 8, 9, 10], [], 0, 31, 0⟩,
  ⟨2, 2048, [], [0, 1, 2], [], [3, 4, 5], [6, 7, 8, 9, 10], [], 1, 32, 0⟩,
  ⟨3, 4096, [], [0, 1, 2], [], [3, 4, 5], [6, 7, 8, 9, 10], [], 1, 32, 0⟩,
  ⟨4, 6144, [9], [0, 1, 2], [3, 4, 5], [6, 7, 8], [], [], 0, 0, 0⟩,
  ⟨6, 7168, [9], [0, 1, 2], [3, 4, 5], [], [6, 7, 8], [], 0, 7, 0⟩,
  ⟨8, 8192, [11, 12], [8, 9, 10], [], [], [0, 1, 2, 3, 4, 5, 6, 7], [], 0, 255, 0⟩,
  ⟨12, 16384, [6, 7, 8, 9], [0, 1, 2], [], [3, 4, 5], [], [], 0, 0, 0⟩,
  ⟨28, 17920, [], [0, 1, 2, 7], [], [3, 4, 5, 6], [], [], 0, 0, 0⟩,
  ⟨30, 20480, [], [0, 1, 2], [3, 4, 5], [6, 7, 8], [], [], 0, 0, 0⟩,
  ⟨29, 22528, [], [0, 1, 2], [3, 4, 5], [6, 7, 8], [], [], 0, 0, 0⟩,
  ⟨32, 24576, [], [0, 1, 2], [3, 4, 5], [], [6, 7, 8, 9, 10], [], 0, 124, 2⟩,
  ⟨31, 26624, [], [0, 1, 2], [3, 4, 5], [], [6, 7, 8, 9, 10], [], 0, 124, 2⟩,
  ⟨34, 28672, [], [0, 1, 2], [3, 4, 5], [], [6, 7, 8, 9, 10], [], 0, 31, 0⟩,
  ⟨33, 30720, [], [0, 1, 2], [3, 4, 5], [], [6, 7, 8, 9, 10], [], 0, 31, 0⟩,
  ⟨36, 36864, [], [8, 9, 10], [], [], [0, 1, 2, 3, 4, 5, 6, 7], [], 0, 1020, 2⟩,
  ⟨35, 38912, [], [8, 9, 10], [], [], [0, 1, 2, 3, 4, 5, 6, 7], [], 0, 1020, 2⟩,
  ⟨37, 45056, [7], [], [], [], [0, 1, 2, 3, 4, 5, 6], [], 0, 508, 2⟩,
  ⟨39, 46080, [], [], [], [], [0, 1, 2, 3, 4, 5, 6, 7, 8], [], 1, 511, 0⟩,
  ⟨40, 48128, [], [], [], [], [0, 1, 2, 3, 4, 5, 6, 7, 8], [], 1, 511, 0⟩,
  ⟨41, 53248, [], [], [], [], [0, 1, 2, 3, 4, 5, 6, 7], [8, 9, 10, 11], -256, 254, 1⟩,
  ⟨42, 57344, [], [], [], [], [0, 1, 2, 3, 4, 5, 6, 7, 8, 9, 10], [], -2048, 2046, 1⟩,
  ⟨43, 61440, [], [], [], [], [], [], -16777216, 16777214, 1⟩,
  ⟨44, 57088, [], [], [], [], [0, 1, 2, 3, 4, 5, 6, 7], [], 0, 255, 0⟩,
  ⟨45, 48896, [], [], [], [], [], [], 0, 0, 0⟩]
structure Rw.Ok (r : Rw) : Prop where
  first : 1 ≤ r.first ∧ r.first ≤ 45
  fixed : r.fixed < 65536
  p : OkM r.p
  d : OkM r.d
  n : OkM r.n
  m : OkM r.m
  imm : OkM r.imm
  cond : OkM r.cond
  least : -16777216 ≤ r.least ∧ r.least ≤ 1
  most : 0 ≤ r.most ∧ r.most ≤ 16777214
  halved : r.halved < 3
def Rw.okB (r : Rw) : Bool := decide (1 ≤ r.first) && decide (r.first ≤ 45) && decide (r.fixed < 65536) && maskL.contains r.p && maskL.contains r.d && maskL.contains r.n && maskL.contains r.m && maskL.contains r.imm && maskL.contains r.cond && decide (-16777216 ≤ r.least) && decide (r.least ≤ 1) && decide (0 ≤ r.most) && decide (r.most ≤ 16777214) && decide (r.halved < 3)
theorem rows_okB : rowL.all Rw.okB = true := by decide +kernel
theorem rows_ok {r : Rw} (h : r ∈ rowL) : r.Ok := by
  have := List.all_eq_true.1 rows_okB r h
  simp only [Rw.okB, Bool.and_eq_true, decide_eq_true_eq, List.contains_iff_mem] at this
  obtain ⟨⟨⟨⟨⟨⟨⟨⟨⟨⟨⟨⟨⟨h1, h2⟩, h3⟩, h4⟩, h5⟩, h6⟩, h7⟩, h8⟩, h9⟩, h10⟩, h11⟩, h12⟩, h13⟩, h14⟩ := this
  exact ⟨⟨h1, h2⟩, h3, h4, h5, h6, h7, h8, h9, ⟨h10, h11⟩, ⟨h12, h13⟩, h14⟩

/-- what is no fixed bit of a row -/
def Rw.tot (r : Rw) : Int := bits .or .u16 (bits .or .u16 (bits .or .u16 (bits .or .u16 (bits .or .u16 (msk r.p : Int) (msk r.d : Int)) (msk r.n : Int)) (msk r.m : Int)) (msk r.imm : Int)) (msk r.cond : Int)
def hasP (r : Rw) (h : Nat) : Bool := bits .andNot .u16 (h : Int) r.tot == (r.fixed : Int)
def fitP (n : Int) (l : List Nat) : Bool := n / 2 ^ l.length == 0
def leastP (least n : Int) (width : Nat) : Int := least + (n - least) % 2 ^ width
def takeP (r : Rw) (h : Nat) : I6 := ⟨r.first + (ga h r.p : Int), (ga h r.d : Int), (ga h r.n : Int), (ga h r.m : Int), leastP r.least ((ga h r.imm : Int) * 2 ^ r.halved) (r.imm.length + r.halved), (ga h r.cond : Int)⟩
def barP (i : I6) : Bool := if i.op == 28 then (i.d == 13 || i.d == 15 || i.m == 15) else (i.op == 41 && decide (13 < i.cond))
def mayP (r : Rw) (i : I6) : Bool := fitP i.d r.d && fitP i.n r.n && fitP i.m r.m && fitP i.cond r.cond && decide (r.least ≤ i.imm) && decide (i.imm ≤ r.most) && (i.imm % 2 ^ r.halved == 0) && !barP i
def layP (r : Rw) (i : I6) : Int := bits .or .u16 (bits .or .u16 (bits .or .u16 (bits .or .u16 (bits .or .u16 (bits .or .u16 (r.fixed : Int) (sp (i.op - r.first) r.p : Int)) (sp i.d r.d : Int)) (sp i.n r.n : Int)) (sp i.m r.m : Int)) (sp (i.imm / 2 ^ r.halved) r.imm : Int)) (sp i.cond r.cond : Int)
/-- the row of an instruction -/
def rowOfP (op : Int) : Option Rw := rowL.find? fun r => fitP (op - r.first) r.p
def rightP (i : I6) : Bool := match rowOfP i.op with
  | some r => mayP r i
  | none => false
def decP (h : Nat) : Option I6 := (rowL.find? fun r => hasP r h && mayP r (takeP r h)).map fun r => takeP r h
end Go.Proofs.Ytibmgmgkaacibaa

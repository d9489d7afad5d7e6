/- Lists of images; who is called, plainly. -/
import Derived.Test.YtkjmpobbbjljjaaDoorLb
import Derived.Test.YtkjmpobbbjljjaaDoorIs
import Derived.LoopTactic
namespace Go.Proofs.YtkjmpobbbjljjaaDoor
open Go.RowKit Go.Lib
set_option linter.unusedVariables false
set_option linter.unusedSimpArgs false

theorem bneT {n m : Int} (h : (n == m) = true) : (n != m) = false := by simp only [bne, h]; rfl
theorem bneF {n m : Int} (h : (n == m) = false) : (n != m) = true := by simp only [bne, h]; rfl
def eqB (a b : Int) : Bool := a == b
theorem allB_eq {A B : List Int} : allB eqB A B = true ↔ A = B := by
  rw [allB_iff]
  constructor
  · rintro ⟨hl, h⟩
    refine List.ext_getElem hl fun i h1 h2 => ?_
    have := h i h1
    simpa [eqB, List.getD, h1, h2] using this
  · rintro rfl
    exact ⟨rfl, fun j _ => by simp [eqB]⟩

set_option maxRecDepth 100000 in
set_option maxHeartbeats 4000000 in
theorem vEqual (w : World) (v u : Value) (L M : List Int) (h : Ints w v L) (k : Ints w u M) :
    Calls Tryd.prog 25 #[v, u] w fun e w' => e = .returned (.bool (allB eqB L M)) ∧ Upd (fun _ => False) w w' := by
  have HL := Lib.hid h
  have HM := Lib.hid k
  obtain ⟨a, c, rfl, h1, h2⟩ := h.slice
  obtain ⟨a', c', rfl, h1', h2'⟩ := k.slice
  clear h k
  unfold maxLen at h2 h2'
  by_cases hl : L.length = M.length
  · have hb : ((L.length : Int) == (M.length : Int)) = true := by simp [hl]
    have hb' : ((L.length : Int) != (M.length : Int)) = false := by simp [bne, hb]
    have H0 := Lib.hid (Upd.refl (fun _ => False) w)
    have HT0 : Hid (∀ j, j < 0 → eqB (L.getD j 0) (M.getD j 0) = true) := Lib.hid (fun j hj => absurd hj (Nat.not_lt_zero j))
    have HEQ := Lib.hid hl
    have hle : L.length ≤ M.length := by omega
    have hge : M.length ≤ L.length := by omega
    clear hl
    go_enter Tryd.func25, Tryd.ntmps25
    go_wp2_with fail
    go_loopw [13, 5] (fun i _ wr => ∃ k : Nat, k ≤ L.length ∧ i = .int .i64 k ∧ Hid (Upd (fun _ => False) w wr) ∧ Hid (∀ j, j < k → eqB (L.getD j 0) (M.getD j 0) = true)) (fun i _ _ => L.length - (intOf i).toNat)
    case atStart => exact ⟨0, Nat.zero_le _, rfl, H0, HT0⟩
    case round =>
      obtain ⟨k, hk, rfl, HU, HT⟩ := hrel
      by_cases hlt : k < L.length
      · have hltm : k < M.length := by omega
        obtain ⟨g1, o1, rfl, hc1, -⟩ := (HL.out.later (lbBelow HU.out)).at hlt
        obtain ⟨g2, o2, rfl, hc2, -⟩ := (HM.out.later (lbBelow HU.out)).at hltm
        obtain ⟨n, hn⟩ : ∃ n, n = L.getD k 0 := ⟨_, rfl⟩
        obtain ⟨m, hm⟩ : ∃ m, m = M.getD k 0 := ⟨_, rfl⟩
        rw [← hn] at hc1
        rw [← hm] at hc2
        have HN := Lib.hid hn
        have HMM := Lib.hid hm
        have hi1 : (0 : Int) ≤ (k : Int) := Int.natCast_nonneg _
        have hi2 : (k : Int) < (L.length : Int) := by omega
        have hi3 : (k : Int) < (M.length : Int) := by omega
        clear hn hm
        cases hq : (n == m) with
        | true =>
          have HT2 := Lib.hid (upto_succ (f := fun j => eqB (L.getD j 0) (M.getD j 0)) HT.out (by show eqB (L.getD k 0) (M.getD k 0) = true; rw [← HN.out, ← HMM.out]; exact hq))
          first | have hq' := bneT hq | have hq' := bneF hq
          go_wp2_with fail
          go_quiet (fail)
          go_wp2_with fail
          go_roundw
          case rel => exact ⟨k + 1, by omega, by go_num, Lib.hid (HU.out.trans (lbDrewN (fun _ => False) _ _) (fun _ h _ => h)), HT2⟩
          case measure => simp [intOf]; omega
        | false =>
          have HF := Lib.hid (allB_no (f := eqB) (A := L) (B := M) hlt (by rw [← HN.out, ← HMM.out]; exact hq))
          first | have hq' := bneT hq | have hq' := bneF hq
          go_wp2_with fail
          go_quiet (fail)
          go_wp2_with fail
          go_ret
          exact ⟨lbRet HF.out.symm, HU.out.trans (lbDrewN (fun _ => False) _ _) (fun _ h _ => h)⟩
      · have HE := Lib.hid (allB_yes (f := eqB) HEQ.out (by omega) HT.out)
        go_wp2_with fail
        go_ret
        exact ⟨lbRet HE.out.symm, HU.out⟩
  · have hb : ((L.length : Int) == (M.length : Int)) = false := beq_eq_false_iff_ne.2 (by omega)
    have hb' : ((L.length : Int) != (M.length : Int)) = true := by simp [bne, hb]
    have HF := Lib.hid (allB_len (f := eqB) hl)
    clear hl
    go_enter Tryd.func25, Tryd.ntmps25
    go_wp2_with fail
    go_ret
    exact ⟨lbRet HF.out.symm, Upd.refl _ _⟩

/-- an image, and its lists as they lie in memory -/
abbrev PIm := ImgM × Value × Value × Value × Value
def pv (p : PIm) : Value := img5 p.1.name p.2.1 p.2.2.1 p.2.2.2.1 p.2.2.2.2
def pimC (p : PIm) : List Value := [.string p.1.name, p.2.1, p.2.2.1, p.2.2.2.1, p.2.2.2.2]
def pim0 : PIm := (⟨{ data := #[] }, [], [], [], []⟩, .slice none 0 0, .slice none 0 0, .slice none 0 0, .slice none 0 0)
def IsP (w : World) (p : PIm) : Prop := Ints w p.2.1 p.1.fields ∧ Imps w p.2.2.1 p.1.imports ∧ Mets w p.2.2.2.1 p.1.methods ∧ Ints w p.2.2.2.2 p.1.exports ∧ p.1.name.size ≤ maxLen
def Imgs (w : World) (v : Value) (L : List PIm) : Prop := Sl w v 5 L.length (fun i j => (pimC (L.getD i pim0)).getD j (.int .i64 0)) ∧ ∀ p ∈ L, IsP w p
section
variable {w w' W : World} {v : Value} {p : PIm} {L : List PIm}
theorem IsP.later (h : IsP W p) (hb : Below W.heap.size W w) : IsP w p := ⟨h.1.later hb, h.2.1.later hb, h.2.2.1.later hb, h.2.2.2.1.later hb, h.2.2.2.2⟩
theorem IsP.img (h : IsP w p) : Img w (pv p) p.1 := ⟨_, _, _, _, rfl, h⟩
theorem Imgs.later (h : Imgs W v L) (hb : Below W.heap.size W w) : Imgs w v L := ⟨h.1.later hb, fun p hp => (h.2 p hp).later hb⟩
theorem Imgs.slice (h : Imgs w v L) : ∃ a c, v = .slice a L.length c ∧ L.length ≤ c ∧ c ≤ maxLen := h.1.slice
theorem mem_getQ {α : Type} {d : α} {L : List α} {k : Nat} (hk : k < L.length) : L.getD k d ∈ L := by simp [List.getD, hk]
theorem Imgs.at {a : Option Addr} {l c k : Nat} (h : Imgs w (.slice a l c) L) (hk : k < L.length) : ∃ g off, a = some ⟨g, off, none⟩ ∧ w.cell? ⟨g, off + k * 5, none⟩ = some (.string (L.getD k pim0).1.name) ∧ w.cell? ⟨g, off + k * 5 + 1, none⟩ = some (L.getD k pim0).2.1 ∧
    w.cell? ⟨g, off + k * 5 + 2, none⟩ = some (L.getD k pim0).2.2.1 ∧ w.cell? ⟨g, off + k * 5 + 3, none⟩ = some (L.getD k pim0).2.2.2.1 ∧ w.cell? ⟨g, off + k * 5 + 4, none⟩ = some (L.getD k pim0).2.2.2.2 ∧ IsP w (L.getD k pim0) := by
  obtain ⟨g, off, rfl, h1⟩ := h.1.at hk
  exact ⟨g, off, rfl, h1 0 (by omega), h1 1 (by omega), h1 2 (by omega), h1 3 (by omega), h1 4 (by omega), h.2 _ (mem_getQ hk)⟩
theorem isP_zero (w : World) : IsP w pim0 := by
  refine ⟨⟨Sl.nil _ _ _, by simp [pim0]⟩, ⟨fun _ => .slice none 0 0, Sl.nil _ _ _, by simp [pim0], by simp [pim0]⟩, ⟨fun _ => .slice none 0 0, fun _ => .slice none 0 0, fun _ => .slice none 0 0, Sl.nil _ _ _, by simp [pim0], by simp [pim0]⟩, ⟨Sl.nil _ _ _, by simp [pim0]⟩, by show (0 : Nat) ≤ maxLen; omega⟩
theorem imgs_nil (w : World) : Imgs w (.slice none 0 0) [] := ⟨Sl.nil _ _ _, by simp⟩
end
/-- what stands at a place; d and false, if that is none -/
def inL (n : Int) (l : Nat) : Bool := decide (0 ≤ n) && decide (n < (l : Int))
def atQ {α : Type} (d : α) (L : List α) (n : Int) : α × Bool := match inL n L.length with
  | true => (L.getD n.toNat d, true)
  | false => (d, false)
theorem atQ_yes {α : Type} {d : α} {L : List α} {k : Nat} (h : k < L.length) : atQ d L (k : Int) = (L.getD k d, true) := by
  unfold atQ
  rw [show inL (k : Int) L.length = true by unfold inL; simp; omega]
  simp
theorem atQ_no {α : Type} {d : α} {L : List α} {n : Int} (h : ¬ (0 ≤ n ∧ n < (L.length : Int))) : atQ d L n = (d, false) := by
  unfold atQ
  rw [show inL n L.length = false by unfold inL; rw [Bool.eq_false_iff]; simp; omega]
/-- the first place where b holds -/
def findI {α : Type} (b : α → Bool) : List α → Option Nat
  | [] => none
  | x :: L => match b x with
    | true => some 0
    | false => (findI b L).map (· + 1)
theorem findI_none {α : Type} {b : α → Bool} {d : α} : ∀ {L : List α}, (∀ j, j < L.length → b (L.getD j d) = false) → findI b L = none
  | [], _ => rfl
  | x :: r, h => by
    have h0 := h 0 (by simp)
    have hr : findI b r = none := findI_none (d := d) (fun j hj => h (j + 1) (by simpa using hj))
    simp at h0
    simp [findI, h0, hr]
theorem findI_some {α : Type} {b : α → Bool} {d : α} : ∀ {L : List α} {k : Nat}, k < L.length → b (L.getD k d) = true → (∀ j, j < k → b (L.getD j d) = false) → findI b L = some k
  | [], k, h, _, _ => by simp at h
  | x :: r, 0, _, h, _ => by
    simp at h
    simp [findI, h]
  | x :: r, k + 1, hk, h, hb => by
    have h0 := hb 0 (by omega)
    have hr : findI b r = some k := findI_some (d := d) (by simpa using hk) (by simpa using h) (fun j hj => hb (j + 1) (by omega))
    simp at h0
    simp [findI, h0, hr]
theorem findI_lt {α : Type} {b : α → Bool} : ∀ {L : List α} {k : Nat}, findI b L = some k → k < L.length
  | [], k, h => by simp [findI] at h
  | x :: r, k, h => by
    unfold findI at h
    split at h
    · simp at h; subst h; simp
    · cases hr : findI b r with
      | none => rw [hr] at h; simp at h
      | some j =>
        rw [hr] at h
        simp at h
        have := findI_lt hr
        simp
        omega
def orNo (o : Option Nat) : Int := match o with
  | some k => (k : Int)
  | none => -1
def isNm (s : ByteArray) (p : PIm) : Bool := p.1.name.toList == s.toList
def findP (s : ByteArray) (L : List PIm) : Int := orNo (findI (isNm s) L)
theorem findP_range (s : ByteArray) (L : List PIm) : findP s L = -1 ∨ ∃ k : Nat, findP s L = (k : Int) ∧ k < L.length := by
  unfold findP
  cases h : findI (isNm s) L with
  | none => exact .inl rfl
  | some k => exact .inr ⟨k, rfl, findI_lt h⟩
/-- whom an import calls -/
def rAsk (L : List PIm) (a k : Int) : ImpM × Bool := atQ default (atQ pim0 L a).1.1.imports k
def rTo (L : List PIm) (a k : Int) : Int := findP (rAsk L a k).1.name L
def rMth (L : List PIm) (a k : Int) : Int × Bool := atQ 0 (atQ pim0 L (rTo L a k)).1.1.exports (rAsk L a k).1.exp
def rHas (L : List PIm) (a k : Int) : MetM × Bool := atQ default (atQ pim0 L (rTo L a k)).1.1.methods (rMth L a k).1
def rFit (L : List PIm) (a k : Int) : Bool := allB eqB (rAsk L a k).1.params (rHas L a k).1.params && (rAsk L a k).1.res == (rHas L a k).1.res
def rOk (L : List PIm) (a k : Int) : Bool := (rAsk L a k).2 && ((rMth L a k).2 && ((rHas L a k).2 && rFit L a k))
def resP (L : List PIm) (a k : Int) : Int × Int × Bool := match rOk L a k with
  | true => (rTo L a k, (rMth L a k).1, true)
  | false => (0, 0, false)
theorem resP_yes {L : List PIm} {a k : Int} (h : rOk L a k = true) : resP L a k = (rTo L a k, (rMth L a k).1, true) := by unfold resP; rw [h]
theorem resP_no {L : List PIm} {a k : Int} (h : rOk L a k = false) : resP L a k = (0, 0, false) := by unfold resP; rw [h]
end Go.Proofs.YtkjmpobbbjljjaaDoor

/- A region that draws its order, whose last operation waits for all others: what the loads read need hold ahead of that last one alone. No program is named here. The hand's names of applets. The hand's maker: grounds anew; its code's row, spot by spot. -/
import Derived.OrdersHeld
import Derived.StillTail
import Derived.Test.YtbjmmdomdijilabDoorMl
import Derived.Test.YtbjmmdomdijilabDoorMq
import Derived.Test.YtbjmmdomdijilabDoorRaws
namespace Go.Proofs.YtbjmmdomdijilabDoor
section
open Go
set_option linter.unusedVariables false

section
variable {P : Program} {ops : Array Oper} {Q : Exit → Act → World → Prop} {md : Region.Mode} {S : World → Prop}

/-- whatever order is picked among the first n; S holds behind each; L at the end -/
def wpHL (P : Program) (md : Region.Mode) (ops : Array Oper) (Q : Exit → Act → World → Prop) (S : World → Prop) (n : Nat) (L : Array Bool → Act → World → Prop) : Nat → Array Bool → Act → World → Prop
  | 0, listed, a, w => L listed a w
  | f + 1, listed, a, w =>
    Region.ready md ops listed ≠ [] ∧ ∀ i ∈ Region.ready md ops listed, i < n ∧ wpOp P ops Q i (fun a' w' => S w' ∧ wpHL P md ops Q S n L f (listed.setIfInBounds i true) a' w') a w

theorem wpAny_of_HL {n g : Nat} {L : Array Bool → Act → World → Prop} (hL : ∀ listed a w, L listed a w → wpAny P md ops Q g listed a w) :
    ∀ (f : Nat) (listed : Array Bool) (a : Act) (w : World), wpHL P md ops Q S n L f listed a w → wpAny P md ops Q (f + g) listed a w
  | 0, listed, a, w, h => by rw [Nat.zero_add]; exact hL _ _ _ h
  | f + 1, listed, a, w, h => by
    rw [show f + 1 + g = (f + g) + 1 by omega]
    exact ⟨fun h0 => absurd h0 h.1, fun i hi => wpOp_mono (fun a' w' h' => wpAny_of_HL hL f _ a' w' h'.2) (h.2 i hi).2⟩

theorem wpHL_first {n i : Nat} {oi : Oper} {v : Value} {L : Array Bool → Act → World → Prop} (hi : ops[i]? = some oi) (hsel : ∀ (j : Nat) (o : Oper) cs b, ops[j]? = some o → o.op ≠ .select cs b)
    (hQ : ∀ c a w, Q (.panic c) (a.put oi.dst v) w → Q (.panic c) a w)
    (hs : Region.sinkB md ops n = true) (hc : Region.chainB md ops n = true) (hn : n < ops.size) (hin : i < n)
    (hdone : ∀ listed a w, L listed a w → ∀ j ∈ Region.ready md ops listed, n ≤ j) :
    ∀ (f : Nat) (listed : Array Bool) (a : Act) (w : World), HeadInv md ops n listed →
      (∀ j oj, ops[j]? = some oj → j ≠ i → listed.getD j true = false → (∀ e ∈ oj.after, Region.binds md e = true → e.on ≠ i) → oi.apart ops oj = true) →
      i ∈ Region.ready md ops listed → YieldsIf P ops S oi v a → S w →
      wpHL P md ops Q S n L f (listed.setIfInBounds i true) (a.put oi.dst v) w → wpHL P md ops Q S n L (f + 1) listed a w := by
  intro f
  induction f with
  | zero =>
    intro listed a w inv _ hr hy hS H
    have hun := (mem_ready.1 hr).1
    refine ⟨fun h => (by rw [h] at hr; cases hr), fun j hj => ?_⟩
    have hjn : j < n := by
      rcases Nat.lt_or_ge j n with h | h
      · exact h
      · exact absurd hj (tail_waits hs hc hn inv _ i rfl hin hun j h)
    refine ⟨hjn, ?_⟩
    by_cases hji : j = i
    · subst hji; exact hy.wpOp hi hS ⟨hS, H⟩
    · have := hdone _ _ _ H j (ready_mono hj hji)
      omega
  | succ f ih =>
    intro listed a w inv hfree hr hy hS H
    have hun := (mem_ready.1 hr).1
    refine ⟨fun h => (by rw [h] at hr; cases hr), fun j hj => ?_⟩
    have hjn : j < n := by
      rcases Nat.lt_or_ge j n with h | h
      · exact h
      · exact absurd hj (tail_waits hs hc hn inv _ i rfl hin hun j h)
    refine ⟨hjn, ?_⟩
    by_cases hji : j = i
    · subst hji; exact hy.wpOp hi hS ⟨hS, H⟩
    · have h1 := (H.2 j (ready_mono hj hji)).2
      obtain ⟨hjun, oj, hoj, hall⟩ := mem_ready.1 hj
      have hnot : ∀ e ∈ oj.after, Region.binds md e = true → e.on ≠ i := fun e he hb heq => by
        have h1 := hall e he hb
        rw [heq, getD_both hun] at h1
        cases h1
      have h2 := wpOp_putIf hoj (hfree j oj hoj hji hjun hnot) (fun cs b => hsel i oi cs b hi) (fun cs b => hsel j oj cs b hoj) hQ hy h1
      have hfree' : ∀ k ok, ops[k]? = some ok → k ≠ i → (listed.setIfInBounds j true).getD k true = false →
          (∀ e ∈ ok.after, Region.binds md e = true → e.on ≠ i) → oi.apart ops ok = true := fun k ok hk hki hun hno => by
        refine hfree k ok hk hki ?_ hno
        by_cases hjk : j = k
        · subst hjk; exact hjun
        · rw [getD_set_ne true hjk] at hun; exact hun
      refine wpOp_mono (fun a' w' h3 => ⟨h3.2.1, ih (listed.setIfInBounds j true) a' w' (inv.set hj hjn) hfree' (ready_mono hr (Ne.symm hji)) h3.1 h3.2.1 ?_⟩) h2
      rw [Array.setIfInBounds_comm _ _ hji]
      exact h3.2.2

/-- the head's state, as the walk carries it: a Bool that the kernel reckons -/
def headB (md : Region.Mode) (ops : Array Oper) (n : Nat) (listed : Array Bool) : Bool :=
  decide (listed.size = ops.size) &&
  ((List.range ops.size).all fun j => !listed.getD j false || (match ops[j]? with | some oj => oj.after.all fun e => !Region.binds md e || listed.getD e.on false | none => true)) &&
  ((List.range ops.size).all fun t => decide (t < n) || !listed.getD t true)
theorem headB_spec {n : Nat} {listed : Array Bool} (h : headB md ops n listed = true) : HeadInv md ops n listed := by
  unfold headB at h
  simp only [Bool.and_eq_true, decide_eq_true_eq, List.all_eq_true, List.mem_range, Bool.or_eq_true, Bool.not_eq_true'] at h
  obtain ⟨⟨h1, h2⟩, h3⟩ := h
  refine ⟨h1, fun j oj hj hl e he hb => ?_, fun t ht hts => ?_⟩
  · have hjl : j < ops.size := (Array.getElem?_eq_some_iff.1 hj).1
    rcases h2 j hjl with h | h
    · rw [hl] at h; cases h
    · rw [hj] at h
      simp only [Array.all_eq_true_iff_forall_mem, Bool.or_eq_true, Bool.not_eq_true'] at h
      rcases h e he with h | h
      · rw [hb] at h; cases h
      · exact h
  · rcases h3 t hts with h | h
    · omega
    · exact h

/-- what stands at the end: the last operation, alone -/
def LastAt (P : Program) (md : Region.Mode) (ops : Array Oper) (Q : Exit → Act → World → Prop) (n : Nat) (o : Oper) (listed : Array Bool) (a : Act) (w : World) : Prop :=
  Region.seqB md ops 1 n listed = true ∧ wpList P ops Q [o] a w

theorem wpHL_take {n i : Nat} {oi o : Oper} {v : Value} {f : Nat} {listed : Array Bool} {a : Act} {w : World} (hi : ops[i]? = some oi)
    (hk : (Region.noSelect ops && decide (n < ops.size) && decide (i < n) && Region.sinkB md ops n && Region.chainB md ops n && headB md ops n listed && Region.free md ops listed i && (Region.ready md ops listed).contains i) = true)
    (hQ : ∀ c a w, Q (.panic c) (a.put oi.dst v) w → Q (.panic c) a w) (hS : S w) (hy : YieldsIf P ops S oi v a)
    (h : wpHL P md ops Q S n (LastAt P md ops Q n o) f (listed.setIfInBounds i true) (a.put oi.dst v) w) : wpHL P md ops Q S n (LastAt P md ops Q n o) (f + 1) listed a w := by
  simp only [Bool.and_eq_true, decide_eq_true_eq] at hk
  obtain ⟨⟨⟨⟨⟨⟨⟨k1, k2⟩, k3⟩, k4⟩, k5⟩, k6⟩, k7⟩, k8⟩ := hk
  exact wpHL_first hi (Region.noSelect_spec k1) hQ k4 k5 k2 k3 (fun listed a w hL => seqB_ready hL.1) f listed a w (headB_spec k6) (Region.free_spec hi k7) (by simpa using k8) hy hS h

/-- the one that may come up is carried out -/
theorem wpHL_step {n i : Nat} {o : Oper} {L : Array Bool → Act → World → Prop} {f : Nat} {listed : Array Bool} {a : Act} {w : World} (ho : ops[i]? = some o) (hr : Region.ready md ops listed = [i]) (hin : i < n)
    (h : ∀ K : Act → World → Prop, (∀ a' w', S w' → wpHL P md ops Q S n L f (listed.setIfInBounds i true) a' w' → K a' w') → if Region.wanted o (yielded ops a.tmps) = true then Oper.wp P o a w K Q else K (a.put o.dst undef) w) : wpHL P md ops Q S n L (f + 1) listed a w := by
  refine ⟨by rw [hr]; simp, fun j hj => ?_⟩
  rw [hr] at hj
  simp at hj
  subst hj
  refine ⟨hin, ?_⟩
  have := h (fun a' w' => S w' ∧ wpHL P md ops Q S n L f (listed.setIfInBounds j true) a' w') (fun a' w' h1 h2 => ⟨h1, h2⟩)
  unfold wpOp
  simp only [ho]
  split
  · rename_i hw
    rw [if_pos hw] at this
    exact .inl this
  · rename_i hw
    rw [if_neg hw] at this
    exact this
/-- one alone may come up -/
theorem wpHL_one {n i : Nat} {L : Array Bool → Act → World → Prop} {f : Nat} {listed : Array Bool} {a : Act} {w : World} (hr : Region.ready md ops listed = [i]) (hin : i < n)
    (h : wpOp P ops Q i (fun a' w' => S w' ∧ wpHL P md ops Q S n L f (listed.setIfInBounds i true) a' w') a w) : wpHL P md ops Q S n L (f + 1) listed a w :=
  ⟨by rw [hr]; simp, fun j hj => by
    rw [hr] at hj
    simp at hj
    subst hj
    exact ⟨hin, h⟩⟩

theorem wpHL_last {n : Nat} {o : Oper} {listed : Array Bool} {a : Act} {w : World} (hb : Region.seqB md ops 1 n listed = true) (h : wpList P ops Q [o] a w) : wpHL P md ops Q S n (LastAt P md ops Q n o) 0 listed a w := ⟨hb, h⟩

theorem wp_region_last {id : Nat} {a : Act} {w : World} (n : Nat) (o : Oper) (hm : P.follows .mixedOrders = true) (hn : ops.size = n + 1) (ho : ops[n]? = some o)
    (h : wpHL P .any ops Q S n (LastAt P .any ops Q n o) n (Array.replicate ops.size false) a { w with drawn := w.drawn + 1 }) : (Code.region id ops true).wp P Q a w := by
  refine wp_region_any hm ?_
  have := wpAny_of_HL (g := 1) (fun listed a' w' (hL : LastAt P .any ops Q n o listed a' w') => by
    have := wpAny_of_seq (md := .any) (Q' := Q) [o] n listed a' w' (fun j => by
      match j with
      | 0 => simpa using ho.symm
      | j + 1 => rw [Array.getElem?_eq_none (by omega)]; rfl) (by simpa using hL.1) hL.2
    simpa using this) _ _ _ _ h
  rw [hn] at this ⊢
  exact this
end
end

section
open Go.RowKit Go.Lib
set_option linter.unusedVariables false

def ns0 : ByteArray := { data := #[97, 108, 112, 104, 97] }
def ns1 : ByteArray := { data := #[98, 195, 169, 116, 97] }
def ns2 : ByteArray := { data := #[103, 45, 49] }
def ns3 : ByteArray := { data := #[100, 46, 195, 191] }
/-- the hand's names -/
def nmK (k : Nat) : ByteArray := match k with
  | 0 => ns0
  | 1 => ns1
  | 2 => ns2
  | _ => ns3
def nmOf (n : Int) : ByteArray := nmK (n % 4).toNat
theorem nmK_size (k : Nat) : (nmK k).size ≤ 5 := by
  unfold nmK
  split <;> decide
theorem nmOf_size (n : Int) : (nmOf n).size ≤ 5 := nmK_size _
set_option maxRecDepth 100000 in
theorem ixn (k : Nat) (hk : (k : Int) < 4) : ∀ w : World, (Instr.index 66 (.agg #[.string { data := #[97, 108, 112, 104, 97] }, .string { data := #[98, 195, 169, 116, 97] }, .string { data := #[103, 45, 49] }, .string { data := #[100, 46, 195, 191] }]) (.int .i64 k)).run Tryd.prog w = .ok (.string (nmK k)) w := by
  have h : k = 0 ∨ k = 1 ∨ k = 2 ∨ k = 3 := by omega
  rcases h with rfl | rfl | rfl | rfl
  · exact fun w => by kernel_rfl
  · exact fun w => by kernel_rfl
  · exact fun w => by kernel_rfl
  · exact fun w => by kernel_rfl

set_option maxRecDepth 100000 in
set_option maxHeartbeats 4000000 in
theorem hName2 (n : Int) (w : World) : Calls Tryd.prog 10 #[.int .i64 n] w fun e w' => e = .returned (.string (nmOf n)) ∧ w = w' := by
  obtain ⟨q, hq⟩ : ∃ q : Nat, n % 4 = (q : Int) := ⟨(n % 4).toNat, by have := Int.emod_nonneg n (b := 4) (by omega); omega⟩
  have hq4 : (q : Int) < 4 := by have := Int.emod_lt_of_pos n (b := 4) (by omega); omega
  have HN : Hid (nmK q = nmOf n) := Lib.hid (by unfold nmOf; rw [hq]; rfl)
  have HP : ∀ u : World, Calls Tryd.prog 4 #[.int .i64 n, .int .i64 4] u fun e w' => e = .returned (.int .i64 q) ∧ u = w' := fun u => by
    have h := hPick n 4 u (by omega) (by omega)
    rw [hq] at h
    refine h.mono fun e w' ⟨h1, h2⟩ => ⟨h1, by first | exact h2 | exact h2.symm⟩
  have HPP := Lib.hid HP
  have hix := ixn q hq4
  clear hq hq4 HP
  go_enter Tryd.func10, Tryd.ntmps10
  go_wp2_with (first
    | (go_at_call 4; (with_reducible refine (HPP.out _).mono ?_); rintro e _ ⟨rfl, rfl⟩))
  go_ret
  rw [HN.out]
  exact ⟨rfl, rfl⟩
theorem hName (n : Int) (w : World) : Calls Tryd.prog 10 #[.int .i64 n] w fun e w' => ∃ s : ByteArray, e = .returned (.string s) ∧ Hid (s.size ≤ 5 ∧ s = nmOf n) ∧ w = w' :=
  (hName2 n w).mono fun e w' ⟨h1, h2⟩ => ⟨_, h1, Lib.hid ⟨nmOf_size n, rfl⟩, h2⟩
end

section
open Go.RowKit Go.Lib
set_option linter.unusedVariables false

theorem Ints.take {w : World} {a : Option Addr} {n c : Nat} {L : List Int} (h : Ints w (.slice a n c) L) (k : Nat) (hk : k ≤ L.length) : Ints w (.slice a k c) (L.take k) := by
  obtain ⟨⟨a', c', he, h1, h2, h3⟩, hw⟩ := h
  simp at he
  obtain ⟨rfl, rfl, rfl⟩ := he
  have hl : (L.take k).length = k := by simp; omega
  refine ⟨⟨a, c, by rw [hl], by omega, h2, ?_⟩, fun n hn => hw n (List.mem_of_mem_take hn)⟩
  rw [hl]
  rcases h3 with h3 | ⟨g, off, rfl, h4⟩
  · exact .inl (by omega)
  · refine .inr ⟨g, off, rfl, fun i hi j hj => ?_⟩
    rw [h4 i (by omega) j hj]
    simp [List.getD, hi]
/-- a ground anew, behind what turned none of the maker's blocks -/
theorem Mk.over {t : TypeId} {W : Gnd} {w w' : World} {b : Nat} {d : Int} {c : Nat} {T : Nat → Prop} (h : Mk t W w b d c) (hu : Upd T w w') (hT : ∀ k, T k → ¬ W.may k ∨ w.heap.size ≤ k) :
    ∃ S : Nat → Prop, (∀ k, S k → k < w.heap.size ∧ W.may k) ∧ Mk t ⟨w', S⟩ w' b d c := by
  obtain ⟨cv, nv, kv, C, Ns, Ks, a, h⟩ := h
  have no : ∀ k, k < w.heap.size → W.may k → ¬ T k := fun k hk hm ht => by
    rcases hT k ht with h1 | h1
    · exact h1 hm
    · omega
  refine ⟨fun k => k = b ∨ cv.ownBlock = some k ∨ nv.ownBlock = some k ∨ kv.ownBlock = some k, ?_, cv, nv, kv, C, Ns, Ks, a,
    h.box.upd hu (no _ h.box.lt h.new), h.code.upd hu (fun k hk => no k (h.code.row.lt k hk).2 (h.fc k hk)), h.ns.upd hu (fun k hk => no k (h.ns.row.lt k hk).2 (h.fn k hk)), h.ks.upd hu (fun k hk => no k (h.ks.row.lt k hk).2 (h.fk k hk)),
    .inl (.inl rfl), fun k hk => .inl (.inr (.inl hk)), fun k hk => .inl (.inr (.inr (.inl hk))), fun k hk => .inl (.inr (.inr (.inr hk))), Upd.refl _ _, h.at0, h.atc, h.len, h.nsl, h.ksl, h.ty⟩
  rintro k (rfl | hk | hk | hk)
  · exact ⟨h.box.lt, h.new⟩
  · exact ⟨(h.code.row.lt k hk).2, h.fc k hk⟩
  · exact ⟨(h.ns.row.lt k hk).2, h.fn k hk⟩
  · exact ⟨(h.ks.row.lt k hk).2, h.fk k hk⟩
theorem MkAt.setAny {t : TypeId} {W : Gnd} {w : World} {b : Nat} {d : Int} {c g cap : Nat} {nv kv : Value} {C : List InsM} {Ns Ks : List Int} {at' : Int} (h : MkAt t W w b d c (.slice (some ⟨g, 0, none⟩) C.length cap) nv kv C Ns Ks at') {q : Nat} (hq : q < C.length) (u : Int) (hu' : wi64 u) :
    MkAt t W (w.setCell ⟨g, q * 3 + 1, none⟩ (.int .i64 u)) b d c (.slice (some ⟨g, 0, none⟩) C.length cap) nv kv (C.set q ⟨(C.getD q default).op, u, (C.getD q default).b⟩) Ns Ks at' := by
  have hu := Upd.setCell (S := fun k => (Value.slice (some ⟨g, 0, none⟩) C.length cap).ownBlock = some k) w (p := ⟨g, q * 3 + 1, none⟩) (.inl (by simp [Value.ownBlock])) (.int .i64 u)
  obtain ⟨n1, n2, n3⟩ := h.ne
  have hr := h.code.setA q hq u hu'
  exact ⟨h.box.upd hu n1, hr, h.ns.upd hu (fun k hk hk' => row_ne h.ns.row h.code.row (by decide) k hk hk'), h.ks.upd hu (fun k hk hk' => row_ne h.ks.row h.code.row (by decide) k hk hk'), h.new, h.fc, h.fn, h.fk,
    upd_of_new h.below hu (fun k hk => h.fc k hk), h.at0, h.atc, by rw [List.length_set]; exact h.len, h.nsl, h.ksl, h.ty⟩
/-- what is read of the maker's code, and what may be set there -/
theorem Mk.codes {t : TypeId} {W : Gnd} {w : World} {b : Nat} {d : Int} {c : Nat} (h : Mk t W w b d c) : ∃ ca n cc, w.cell? ⟨b, 0, none⟩ = some (.slice ca n cc) ∧ n ≤ c ∧
    ∀ q, q < n → ∃ g o u, ca = some ⟨g, 0, none⟩ ∧ w.cell? ⟨g, q * 3, none⟩ = some (.int .i64 o) ∧ w.cell? ⟨g, q * 3 + 1, none⟩ = some (.int .i64 u) ∧ w.frozen? ⟨g, q * 3 + 1, none⟩ = false ∧ g < w.heap.size ∧ wi64 o ∧ wi64 u ∧
      ∀ y, wi64 y → Mk t W (w.setCell ⟨g, q * 3 + 1, none⟩ (.int .i64 y)) b d c := by
  obtain ⟨cv, nv, kv, C, Ns, Ks, a, h⟩ := h
  obtain ⟨ca, cc, rfl⟩ := ownsRow_slice h.code.row
  refine ⟨ca, C.length, cc, h.box.c0, h.len, fun q hq => ?_⟩
  obtain ⟨g, off, rfl, c0, c1, c2, w1, w2, w3⟩ := h.code.inss.at hq
  have hr := h.code.row
  obtain ⟨hl, hh⟩ := hr
  rcases hh with ⟨h0, _⟩ | ⟨g', cap, cur, he, hb, hg, hc, hm, hcs, ht⟩
  · simp at h0
  · simp at he
    obtain ⟨⟨rfl, rfl⟩, rfl⟩ := he
    rw [Nat.zero_add] at c0 c1
    exact ⟨g, _, _, rfl, c0, c1, by simp [World.frozen?, hg], World.block_lt_of_cell? w _ c1, w1, w2, fun y hy => ⟨_, _, _, _, _, _, _, h.setAny hq y hy⟩⟩
/-- the numbers' row grown, and stored; it lies apart from the kinds -/
theorem MkAt.growN {t : TypeId} {W : Gnd} {w w' : World} {b : Nat} {d : Int} {c : Nat} {cv nv kv v' : Value} {C : List InsM} {Ns Ks Ns' : List Int} {at' : Int} (h : MkAt t W w b d c cv nv kv C Ns Ks at') (ha : ∀ k, kv.ownBlock = some k → nv.ownBlock ≠ some k) (hu : Upd (fun k => nv.ownBlock = some k) w w') (hr : WRow w' v' Ns') (hf : Fresh w nv v') (hl : Ns'.length ≤ 140737488355328) :
    Is5 t w' b cv nv (.int .i64 at') kv (.int .i64 d) ∧ MkAt t W (w'.setCell ⟨b, 1, none⟩ v') b d c cv v' kv C Ns' Ks at' ∧ ∀ k, kv.ownBlock = some k → v'.ownBlock ≠ some k := by
  obtain ⟨n1, n2, n3⟩ := h.ne
  have hb := h.box.upd hu n2
  have hc := h.code.upd hu (fun k hk hk' => row_ne h.code.row h.ns.row (by decide) k hk hk')
  have hk := h.ks.upd hu (fun k hk hk' => ha k hk hk')
  have hu2 := box_upd w' b 1 v'
  have n4 := row_blk hr.row hb (Ne.symm h.ty.1)
  refine ⟨hb, ⟨hb.set1 _, hc.upd hu2 (fun k hk e => n1 (by rw [hk, e])), hr.upd hu2 (fun k hk e => n4 (by rw [hk, e])), hk.upd hu2 (fun k hk e => n3 (by rw [hk, e])), h.new, h.fc, fun k hk => ?_, h.fk, ?_, h.at0, h.atc, h.len, hl, h.ksl, h.ty⟩, fun k hk e => ?_⟩
  · rcases hf k hk with h1 | h1
    · exact h.fn k h1
    · exact .inr (Nat.le_trans h.below.size h1)
  · exact upd_of_new (upd_of_new h.below hu (fun k hk => h.fn k hk)) hu2 (fun k hk => hk ▸ h.new)
  · rcases hf k e with h1 | h1
    · exact ha k hk h1
    · have := (h.ks.row.lt k hk).2
      omega
end
end Go.Proofs.YtbjmmdomdijilabDoor

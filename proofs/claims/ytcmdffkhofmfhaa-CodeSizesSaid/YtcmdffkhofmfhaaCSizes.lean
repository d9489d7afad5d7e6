/- CodeSizes: an instruction has as many bytes as its operands ask, and is read in one piece from among others: the walk. -/
import Derived.Test.YtcmdffkhofmfhaaCi
import Derived.Test.YtcmdffkhofmfhaaCk
import Derived.Test.YtcmdffkhofmfhaaCBackP
import Derived.Test.YtcmdffkhofmfhaaRaws
import Derived.Deep.QuietTactic
import Derived.BigQuiet
import Derived.Outline
namespace Go.Proofs.Ytcmdffkhofmfhaa
open Go.RowKit
set_option linter.unusedVariables false

/-- an instruction's three numbers -/
structure I3 where
  op : Int
  a : Int
  b : Int
instance : Inhabited I3 := ⟨⟨0, 0, 0⟩⟩
def icells : List I3 → List Value
  | [] => []
  | t :: K => .int .i64 t.op :: .int .i64 t.a :: .int .i64 t.b :: icells K
def ibytes : List I3 → List Int
  | [] => []
  | t :: K => layB t.op t.a t.b ++ ibytes K
theorem icells_len (K : List I3) : (icells K).length = K.length * 3 := by
  induction K with
  | nil => rfl
  | cons t K ih => simp [icells, ih]; omega
theorem icells_snoc (K : List I3) (t : I3) : icells (K ++ [t]) = icells K ++ [.int .i64 t.op, .int .i64 t.a, .int .i64 t.b] := by
  induction K with
  | nil => rfl
  | cons s K ih => simp [icells, ih]
theorem ibytes_snoc (K : List I3) (t : I3) : ibytes (K ++ [t]) = ibytes K ++ layB t.op t.a t.b := by
  induction K with
  | nil => simp [ibytes]
  | cons s K ih => simp [ibytes, ih]
theorem icells_get (K : List I3) : ∀ j, j < K.length → (icells K)[j * 3]? = some (.int .i64 (K.getD j default).op) ∧ (icells K)[j * 3 + 1]? = some (.int .i64 (K.getD j default).a) ∧ (icells K)[j * 3 + 2]? = some (.int .i64 (K.getD j default).b) := by
  induction K with
  | nil => intro j hj; simp at hj
  | cons t K ih =>
    intro j hj
    cases j with
    | zero => exact ⟨rfl, rfl, rfl⟩
    | succ j =>
      have := ih j (by simpa using hj)
      rw [show (j + 1) * 3 = j * 3 + 3 by omega]
      simpa [icells] using this
theorem ibytes_drop (K : List I3) : ∀ j, j < K.length → ibytes (K.drop j) = layB (K.getD j default).op (K.getD j default).a (K.getD j default).b ++ ibytes (K.drop (j + 1)) := by
  induction K with
  | nil => intro j hj; simp at hj
  | cons t K ih =>
    intro j hj
    cases j with
    | zero => rfl
    | succ j => simpa using ih j (by simpa using hj)
theorem lay_size (op a b : Int) : ((layB op a b).length : Int) = if op = 23 ∨ op = 24 then 3 else if op = 1 then 5 else 1 + opsB op := by
  unfold layB tailB
  by_cases h1 : op = 1
  · subst h1; simp
  · by_cases h2 : op = 23 ∨ op = 24
    · simp [h1, h2]
    · rcases ops3 op with ho | ho | ho <;> simp [h1, h2, ho]

theorem infoI : (Try.prog.info? 29).map (fun i => (i.zero, i.size, i.bytes)) = some (some (.agg #[.int .i64 0, .int .i64 0, .int .i64 0]), 3, 24) := by kernel_rfl
theorem src3 (w : World) (e : TypeId) (x y z : Value) (h1 : ∀ u ∈ [x, y, z], u.oneCell' = true) (n c : Nat) (hn : 1 = n) :
    Src (w.alloc (.cells #[x, y, z] e)) 3 (.slice (some ⟨w.heap.size, 0, none⟩) n c) n [x, y, z] := by
  subst hn
  refine .inr ⟨_, _, rfl, rfl, fun j u hj => ?_, h1⟩
  rw [addr_add]
  show (match (w.heap.push _)[w.heap.size]? with | some (.cells c _ _) => _ | _ => _) = _
  simpa using hj

/-- the writer holds the bytes of K, the slice its instructions -/
structure Sz (W w : World) (bw : Nat) (v vk : Value) (K : List I3) : Prop where
  x : Wr 65 w bw v (ibytes K)
  k : w.ownsRow 0 29 3 vk K.length (icells K)
  upd : Upd (fun _ => False) W w
  ox : ∀ i, fp bw v i → W.heap.size ≤ i
  ok : ∀ i, vk.ownBlock = some i → W.heap.size ≤ i ∧ ¬ fp bw v i
  right : ∀ t ∈ K, rightB t.op t.a t.b = true
theorem Sz.mono {W w w' : World} {bw : Nat} {v vk : Value} {K : List I3} (h : Sz W w bw v vk K) (hu : Upd (fun _ => False) w w') : Sz W w' bw v vk K :=
  ⟨h.x.upd hu (fun _ _ h => h), ownsRow_upd h.k hu (fun _ _ h => h), h.upd.trans hu (fun _ h _ => h), h.ox, h.ok, h.right⟩
theorem Sz.lay {W w w' : World} {bw : Nat} {v vk : Value} {K : List I3} {zs : List Int} (h : Sz W w bw v vk K) (g : Laid 65 w bw v zs w') :
    ∃ v', Wr 65 w' bw v' zs ∧ w'.ownsRow 0 29 3 vk K.length (icells K) ∧ Upd (fun _ => False) W w' ∧ (∀ i, fp bw v' i → W.heap.size ≤ i) ∧ (∀ i, vk.ownBlock = some i → W.heap.size ≤ i ∧ ¬ fp bw v' i) := by
  obtain ⟨v', g1, g2, g3⟩ := g
  refine ⟨v', g1, ownsRow_upd h.k g2 (fun i hi => (h.ok i hi).2), h.upd.trans g2 (fun i hi hlt => by have := h.ox i hi; omega), ?_, ?_⟩
  · intro k hk
    rcases hk with hk | hk
    · exact h.ox k (.inl hk)
    · rcases g3 k hk with hh | hh
      · exact h.ox k (.inr hh)
      · have := h.upd.size; omega
  · intro k hk
    refine ⟨(h.ok k hk).1, ?_⟩
    intro hf
    rcases hf with hf | hf
    · exact (h.ok k hk).2 (.inl hf)
    · rcases g3 k hf with hh | hh
      · exact (h.ok k hk).2 (.inr hh)
      · have := (h.k.lt k hk).2; omega
theorem ibytes_len (K : List I3) : (ibytes K).length ≤ 5 * K.length := by
  induction K with
  | nil => simp [ibytes]
  | cons t K ih => have := lay_len t.op t.a t.b; simp [ibytes]; omega

/-- behind the reads of j instructions -/
def Rk (W w : World) (br : Nat) (K : List I3) (vk : Value) (j : Nat) : Prop :=
  ∃ v, Rd 67 w br v false (ibytes (K.drop j)) ∧ w.ownsRow 0 29 3 vk K.length (icells K) ∧ Upd (fun _ => False) W w

theorem Rk.drew {W w : World} {br : Nat} {K : List I3} {vk : Value} {j : Nat} (h : Rk W w br K vk j) (n : Nat) : Rk W (w.drewN n) br K vk j := by
  have hu : Upd (fun _ => False) w (w.drewN n) := ⟨rfl, rfl, rfl, Nat.le_refl _, fun _ _ _ => rfl⟩
  obtain ⟨v, h1, h2, h3⟩ := h
  exact ⟨v, h1.upd hu (fun _ _ h => h), ownsRow_upd h2 hu (fun _ _ h => h), h3.trans hu (fun _ h _ => h)⟩

set_option maxHeartbeats 4000000 in
set_option maxRecDepth 100000 in
theorem sizes_walk (vl : Value) (L : List RawR) (W : World) (hl : RawsAt W vl L) :
    Calls Try.prog 8 #[vl] W fun e w' => e = .returned (.bool true) ∧ Below W.heap.size W w' := by
  obtain ⟨al, cl, rfl⟩ := hl.slice
  have HL := Lib.hid hl
  clear hl
  obtain ⟨i0, hi, hz0, hz1, hz2⟩ := info_parts infoI
  go_enter Try.func8, Try.ntmps8
  go_wp2_with fail
  refine (newWriter _).mono ?_
  rintro e w1 ⟨rfl, h1, h2⟩
  have HW1 := Lib.hid h1
  have HU1 := Lib.hid h2
  clear h1 h2
  go_wp2_with fail
  refine (known3 _).mono ?_
  rintro e w2 ⟨rfl, h2⟩
  have HS2 : Hid (∃ v vk K, Sz W w2 W.heap.size v vk K ∧ K.length ≤ 0 ∧ vk = .slice none 0 0) :=
    ⟨.slice none 0 0, .slice none 0 0, [], ⟨HW1.out.upd h2 (fun _ _ h => h), World.ownsRow_nil _ _ _ _, HU1.out.trans h2 (fun _ h _ => h), by
      rintro k (h | h)
      · omega
      · simp [Value.ownBlock] at h, by simp [Value.ownBlock], by simp⟩, by simp, rfl⟩
  clear h2 HW1 HU1
  generalize hbw : W.heap.size = bw at *
  have HBW := Lib.hid hbw
  clear hbw
  go_wp2_with fail
  go_loopw [4, 5] (fun vk i wr => ∃ k : Nat, k ≤ L.length ∧ k ≤ 30 ∧ i = .int .i64 k ∧ Hid (∃ v K, Sz W wr bw v vk K ∧ K.length ≤ k)) (fun _ i _ => 30 - (intOf i).toNat)
  case atStart => exact ⟨0, Nat.zero_le _, by omega, rfl, by obtain ⟨v, vk, K, h, hk, rfl⟩ := HS2.out; exact ⟨v, K, h, hk⟩⟩
  case round =>
    clear HS2
    obtain ⟨k, hk1, hk2, rfl, HK⟩ := hrel
    obtain ⟨v, K, hs, hkl⟩ := HK.out
    obtain ⟨ak, ck, rfl⟩ := ownsRow_slice hs.k
    have HS := Lib.hid hs
    have hil := ibytes_len K
    clear hs HK
    by_cases hlt : k < L.length ∧ k < 30
    · obtain ⟨hlt1, hlt2⟩ := hlt
      obtain ⟨g, off, rfl, _, hcl, hcm, hg, hR⟩ := raws_at HL.out (HS.out.upd.below (Nat.le_refl _) (fun _ h => h.elim)) hlt1
      obtain ⟨c0, c1, c2, c3, wo, wa, wb, wc⟩ := hR
      generalize hsd : L.getD k default = sd at *
      have HI := Lib.hid (fun w => instr sd.o sd.a sd.b sd.c w wo wa wb wc)
      unfold maxLen at hcm
      clear hsd wo wa wb wc
      go_wp2_with fail
      refine (HI.out _).mono ?_
      rintro e w3 ⟨⟨op, a', b', rfl, _, _, _⟩, hu⟩
      have hA := Upd.alloc (fun _ => False) w3 (.cells #[.int .i64 op, .int .i64 a', .int .i64 b'] 29)
      have HS3 := Lib.hid ((HS.out.mono hu).mono hA)
      have HI3 := Lib.hid (is3_new 29 w3 (.int .i64 op) (.int .i64 a') (.int .i64 b'))
      have HNB := Lib.hid (show ¬ fp bw v w3.heap.size from fun hf => absurd (wr_inn (HS.out.mono hu).x _ hf) (Nat.lt_irrefl _))
      generalize hw3 : w3.heap.size = bi at *
      clear hu hA c0 c1 c2 c3 HI HS
      go_wp2_with fail
      refine (bytesOf _ _ _ _ HS3.out.x (by omega)).mono ?_
      rintro e w4 ⟨v4, rfl, hN⟩
      obtain ⟨a4, c4, rfl⟩ := ownsRow_slice hN.1
      have HS4 := Lib.hid (HS3.out.mono hN.2.1)
      have hi4 := HI3.out.upd hN.2.1 (fun h => h)
      have HI4 := Lib.hid hi4
      have j0 := hi4.c0
      have j1 := hi4.c1
      have j2 := hi4.c2
      clear hN hi4 HS3 HI3 hw3
      generalize hn0 : (ibytes K).length = n0 at *
      have HN0 := Lib.hid hn0
      clear hn0
      cases hr : rightB op a' b' with
      | false =>
        have HRR := Lib.hid hr
        clear hr
        go_wp2_with fail
        refine (cLay_no op a' b' _ _ (.inr HRR.out)).mono ?_
        rintro e w5 ⟨rfl, h2⟩
        have HS5 := Lib.hid (HS4.out.mono h2)
        clear h2 j0 j1 j2
        go_wp2_with fail
        refine (bytesOf _ _ _ _ HS5.out.x (by rw [HN0.out]; omega)).mono ?_
        rintro e w6 ⟨v6, rfl, hN⟩
        obtain ⟨a6, c6, rfl⟩ : ∃ a c, v6 = .slice a n0 c := by have := ownsRow_slice hN.1; rwa [HN0.out] at this
        have HS6 := Lib.hid (HS5.out.mono hN.2.1)
        clear hN
        go_wp2_with fail
        go_roundw
        case rel => exact ⟨k + 1, by omega, by omega, by go_num, ⟨v, K, HS6.out, by omega⟩⟩
        case measure => simp [intOf]; omega
      | true =>
        have HRR := Lib.hid hr
        have HLL := Lib.hid (lay_len op a' b')
        have HLS := Lib.hid (lay_size op a' b')
        have hops : 0 ≤ opsB op ∧ opsB op ≤ 2 := by have := ops3 op; omega
        obtain ⟨ho1, ho2⟩ := hops
        clear hr
        go_wp2_with fail
        refine (cLay op a' b' _ bw v _ HS4.out.x (by rw [HN0.out]; omega) HRR.out).mono ?_
        rintro e w5 ⟨rfl, hL⟩
        have hi5 := (show ∃ vq, Upd (fp bw v) w4 w5 from by obtain ⟨vq, _, h, _⟩ := hL; exact ⟨vq, h⟩).elim (fun _ h => HI4.out.upd h HNB.out)
        obtain ⟨v5, x5, k5, u5, ox5, ok5⟩ := HS4.out.lay hL
        have X5 := Lib.hid x5
        have K5 := Lib.hid k5
        have U5 := Lib.hid u5
        have OX5 := Lib.hid ox5
        have OK5 := Lib.hid ok5
        have I5 := Lib.hid hi5
        clear j0 j1 j2
        have j0 := hi5.c0
        clear x5 k5 u5 ox5 ok5 hi5 hL
        by_cases q1 : op = 1
        · have b1 : (op == 1) = true := by simpa using q1
          have b2 : (op == 23) = false := by subst q1; rfl
          have b3 : (op == 24) = false := by subst q1; rfl
          generalize hn1 : (ibytes K ++ layB op a' b').length = n1 at *
          have hnn : (n1 : Int) = n0 + (5) := by have e1 := HLS.out; have e2 := HN0.out; rw [← hn1, List.length_append]; rw [q1] at e1 ⊢; simp at e1; omega
          have hcmp : ((n1 : Int) != (n0 : Int) + (5)) = false := by rw [hnn]; simp
          have HN1 := Lib.hid hn1
          clear hn1 hnn q1
          go_wp2_with fail
          refine (cOperands _ _).mono ?_
          rintro e w6 ⟨rfl, rfl⟩
          go_wp2_with fail
          refine (bytesOf _ _ _ _ X5.out (by rw [HN1.out]; have := HLL.out; have := HN0.out; have := HN1.out; simp only [List.length_append] at *; omega)).mono ?_
          rintro e w8 ⟨v8, rfl, hN⟩
          obtain ⟨a8, c8, rfl⟩ : ∃ a c, v8 = .slice a n1 c := by have := ownsRow_slice hN.1; rwa [HN1.out] at this
          have X8 := Lib.hid (X5.out.upd hN.2.1 (fun _ _ h => h))
          have hown := ownsRow_upd K5.out hN.2.1 (fun _ _ h => h)
          have U8 := Lib.hid (U5.out.trans hN.2.1 (fun _ h _ => h))
          have hi8 := I5.out.upd hN.2.1 (fun h => h)
          have j0 := hi8.c0
          have j1 := hi8.c1
          have j2 := hi8.c2
          clear hN hi8
          go_wp2_with (at_builtin; go_loud (refine wpList_append_mine _ rfl _ _ 59 rfl 0 29 i0 (.agg #[.int .i64 0, .int .i64 0, .int .i64 0]) 3 24 Try.underlying59 hi hz0 hz1 hz2 rfl (by decide) (.slice ak K.length ck) K.length (icells K) rfl (hown.alloc _) 1 [.int .i64 op, .int .i64 a', .int .i64 b'] (src3 w8 29 _ _ _ (by simp [Value.oneCell']) 1 _ rfl) (by unfold maxLen; omega) (by omega) (Nat.zero_le _) ?_))
          intro vn wn ho hgr hf
          have HM := Lib.hid (show Sz W wn bw v5 vn (K ++ [⟨op, a', b'⟩]) from by
            have hal := Upd.alloc (fun _ => False) w8 (.cells #[.int .i64 op, .int .i64 a', .int .i64 b'] 29)
            have hu := Upd.grown (S := fun i => (Value.slice ak K.length ck).ownBlock = some i) hgr (fun i hi => .inl (by rw [hi]))
            refine ⟨?_, by rw [List.length_append, icells_snoc]; exact ho, (U8.out.trans hal (fun _ h _ => h)).trans hu (fun i hi hlt => by have := (OK5.out i hi).1; omega), OX5.out, ?_, ?_⟩
            · rw [ibytes_snoc]
              exact (X8.out.upd hal (fun _ _ h => h)).upd hu (fun i hi hf => (OK5.out i hf).2 hi)
            · intro i hi
              rcases hf i hi with hh | hh
              · exact OK5.out i hh
              · simp at hh
                refine ⟨by have := U8.out.size; omega, fun hfp => ?_⟩
                have := wr_inn X8.out i hfp
                omega
            · intro t ht
              rcases List.mem_append.1 ht with h | h
              · exact HS4.out.right t h
              · simp at h; subst h; exact HRR.out)
          obtain ⟨an, cn, rfl⟩ := ownsRow_slice ho
          clear ho hgr hf hown j0 j1 j2
          go_wp2_with fail
          go_roundw
          case rel => exact ⟨k + 1, by omega, by omega, by go_num, ⟨v5, _, HM.out, by simp; omega⟩⟩
          case measure => simp [intOf]; omega
        · have b1 : (op == 1) = false := by simpa using q1
          by_cases q2 : op = 23 ∨ op = 24
          · have b2 : (op == 23) = true ∨ (op == 23) = false ∧ (op == 24) = true := by
              rcases q2 with q2 | q2
              · left; simpa using q2
              · right; subst q2; exact ⟨rfl, rfl⟩
            rcases b2 with b2 | ⟨b2, b3⟩
            all_goals
              generalize hn1 : (ibytes K ++ layB op a' b').length = n1 at *
              have hnn : (n1 : Int) = n0 + (3) := by have e1 := HLS.out; have e2 := HN0.out; rw [← hn1, List.length_append]; simp [q2] at e1; omega
              have hcmp : ((n1 : Int) != (n0 : Int) + (3)) = false := by rw [hnn]; simp
              have HN1 := Lib.hid hn1
              clear hn1 hnn
              go_wp2_with fail
              refine (cOperands _ _).mono ?_
              rintro e w6 ⟨rfl, rfl⟩
              go_wp2_with fail
              refine (bytesOf _ _ _ _ X5.out (by rw [HN1.out]; have := HLL.out; have := HN0.out; have := HN1.out; simp only [List.length_append] at *; omega)).mono ?_
              rintro e w8 ⟨v8, rfl, hN⟩
              obtain ⟨a8, c8, rfl⟩ : ∃ a c, v8 = .slice a n1 c := by have := ownsRow_slice hN.1; rwa [HN1.out] at this
              have X8 := Lib.hid (X5.out.upd hN.2.1 (fun _ _ h => h))
              have hown := ownsRow_upd K5.out hN.2.1 (fun _ _ h => h)
              have U8 := Lib.hid (U5.out.trans hN.2.1 (fun _ h _ => h))
              have hi8 := I5.out.upd hN.2.1 (fun h => h)
              have j0 := hi8.c0
              have j1 := hi8.c1
              have j2 := hi8.c2
              clear hN hi8
              go_wp2_with (at_builtin; go_loud (refine wpList_append_mine _ rfl _ _ 59 rfl 0 29 i0 (.agg #[.int .i64 0, .int .i64 0, .int .i64 0]) 3 24 Try.underlying59 hi hz0 hz1 hz2 rfl (by decide) (.slice ak K.length ck) K.length (icells K) rfl (hown.alloc _) 1 [.int .i64 op, .int .i64 a', .int .i64 b'] (src3 w8 29 _ _ _ (by simp [Value.oneCell']) 1 _ rfl) (by unfold maxLen; omega) (by omega) (Nat.zero_le _) ?_))
              intro vn wn ho hgr hf
              have HM := Lib.hid (show Sz W wn bw v5 vn (K ++ [⟨op, a', b'⟩]) from by
                have hal := Upd.alloc (fun _ => False) w8 (.cells #[.int .i64 op, .int .i64 a', .int .i64 b'] 29)
                have hu := Upd.grown (S := fun i => (Value.slice ak K.length ck).ownBlock = some i) hgr (fun i hi => .inl (by rw [hi]))
                refine ⟨?_, by rw [List.length_append, icells_snoc]; exact ho, (U8.out.trans hal (fun _ h _ => h)).trans hu (fun i hi hlt => by have := (OK5.out i hi).1; omega), OX5.out, ?_, ?_⟩
                · rw [ibytes_snoc]
                  exact (X8.out.upd hal (fun _ _ h => h)).upd hu (fun i hi hf => (OK5.out i hf).2 hi)
                · intro i hi
                  rcases hf i hi with hh | hh
                  · exact OK5.out i hh
                  · simp at hh
                    refine ⟨by have := U8.out.size; omega, fun hfp => ?_⟩
                    have := wr_inn X8.out i hfp
                    omega
                · intro t ht
                  rcases List.mem_append.1 ht with h | h
                  · exact HS4.out.right t h
                  · simp at h; subst h; exact HRR.out)
              obtain ⟨an, cn, rfl⟩ := ownsRow_slice ho
              clear ho hgr hf hown j0 j1 j2
              go_wp2_with fail
              go_roundw
              case rel => exact ⟨k + 1, by omega, by omega, by go_num, ⟨v5, _, HM.out, by simp; omega⟩⟩
              case measure => simp [intOf]; omega
          · have b2 : (op == 23) = false := by simp at q2; simpa using q2.1
            have b3 : (op == 24) = false := by simp at q2; simpa using q2.2
            generalize hn1 : (ibytes K ++ layB op a' b').length = n1 at *
            have hnn : (n1 : Int) = n0 + (1 + opsB op) := by have e1 := HLS.out; have e2 := HN0.out; rw [← hn1, List.length_append]; simp [q1, q2] at e1; omega
            have hcmp : ((n1 : Int) != (n0 : Int) + (1 + opsB op)) = false := by rw [hnn]; simp
            have HN1 := Lib.hid hn1
            clear hn1 hnn
            go_wp2_with fail
            refine (cOperands _ _).mono ?_
            rintro e w6 ⟨rfl, rfl⟩
            go_wp2_with fail
            refine (bytesOf _ _ _ _ X5.out (by rw [HN1.out]; have := HLL.out; have := HN0.out; have := HN1.out; simp only [List.length_append] at *; omega)).mono ?_
            rintro e w8 ⟨v8, rfl, hN⟩
            obtain ⟨a8, c8, rfl⟩ : ∃ a c, v8 = .slice a n1 c := by have := ownsRow_slice hN.1; rwa [HN1.out] at this
            have X8 := Lib.hid (X5.out.upd hN.2.1 (fun _ _ h => h))
            have hown := ownsRow_upd K5.out hN.2.1 (fun _ _ h => h)
            have U8 := Lib.hid (U5.out.trans hN.2.1 (fun _ h _ => h))
            have hi8 := I5.out.upd hN.2.1 (fun h => h)
            have j0 := hi8.c0
            have j1 := hi8.c1
            have j2 := hi8.c2
            clear hN hi8
            go_wp2_with (at_builtin; go_loud (refine wpList_append_mine _ rfl _ _ 59 rfl 0 29 i0 (.agg #[.int .i64 0, .int .i64 0, .int .i64 0]) 3 24 Try.underlying59 hi hz0 hz1 hz2 rfl (by decide) (.slice ak K.length ck) K.length (icells K) rfl (hown.alloc _) 1 [.int .i64 op, .int .i64 a', .int .i64 b'] (src3 w8 29 _ _ _ (by simp [Value.oneCell']) 1 _ rfl) (by unfold maxLen; omega) (by omega) (Nat.zero_le _) ?_))
            intro vn wn ho hgr hf
            have HM := Lib.hid (show Sz W wn bw v5 vn (K ++ [⟨op, a', b'⟩]) from by
              have hal := Upd.alloc (fun _ => False) w8 (.cells #[.int .i64 op, .int .i64 a', .int .i64 b'] 29)
              have hu := Upd.grown (S := fun i => (Value.slice ak K.length ck).ownBlock = some i) hgr (fun i hi => .inl (by rw [hi]))
              refine ⟨?_, by rw [List.length_append, icells_snoc]; exact ho, (U8.out.trans hal (fun _ h _ => h)).trans hu (fun i hi hlt => by have := (OK5.out i hi).1; omega), OX5.out, ?_, ?_⟩
              · rw [ibytes_snoc]
                exact (X8.out.upd hal (fun _ _ h => h)).upd hu (fun i hi hf => (OK5.out i hf).2 hi)
              · intro i hi
                rcases hf i hi with hh | hh
                · exact OK5.out i hh
                · simp at hh
                  refine ⟨by have := U8.out.size; omega, fun hfp => ?_⟩
                  have := wr_inn X8.out i hfp
                  omega
              · intro t ht
                rcases List.mem_append.1 ht with h | h
                · exact HS4.out.right t h
                · simp at h; subst h; exact HRR.out)
            obtain ⟨an, cn, rfl⟩ := ownsRow_slice ho
            clear ho hgr hf hown j0 j1 j2
            go_wp2_with fail
            go_roundw
            case rel => exact ⟨k + 1, by omega, by omega, by go_num, ⟨v5, _, HM.out, by simp; omega⟩⟩
            case measure => simp [intOf]; omega
    · by_cases hkl2 : k < L.length
      · have hk30 : ¬ (k : Int) < 30 := by omega
        have hkL : (k : Int) < L.length := by omega
        clear hlt
        go_wp2_with fail
        refine (bytesOf _ _ _ _ HS.out.x (by omega)).mono ?_
        rintro e w4 ⟨v4, rfl, hN⟩
        have HV4 := Lib.hid (hN.vw HS.out.x.byte)
        have HS4 := Lib.hid (HS.out.mono hN.2.1)
        clear hN
        go_wp2_with fail
        refine (newReader _ _ _ HV4.out (by omega)).mono ?_
        rintro e w5 ⟨br, vr, rfl, h1, h2, h3⟩
        have HS5 := HS4.out.mono h2
        have HOB := Lib.hid (show ∀ i, (Value.slice ak K.length ck).ownBlock = some i → i ≠ br from fun i hi e => by
          subst e
          have := (HS4.out.k.lt _ hi).2
          have := h3 i (.inl rfl)
          omega)
        have HBR := Lib.hid (show W.heap.size ≤ br from by have := h3 br (.inl rfl); have := HS4.out.upd.size; omega)
        have HT : Hid (Rk W w5 br K (.slice ak K.length ck) 0) := ⟨vr, by simpa using h1, HS5.k, HS5.upd⟩
        have HRT := Lib.hid HS.out.right
        clear h1 h2 h3 HS5 HS4 HV4 HS
        go_wp2_with fail
        go_loopw [10] (fun i wr => ∃ j : Nat, j ≤ K.length ∧ i = .int .i64 j ∧ Hid (Rk W wr br K (.slice ak K.length ck) j)) (fun i _ => K.length - (intOf i).toNat)
        case atStart => exact ⟨0, Nat.zero_le _, rfl, HT⟩
        case round =>
          clear HT
          obtain ⟨j, hj, rfl, HK⟩ := hrel
          obtain ⟨vj, hrd, hkk, hup⟩ := HK.out
          have HRD := Lib.hid hrd
          have HKK := Lib.hid hkk
          have HUP := Lib.hid hup
          clear hrd hkk hup HK
          by_cases hjl : j < K.length
          · have hd := ibytes_drop K j hjl
            have hright : rightB (K.getD j default).op (K.getD j default).a (K.getD j default).b = true := HRT.out _ (by simp [List.getD, hjl])
            have HB := Lib.hid (read_back hright (ibytes (K.drop (j + 1))))
            rw [← hd] at HB
            obtain ⟨hc0, hc1, hc2⟩ := icells_get K j hjl
            have HKG := Lib.hid (show ∃ g c, (Value.slice ak K.length ck) = .slice (some ⟨g, 0, none⟩) K.length c from by
              rcases HKK.out.2 with ⟨he, h0⟩ | ⟨g, cap, cur, he, _⟩
              · omega
              · exact ⟨g, cap, he⟩)
            obtain ⟨g, cg, hge⟩ := HKG.out
            simp at hge
            obtain ⟨rfl, rfl⟩ := hge
            have hk0 := HKK.out.cells (g := g) rfl _ _ hc0
            have hk1 := HKK.out.cells (g := g) rfl _ _ hc1
            have hk2 := HKK.out.cells (g := g) rfl _ _ hc2
            rw [addr_add, Nat.zero_add] at hk0 hk1 hk2
            have hgb : g ≠ br := HOB.out g rfl
            have hck : K.length ≤ ck ∧ ck ≤ maxLen := by
              rcases HKK.out.2 with ⟨he, h0⟩ | ⟨g', cap, cur, he, _, _, h1, h2, _⟩
              · omega
              · simp at he; obtain ⟨_, rfl⟩ := he; exact ⟨h1, h2⟩
            unfold maxLen at hck
            obtain ⟨hck1, hck2⟩ := hck
            generalize hKj : K.getD j default = t at *
            clear hright hd hc0 hc1 hc2 HKG hKj
            go_wp2_with fail
            refine (cRead_ok wr br vj false _ HRD.out HB.out.2.2).mono ?_
            rw [HB.out.1, HB.out.2.1]
            rintro e w7 ⟨rfl, v7, g1, g2, g3⟩
            have hA := Upd.alloc (fun _ => False) w7 (.cells #[.int .i64 t.op, .int .i64 t.a, .int .i64 t.b] 29)
            have hm0 := (g2.cell (p := ⟨g, j * 3, none⟩) (World.block_lt_of_cell? _ _ hk0) hgb).trans hk0
            have hm1 := (g2.cell (p := ⟨g, j * 3 + 1, none⟩) (World.block_lt_of_cell? _ _ hk1) hgb).trans hk1
            have hm2 := (g2.cell (p := ⟨g, j * 3 + 2, none⟩) (World.block_lt_of_cell? _ _ hk2) hgb).trans hk2
            have hlg := World.block_lt_of_cell? _ _ hm0
            have hq0 := (hA.cell (p := ⟨g, j * 3, none⟩) hlg (fun h => h)).trans hm0
            have hq1 := (hA.cell (p := ⟨g, j * 3 + 1, none⟩) hlg (fun h => h)).trans hm1
            have hq2 := (hA.cell (p := ⟨g, j * 3 + 2, none⟩) hlg (fun h => h)).trans hm2
            have HM := Lib.hid (show Rk W (w7.alloc (.cells #[.int .i64 t.op, .int .i64 t.a, .int .i64 t.b] 29)) br K (.slice (some ⟨g, 0, none⟩) K.length ck) (j + 1) from
              ⟨v7, g1.upd hA (fun _ _ h => h), ownsRow_upd (ownsRow_upd HKK.out g2 (fun i hi e => HOB.out i hi e)) hA (fun _ _ h => h), (HUP.out.trans g2 (fun i hi hlt => by have := HBR.out; omega)).trans hA (fun _ h _ => h)⟩)
            clear g1 g2 g3 hA hk0 hk1 hk2
            go_wp2_with fail
            go_quiet (fail)
            have HMd : Hid (Rk W _ br K (.slice (some ⟨g, 0, none⟩) K.length ck) (j + 1)) := HM.out.drew nq
            go_wp2_with fail
            go_roundw
            case rel => exact ⟨j + 1, by omega, by go_num, HMd⟩
            case measure => simp [intOf]; omega
          · obtain rfl : j = K.length := by omega
            have HLe := Lib.hid (show ibytes (K.drop K.length) = [] by simp [ibytes])
            go_wp2_with fail
            refine (rLeft _ _ _ _ _ HRD.out).mono ?_
            rw [HLe.out]
            rintro e w7 ⟨rfl, rfl⟩
            go_wp2_with fail
            go_ret
            exact ⟨rfl, HUP.out.below (Nat.le_refl _) (fun _ h => h.elim)⟩
      · have hkL : ¬ (k : Int) < L.length := by omega
        clear hlt
        go_wp2_with fail
        refine (bytesOf _ _ _ _ HS.out.x (by omega)).mono ?_
        rintro e w4 ⟨v4, rfl, hN⟩
        have HV4 := Lib.hid (hN.vw HS.out.x.byte)
        have HS4 := Lib.hid (HS.out.mono hN.2.1)
        clear hN
        go_wp2_with fail
        refine (newReader _ _ _ HV4.out (by omega)).mono ?_
        rintro e w5 ⟨br, vr, rfl, h1, h2, h3⟩
        have HS5 := HS4.out.mono h2
        have HOB := Lib.hid (show ∀ i, (Value.slice ak K.length ck).ownBlock = some i → i ≠ br from fun i hi e => by
          subst e
          have := (HS4.out.k.lt _ hi).2
          have := h3 i (.inl rfl)
          omega)
        have HBR := Lib.hid (show W.heap.size ≤ br from by have := h3 br (.inl rfl); have := HS4.out.upd.size; omega)
        have HT : Hid (Rk W w5 br K (.slice ak K.length ck) 0) := ⟨vr, by simpa using h1, HS5.k, HS5.upd⟩
        have HRT := Lib.hid HS.out.right
        clear h1 h2 h3 HS5 HS4 HV4 HS
        go_wp2_with fail
        go_loopw [10] (fun i wr => ∃ j : Nat, j ≤ K.length ∧ i = .int .i64 j ∧ Hid (Rk W wr br K (.slice ak K.length ck) j)) (fun i _ => K.length - (intOf i).toNat)
        case atStart => exact ⟨0, Nat.zero_le _, rfl, HT⟩
        case round =>
          clear HT
          obtain ⟨j, hj, rfl, HK⟩ := hrel
          obtain ⟨vj, hrd, hkk, hup⟩ := HK.out
          have HRD := Lib.hid hrd
          have HKK := Lib.hid hkk
          have HUP := Lib.hid hup
          clear hrd hkk hup HK
          by_cases hjl : j < K.length
          · have hd := ibytes_drop K j hjl
            have hright : rightB (K.getD j default).op (K.getD j default).a (K.getD j default).b = true := HRT.out _ (by simp [List.getD, hjl])
            have HB := Lib.hid (read_back hright (ibytes (K.drop (j + 1))))
            rw [← hd] at HB
            obtain ⟨hc0, hc1, hc2⟩ := icells_get K j hjl
            have HKG := Lib.hid (show ∃ g c, (Value.slice ak K.length ck) = .slice (some ⟨g, 0, none⟩) K.length c from by
              rcases HKK.out.2 with ⟨he, h0⟩ | ⟨g, cap, cur, he, _⟩
              · omega
              · exact ⟨g, cap, he⟩)
            obtain ⟨g, cg, hge⟩ := HKG.out
            simp at hge
            obtain ⟨rfl, rfl⟩ := hge
            have hk0 := HKK.out.cells (g := g) rfl _ _ hc0
            have hk1 := HKK.out.cells (g := g) rfl _ _ hc1
            have hk2 := HKK.out.cells (g := g) rfl _ _ hc2
            rw [addr_add, Nat.zero_add] at hk0 hk1 hk2
            have hgb : g ≠ br := HOB.out g rfl
            have hck : K.length ≤ ck ∧ ck ≤ maxLen := by
              rcases HKK.out.2 with ⟨he, h0⟩ | ⟨g', cap, cur, he, _, _, h1, h2, _⟩
              · omega
              · simp at he; obtain ⟨_, rfl⟩ := he; exact ⟨h1, h2⟩
            unfold maxLen at hck
            obtain ⟨hck1, hck2⟩ := hck
            generalize hKj : K.getD j default = t at *
            clear hright hd hc0 hc1 hc2 HKG hKj
            go_wp2_with fail
            refine (cRead_ok wr br vj false _ HRD.out HB.out.2.2).mono ?_
            rw [HB.out.1, HB.out.2.1]
            rintro e w7 ⟨rfl, v7, g1, g2, g3⟩
            have hA := Upd.alloc (fun _ => False) w7 (.cells #[.int .i64 t.op, .int .i64 t.a, .int .i64 t.b] 29)
            have hm0 := (g2.cell (p := ⟨g, j * 3, none⟩) (World.block_lt_of_cell? _ _ hk0) hgb).trans hk0
            have hm1 := (g2.cell (p := ⟨g, j * 3 + 1, none⟩) (World.block_lt_of_cell? _ _ hk1) hgb).trans hk1
            have hm2 := (g2.cell (p := ⟨g, j * 3 + 2, none⟩) (World.block_lt_of_cell? _ _ hk2) hgb).trans hk2
            have hlg := World.block_lt_of_cell? _ _ hm0
            have hq0 := (hA.cell (p := ⟨g, j * 3, none⟩) hlg (fun h => h)).trans hm0
            have hq1 := (hA.cell (p := ⟨g, j * 3 + 1, none⟩) hlg (fun h => h)).trans hm1
            have hq2 := (hA.cell (p := ⟨g, j * 3 + 2, none⟩) hlg (fun h => h)).trans hm2
            have HM := Lib.hid (show Rk W (w7.alloc (.cells #[.int .i64 t.op, .int .i64 t.a, .int .i64 t.b] 29)) br K (.slice (some ⟨g, 0, none⟩) K.length ck) (j + 1) from
              ⟨v7, g1.upd hA (fun _ _ h => h), ownsRow_upd (ownsRow_upd HKK.out g2 (fun i hi e => HOB.out i hi e)) hA (fun _ _ h => h), (HUP.out.trans g2 (fun i hi hlt => by have := HBR.out; omega)).trans hA (fun _ h _ => h)⟩)
            clear g1 g2 g3 hA hk0 hk1 hk2
            go_wp2_with fail
            go_quiet (fail)
            have HMd : Hid (Rk W _ br K (.slice (some ⟨g, 0, none⟩) K.length ck) (j + 1)) := HM.out.drew nq
            go_wp2_with fail
            go_roundw
            case rel => exact ⟨j + 1, by omega, by go_num, HMd⟩
            case measure => simp [intOf]; omega
          · obtain rfl : j = K.length := by omega
            have HLe := Lib.hid (show ibytes (K.drop K.length) = [] by simp [ibytes])
            go_wp2_with fail
            refine (rLeft _ _ _ _ _ HRD.out).mono ?_
            rw [HLe.out]
            rintro e w7 ⟨rfl, rfl⟩
            go_wp2_with fail
            go_ret
            exact ⟨rfl, HUP.out.below (Nat.le_refl _) (fun _ h => h.elim)⟩
end Go.Proofs.Ytcmdffkhofmfhaa

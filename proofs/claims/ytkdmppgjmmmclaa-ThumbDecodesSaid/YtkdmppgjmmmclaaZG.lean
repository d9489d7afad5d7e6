/- The walk of ThumbStreams. -/
import Derived.Test.YtkdmppgjmmmclaaZF
import Derived.Test.YtkdmppgjmmmclaaZC
import Derived.Deep.QuietTactic
import Derived.BigQuiet
namespace Go.Proofs.Ytkdmppgjmmmclaa
open Go.RowKit
set_option linter.unusedVariables false
set_option linter.unusedSimpArgs false

def icl6 (t : I6) : List Value := [.int .i64 t.op, .int .i64 t.d, .int .i64 t.n, .int .i64 t.m, .int .i64 t.imm, .int .i64 t.cond]
def icells : List I6 → List Value
  | [] => []
  | t :: K => icl6 t ++ icells K
def hal : List I6 → List Nat
  | [] => []
  | t :: K => encP t ++ hal K
theorem icells_snoc (K : List I6) (t : I6) : icells (K ++ [t]) = icells K ++ icl6 t := by
  induction K with
  | nil => simp [icells]
  | cons s K ih => simp [icells, ih]
theorem hal_snoc (K : List I6) (t : I6) : hal (K ++ [t]) = hal K ++ encP t := by
  induction K with
  | nil => simp [hal]
  | cons s K ih => simp [hal, ih]
theorem icells_get (K : List I6) : ∀ j, j < K.length → (icells K)[j * 6]? = some (.int .i64 (K.getD j I6.zero).op) ∧ (icells K)[j * 6 + 1]? = some (.int .i64 (K.getD j I6.zero).d) ∧ (icells K)[j * 6 + 2]? = some (.int .i64 (K.getD j I6.zero).n) ∧ (icells K)[j * 6 + 3]? = some (.int .i64 (K.getD j I6.zero).m) ∧ (icells K)[j * 6 + 4]? = some (.int .i64 (K.getD j I6.zero).imm) ∧ (icells K)[j * 6 + 5]? = some (.int .i64 (K.getD j I6.zero).cond) := by
  induction K with
  | nil => intro j hj; simp at hj
  | cons t K ih =>
    intro j hj
    cases j with
    | zero => exact ⟨rfl, rfl, rfl, rfl, rfl, rfl⟩
    | succ j =>
      have := ih j (by simpa using hj)
      rw [show (j + 1) * 6 = j * 6 + 6 by omega]
      simpa [icells, icl6] using this
theorem hal_drop (K : List I6) : ∀ j, j < K.length → hal (K.drop j) = encP (K.getD j I6.zero) ++ hal (K.drop (j + 1)) := by
  induction K with
  | nil => intro j hj; simp at hj
  | cons t K ih =>
    intro j hj
    cases j with
    | zero => rfl
    | succ j => simpa using ih j (by simpa using hj)
theorem hal_len (K : List I6) (h : ∀ t ∈ K, rightP t = true) : (hal K).length ≤ 2 * K.length := by
  induction K with
  | nil => simp [hal]
  | cons t K ih =>
    have h1 := (enc_dec (h t (by simp)) []).2.1
    have h2 := ih (fun x hx => h x (by simp [hx]))
    simp [hal]
    split at h1 <;> omega
theorem hal_small (K : List I6) (h : ∀ t ∈ K, rightP t = true) : ∀ y ∈ hal K, y < 65536 := by
  induction K with
  | nil => simp [hal]
  | cons t K ih =>
    intro y hy
    rcases List.mem_append.1 hy with hy | hy
    · exact (enc_dec (h t (by simp)) []).2.2 y hy
    · exact ih (fun x hx => h x (by simp [hx])) y hy
theorem info_ins : (Try.prog.info? 23).map (fun i => (i.zero, i.size, i.bytes)) = some (some (.agg #[.int .i64 0, .int .i64 0, .int .i64 0, .int .i64 0, .int .i64 0, .int .i64 0]), 6, 48) := by kernel_rfl
theorem src6 (w : World) (e : TypeId) (t : I6) (n c : Nat) (hn : 1 = n) :
    Src (w.alloc (.cells #[.int .i64 t.op, .int .i64 t.d, .int .i64 t.n, .int .i64 t.m, .int .i64 t.imm, .int .i64 t.cond] e)) 6 (.slice (some ⟨w.heap.size, 0, none⟩) n c) n (icl6 t) := by
  subst hn
  refine .inr ⟨_, _, rfl, rfl, fun j u hj => ?_, by simp [icl6, Value.oneCell']⟩
  rw [addr_add]
  show (match (w.heap.push _)[w.heap.size]? with | some (.cells c _ _) => _ | _ => _) = _
  simpa [icl6] using hj
theorem raws6_at {W w : World} {v : Value} {L : List I6} (h : RawsH W v L) (hn : New W w) {k : Nat} (hk : k < L.length) :
    ∃ g off c, v = .slice (some ⟨g, off, none⟩) L.length c ∧ L.length ≤ c ∧ c ≤ maxLen ∧ (L.getD k I6.zero).Ok ∧ w.cell? ⟨g, off + k * 6, none⟩ = some (.int .i64 (L.getD k I6.zero).op) ∧ w.cell? ⟨g, off + k * 6 + 1, none⟩ = some (.int .i64 (L.getD k I6.zero).d) ∧ w.cell? ⟨g, off + k * 6 + 2, none⟩ = some (.int .i64 (L.getD k I6.zero).n) ∧ w.cell? ⟨g, off + k * 6 + 3, none⟩ = some (.int .i64 (L.getD k I6.zero).m) ∧ w.cell? ⟨g, off + k * 6 + 4, none⟩ = some (.int .i64 (L.getD k I6.zero).imm) ∧ w.cell? ⟨g, off + k * 6 + 5, none⟩ = some (.int .i64 (L.getD k I6.zero).cond) := by
  rcases h.2 with ⟨_, rfl⟩ | ⟨g, off, c, rfl, h1, h2, h3⟩
  · simp at hk
  · obtain ⟨c0, c1, c2, c3, c4, c5⟩ := h3 k hk
    refine ⟨g, off, c, rfl, h1, h2, h.1 _ (by simp [List.getD, hk]), ?_⟩
    exact ⟨hn.keep c0, hn.keep c1, hn.keep c2, hn.keep c3, hn.keep c4, hn.keep c5⟩
theorem RawsH.slice {W : World} {v : Value} {L : List I6} (h : RawsH W v L) : ∃ a c, v = .slice a L.length c := by
  rcases h.2 with ⟨⟨a, c, rfl⟩, rfl⟩ | ⟨g, off, c, rfl, _⟩
  · exact ⟨_, _, rfl⟩
  · exact ⟨_, _, rfl⟩

/-- the halfwords of K, and its instructions -/
structure Sv (W w : World) (vh vk : Value) (K : List I6) : Prop where
  h : w.ownsRow 0 27 1 vh (hal K).length (hvl (hal K))
  k : w.ownsRow 0 23 6 vk K.length (icells K)
  new : New W w
  oh : ∀ i, vh.ownBlock = some i → W.heap.size ≤ i
  ok : ∀ i, vk.ownBlock = some i → W.heap.size ≤ i ∧ vh.ownBlock ≠ some i
  right : ∀ t ∈ K, rightP t = true
theorem Sv.mono {W w w' : World} {vh vk : Value} {K : List I6} (h : Sv W w vh vk K) (hu : New w w') : Sv W w' vh vk K :=
  ⟨ownsRow_upd h.h hu (fun _ _ h => h), ownsRow_upd h.k hu (fun _ _ h => h), New.trans h.new hu, h.oh, h.ok, h.right⟩
theorem Sv.kmid {W w3 w4 : World} {vh vk : Value} {K : List I6} {o : Obj} (h : Sv W w3 vh vk K) (hg : w3.grownBy w4 vh.ownBlock) : (w4.alloc o).ownsRow 0 23 6 vk K.length (icells K) := by
  refine ownsRow_upd (ownsRow_upd h.k (Upd.grown (S := fun i => vh.ownBlock = some i) hg (fun i hi => .inl hi)) (fun i hi => (h.ok i hi).2)) (Upd.alloc (fun _ => False) w4 o) (fun _ _ h => h)
theorem Sv.new4 {W w3 w4 : World} {vh vk : Value} {K : List I6} (h : Sv W w3 vh vk K) (hg : w3.grownBy w4 vh.ownBlock) : New W w4 :=
  New.row2 h.new hg h.oh
theorem Sv.app {W w3 w4 w5 : World} {vh vk vh' vk' : Value} {K : List I6} {i : I6} {o : Obj} (h : Sv W w3 vh vk K)
    (ho : w4.ownsRow 0 27 1 vh' ((hal K).length + (encP i).length) (hvl (hal K) ++ hvl (encP i))) (hg : w3.grownBy w4 vh.ownBlock) (hf : Fresh w3 vh vh')
    (ho2 : w5.ownsRow 0 23 6 vk' (K.length + 1) (icells K ++ icl6 i)) (hg2 : (w4.alloc o).grownBy w5 vk.ownBlock) (hf2 : Fresh (w4.alloc o) vk vk') (hr : rightP i = true) : Sv W w5 vh' vk' (K ++ [i]) := by
  have hu4 := Upd.grown (S := fun i => vh.ownBlock = some i) hg (fun i hi => .inl hi)
  have hal := Upd.alloc (fun _ => False) w4 o
  have hu5 := Upd.grown (S := fun i => vk.ownBlock = some i) hg2 (fun i hi => .inl hi)
  have s3 := h.new.size
  have s4 := hu4.size
  have hap : ∀ k, vk.ownBlock = some k → vh'.ownBlock ≠ some k := fun k hk hh => by
    rcases hf k hh with h1 | h1
    · exact (h.ok k hk).2 h1
    · have := (h.k.lt k hk).2
      omega
  refine ⟨?_, ?_, ?_, ?_, ?_, ?_⟩
  · rw [hal_snoc, List.length_append, hvl_append]
    exact ownsRow_upd (ownsRow_upd ho hal (fun _ _ h => h)) hu5 (fun i hi hv => hap i hv hi)
  · rw [icells_snoc, List.length_append]
    exact ho2
  · exact New.row2 (New.trans (h.new4 hg) hal) hg2 (fun i hi => (h.ok i hi).1)
  · intro i hi
    rcases hf i hi with h1 | h1
    · exact h.oh i h1
    · omega
  · intro i hi
    rcases hf2 i hi with h1 | h1
    · exact ⟨(h.ok i h1).1, hap i h1⟩
    · simp at h1
      refine ⟨by omega, fun hh => ?_⟩
      have := (ho.lt i hh).2
      omega
  · intro t ht
    rcases List.mem_append.1 ht with h1 | h1
    · exact h.right t h1
    · simp at h1
      subst h1
      exact hr
/-- behind the readings of j instructions -/
def Sk (W w : World) (vh vk : Value) (K : List I6) (j : Nat) : Prop :=
  VwH w vh (hal (K.drop j)) ∧ w.ownsRow 0 23 6 vk K.length (icells K) ∧ New W w
theorem Sk.mono {W w w' : World} {vh vk : Value} {K : List I6} {j : Nat} (h : Sk W w vh vk K j) (hu : New w w') : Sk W w' vh vk K j :=
  ⟨h.1.new hu, ownsRow_upd h.2.1 hu (fun _ _ h => h), New.trans h.2.2 hu⟩
theorem VwH.cons {w : World} {v : Value} {xs ys : List Nat} (h : VwH w v (xs ++ ys)) (hx : 1 ≤ xs.length) : ∃ g off c, v = .slice (some ⟨g, off, none⟩) (xs.length + ys.length) c ∧ xs.length + ys.length ≤ c ∧ c ≤ maxLen ∧ g < w.heap.size ∧
    VwH w (.slice (some ⟨g, off + xs.length, none⟩) ys.length (c - xs.length)) ys := by
  rcases h.2 with ⟨_, he⟩ | ⟨g, off, c, rfl, h1, h2, h3⟩
  · have := congrArg List.length he
    rw [List.length_append, List.length_nil] at this
    omega
  · simp only [List.length_append] at *
    refine ⟨g, off, c, rfl, h1, h2, World.block_lt_of_cell? w _ (h3 0 (by omega)), fun y hy => h.1 y (by simp [hy]), .inr ⟨g, off + xs.length, c - xs.length, rfl, by omega, by omega, fun j hj => ?_⟩⟩
    have := h3 (xs.length + j) (by omega)
    rw [Nat.add_assoc, this]
    simp [List.getD, List.getElem?_append_right]
end Go.Proofs.Ytkdmppgjmmmclaa

/- Plain facts on worlds: which blocks a call may turn ('Upd'), and lists of bytes as cells. No program is named here. -/
import Derived.WalkKit
import Derived.WalkSpells
import Derived.Lib.Hide
namespace Go.Proofs.Ytkleofpiikbpmaa
open Go.RowKit

/-- What a call may have turned: the blocks of S, and new ones. -/
structure Upd (S : Nat → Prop) (w w' : World) : Prop where
  os : w'.os = w.os
  tape : w'.tape = w.tape
  output : w'.output = w.output
  size : w.heap.size ≤ w'.heap.size
  block : ∀ k, k < w.heap.size → ¬ S k → w'.heap[k]? = w.heap[k]?

theorem Upd.refl (S : Nat → Prop) (w : World) : Upd S w w := ⟨rfl, rfl, rfl, Nat.le_refl _, fun _ _ _ => rfl⟩
theorem Upd.trans {S T : Nat → Prop} {a b c : World} (h : Upd S a b) (k : Upd T b c) (hT : ∀ i, T i → i < a.heap.size → S i) : Upd S a c :=
  ⟨k.os.trans h.os, k.tape.trans h.tape, k.output.trans h.output, Nat.le_trans h.size k.size,
    fun i hi hS => (k.block i (Nat.lt_of_lt_of_le hi h.size) (fun hTi => hS (hT i hTi hi))).trans (h.block i hi hS)⟩
theorem Upd.mono {S T : Nat → Prop} {a b : World} (h : Upd S a b) (hT : ∀ i, S i → i < a.heap.size → T i) : Upd T a b :=
  ⟨h.os, h.tape, h.output, h.size, fun i hi hS => h.block i hi (fun hs => hS (hT i hs hi))⟩
theorem Upd.below {S : Nat → Prop} {w w' : World} (h : Upd S w w') {B : Nat} (hB : B ≤ w.heap.size) (hS : ∀ k, S k → B ≤ k) : Below B w w' :=
  ⟨h.os, h.tape, h.output, h.size, fun k hk => h.block k (by omega) (fun hs => by have := hS k hs; omega)⟩
theorem Upd.drew (S : Nat → Prop) (w : World) : Upd S w w.drew := ⟨rfl, rfl, rfl, Nat.le_refl _, fun _ _ _ => rfl⟩
theorem Upd.alloc (S : Nat → Prop) (w : World) (o : Obj) : Upd S w (w.alloc o) :=
  ⟨rfl, rfl, rfl, by simp, fun k hk _ => Below.heap_alloc _ _ _ hk⟩
theorem Upd.setCell {S : Nat → Prop} (w : World) {p : Addr} (hp : S p.block ∨ w.heap.size ≤ p.block) (u : Value) : Upd S w (w.setCell p u) :=
  ⟨rfl, rfl, rfl, by simp [World.setCell], fun k hk hS => Below.heap_setCell _ _ _ _ (by rintro rfl; rcases hp with h | h; exact hS h; omega)⟩
theorem Upd.grown {S : Nat → Prop} {w w' : World} {row : Option Nat} (hg : w.grownBy w' row) (hr : ∀ k, row = some k → S k ∨ w.heap.size ≤ k) : Upd S w w' :=
  ⟨hg.os, hg.tape, hg.output, hg.size, fun k hk hS => hg.block k hk (fun e => by rcases hr k e.symm with h | h; exact hS h; omega)⟩
theorem Upd.cell {S : Nat → Prop} {w w' : World} (h : Upd S w w') {p : Addr} (hp : p.block < w.heap.size) (hS : ¬ S p.block) : w'.cell? p = w.cell? p :=
  World.cell?_of_block (w := w) (h.block p.block hp hS)
theorem Upd.frozen {S : Nat → Prop} {w w' : World} (h : Upd S w w') {p : Addr} (hp : p.block < w.heap.size) (hS : ¬ S p.block) : w'.frozen? p = w.frozen? p :=
  World.frozen?_of_block (w := w) (h.block p.block hp hS)

theorem ownsRow_upd {w w' : World} {base : Nat} {e : TypeId} {size : Nat} {v : Value} {n : Nat} {xs : List Value} {S : Nat → Prop}
    (h : w.ownsRow base e size v n xs) (hu : Upd S w w') (hS : ∀ k, v.ownBlock = some k → ¬ S k) : w'.ownsRow base e size v n xs := by
  refine ⟨h.1, ?_⟩
  rcases h.2 with hn | ⟨g, cap, cur, rfl, hb, hgg, rest⟩
  · exact .inl hn
  · exact .inr ⟨g, cap, cur, rfl, hb, by rw [hu.block g (Array.getElem?_eq_some_iff.1 hgg).1 (hS g rfl)]; exact hgg, rest⟩

/-- bytes as values of cells -/
def bv (xs : List Int) : List Value := xs.map (Value.int .u8)
theorem bv_length (xs : List Int) : (bv xs).length = xs.length := by simp [bv]
theorem bv_append (xs ys : List Int) : bv (xs ++ ys) = bv xs ++ bv ys := by simp [bv]


theorem Upd.row {w wa w1 : World} {row : Option Nat} (ha : Upd (fun _ => False) w wa) (hg : wa.grownBy w1 row) : Upd (fun k => row = some k) w w1 :=
  (ha.mono (fun _ h _ => h.elim)).trans (Upd.grown (S := fun k => row = some k) hg (fun _ h => .inl h)) (fun _ h _ => h)

theorem ownsRow_slice {w : World} {base : Nat} {e : TypeId} {size : Nat} {v : Value} {n : Nat} {xs : List Value} (h : w.ownsRow base e size v n xs) : ∃ a c, v = .slice a n c := by
  rcases h.2 with ⟨rfl, rfl⟩ | ⟨g, cap, cur, rfl, _⟩
  · exact ⟨_, _, rfl⟩
  · exact ⟨_, _, rfl⟩

/-- What may stand behind 'append(s, x...)': nothing, or cells that can be read. -/
def Src (w : World) (size : Nat) (x : Value) (m : Nat) (news : List Value) : Prop :=
  (x = .slice none 0 0 ∧ m = 0 ∧ news = []) ∨ ∃ a c, x = .slice (some a) m c ∧ news.length = m * size ∧ (∀ j u, news[j]? = some u → w.cell? (a.add j) = some u) ∧ ∀ u ∈ news, u.oneCell' = true
/-- v' lies where v lay, or in new memory -/
def Fresh (w : World) (v v' : Value) : Prop := ∀ k, v'.ownBlock = some k → v.ownBlock = some k ∨ w.heap.size ≤ k

section
variable {P : Program} (w : World)
theorem run_append_mine (base : Nat) (t ty e : TypeId) (i : TypeInfo) (z : Value) (size bytes : Nat) (ht : P.underlying t = some (.slice e)) (hi : P.info? e = some i) (hz : i.zero = some z)
    (hsize : i.size = size) (hby : i.bytes = bytes) (hzs : z.cells.size = size) (hsz : 0 < size)
    (v : Value) (n : Nat) (xs : List Value) (hown : w.ownsRow base e size v n xs) (x : Value) (m : Nat) (news : List Value) (hx : Src w size x m news)
    (h63 : n + m ≤ maxLen) (hbytes : (n + m) * bytes ≤ 140737488355328) (hbase : base ≤ w.heap.size) :
    ∃ v' w', (Builtin.append_ #[t, t] ty #[v, x]).run P w = .ok v' w' ∧ w'.ownsRow base e size v' (n + m) (xs ++ news) ∧ w.grownBy w' v.ownBlock ∧ Fresh w v v' := by
  rcases hx with ⟨rfl, rfl, rfl⟩ | ⟨a, c, rfl, hl, hnews, h1⟩
  · refine ⟨v, w, run_append_owned_none w base t ty e i size ht hi v n xs hown, by simpa using hown, ⟨rfl, rfl, rfl, Nat.le_refl _, fun _ _ _ => rfl⟩, fun k hk => .inl hk⟩
  · rcases hown.2 with ⟨rfl, rfl⟩ | ⟨g, cap, cur, rfl, hbg, hg, hnc, hcm, hcs, htake⟩
    · have hx : xs = [] := List.eq_nil_of_length_eq_zero (by simpa using hown.1)
      subst hx
      obtain ⟨v', w', h2, h3, h4, _⟩ := run_append_own (P := P) w w.heap.size t ty e i z size bytes ht hi hz hsize hby hzs hsz (.slice none 0 0) 0 [] (World.ownsRow_nil _ _ _ _) a m c news hl hnews h1 h63 hbytes (Nat.le_refl _)
      refine ⟨v', w', h2, ⟨h3.1, ?_⟩, h4, fun k hk => .inr (h3.lt k hk).1⟩
      rcases h3.2 with h | ⟨g, cap, cur, h5, h6, h7⟩
      · exact .inl h
      · exact .inr ⟨g, cap, cur, h5, by omega, h7⟩
    · by_cases hroom : n + m ≤ cap
      · obtain ⟨w', h2, h3, h4⟩ := run_append_fits (P := P) w base t ty e i size ht hi hsize g n cap xs hown a m c news hl hnews h1 hroom
        exact ⟨_, w', h2, h3, h4, fun k hk => .inl hk⟩
      · have holds : ∀ j u, xs[j]? = some u → w.cell? ((⟨g, 0, none⟩ : Addr).add j) = some u := hown.cells (g := g) rfl
        obtain ⟨v', w', h2, h3, h4⟩ := run_append_arg_grows (P := P) w t ty e i z size bytes ht hi hz hsize hby hzs hsz ⟨g, 0, none⟩ n cap xs hown.1 holds a m c news hl hnews (by omega) h63 hbytes
        refine ⟨v', w', h2, ⟨h3.1, ?_⟩, ⟨h4.os, h4.tape, h4.output, h4.size, fun k hk _ => h4.block k hk (by simp)⟩, fun k hk => .inr (h3.lt k hk).1⟩
        rcases h3.2 with h | ⟨g, cap, cur, h5, h6, h7⟩
        · exact .inl h
        · exact .inr ⟨g, cap, cur, h5, by omega, h7⟩

theorem wpList_append_mine {ops : Array Oper} {rest : List Oper} {o : Oper} {a : Act} {Q : Exit → Act → World → Prop} (hgd : o.guard = none) (s x : Operand) (t : TypeId)
    (ho : o.op = .call { callee := .builtin .append, args := #[s, x], argTypes := #[t, t] })
    (base : Nat) (e : TypeId) (i : TypeInfo) (z : Value) (size bytes : Nat) (ht : P.underlying t = some (.slice e)) (hi : P.info? e = some i) (hz : i.zero = some z)
    (hsize : i.size = size) (hby : i.bytes = bytes) (hzs : z.cells.size = size) (hsz : 0 < size)
    (v : Value) (n : Nat) (xs : List Value) (hs : a.eval s = v) (hown : w.ownsRow base e size v n xs)
    (m : Nat) (news : List Value) (hx : Src w size (a.eval x) m news)
    (h63 : n + m ≤ maxLen) (hbytes : (n + m) * bytes ≤ 140737488355328) (hbase : base ≤ w.heap.size)
    (h : ∀ v' w', w'.ownsRow base e size v' (n + m) (xs ++ news) → w.grownBy w' v.ownBlock → Fresh w v v' → wpList P ops Q rest (a.put o.dst v') w') : wpList P ops Q (o :: rest) a w := by
  refine wpList_plain hgd fun K hK => ?_
  obtain ⟨v', w', hr, h2, h3, h4⟩ := run_append_mine (P := P) w base t o.type e i z size bytes ht hi hz hsize hby hzs hsz v n xs hown (a.eval x) m news hx h63 hbytes hbase
  unfold Oper.wp execOp
  simp only [ho, resolve, invoke, builtin, Sem.run_bind, Sem.run_pure, Result.andThen_ok, List.map_toArray, List.map_cons, List.map_nil, hs, hr]
  exact hK _ _ (h v' w' h2 h3 h4)
end

theorem Src.row {w : World} {base : Nat} {e : TypeId} {v : Value} {n : Nat} {xs : List Value} (h : w.ownsRow base e 1 v n xs) (h1 : ∀ u ∈ xs, u.oneCell' = true) : Src w 1 v n xs := by
  rcases h.2 with ⟨rfl, rfl⟩ | ⟨g, cap, cur, rfl, _⟩
  · exact .inl ⟨rfl, rfl, List.eq_nil_of_length_eq_zero (by simpa using h.1)⟩
  · exact .inr ⟨⟨g, 0, none⟩, cap, rfl, h.1, h.cells (g := g) rfl, h1⟩
theorem bv_one (xs : List Int) : ∀ u ∈ bv xs, u.oneCell' = true := by
  intro u hu
  obtain ⟨n, _, rfl⟩ := List.mem_map.1 hu
  rfl
/-- a literal slice, in a new block -/
theorem Src.lit (w : World) (e : TypeId) (cs : Array Value) (h1 : ∀ u ∈ cs.toList, u.oneCell' = true) (n c : Nat) (hn : cs.size = n) :
    Src (w.alloc (.cells cs e)) 1 (.slice (some ⟨w.heap.size, 0, none⟩) n c) n cs.toList := by
  refine .inr ⟨_, _, rfl, by simpa using hn, fun j u hj => ?_, h1⟩
  have hadd : (⟨w.heap.size, 0, none⟩ : Addr).add j = ⟨w.heap.size, j, none⟩ := by unfold Addr.add; split <;> simp_all
  rw [hadd]
  show (match (w.heap.push _)[w.heap.size]? with | some (.cells c _ _) => _ | _ => _) = _
  simpa using hj


/-- a view: a slice value that reads as these bytes -/
def Vw (w : World) (v : Value) (ys : List Int) : Prop :=
  (∀ y ∈ ys, 0 ≤ y ∧ y ≤ 255) ∧ (((∃ a, v = .slice a 0 0) ∧ ys = []) ∨
  ∃ g off c, v = .slice (some ⟨g, off, none⟩) ys.length c ∧ ys.length ≤ c ∧ c ≤ maxLen ∧ ∀ j, j < ys.length → w.cell? ⟨g, off + j, none⟩ = some (.int .u8 (ys.getD j 0)))

theorem Vw.nil (w : World) : Vw w (.slice none 0 0) [] := ⟨by simp, .inl ⟨⟨none, rfl⟩, rfl⟩⟩
theorem Vw.upd {w w' : World} {v : Value} {ys : List Int} {S : Nat → Prop} (h : Vw w v ys) (hu : Upd S w w') (hS : ∀ k, v.ownBlock = some k → ¬ S k) : Vw w' v ys := by
  refine ⟨h.1, ?_⟩
  rcases h.2 with h | ⟨g, off, c, rfl, h1, h2, h3⟩
  · exact .inl h
  · refine .inr ⟨g, off, c, rfl, h1, h2, fun j hj => ?_⟩
    have hc := h3 j hj
    rw [hu.cell (p := ⟨g, off + j, none⟩) (World.block_lt_of_cell? w _ hc) (hS g rfl)]
    exact hc
theorem Vw.slice {w : World} {v : Value} {ys : List Int} (h : Vw w v ys) : ∃ a c, v = .slice a ys.length c ∧ ys.length ≤ c ∧ c ≤ maxLen := by
  rcases h.2 with ⟨⟨a, rfl⟩, rfl⟩ | ⟨g, off, c, rfl, h1, h2, _⟩
  · exact ⟨a, 0, rfl, Nat.le_refl _, by unfold maxLen; omega⟩
  · exact ⟨_, c, rfl, h1, h2⟩
theorem addr_add (g off j : Nat) : (⟨g, off, none⟩ : Addr).add j = ⟨g, off + j, none⟩ := by unfold Addr.add; split <;> simp_all
theorem bv_get {ys : List Int} {j : Nat} {u : Value} (h : (bv ys)[j]? = some u) : j < ys.length ∧ u = .int .u8 (ys.getD j 0) := by
  simp only [bv, List.getElem?_map, Option.map_eq_some_iff] at h
  obtain ⟨n, hn, rfl⟩ := h
  exact ⟨(List.getElem?_eq_some_iff.1 hn).1, by simp [List.getD, hn]⟩
theorem vw_none {w : World} {n c : Nat} {ys : List Int} (h : Vw w (.slice none n c) ys) : n = 0 ∧ c = 0 ∧ ys = [] := by
  rcases h.2 with ⟨⟨a, he⟩, rfl⟩ | ⟨g, off, c, he, _⟩
  · simp at he
    exact ⟨he.2.1, he.2.2, rfl⟩
  · simp at he
theorem Vw.src {w : World} {v : Value} {ys : List Int} (h : Vw w v ys) : Src w 1 v ys.length (bv ys) := by
  rcases h.2 with ⟨⟨a, rfl⟩, rfl⟩ | ⟨g, off, c, rfl, h1, h2, h3⟩
  · cases a with
    | none => exact .inl ⟨rfl, rfl, rfl⟩
    | some a => exact .inr ⟨a, 0, rfl, rfl, by simp [bv], by simp [bv]⟩
  · refine .inr ⟨_, _, rfl, by simp [bv], fun j u hj => ?_, bv_one ys⟩
    obtain ⟨hl, rfl⟩ := bv_get hj
    rw [addr_add]
    exact h3 j hl
theorem Src.upd {w w' : World} {size : Nat} {v : Value} {m : Nat} {news : List Value} {S : Nat → Prop} (h : Src w size v m news) (hu : Upd S w w') (hS : ∀ k, v.ownBlock = some k → ¬ S k) : Src w' size v m news := by
  rcases h with h | ⟨a, c, rfl, h1, h2, h3⟩
  · exact .inl h
  · refine .inr ⟨a, c, rfl, h1, fun j u hj => ?_, h3⟩
    have hc := h2 j u hj
    have hb : (a.add j).block = a.block := by unfold Addr.add; split <;> rfl
    rw [hu.cell (World.block_lt_of_cell? w _ hc) (by rw [hb]; exact hS a.block rfl)]
    exact hc
theorem vw_of_row {w : World} {base : Nat} {e : TypeId} {v : Value} {ys : List Int} (h : w.ownsRow base e 1 v ys.length (bv ys)) (hr : ∀ y ∈ ys, 0 ≤ y ∧ y ≤ 255) : Vw w v ys := by
  refine ⟨hr, ?_⟩
  rcases h.2 with ⟨rfl, hn⟩ | ⟨g, cap, cur, rfl, _, _, hc, hm, _⟩
  · exact .inl ⟨⟨none, rfl⟩, List.eq_nil_of_length_eq_zero hn⟩
  · refine .inr ⟨g, 0, cap, rfl, hc, hm, fun j hj => ?_⟩
    have := h.cells (g := g) rfl j (.int .u8 (ys.getD j 0)) (by simp [bv, List.getElem?_eq_getElem hj, List.getD])
    rwa [addr_add] at this
/-- a piece from the front, a piece from the back -/
theorem Vw.take {w : World} {v : Value} {ys : List Int} (h : Vw w v ys) {a : Option Addr} {l c : Nat} (hv : v = .slice a l c) (n : Nat) (hn : n ≤ ys.length) : Vw w (.slice a n c) (ys.take n) := by
  subst hv
  refine ⟨fun y hy => h.1 y (List.mem_of_mem_take hy), ?_⟩
  have hl : (ys.take n).length = n := by simp; omega
  rcases h.2 with ⟨⟨a0, he⟩, rfl⟩ | ⟨g, off, c', he, h1, h2, h3⟩
  · simp at he hn
    obtain ⟨rfl, rfl, rfl⟩ := he
    subst hn
    exact .inl ⟨⟨a, rfl⟩, rfl⟩
  · simp at he
    obtain ⟨rfl, rfl, rfl⟩ := he
    refine .inr ⟨g, off, c, by rw [hl], by omega, h2, fun j hj => ?_⟩
    rw [hl] at hj
    rw [h3 j (by omega)]
    simp [List.getD, hj]
theorem Vw.drop {w : World} {v : Value} {ys : List Int} (h : Vw w v ys) {g off l c : Nat} (hv : v = .slice (some ⟨g, off, none⟩) l c) (n : Nat) (hn : n ≤ ys.length) (off' : Nat) (ho : n < ys.length → off' = off + n) : Vw w (.slice (some ⟨g, off', none⟩) (l - n) (c - n)) (ys.drop n) := by
  subst hv
  refine ⟨fun y hy => h.1 y (List.mem_of_mem_drop hy), ?_⟩
  rcases h.2 with ⟨⟨a0, he⟩, rfl⟩ | ⟨g', off1, c', he, h1, h2, h3⟩
  · simp at he hn
    obtain ⟨_, rfl, rfl⟩ := he
    exact .inl ⟨⟨some ⟨g, off', none⟩, by simp⟩, by simp⟩
  · simp at he
    obtain ⟨⟨rfl, rfl⟩, rfl, rfl⟩ := he
    have hl : (ys.drop n).length = ys.length - n := by simp
    refine .inr ⟨g, off', c - n, by rw [hl], by omega, by omega, fun j hj => ?_⟩
    rw [hl] at hj
    rw [ho (by omega), Nat.add_assoc, h3 (n + j) (by omega)]
    simp [List.getD]
theorem run_str {P : Program} {src e dst : TypeId} (hs : P.underlying src = some (.slice e)) (he : P.underlying e = some (.int .u8)) (hd : P.underlying dst = some .string) {w : World} {v : Value} {ys : List Int} (h : Vw w v ys) :
    (convert src dst v).run P w = .ok (.string (strOfNums ys)) w := by
  rcases h.2 with ⟨⟨a, rfl⟩, rfl⟩ | ⟨g, off, c, rfl, h1, h2, h3⟩
  · cases a with
    | none => exact run_convert_bytes_nil w src e hs he 0 0 dst hd
    | some a =>
      rw [run_convert_bytes_string w src dst e (some a) 0 0 hs he hd, run_bytesToString w a 0 0 [] (by simpa using run_loadCells_list (P := P) w a [] (by simp))]
      rfl
  · exact run_convert_bytes_arg w src e hs he g off ys.length c ys rfl h3 dst hd

end Go.Proofs.Ytkleofpiikbpmaa

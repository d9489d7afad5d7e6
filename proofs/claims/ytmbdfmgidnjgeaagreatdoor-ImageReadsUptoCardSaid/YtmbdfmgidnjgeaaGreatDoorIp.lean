/- A writer beside what is kept ('Pen'); what an image is laid as; package image's Lay. -/
import Derived.Test.YtmbdfmgidnjgeaaGreatDoorIs
import Derived.Test.YtmbdfmgidnjgeaaGreatDoorCl
import Derived.Lib.ConvBytes
import Derived.Test.YtmbdfmgidnjgeaaGreatDoorStr
namespace Go.Proofs.YtmbdfmgidnjgeaaGreatDoor
open Go.RowKit Go.Lib Go.Shelf
set_option linter.unusedVariables false

theorem nums_getD (s : ByteArray) (j : Nat) (hj : j < s.size) : (nums s).getD j 0 = ((s.data.toList.getD j 0).toNat : Int) := by
  have h : j < s.data.toList.length := by simpa using hj
  unfold nums
  rw [List.getD_eq_getElem?_getD, List.getD_eq_getElem?_getD, List.getElem?_map, List.getElem?_eq_getElem h]
  rfl
/-- []byte(s) -/
theorem conv_str (w : World) (s : ByteArray) (hs : s.size ≤ maxLen) : ∃ c w1, (convert 9 23 (.string s)).run Tryz.prog w = .ok (.slice (some ⟨w.heap.size, 0, none⟩) s.size c) w1 ∧ Vw w1 (.slice (some ⟨w.heap.size, 0, none⟩) s.size c) (nums s) ∧ Upd (fun _ => False) w w1 ∧ w.heap.size < w1.heap.size := by
  refine ⟨grownCap w s.size 0 5, bytesWorld w 5 s, Lib.run_convert_string_bytes w _ _ _ s Tryz.underlying9 Tryz.underlying23 Tryz.underlying5, ⟨nums_byte s, .inr ⟨_, 0, _, by rw [nums_len], ?_, ?_, ?_⟩⟩, ⟨?_, ?_, ?_, ?_, ?_⟩, ?_⟩
  · rw [nums_len]; exact grownCap_ge _ _ _ _
  · exact grownCap_le_maxLen _ _ _ _ hs
  · intro j hj
    rw [nums_len] at hj
    rw [nums_getD s j hj, Nat.zero_add]
    exact Lib.bytesWorld_cell w _ s j hj
  · rfl
  · rfl
  · rfl
  · rw [Lib.bytesWorld_size]; omega
  · intro k hk _
    exact Lib.bytesWorld_at_old w _ s k hk
  · rw [Lib.bytesWorld_size]; omega

theorem conv_at (w : World) (s : ByteArray) (hs : s.size ≤ maxLen) (n : Nat) (hn : w.heap.size = n) : ∃ c w1, (convert 9 23 (.string s)).run Tryz.prog w = .ok (.slice (some ⟨n, 0, none⟩) s.size c) w1 ∧ Vw w1 (.slice (some ⟨n, 0, none⟩) s.size c) (nums s) ∧ Upd (fun _ => False) w w1 ∧ n < w1.heap.size := by
  subst hn
  exact conv_str w s hs

/-- a writer at b that holds xs; what K names, of W, is as it was -/
structure PenAt (t : TypeId) (K : Nat → Prop) (W w : World) (b : Nat) (v : Value) (xs : List Int) : Prop where
  wr : Wr t w b v xs
  off : ∀ k, fp b v k → ¬ K k
  kept : Upd (fun k => ¬ K k) W w
def Pen (t : TypeId) (K : Nat → Prop) (W w : World) (b : Nat) (xs : List Int) : Prop := (∀ k, K k → k < W.heap.size) ∧ ∃ v, PenAt t K W w b v xs
section
variable {t : TypeId} {K : Nat → Prop} {W w w' : World} {b : Nat} {v : Value} {xs zs : List Int}
theorem Pen.laid (h1 : ∀ k, K k → k < W.heap.size) (h : PenAt t K W w b v xs) (hl : Laid t w b v zs w') : Pen t K W w' b zs := by
  obtain ⟨v', k1, k2, k3⟩ := hl
  have off : ∀ k, fp b v' k → ¬ K k := fun k hk => by
    rcases hk with rfl | hk
    · exact h.off _ (.inl rfl)
    · rcases k3 k hk with hh | hh
      · exact h.off k (.inr hh)
      · intro hK
        have := h1 k hK
        have := h.kept.size
        omega
  exact ⟨h1, v', k1, off, h.kept.trans k2 (fun i hi _ => h.off i hi)⟩
/-- new memory beside it -/
theorem Pen.mono (h : Pen t K W w b xs) (hu : Upd (fun _ => False) w w') : Pen t K W w' b xs := by
  obtain ⟨h1, v, h⟩ := h
  exact ⟨h1, v, h.wr.upd hu (fun _ _ h => h), h.off, h.kept.trans hu (fun _ h _ => h.elim)⟩
/-- from now on all is kept that is kept, and some more that is not the writer's -/
theorem Pen.start (h : Pen t K W w b xs) {J : Nat → Prop} (hJ : ∀ k, J k → k < w.heap.size) (hoff : ∀ v, Wr t w b v xs → ∀ k, fp b v k → ¬ J k) : Pen t (fun k => K k ∨ J k) w w b xs := by
  obtain ⟨h1, v, h⟩ := h
  exact ⟨fun k hk => by rcases hk with hk | hk; (exact Nat.lt_of_lt_of_le (h1 k hk) h.kept.size); exact hJ k hk, v, h.wr, fun k hk hh => by rcases hh with hh | hh; (exact h.off k hk hh); exact hoff v h.wr k hk hh, Upd.refl _ _⟩
theorem Pen.back {J : Nat → Prop} (h : Pen t K W w b xs) (k : Pen t (fun k => K k ∨ J k) w w' b zs) : Pen t K W w' b zs := by
  obtain ⟨h1, v, h⟩ := h
  obtain ⟨k1, v', k⟩ := k
  exact ⟨h1, v', k.wr, fun i hi hK => k.off i hi (.inl hK), h.kept.trans k.kept (fun i hi _ hK => hi (.inl hK))⟩
theorem Pen.lt (h : Pen t K W w b xs) : b < w.heap.size := by
  obtain ⟨_, v, h⟩ := h
  exact h.wr.lt
/-- a world that lies in what is kept -/
theorem Pen.below {B : Nat} (h : Pen t K W w b xs) (hB : B ≤ W.heap.size) (hK : ∀ k, k < B → K k) : Below B W w := by
  obtain ⟨_, v, h⟩ := h
  exact h.kept.below hB (fun k hk => by
    by_cases hlt : k < B
    · exact absurd (hK k hlt) hk
    · omega)
theorem Pen.cell (h : Pen t K W w b xs) {p : Addr} (hp : p.block < W.heap.size) (hK : K p.block) : w.cell? p = W.cell? p := by
  obtain ⟨_, v, h⟩ := h
  exact h.kept.cell hp (fun hn => hn hK)
theorem Pen.size (h : Pen t K W w b xs) : W.heap.size ≤ w.heap.size := by
  obtain ⟨_, v, h⟩ := h
  exact h.kept.size
end

theorem pU8 {K : Nat → Prop} {W w : World} {b : Nat} {xs : List Int} (n : Int) (h : Pen 118 K W w b xs) (hn : xs.length ≤ 1099511627776) :
    Calls Tryz.prog 69 #[.pointer (some ⟨b, 0, none⟩), .int .i64 n] w fun e w' => e = .returned (.tuple #[]) ∧ Pen 118 K W w' b (xs ++ [n % 256]) := by
  obtain ⟨h1, v, h⟩ := h
  exact (wU8 w b v xs n h.wr hn).mono fun e w' ⟨he, hl⟩ => ⟨he, Pen.laid h1 h hl⟩
theorem pLay {K : Nat → Prop} {W w : World} {b : Nat} {xs : List Int} (i : InsM) (h : Pen 118 K W w b xs) (hn : xs.length ≤ 1099511620000) (hr : insB i = true) :
    Calls Tryz.prog 92 #[.pointer (some ⟨b, 0, none⟩), ins i.op i.a i.b] w fun e w' => e = .returned (.int .i64 0) ∧ Pen 118 K W w' b (xs ++ layB i.op i.a i.b) := by
  obtain ⟨h1, v, h⟩ := h
  exact (cLay i.op i.a i.b w b v xs h.wr hn hr).mono fun e w' ⟨he, hl⟩ => ⟨he, Pen.laid h1 h hl⟩
theorem pShort {K : Nat → Prop} {W w : World} {b : Nat} {xs ys : List Int} {x : Value} (h : Pen 118 K W w b xs) (hy : Vw w x ys) (hx : ∀ v, Wr 118 w b v xs → ∀ k, x.ownBlock = some k → ¬ fp b v k) (hn : ys.length ≤ 255) (hl : xs.length ≤ 1099511627776) :
    Calls Tryz.prog 67 #[.pointer (some ⟨b, 0, none⟩), x] w fun e w' => e = .returned (.bool true) ∧ Pen 118 K W w' b (xs ++ ((ys.length : Int) :: ys)) := by
  obtain ⟨h1, v, h⟩ := h
  exact (short w b v x xs ys h.wr hy (fun w' hu => hy.upd hu (hx v h.wr)) hn hl).mono fun e w' ⟨he, hl⟩ => ⟨he, Pen.laid h1 h hl⟩
theorem pRaw {K : Nat → Prop} {W w : World} {b : Nat} {xs ys : List Int} {x : Value} (h : Pen 118 K W w b xs) (hy : Vw w x ys) (hn : xs.length + ys.length ≤ 140737488355328) :
    Calls Tryz.prog 66 #[.pointer (some ⟨b, 0, none⟩), x] w fun e w' => e = .returned (.tuple #[]) ∧ Pen 118 K W w' b (xs ++ ys) := by
  obtain ⟨h1, v, h⟩ := h
  exact (raw w b v x xs ys h.wr hy hn).mono fun e w' ⟨he, hl⟩ => ⟨he, Pen.laid h1 h hl⟩

/-- what numbers, names, imports, methods, an image are laid as -/
def numsL (L : List Int) : List Int := ((L.length : Int) % 256) :: L.map (· % 256)
def nameL (s : ByteArray) : List Int := (s.size : Int) :: nums s
def impL (m : ImpM) : List Int := nameL m.name ++ ([m.exp % 256] ++ (numsL m.params ++ [m.res % 256]))
def codeL (L : List InsM) : List Int := L.flatMap fun i => layB i.op i.a i.b
def metL (m : MetM) : List Int := numsL m.params ++ ([m.res % 256] ++ (numsL m.locals ++ ([(m.code.length : Int) % 256] ++ codeL m.code)))
def markL : List Int := [84, 65, 67, 73, 1]
def impsL (L : List ImpM) : List Int := L.flatMap impL
def metsL (L : List MetM) : List Int := L.flatMap metL
def imgL (I : ImgM) : List Int := markL ++ (nameL I.name ++ (numsL I.fields ++ ([(I.imports.length : Int) % 256] ++ (impsL I.imports ++ ([(I.methods.length : Int) % 256] ++ (metsL I.methods ++ numsL I.exports))))))

theorem map_take {L : List Int} {k : Nat} (hk : k < L.length) : (L.take (k + 1)).map (· % 256) = (L.take k).map (· % 256) ++ [L.getD k 0 % 256] := by
  have e : L.getD k 0 = L[k] := by simp [List.getD, hk]
  rw [List.take_succ_eq_append_getElem hk, e, List.map_append]
  rfl
theorem flat_take {α : Type} [Inhabited α] {L : List α} {k : Nat} (f : α → List Int) (hk : k < L.length) : (L.take (k + 1)).flatMap f = (L.take k).flatMap f ++ f (L.getD k default) := by
  have e : L.getD k default = L[k] := by simp [List.getD, hk]
  rw [List.take_succ_eq_append_getElem hk, e, List.flatMap_append]
  simp
theorem flat_len {α : Type} (L : List α) (f : α → List Int) (m : Nat) (h : ∀ x ∈ L, (f x).length ≤ m) : (L.flatMap f).length ≤ L.length * m := by
  induction L with
  | nil => simp
  | cons x r ih =>
    rw [List.flatMap_cons, List.length_append, List.length_cons, Nat.add_mul, Nat.one_mul]
    have := h x (by simp)
    have := ih (fun y hy => h y (by simp [hy]))
    omega
theorem flat_take_len {α : Type} (L : List α) (f : α → List Int) (m k : Nat) (h : ∀ x ∈ L, (f x).length ≤ m) : ((L.take k).flatMap f).length ≤ L.length * m :=
  Nat.le_trans (flat_len (L.take k) f m (fun x hx => h x (List.mem_of_mem_take hx))) (Nat.mul_le_mul_right _ (by simp; omega))

/-- what lies in G is kept from W on -/
structure Gr (G : World) (K : Nat → Prop) (W : World) : Prop where
  below : Below G.heap.size G W
  keeps : ∀ k, k < G.heap.size → K k
theorem Gr.at {G W w : World} {K : Nat → Prop} {t : TypeId} {b : Nat} {xs : List Int} (g : Gr G K W) (h : Pen t K W w b xs) : Below G.heap.size G w := g.below.trans (h.below g.below.size g.keeps)
theorem Gr.start {G W w : World} {K J : Nat → Prop} {t : TypeId} {b : Nat} {xs : List Int} (g : Gr G K W) (h : Pen t K W w b xs) : Gr G (fun k => K k ∨ J k) w := ⟨g.at h, fun k hk => .inl (g.keeps k hk)⟩

set_option maxRecDepth 100000 in
set_option maxHeartbeats 1000000 in
theorem cLayNumbers (K : Nat → Prop) (G W w : World) (b : Nat) (xs : List Int) (v : Value) (L : List Int) (h : Pen 118 K W w b xs) (g : Gr G K W) (hL : Ints G v L) (hn : xs.length ≤ 1099511600000) (hl : L.length ≤ 20000) :
    Calls Tryz.prog 68 #[.pointer (some ⟨b, 0, none⟩), v] w fun e w' => e = .returned (.tuple #[]) ∧ Pen 118 K W w' b (xs ++ numsL L) := by
  have HL := Lib.hid hL
  have HG := Lib.hid g
  have HP := Lib.hid h
  have HN := Lib.hid hn
  obtain ⟨a, c, rfl, h1, h2⟩ := hL.slice
  unfold maxLen at h2
  clear hL g h hn
  go_enter Tryz.func68, Tryz.ntmps68
  go_wp2_with fail
  refine (pU8 _ HP.out (by have := HN.out; omega)).mono ?_
  rintro e w1 ⟨rfl, hp⟩
  have HP1 : Hid (Pen 118 K W w1 b (xs ++ (((L.length : Int) % 256) :: (L.take 0).map (· % 256)))) := Lib.hid hp
  clear hp
  go_wp2_with fail
  go_loopw [12, 5] (fun i _ wr => ∃ k : Nat, k ≤ L.length ∧ i = .int .i64 k ∧ Hid (Pen 118 K W wr b (xs ++ (((L.length : Int) % 256) :: (L.take k).map (· % 256))))) (fun i _ _ => L.length - (intOf i).toNat)
  case atStart => exact ⟨0, Nat.zero_le _, rfl, HP1⟩
  case round =>
    obtain ⟨k, hk, rfl, HQ⟩ := hrel
    by_cases hlt : k < L.length
    · obtain ⟨gb, off, rfl, hc, -⟩ := (HL.out.later (HG.out.at HQ.out)).at hlt
      obtain ⟨n, hn⟩ : ∃ n, n = L.getD k 0 := ⟨_, rfl⟩
      rw [← hn] at hc
      have HT := Lib.hid (map_take hlt)
      rw [← hn] at HT
      clear hn
      go_wp2_with fail
      refine (pU8 _ HQ.out (by have := HN.out; simp; omega)).mono ?_
      rintro e w2 ⟨rfl, hp⟩
      have HP2 : Hid (Pen 118 K W w2 b (xs ++ (((L.length : Int) % 256) :: (L.take (k + 1)).map (· % 256)))) := Lib.hid (by rw [HT.out]; simpa using hp)
      clear hp hc
      go_wp2_with fail
      go_roundw
      case rel => exact ⟨k + 1, by omega, by go_num, HP2⟩
      case measure => simp [intOf]; omega
    · have HE := Lib.hid (show L.take k = L from List.take_of_length_le (by omega))
      go_wp2_with fail
      go_end0
      exact ⟨rfl, by have := HQ.out; rw [HE.out] at this; exact this⟩

/-- Short(w, []byte(s)): the bytes lie in new memory -/
theorem pName {K : Nat → Prop} {W w w1 : World} {b c n : Nat} {xs : List Int} (s : ByteArray) (h : Pen 118 K W w b xs) (hn : w.heap.size = n) (hv : Vw w1 (.slice (some ⟨n, 0, none⟩) s.size c) (nums s)) (hu : Upd (fun _ => False) w w1) (hs : s.size ≤ 255) (hl : xs.length ≤ 1099511627776) :
    Calls Tryz.prog 67 #[.pointer (some ⟨b, 0, none⟩), .slice (some ⟨n, 0, none⟩) s.size c] w1 fun e w' => e = .returned (.bool true) ∧ Pen 118 K W w' b (xs ++ nameL s) := by
  subst hn
  have h1 := h.mono hu
  obtain ⟨hK, v, h0⟩ := h
  have := pShort h1 hv (fun v1 hw k hk hf => ?_) (by rw [nums_len]; exact hs) hl
  · rw [nums_len] at this
    exact this
  · simp [Value.ownBlock] at hk
    subst hk
    obtain ⟨_, v2, h2⟩ := h1
    have e0 : v = v1 := by
      have e1 := (hu.block b h0.wr.lt (fun h => h)).trans h0.wr.blk
      rw [hw.blk] at e1
      simpa using e1.symm
    subst e0
    have := wr_inn h0.wr _ hf
    omega

theorem box4 {t : TypeId} {K : Nat → Prop} {W w : World} {b : Nat} {xs : List Int} (h : Pen t K W w b xs) (o : Obj) : Pen t (fun k => K k ∨ k = w.heap.size) (w.alloc o) (w.alloc o) b xs ∧ Pen t K W (w.alloc o) b xs := by
  have h1 := h.mono (Upd.alloc _ w o)
  refine ⟨h1.start (J := fun k => k = w.heap.size) (fun k hk => by subst hk; simp) (fun v hv k hf hk => ?_), h1⟩
  subst hk
  obtain ⟨_, v0, h0⟩ := h
  have e0 : v0 = v := by
    have e1 := ((Upd.alloc (fun _ => False) w o).block b h0.wr.lt (fun h => h)).trans h0.wr.blk
    rw [hv.blk] at e1
    simpa using e1.symm
  subst e0
  have := wr_inn h0.wr _ hf
  omega
theorem Pen.box4 {t : TypeId} {K : Nat → Prop} {W w' : World} {b : Nat} {xs : List Int} {T : TypeId} {x y z u : Value} (h : Pen t (fun k => K k ∨ k = W.heap.size) (W.alloc (.cells #[x, y, z, u] T)) w' b xs) :
    w'.cell? ⟨W.heap.size, 0, none⟩ = some x ∧ w'.cell? ⟨W.heap.size, 1, none⟩ = some y ∧ w'.cell? ⟨W.heap.size, 2, none⟩ = some z ∧ w'.cell? ⟨W.heap.size, 3, none⟩ = some u := by
  obtain ⟨_, v, h⟩ := h
  exact cell4 h.kept (fun h => h (.inr rfl))

set_option maxRecDepth 100000 in
set_option maxHeartbeats 2000000 in
theorem cLayImport (K : Nat → Prop) (G W w : World) (b : Nat) (xs : List Int) (v : Value) (m : ImpM) (h : Pen 118 K W w b xs) (g : Gr G K W) (hm : Imp G v m) (hs : m.name.size ≤ 255) (hn : xs.length ≤ 1099511500000) (hl : m.params.length ≤ 20000) :
    Calls Tryz.prog 70 #[.pointer (some ⟨b, 0, none⟩), v] w fun e w' => e = .returned (.tuple #[]) ∧ Pen 118 K W w' b (xs ++ impL m) := by
  obtain ⟨pv, rfl, hp, -, -, hsz⟩ := hm
  have HPV := Lib.hid hp
  obtain ⟨a, c, rfl, -, -⟩ := hp.slice
  obtain ⟨k1, k2⟩ := box4 h (.cells #[.string m.name, .int .i64 m.exp, .slice a m.params.length c, .int .i64 m.res] 49)
  have HK := Lib.hid k1
  have HB := Lib.hid k2
  have HG : Hid (Gr G (fun k => K k ∨ k = w.heap.size) (w.alloc (.cells #[.string m.name, .int .i64 m.exp, .slice a m.params.length c, .int .i64 m.res] 49))) := Lib.hid ⟨g.at k2, fun k hk => .inl (g.keeps k hk)⟩
  obtain ⟨sc, w1, hcv, hv, hu, -⟩ := conv_at (w.alloc (.cells #[.string m.name, .int .i64 m.exp, .slice a m.params.length c, .int .i64 m.res] 49)) m.name hsz (w.heap.size + 1) (by simp)
  have HV := Lib.hid hv
  have HU := Lib.hid hu
  have HN := Lib.hid hn
  have HS := Lib.hid hs
  have HH := Lib.hid h
  obtain ⟨c0, c1, c2, c3⟩ := (k1.mono hu).box4
  have HPL := Lib.hid hl
  clear k1 k2 hv hu g hp hsz hn hs h hl
  go_enter Tryz.func70, Tryz.ntmps70
  go_wp2_with fail
  refine (pName m.name HK.out (by simp) HV.out HU.out HS.out (by have := HN.out; omega)).mono ?_
  rintro e w2 ⟨rfl, hp2⟩
  have HP2 := Lib.hid hp2
  have hc2 := hp2.box4
  clear hp2 hcv c0 c1 c2 c3
  obtain ⟨c0, c1, c2, c3⟩ := hc2
  go_wp2_with fail
  refine (pU8 _ HP2.out (by have := HN.out; have := HS.out; simp [nameL, nums_len]; omega)).mono ?_
  rintro e w3 ⟨rfl, hp3⟩
  have HP3 := Lib.hid hp3
  have hc3 := hp3.box4
  clear hp3 c0 c1 c2 c3
  obtain ⟨c0, c1, c2, c3⟩ := hc3
  go_wp2_with fail
  refine (cLayNumbers _ G _ _ _ _ _ m.params HP3.out HG.out HPV.out (by have := HN.out; have := HS.out; simp [nameL, nums_len]; omega) HPL.out).mono ?_
  rintro e w4 ⟨rfl, hp4⟩
  have HP4 := Lib.hid hp4
  have hc4 := hp4.box4
  clear hp4 c0 c1 c2 c3
  obtain ⟨c0, c1, c2, c3⟩ := hc4
  go_wp2_with fail
  refine (pU8 _ HP4.out (by have := HN.out; have := HS.out; have := HPL.out; simp [nameL, numsL, nums_len]; omega)).mono ?_
  rintro e w5 ⟨rfl, hp5⟩
  have HP5 := Lib.hid hp5
  clear hp5 c0 c1 c2 c3
  go_wp2_with fail
  go_end0
  refine ⟨rfl, ?_⟩
  have := HB.out.back HP5.out
  simpa [impL] using this

theorem code_len (L : List InsM) (k : Nat) : (codeL (L.take k)).length ≤ L.length * 5 := flat_take_len L _ 5 k (fun x _ => lay_len _ _ _)

set_option maxRecDepth 100000 in
set_option maxHeartbeats 2000000 in
theorem cLayMethod (K : Nat → Prop) (G W w : World) (b : Nat) (xs : List Int) (v : Value) (m : MetM) (h : Pen 118 K W w b xs) (g : Gr G K W) (hm : Met G v m) (hn : xs.length ≤ 1099511400000) (hl : m.params.length ≤ 20000) (hl2 : m.locals.length ≤ 20000) (hl3 : m.code.length ≤ 1000) (hr : m.code.all insB = true) :
    Calls Tryz.prog 71 #[.pointer (some ⟨b, 0, none⟩), v] w fun e w' => e = .returned (.tuple #[]) ∧ Pen 118 K W w' b (xs ++ metL m) := by
  obtain ⟨pv, qv, rv, rfl, hp, hq, hc, -⟩ := hm
  have HPV := Lib.hid hp
  have HQV := Lib.hid hq
  have HCV := Lib.hid hc
  obtain ⟨a, c, rfl, -, -⟩ := hp.slice
  obtain ⟨qa, qc, rfl, -, -⟩ := hq.slice
  obtain ⟨ra, rc, rfl, hr1, hr2⟩ := hc.slice
  unfold maxLen at hr2
  obtain ⟨k1, k2⟩ := box4 h (.cells #[.slice a m.params.length c, .int .i64 m.res, .slice qa m.locals.length qc, .slice ra m.code.length rc] 52)
  have HK := Lib.hid k1
  have HB := Lib.hid k2
  have HG : Hid (Gr G (fun k => K k ∨ k = w.heap.size) (w.alloc (.cells #[.slice a m.params.length c, .int .i64 m.res, .slice qa m.locals.length qc, .slice ra m.code.length rc] 52))) := Lib.hid ⟨g.at k2, fun k hk => .inl (g.keeps k hk)⟩
  have HN := Lib.hid hn
  have HH := Lib.hid h
  have HRR := Lib.hid (List.all_eq_true.1 hr)
  obtain ⟨c0, c1, c2, c3⟩ := k1.box4
  have HP1 := Lib.hid hl
  have HP2 := Lib.hid hl2
  have HP3 := Lib.hid hl3
  clear k1 k2 g hp hq hc hn h hl hl2 hl3 hr
  go_enter Tryz.func71, Tryz.ntmps71
  go_wp2_with fail
  refine (cLayNumbers _ G _ _ _ _ _ m.params HK.out HG.out HPV.out (by have := HN.out; omega) HP1.out).mono ?_
  rintro e w2 ⟨rfl, hp2⟩
  have HQ2 := Lib.hid hp2
  have hc2 := hp2.box4
  clear hp2 c0 c1 c2 c3
  obtain ⟨c0, c1, c2, c3⟩ := hc2
  go_wp2_with fail
  refine (pU8 _ HQ2.out (by have := HN.out; have := HP1.out; simp [numsL]; omega)).mono ?_
  rintro e w3 ⟨rfl, hp3⟩
  have HQ3 := Lib.hid hp3
  have hc3 := hp3.box4
  clear hp3 c0 c1 c2 c3
  obtain ⟨c0, c1, c2, c3⟩ := hc3
  go_wp2_with fail
  refine (cLayNumbers _ G _ _ _ _ _ m.locals HQ3.out HG.out HQV.out (by have := HN.out; have := HP1.out; simp [numsL]; omega) HP2.out).mono ?_
  rintro e w4 ⟨rfl, hp4⟩
  have HQ4 := Lib.hid hp4
  have hc4 := hp4.box4
  clear hp4 c0 c1 c2 c3
  obtain ⟨c0, c1, c2, c3⟩ := hc4
  go_wp2_with fail
  refine (pU8 _ HQ4.out (by have := HN.out; have := HP1.out; have := HP2.out; simp [numsL]; omega)).mono ?_
  rintro e w5 ⟨rfl, hp5⟩
  obtain ⟨ys, hys⟩ : ∃ ys, ys = xs ++ (numsL m.params ++ ([m.res % 256] ++ (numsL m.locals ++ [(m.code.length : Int) % 256]))) := ⟨_, rfl⟩
  have HYL := Lib.hid (show ys.length ≤ 1099511500000 by have := HN.out; have := HP1.out; have := HP2.out; rw [hys]; simp [numsL]; omega)
  have HY := Lib.hid hys
  have HQ5 : Hid (Pen 118 (fun k => K k ∨ k = w.heap.size) (w.alloc (.cells #[.slice a m.params.length c, .int .i64 m.res, .slice qa m.locals.length qc, .slice ra m.code.length rc] 52)) w5 b (ys ++ codeL (m.code.take 0))) := Lib.hid (by rw [hys]; simpa [codeL] using hp5)
  have hc5 := hp5.box4
  clear hp5 c0 c1 c2 c3 hys
  obtain ⟨c0, c1, c2, c3⟩ := hc5
  go_wp2_with fail
  clear c0 c1 c2 c3
  go_loopw [26, 5] (fun i _ wr => ∃ k : Nat, k ≤ m.code.length ∧ i = .int .i64 k ∧ Hid (Pen 118 (fun k => K k ∨ k = w.heap.size) (w.alloc (.cells #[.slice a m.params.length c, .int .i64 m.res, .slice qa m.locals.length qc, .slice ra m.code.length rc] 52)) wr b (ys ++ codeL (m.code.take k)))) (fun i _ _ => m.code.length - (intOf i).toNat)
  case atStart => exact ⟨0, Nat.zero_le _, rfl, HQ5⟩
  case round =>
    obtain ⟨k, hk, rfl, HQ⟩ := hrel
    by_cases hlt : k < m.code.length
    · obtain ⟨gb, off, rfl, hc0, hc1, hc2, -⟩ := (HCV.out.later (HG.out.at HQ.out)).at hlt
      obtain ⟨n, hn⟩ : ∃ n, n = m.code.getD k default := ⟨_, rfl⟩
      rw [← hn] at hc0 hc1 hc2
      have HT := Lib.hid (flat_take (fun i : InsM => layB i.op i.a i.b) hlt)
      have HR := Lib.hid (HRR.out _ (mem_getD hlt))
      rw [← hn] at HT HR
      have HQA := Lib.hid (HQ.out.mono (Upd.alloc _ wr (.cells #[.int .i64 n.op, .int .i64 n.a, .int .i64 n.b] 55)))
      clear hn
      go_wp2_with fail
      refine (pLay n HQA.out (by have := HYL.out; have := code_len m.code k; have := HP3.out; simp; omega) HR.out).mono ?_
      rintro e w6 ⟨rfl, hp⟩
      have HP2 : Hid (Pen 118 (fun k => K k ∨ k = w.heap.size) (w.alloc (.cells #[.slice a m.params.length c, .int .i64 m.res, .slice qa m.locals.length qc, .slice (some ⟨gb, off, none⟩) m.code.length rc] 52)) w6 b (ys ++ codeL (m.code.take (k + 1)))) := Lib.hid (by unfold codeL; rw [HT.out]; simpa [codeL] using hp)
      clear hp hc0 hc1 hc2
      go_wp2_with fail
      go_roundw
      case rel => exact ⟨k + 1, by omega, by go_num, HP2⟩
      case measure => simp [intOf]; omega
    · have HE := Lib.hid (show m.code.take k = m.code from List.take_of_length_le (by omega))
      go_wp2_with fail
      go_end0
      refine ⟨rfl, ?_⟩
      have := HB.out.back HQ.out
      rw [HE.out, HY.out] at this
      simpa [metL] using this
end Go.Proofs.YtmbdfmgidnjgeaaGreatDoor

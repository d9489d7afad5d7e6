/- Package room: what a room is, plainly, and how one lies in memory; whose block is whose. -/
import Derived.Test.YtdmadfahgkikkaaGreatGak
import Derived.Test.YtdmadfahgkikkaaGreatKKa
namespace Go.Proofs.YtdmadfahgkikkaaGreat
open Go.RowKit Go.Lib Go.ChangeShapes Go.WideShapes Go.Deep
set_option linter.unusedVariables false
set_option linter.unusedSimpArgs false

/-- each block has a colour: whose it is (0: the argument's) -/
def Col (c : Nat → Nat) (w : World) (i : Nat) (k : Nat) : Prop := c k = i ∧ k < w.heap.size
/-- later: older blocks keep their colours; those of the colours T alone may have turned -/
structure Ext (T : Nat → Prop) (c : Nat → Nat) (w : World) (c' : Nat → Nat) (w' : World) : Prop where
  same : ∀ k, k < w.heap.size → c' k = c k
  upd : Upd (fun k => T (c k)) w w'
/-- new blocks are of colour i -/
def paint (c : Nat → Nat) (w : World) (i : Nat) (k : Nat) : Nat := if k < w.heap.size then c k else i
def None0 (_ : Nat) : Prop := False
section
variable {T T' : Nat → Prop} {c c' c'' : Nat → Nat} {w w' w'' : World} {i : Nat}
theorem paint_old (c : Nat → Nat) (w : World) (i : Nat) {k : Nat} (h : k < w.heap.size) : paint c w i k = c k := by simp [paint, h]
theorem paint_new (c : Nat → Nat) (w : World) (i : Nat) {k : Nat} (h : w.heap.size ≤ k) : paint c w i k = i := by simp [paint]; intro h2; omega
theorem Ext.refl (T : Nat → Prop) (c : Nat → Nat) (w : World) : Ext T c w c w := ⟨fun _ _ => rfl, Upd.refl _ _⟩
theorem Ext.trans (h : Ext T c w c' w') (h' : Ext T' c' w' c'' w'') (hT : ∀ i, T' i → T i) : Ext T c w c'' w'' :=
  ⟨fun k hk => (h'.same k (Nat.lt_of_lt_of_le hk h.upd.size)).trans (h.same k hk), h.upd.trans h'.upd (fun k hk hl => by rw [h.same k hl] at hk; exact hT _ hk)⟩
theorem Ext.mono (h : Ext T c w c' w') (hT : ∀ i, T i → T' i) : Ext T' c w c' w' := ⟨h.same, h.upd.mono (fun k hk _ => hT _ hk)⟩
theorem Ext.quiet (c : Nat → Nat) (h : Upd (fun _ => False) w w') : Ext None0 c w c w' := ⟨fun _ _ => rfl, h.mono (fun _ h _ => h.elim)⟩
theorem Ext.quietT (T : Nat → Prop) (c : Nat → Nat) (h : Upd (fun _ => False) w w') : Ext T c w c w' := ⟨fun _ _ => rfl, h.mono (fun _ h _ => h.elim)⟩
theorem Ext.of (i : Nat) (hT : T i) (h : Upd (Col c w i) w w') : Ext T c w (paint c w i) w' := ⟨fun k hk => paint_old c w i hk, h.mono (fun k hk _ => by rw [hk.1]; exact hT)⟩
theorem Ext.made (T : Nat → Prop) (i : Nat) (h : Upd (fun _ => False) w w') : Ext T c w (paint c w i) w' := ⟨fun k hk => paint_old c w i hk, h.mono (fun _ h _ => h.elim)⟩
theorem Ext.size (h : Ext T c w c' w') : w.heap.size ≤ w'.heap.size := h.upd.size
/-- blocks of a colour that may not turn are as they were -/
theorem Ext.blk (h : Ext T c w c' w') {k : Nat} {o : Obj} (hk : w.heap[k]? = some o) (hc : ¬ T (c k)) : w'.heap[k]? = some o := hpBlk h.upd hk hc
theorem Ext.col (h : Ext T c w c' w') {k : Nat} (hk : k < w.heap.size) (hc : c k = i) : c' k = i := (h.same k hk).trans hc
theorem Ext.row (h : Ext T c w c' w') {base : Nat} {e : TypeId} {size n : Nat} {v : Value} {xs : List Value} (hr : w.ownsRow base e size v n xs) (hc : ∀ k, v.ownBlock = some k → ¬ T (c k)) : w'.ownsRow base e size v n xs := ownsRow_upd hr h.upd hc
theorem Ext.vw (h : Ext T c w c' w') {v : Value} {ys : List Int} (hr : Vw w v ys) (hc : ∀ k, v.ownBlock = some k → ¬ T (c k)) : Vw w' v ys := hr.upd h.upd hc
theorem Ext.hep {t : TypeId} {b : Nat} {m : HpM} (h : Ext T c w c' w') (hh : Hep t (Col c w i) w b m) (hT : ¬ T i) : Hep t (Col c' w' i) w' b m := by
  obtain ⟨av, R, h1, hR⟩ := hh.upd h.upd (fun k hk hk' => hT (by rw [hk.1] at hk'; exact hk'))
  exact ⟨av, R, h1.wide (fun k hk => ⟨h.col hk.2 hk.1, Nat.lt_of_lt_of_le hk.2 h.size⟩) (fun k hk => hk.2), hR⟩
theorem Ext.trc {b : Nat} {L : List EvM} (h : Ext T c w c' w') (hh : Trc (Col c w i) w b L) (hT : ¬ T i) : Trc (Col c' w' i) w' b L := by
  have h1 := hh.upd h.upd (fun k hk hk' => hT (by rw [hk.1] at hk'; exact hk'))
  obtain ⟨ev, h1⟩ := h1
  exact ⟨ev, h1.box, h1.row, ⟨h.col h1.fb.2 h1.fb.1, Nat.lt_of_lt_of_le h1.fb.2 h.size⟩, fun k hk => ⟨h.col (h1.fr k hk).2 (h1.fr k hk).1, Nat.lt_of_lt_of_le (h1.fr k hk).2 h.size⟩, fun k hk => hk.2⟩
/-- the colour's own step: its new blocks are of that colour -/
theorem col_more {k : Nat} (h : More (Col c w i) w w' k) (hs : w.heap.size ≤ w'.heap.size) : Col (paint c w i) w' i k := by
  rcases h with h | h
  · exact ⟨by rw [paint_old c w i h.2]; exact h.1, Nat.lt_of_lt_of_le h.2 hs⟩
  · exact ⟨paint_new c w i h.1, h.2⟩
theorem hep_more {t : TypeId} {b : Nat} {m : HpM} (h : Hep t (More (Col c w i) w w') w' b m) (hs : w.heap.size ≤ w'.heap.size) : Hep t (Col (paint c w i) w' i) w' b m := by
  obtain ⟨av, R, h1, hR⟩ := h
  exact ⟨av, R, h1.wide (fun k hk => col_more hk hs) (fun k hk => hk.2), hR⟩
theorem hep_same {t : TypeId} {b : Nat} {m : HpM} (h : Hep t (Col c w i) w' b m) (hs : w.heap.size ≤ w'.heap.size) : Hep t (Col (paint c w i) w' i) w' b m := by
  obtain ⟨av, R, h1, hR⟩ := h
  exact ⟨av, R, h1.wide (fun k hk => ⟨by rw [paint_old c w i hk.2]; exact hk.1, Nat.lt_of_lt_of_le hk.2 hs⟩) (fun k hk => hk.2), hR⟩
theorem hep_since {t : TypeId} {b : Nat} {m : HpM} (c : Nat → Nat) (h : Hep t (Since w w') w' b m) : Hep t (Col (paint c w i) w' i) w' b m := by
  obtain ⟨av, R, h1, hR⟩ := h
  exact ⟨av, R, h1.wide (fun k hk => ⟨paint_new c w i hk.1, hk.2⟩) (fun k hk => hk.2), hR⟩
theorem trc_of {F : Nat → Prop} {b : Nat} {L : List EvM} (h : Trc F w' b L) (hF : ∀ k, F k → Col c w' i k) : Trc (Col c w' i) w' b L := by
  obtain ⟨ev, h1⟩ := h
  exact ⟨ev, h1.box, h1.row, hF _ h1.fb, fun k hk => hF _ (h1.fr k hk), fun k hk => hk.2⟩
end

structure RmM where
  hp : HpM
  fields : List (List Int)
  pub : List Int
  sec : List Int
  /-- the images' cells -/
  im : List Value
def RmM.withHp (M : RmM) (h : HpM) : RmM := ⟨h, M.fields, M.pub, M.sec, M.im⟩
def RmM.withPub (M : RmM) (x : List Int) : RmM := ⟨M.hp, M.fields, x, M.sec, M.im⟩
def RmM.withSec (M : RmM) (x : List Int) : RmM := ⟨M.hp, M.fields, M.pub, x, M.im⟩
def RmM.withF (M : RmM) (f : List (List Int)) : RmM := ⟨M.hp, f, M.pub, M.sec, M.im⟩
def empty (s : Int) : RmM := ⟨two s, [], [], [], []⟩
/-- a heap's size bounds how many arrays there are -/
def HpOk (m : HpM) : Prop := 64 ≤ m.size ∧ m.size ≤ 4096 ∧ 2 ≤ m.arrs.length ∧ (usedP m.arrs : Int) ≤ m.size
theorem used_low (L : List ArrM) : 8 * L.length ≤ usedL L := by
  induction L with
  | nil => simp [usedL]
  | cons a L ih => simp [usedL] at ih ⊢; omega
theorem HpOk.few {m : HpM} (h : HpOk m) : m.arrs.length ≤ 600 := by
  obtain ⟨h1, h2, h3, h4⟩ := h
  have := used_low (m.arrs.drop 2)
  simp only [List.length_drop] at this
  unfold usedP at h4
  omega
theorem HpOk.two {s : Int} (h1 : 64 ≤ s) (h2 : s ≤ 4096) : HpOk (two s) := ⟨h1, h2, (by show 2 ≤ 2; omega), (by show (0 : Int) ≤ s; omega)⟩
def i32v (xs : List Int) : List Value := xs.map (Value.int .i32)

/-- a room in memory: its box (colour 2), the heap's blocks (1), the images' row (3), the fields' row (4), what was told (5, 6), the fields of applet i (100 + i) -/
structure RmAt (c : Nat → Nat) (w : World) (rb hb : Nat) (iv fv pv sv : Value) (ivs fvs : List Value) (M : RmM) : Prop where
  box : w.heap[rb]? = some (.cells #[iv, fv, .pointer (some ⟨hb, 0, none⟩), pv, sv] 83 (0, 0))
  hp : Hep HT (Col c w 1) w hb M.hp
  ok : HpOk M.hp
  imgs : w.ownsRow 0 59 5 iv M.fields.length ivs
  flds : w.ownsRow 0 32 1 fv M.fields.length fvs
  fld : ∀ i, i < M.fields.length → w.ownsRow 0 21 1 (fvs.getD i default) (M.fields.getD i []).length (i32v (M.fields.getD i []))
  pub : w.ownsRow 0 5 1 pv M.pub.length (bv M.pub)
  sec : w.ownsRow 0 5 1 sv M.sec.length (bv M.sec)
  pb : M.pub.length ≤ 128 ∧ ∀ y ∈ M.pub, 0 ≤ y ∧ y ≤ 255
  sb : M.sec.length ≤ 128 ∧ ∀ y ∈ M.sec, 0 ≤ y ∧ y ≤ 255
  i1 : ∀ u ∈ ivs, u.oneCell' = true
  f1 : ∀ u ∈ fvs, u.oneCell' = true
  cb : c rb = 2
  ci : ∀ k, iv.ownBlock = some k → c k = 3
  cf : ∀ k, fv.ownBlock = some k → c k = 4
  cp : ∀ k, pv.ownBlock = some k → c k = 5
  cs : ∀ k, sv.ownBlock = some k → c k = 6
  cx : ∀ i k, i < M.fields.length → (fvs.getD i default).ownBlock = some k → c k = 100 + i
  fl : M.fields.length ≤ 4
  es : ivs = M.im
def Rm (c : Nat → Nat) (w : World) (rb : Nat) (M : RmM) : Prop := ∃ hb iv fv pv sv ivs fvs, RmAt c w rb hb iv fv pv sv ivs fvs M
/-- the room's colours -/
def RmC (i : Nat) : Prop := (1 ≤ i ∧ i ≤ 6) ∨ 100 ≤ i
section
variable {T : Nat → Prop} {c c' : Nat → Nat} {w w' : World} {rb hb : Nat} {iv fv pv sv : Value} {ivs fvs : List Value} {M : RmM}
theorem RmAt.ext (h : RmAt c w rb hb iv fv pv sv ivs fvs M) (hx : Ext T c w c' w') (hT : ∀ i, RmC i → ¬ T i) : RmAt c' w' rb hb iv fv pv sv ivs fvs M := by
  have n1 := hT 1 (by simp [RmC]); have n2 := hT 2 (by simp [RmC]); have n3 := hT 3 (by simp [RmC]); have n4 := hT 4 (by simp [RmC]); have n5 := hT 5 (by simp [RmC]); have n6 := hT 6 (by simp [RmC])
  have nf := fun i => hT (100 + i) (by simp [RmC])
  exact ⟨hx.blk h.box (by rw [h.cb]; exact n2), hx.hep h.hp n1, h.ok, hx.row h.imgs (fun k hk => by rw [h.ci k hk]; exact n3), hx.row h.flds (fun k hk => by rw [h.cf k hk]; exact n4),
    fun i hi => hx.row (h.fld i hi) (fun k hk => by rw [h.cx i k hi hk]; exact nf i), hx.row h.pub (fun k hk => by rw [h.cp k hk]; exact n5), hx.row h.sec (fun k hk => by rw [h.cs k hk]; exact n6), h.pb, h.sb, h.i1, h.f1,
    hx.col (Array.getElem?_eq_some_iff.1 h.box).1 h.cb, fun k hk => hx.col (hpRowLt h.imgs k hk) (h.ci k hk), fun k hk => hx.col (hpRowLt h.flds k hk) (h.cf k hk), fun k hk => hx.col (hpRowLt h.pub k hk) (h.cp k hk), fun k hk => hx.col (hpRowLt h.sec k hk) (h.cs k hk),
    fun i k hi hk => hx.col (hpRowLt (h.fld i hi) k hk) (h.cx i k hi hk), h.fl, h.es⟩
theorem Rm.ext (h : Rm c w rb M) (hx : Ext T c w c' w') (hT : ∀ i, RmC i → ¬ T i) : Rm c' w' rb M := by
  obtain ⟨hb, iv, fv, pv, sv, ivs, fvs, h⟩ := h
  exact ⟨hb, iv, fv, pv, sv, ivs, fvs, h.ext hx hT⟩
theorem Rm.quiet (h : Rm c w rb M) (hu : Upd (fun _ => False) w w') : Rm c w' rb M := h.ext (Ext.quiet c hu) (fun _ _ h => h)
theorem RmAt.quiet (h : RmAt c w rb hb iv fv pv sv ivs fvs M) (hu : Upd (fun _ => False) w w') : RmAt c w' rb hb iv fv pv sv ivs fvs M := h.ext (Ext.quiet c hu) (fun _ _ h => h)
/-- the heap alone has turned -/
theorem RmAt.heap (h : RmAt c w rb hb iv fv pv sv ivs fvs M) {m : HpM} (hx : Ext (fun i => i = 1) c w c' w') (hh : Hep HT (Col c' w' 1) w' hb m) (hm : HpOk m) : RmAt c' w' rb hb iv fv pv sv ivs fvs (M.withHp m) :=
  ⟨hx.blk h.box (by rw [h.cb]; omega), hh, hm, hx.row h.imgs (fun k hk => by rw [h.ci k hk]; omega), hx.row h.flds (fun k hk => by rw [h.cf k hk]; omega),
    fun i hi => hx.row (h.fld i hi) (fun k hk => by rw [h.cx i k hi hk]; omega), hx.row h.pub (fun k hk => by rw [h.cp k hk]; omega), hx.row h.sec (fun k hk => by rw [h.cs k hk]; omega), h.pb, h.sb, h.i1, h.f1,
    hx.col (Array.getElem?_eq_some_iff.1 h.box).1 h.cb, fun k hk => hx.col (hpRowLt h.imgs k hk) (h.ci k hk), fun k hk => hx.col (hpRowLt h.flds k hk) (h.cf k hk), fun k hk => hx.col (hpRowLt h.pub k hk) (h.cp k hk), fun k hk => hx.col (hpRowLt h.sec k hk) (h.cs k hk),
    fun i k hi hk => hx.col (hpRowLt (h.fld i hi) k hk) (h.cx i k hi hk), h.fl, h.es⟩
theorem RmAt.bx (h : RmAt c w rb hb iv fv pv sv ivs fvs M) : w.cell? ⟨rb, 0, none⟩ = some iv ∧ w.cell? ⟨rb, 1, none⟩ = some fv ∧ w.cell? ⟨rb, 2, none⟩ = some (.pointer (some ⟨hb, 0, none⟩)) ∧ w.cell? ⟨rb, 3, none⟩ = some pv ∧ w.cell? ⟨rb, 4, none⟩ = some sv ∧ ∀ q, w.frozen? ⟨rb, q, none⟩ = false := five h.box
end
end Go.Proofs.YtdmadfahgkikkaaGreat

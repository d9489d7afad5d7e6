/- Package room: an applet is added: what lies where, then. -/
import Derived.Test.YtdmadfahgkikkaaGreatQwk
import Derived.Test.YtdmadfahgkikkaaGreatQzk
namespace Go.Proofs.YtdmadfahgkikkaaGreat
open Go.RowKit Go.Lib Go.ChangeShapes Go.WideShapes Go.Deep
set_option linter.unusedVariables false
set_option linter.unusedSimpArgs false

def TA (i : Nat) : Prop := i = 2 ∨ i = 3 ∨ i = 4
/-- a value reads as an image, and will, as long as no block of colour 8 turns -/
def ImgK (c : Nat → Nat) (w : World) (v : Value) (I : ImgM) : Prop := ImgAll (fun w' => ∃ (T : Nat → Prop) (c' : Nat → Nat), Ext T c w c' w' ∧ ¬ T 8) v I
theorem ImgK.now {c : Nat → Nat} {w : World} {v : Value} {I : ImgM} (h : ImgK c w v I) : Img w v I := h.img ⟨None0, c, Ext.quiet c (Upd.refl _ _), fun h => h⟩
theorem ImgK.ext {T : Nat → Prop} {c c' : Nat → Nat} {w w' : World} {v : Value} {I : ImgM} (h : ImgK c w v I) (hx : Ext T c w c' w') (hT : ¬ T 8) : ImgK c' w' v I :=
  ImgAll.mono h (fun w'' ⟨T', c'', hx', hT'⟩ => ⟨fun i => T i ∨ T' i, c'', (hx.mono (fun _ h => .inl h)).trans (T' := T') hx' (fun _ h => .inr h), fun h => h.elim hT hT'⟩)
theorem ImgK.made {c : Nat → Nat} {w w1 w' : World} {v : Value} {I : ImgM} (hu : Upd (fun _ => False) w w1) (h : ImgAll (fun wg => Upd (fun b => b < w1.heap.size) w' wg) v I) : ImgK (paint c w 8) w' v I :=
  ImgAll.mono h (fun w'' ⟨T, c', hx, hT⟩ => hx.upd.mono (fun k hk _ => by
    rcases Nat.lt_or_ge k w1.heap.size with h1 | h1
    · exact h1
    · exfalso
      rw [paint_new c w 8 (Nat.le_trans hu.size h1)] at hk
      exact hT hk))
/-- an image, and the values of its lists -/
abbrev PI := ImgM × Value × Value × Value × Value
def piV (p : PI) : Value := img5 p.1.name p.2.1 p.2.2.1 p.2.2.2.1 p.2.2.2.2
def piC (p : PI) : List Value := [.string p.1.name, p.2.1, p.2.2.1, p.2.2.2.1, p.2.2.2.2]
def pisC (L : List PI) : List Value := (L.map piC).flatten
theorem pisC_append (L : List PI) (p : PI) : pisC (L ++ [p]) = pisC L ++ piC p := by simp [pisC]
/-- a room, and its images, plainly -/
def RmI (c : Nat → Nat) (w : World) (rb : Nat) (M : RmM) (Ps : List PI) : Prop := Rm c w rb M ∧ M.im = pisC Ps ∧ Ps.length = M.fields.length ∧ ∀ p ∈ Ps, ImgK c w (piV p) p.1
theorem RmI.rm {c : Nat → Nat} {w : World} {rb : Nat} {M : RmM} {Ps : List PI} (h : RmI c w rb M Ps) : Rm c w rb M := h.1
theorem RmI.of0 {c : Nat → Nat} {w : World} {rb : Nat} {M : RmM} (h : Rm c w rb M) (h0 : M.fields.length = 0) : RmI c w rb M [] := by
  obtain ⟨hb, iv, fv, pv, sv, ivs, fvs, h1⟩ := h
  have h2 := h1.imgs.1
  rw [h0] at h2
  have h3 : ivs = [] := List.eq_nil_of_length_eq_zero (by simpa using h2)
  exact ⟨⟨hb, iv, fv, pv, sv, ivs, fvs, h1⟩, by rw [← h1.es, h3]; rfl, by rw [h0]; rfl, fun p hp => by simp at hp⟩
theorem RmI.turn {T : Nat → Prop} {c c' : Nat → Nat} {w w' : World} {rb : Nat} {M M' : RmM} {Ps : List PI} (h : RmI c w rb M Ps) (hr : Rm c' w' rb M') (hi : M'.im = M.im) (hl : M'.fields.length = M.fields.length) (hx : Ext T c w c' w') (hT : ¬ T 8) : RmI c' w' rb M' Ps :=
  ⟨hr, hi.trans h.2.1, h.2.2.1.trans hl.symm, fun p hp => (h.2.2.2 p hp).ext hx hT⟩
theorem RmI.ext {T : Nat → Prop} {c c' : Nat → Nat} {w w' : World} {rb : Nat} {M : RmM} {Ps : List PI} (h : RmI c w rb M Ps) (hx : Ext T c w c' w') (hT : ∀ i, RmC i → ¬ T i) (h8 : ¬ T 8) : RmI c' w' rb M Ps := h.turn (h.1.ext hx hT) rfl rfl hx h8
def RmM.addI (M : RmM) (xs : List Int) (cs : List Value) : RmM := ⟨M.hp, M.fields ++ [xs], M.pub, M.sec, cs⟩

/-- half way: one image more than there are fields' rows -/
structure RmX (m : Nat) (c : Nat → Nat) (w : World) (rb hb : Nat) (iv fv pv sv : Value) (ivs fvs : List Value) (M : RmM) : Prop where
  box : w.heap[rb]? = some (.cells #[iv, fv, .pointer (some ⟨hb, 0, none⟩), pv, sv] 83 (0, 0))
  hp : Hep HT (Col c w 1) w hb M.hp
  ok : HpOk M.hp
  imgs : w.ownsRow 0 59 5 iv m ivs
  flds : w.ownsRow 0 32 1 fv M.fields.length fvs
  fld : ∀ i, i < M.fields.length → w.ownsRow 0 21 1 (fvs.getD i default) (M.fields.getD i []).length (i32v (M.fields.getD i []))
  pub : w.ownsRow 0 5 1 pv M.pub.length (bv M.pub)
  sec : w.ownsRow 0 5 1 sv M.sec.length (bv M.sec)
  pb : M.pub.length ≤ 128 ∧ ∀ y ∈ M.pub, 0 ≤ y ∧ y ≤ 255
  sb : M.sec.length ≤ 128 ∧ ∀ y ∈ M.sec, 0 ≤ y ∧ y ≤ 255
  i1 : ∀ u ∈ ivs, u.oneCell' = true
  f1 : ∀ u ∈ fvs, u.oneCell' = true
  cb : c rb = 2
  ci : ∀ k, iv.ownBlock = some k → c k = 3
  cf : ∀ k, fv.ownBlock = some k → c k = 4
  cp : ∀ k, pv.ownBlock = some k → c k = 5
  cs : ∀ k, sv.ownBlock = some k → c k = 6
  cx : ∀ i k, i < M.fields.length → (fvs.getD i default).ownBlock = some k → c k = 100 + i
  fl : M.fields.length ≤ 4
section
variable {T : Nat → Prop} {c c' : Nat → Nat} {w w3 w4 w' : World} {rb hb m : Nat} {iv fv pv sv v' : Value} {ivs fvs news : List Value} {M : RmM}
theorem RmX.ext (h : RmX m c w rb hb iv fv pv sv ivs fvs M) (hx : Ext T c w c' w') (hT : ∀ i, RmC i → ¬ T i) : RmX m c' w' rb hb iv fv pv sv ivs fvs M := by
  have n1 := hT 1 (by simp [RmC]); have n2 := hT 2 (by simp [RmC]); have n3 := hT 3 (by simp [RmC]); have n4 := hT 4 (by simp [RmC]); have n5 := hT 5 (by simp [RmC]); have n6 := hT 6 (by simp [RmC])
  have nf := fun i => hT (100 + i) (by simp [RmC])
  exact ⟨hx.blk h.box (by rw [h.cb]; exact n2), hx.hep h.hp n1, h.ok, hx.row h.imgs (fun k hk => by rw [h.ci k hk]; exact n3), hx.row h.flds (fun k hk => by rw [h.cf k hk]; exact n4),
    fun i hi => hx.row (h.fld i hi) (fun k hk => by rw [h.cx i k hi hk]; exact nf i), hx.row h.pub (fun k hk => by rw [h.cp k hk]; exact n5), hx.row h.sec (fun k hk => by rw [h.cs k hk]; exact n6), h.pb, h.sb, h.i1, h.f1,
    hx.col (Array.getElem?_eq_some_iff.1 h.box).1 h.cb, fun k hk => hx.col (hpRowLt h.imgs k hk) (h.ci k hk), fun k hk => hx.col (hpRowLt h.flds k hk) (h.cf k hk), fun k hk => hx.col (hpRowLt h.pub k hk) (h.cp k hk), fun k hk => hx.col (hpRowLt h.sec k hk) (h.cs k hk),
    fun i k hi hk => hx.col (hpRowLt (h.fld i hi) k hk) (h.cx i k hi hk), h.fl⟩
theorem RmX.bx (h : RmX m c w rb hb iv fv pv sv ivs fvs M) : w.cell? ⟨rb, 0, none⟩ = some iv ∧ w.cell? ⟨rb, 1, none⟩ = some fv ∧ w.cell? ⟨rb, 2, none⟩ = some (.pointer (some ⟨hb, 0, none⟩)) ∧ w.cell? ⟨rb, 3, none⟩ = some pv ∧ w.cell? ⟨rb, 4, none⟩ = some sv ∧ ∀ q, w.frozen? ⟨rb, q, none⟩ = false := five h.box
theorem addA (h : RmAt c w rb hb iv fv pv sv ivs fvs M) (hu : Upd (fun _ => False) w w3) (ho : w4.ownsRow 0 59 5 v' (M.fields.length + 1) (ivs ++ news)) (hg : w3.grownBy w4 iv.ownBlock) (hf : Fresh w3 iv v') (hn : ∀ u ∈ news, u.oneCell' = true) :
    Ext TA c w (paint c w 3) (w4.setCell ⟨rb, 0, none⟩ v') ∧ RmX (M.fields.length + 1) (paint c w 3) (w4.setCell ⟨rb, 0, none⟩ v') rb hb v' fv pv sv (ivs ++ news) fvs M := by
  have hu1 : Upd (fun k => iv.ownBlock = some k) w w4 := (hu.mono (T := fun k => iv.ownBlock = some k) (fun _ h _ => h.elim)).trans (Upd.grown (S := fun k => iv.ownBlock = some k) hg (fun k hk => .inl hk)) (fun k hk _ => hk)
  have hrb : rb < w.heap.size := (Array.getElem?_eq_some_iff.1 h.box).1
  have hcol : ∀ k, v'.ownBlock = some k → paint c w 3 k = 3 := fun k hk => by
    rcases hf k hk with h1 | h1
    · rw [paint_old c w 3 (hpRowLt h.imgs k h1)]; exact h.ci k h1
    · exact paint_new c w 3 (Nat.le_trans hu.size h1)
  have hne : ∀ k, v'.ownBlock = some k → ¬ k = rb := fun k hk e => by
    have h1 := hcol k hk
    rw [e, paint_old c w 3 hrb, h.cb] at h1
    omega
  have hb1 : w4.heap[rb]? = some (.cells #[iv, fv, .pointer (some ⟨hb, 0, none⟩), pv, sv] 83 (0, 0)) := hpBlk hu1 h.box (fun e => by
    have h1 := h.ci rb e
    rw [h.cb] at h1
    omega)
  have hu2 : Upd (fun k => k = rb) w4 (w4.setCell ⟨rb, 0, none⟩ v') := Upd.setCell (S := fun k => k = rb) w4 (.inl rfl) _
  have E : Ext TA c w (paint c w 3) (w4.setCell ⟨rb, 0, none⟩ v') := ⟨fun k hk => paint_old c w 3 hk, (hu1.mono (T := fun k => TA (c k)) (fun k hk _ => by rw [h.ci k hk]; simp [TA])).trans (hu2.mono (T := fun k => TA (c k)) (fun k hk _ => by rw [hk, h.cb]; simp [TA])) (fun k hk _ => hk)⟩
  have E2 : Ext (fun i => i = 2 ∨ i = 3) c w (paint c w 3) (w4.setCell ⟨rb, 0, none⟩ v') := ⟨fun k hk => paint_old c w 3 hk, (hu1.mono (T := fun k => c k = 2 ∨ c k = 3) (fun k hk _ => by rw [h.ci k hk]; simp)).trans (hu2.mono (T := fun k => c k = 2 ∨ c k = 3) (fun k hk _ => by rw [hk, h.cb]; simp)) (fun k hk _ => hk)⟩
  refine ⟨E, ?_⟩
  exact ⟨by simp [World.setCell, Array.getElem?_modify, hb1], E.hep h.hp (by simp [TA]), h.ok, ownsRow_upd ho hu2 hne, E2.row h.flds (fun k hk => by rw [h.cf k hk]; omega),
    fun i hi => E.row (h.fld i hi) (fun k hk => by rw [h.cx i k hi hk]; simp [TA]; omega), E.row h.pub (fun k hk => by rw [h.cp k hk]; simp [TA]), E.row h.sec (fun k hk => by rw [h.cs k hk]; simp [TA]), h.pb, h.sb, fun u hu => (List.mem_append.1 hu).elim (h.i1 u) (hn u), h.f1,
    E.col hrb h.cb, hcol, fun k hk => E.col (hpRowLt h.flds k hk) (h.cf k hk), fun k hk => E.col (hpRowLt h.pub k hk) (h.cp k hk), fun k hk => E.col (hpRowLt h.sec k hk) (h.cs k hk),
    fun i k hi hk => E.col (hpRowLt (h.fld i hi) k hk) (h.cx i k hi hk), h.fl⟩
theorem addF {f : Value} {xs : List Int} (h : RmX (M.fields.length + 1) c w rb hb iv fv pv sv ivs fvs M) (hl : M.fields.length < 4) (hx : w.ownsRow 0 21 1 f xs.length (i32v xs)) (hc : ∀ k, f.ownBlock = some k → c k = 100 + M.fields.length) (h1 : f.oneCell' = true)
    (hu : Upd (fun _ => False) w w3) (ho : w4.ownsRow 0 32 1 v' (M.fields.length + 1) (fvs ++ [f])) (hg : w3.grownBy w4 fv.ownBlock) (hf : Fresh w3 fv v') :
    Ext TA c w (paint c w 4) (w4.setCell ⟨rb, 1, none⟩ v') ∧ RmAt (paint c w 4) (w4.setCell ⟨rb, 1, none⟩ v') rb hb iv v' pv sv ivs (fvs ++ [f]) (M.addI xs ivs) := by
  have hu1 : Upd (fun k => fv.ownBlock = some k) w w4 := (hu.mono (T := fun k => fv.ownBlock = some k) (fun _ h _ => h.elim)).trans (Upd.grown (S := fun k => fv.ownBlock = some k) hg (fun k hk => .inl hk)) (fun k hk _ => hk)
  have hrb : rb < w.heap.size := (Array.getElem?_eq_some_iff.1 h.box).1
  have hcol : ∀ k, v'.ownBlock = some k → paint c w 4 k = 4 := fun k hk => by
    rcases hf k hk with h1 | h1
    · rw [paint_old c w 4 (hpRowLt h.flds k h1)]; exact h.cf k h1
    · exact paint_new c w 4 (Nat.le_trans hu.size h1)
  have hne : ∀ k, v'.ownBlock = some k → ¬ k = rb := fun k hk e => by
    have h1 := hcol k hk
    rw [e, paint_old c w 4 hrb, h.cb] at h1
    omega
  have hb1 : w4.heap[rb]? = some (.cells #[iv, fv, .pointer (some ⟨hb, 0, none⟩), pv, sv] 83 (0, 0)) := hpBlk hu1 h.box (fun e => by
    have h1 := h.cf rb e
    rw [h.cb] at h1
    omega)
  have hu2 : Upd (fun k => k = rb) w4 (w4.setCell ⟨rb, 1, none⟩ v') := Upd.setCell (S := fun k => k = rb) w4 (.inl rfl) _
  have E : Ext TA c w (paint c w 4) (w4.setCell ⟨rb, 1, none⟩ v') := ⟨fun k hk => paint_old c w 4 hk, (hu1.mono (T := fun k => TA (c k)) (fun k hk _ => by rw [h.cf k hk]; simp [TA])).trans (hu2.mono (T := fun k => TA (c k)) (fun k hk _ => by rw [hk, h.cb]; simp [TA])) (fun k hk _ => hk)⟩
  have E2 : Ext (fun i => i = 2 ∨ i = 4) c w (paint c w 4) (w4.setCell ⟨rb, 1, none⟩ v') := ⟨fun k hk => paint_old c w 4 hk, (hu1.mono (T := fun k => c k = 2 ∨ c k = 4) (fun k hk _ => by rw [h.cf k hk]; simp)).trans (hu2.mono (T := fun k => c k = 2 ∨ c k = 4) (fun k hk _ => by rw [hk, h.cb]; simp)) (fun k hk _ => hk)⟩
  have hlen : (M.addI xs ivs).fields.length = M.fields.length + 1 := by simp [RmM.addI]
  have hfl : fvs.length = M.fields.length := by simpa using h.flds.1
  have hget : ∀ i, i < M.fields.length → (M.addI xs ivs).fields.getD i [] = M.fields.getD i [] ∧ (fvs ++ [f]).getD i default = fvs.getD i default := fun i hi => by
    simp only [RmM.addI, List.getD_eq_getElem?_getD]
    rw [List.getElem?_append_left hi, List.getElem?_append_left (by omega)]
    exact ⟨rfl, rfl⟩
  have hlast : (M.addI xs ivs).fields.getD M.fields.length [] = xs ∧ (fvs ++ [f]).getD M.fields.length default = f := by
    simp only [RmM.addI, List.getD_eq_getElem?_getD]
    rw [List.getElem?_append_right (Nat.le_refl _), List.getElem?_append_right (by omega), hfl]
    simp
  refine ⟨E, ?_⟩
  refine ⟨by simp [World.setCell, Array.getElem?_modify, hb1], E.hep h.hp (by simp [TA]), h.ok, by rw [hlen]; exact E2.row h.imgs (fun k hk => by rw [h.ci k hk]; omega), by rw [hlen]; exact ownsRow_upd ho hu2 hne,
    fun i hi => ?_, E.row h.pub (fun k hk => by rw [h.cp k hk]; simp [TA]), E.row h.sec (fun k hk => by rw [h.cs k hk]; simp [TA]), h.pb, h.sb, h.i1, fun u hu => (List.mem_append.1 hu).elim (h.f1 u) (fun h2 => by rw [List.mem_singleton] at h2; rw [h2]; exact h1),
    E.col hrb h.cb, fun k hk => E.col (hpRowLt h.imgs k hk) (h.ci k hk), hcol, fun k hk => E.col (hpRowLt h.pub k hk) (h.cp k hk), fun k hk => E.col (hpRowLt h.sec k hk) (h.cs k hk),
    fun i k hi hk => ?_, by rw [hlen]; omega, rfl⟩
  · rw [hlen] at hi
    by_cases e : i = M.fields.length
    · subst e
      rw [hlast.1, hlast.2]
      exact E.row hx (fun k hk => by rw [hc k hk]; simp [TA]; omega)
    · rw [(hget i (by omega)).1, (hget i (by omega)).2]
      exact E.row (h.fld i (by omega)) (fun k hk => by rw [h.cx i k (by omega) hk]; simp [TA]; omega)
  · rw [hlen] at hi
    by_cases e : i = M.fields.length
    · subst e
      rw [hlast.2] at hk
      exact E.col (hpRowLt hx k hk) (hc k hk)
    · rw [(hget i (by omega)).2] at hk
      exact E.col (hpRowLt (h.fld i (by omega)) k hk) (h.cx i k (by omega) hk)
end
end Go.Proofs.YtdmadfahgkikkaaGreat

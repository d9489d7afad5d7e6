/- Package interp: a machine in memory; its map of images; an image of the room. -/
import Derived.Test.YtdmadfahgkikkaaGreatJbk
import Derived.Test.YtdmadfahgkikkaaGreatQBk
import Derived.Test.YtdmadfahgkikkaaGreatQCk
import Derived.Maps.OwnSet
namespace Go.Proofs.YtdmadfahgkikkaaGreat
open Go.RowKit Go.Lib Go.ChangeShapes Go.WideShapes Go.Deep Go.MapKept Go.ChangeMaps
set_option linter.unusedVariables false
set_option linter.unusedSimpArgs false

/-- an image's value is held as it is -/
def heldR (v : Value) : Option (DataW Value × List MemPlace) := some (.held v, [])
abbrev MpT : TypeId := 61
theorem keyed0 : Maps.Keyed Tryz.prog 3 := Maps.int_keyed Tryz.underlying3
theorem zeroImg (w : World) : (zeroValue 59).run Tryz.prog w = .ok noImg w := by kernel_rfl
def lit0 : Lit := .int .i64 0
theorem key0 : keyOf Tryz.prog 3 (.int .i64 0) = some lit0 := Maps.keyOf_int_mk Tryz.underlying3 (by decide)
theorem ownsMap_upd {S : Nat → Prop} {w w' : World} {b n : Nat} {D : DataW Value} (h : w.ownsMap Tryz.prog 3 heldR b n D) (hu : Upd S w w') (hS : ¬ S b) : w'.ownsMap Tryz.prog 3 heldR b n D := by
  obtain ⟨es, clock, h1, h2⟩ := h
  exact ⟨es, clock, hpBlk hu h1 hS, h2⟩
theorem turned_upd {w w' : World} {b : Nat} (h : w.mapTurned w' b) : Upd (fun q => q = b) w w' := by
  obtain ⟨es, clock, es', clock', h1, rfl⟩ := h
  exact ⟨rfl, rfl, rfl, by simp [setBlock], fun k hk hne => by simp [setBlock, Array.getElem?_set, Ne.symm hne]⟩
/-- the map of images: none yet, or the only applet's -/
def MapOk (c : Nat → Nat) (w : World) (mp : Nat) (I : ImgM) : Prop := c mp = 11 ∧ ∃ n D, w.ownsMap Tryz.prog 3 heldR mp n D ∧ ((n = 0 ∧ ∀ zd, D.atKey lit0 zd = zd) ∨ (n ≤ 1 ∧ ∃ v, (∀ zd, D.atKey lit0 zd = .held v) ∧ ImgK c w v I))
theorem MapOk.ext {T : Nat → Prop} {c c' : Nat → Nat} {w w' : World} {mp : Nat} {I : ImgM} (h : MapOk c w mp I) (hx : Ext T c w c' w') (h8 : ¬ T 8) (h11 : ¬ T 11) : MapOk c' w' mp I := by
  obtain ⟨hc, n, D, h1, h2⟩ := h
  refine ⟨hx.col h1.lt hc, n, D, ownsMap_upd h1 hx.upd (by rw [hc]; exact h11), ?_⟩
  rcases h2 with h2 | ⟨h2, v, h3, h4⟩
  · exact .inl h2
  · exact .inr ⟨h2, v, h3, h4.ext hx h8⟩
section
variable {c : Nat → Nat} {w : World} {rb : Nat} {M : RmM} {Ps : List PI}
theorem pisC_at (L : List PI) : ∀ {k : Nat}, k < L.length → ∀ j, j < 5 → (pisC L)[k * 5 + j]? = (piC (L.getD k default))[j]? := by
  induction L with
  | nil => intro k hk; simp at hk
  | cons p L ih =>
    intro k hk j hj
    rcases k with _ | k
    · show (piC p ++ pisC L)[0 * 5 + j]? = _
      rw [Nat.zero_mul, Nat.zero_add, List.getElem?_append_left (by simp [piC]; omega)]
      rfl
    · show (piC p ++ pisC L)[(k + 1) * 5 + j]? = _
      rw [List.getElem?_append_right (by simp [piC]; omega)]
      rw [show (k + 1) * 5 + j - (piC p).length = k * 5 + j by simp [piC]; omega]
      exact ih (by simpa using hk) j hj
set_option maxRecDepth 100000 in
set_option maxHeartbeats 1000000 in
theorem rImage (h : RmI c w rb M Ps) {j : Nat} (hj : j < Ps.length) (hS : ImgS (Ps.getD j default).1) :
    Calls Tryz.prog 42 #[.pointer (some ⟨rb, 0, none⟩), .int .i64 (j : Int)] w fun e w' => ∃ v, e = .returned (.tuple #[v, .bool true]) ∧ ImgK (paint c w 8) w' v (Ps.getD j default).1 ∧ Upd (fun _ => False) w w' := by
  obtain ⟨⟨hb, iv, fv, pv, sv, ivs, fvs, h⟩, him, hlen, hK⟩ := h
  obtain rfl : ivs = pisC Ps := h.es.trans him
  obtain ⟨P, hP⟩ : ∃ P, P = Ps.getD j default := ⟨_, rfl⟩
  have hmem : P ∈ Ps := by rw [hP]; simp [List.getD, hj]
  have hIK := hK P hmem
  obtain ⟨b0, -, -, -, -, -⟩ := h.bx
  have hrb : rb < w.heap.size := (Array.getElem?_eq_some_iff.1 h.box).1
  have hcell : ∀ q, q < 5 → (pisC Ps)[j * 5 + q]? = (piC P)[q]? := fun q hq => by rw [hP]; exact pisC_at Ps hj q hq
  rcases h.imgs.2 with ⟨_, h0⟩ | ⟨g, gc, cur, rfl, -, hg, hgc, hgm, -⟩
  · omega
  · have hr := h.imgs
    have c0 := rowCell hr (j := j * 5 + 0) (u := .string P.1.name) (by rw [hcell 0 (by omega)]; rfl)
    have c1 := rowCell hr (j := j * 5 + 1) (u := P.2.1) (by rw [hcell 1 (by omega)]; rfl)
    have c2 := rowCell hr (j := j * 5 + 2) (u := P.2.2.1) (by rw [hcell 2 (by omega)]; rfl)
    have c3 := rowCell hr (j := j * 5 + 3) (u := P.2.2.2.1) (by rw [hcell 3 (by omega)]; rfl)
    have c4 := rowCell hr (j := j * 5 + 4) (u := P.2.2.2.2) (by rw [hcell 4 (by omega)]; rfl)
    rw [← hP] at hS ⊢
    have hgl : g < w.heap.size := World.block_lt_of_cell? w _ c0
    have t1 : decide ((j : Int) < 0) = false := by simp only [decide_eq_false_iff_not]; omega
    have t2 : decide ((M.fields.length : Int) ≤ (j : Int)) = false := by simp only [decide_eq_false_iff_not]; omega
    have j0 : (0 : Int) ≤ (j : Int) := Int.natCast_nonneg _
    have j1 : (j : Int) < (M.fields.length : Int) := by omega
    have HC := Lib.hid (fun u (hu : Upd (fun _ => False) w u) => rCloneImage u (piV P) P.1 (hIK.now.later (hu.below (Nat.le_refl _) (fun _ h => h.elim))) hS)
    unfold maxLen at hgm
    obtain ⟨I, f, i, m, x⟩ := P
    simp only [piV] at HC ⊢
    simp only at c0 c1 c2 c3 c4
    rw [Nat.add_zero] at c0
    obtain ⟨f', i', m', x', he, hf, hi, hm, hx, -⟩ := hIK.now
    simp [piV] at he
    obtain ⟨rfl, rfl, rfl, rfl⟩ := he
    simp only at hf hi hm hx
    obtain ⟨fa, fc, rfl, -, -⟩ := hf.slice
    obtain ⟨ia, ic, rfl, -, -⟩ := hi.slice
    obtain ⟨ma, mc, rfl, -, -⟩ := hm.slice
    obtain ⟨xa, xc, rfl, -, -⟩ := hx.slice
    clear hf hi hm hx
    clear h hr hcell hmem hIK hlen hK him hg hP
    generalize M.fields.length = n at *
    go_enter Tryz.func42, Tryz.ntmps42
    obtain ⟨wq, hwq⟩ : ∃ wq, wq = w.alloc (.cells #[.string { data := #[] }, .slice none 0 0, .slice none 0 0, .slice none 0 0, .slice none 0 0] 59) := ⟨_, rfl⟩
    have huq : Upd (fun _ => False) w wq := by rw [hwq]; exact Upd.alloc _ _ _
    have hqq : wq.heap[w.heap.size]? = some (.cells #[.string { data := #[] }, .slice none 0 0, .slice none 0 0, .slice none 0 0, .slice none 0 0] 59 (0, 0)) := by rw [hwq]; exact hpTop w _ _ rfl
    have hsq : wq.heap.size = w.heap.size + 1 := by rw [hwq]; simp
    have HWQ := Lib.hid hwq
    have HUQ := Lib.hid huq
    have HQQ := Lib.hid hqq
    have HSQ := Lib.hid hsq
    clear hwq huq hqq hsq
    go_wp2_with fail
    rw [← HWQ.out]
    refine (HC.out _ HUQ.out).mono ?_
    rintro e w2 ⟨v', rfl, hv, hu⟩
    obtain ⟨f', i', m', x', rfl, hf', hi', hm', hx', -⟩ := hv.img (Upd.refl _ w2)
    obtain ⟨fa', fc', rfl, -, -⟩ := hf'.slice
    obtain ⟨ja', jc', rfl, -, -⟩ := hi'.slice
    obtain ⟨ma', mc', rfl, -, -⟩ := hm'.slice
    obtain ⟨xa', xc', rfl, -, -⟩ := hx'.slice
    have hq2 := hpBlk hu HQQ.out (fun h => h)
    obtain ⟨e0, e1, e2, e3, e4, ef⟩ := five hq2
    have f0 := ef 0
    have f1 := ef 1
    have f2 := ef 2
    have f3 := ef 3
    have f4 := ef 4
    have HV := Lib.hid hv
    have HU2 := Lib.hid hu
    have HQ2 := Lib.hid hq2
    clear hv hu hq2 ef hf' hi' hm' hx' c0 c1 c2 c3 c4 b0
    go_wp2_with fail
    clear e0 e1 e2 e3 e4 f0 f1 f2 f3 f4
    obtain ⟨w3, hw3⟩ : ∃ w3, w3 = ((((w2.setCell ⟨w.heap.size, 0, none⟩ (.string I.name)).setCell ⟨w.heap.size, 1, none⟩ (.slice fa' I.fields.length fc')).setCell ⟨w.heap.size, 2, none⟩ (.slice ja' I.imports.length jc')).setCell ⟨w.heap.size, 3, none⟩ (.slice ma' I.methods.length mc')).setCell ⟨w.heap.size, 4, none⟩ (.slice xa' I.exports.length xc') := ⟨_, rfl⟩
    have hu3 : Upd (fun q => q = w.heap.size) w2 w3 := by rw [hw3]; exact hpS (hpS (hpS (hpS (hpS (Upd.refl _ _) rfl) rfl) rfl) rfl) rfl
    have hq3 : w3.heap[w.heap.size]? = some (.cells #[.string I.name, .slice fa' I.fields.length fc', .slice ja' I.imports.length jc', .slice ma' I.methods.length mc', .slice xa' I.exports.length xc'] 59 (0, 0)) := by
      rw [hw3]; simp [World.setCell, Array.getElem?_modify, HQ2.out]
    rw [← hw3]
    obtain ⟨d0, d1, d2, d3, d4, -⟩ := five hq3
    clear hw3
    refine bodyPost_ret (v := .tuple #[img5 I.name (.slice fa' I.fields.length fc') (.slice ja' I.imports.length jc') (.slice ma' I.methods.length mc') (.slice xa' I.exports.length xc'), .bool true]) (by simp [results, Tryz.f42, go_sem, d0, d1, d2, d3, d4]) rfl ?_
    refine ⟨_, rfl, ImgK.made HUQ.out (HV.out.mono (fun wg hg => (hu3.mono (fun q hq _ => by rw [hq, HSQ.out]; omega)).trans hg (fun _ h _ => h))), (HUQ.out.trans HU2.out (fun _ h _ => h)).trans hu3 (fun q hq hl => by omega)⟩
end
/-- the frames, the topmost first -/
def FrL (c : Nat → Nat) (w : World) : Value → List FrM → Prop
  | v, [] => v = .pointer none
  | v, F :: Fs => ∃ fb cv p l k lv sv, v = .pointer (some ⟨fb, 0, none⟩) ∧ FrAt Fs.length c w fb cv p l k lv sv F ∧ FrL c w cv Fs
theorem FrL.ext {T : Nat → Prop} {c c' : Nat → Nat} {w w' : World} (hx : Ext T c w c' w') (h8 : ¬ T 8) : ∀ {Fs : List FrM} {v : Value}, FrL c w v Fs → (∀ i, 20 ≤ i → i < 20 + 3 * Fs.length → ¬ T i) → FrL c' w' v Fs
  | [], _, h, _ => h
  | F :: Fs, _, ⟨fb, cv, p, l, k, lv, sv, he, hf, hr⟩, hT => ⟨fb, cv, p, l, k, lv, sv, he, hf.ext hx h8 (fun i hi => hT i (by simp only [FT3] at hi; omega) (by simp only [FT3] at hi; simp only [List.length_cons]; omega)), FrL.ext hx h8 hr (fun i h1 h2 => hT i h1 (by simp only [List.length_cons]; omega))⟩
theorem FrL.ptr {c : Nat → Nat} {w : World} {v : Value} {Fs : List FrM} (h : FrL c w v Fs) : ∃ a, v = .pointer a := by
  cases Fs with
  | nil => exact ⟨none, h⟩
  | cons F Fs => obtain ⟨fb, _, _, _, _, _, _, rfl, -⟩ := h; exact ⟨_, rfl⟩
structure McM where
  Fs : List FrM
  fuel : Int
  status : Int
  tr : List EvM
abbrev McT : TypeId := 64
/-- a machine in memory: its box (colour 10), its map (11), its trace (7), its frames, its room -/
structure Mc (c : Nat → Nat) (w : World) (mb rb mp tb : Nat) (tv : Value) (X : McM) (M : RmM) (Ps : List PI) (I : ImgM) : Prop where
  box : w.heap[mb]? = some (.cells #[.pointer (some ⟨rb, 0, none⟩), .map (some mp), tv, .int .i64 X.fuel, .int .i64 X.status, .pointer (some ⟨tb, 0, none⟩)] McT (0, 0))
  frs : FrL c w tv X.Fs
  trc : Trc (Col c w 7) w tb X.tr
  cb : c mb = 10
  map : MapOk c w mp I
  rm : RmI c w rb M Ps
  one : ∃ P, Ps = [P] ∧ P.1 = I ∧ ImgS I
  dep : X.Fs.length ≤ 8
/-- the machine's colours, n frames -/
def MC (n i : Nat) : Prop := (1 ≤ i ∧ i ≤ 8) ∨ i = 10 ∨ i = 11 ∨ (20 ≤ i ∧ i < 20 + 3 * n) ∨ 100 ≤ i
section
variable {T : Nat → Prop} {c c' : Nat → Nat} {w w' : World} {mb rb mp tb : Nat} {tv : Value} {X : McM} {M : RmM} {Ps : List PI} {I : ImgM}
theorem Mc.ext (h : Mc c w mb rb mp tb tv X M Ps I) (hx : Ext T c w c' w') (hT : ∀ i, MC X.Fs.length i → ¬ T i) : Mc c' w' mb rb mp tb tv X M Ps I := by
  have h8 : ¬ T 8 := hT 8 (by simp [MC])
  exact ⟨hx.blk h.box (by rw [h.cb]; exact hT 10 (by simp [MC])), FrL.ext hx h8 h.frs (fun i h1 h2 => hT i (by simp only [MC]; omega)), hx.trc h.trc (hT 7 (by simp [MC])), hx.col (Array.getElem?_eq_some_iff.1 h.box).1 h.cb, h.map.ext hx h8 (hT 11 (by simp [MC])), h.rm.ext hx (fun i hi => hT i (by simp only [RmC] at hi; simp only [MC]; omega)) h8, h.one, h.dep⟩
theorem Mc.quiet (h : Mc c w mb rb mp tb tv X M Ps I) (hu : Upd (fun _ => False) w w') : Mc c w' mb rb mp tb tv X M Ps I := h.ext (Ext.quiet c hu) (fun _ _ h => h)
theorem six6 {w : World} {b : Nat} {a0 a1 a2 a3 a4 a5 : Value} {t : TypeId} (h : w.heap[b]? = some (.cells #[a0, a1, a2, a3, a4, a5] t (0, 0))) :
    w.cell? ⟨b, 0, none⟩ = some a0 ∧ w.cell? ⟨b, 1, none⟩ = some a1 ∧ w.cell? ⟨b, 2, none⟩ = some a2 ∧ w.cell? ⟨b, 3, none⟩ = some a3 ∧ w.cell? ⟨b, 4, none⟩ = some a4 ∧ w.cell? ⟨b, 5, none⟩ = some a5 ∧ ∀ q, w.frozen? ⟨b, q, none⟩ = false := by
  refine ⟨?_, ?_, ?_, ?_, ?_, ?_, fun q => ?_⟩ <;> simp [World.cell?, World.frozen?, h]
theorem Mc.bx (h : Mc c w mb rb mp tb tv X M Ps I) : w.cell? ⟨mb, 0, none⟩ = some (.pointer (some ⟨rb, 0, none⟩)) ∧ w.cell? ⟨mb, 1, none⟩ = some (.map (some mp)) ∧ w.cell? ⟨mb, 2, none⟩ = some tv ∧ w.cell? ⟨mb, 3, none⟩ = some (.int .i64 X.fuel) ∧ w.cell? ⟨mb, 4, none⟩ = some (.int .i64 X.status) ∧ w.cell? ⟨mb, 5, none⟩ = some (.pointer (some ⟨tb, 0, none⟩)) ∧ ∀ q, w.frozen? ⟨mb, q, none⟩ = false := six6 h.box
/-- the room has turned, not the rest -/
theorem Mc.room {M' : RmM} (h : Mc c w mb rb mp tb tv X M Ps I) (hx : Ext T c w c' w') (hr : RmI c' w' rb M' Ps) (hT : ∀ i, ¬ T i ∨ (1 ≤ i ∧ i ≤ 6) ∨ 100 ≤ i) : Mc c' w' mb rb mp tb tv X M' Ps I := by
  have h8 : ¬ T 8 := by rcases hT 8 with h | h; exact h; omega
  exact ⟨hx.blk h.box (by rw [h.cb]; rcases hT 10 with h | h; exact h; omega), FrL.ext hx h8 h.frs (fun i h1 h2 => by have hd := h.dep; rcases hT i with h' | h'; exact h'; omega), hx.trc h.trc (by rcases hT 7 with h | h; exact h; omega), hx.col (Array.getElem?_eq_some_iff.1 h.box).1 h.cb, h.map.ext hx h8 (by rcases hT 11 with h | h; exact h; omega), hr, h.one, h.dep⟩
def McM.withFs (X : McM) (Fs : List FrM) : McM := ⟨Fs, X.fuel, X.status, X.tr⟩
def McM.withFuel (X : McM) (n : Int) : McM := ⟨X.Fs, n, X.status, X.tr⟩
def McM.withStatus (X : McM) (n : Int) : McM := ⟨X.Fs, X.fuel, n, X.tr⟩
def McM.withTr (X : McM) (L : List EvM) : McM := ⟨X.Fs, X.fuel, X.status, L⟩
/-- the topmost frame -/
theorem Mc.top {F : FrM} {Fs : List FrM} (h : Mc c w mb rb mp tb tv X M Ps I) (hX : X.Fs = F :: Fs) : ∃ fb cv p l k lv sv, tv = .pointer (some ⟨fb, 0, none⟩) ∧ FrAt Fs.length c w fb cv p l k lv sv F ∧ FrL c w cv Fs := by
  have h1 := h.frs
  rw [hX] at h1
  exact h1
/-- the topmost frame has turned -/
theorem Mc.turnTop {F F' : FrM} {Fs : List FrM} {fb : Nat} {cv p l k lv' sv' : Value} (h : Mc c w mb rb mp tb (.pointer (some ⟨fb, 0, none⟩)) X M Ps I) (hX : X.Fs = F :: Fs) (hr : FrL c w cv Fs) (hx : Ext T c w c' w') (hf : FrAt Fs.length c' w' fb cv p l k lv' sv' F') (hT : ∀ i, T i → FT3 Fs.length i) :
    Mc c' w' mb rb mp tb (.pointer (some ⟨fb, 0, none⟩)) (X.withFs (F' :: Fs)) M Ps I := by
  have nT : ∀ i, ¬ FT3 Fs.length i → ¬ T i := fun i h1 h2 => h1 (hT i h2)
  have hd := h.dep
  rw [hX, List.length_cons] at hd
  have h8 : ¬ T 8 := nT 8 (by simp only [FT3]; omega)
  exact ⟨hx.blk h.box (by rw [h.cb]; exact nT 10 (by simp only [FT3]; omega)), ⟨fb, cv, p, l, k, lv', sv', rfl, hf, FrL.ext hx h8 hr (fun i h1 h2 => nT i (by simp only [FT3]; omega))⟩, hx.trc h.trc (nT 7 (by simp only [FT3]; omega)), hx.col (Array.getElem?_eq_some_iff.1 h.box).1 h.cb, h.map.ext hx h8 (nT 11 (by simp only [FT3]; omega)), h.rm.ext hx (fun i hi => nT i (by simp only [RmC] at hi; simp only [FT3]; omega)) h8, h.one, by simp only [McM.withFs, List.length_cons]; exact hd⟩
def T10 (i : Nat) : Prop := i = 10
theorem Mc.setBox (h : Mc c w mb rb mp tb tv X M Ps I) {q : Nat} {u : Value} {X' : McM} (hb : (w.setCell ⟨mb, q, none⟩ u).heap[mb]? = some (.cells #[.pointer (some ⟨rb, 0, none⟩), .map (some mp), tv, .int .i64 X'.fuel, .int .i64 X'.status, .pointer (some ⟨tb, 0, none⟩)] McT (0, 0))) (hF : X'.Fs = X.Fs) (hL : X'.tr = X.tr) :
    Ext T10 c w c (w.setCell ⟨mb, q, none⟩ u) ∧ Mc c (w.setCell ⟨mb, q, none⟩ u) mb rb mp tb tv X' M Ps I := by
  have hu : Upd (fun q => q = mb) w (w.setCell ⟨mb, q, none⟩ u) := hpS (Upd.refl _ _) rfl
  have E : Ext T10 c w c (w.setCell ⟨mb, q, none⟩ u) := ⟨fun _ _ => rfl, hu.mono (fun q hq _ => by rw [hq]; exact h.cb)⟩
  have hd := h.dep
  refine ⟨E, hb, by rw [hF]; exact FrL.ext E (by simp only [T10]; omega) h.frs (fun i h1 h2 => by simp only [T10]; omega), by rw [hL]; exact E.trc h.trc (by simp only [T10]; omega), h.cb, h.map.ext E (by simp only [T10]; omega) (by simp only [T10]; omega), h.rm.ext E (fun i hi => by simp only [RmC] at hi; simp only [T10]; omega) (by simp only [T10]; omega), h.one, by rw [hF]; exact h.dep⟩
theorem Mc.setFuel (h : Mc c w mb rb mp tb tv X M Ps I) (n : Int) : Ext T10 c w c (w.setCell ⟨mb, 3, none⟩ (.int .i64 n)) ∧ Mc c (w.setCell ⟨mb, 3, none⟩ (.int .i64 n)) mb rb mp tb tv (X.withFuel n) M Ps I := h.setBox (by simp [World.setCell, Array.getElem?_modify, h.box, McM.withFuel]) rfl rfl
theorem Mc.setStatus (h : Mc c w mb rb mp tb tv X M Ps I) (n : Int) : Ext T10 c w c (w.setCell ⟨mb, 4, none⟩ (.int .i64 n)) ∧ Mc c (w.setCell ⟨mb, 4, none⟩ (.int .i64 n)) mb rb mp tb tv (X.withStatus n) M Ps I := h.setBox (by simp [World.setCell, Array.getElem?_modify, h.box, McM.withStatus]) rfl rfl
/-- something shows -/
theorem mAdd (h : Mc c w mb rb mp tb tv X M Ps I) (x a b y : Int) : Calls Tryz.prog 40 #[.pointer (some ⟨tb, 0, none⟩), .int .i64 x, .int .i64 a, .int .i64 b, .int .i64 y] w fun e w' => (∃ r, e = .returned (.bool r)) ∧ ∃ c', Ext T7 c w c' w' ∧ Mc c' w' mb rb mp tb tv (X.withTr (addE X.tr ⟨x, a, b, y⟩)) M Ps I := by
  by_cases hl : X.tr.length < 200000
  · refine (tAdd h.trc hl x a b y).mono ?_
    rintro e w' ⟨rfl, ht, hu⟩
    have E : Ext T7 c w (paint c w 7) w' := Ext.of 7 rfl hu
    have hd := h.dep
    refine ⟨⟨_, rfl⟩, _, E, ?_⟩
    have hadd : addE X.tr ⟨x, a, b, y⟩ = X.tr ++ [⟨x, a, b, y⟩] := by unfold addE; rw [if_pos hl]
    rw [hadd]
    exact ⟨E.blk h.box (by rw [h.cb]; show ¬ (10 = 7); omega), FrL.ext E (show ¬ (8 = 7) by omega) h.frs (fun i h1 h2 => show ¬ (i = 7) by omega), trc_of ht (fun k hk => by
      rcases hk with h1 | ⟨h1, h2⟩
      · exact ⟨by rw [paint_old c w 7 h1.2]; exact h1.1, Nat.lt_of_lt_of_le h1.2 hu.size⟩
      · exact ⟨paint_new c w 7 h1, h2⟩), E.col (Array.getElem?_eq_some_iff.1 h.box).1 h.cb, h.map.ext E (show ¬ (8 = 7) by omega) (show ¬ (11 = 7) by omega), h.rm.ext E (fun i hi => by simp only [RmC] at hi; show ¬ (i = 7); omega) (show ¬ (8 = 7) by omega), h.one, h.dep⟩
  · refine (tAdd_full h.trc (by omega) x a b y).mono ?_
    rintro e w' ⟨rfl, rfl⟩
    have hadd : addE X.tr ⟨x, a, b, y⟩ = X.tr := by unfold addE; rw [if_neg hl]
    rw [hadd]
    exact ⟨⟨_, rfl⟩, c, Ext.quietT _ c (Upd.refl _ _), h⟩
set_option maxHeartbeats 1000000 in
theorem mEnd0 (h : Mc c w mb rb mp tb tv X M Ps I) : Calls Tryz.prog 37 #[.pointer (some ⟨mb, 0, none⟩), .int .i64 0] w fun e w' => e = .returned (.tuple #[]) ∧ w = w' := by
  clear h
  go_enter Tryz.func37, Tryz.ntmps37
  go_wp2_with fail
  refine bodyPost_ret (results_none rfl _ _ _) rfl ?_
  exact ⟨rfl, rfl⟩
def T107 (i : Nat) : Prop := i = 10 ∨ i = 7
set_option maxHeartbeats 1000000 in
theorem mEnd (h : Mc c w mb rb mp tb tv X M Ps I) (n : Int) (hn : n ≠ 0) : Calls Tryz.prog 37 #[.pointer (some ⟨mb, 0, none⟩), .int .i64 n] w fun e w' => e = .returned (.tuple #[]) ∧ ∃ c', Ext T107 c w c' w' ∧ Mc c' w' mb rb mp tb tv ((X.withStatus n).withTr (addE X.tr ⟨5, n, 0, 0⟩)) M Ps I := by
  obtain ⟨-, -, -, -, b4, b5, bf⟩ := h.bx
  have f4 := bf 4
  have HS := Lib.hid (h.setStatus n)
  have b5' := (HS.out.2.bx).2.2.2.2.2.1
  have HA := Lib.hid (mAdd HS.out.2 5 n 0 0)
  have t1 : (n == 0) = false := by simpa using hn
  clear h hn bf
  go_enter Tryz.func37, Tryz.ntmps37
  go_wp2_with fail
  refine HA.out.mono ?_
  rintro e w2 ⟨⟨r, rfl⟩, c2, hx, hm⟩
  have H2 := Lib.hid (And.intro hx hm)
  clear hx hm
  go_wp2_with fail
  go_end0
  exact ⟨rfl, c2, HS.out.1.mono (fun i hi => .inl hi) |>.trans H2.out.1 (fun i hi => .inr hi), H2.out.2⟩
end
end Go.Proofs.YtdmadfahgkikkaaGreat

/- Package interp: a call, a return. -/
import Derived.Test.YtdmadfahgkikkaaGreatJek
import Derived.Laws.CopyOwn
namespace Go.Proofs.YtdmadfahgkikkaaGreat
open Go.RowKit Go.Lib Go.ChangeShapes Go.WideShapes Go.Deep Go.MapKept Go.ChangeMaps
set_option linter.unusedVariables false
set_option linter.unusedSimpArgs false

section
variable {c : Nat → Nat} {w : World} {mb rb mp tb : Nat} {tv : Value} {X : McM} {M : RmM} {Ps : List PI} {I : ImgM}
def callF (I : ImgM) (j : Nat) (A : List Int) : FrM := ⟨0, (j : Int), 0, I.methods.getD j default, A ++ List.replicate (I.methods.getD j default).locals.length 0, []⟩
def TCall (d i : Nat) : Prop := i = 10 ∨ i = 11 ∨ FBS d i
/-- params are laid into a new frame's locals -/
theorem FrAt.copyLoc {d fb : Nat} {cv p l k sv : Value} {F : FrM} {g n cap : Nat} {cur : Array Value} (h : FrAt d c w fb cv p l k (.slice (some ⟨g, 0, none⟩) n cap) sv F) (hn : F.loc.length = n) (hg : w.heap[g]? = some (.cells cur 21 (0, 0))) {A : List Int} (hA : A.length ≤ n) (hr : ∀ x ∈ A, i32r x) :
    Ext (FL1 d) c w c (w.setRow g (cur.toList.take 0 ++ (i32v A ++ cur.toList.drop (0 + A.length))).toArray) ∧ FrAt d c (w.setRow g (cur.toList.take 0 ++ (i32v A ++ cur.toList.drop (0 + A.length))).toArray) fb cv p l k (.slice (some ⟨g, 0, none⟩) n cap) sv (F.withLoc (A ++ F.loc.drop A.length)) := by
  have hcg := h.cl g rfl
  have hu : Upd (fun q => q = g) w (w.setRow g (cur.toList.take 0 ++ (i32v A ++ cur.toList.drop (0 + A.length))).toArray) := ⟨rfl, rfl, rfl, by simp, fun q hq hne => setRow_other w g q _ hne⟩
  have E : Ext (FL1 d) c w c (w.setRow g (cur.toList.take 0 ++ (i32v A ++ cur.toList.drop (0 + A.length))).toArray) := ⟨fun _ _ => rfl, hu.mono (fun q hq _ => by rw [hq]; exact hcg)⟩
  have hloc := h.loc
  rw [hn] at hloc
  obtain ⟨hl1, hl2⟩ := hloc
  rcases hl2 with ⟨h1, -⟩ | ⟨g', cap', cur', h1, h2, h3, h4, h5, h6, h7⟩
  · simp at h1
  · simp at h1
    obtain ⟨rfl, rfl⟩ := h1
    rw [hg] at h3
    simp at h3
    subst h3
    have hAl : (A ++ F.loc.drop A.length).length = n := by simp; omega
    refine ⟨E, ⟨E.blk h.box (by rw [h.cb]; simp only [FL1]; omega), h.met.ext E (by simp only [FL1]; omega), ?_, E.row h.stk (fun b hb => by rw [h.cs b hb]; simp only [FL1]; omega), h.cb, h.cl, h.cs, ?_, h.sr, by show (A ++ F.loc.drop A.length).length ≤ 1000; rw [hAl, ← hn]; exact h.ll, h.sl⟩⟩
    · show World.ownsRow _ 0 _ 1 _ (A ++ F.loc.drop A.length).length (i32v (A ++ F.loc.drop A.length))
      rw [hAl]
      refine ⟨by simp [i32v]; omega, .inr ⟨g, cap, _, rfl, h2, setRow_heap w g cur _ _ _ hg, h4, h5, ?_, ?_⟩⟩
      · simp [i32v]; omega
      · have h8 : i32v F.loc = cur.toList.take n := by rw [← h7]; simp
        simp only [List.take_zero, List.nil_append, Nat.zero_add, Nat.mul_one] at *
        rw [show i32v (A ++ F.loc.drop A.length) = i32v A ++ (i32v F.loc).drop A.length by simp [i32v], h8, List.take_append, List.drop_take]
        rw [List.take_of_length_le (by simp [i32v]; omega)]
        simp [i32v]
    · intro x hx
      rcases List.mem_append.1 hx with h1 | h1
      · exact hr x h1
      · exact h.lr x (List.mem_of_mem_drop h1)
theorem mCallDeep (h : Mc c w mb rb mp tb tv X M Ps I) (hd : X.Fs.length = 8) (a b : Int) : Calls Tryz.prog 50 #[.pointer (some ⟨mb, 0, none⟩), .int .i64 a, .int .i64 b] w fun e w' => e = .returned (.int .i64 28422) ∧ w = w' := by
  have HD := Lib.hid (mDepth h)
  rw [hd] at HD
  clear h hd
  go_enter Tryz.func50, Tryz.ntmps50
  go_wp2_with fail
  refine HD.out.mono ?_
  rintro e w' ⟨rfl, rfl⟩
  go_wp2_with fail
  go_ret
  exact ⟨rfl, rfl⟩
set_option maxRecDepth 100000 in
set_option maxHeartbeats 4000000 in
theorem mCall {F : FrM} {Fs : List FrM} (h : Mc c w mb rb mp tb tv X M Ps I) (hX : X.Fs = F :: Fs) (hd : X.Fs.length < 8) {j : Nat} (hj : j < I.methods.length) (hl : (I.methods.getD j default).params.length + (I.methods.getD j default).locals.length ≤ 1000)
    {L A : List Int} (hs : F.stk = L ++ A) (hA : A.length = (I.methods.getD j default).params.length) :
    Calls Tryz.prog 50 #[.pointer (some ⟨mb, 0, none⟩), .int .i64 0, .int .i64 (j : Int)] w fun e w' => e = .returned (.int .i64 0) ∧ ∃ c' tv', Ext (TCall Fs.length) c w c' w' ∧ Mc c' w' mb rb mp tb tv' (X.withFs (callF I j A :: F.withStk L :: Fs)) M Ps I := by
  have HD := Lib.hid (mDepth h)
  have HP := Lib.hid (mPush h hd hj hl)
  obtain ⟨fb0, cv0, p0, l0, k0, lv0, sv0, rfl, hf0, hr0⟩ := h.top hX
  obtain ⟨-, -, b2, -, -, -, -⟩ := h.bx
  have HX := Lib.hid hX
  have HS := Lib.hid hs
  have HA := Lib.hid hA
  have HL := Lib.hid hl
  have HDP := Lib.hid hd
  have t1 : decide ((8 : Int) ≤ (X.Fs.length : Int)) = false := by simp only [decide_eq_false_iff_not]; omega
  have HAR := Lib.hid (fun x (hx : x ∈ A) => hf0.sr x (by rw [hs]; simp [hx]))
  clear h hX hs hA hl hd hj hf0 hr0
  go_enter Tryz.func50, Tryz.ntmps50
  go_wp2_with fail
  refine HD.out.mono ?_
  rintro e w' ⟨rfl, rfl⟩
  go_wp2_with fail
  refine HP.out.mono ?_
  rintro e w1 ⟨rfl, c1, tv1, hx1, hm1, fn, p, l, k, lv, sv, rfl, hfn, hrl, g, hgw0, rfl⟩
  have HGW := Lib.hid hgw0
  clear hgw0
  rw [HX.out] at hrl hfn hm1
  obtain ⟨fb, cv, p', l', k', lv', sv', he, hfb, hrest⟩ := hrl
  simp at he
  subst he
  clear b2 t1 HD HP
  have hne : fn ≠ fb0 := fun e => by
    have h1 := hfn.cb
    rw [e, hfb.cb] at h1
    simp only [List.length_cons] at h1
    omega
  generalize hm : I.methods.getD j default = m at *
  have HM := Lib.hid hm
  clear hm
  obtain ⟨np, hnp⟩ : ∃ n, n = m.params.length := ⟨_, rfl⟩
  obtain ⟨nl, hnl⟩ : ∃ n, n = m.locals.length := ⟨_, rfl⟩
  have hpsl := hfn.met.now.1.slice
  have hpl : (newF I j).m.params.length = np := by rw [hnp, ← HM.out]; rfl
  have hll : (newF I j).loc.length = np + nl := by rw [hnp, hnl, ← HM.out]; simp [newF]
  rw [hpl] at hpsl
  obtain ⟨pa, pc, rfl, -, -⟩ := hpsl
  rw [← hnp, ← hnl] at hfn
  have b2 := hm1.bx.2.2.1
  obtain ⟨-, -, -, -, q4, -, -, -, q8, -, -⟩ := hfn.bx
  obtain ⟨cur, hcur, hcs⟩ : ∃ cur, w1.heap[g]? = some (.cells cur 21 (0, 0)) ∧ cur.size = np + nl := by
    have h1 := hfn.loc
    rw [hll] at h1
    rcases h1.2 with ⟨h2, -⟩ | ⟨g', cap', cur', h2, -, h3, -, -, h4, -⟩
    · simp at h2
    · simp at h2
      obtain ⟨rfl, rfl⟩ := h2
      exact ⟨cur', h3, by omega⟩
  have HTK := Lib.hid (fun (c2 : Nat → Nat) (u : World) (hf : FrAt Fs.length c2 u fb0 cv p' l' k' lv' sv' F) => fTake hf HS.out (n := np) (by rw [HA.out, ← hnp]) (by have := HL.out; rw [← hnp] at this; omega))
  have HX1 := Lib.hid hx1
  have HM1 := Lib.hid hm1
  have HFN := Lib.hid hfn
  have HFB := Lib.hid hfb
  have HRE := Lib.hid hrest
  have HCU := Lib.hid hcur
  have HCS := Lib.hid hcs
  have HNP := Lib.hid hnp
  have HNL := Lib.hid hnl
  have HLL := Lib.hid hll
  have HNE := Lib.hid hne
  clear hx1 hm1 hfn hfb hrest hcur hcs hnp hnl hpl hll
  go_upto_region 18 with fail
  obtain ⟨n, hn⟩ : ∃ n, n = np + nl := ⟨_, rfl⟩
  obtain ⟨cap, hcap⟩ : ∃ cap, cap = np + nl := ⟨_, rfl⟩
  have HN := Lib.hid hn
  have HCAP := Lib.hid hcap
  have hHeld : (fun w' : World => w'.cell? ⟨mb, 2, none⟩ = some (.pointer (some ⟨fn, 0, none⟩)) ∧ w'.cell? ⟨fn, 8, none⟩ = some (.slice (some ⟨g, 0, none⟩) n cap) ∧ w'.cell? ⟨fn, 4, none⟩ = some (.slice pa np pc)) w1.drew := ⟨b2, by rw [hn, hcap]; exact q8, q4⟩
  clear b2 q4 q8
  refine wp_region_last (S := (fun w' : World => w'.cell? ⟨mb, 2, none⟩ = some (.pointer (some ⟨fn, 0, none⟩)) ∧ w'.cell? ⟨fn, 8, none⟩ = some (.slice (some ⟨g, 0, none⟩) n cap) ∧ w'.cell? ⟨fn, 4, none⟩ = some (.slice pa np pc))) 18 _ (by kernel_rfl) (by kernel_rfl) rfl ?_
  change wpHL _ _ _ _ _ _ _ _ _ _ w1.drew
  refine wpHL_take (i := 0) (v := ?_) rfl (by kernel_rfl) (fun _ _ _ h => h) hHeld (Or.inl ⟨by rfl, ?_⟩) ?_
  rotate_left
  · (intro w hSw; obtain ⟨y0, y1, y2⟩ := hSw; go_simp; try with_reducible rfl)
  try simp only [Act.put, List.getElem_toArray, List.getElem_cons_succ, List.getElem_cons_zero, List.setIfInBounds_toArray, List.set_cons_zero, List.set_cons_succ]
  refine wpHL_take (i := 1) (v := ?_) rfl (by kernel_rfl) (fun _ _ _ h => h) hHeld (Or.inl ⟨by rfl, ?_⟩) ?_
  rotate_left
  · (intro w hSw; obtain ⟨y0, y1, y2⟩ := hSw; go_simp; try with_reducible rfl)
  try simp only [Act.put, List.getElem_toArray, List.getElem_cons_succ, List.getElem_cons_zero, List.setIfInBounds_toArray, List.set_cons_zero, List.set_cons_succ]
  refine wpHL_take (i := 2) (v := ?_) rfl (by kernel_rfl) (fun _ _ _ h => h) hHeld (Or.inl ⟨by rfl, ?_⟩) ?_
  rotate_left
  · (intro w hSw; obtain ⟨y0, y1, y2⟩ := hSw; go_simp; try with_reducible rfl)
  try simp only [Act.put, List.getElem_toArray, List.getElem_cons_succ, List.getElem_cons_zero, List.setIfInBounds_toArray, List.set_cons_zero, List.set_cons_succ]
  refine wpHL_take (i := 3) (v := ?_) rfl (by kernel_rfl) (fun _ _ _ h => h) hHeld (Or.inl ⟨by rfl, ?_⟩) ?_
  rotate_left
  · (intro w hSw; obtain ⟨y0, y1, y2⟩ := hSw; go_simp; try with_reducible rfl)
  try simp only [Act.put, List.getElem_toArray, List.getElem_cons_succ, List.getElem_cons_zero, List.setIfInBounds_toArray, List.set_cons_zero, List.set_cons_succ]
  refine wpHL_take (i := 4) (v := ?_) rfl (by kernel_rfl) (fun _ _ _ h => h) hHeld (Or.inl ⟨by rfl, ?_⟩) ?_
  rotate_left
  · (intro w hSw; obtain ⟨y0, y1, y2⟩ := hSw; go_simp; try with_reducible rfl)
  try simp only [Act.put, List.getElem_toArray, List.getElem_cons_succ, List.getElem_cons_zero, List.setIfInBounds_toArray, List.set_cons_zero, List.set_cons_succ]
  refine wpHL_take (i := 5) (v := ?_) rfl (by kernel_rfl) (fun _ _ _ h => h) hHeld (Or.inl ⟨by rfl, ?_⟩) ?_
  rotate_left
  · (intro w hSw; obtain ⟨y0, y1, y2⟩ := hSw; go_simp; try with_reducible rfl)
  try simp only [Act.put, List.getElem_toArray, List.getElem_cons_succ, List.getElem_cons_zero, List.setIfInBounds_toArray, List.set_cons_zero, List.set_cons_succ]
  refine wpHL_take (i := 6) (v := ?_) rfl (by kernel_rfl) (fun _ _ _ h => h) hHeld (Or.inl ⟨by rfl, ?_⟩) ?_
  rotate_left
  · (intro w hSw; obtain ⟨y0, y1, y2⟩ := hSw; go_simp; try with_reducible rfl)
  try simp only [Act.put, List.getElem_toArray, List.getElem_cons_succ, List.getElem_cons_zero, List.setIfInBounds_toArray, List.set_cons_zero, List.set_cons_succ]
  refine wpHL_take (i := 7) (v := ?_) rfl (by kernel_rfl) (fun _ _ _ h => h) hHeld (Or.inl ⟨by rfl, ?_⟩) ?_
  rotate_left
  · (intro w hSw; obtain ⟨y0, y1, y2⟩ := hSw; go_simp; try with_reducible rfl)
  try simp only [Act.put, List.getElem_toArray, List.getElem_cons_succ, List.getElem_cons_zero, List.setIfInBounds_toArray, List.set_cons_zero, List.set_cons_succ]
  refine wpHL_take (i := 8) (v := ?_) rfl (by kernel_rfl) (fun _ _ _ h => h) hHeld (Or.inl ⟨by rfl, ?_⟩) ?_
  rotate_left
  · (intro w hSw; obtain ⟨y0, y1, y2⟩ := hSw; go_simp; try with_reducible rfl)
  try simp only [Act.put, List.getElem_toArray, List.getElem_cons_succ, List.getElem_cons_zero, List.setIfInBounds_toArray, List.set_cons_zero, List.set_cons_succ]
  refine wpHL_take (i := 9) (v := ?_) rfl (by kernel_rfl) (fun _ _ _ h => h) hHeld (Or.inl ⟨by rfl, ?_⟩) ?_
  rotate_left
  · (intro w hSw; obtain ⟨y0, y1, y2⟩ := hSw; go_simp; try with_reducible rfl)
  try simp only [Act.put, List.getElem_toArray, List.getElem_cons_succ, List.getElem_cons_zero, List.setIfInBounds_toArray, List.set_cons_zero, List.set_cons_succ]
  refine wpHL_take (i := 10) (v := ?_) rfl (by kernel_rfl) (fun _ _ _ h => h) hHeld (Or.inl ⟨by rfl, ?_⟩) ?_
  rotate_left
  · (intro w hSw; obtain ⟨y0, y1, y2⟩ := hSw; go_simp; try with_reducible rfl)
  try simp only [Act.put, List.getElem_toArray, List.getElem_cons_succ, List.getElem_cons_zero, List.setIfInBounds_toArray, List.set_cons_zero, List.set_cons_succ]
  refine wpHL_take (i := 11) (v := ?_) rfl (by kernel_rfl) (fun _ _ _ h => h) hHeld (Or.inl ⟨by rfl, ?_⟩) ?_
  rotate_left
  · (intro w hSw; obtain ⟨y0, y1, y2⟩ := hSw; go_simp; try with_reducible rfl)
  try simp only [Act.put, List.getElem_toArray, List.getElem_cons_succ, List.getElem_cons_zero, List.setIfInBounds_toArray, List.set_cons_zero, List.set_cons_succ]
  refine wpHL_take (i := 12) (v := ?_) rfl (by kernel_rfl) (fun _ _ _ h => h) hHeld (Or.inl ⟨by rfl, ?_⟩) ?_
  rotate_left
  · (intro w hSw; obtain ⟨y0, y1, y2⟩ := hSw; go_simp; try with_reducible rfl)
  try simp only [Act.put, List.getElem_toArray, List.getElem_cons_succ, List.getElem_cons_zero, List.setIfInBounds_toArray, List.set_cons_zero, List.set_cons_succ]
  refine wpHL_take (i := 13) (v := ?_) rfl (by kernel_rfl) (fun _ _ _ h => h) hHeld (Or.inl ⟨by rfl, ?_⟩) ?_
  rotate_left
  · (intro w hSw; obtain ⟨y0, y1, y2⟩ := hSw; go_simp; try with_reducible rfl)
  try simp only [Act.put, List.getElem_toArray, List.getElem_cons_succ, List.getElem_cons_zero, List.setIfInBounds_toArray, List.set_cons_zero, List.set_cons_succ]
  refine wpHL_take (i := 14) (v := ?_) rfl (by kernel_rfl) (fun _ _ _ h => h) hHeld (Or.inl ⟨by rfl, ?_⟩) ?_
  rotate_left
  · (intro w hSw; obtain ⟨y0, y1, y2⟩ := hSw; go_simp; try with_reducible rfl)
  try simp only [Act.put, List.getElem_toArray, List.getElem_cons_succ, List.getElem_cons_zero, List.setIfInBounds_toArray, List.set_cons_zero, List.set_cons_succ]
  refine wpHL_take (i := 15) (v := ?_) rfl (by kernel_rfl) (fun _ _ _ h => h) hHeld (Or.inl ⟨by rfl, ?_⟩) ?_
  rotate_left
  · (intro w hSw; obtain ⟨y0, y1, y2⟩ := hSw; go_simp; try with_reducible rfl)
  try simp only [Act.put, List.getElem_toArray, List.getElem_cons_succ, List.getElem_cons_zero, List.setIfInBounds_toArray, List.set_cons_zero, List.set_cons_succ]
  refine wpHL_take (i := 16) (v := ?_) rfl (by kernel_rfl) (fun _ _ _ h => h) hHeld (Or.inl ⟨by rfl, ?_⟩) ?_
  rotate_left
  · (intro w hSw; obtain ⟨y0, y1, y2⟩ := hSw; go_simp; try with_reducible rfl)
  try simp only [Act.put, List.getElem_toArray, List.getElem_cons_succ, List.getElem_cons_zero, List.setIfInBounds_toArray, List.set_cons_zero, List.set_cons_succ]
  refine wpHL_step (i := 17) rfl (by kernel_rfl) (by decide) (fun K hK => ?_)
  have HKK := Lib.hid hK
  clear hK
  go_simp
  refine (HTK.out c1 w1.drew (HFB.out.quiet (Upd.drew _ _))).mono ?_
  rintro e w2 ⟨va, c2, sv2, rfl, hx2, hf2, hrow2, hnb2⟩
  have hx2' : Ext (FBS Fs.length) c1 w1 c2 w2 := ⟨hx2.same, (Upd.drew (fun q => FBS Fs.length (c1 q)) w1).trans hx2.upd (fun q hq _ => hq)⟩
  have hq2 := hx2'.blk HFN.out.box (by rw [HFN.out.cb]; simp only [FBS, List.length_cons]; omega)
  have hmb2 := hx2'.blk HM1.out.box (by rw [HM1.out.cb]; simp only [FBS]; have := HDP.out; rw [HX.out, List.length_cons] at this; omega)
  have hg2 := hx2'.blk HCU.out (by rw [HFN.out.cl g rfl]; simp only [FBS, List.length_cons]; omega)
  have hHeld2 : (fun w' : World => w'.cell? ⟨mb, 2, none⟩ = some (.pointer (some ⟨fn, 0, none⟩)) ∧ w'.cell? ⟨fn, 8, none⟩ = some (.slice (some ⟨g, 0, none⟩) n cap) ∧ w'.cell? ⟨fn, 4, none⟩ = some (.slice pa np pc)) w2 := by
    obtain ⟨-, -, -, -, q4, -, -, -, q8, -, -⟩ := ten hq2
    obtain ⟨-, -, b2, -⟩ := six6 hmb2
    exact ⟨b2, by rw [hn, hcap]; exact q8, q4⟩
  have HX2 := Lib.hid hx2'
  have HF2 := Lib.hid hf2
  have HR2 := Lib.hid hrow2
  have HG2 := Lib.hid hg2
  have HNB2 := Lib.hid hnb2
  clear hx2 hx2' hf2 hrow2 hnb2 hq2 hmb2 hg2 hHeld
  go_simp
  refine HKK.out _ _ hHeld2 ?_
  clear HKK
  try simp only [Act.put, List.getElem_toArray, List.getElem_cons_succ, List.getElem_cons_zero, List.setIfInBounds_toArray, List.set_cons_zero, List.set_cons_succ]
  refine wpHL_last (by kernel_rfl) ?_
  clear hHeld2
  have hAl : A.length = np := by rw [HA.out, ← HNP.out]
  refine wpList_copy_own rfl (.tmp 25) (.tmp 36) 32 32 rfl 21 Tryz.underlying32 (by kernel_rfl) g 0 (np + nl) (np + nl) va np np rfl rfl cur 21 HG2.out (i32v A) (by simp [i32v, hAl]) (fun q v hv => ?_) (by simp [i32v, hAl]; have := HCS.out; omega) (fun v hv => by simp [i32v] at hv; obtain ⟨y, -, rfl⟩ := hv; rfl) ?_
  · rcases HR2.out.2 with ⟨h1, -⟩ | ⟨g', cap', cur', h1, -, -, -⟩
    · simp at h1
    · simp at h1
      obtain ⟨rfl, -⟩ := h1
      have h2 := rowCell HR2.out hv
      have hadd : (⟨g', 0, none⟩ : Addr).add q = ⟨g', q, none⟩ := by unfold Addr.add; split <;> simp_all
      rw [hadd]
      exact h2
  · rw [show (i32v A).length = A.length by simp [i32v]]
    obtain ⟨w3, hw3⟩ : ∃ w3, w3 = w2.setRow g (cur.toList.take 0 ++ (i32v A ++ cur.toList.drop (0 + A.length))).toArray := ⟨_, rfl⟩
    have hdl := HDP.out
    rw [HX.out, List.length_cons] at hdl
    have hfn2 := HFN.out.ext HX2.out (by simp only [FBS]; omega) (fun i hi => by simp only [FT3, List.length_cons] at hi; simp only [FBS]; omega)
    have hm2 : Mc c2 w2 mb rb mp tb (.pointer (some ⟨fn, 0, none⟩)) (X.withFs (newF I j :: F.withStk L :: Fs)) M Ps I := by
      have h1 := HM1.out
      have hx := HX2.out
      have n8 : ¬ FBS Fs.length 8 := by simp only [FBS]; omega
      exact ⟨hx.blk h1.box (by rw [h1.cb]; simp only [FBS]; omega), ⟨fn, _, _, _, _, _, _, rfl, hfn2, fb0, cv, p', l', k', lv', sv2, rfl, HF2.out, FrL.ext hx n8 HRE.out (fun i h1 h2 => by simp only [FBS]; omega)⟩, hx.trc h1.trc (by simp only [FBS]; omega), hx.col (Array.getElem?_eq_some_iff.1 h1.box).1 h1.cb, h1.map.ext hx n8 (by simp only [FBS]; omega), h1.rm.ext hx (fun i hi => by simp only [RmC] at hi; simp only [FBS]; omega) n8, h1.one, by simp only [McM.withFs, List.length_cons]; omega⟩
    have hcl := hfn2.copyLoc HLL.out HG2.out (A := A) (by omega) (fun x hx => HAR.out x hx)
    have HU23 : Hid (Upd (fun q => q = g) w2 w3) := Lib.hid (by rw [hw3]; exact ⟨rfl, rfl, rfl, by simp, fun q hq hne => setRow_other w2 g q _ hne⟩)
    rw [← hw3] at hcl ⊢
    have hcf : (newF I j).withLoc (A ++ (newF I j).loc.drop A.length) = callF I j A := by
      unfold newF callF FrM.withLoc
      simp only [HM.out, ← HNP.out, ← HNL.out, hAl]
      simp
    rw [hcf] at hcl
    have hm3 := hm2.turnTop rfl ⟨fb0, cv, p', l', k', lv', sv2, rfl, HF2.out, FrL.ext HX2.out (by simp only [FBS]; omega) HRE.out (fun i h1 h2 => by simp only [FBS]; omega)⟩ hcl.1 hcl.2 (fun i hi => by simp only [FL1, List.length_cons] at hi; simp only [FT3, List.length_cons]; omega)
    have hgl : c2 g = 21 + 3 * (Fs.length + 1) := hfn2.cl g rfl
    have hgw : w.heap.size ≤ g := HGW.out
    have HFIN := Lib.hid hm3
    have HCL := Lib.hid hcl.1
    clear hw3 hfn2 hm2 hcl hcf hm3 hgl hAl
    go_wp2_with fail
    go_ret
    refine ⟨rfl, c2, _, ⟨fun q hq => ?_, ?_⟩, HFIN.out⟩
    · rw [HX2.out.same q (Nat.lt_of_lt_of_le hq HX1.out.upd.size), HX1.out.same q hq]
    · have k1 : Upd (fun q => TCall Fs.length (c q)) w w1 := HX1.out.upd.mono (fun q hq _ => by
        rcases hq with h | h
        · exact .inl h
        · exact .inr (.inl h))
      have k2 := k1.trans HX2.out.upd (fun q hq hl => by rw [HX1.out.same q hl] at hq; exact .inr (.inr hq))
      exact k2.trans HU23.out (fun q hq hl => by have := HGW.out; omega)
end
end Go.Proofs.YtdmadfahgkikkaaGreat

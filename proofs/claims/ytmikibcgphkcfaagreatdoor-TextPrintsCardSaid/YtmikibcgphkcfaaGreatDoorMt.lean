/- The hand's Code: a method's code of raw statements. -/
import Derived.Test.YtmikibcgphkcfaaGreatDoorMs
import Derived.Test.YtmikibcgphkcfaaGreatDoorMo
import Derived.Deep.RegionLaw
import Derived.Deep.RegionHeld3
import Derived.Deep.Cut
import Derived.Deep.CutRange
import Derived.Deep.DeepCutAuto
namespace Go.Proofs.YtmikibcgphkcfaaGreatDoor
open Go.RowKit Go.Lib
set_option linter.unusedVariables false
set_option linter.unusedSimpArgs false

theorem own_empty (w : World) (e : TypeId) (sz c : Nat) : (w.alloc (.cells #[] e)).ownsRow 0 e sz (.slice (some ⟨w.heap.size, 0, none⟩) 0 0) 0 [] := by
  refine ⟨by simp, .inr ⟨w.heap.size, 0, #[], rfl, Nat.zero_le _, ?_, Nat.le_refl _, by unfold maxLen; omega, by simp, by simp⟩⟩
  show (w.heap.push _)[w.heap.size]? = _
  simp

theorem lastX {t : TypeId} {w1 w7 w9 : World} {S7 : Nat → Prop} {b : Nat} {d : Int} {c X : Nat} {cv nv kv : Value} {C : List InsM} {Ns Ks : List Int} {at' : Int} (h : MkAt t ⟨w7, S7⟩ w9 b d c cv nv kv C Ns Ks at') (hu : Upd (fun _ => False) w1 w7) (hS : ∀ j, S7 j → w1.heap.size ≤ j) (hX : w1.heap.size = X + 1) (v : Value) {o : Obj} :
    Upd (fun k => X < k) w1 ((w9.alloc o).setCell ⟨b, 0, none⟩ v) := by
  have hb : X < b := by
    rcases h.new with h1 | h1
    · have := hS b h1; omega
    · have := hu.size; simp at h1; omega
  have h1 : Upd (fun _ => False) w1 w9 := upd_of_new (W := ⟨w1, fun _ => False⟩) hu h.below (fun j hj => .inr (hS j hj))
  exact ((h1.mono (fun _ h _ => h.elim)).trans (Upd.alloc (fun _ => False) w9 o) (fun _ h _ => h.elim)).trans (box_upd _ b 0 v) (fun k hk _ => by rw [hk]; exact hb)
theorem codeUpd {w w9 : World} (h : Upd (fun _ => False) w w9) {b : Nat} (hb : w.heap.size ≤ b) (o : Obj) (v : Value) : Upd (fun _ => False) w ((w9.alloc o).setCell ⟨b, 0, none⟩ v) :=
  upd_of_new (W := ⟨w, fun _ => False⟩) (upd_of_new (W := ⟨w, fun _ => False⟩) h (Upd.alloc (fun _ => False) w9 o) (fun _ h => h.elim)) (box_upd _ b 0 v) (fun k hk => .inr (by rw [hk]; exact hb))
theorem lit_inss (w : World) (L : List InsM) (cs : Array Value) (hcs : cs.toList = L.flatMap icl) (hw : ∀ x ∈ L, wi64 x.op ∧ wi64 x.a ∧ wi64 x.b) (hl : L.length ≤ maxLen) (b : Nat) (v : Value) (hb : b < w.heap.size) (n : Nat) (hn : w.heap.size = n) :
    Inss ((w.alloc (.cells cs 41)).setCell ⟨b, 0, none⟩ v) (.slice (some ⟨n, 0, none⟩) L.length L.length) L := by
  subst hn
  have hsz : cs.size = L.length * 3 := by
    have := congrArg List.length hcs
    have h3 : (L.flatMap icl).length = L.length * 3 := by
      clear this hcs hl hw
      induction L with
      | nil => rfl
      | cons x L ih => rw [List.flatMap_cons, List.length_append, ih]; simp [icl]; omega
    rw [h3] at this
    simpa using this
  have h := Sl.lit w 41 (0, 0) cs 3 L.length L.length (by omega) (Nat.le_refl _) hl
  refine ⟨(h.congr (f' := insF L) (fun i hi j hj => ?_)).upd (box_upd _ b 0 v) (fun k hk e => by simp [Value.ownBlock] at hk; omega), hw⟩
  have e : cs.getD (i * 3 + j) (.int .i64 0) = (L.flatMap icl).getD (i * 3 + j) (.int .i64 0) := by
    rw [← hcs]
    have hlt : i * 3 + j < cs.size := by omega
    simp [Array.getD, List.getD, hlt]
  rw [e, flat_get icl 3 _ (fun _ => rfl) L i j hi hj]
  unfold insF icl
  match j, hj with
  | 0, _ => rfl
  | 1, _ => rfl
  | 2, _ => rfl
set_option maxRecDepth 100000 in
set_option maxHeartbeats 40000000 in
theorem hCode (w : World) (lv mv iv' pv qv cv : Value) (res : Int) (L : List RawR) (hl : RawsAt w lv L) (hL : L.length ≤ 4398046511104)
    {P Q : List Int} (hp : Src w 1 pv P.length (iv P)) (hq : Src w 1 qv Q.length (iv Q)) (hP : P.length ≤ 10 ∧ ∀ n ∈ P, wi64 n) (hQ : Q.length ≤ 10 ∧ ∀ n ∈ Q, wi64 n) (hr : wi64 res)
    {Is : List ImpM} (hiv : Imps w iv' Is) (his : Is.length ≤ 1000) (hip : ∀ i ∈ Is, i.params.length ≤ 3) {Ms : List MetM} (hmv : Mets w mv Ms) (hms : 0 < Ms.length ∧ Ms.length ≤ 1000) (hmp : ∀ m ∈ Ms, m.params.length ≤ 3)
    (hB : Bins ⟨w, fun _ => False⟩) :
    Calls Tryz.prog 13 #[lv, met4 pv res qv cv, mv, iv'] w fun e w' => ∃ v C, e = .returned v ∧ Inss w' v C ∧ (∀ k, v.ownBlock = some k → w.heap.size ≤ k) ∧ (0 < C.length ∧ C.length ≤ 100000000) ∧ Upd (fun _ => False) w w' := by
  obtain ⟨i0, hi, hz0, hz1, hz2⟩ := info_parts infoInt
  obtain ⟨la, lc, rfl⟩ := hl.slice
  obtain ⟨ma, mc, rfl, -, -⟩ := hmv.slice
  obtain ⟨ia, ic, rfl, -, -⟩ := hiv.slice
  obtain ⟨w1, hw1⟩ : ∃ w1, w1 = w.alloc (.cells #[pv, .int .i64 res, qv, cv] 39) := ⟨_, rfl⟩
  have hua : Upd (fun _ => False) w w1 := hw1 ▸ Upd.alloc _ w _
  have hsz : w1.heap.size = w.heap.size + 1 := by rw [hw1]; simp
  have hx : ∀ w', Upd (fun k => w.heap.size < k) w1 w' → w'.cell? ⟨w.heap.size, 0, none⟩ = some pv ∧ w'.cell? ⟨w.heap.size, 1, none⟩ = some (.int .i64 res) ∧ w'.cell? ⟨w.heap.size, 2, none⟩ = some qv := fun w' hu => by
    have e : ∀ j, w'.cell? ⟨w.heap.size, j, none⟩ = w1.cell? ⟨w.heap.size, j, none⟩ := fun j => hu.cell (p := ⟨w.heap.size, j, none⟩) (by simp; omega) (by simp)
    rw [e 0, e 1, e 2, hw1]
    simp
  have HL := Lib.hid hl
  have HP := Lib.hid hp
  have HQ := Lib.hid hq
  have HPL := Lib.hid hP
  have HQL := Lib.hid hQ
  have HR := Lib.hid hr
  have HIV := Lib.hid hiv
  have HIP := Lib.hid hip
  have HMV := Lib.hid hmv
  have HMP := Lib.hid hmp
  have HB := Lib.hid hB
  have HX := Lib.hid hx
  have HU := Lib.hid hua
  have hP1 := hP.1
  have hQ1 := hQ.1
  have HW := Lib.hid hw1
  have HSZ := Lib.hid hsz
  clear hl hp hq hP hQ hr hiv hip hmv hmp hB hx hua hsz
  go_enter Tryz.func13, Tryz.ntmps13
  go_wp2_with fail
  generalize hX : w.heap.size = X at *
  have HXE := Lib.hid hX
  rw [← HW.out] at *
  clear hw1 hX
  go_cut [9] (fun x wr => ∃ b ka kc nk, x = .pointer (some ⟨b, 0, none⟩) ∧ Hid (nk = P.length + Q.length) ∧ Hid (MkAt 62 ⟨w1, fun _ => False⟩ wr b 0 0 (.slice none 0 0) (.slice none 0 0) (.slice ka nk kc) [] [] (P ++ Q) 0))
  case first =>
    have HSX : Hid (∀ w', Upd (fun k => X < k) w1 w' → w'.cell? ⟨X, 0, none⟩ = some pv ∧ w'.cell? ⟨X, 2, none⟩ = some qv) := Lib.hid (fun w' hu => ⟨(HX.out w' hu).1, (HX.out w' hu).2.2⟩)
    have hE := own_empty w1.drew 3 1 0
    have HE1 : Hid ((w1.drew.alloc (.cells #[] 3)).ownsRow 0 3 1 (.slice (some ⟨w1.heap.size, 0, none⟩) 0 0) 0 []) := Lib.hid hE
    have HP2 : Hid (Src (w1.drew.alloc (.cells #[] 3)) 1 pv P.length (iv P)) := Lib.hid (((HP.out.upd HU.out (fun _ _ h => h)).upd (Upd.drew (fun _ => False) w1) (fun _ _ h => h)).upd (Upd.alloc (fun _ => False) _ _) (fun _ _ h => h))
    clear hE
    go_region_held3 (fun w' => w'.cell? ⟨X, 0, none⟩ = some pv ∧ w'.cell? ⟨X, 2, none⟩ = some qv) (first
      | exact HSX.out _ (Upd.drew _ _)
      | exact HSX.out _ ((Upd.drew _ _).trans (Upd.alloc _ _ _) (fun _ h _ => h))
      | exact HSX.out _ HM3.out
      | exact HSX.out _ HM4.out
      | exact HSX.out _ (HM4.out.trans (Upd.alloc _ _ _) (fun _ h _ => h))) (first
      | (refine step_append_mine rfl (.tmp 15) (.tmp 17) 23 rfl 0 3 i0 (.int .i64 0) 1 8 Tryz.underlying23 hi hz0 hz1 hz2 rfl (by decide) (.slice (some ⟨w1.heap.size, 0, none⟩) 0 0) 0 [] rfl HE1.out P.length (iv P) HP2.out (by unfold maxLen; omega) (by omega) (Nat.zero_le _) ?_; intro v3 w3 ho hg hf; have hu3 : Upd (fun _ => False) w1 w3 := (((Upd.drew (fun _ => False) w1).trans (Upd.alloc (fun _ => False) _ (.cells #[] 3)) (fun _ h _ => h)).trans (Upd.grown (S := fun k => w1.heap.size ≤ k) hg (fun k hk => .inl (by simp [Value.ownBlock] at hk; omega))) (fun k hk hl => by omega)); have hf3 : ∀ k, v3.ownBlock = some k → w1.heap.size ≤ k := (fun k hk => by rcases hf k hk with h | h; (simp [Value.ownBlock] at h; omega); (simp at h; omega)); have HM3 : Hid (Upd (fun k => X < k) w1 w3) := Lib.hid (hu3.mono (fun k h _ => h.elim)); have HO3 := Lib.hid ho; have HF3 := Lib.hid hf3; have HQ3 := Lib.hid ((HQ.out.upd HU.out (fun _ _ h => h)).upd hu3 (fun _ _ h => h)); have HU3 := Lib.hid hu3; clear ho hg hf hu3 hf3)
      | (refine step_append_mine rfl (.tmp 18) (.tmp 20) 23 rfl 0 3 i0 (.int .i64 0) 1 8 Tryz.underlying23 hi hz0 hz1 hz2 rfl (by decide) v3 (0 + P.length) ([] ++ iv P) rfl HO3.out Q.length (iv Q) HQ3.out (by unfold maxLen; omega) (by omega) (Nat.zero_le _) ?_; intro v4 w4 ho hg hf; have hu4 : Upd (fun _ => False) w1 w4 := (HU3.out.trans (Upd.grown (S := fun k => w1.heap.size ≤ k) hg (fun k hk => .inl (HF3.out k hk))) (fun k hk hl => by omega)); have hf4 : ∀ k, v4.ownBlock = some k → w1.heap.size ≤ k := (fun k hk => by rcases hf k hk with h | h; exact HF3.out k h; exact Nat.le_trans HU3.out.size h); obtain ⟨ka, kc, rfl⟩ := ownsRow_slice ho; have HM4 : Hid (Upd (fun k => X < k) w1 w4) := Lib.hid (hu4.mono (fun k h _ => h.elim)); have HO4 := Lib.hid ho; have HF4 := Lib.hid hf4; have HU4 := Lib.hid hu4; clear ho hg hf hu4 hf4))
    all_goals
      go_wp2_with fail
      go_meet
      refine ⟨_, ka, kc, _, rfl, Lib.hid (by omega), cells5_new, ⟨World.ownsRow_nil _ _ _ _, by simp⟩, ⟨World.ownsRow_nil _ _ _ _, by simp⟩, ⟨by have := HO4.out.alloc (.cells #[.slice none 0 0, .slice none 0 0, .int .i64 0, .slice ka (0 + P.length + Q.length) kc, .int .i64 0] 62); simpa [iv] using this, fun n hn => ?_⟩, .inr HU4.out.size, by simp [Off, Value.ownBlock], by simp [Off, Value.ownBlock], fun k hk => .inr (HF4.out k (by simpa [Value.ownBlock] using hk)), HU4.out.trans (Upd.alloc _ _ _) (fun _ h _ => h), by omega, by simp, by simp, by simp, by simp; omega, by decide, by decide⟩
      rcases List.mem_append.1 hn with h | h
      · exact HPL.out.2 n h
      · exact HQL.out.2 n h
  case rest =>
    obtain ⟨b, ka, kc, nk, rfl, HNK, HM⟩ := hcut
    clear HP HQ
    have HA0 : Hid (∀ j, (Value.slice ka nk kc).ownBlock = some j → (Value.slice none 0 0).ownBlock ≠ some j) := Lib.hid (by simp [Value.ownBlock])
    have HN0 : Hid (([] : List Int).length = 0) := Lib.hid rfl
    go_wp2_with fail
    go_loopw [10] (fun i wr => ∃ (k n : Nat) (na : Option Addr) (nc : Nat) (Ns : List Int), k ≤ L.length ∧ n ≤ 3 * k ∧ i = .int .i64 k ∧ Hid (Ns.length = n) ∧ Hid (∀ j, (Value.slice ka nk kc).ownBlock = some j → (Value.slice na n nc).ownBlock ≠ some j) ∧ Hid (MkAt 62 ⟨w1, fun _ => False⟩ wr b 0 0 (.slice none 0 0) (.slice na n nc) (.slice ka nk kc) [] Ns (P ++ Q) 0)) (fun i _ => L.length - (intOf i).toNat)
    case atStart => exact ⟨0, 0, none, 0, [], Nat.zero_le _, by omega, rfl, HN0, HA0, HM⟩
    case round =>
      obtain ⟨k, n, na, nc, Ns, hk, hn, rfl, HNL, HAP, HMA⟩ := hrel
      have HBL : Hid (Below w.heap.size w wr) := Lib.hid ((HU.out.trans HMA.out.below (fun _ h _ => h)).below (Nat.le_refl _) (fun _ h => h.elim))
      by_cases hlt : k < L.length
      ·
        obtain ⟨g, off, rfl, -, hc1, hc2, hg, r0, r1, r2, r3, f0, f1, f2, f3⟩ := raws_at HL.out HBL.out hlt
        have HF := Lib.hid (And.intro f1 (And.intro f2 f3))
        generalize L.getD k default = s at *
        have c1 := HMA.out.box.c1
        have HMD := Lib.hid (HMA.out.mono (Upd.drew (fun _ => False) wr) (fun _ h => h.elim))
        have hrow := HMD.out.ns.row
        rw [HNL.out] at hrow
        have HROW := Lib.hid hrow
        have HSRC := Lib.hid (srcAt wr.drew 3 #[.int .i64 s.a, .int .i64 s.b, .int .i64 s.c] (iv [s.a, s.b, s.c]) rfl 1 (by simp [iv, Value.oneCell']) 3 3 wr.heap.size rfl rfl)
        have c1a := (HMA.out.mono (Upd.alloc (fun _ => False) wr (.cells #[.int .i64 s.a, .int .i64 s.b, .int .i64 s.c] 3)) (fun _ h => h.elim)).box.c1
        clear hrow f0 f1 f2 f3
        go_wp2_with fail
        have hgr : g < wr.heap.size := World.block_lt_of_cell? _ _ r1
        have hgX : g < X := by have := HXE.out; omega
        have HNO : Hid (∀ j, (Value.slice na n nc).ownBlock = some j → X < j) := Lib.hid (fun j hj => by have := (HMA.out.fn j hj).resolve_left (fun h => h); have h1 := HSZ.out; simp at this; omega)
        have HSS : Hid (∀ u, Upd (fun j => X < j) wr u → u.cell? ⟨b, 1, none⟩ = some (.slice na n nc) → (fun w' => w'.cell? ⟨b, 1, none⟩ = some (.slice na n nc) ∧ w'.cell? ⟨g, off + k * 4 + 1, none⟩ = some (.int .i64 s.a) ∧ w'.cell? ⟨g, off + k * 4 + 2, none⟩ = some (.int .i64 s.b) ∧ w'.cell? ⟨g, off + k * 4 + 3, none⟩ = some (.int .i64 s.c)) u) := Lib.hid (fun u hu hc => ⟨hc, (hu.cell (p := ⟨g, off + k * 4 + 1, none⟩) hgr (by simp; omega)).trans r1, (hu.cell (p := ⟨g, off + k * 4 + 2, none⟩) hgr (by simp; omega)).trans r2, (hu.cell (p := ⟨g, off + k * 4 + 3, none⟩) hgr (by simp; omega)).trans r3⟩)
        clear hgr hg c1 c1a
        refine wp_region_last (S := fun w' => w'.cell? ⟨b, 1, none⟩ = some (.slice na n nc) ∧ w'.cell? ⟨g, off + k * 4 + 1, none⟩ = some (.int .i64 s.a) ∧ w'.cell? ⟨g, off + k * 4 + 2, none⟩ = some (.int .i64 s.b) ∧ w'.cell? ⟨g, off + k * 4 + 3, none⟩ = some (.int .i64 s.c)) 24 _ (by kernel_rfl) (by kernel_rfl) rfl ?_
        change wpHL _ _ _ _ _ _ _ _ _ _ wr.drew
        have hHeld := HSS.out _ (Upd.drew _ _) HMD.out.box.c1
        refine wpHL_take (i := 0) (v := ?_) rfl (by kernel_rfl) (fun _ _ _ h => h) hHeld (Or.inl ⟨by rfl, ?_⟩) ?_
        rotate_left
        · (intro w hSw; (try dsimp only at hSw); go_simp; try with_reducible rfl)
        simp only [Act.put, List.setIfInBounds_toArray, List.set_cons_zero, List.set_cons_succ]
        refine wpHL_take (i := 1) (v := ?_) rfl (by kernel_rfl) (fun _ _ _ h => h) hHeld (Or.inl ⟨by rfl, ?_⟩) ?_
        rotate_left
        · (intro w hSw; (try dsimp only at hSw); go_simp; try with_reducible rfl)
        simp only [Act.put, List.setIfInBounds_toArray, List.set_cons_zero, List.set_cons_succ]
        refine wpHL_take (i := 2) (v := ?_) rfl (by kernel_rfl) (fun _ _ _ h => h) hHeld (Or.inl ⟨by rfl, ?_⟩) ?_
        rotate_left
        · (intro w hSw; (try dsimp only at hSw); go_simp; try with_reducible rfl)
        simp only [Act.put, List.setIfInBounds_toArray, List.set_cons_zero, List.set_cons_succ]
        refine wpHL_take (i := 3) (v := ?_) rfl (by kernel_rfl) (fun _ _ _ h => h) hHeld (Or.inl ⟨by rfl, ?_⟩) ?_
        rotate_left
        · (intro w hSw; (try dsimp only at hSw); go_simp; try with_reducible rfl)
        simp only [Act.put, List.setIfInBounds_toArray, List.set_cons_zero, List.set_cons_succ]
        refine wpHL_take (i := 4) (v := ?_) rfl (by kernel_rfl) (fun _ _ _ h => h) hHeld (Or.inl ⟨by rfl, ?_⟩) ?_
        rotate_left
        · (intro w hSw; (try dsimp only at hSw); go_simp; try with_reducible rfl)
        simp only [Act.put, List.setIfInBounds_toArray, List.set_cons_zero, List.set_cons_succ]
        refine wpHL_take (i := 5) (v := ?_) rfl (by kernel_rfl) (fun _ _ _ h => h) hHeld (Or.inl ⟨by rfl, ?_⟩) ?_
        rotate_left
        · (intro w hSw; (try dsimp only at hSw); go_simp; try with_reducible rfl)
        simp only [Act.put, List.setIfInBounds_toArray, List.set_cons_zero, List.set_cons_succ]
        refine wpHL_take (i := 6) (v := ?_) rfl (by kernel_rfl) (fun _ _ _ h => h) hHeld (Or.inl ⟨by rfl, ?_⟩) ?_
        rotate_left
        · (intro w hSw; (try dsimp only at hSw); go_simp; try with_reducible rfl)
        simp only [Act.put, List.setIfInBounds_toArray, List.set_cons_zero, List.set_cons_succ]
        refine wpHL_take (i := 7) (v := ?_) rfl (by kernel_rfl) (fun _ _ _ h => h) hHeld (Or.inl ⟨by rfl, ?_⟩) ?_
        rotate_left
        · (intro w hSw; (try dsimp only at hSw); go_simp; try with_reducible rfl)
        simp only [Act.put, List.setIfInBounds_toArray, List.set_cons_zero, List.set_cons_succ]
        refine wpHL_take (i := 8) (v := ?_) rfl (by kernel_rfl) (fun _ _ _ h => h) hHeld (Or.inl ⟨by rfl, ?_⟩) ?_
        rotate_left
        · (intro w hSw; (try dsimp only at hSw); go_simp; try with_reducible rfl)
        simp only [Act.put, List.setIfInBounds_toArray, List.set_cons_zero, List.set_cons_succ]
        refine wpHL_take (i := 9) (v := ?_) rfl (by kernel_rfl) (fun _ _ _ h => h) hHeld (Or.inl ⟨by rfl, ?_⟩) ?_
        rotate_left
        · (intro w hSw; (try dsimp only at hSw); go_simp; try with_reducible rfl)
        simp only [Act.put, List.setIfInBounds_toArray, List.set_cons_zero, List.set_cons_succ]
        refine wpHL_take (i := 10) (v := ?_) rfl (by kernel_rfl) (fun _ _ _ h => h) hHeld (Or.inl ⟨by rfl, ?_⟩) ?_
        rotate_left
        · (intro w hSw; (try dsimp only at hSw); go_simp; try with_reducible rfl)
        simp only [Act.put, List.setIfInBounds_toArray, List.set_cons_zero, List.set_cons_succ]
        refine wpHL_take (i := 11) (v := ?_) rfl (by kernel_rfl) (fun _ _ _ h => h) hHeld (Or.inl ⟨by rfl, ?_⟩) ?_
        rotate_left
        · (intro w hSw; (try dsimp only at hSw); go_simp; try with_reducible rfl)
        simp only [Act.put, List.setIfInBounds_toArray, List.set_cons_zero, List.set_cons_succ]
        refine wpHL_take (i := 12) (v := ?_) rfl (by kernel_rfl) (fun _ _ _ h => h) hHeld (Or.inl ⟨by rfl, ?_⟩) ?_
        rotate_left
        · (intro w hSw; (try dsimp only at hSw); go_simp; try with_reducible rfl)
        simp only [Act.put, List.setIfInBounds_toArray, List.set_cons_zero, List.set_cons_succ]
        refine wpHL_take (i := 13) (v := ?_) rfl (by kernel_rfl) (fun _ _ _ h => h) hHeld (Or.inl ⟨by rfl, ?_⟩) ?_
        rotate_left
        · (intro w hSw; (try dsimp only at hSw); go_simp; try with_reducible rfl)
        simp only [Act.put, List.setIfInBounds_toArray, List.set_cons_zero, List.set_cons_succ]
        refine wpHL_take (i := 14) (v := ?_) rfl (by kernel_rfl) (fun _ _ _ h => h) hHeld (Or.inl ⟨by rfl, ?_⟩) ?_
        rotate_left
        · (intro w hSw; (try dsimp only at hSw); go_simp; try with_reducible rfl)
        simp only [Act.put, List.setIfInBounds_toArray, List.set_cons_zero, List.set_cons_succ]
        refine wpHL_take (i := 15) (v := ?_) rfl (by kernel_rfl) (fun _ _ _ h => h) hHeld (Or.inl ⟨by rfl, ?_⟩) ?_
        rotate_left
        · (intro w hSw; (try dsimp only at hSw); go_simp; try with_reducible rfl)
        simp only [Act.put, List.setIfInBounds_toArray, List.set_cons_zero, List.set_cons_succ]
        refine wpHL_take (i := 16) (v := ?_) rfl (by kernel_rfl) (fun _ _ _ h => h) hHeld (Or.inl ⟨by rfl, ?_⟩) ?_
        rotate_left
        · (intro w hSw; (try dsimp only at hSw); go_simp; try with_reducible rfl)
        simp only [Act.put, List.setIfInBounds_toArray, List.set_cons_zero, List.set_cons_succ]
        refine wpHL_take (i := 17) (v := ?_) rfl (by kernel_rfl) (fun _ _ _ h => h) hHeld (Or.inl ⟨by rfl, ?_⟩) ?_
        rotate_left
        · (intro w hSw; (try dsimp only at hSw); go_simp; try with_reducible rfl)
        simp only [Act.put, List.setIfInBounds_toArray, List.set_cons_zero, List.set_cons_succ]
        refine wpHL_take (i := 18) (v := ?_) rfl (by kernel_rfl) (fun _ _ _ h => h) hHeld (Or.inl ⟨by rfl, ?_⟩) ?_
        rotate_left
        · (intro w hSw; (try dsimp only at hSw); go_simp; try with_reducible rfl)
        simp only [Act.put, List.setIfInBounds_toArray, List.set_cons_zero, List.set_cons_succ]
        refine wpHL_take (i := 19) (v := ?_) rfl (by kernel_rfl) (fun _ _ _ h => h) hHeld (Or.inl ⟨by rfl, ?_⟩) ?_
        rotate_left
        · (intro w hSw; (try dsimp only at hSw); go_simp; try with_reducible rfl)
        simp only [Act.put, List.setIfInBounds_toArray, List.set_cons_zero, List.set_cons_succ]
        refine wpHL_step (i := 20) rfl (by kernel_rfl) (by decide) (fun K hK => ?_)
        have HK0 := Lib.hid hK
        clear hK hHeld
        go_simp
        have hHeld := HSS.out _ ((Upd.drew _ _).trans (Upd.alloc _ _ _) (fun _ h _ => h)) (HMD.out.mono (Upd.alloc (fun _ => False) wr.drew (.cells #[.int .i64 s.a, .int .i64 s.b, .int .i64 s.c] 3)) (fun _ h => h.elim)).box.c1
        refine HK0.out _ _ hHeld ?_
        try simp only [Act.put, List.setIfInBounds_toArray, List.set_cons_zero, List.set_cons_succ]
        clear HK0
        refine wpHL_step (i := 21) rfl (by kernel_rfl) (by decide) (fun K hK => ?_)
        have HK0 := Lib.hid hK
        clear hK hHeld
        refine step_append_mine rfl (.tmp 34) (.tmp 50) 23 rfl 0 3 i0 (.int .i64 0) 1 8 Tryz.underlying23 hi hz0 hz1 hz2 rfl (by decide) (.slice na n nc) n (iv Ns) rfl (HROW.out.alloc _) 3 (iv [s.a, s.b, s.c]) HSRC.out (by unfold maxLen; omega) (by omega) (Nat.zero_le _) ?_
        intro v7 w7 ho hg hf
        have hu7 := Upd.row (Upd.alloc _ wr.drew _) hg
        obtain ⟨va, vc, rfl⟩ := ownsRow_slice ho
        have hgrow := HMD.out.growN HAP.out hu7 (v' := .slice va (n + 3) vc) (Ns' := Ns ++ [s.a, s.b, s.c]) ⟨by simpa [iv, HNL.out] using ho, fun x hx => by
          rcases List.mem_append.1 hx with h | h
          · exact HMD.out.ns.wi x h
          · simp at h
            rcases h with rfl | rfl | rfl
            · exact wi_of HF.out.1
            · exact wi_of HF.out.2.1
            · exact wi_of HF.out.2.2⟩ (fun j hj => by
          rcases hf j hj with h | h
          · exact .inl h
          · exact .inr (Nat.le_of_succ_le (by simpa using h))) (by have := HNL.out; simp; omega)
        have HG := Lib.hid hgrow.2
        have b7 := hgrow.1.c1
        have f7 := hgrow.1.fr 1
        have hHeld := HSS.out _ ((Upd.drew (fun j => X < j) wr).trans hu7 (fun j hj _ => HNO.out j hj)) b7
        clear ho hg hf hu7 hgrow
        refine HK0.out _ _ hHeld ?_
        try simp only [Act.put, List.setIfInBounds_toArray, List.set_cons_zero, List.set_cons_succ]
        clear HK0
        refine wpHL_take (i := 22) (v := ?_) rfl (by kernel_rfl) (fun _ _ _ h => h) hHeld (Or.inl ⟨by rfl, ?_⟩) ?_
        rotate_left
        · (intro w hSw; (try dsimp only at hSw); go_simp; try with_reducible rfl)
        simp only [Act.put, List.setIfInBounds_toArray, List.set_cons_zero, List.set_cons_succ]
        refine wpHL_take (i := 23) (v := ?_) rfl (by kernel_rfl) (fun _ _ _ h => h) hHeld (Or.inl ⟨by rfl, ?_⟩) ?_
        rotate_left
        · (intro w hSw; (try dsimp only at hSw); go_simp; try with_reducible rfl)
        simp only [Act.put, List.setIfInBounds_toArray, List.set_cons_zero, List.set_cons_succ]
        refine wpHL_last (by kernel_rfl) ?_
        clear hHeld
        go_wp2_with fail
        go_roundw
        case rel => exact ⟨k + 1, n + 3, va, vc, _, by omega, by omega, by go_num, Lib.hid (by have := HNL.out; simp; omega), Lib.hid HG.out.2, Lib.hid HG.out.1⟩
        case measure => simp [intOf]; omega
      · obtain rfl : k = L.length := by omega
        go_wp2_with fail
        obtain ⟨S0, hS0, -, hM0⟩ := Mk.turn ⟨_, _, _, _, _, _, _, HMA.out⟩
        have HS0 : Hid (∀ j, S0 j → j < wr.heap.size ∧ w1.heap.size ≤ j) := Lib.hid (fun j hj => ⟨(hS0 j hj).1, (hS0 j hj).2.resolve_left (fun h => h)⟩)
        have HM0 : Hid (Mk 62 ⟨wr, S0⟩ wr b 0 (0 * 500001)) := Lib.hid hM0
        have HR0 : Hid (WRow wr (.slice none 0 0) []) := Lib.hid ⟨World.ownsRow_nil _ _ _ _, by simp⟩
        have HO0 : Hid (∀ j, (Value.slice none 0 0).ownBlock = some j → ¬ S0 j ∧ w1.heap.size ≤ j) := Lib.hid (by simp [Value.ownBlock])
        have HU0 : Hid (Upd (fun _ => False) w1 wr) := Lib.hid HMA.out.below
        have HN0 : Hid (([] : List Int).length = 0) := Lib.hid rfl
        clear hS0 hM0 HMA HAP HNL HBL HM HA0
        go_loopw [12, 11] (fun i sv wr => ∃ (k : Nat) (sa : Option Addr) (sc : Nat) (Ss : List Int) (S : Nat → Prop), k ≤ 12 ∧ i = .int .i64 k ∧ sv = .slice sa k sc ∧ Hid (Ss.length = k) ∧ Hid (∀ j, S j → j < wr.heap.size ∧ w1.heap.size ≤ j) ∧ Hid (Mk 62 ⟨wr, S⟩ wr b 0 (k * 500001)) ∧ Hid (WRow wr (.slice sa k sc) Ss) ∧ Hid (∀ j, (Value.slice sa k sc).ownBlock = some j → ¬ S j ∧ w1.heap.size ≤ j) ∧ Hid (Upd (fun _ => False) w1 wr)) (fun i _ _ => 12 - (intOf i).toNat)
        case atStart => exact ⟨0, none, 0, [], S0, by omega, rfl, rfl, HN0, HS0, HM0, HR0, HO0, HU0⟩
        case round =>
          obtain ⟨k, sa, sc, Ss, S, hk12, rfl, rfl, HSL, HS, HM, HSR, HSO, HUW⟩ := hrel
          clear HS0 HM0 HR0 HO0 HU0 HN0
          obtain ⟨ca, cn, cc, c0, hcn, hcodes⟩ := HM.out.codes
          clear hcodes
          go_upto_region 8 with fail
          go_cut [69] (fun t wx => ∃ q : Bool, t = .bool q ∧ (q = true → k < L.length ∧ k < 12) ∧ wr = wx)
          case first =>
            go_wp2_with fail
            all_goals go_meet
            all_goals exact ⟨_, rfl, by simp_all <;> omega, rfl⟩
          case rest =>
            obtain ⟨q, rfl, hq, rfl⟩ := hcut
            cases q with
            | true =>
              obtain ⟨hq1, hq2⟩ := hq rfl
              clear hq
              have hrow := HSR.out.row
              rw [HSL.out] at hrow
              have HROW := Lib.hid hrow
              have HSRC := Lib.hid (srcAt wr 3 #[.int .i64 cn] (iv [cn]) rfl 1 (by simp [iv, Value.oneCell']) 1 1 wr.heap.size rfl rfl)
              clear hrow
              go_wp2_with (at_builtin; go_loud (refine wpList_append_mine _ rfl _ _ 23 rfl 0 3 i0 (.int .i64 0) 1 8 Tryz.underlying23 hi hz0 hz1 hz2 rfl (by decide) (.slice sa k sc) k (iv Ss) rfl (HROW.out.alloc _) 1 (iv [cn]) HSRC.out (by unfold maxLen; omega) (by omega) (Nat.zero_le _) ?_))
              intro v7 w7 ho hg hf
              have hu7 := Upd.row (Upd.alloc _ wr _) hg
              obtain ⟨va, vc, rfl⟩ := ownsRow_slice ho
              obtain ⟨S7, hS7, hM7⟩ := HM.out.over hu7 (fun j hj => .inl (by
                rintro (h | h)
                · exact (HSO.out j hj).1 h
                · have := (HSR.out.row.lt j hj).2; simp at h; omega))
              have hS7' : ∀ j, S7 j → j < wr.heap.size ∧ w1.heap.size ≤ j := fun j hj => by
                rcases (hS7 j hj).2 with h | h
                · exact HS.out j h
                · exact absurd (hS7 j hj).1 (by simp at h; omega)
              have HUW7 := Lib.hid (HUW.out.trans hu7 (fun j hj hl => by have := (HSO.out j hj).2; omega))
              have HR7 : Hid (WRow w7 (.slice va (k + 1) vc) (Ss ++ [(cn : Int)])) := Lib.hid ⟨by simpa [iv, HSL.out] using ho, fun x hx => by
                rcases List.mem_append.1 hx with h | h
                · exact HSR.out.wi x h
                · simp at h; rw [h]; unfold wi64; omega⟩
              have HO7 : Hid (∀ j, (Value.slice va (k + 1) vc).ownBlock = some j → ¬ S7 j ∧ w1.heap.size ≤ j) := Lib.hid (fun j hj => by
                rcases hf j hj with h | h
                · refine ⟨fun h7 => ?_, (HSO.out j h).2⟩
                  rcases (hS7 j h7).2 with h8 | h8
                  · exact (HSO.out j h).1 h8
                  · exact absurd (hS7 j h7).1 (by simp at h8; omega)
                · refine ⟨fun h7 => ?_, ?_⟩
                  · have := (hS7' j h7).1; simp at h; omega
                  · have := HUW.out.size; simp at h; omega)
              have HS7 := Lib.hid hS7'
              have HBL7 := Lib.hid ((HU.out.trans HUW7.out (fun _ h _ => h)).below (Nat.le_refl _) (fun _ h => h.elim))
              have HK7 : Hid (∀ w', Upd S7 w7 w' → Upd (fun _ => False) w w') := Lib.hid (fun w' hu => upd_of_new (W := ⟨w, fun _ => False⟩) (HU.out.trans HUW7.out (fun _ h _ => h)) hu (fun j hj => .inr (show w.heap.size ≤ j by have := (hS7' j hj).2; have := HSZ.out; have := HXE.out; omega)))
              have HSV : Hid (∀ w', Upd S7 w7 w' → Ints w' (.slice va k vc) ((Ss ++ [(cn : Int)]).take k)) := Lib.hid (fun w' hu => (HR7.out.upd hu (fun j hj => (HO7.out j hj).1)).ints.take k (by have := HSL.out; simp; omega))
              have HSVL : Hid (((Ss ++ [(cn : Int)]).take k).length ≤ 1000) := Lib.hid (by simp; omega)
              have HIV7 : Hid (∀ w', Upd S7 w7 w' → Imps w' (.slice ia Is.length ic) Is) := Lib.hid (fun w' hu => HIV.out.later ((HK7.out w' hu).below (Nat.le_refl _) (fun _ h => h.elim)))
              have HMV7 : Hid (∀ w', Upd S7 w7 w' → Mets w' (.slice ma Ms.length mc) Ms) := Lib.hid (fun w' hu => HMV.out.later ((HK7.out w' hu).below (Nat.le_refl _) (fun _ h => h.elim)))
              have HB7 : Hid (Bins ⟨w7, S7⟩) := Lib.hid (by
                have hg : 0 < w.heap.size := World.block_lt_of_cell? w _ (HB.out.2 0 (by omega))
                exact ⟨fun h => by have := (hS7' _ h).2; have := HSZ.out; have := HXE.out; omega, fun k hk => ((HK7.out w7 (Upd.refl _ _)).cell (p := ⟨0, k, none⟩) hg (fun h => h)).trans (HB.out.2 k hk)⟩)
              have HM7 := Lib.hid hM7
              have HMD := Lib.hid (hM7.mono (Upd.drew (fun _ => False) w7))
              obtain ⟨g, off, rfl, -, hc1, hc2, hg', r0, r1, r2, r3, f0, f1, f2, f3⟩ := raws_at HL.out HBL7.out hq1
              have HF : Hid (wi64 (L.getD k default).o ∧ wi64 (L.getD k default).a ∧ wi64 (L.getD k default).b) := Lib.hid ⟨wi_of f0, wi_of f1, wi_of f2⟩
              generalize L.getD k default = s at *
              have hvc : k + 1 ≤ vc := by
                obtain ⟨a9, c9, he, h9, -⟩ := HR7.out.ints.slice
                simp at he
                have := HSL.out
                simp at h9
                omega
              clear ho hg hf hu7 hS7 hS7' hM7 f0 f1 f2 f3 c0 HROW HSRC
              go_wp2_with fail
              go_region_with ((first
                | (go_at_call 26; (with_reducible refine (mStmt _ _ _ _ _ _ _ _ _ _ _ _ HMD.out HB7.out (by omega) (by omega) (by omega) HSV.out HSVL.out HIV7.out his HIP.out HMV7.out hms HMP.out HF.out.1 HF.out.2.1 HF.out.2.2).mono ?_); rintro e w8 ⟨rfl, hm⟩; have HM8 := Lib.hid hm; clear hm)))
              all_goals
                obtain ⟨S8, hS8, -, hM8⟩ := HM8.out.turn
                have HKP := HM8.out.kept
                have HS8 : Hid (∀ j, S8 j → j < w8.heap.size ∧ w1.heap.size ≤ j) := Lib.hid (fun j hj => ⟨(hS8 j hj).1, by
                  rcases (hS8 j hj).2 with h | h
                  · exact (HS7.out j h).2
                  · exact Nat.le_trans HUW7.out.size h⟩)
                have HM9 : Hid (Mk 62 ⟨w8, S8⟩ w8 b 0 ((k + 1) * 500001)) := Lib.hid (hM8.more (by omega))
                have HR8 := Lib.hid (HR7.out.upd HKP (fun j hj => (HO7.out j hj).1))
                have HO8 : Hid (∀ j, (Value.slice va (k + 1) vc).ownBlock = some j → ¬ S8 j ∧ w1.heap.size ≤ j) := Lib.hid (fun j hj => ⟨fun h8 => by
                  rcases (hS8 j h8).2 with h | h
                  · exact (HO7.out j hj).1 h
                  · have := (HR7.out.row.lt j (by simpa using hj)).2; simp at h; omega, (HO7.out j hj).2⟩)
                have HU8 := Lib.hid (upd_of_new (W := ⟨w1, fun _ => False⟩) HUW7.out HKP (fun j hj => .inr (HS7.out j hj).2))
                have HL8 : Hid ((Ss ++ [(cn : Int)]).length = k + 1) := Lib.hid (by have := HSL.out; simp; omega)
                clear hS8 hM8 HKP
                go_wp2_with fail
                go_roundw
                case rel => exact ⟨k + 1, va, vc, _, S8, by omega, by go_num, rfl, HL8, HS8, HM9, HR8, HO8, HU8⟩
                case measure => simp [intOf]; omega
            | false =>
              clear hq
              have hrow := HSR.out.row
              rw [HSL.out] at hrow
              have HROW := Lib.hid hrow
              have HSRC := Lib.hid (srcAt wr 3 #[.int .i64 cn] (iv [cn]) rfl 1 (by simp [iv, Value.oneCell']) 1 1 wr.heap.size rfl rfl)
              clear hrow
              go_wp2_with (at_builtin; go_loud (refine wpList_append_mine _ rfl _ _ 23 rfl 0 3 i0 (.int .i64 0) 1 8 Tryz.underlying23 hi hz0 hz1 hz2 rfl (by decide) (.slice sa k sc) k (iv Ss) rfl (HROW.out.alloc _) 1 (iv [cn]) HSRC.out (by unfold maxLen; omega) (by omega) (Nat.zero_le _) ?_))
              intro v7 w7 ho hg hf
              have hu7 := Upd.row (Upd.alloc _ wr _) hg
              obtain ⟨va, vc, rfl⟩ := ownsRow_slice ho
              obtain ⟨S7, hS7, hM7⟩ := HM.out.over hu7 (fun j hj => .inl (by
                rintro (h | h)
                · exact (HSO.out j hj).1 h
                · have := (HSR.out.row.lt j hj).2; simp at h; omega))
              have hS7' : ∀ j, S7 j → j < wr.heap.size ∧ w1.heap.size ≤ j := fun j hj => by
                rcases (hS7 j hj).2 with h | h
                · exact HS.out j h
                · exact absurd (hS7 j hj).1 (by simp at h; omega)
              have HUW7 := Lib.hid (HUW.out.trans hu7 (fun j hj hl => by have := (HSO.out j hj).2; omega))
              have HR7 : Hid (WRow w7 (.slice va (k + 1) vc) (Ss ++ [(cn : Int)])) := Lib.hid ⟨by simpa [iv, HSL.out] using ho, fun x hx => by
                rcases List.mem_append.1 hx with h | h
                · exact HSR.out.wi x h
                · simp at h; rw [h]; unfold wi64; omega⟩
              have HO7 : Hid (∀ j, (Value.slice va (k + 1) vc).ownBlock = some j → ¬ S7 j ∧ w1.heap.size ≤ j) := Lib.hid (fun j hj => by
                rcases hf j hj with h | h
                · refine ⟨fun h7 => ?_, (HSO.out j h).2⟩
                  rcases (hS7 j h7).2 with h8 | h8
                  · exact (HSO.out j h).1 h8
                  · exact absurd (hS7 j h7).1 (by simp at h8; omega)
                · refine ⟨fun h7 => ?_, ?_⟩
                  · have := (hS7' j h7).1; simp at h; omega
                  · have := HUW.out.size; simp at h; omega)
              have HS7 := Lib.hid hS7'
              have HBL7 := Lib.hid ((HU.out.trans HUW7.out (fun _ h _ => h)).below (Nat.le_refl _) (fun _ h => h.elim))
              have HK7 : Hid (∀ w', Upd S7 w7 w' → Upd (fun _ => False) w w') := Lib.hid (fun w' hu => upd_of_new (W := ⟨w, fun _ => False⟩) (HU.out.trans HUW7.out (fun _ h _ => h)) hu (fun j hj => .inr (show w.heap.size ≤ j by have := (hS7' j hj).2; have := HSZ.out; have := HXE.out; omega)))
              have HB7 : Hid (Bins ⟨w7, S7⟩) := Lib.hid (by
                have hg : 0 < w.heap.size := World.block_lt_of_cell? w _ (HB.out.2 0 (by omega))
                exact ⟨fun h => by have := (hS7' _ h).2; have := HSZ.out; have := HXE.out; omega, fun k hk => ((HK7.out w7 (Upd.refl _ _)).cell (p := ⟨0, k, none⟩) hg (fun h => h)).trans (HB.out.2 k hk)⟩)
              have HM7 := Lib.hid hM7
              have hvc : k + 1 ≤ vc := by
                obtain ⟨a9, c9, he, h9, -⟩ := HR7.out.ints.slice
                simp at he
                have := HSL.out
                simp at h9
                omega
              have HI7 : Hid (∀ w', Upd S7 w7 w' → Ints w' (.slice va (k + 1) vc) (Ss ++ [(cn : Int)])) := Lib.hid (fun w' hu => (HR7.out.upd hu (fun j hj => (HO7.out j hj).1)).ints)
              have HXX : Hid (∀ w', Upd S7 w7 w' → w'.cell? ⟨X, 1, none⟩ = some (.int .i64 res)) := Lib.hid (fun w' hu => (HX.out w' ((upd_of_new (W := ⟨w1, fun _ => False⟩) HUW7.out hu (fun j hj => .inr (hS7' j hj).2)).mono (fun _ h _ => h.elim))).2.1)
              have HL7 : Hid ((Ss ++ [(cn : Int)]).length = k + 1) := Lib.hid (by have := HSL.out; simp; omega)
              clear ho hg hf hu7 hS7 hS7' hM7 c0 HROW HSRC HSL HS HM HSR HSO HUW
              generalize Ss ++ [(cn : Int)] = Z at *
              go_wp2_with fail
              go_loopw [13] (fun i wr => ∃ (pc : Nat), pc ≤ k * 500001 ∧ i = .int .i64 pc ∧ Hid (Mk 62 ⟨w7, S7⟩ wr b 0 (k * 500001))) (fun i _ => k * 500001 + 1 - (intOf i).toNat)
              case atStart => exact ⟨0, Nat.zero_le _, rfl, HM7⟩
              case round =>
                obtain ⟨pc, hpc, rfl, HMK⟩ := hrel
                obtain ⟨ca3, cn0, cc3, c0, hcn3, hcodes⟩ := HMK.out.codes
                have HC := Lib.hid hcodes
                clear hcodes
                by_cases hlt : pc < cn0
                · obtain ⟨g, o, u, rfl, d0, d1, df, hgl, wo, wu, hset⟩ := HC.out pc hlt
                  clear wo wu hset hgl
                  have HC0 := Lib.hid c0
                  go_wp2_with fail
                  · clear c0 d0 d1 df
                    go_loopw [14] (fun i wx => ∃ m : Nat, m ≤ k ∧ i = .int .i64 m ∧ wr = wx) (fun i _ => k + 1 - (intOf i).toNat)
                    case atStart => exact ⟨0, Nat.zero_le _, rfl, rfl⟩
                    case round =>
                      obtain ⟨m, hm, rfl, rfl⟩ := hrel
                      have hI := HI7.out _ HMK.out.kept
                      have HI := Lib.hid hI
                      clear hI
                      go_upto_region 18 with fail
                      go_cut [140] (fun t wx => ∃ q : Bool, t = .bool q ∧ (q = true → m < k) ∧ wr = wx)
                      case first =>
                        by_cases hmk : m < k
                        · obtain ⟨g2, off2, rfl, hcell, -⟩ := HI.out.at (k := m) (by have := HL7.out; omega)
                          generalize Z.getD m 0 = z at *
                          go_wp2_with fail
                          all_goals go_meet
                          all_goals exact ⟨_, rfl, fun _ => hmk, rfl⟩
                        · go_wp2_with fail
                          all_goals go_meet
                          all_goals exact ⟨_, rfl, by simp_all <;> omega, rfl⟩
                      case rest =>
                        obtain ⟨q, rfl, hq, rfl⟩ := hcut
                        cases q with
                        | true =>
                          have hq1 := hq rfl
                          clear hq
                          go_wp2_with fail
                          go_roundw
                          case rel => exact ⟨m + 1, by omega, by go_num, by trivial⟩
                          case measure => simp [intOf]; omega
                        | false =>
                          clear hq
                          obtain ⟨ca3, cn3, cc3, c0, hcn3, hcodes⟩ := HMK.out.codes
                          have c0' : wr.cell? ⟨b, 0, none⟩ = some (.slice ca3 cn3 cc3) := by simpa using c0
                          obtain ⟨hn3, hg3⟩ : cn3 = cn0 ∧ ca3 = some ⟨g, 0, none⟩ := by
                            have := HC0.out.symm.trans c0'
                            simp at this
                            exact ⟨this.2.1.symm, this.1.symm⟩
                          obtain ⟨g', o', u', he, d0, d1, df, -, -, -, hset⟩ := hcodes pc (by omega)
                          rw [hg3] at he c0'
                          simp at he
                          subst he
                          have d1' : wr.cell? ⟨g, pc * 3 + 1, none⟩ = some (.int .i64 u') := by simpa using d1
                          have df' : wr.frozen? ⟨g, pc * 3 + 1, none⟩ = false := by simpa using df
                          have HSET := Lib.hid hset
                          obtain ⟨jx, hjx⟩ : ∃ jx : Nat, jx = if m + 1 < k then m + 1 else k := ⟨_, rfl⟩
                          have hjk : jx ≤ k := by subst hjx; split <;> omega
                          obtain ⟨g2, off2, rfl, hcell, hwz⟩ := HI.out.at (k := jx) (by have := HL7.out; omega)
                          generalize Z.getD jx 0 = z at *
                          have HWZ := Lib.hid hwz
                          clear c0 hcodes d0 d1 df hset hwz
                          by_cases hmk : m + 1 < k
                          · obtain rfl : jx = m + 1 := by rw [hjx, if_pos hmk]
                            clear hjx
                            have hm1 : ((m : Int) + 1) < k := by omega
                            go_wp2_with fail
                            go_region
                            all_goals
                              go_wp2_with fail
                              go_roundw
                              case rel => exact ⟨pc + 1, by omega, by go_num, Lib.hid ((HSET.out _ HWZ.out).mono (Upd.drew (fun _ => False) _))⟩
                              case measure => simp [intOf]; omega
                          · obtain rfl : k = jx := by rw [hjx, if_neg hmk]
                            clear hjx
                            have hm1 : (k : Int) ≤ (m : Int) + 1 := by omega
                            have hm2 : ¬ ((m : Int) + 1 < k) := by omega
                            go_wp2_with fail
                            go_region
                            all_goals
                              go_wp2_with fail
                              go_roundw
                              case rel => exact ⟨pc + 1, by omega, by go_num, Lib.hid ((HSET.out _ HWZ.out).mono (Upd.drew (fun _ => False) _))⟩
                              case measure => simp [intOf]; omega
                  all_goals
                    go_roundw
                    case rel => exact ⟨pc + 1, by omega, by go_num, HMK⟩
                    case measure => simp [intOf]; omega
                ·
                  clear HC
                  have x1 := HXX.out _ HMK.out.kept
                  have HUE : Hid (∀ w', Upd S7 w7 w' → Upd (fun _ => False) w w') := HK7
                  have HOWN : Hid (∀ j, Gnd.may ⟨w7, S7⟩ j → w.heap.size ≤ j) := Lib.hid (fun j hj => by
                    have h1 := HSZ.out
                    have h2 := HXE.out
                    rcases hj with h | h
                    · have := (HS7.out j h).2; omega
                    · have := HUW7.out.size; simp at h; omega)
                  by_cases hr0 : (res == 0) = true
                  · have hres : res = 0 := by simpa using hr0
                    go_wp2_with (first
                      | (go_at_call 28; (with_reducible refine (mPut1 _ _ _ _ _ _ _ _ HMK.out (by omega) (by unfold wi64; omega) (by unfold wi64; omega) (by unfold wi64; omega)).mono ?_); rintro e w9 ⟨rfl, cv9, nv9, kv9, C9, Ns9, Ks9, at9, hm, hpos⟩; obtain ⟨ca9, cc9, rfl⟩ := ownsRow_slice hm.code.row; have HM9 := Lib.hid hm; have HB9 := Lib.hid (HOWN.out _ hm.new); have e0 := hm.box.c0; have hl9 := hm.len; have e1 := (hm.mono (Upd.alloc (fun _ => False) w9 (.cells #[.int .i64 39, .int .i64 0, .int .i64 0] 41)) (fun _ h => h.elim)).box.c0; have f1 := (hm.mono (Upd.alloc (fun _ => False) w9 (.cells #[.int .i64 39, .int .i64 0, .int .i64 0] 41)) (fun _ h => h.elim)).box.fr 0; have e2 := (HX.out _ (lastX HM9.out HUW7.out (fun j hj => (HS7.out j hj).2) HSZ.out (.slice (some ⟨w9.heap.size, 0, none⟩) 1 1) (o := .cells #[.int .i64 39, .int .i64 0, .int .i64 0] 41))).2.1; clear hm))
                    · go_ret
                      exact ⟨_, [⟨39, 0, 0⟩], rfl, lit_inss w9 [⟨39, 0, 0⟩] #[.int .i64 39, .int .i64 0, .int .i64 0] rfl (by simp [wi64]) (by decide) b _ HM9.out.box.lt _ rfl, fun j hj => by simp [Value.ownBlock] at hj; have := (HUE.out _ HM9.out.below).size; omega, by simp, codeUpd (HUE.out _ HM9.out.below) HB9.out _ _⟩
                    · go_ret
                      exact ⟨_, C9, rfl, HM9.out.code.inss, fun j hj => HOWN.out j (HM9.out.fc j hj), ⟨hpos, by omega⟩, HUE.out _ HM9.out.below⟩
                  · have hr1 : (res == 0) = false := by simpa using hr0
                    go_wp2_with (first
                      | (go_at_call 27; (with_reducible refine (mAny _ _ _ _ _ _ HMK.out HB7.out (by omega) (by omega) (by omega) HR.out).mono ?_); rintro e w8 ⟨rfl, hm⟩; have HM8 := Lib.hid hm; clear hm)
                      | (go_at_call 28; (with_reducible refine (mPut1 _ _ _ _ _ _ _ _ HM8.out (by omega) (by unfold wi64; omega) (by unfold wi64; omega) (by unfold wi64; omega)).mono ?_); rintro e w9 ⟨rfl, cv9, nv9, kv9, C9, Ns9, Ks9, at9, hm, hpos⟩; obtain ⟨ca9, cc9, rfl⟩ := ownsRow_slice hm.code.row; have HM9 := Lib.hid hm; have HB9 := Lib.hid (HOWN.out _ hm.new); have e0 := hm.box.c0; have hl9 := hm.len; have e1 := (hm.mono (Upd.alloc (fun _ => False) w9 (.cells #[.int .i64 39, .int .i64 0, .int .i64 0] 41)) (fun _ h => h.elim)).box.c0; have f1 := (hm.mono (Upd.alloc (fun _ => False) w9 (.cells #[.int .i64 39, .int .i64 0, .int .i64 0] 41)) (fun _ h => h.elim)).box.fr 0; have e2 := (HX.out _ (lastX HM9.out HUW7.out (fun j hj => (HS7.out j hj).2) HSZ.out (.slice (some ⟨w9.heap.size, 0, none⟩) 1 1) (o := .cells #[.int .i64 39, .int .i64 0, .int .i64 0] 41))).2.1; have hB5 := ((hm.mono (Upd.alloc (fun _ => False) w9 (.cells #[.int .i64 39, .int .i64 0, .int .i64 0] 41)) (fun _ h => h.elim)).box.set0 (.slice (some ⟨w9.heap.size, 0, none⟩) 1 1)).upd (Upd.alloc (fun _ => False) _ (.cells #[.int .i64 1, .int .i64 0, .int .i64 0, .int .i64 39, .int .i64 0, .int .i64 0] 41)) (fun h => h); have e3 := hB5.c0; have f3 := hB5.fr 0; clear hm hB5))
                    · go_ret
                      exact ⟨_, [⟨1, 0, 0⟩, ⟨39, 0, 0⟩], rfl, lit_inss _ [⟨1, 0, 0⟩, ⟨39, 0, 0⟩] #[.int .i64 1, .int .i64 0, .int .i64 0, .int .i64 39, .int .i64 0, .int .i64 0] rfl (by simp [wi64]) (by decide) b _ (by have := HM9.out.box.lt; simp; omega) _ (by simp), fun j hj => by simp [Value.ownBlock] at hj; have := (HUE.out _ HM9.out.below).size; omega, by simp, codeUpd (codeUpd (HUE.out _ HM9.out.below) HB9.out _ _) HB9.out _ _⟩
                    · go_ret
                      exact ⟨_, C9, rfl, HM9.out.code.inss, fun j hj => HOWN.out j (HM9.out.fc j hj), ⟨hpos, by omega⟩, HUE.out _ HM9.out.below⟩
end Go.Proofs.YtmikibcgphkcfaaGreatDoor

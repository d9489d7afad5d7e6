/- InterpCalls, walked. -/
import Derived.Test.YtdmadfahgkikkaaGreatJsk
namespace Go.Proofs.YtdmadfahgkikkaaGreat
open Go.RowKit Go.Lib Go.ChangeShapes Go.WideShapes Go.Deep Go.MapKept Go.ChangeMaps
set_option linter.unusedVariables false
set_option linter.unusedSimpArgs false

/-- a value's head is told before it goes on: what runs a plain machine by evaluation -/
def forceN {α : Type} (n : Nat) (k : Nat → α) : α := match n with
  | 0 => k 0
  | m + 1 => k (m + 1)
theorem forceN_eq {α : Type} (n : Nat) (k : Nat → α) : forceN n k = k n := by cases n <;> rfl
def forceI {α : Type} (x : Int) (k : Int → α) : α := match x with
  | .ofNat n => forceN n fun n => k (.ofNat n)
  | .negSucc n => forceN n fun n => k (.negSucc n)
theorem forceI_eq {α : Type} (x : Int) (k : Int → α) : forceI x k = k x := by cases x with
  | ofNat n => exact forceN_eq n (fun n => k (.ofNat n))
  | negSucc n => exact forceN_eq n (fun n => k (.negSucc n))
def forceL {α : Type} : List Int → (List Int → α) → α
  | [], k => k []
  | x :: l, k => forceI x fun x => forceL l fun l => k (x :: l)
theorem forceL_eq {α : Type} (l : List Int) : ∀ (k : List Int → α), forceL l k = k l := by
  induction l with
  | nil => intro k; rfl
  | cons x l ih => intro k; simp only [forceL, forceI_eq, ih]
def forceLL {α : Type} : List (List Int) → (List (List Int) → α) → α
  | [], k => k []
  | x :: l, k => forceL x fun x => forceLL l fun l => k (x :: l)
theorem forceLL_eq {α : Type} (l : List (List Int)) : ∀ (k : List (List Int) → α), forceLL l k = k l := by
  induction l with
  | nil => intro k; rfl
  | cons x l ih => intro k; simp only [forceLL, forceL_eq, ih]
def forceF {α : Type} (F : FrM) (k : FrM → α) : α := match F with
  | ⟨a, b, c, ⟨p, r, l, d⟩, lo, st⟩ => forceI a fun a => forceI b fun b => forceI c fun c => forceL lo fun lo => forceL st fun st => k ⟨a, b, c, ⟨p, r, l, d⟩, lo, st⟩
theorem forceF_eq {α : Type} (F : FrM) (k : FrM → α) : forceF F k = k F := by
  obtain ⟨a, b, c, ⟨p, r, l, d⟩, lo, st⟩ := F
  simp only [forceF, forceI_eq, forceL_eq]
def forceFs {α : Type} : List FrM → (List FrM → α) → α
  | [], k => k []
  | x :: l, k => forceF x fun x => forceFs l fun l => k (x :: l)
theorem forceFs_eq {α : Type} (l : List FrM) : ∀ (k : List FrM → α), forceFs l k = k l := by
  induction l with
  | nil => intro k; rfl
  | cons x l ih => intro k; simp only [forceFs, forceF_eq, ih]
def forceX {α : Type} (X : McM) (k : McM → α) : α := match X with
  | ⟨Fs, f, s, t⟩ => forceFs Fs fun Fs => forceI f fun f => forceI s fun s => k ⟨Fs, f, s, t⟩
theorem forceX_eq {α : Type} (X : McM) (k : McM → α) : forceX X k = k X := by
  obtain ⟨Fs, f, s, t⟩ := X
  simp only [forceX, forceFs_eq, forceI_eq]
def pRunF (I : ImgM) : Nat → McM → List (List Int) → Option (McM × List (List Int))
  | 0, _, _ => none
  | n + 1, X, fl => match pStep I X fl with
    | some (X', fl') => forceX X' fun X' => forceLL fl' fun fl' => if X'.status = 0 then pRunF I n X' fl' else some (X', fl')
    | none => none
theorem pRunF_eq (I : ImgM) (n : Nat) : ∀ (X : McM) (fl : List (List Int)), pRunF I n X fl = pRun I n X fl := by
  induction n with
  | zero => intro X fl; rfl
  | succ n ih =>
    intro X fl
    unfold pRunF pRun
    cases pStep I X fl with
    | none => rfl
    | some p => simp only [forceX_eq, forceLL_eq, ih]
def downL : List InsM := pl [(2, 0), (24, 4), (1, 0), (39, 0), (2, 0), (1, 1), (7, 0), (37, 1), (1, 1), (6, 0), (39, 0)]
def topL (n : Int) : List InsM := pl [(1, n), (37, 1), (34, 0), (39, 0)]
def imgN (n : Int) : ImgM := ⟨{ data := #[97] }, [1], [], [⟨[], 0, [], topL n⟩, ⟨[1], 1, [], downL⟩], []⟩
def XN (n : Int) : McM := ⟨[newF (imgN n) 0], 1000, 0, []⟩
def nSt (n : Int) : Int := if 8 < n + 2 then 28422 else 36864
def nFl (n : Int) : Int := if 8 < n + 2 then 0 else n
theorem nT0 : (match pRunF (imgN 0) 200 (XN 0) [[0]] with | some p => decide (p.1.status = nSt 0 ∧ p.2 = [[nFl 0]]) | none => false) = true := by decide +kernel
theorem nT1 : (match pRunF (imgN 1) 200 (XN 1) [[0]] with | some p => decide (p.1.status = nSt 1 ∧ p.2 = [[nFl 1]]) | none => false) = true := by decide +kernel
theorem nT2 : (match pRunF (imgN 2) 200 (XN 2) [[0]] with | some p => decide (p.1.status = nSt 2 ∧ p.2 = [[nFl 2]]) | none => false) = true := by decide +kernel
theorem nT3 : (match pRunF (imgN 3) 200 (XN 3) [[0]] with | some p => decide (p.1.status = nSt 3 ∧ p.2 = [[nFl 3]]) | none => false) = true := by decide +kernel
theorem nT4 : (match pRunF (imgN 4) 200 (XN 4) [[0]] with | some p => decide (p.1.status = nSt 4 ∧ p.2 = [[nFl 4]]) | none => false) = true := by decide +kernel
theorem nT5 : (match pRunF (imgN 5) 200 (XN 5) [[0]] with | some p => decide (p.1.status = nSt 5 ∧ p.2 = [[nFl 5]]) | none => false) = true := by decide +kernel
theorem nT6 : (match pRunF (imgN 6) 200 (XN 6) [[0]] with | some p => decide (p.1.status = nSt 6 ∧ p.2 = [[nFl 6]]) | none => false) = true := by decide +kernel
theorem nT7 : (match pRunF (imgN 7) 200 (XN 7) [[0]] with | some p => decide (p.1.status = nSt 7 ∧ p.2 = [[nFl 7]]) | none => false) = true := by decide +kernel
theorem nT8 : (match pRunF (imgN 8) 200 (XN 8) [[0]] with | some p => decide (p.1.status = nSt 8 ∧ p.2 = [[nFl 8]]) | none => false) = true := by decide +kernel
theorem nT9 : (match pRunF (imgN 9) 200 (XN 9) [[0]] with | some p => decide (p.1.status = nSt 9 ∧ p.2 = [[nFl 9]]) | none => false) = true := by decide +kernel
theorem nT10 : (match pRunF (imgN 10) 200 (XN 10) [[0]] with | some p => decide (p.1.status = nSt 10 ∧ p.2 = [[nFl 10]]) | none => false) = true := by decide +kernel
theorem nT11 : (match pRunF (imgN 11) 200 (XN 11) [[0]] with | some p => decide (p.1.status = nSt 11 ∧ p.2 = [[nFl 11]]) | none => false) = true := by decide +kernel
theorem nC_run (n : Int) (h0 : 0 ≤ n) (h1 : n < 12) : ∃ X fl, pRun (imgN n) 200 (XN n) [[0]] = some (X, fl) ∧ (X.status = nSt n ∧ fl = [[nFl n]]) := by
  have hn : n = 0 ∨ n = 1 ∨ n = 2 ∨ n = 3 ∨ n = 4 ∨ n = 5 ∨ n = 6 ∨ n = 7 ∨ n = 8 ∨ n = 9 ∨ n = 10 ∨ n = 11 := by omega
  have go : ∀ m : Int, (match pRunF (imgN m) 200 (XN m) [[0]] with | some p => decide (p.1.status = nSt m ∧ p.2 = [[nFl m]]) | none => false) = true → ∃ X fl, pRun (imgN m) 200 (XN m) [[0]] = some (X, fl) ∧ (X.status = nSt m ∧ fl = [[nFl m]]) := fun m h => by
    rw [pRunF_eq] at h
    exact ofRun (f := fun p => p.1.status = nSt m ∧ p.2 = [[nFl m]]) h
  rcases hn with rfl | rfl | rfl | rfl | rfl | rfl | rfl | rfl | rfl | rfl | rfl | rfl
  · exact go _ nT0
  · exact go _ nT1
  · exact go _ nT2
  · exact go _ nT3
  · exact go _ nT4
  · exact go _ nT5
  · exact go _ nT6
  · exact go _ nT7
  · exact go _ nT8
  · exact go _ nT9
  · exact go _ nT10
  · exact go _ nT11
theorem five_heap {w w' : World} {C0 C1 C2 C3 C4 : Array Value} {e0 e1 e2 e3 e4 : TypeId} (hw : w' = ((((w.alloc (.cells C0 e0)).alloc (.cells C1 e1)).alloc (.cells C2 e2)).alloc (.cells C3 e3)).alloc (.cells C4 e4)) :
    Upd (fun _ => False) w w' ∧ w'.heap[w.heap.size]? = some (.cells C0 e0 (0, 0)) ∧ w'.heap[w.heap.size + 1]? = some (.cells C1 e1 (0, 0)) ∧ w'.heap[w.heap.size + 1 + 1]? = some (.cells C2 e2 (0, 0)) ∧ w'.heap[w.heap.size + 1 + 1 + 1]? = some (.cells C3 e3 (0, 0)) ∧ w'.heap[w.heap.size + 1 + 1 + 1 + 1]? = some (.cells C4 e4 (0, 0)) := by
  obtain ⟨w1, h1⟩ : ∃ w1, w1 = w.alloc (.cells C0 e0) := ⟨_, rfl⟩
  obtain ⟨w2, h2⟩ : ∃ w2, w2 = w1.alloc (.cells C1 e1) := ⟨_, rfl⟩
  obtain ⟨w3, h3⟩ : ∃ w3, w3 = w2.alloc (.cells C2 e2) := ⟨_, rfl⟩
  obtain ⟨w4, h4⟩ : ∃ w4, w4 = w3.alloc (.cells C3 e3) := ⟨_, rfl⟩
  rw [← h1, ← h2, ← h3, ← h4] at hw
  have s1 : w1.heap.size = w.heap.size + 1 := by rw [h1]; simp
  have s2 : w2.heap.size = w.heap.size + 1 + 1 := by rw [h2]; simp [s1]
  have s3 : w3.heap.size = w.heap.size + 1 + 1 + 1 := by rw [h3]; simp [s2]
  have s4 : w4.heap.size = w.heap.size + 1 + 1 + 1 + 1 := by rw [h4]; simp [s3]
  have u1 : Upd (fun _ => False) w w1 := by rw [h1]; exact Upd.alloc _ _ _
  have u2 : Upd (fun _ => False) w1 w2 := by rw [h2]; exact Upd.alloc _ _ _
  have u3 : Upd (fun _ => False) w2 w3 := by rw [h3]; exact Upd.alloc _ _ _
  have u4 : Upd (fun _ => False) w3 w4 := by rw [h4]; exact Upd.alloc _ _ _
  have u5 : Upd (fun _ => False) w4 w' := by rw [hw]; exact Upd.alloc _ _ _
  refine ⟨(((u1.trans u2 (fun _ h _ => h)).trans u3 (fun _ h _ => h)).trans u4 (fun _ h _ => h)).trans u5 (fun _ h _ => h), ?_, ?_, ?_, ?_, ?_⟩
  · exact hpBlk u5 (hpBlk u4 (hpBlk u3 (hpBlk u2 (by rw [h1]; exact hpTop w _ _ rfl) (fun h => h)) (fun h => h)) (fun h => h)) (fun h => h)
  · exact hpBlk u5 (hpBlk u4 (hpBlk u3 (by rw [h2]; exact hpTop w1 _ _ s1.symm) (fun h => h)) (fun h => h)) (fun h => h)
  · exact hpBlk u5 (hpBlk u4 (by rw [h3]; exact hpTop w2 _ _ s2.symm) (fun h => h)) (fun h => h)
  · exact hpBlk u5 (by rw [h4]; exact hpTop w3 _ _ s3.symm) (fun h => h)
  · rw [hw]; exact hpTop w4 _ _ s4.symm
theorem imgLitN {w : World} {d f t p m : Nat} {e0 e1 e2 e3 e4 : TypeId} {n : Int} (hn : wi64 n)
    (h0 : w.heap[d]? = some (.cells #[.int .i64 2, .int .i64 0, .int .i64 0, .int .i64 24, .int .i64 4, .int .i64 0, .int .i64 1, .int .i64 0, .int .i64 0, .int .i64 39, .int .i64 0, .int .i64 0, .int .i64 2, .int .i64 0, .int .i64 0, .int .i64 1, .int .i64 1, .int .i64 0, .int .i64 7, .int .i64 0, .int .i64 0, .int .i64 37, .int .i64 1, .int .i64 0, .int .i64 1, .int .i64 1, .int .i64 0, .int .i64 6, .int .i64 0, .int .i64 0, .int .i64 39, .int .i64 0, .int .i64 0] e0 (0, 0)))
    (h1 : w.heap[f]? = some (.cells #[.int .i64 1] e1 (0, 0)))
    (h2 : w.heap[t]? = some (.cells #[.int .i64 1, .int .i64 n, .int .i64 0, .int .i64 37, .int .i64 1, .int .i64 0, .int .i64 34, .int .i64 0, .int .i64 0, .int .i64 39, .int .i64 0, .int .i64 0] e2 (0, 0)))
    (h3 : w.heap[p]? = some (.cells #[.int .i64 1] e3 (0, 0)))
    (h4 : w.heap[m]? = some (.cells #[.slice none 0 0, .int .i64 0, .slice none 0 0, .slice (some ⟨t, 0, none⟩) 4 4, .slice (some ⟨p, 0, none⟩) 1 1, .int .i64 1, .slice none 0 0, .slice (some ⟨d, 0, none⟩) 11 11] e4 (0, 0))) :
    Img w (.agg #[.string { data := #[97] }, .slice (some ⟨f, 0, none⟩) 1 1, .slice none 0 0, .slice (some ⟨m, 0, none⟩) 2 2, .slice none 0 0]) (imgN n) := by
  have iD : Inss w (.slice (some ⟨d, 0, none⟩) 11 11) downL := insLit (L := downL) (c := 11) h0 (by rfl) (by rfl) (by decide) (by unfold maxLen; omega) (by simp [downL, pl, wi64])
  have iT : Inss w (.slice (some ⟨t, 0, none⟩) 4 4) (topL n) := insLit (L := topL n) (c := 4) h2 (by rfl) (by rfl) (by show 4 ≤ 4; omega) (by unfold maxLen; omega) (by unfold wi64 at hn; simp [topL, pl, wi64]; omega)
  refine ⟨_, _, _, _, rfl, one_row h1 (by unfold wi64; omega), ⟨fun _ => .slice none 0 0, Sl.nil _ _ _, fun i hi => absurd hi (by simp [imgN]), by simp [imgN]⟩, ⟨fun i => if i = 0 then .slice none 0 0 else .slice (some ⟨p, 0, none⟩) 1 1, fun _ => .slice none 0 0, fun i => if i = 0 then .slice (some ⟨t, 0, none⟩) 4 4 else .slice (some ⟨d, 0, none⟩) 11 11, ?_, fun i hi => ?_, by simp [imgN, wi64]⟩, ⟨Sl.nil _ _ _, by simp [imgN]⟩, by show 1 ≤ maxLen; unfold maxLen; omega⟩
  · refine ⟨_, 2, rfl, Nat.le_refl _, by unfold maxLen; omega, .inr ⟨m, 0, rfl, fun i hi j hj => ?_⟩⟩
    have hi2 : i = 0 ∨ i = 1 := by simp [imgN] at hi; omega
    have hj4 : j = 0 ∨ j = 1 ∨ j = 2 ∨ j = 3 := by omega
    rcases hi2 with rfl | rfl <;> rcases hj4 with rfl | rfl | rfl | rfl <;> simp [World.cell?, h4, metF, imgN]
  · have hi2 : i = 0 ∨ i = 1 := by simp [imgN] at hi; omega
    rcases hi2 with rfl | rfl
    · exact ⟨⟨Sl.nil _ _ _, by simp [imgN]⟩, ⟨Sl.nil _ _ _, by simp [imgN]⟩, iT⟩
    · exact ⟨one_row h3 (by unfold wi64; omega), ⟨Sl.nil _ _ _, by simp [imgN]⟩, iD⟩
set_option maxRecDepth 100000 in
set_option maxHeartbeats 4000000 in
theorem interpCalls_walk (w : World) (x : Int) : Calls Tryz.prog 5 #[.int .i64 x] w fun e w' => e = .returned (.bool true) ∧ Upd (fun _ => False) w w' := by
  have HN := Lib.hid (rNewRoom zeroJ 100 w (by omega) (by omega))
  go_enter Tryz.func5, Tryz.ntmps5
  go_wp2_with fail
  refine (hPick x 12 w (by omega) (by omega)).mono ?_
  rintro e w' ⟨rfl, rfl⟩
  have hn0 : 0 ≤ x % 12 := by omega
  have hn1 : x % 12 < 12 := by omega
  generalize x % 12 = n at *
  have HN0 := Lib.hid hn0
  have HN1 := Lib.hid hn1
  clear hn0 hn1
  go_wp2_with fail
  refine HN.out.mono ?_
  rintro e w1 ⟨rb, c1, rfl, hx, hr⟩
  have HX1 := Lib.hid hx
  have HR1 := Lib.hid hr
  clear hx hr HN
  go_wp2_with fail
  refine (known13 w1).mono ?_
  rintro e w2 ⟨rfl, hu⟩
  have HX2 := Lib.hid (HX1.out.trans (Ext.quiet c1 hu) (fun _ h => h))
  have HR2 := Lib.hid (HR1.out.quiet hu)
  clear hu HX1 HR1
  go_wp2_with fail
  obtain ⟨w7, hw7⟩ : ∃ w7, w7 = ((((w2.alloc (.cells #[.int .i64 2, .int .i64 0, .int .i64 0, .int .i64 24, .int .i64 4, .int .i64 0, .int .i64 1, .int .i64 0, .int .i64 0, .int .i64 39, .int .i64 0, .int .i64 0, .int .i64 2, .int .i64 0, .int .i64 0, .int .i64 1, .int .i64 1, .int .i64 0, .int .i64 7, .int .i64 0, .int .i64 0, .int .i64 37, .int .i64 1, .int .i64 0, .int .i64 1, .int .i64 1, .int .i64 0, .int .i64 6, .int .i64 0, .int .i64 0, .int .i64 39, .int .i64 0, .int .i64 0] 30)).alloc (.cells #[.int .i64 1] 3)).alloc (.cells #[.int .i64 1, .int .i64 n, .int .i64 0, .int .i64 37, .int .i64 1, .int .i64 0, .int .i64 34, .int .i64 0, .int .i64 0, .int .i64 39, .int .i64 0, .int .i64 0] 30)).alloc (.cells #[.int .i64 1] 3)).alloc (.cells #[.slice none 0 0, .int .i64 0, .slice none 0 0, .slice (some ⟨w2.heap.size + 1 + 1, 0, none⟩) 4 4, .slice (some ⟨w2.heap.size + 1 + 1 + 1, 0, none⟩) 1 1, .int .i64 1, .slice none 0 0, .slice (some ⟨w2.heap.size, 0, none⟩) 11 11] 55) := ⟨_, rfl⟩
  rw [← hw7]
  obtain ⟨hu, g0, g1, g2, g3, g4⟩ := five_heap hw7
  have HI := Lib.hid (imgLitN (n := n) (by have := HN0.out; have := HN1.out; unfold wi64; omega) g0 g1 g2 g3 g4)
  have HSS : Hid (ImgS (imgN n)) := Lib.hid ⟨by simp [imgN], by simp [imgN], by simp [imgN], by simp [imgN], by simp [imgN], by simp [imgN, downL, topL, pl]⟩
  have HX7 := Lib.hid (HX2.out.trans (Ext.quiet c1 hu) (fun _ h => h))
  have HR7 := Lib.hid (HR2.out.quiet hu)
  clear hw7 hu g0 g1 g2 g3 g4 HX2 HR2
  refine (rAdd (RmI.of0 HR7.out rfl) (by decide) _ (imgN n) HI.out HSS.out).mono ?_
  rintro e w8 ⟨rfl, c8, P, hP, hx8, hR8⟩
  have HX8 := Lib.hid ((HX7.out.mono (T' := fun i => i ≠ 0) (fun _ h => h.elim)).trans (hx8.mono (T' := fun i => i ≠ 0) (fun i hi => by simp only [TA] at hi; omega)) (fun _ h => h))
  have HNW := Lib.hid (iNew hR8 ⟨P, rfl, hP, HSS.out⟩ 1000 (by omega) (by show 0 < 2; omega) (by show 0 + 0 ≤ 1000; omega))
  clear hx8 hR8
  go_wp2_with fail
  refine HNW.out.mono ?_
  rintro e w9 ⟨mb, mp, tb, c9, tv, rfl, hx9, hm9⟩
  obtain ⟨X', fl', hrun, hst, hfl⟩ := nC_run n HN0.out HN1.out
  have HX9 := Lib.hid (HX8.out.trans (hx9.mono (T' := fun i => i ≠ 0) (fun i hi => by simp only [TN] at hi; omega)) (fun _ h => h))
  have HRU := Lib.hid (mRun hm9 rfl hrun)
  have HST := Lib.hid hst
  have HFL := Lib.hid hfl
  clear hx9 hm9 HNW hrun hst hfl
  go_wp2_with fail
  refine HRU.out.mono ?_
  rintro e w10 ⟨rfl, c10, tv10, hx10, hm10⟩
  have HUU := Lib.hid ((HX9.out.trans (hx10.mono (T' := fun i => i ≠ 0) (fun i hi => hi.1)) (fun _ h => h)).upd.mono (T := fun _ => False) (fun q hq _ => hq rfl))
  have HRA := Lib.hid (Ran.field (show Ran w10 mb rb tb X' fl' (imgN n) from ⟨c10, mp, tv10, _, _, hm10, rfl⟩) HFL.out)
  rw [HST.out]
  clear hx10 hm10 HRU
  go_wp2_with fail
  refine HRA.out.mono ?_
  rintro e w' ⟨rfl, rfl⟩
  by_cases h8 : 8 < n + 2
  · have hs1 : nSt n = 28422 := if_pos h8
    have hf1 : nFl n = 0 := if_pos h8
    have hw2 : IntKind.i64.wrap (n + 2) = n + 2 := IntWalk.i64_in _ (by have := HN0.out; have := HN1.out; omega)
    rw [hs1, hf1]
    clear hs1 hf1
    have t1 : decide (8 < n + 2) = true := by simpa using h8
    go_wp2_with fail
    go_ret
    exact ⟨rfl, HUU.out⟩
  · have hs1 : nSt n = 36864 := if_neg h8
    have hf1 : nFl n = n := if_neg h8
    have hw2 : IntKind.i64.wrap (n + 2) = n + 2 := IntWalk.i64_in _ (by have := HN0.out; have := HN1.out; omega)
    have hw3 : IntKind.i32.wrap n = n := by rw [IntKind.wrap_i32]; have := HN0.out; have := HN1.out; omega
    rw [hs1, hf1]
    clear hs1 hf1
    have t1 : decide (8 < n + 2) = false := by simpa using h8
    go_wp2_with fail
    go_ret
    exact ⟨rfl, HUU.out⟩
theorem interpCalls_below (w : World) (x : Int) : Calls Tryz.prog 5 #[.int .i64 x] w fun e w' => e = .returned (.bool true) ∧ Below w.heap.size w w' := (interpCalls_walk w x).mono fun _ _ h => ⟨h.1, h.2.below (Nat.le_refl _) (fun _ h => h.elim)⟩
end Go.Proofs.YtdmadfahgkikkaaGreat

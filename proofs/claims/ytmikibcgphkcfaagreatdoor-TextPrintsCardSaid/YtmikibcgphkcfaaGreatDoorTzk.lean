/- Package text: what a method prints. -/
import Derived.Test.YtmikibcgphkcfaaGreatDoorKTt
namespace Go.Proofs.YtmikibcgphkcfaaGreatDoor
open Go.RowKit Go.Shelf Go.Lib
set_option linter.unusedVariables false
set_option linter.unusedSimpArgs false

def nmT (op : Int) : By := (nameB op).data.toList
theorem nmT_len (op : Int) : (nmT op).length ≤ 10 := by
  unfold nmT nameB
  cases h : wordsP.find? (fun p => p.1 == op) with
  | none => simp
  | some p =>
    have hm := List.mem_of_find?_eq_some h
    have ha : wordsP.all (fun p => decide (p.2.data.toList.length ≤ 10)) = true := by decide +kernel
    simpa using List.all_eq_true.1 ha p hm
/-- the words of an instruction's line -/
def insT (x : InsM) : List By := ([32, 32] ++ nmT x.op) :: ([itoa x.a, itoa x.b].take (opsB x.op).toNat)
theorem Strs.take {w : World} {a : Option Addr} {n c : Nat} {xs : List By} (h : Strs w (.slice a n c) xs) (j : Nat) (hj : j ≤ xs.length) : Strs w (.slice a j c) (xs.take j) := by
  obtain ⟨⟨a', c', he, hn, hm, hs⟩, hl⟩ := h
  simp at he
  obtain ⟨rfl, rfl, rfl⟩ := he
  have e : (xs.take j).length = j := by simp; omega
  refine ⟨⟨a, c, by rw [e], by omega, hm, ?_⟩, by omega⟩
  rw [e]
  rcases hs with h0 | ⟨g, off, rfl, hs⟩
  · exact .inl (by omega)
  · refine .inr ⟨g, off, rfl, fun i hi q hq => ?_⟩
    rw [hs i (by omega) q hq]
    simp [List.getD, List.getElem?_take, hi]
theorem ops_three (op : Int) : opsB op = 0 ∨ opsB op = 1 ∨ opsB op = 2 := by
  unfold opsB
  repeat (first | omega | split)
def locT (ks : List Int) : By := match ks.isEmpty with
  | true => []
  | false => lineT [[108, 111, 99, 97, 108, 115], joinB (ks.map kindT)]
/-- a method's lines ahead of its code -/
def headT (m : MetM) : By := lineT [[109, 101, 116, 104, 111, 100], callT m.params m.res] ++ locT m.locals
def codeT (c : List InsM) : By := c.flatMap (fun x => lineT (insT x))
theorem line2_len (x y : By) : (lineT [x, y]).length = x.length + y.length + 2 := by
  unfold lineT
  rw [join_cons]
  have e : joinB [y] = y := Lib.join_one y [32]
  rw [e]
  simp
  omega
theorem insT_len (x : InsM) (h : okIn x) : (lineT (insT x)).length ≤ 100 := by
  have h1 := nmT_len x.op
  have h2 := itoa_length_le x.a h.2.1.1 h.2.1.2
  have h3 := itoa_length_le x.b h.2.2.1 h.2.2.2
  unfold lineT
  have h4 : (insT x).length ≤ 3 := by
    unfold insT
    simp
    omega
  have h5 := join_len (m := 25) (insT x) (fun y hy => by
    unfold insT at hy
    rcases List.mem_cons.1 hy with rfl | hy
    · simp; omega
    · have := List.mem_of_mem_take hy
      simp at this
      rcases this with rfl | rfl <;> omega)
  simp only [List.length_append, List.length_cons, List.length_nil]
  omega
theorem codeT_len : ∀ (c : List InsM), (∀ x ∈ c, okIn x) → (codeT c).length ≤ 100 * c.length
  | [], _ => by simp [codeT]
  | x :: c, h => by
    have h1 := insT_len x (h x (by simp))
    have h2 := codeT_len c (fun y hy => h y (List.mem_cons_of_mem _ hy))
    unfold codeT at h2 ⊢
    rw [List.flatMap_cons, List.length_append, List.length_cons]
    omega
section
variable {B b : Nat} {w w' : World}
theorem Kb.box (hk : Kb B b w w') {X : Nat} {C : Array Value} {T : TypeId} (h : w.heap[X]? = some (.cells C T (0, 0))) (hT : T ≠ BY) (hX : X ≠ b) : w'.heap[X]? = some (.cells C T (0, 0)) :=
  hk.2 X _ h (by simpa using hX) (fun c fz e => by
    simp at e
    exact hT e.2.1)
end
/-- the state of a print: what is held, what is kept -/
structure Pr (B b X : Nat) (C : Array Value) (w wr : World) (s : By) : Prop where
  bd : Bd B b wr s
  kb : Kb B b w wr
  bx : wr.heap[X]? = some (.cells C MET (0, 0))
  sz : B ≤ wr.heap.size
  tb : Tb B wr
section
variable {B b X : Nat} {C : Array Value} {w wr w2 : World} {s s2 : By}
theorem Pr.still (h : Pr B b X C w wr s) (hu : Upd (fun _ => False) wr w2) : Pr B b X C w w2 s :=
  ⟨h.bd.kept hu, h.kb.trans (Kb.of hu h.sz), tBlk hu h.bx (fun h => h), Nat.le_trans h.sz hu.size, h.tb.kept (Kb.of (b := b) hu h.sz).1⟩
theorem Pr.line (h : Pr B b X C w wr s) (hX : X ≠ b) (hd : Bd B b w2 s2) (hk : Kb B b wr w2) : Pr B b X C w w2 s2 :=
  ⟨hd, h.kb.trans hk, hk.box h.bx (by decide) hX, Nat.le_trans h.sz hk.1.size, h.tb.kept hk.1⟩
end
set_option maxRecDepth 100000 in
set_option maxHeartbeats 2000000 in
theorem tPrintMethod {B b : Nat} {w0 w : World} {s : By} {v : Value} {m : MetM} (hd : Bd B b w s) (hm : Met w0 v m) (h0 : w0.heap.size = B) (hb : Below B w0 w) (ht : Tb B w) (hbl : b < w.heap.size)
    (hp : m.params.length ≤ 100) (hlo : m.locals.length ≤ 100) (hc : m.code.length ≤ 1000) (hs : s.length ≤ 1000000000) :
    Calls Tryz.prog 18 #[.pointer (some ⟨b, 0, none⟩), v] w fun e w' => e = .returned (.tuple #[]) ∧ Bd B b w' (s ++ (headT m ++ codeT m.code)) ∧ Kb B b w w' := by
  obtain ⟨pv, lv, cv, rfl, hpi, hli, hci, -⟩ := hm
  have HM : Hid (∀ w', Below B w0 w' → Ints w' pv m.params ∧ Ints w' lv m.locals ∧ Inss w' cv m.code) := Lib.hid (fun w' h => ⟨hpi.later (by rw [h0]; exact h), hli.later (by rw [h0]; exact h), hci.later (by rw [h0]; exact h)⟩)
  obtain ⟨pa, pc, rfl, -⟩ := ints_at hpi (Upd.refl _ _)
  obtain ⟨la, lc, rfl, -⟩ := ints_at hli (Upd.refl _ _)
  obtain ⟨ca, cc, rfl, hck, -⟩ := hci.1
  have hsz : B ≤ w.heap.size := by rw [← h0]; exact hb.size
  obtain ⟨X, hX⟩ : ∃ X, X = w.heap.size := ⟨_, rfl⟩
  have HXb : Hid (X ≠ b) := Lib.hid (by omega)
  have HB0 := Lib.hid hb
  have HP := Lib.hid hp
  have HLO := Lib.hid hlo
  have HC := Lib.hid hc
  have HS := Lib.hid hs
  have HO : Hid (∀ x ∈ m.code, okIn x) := Lib.hid hci.2
  obtain ⟨w1, hw1⟩ : ∃ w1, w1 = w.alloc (.cells #[.slice pa m.params.length pc, .int .i64 m.res, .slice la m.locals.length lc, .slice ca m.code.length cc] MET) := ⟨_, rfl⟩
  have hu1 : Upd (fun _ => False) w w1 := by rw [hw1]; exact Upd.alloc (fun _ => False) _ _
  have HPR1 : Hid (Pr B b X #[.slice pa m.params.length pc, .int .i64 m.res, .slice la m.locals.length lc, .slice ca m.code.length cc] w w1 s) := Lib.hid
    ⟨hd.kept hu1, Kb.of hu1 hsz, by rw [hw1]; exact hp_new w _ _ hX, Nat.le_trans hsz hu1.size, ht.kept (Kb.of (b := b) hu1 hsz).1⟩
  have HX := Lib.hid hX
  obtain ⟨np, hnp⟩ : ∃ np, np = m.params.length := ⟨_, rfl⟩
  obtain ⟨nl, hnl⟩ : ∃ nl, nl = m.locals.length := ⟨_, rfl⟩
  obtain ⟨nc, hnc⟩ : ∃ nc, nc = m.code.length := ⟨_, rfl⟩
  rw [← hnp, ← hnl, ← hnc] at HPR1 HM hw1 ⊢
  have HW1 := Lib.hid hw1
  have HNP := Lib.hid hnp
  have HNL := Lib.hid hnl
  have HNC := Lib.hid hnc
  have c0 := (tCell HPR1.out.bx 0).1
  have c1 := (tCell HPR1.out.bx 1).1
  simp at c0 c1
  rw [hw1, hX] at c0 c1
  clear hd h0 hb ht hbl hp hlo hc hs hpi hli hci hck hsz hX hw1 hu1 hnp hnl hnc
  go_enter Tryz.func18, Tryz.ntmps18
  go_wp2_with fail
  rw [← HX.out, ← HW1.out]
  refine (tCallNames w1 _ m.params m.res (HM.out w1 (HB0.out.trans HPR1.out.kb.1)).1 (by have := HP.out; omega)).mono ?_
  rintro e w2 ⟨rfl, hu⟩
  have HPR2 := Lib.hid (HPR1.out.still hu)
  clear hu c0 c1
  obtain ⟨cl, hcl⟩ : ∃ cl, cl = callT m.params m.res := ⟨_, rfl⟩
  rw [← hcl]
  have HCL := Lib.hid hcl
  have HCLN : Hid (cl.length ≤ 600) := Lib.hid (by rw [hcl]; have h1 := callT_len m.params m.res; have h2 := HP.out; omega)
  have HPR3 := Lib.hid (HPR2.out.still (Upd.alloc _ w2 (.cells #[.string { data := #[109, 101, 116, 104, 111, 100] }, .string (bs cl)] STR)))
  have HST := Lib.hid (strs_new w2 [[109, 101, 116, 104, 111, 100], cl] (by simp) #[.string { data := #[109, 101, 116, 104, 111, 100] }, .string (bs cl)] rfl _ rfl)
  clear hcl
  go_wp2_with fail
  refine (tPrintLine HPR3.out.bd HST.out (by
    have h1 := line2_len [109, 101, 116, 104, 111, 100] cl
    have h2 := HCLN.out
    have h3 := HS.out
    unfold lineT at h1
    simp only [List.length_append, List.length_cons, List.length_nil] at h1
    omega) HPR3.out.sz).mono ?_
  rintro e w4 ⟨rfl, hd, hk⟩
  have HPR4 := Lib.hid (HPR3.out.line HXb.out hd hk)
  clear hd hk HST HPR3
  obtain ⟨s4, hs4⟩ : ∃ s4, s4 = s ++ lineT [[109, 101, 116, 104, 111, 100], cl] := ⟨_, rfl⟩
  rw [← hs4] at HPR4
  have HS4 := Lib.hid hs4
  have HS4L : Hid (s4.length ≤ 1000001000) := Lib.hid (by rw [hs4, List.length_append, line2_len]; have h2 := HCLN.out; have h3 := HS.out; simp; omega)
  clear hs4
  have c2 := (tCell HPR4.out.bx 2).1
  have c3 := (tCell HPR4.out.bx 3).1
  simp at c2 c3
  rcases Nat.eq_zero_or_pos nl with hl0 | hl0
  case' inl =>
    have hn0 : ¬ (0 < nl) := by omega
    have HS5 : Hid (s4 = s4 ++ locT m.locals) := Lib.hid (by
      have : m.locals = [] := List.length_eq_zero_iff.1 (by rw [← HNL.out]; exact hl0)
      rw [this]
      exact (List.append_nil _).symm)
    have HS5L : Hid (s4.length ≤ 1000010000) := Lib.hid (by have := HS4L.out; omega)
    have HPR5 := HPR4
    obtain ⟨s5, hs5⟩ : ∃ s5, s5 = s4 := ⟨_, rfl⟩
    have HSE : Hid (s5 = s4 ++ locT m.locals) := Lib.hid (by rw [hs5]; exact HS5.out)
    rw [← hs5] at HPR5 HS5L
    clear hs5 hl0 HS5
    go_wp2_with fail
  case' inr =>
    go_wp2_with fail
    refine (tKindNames w4 _ m.locals (HM.out w4 (HB0.out.trans HPR4.out.kb.1)).2.1 (by have := HLO.out; omega)).mono ?_
    rintro e w6 ⟨rfl, hu⟩
    have HPR6 := Lib.hid (HPR4.out.still hu)
    clear hu
    obtain ⟨cj, hcj⟩ : ∃ cj, cj = joinB (m.locals.map kindT) := ⟨_, rfl⟩
    rw [← hcj]
    have HCJ := Lib.hid hcj
    have HCJN : Hid (cj.length ≤ 600) := Lib.hid (by
      have h1 := join_len (m := 4) (m.locals.map kindT) (fun x hx => by
        obtain ⟨y, -, rfl⟩ := List.mem_map.1 hx
        exact kindT_len y)
      rw [← hcj, List.length_map] at h1
      have h2 := HLO.out
      omega)
    have HPR7 := Lib.hid (HPR6.out.still (Upd.alloc _ w6 (.cells #[.string { data := #[108, 111, 99, 97, 108, 115] }, .string (bs cj)] STR)))
    have HST := Lib.hid (strs_new w6 [[108, 111, 99, 97, 108, 115], cj] (by simp) #[.string { data := #[108, 111, 99, 97, 108, 115] }, .string (bs cj)] rfl _ rfl)
    clear hcj
    go_wp2_with fail
    refine (tPrintLine HPR7.out.bd HST.out (by
      have h1 := line2_len [108, 111, 99, 97, 108, 115] cj
      have h2 := HCJN.out
      have h3 := HS4L.out
      unfold lineT at h1
      simp only [List.length_append, List.length_cons, List.length_nil] at h1
      omega) HPR7.out.sz).mono ?_
    rintro e w5 ⟨rfl, hd, hk⟩
    have HPR5 := Lib.hid (HPR7.out.line HXb.out hd hk)
    clear hd hk HST HPR7 HPR6
    obtain ⟨s5, hs5⟩ : ∃ s5, s5 = s4 ++ lineT [[108, 111, 99, 97, 108, 115], cj] := ⟨_, rfl⟩
    rw [← hs5] at HPR5
    have HSE : Hid (s5 = s4 ++ locT m.locals) := Lib.hid (by
      rw [hs5, HCJ.out]
      cases hq : m.locals with
      | nil => have := HNL.out; rw [hq] at this; simp at this; omega
      | cons x xs => rfl)
    have HS5L : Hid (s5.length ≤ 1000010000) := Lib.hid (by rw [hs5, List.length_append, line2_len]; have h2 := HCJN.out; have h3 := HS4L.out; simp; omega)
    clear hs5 c2 c3
    have c3 := (tCell HPR5.out.bx 3).1
    simp at c3
    go_wp2_with fail
  all_goals clear c3
  all_goals have H0 : Hid (Pr B b X #[.slice pa np pc, .int .i64 m.res, .slice la nl lc, .slice ca nc cc] w _ (s5 ++ codeT (m.code.take 0))) := Lib.hid (by
    show Pr _ _ _ _ _ _ (s5 ++ [])
    rw [List.append_nil]
    exact HPR5.out)
  all_goals have HNC2 : Hid (nc ≤ 1000) := Lib.hid (by rw [HNC.out]; exact HC.out)
  all_goals clear HPR5
  all_goals (
    go_loopw [28] (fun iv wr => ∃ k : Nat, k ≤ nc ∧ iv = .int .i64 k ∧ Hid (Pr B b X #[.slice pa np pc, .int .i64 m.res, .slice la nl lc, .slice ca nc cc] w wr (s5 ++ codeT (m.code.take k)))) (fun iv _ => nc - (RowKit.intOf iv).toNat)
    case atStart => exact ⟨0, Nat.zero_le _, rfl, H0⟩
    case round =>
      obtain ⟨k, hk, rfl, HK⟩ := hrel
      clear H0
      by_cases hlt : k < nc
      · obtain ⟨⟨a', c', he, -, -, hcs⟩, -⟩ := (HM.out wr (HB0.out.trans HK.out.kb.1)).2.2
        obtain ⟨cg, co, hca, hcs2⟩ := hcs.resolve_left (by have := HNC.out; omega)
        simp at he
        obtain ⟨rfl, -, rfl⟩ := he
        subst hca
        obtain ⟨x, hx⟩ : ∃ x, x = m.code.getD k default := ⟨_, rfl⟩
        have hlt2 : k < m.code.length := by have := HNC.out; omega
        have i0 : wr.cell? ⟨cg, co + k * 3, none⟩ = some (.int .i64 x.op) := by rw [hx]; exact hcs2 k hlt2 0 (by omega)
        have i1 : wr.cell? ⟨cg, co + k * 3 + 1, none⟩ = some (.int .i64 x.a) := by rw [hx]; exact hcs2 k hlt2 1 (by omega)
        have i2 : wr.cell? ⟨cg, co + k * 3 + 2, none⟩ = some (.int .i64 x.b) := by rw [hx]; exact hcs2 k hlt2 2 (by omega)
        have HT : Hid (codeT (m.code.take (k + 1)) = codeT (m.code.take k) ++ lineT (insT x)) := Lib.hid (by
          unfold codeT
          rw [List.take_add_one, List.flatMap_append, List.getElem?_eq_getElem hlt2, hx]
          simp [List.getD, hlt2])
        have HXO : Hid (okIn x) := Lib.hid (HO.out x (by rw [hx]; simp [List.getD, hlt2]))
        have hk3 : (k : Int) + 1 ≤ 9223372036854775807 := by have := HNC2.out; omega
        clear hcs hcs2 hx hlt2
        obtain ⟨wA, hwA⟩ : ∃ wA, wA = wr.alloc (.cells #[.int .i64 x.op, .int .i64 x.a, .int .i64 x.b] INS) := ⟨_, rfl⟩
        have HWA := Lib.hid hwA
        have huA : Upd (fun _ => False) wr wA := by rw [hwA]; exact Upd.alloc (fun _ => False) _ _
        have hbY : wA.heap[wr.heap.size]? = some (.cells #[.int .i64 x.op, .int .i64 x.a, .int .i64 x.b] INS (0, 0)) := by rw [hwA]; exact hp_new wr _ _ rfl
        have HPA := Lib.hid (HK.out.still huA)
        obtain ⟨Y, hY⟩ : ∃ Y, Y = wr.heap.size := ⟨_, rfl⟩
        rw [← hY] at hbY
        have HY := Lib.hid hY
        have HYB := Lib.hid hbY
        have HBY : Hid (∀ w', Upd (fun _ => False) wA w' → w'.cell? ⟨Y, 0, none⟩ = some (.int .i64 x.op) ∧ w'.cell? ⟨Y, 1, none⟩ = some (.int .i64 x.a) ∧ w'.cell? ⟨Y, 2, none⟩ = some (.int .i64 x.b)) := Lib.hid (fun w' hu => by
          have hb := tBlk hu hbY (fun h => h)
          exact ⟨(tCell hb 0).1, (tCell hb 1).1, (tCell hb 2).1⟩)
        have HUD : Hid (Upd (fun _ => False) wA wA.drew) := Lib.hid (Upd.drew (fun _ => False) wA)
        have hcat : ¬ (9223372036854775807 < 2 + (nameB x.op).size) := by
          have h1 := nmT_len x.op
          have h2 : (nameB x.op).size = (nmT x.op).length := by rw [← bs_size]; rfl
          omega
        clear hwA huA hbY hY
        go_wp2_with fail
        rw [← HWA.out, ← HY.out]
        clear i0 i1 i2
        go_region_held3 (fun w' => w'.cell? ⟨Y, 0, none⟩ = some (.int .i64 x.op) ∧ w'.cell? ⟨Y, 1, none⟩ = some (.int .i64 x.a) ∧ w'.cell? ⟨Y, 2, none⟩ = some (.int .i64 x.b)) (first
          | with_reducible exact HBY.out _ HUD.out
          | with_reducible exact HBY.out _ HU3.out
          | with_reducible exact HBY.out _ HU4.out
          | with_reducible exact HBY.out _ HU5.out
          | with_reducible exact HBY.out _ (HU5.out.trans (Upd.alloc (fun _ => False) _ _) (fun _ h _ => h))) ((first
          | (go_at_call 43; (refine (cName x.op _).mono ?_); rintro e w3 ⟨rfl, hu3⟩; have HU3 := Lib.hid (HUD.out.trans hu3 (fun _ h _ => h)); have HP3 := Lib.hid (HPA.out.still HU3.out); clear hu3)
          | (go_at_call 17; (refine (tItoa (n := x.a) HP3.out.tb HXO.out.2.1).mono ?_); rintro e w4 ⟨rfl, hu4⟩; have HU4 := Lib.hid (HU3.out.trans hu4 (fun _ h _ => h)); have HP4 := Lib.hid (HP3.out.still hu4); clear hu4)
          | (go_at_call 17; (refine (tItoa (n := x.b) HP4.out.tb HXO.out.2.2).mono ?_); rintro e w5 ⟨rfl, hu5⟩; have HU5 := Lib.hid (HU4.out.trans hu5 (fun _ h _ => h)); have HP5 := Lib.hid (HP4.out.still hu5); clear hu5)))
        have HP6 := Lib.hid (HP5.out.still (Upd.alloc _ w5 (.cells #[.string ({ data := #[32, 32] } ++ nameB x.op), .string (bs (itoa x.a)), .string (bs (itoa x.b))] STR)))
        have hst := strs_new w5 [[32, 32] ++ nmT x.op, itoa x.a, itoa x.b] (by simp) #[.string ({ data := #[32, 32] } ++ nameB x.op), .string (bs (itoa x.a)), .string (bs (itoa x.b))] (by
          rw [show ({ data := #[32, 32] } ++ nameB x.op : ByteArray) = bs ([32, 32] ++ nmT x.op) from bs_app [32, 32] (nmT x.op)]
          rfl) _ rfl
        have HST := Lib.hid hst
        have HC6 := Lib.hid (HBY.out _ (HU5.out.trans (Upd.alloc (fun _ => False) w5 (.cells #[.string ({ data := #[32, 32] } ++ nameB x.op), .string (bs (itoa x.a)), .string (bs (itoa x.b))] STR)) (fun _ h _ => h)))
        clear hst hcat
        obtain ⟨w6, hw6⟩ : ∃ w6, w6 = w5.alloc (.cells #[.string ({ data := #[32, 32] } ++ nameB x.op), .string (bs (itoa x.a)), .string (bs (itoa x.b))] STR) := ⟨_, rfl⟩
        rw [← hw6] at HP6 HST HC6
        rw [← hw6]
        obtain ⟨Z, hZ⟩ : ∃ Z, Z = w5.heap.size := ⟨_, rfl⟩
        rw [← hZ] at HST
        rw [← hZ]
        clear hw6 hZ
        have i0 := HC6.out.1
        have HLINE : Hid ((s5 ++ codeT (m.code.take k)).length + (joinB (insT x)).length + 1 ≤ 140737488355328) := Lib.hid (by
          have h1 := insT_len x HXO.out
          have h2 := codeT_len (m.code.take k) (fun y hy => HO.out y (List.mem_of_mem_take hy))
          have h3 := HS5L.out
          have h4 := HNC2.out
          unfold lineT at h1
          simp only [List.length_append, List.length_cons, List.length_nil, List.length_take] at h1 h2 ⊢
          omega)
        rcases ops_three x.op with ho | ho | ho
        all_goals (
          have HOB := Lib.hid ho
          clear ho
          go_wp2_with fail
          refine (cOperands x.op w6).mono ?_
          rw [HOB.out]
          rintro e w7 ⟨rfl, rfl⟩
          go_wp2_with fail
          refine (tPrintLine (xs := insT x) HP6.out.bd (by
            have := HST.out
            unfold insT
            rw [HOB.out]
            first
              | exact this.take 1 (by simp)
              | exact this.take 2 (by simp)
              | exact this.take 3 (by simp)) HLINE.out HP6.out.sz).mono ?_
          rintro e w8 ⟨rfl, hd8, hk8⟩
          have HP8 : Hid (Pr B b X #[.slice pa np pc, .int .i64 m.res, .slice la nl lc, .slice (some ⟨cg, co, none⟩) nc cc] w w8 (s5 ++ codeT (m.code.take (k + 1)))) := Lib.hid (by
            rw [HT.out, ← List.append_assoc]
            exact HP6.out.line HXb.out hd8 hk8)
          clear hd8 hk8 i0
          go_wp2_with fail
          go_roundw
          case rel => exact ⟨k + 1, hlt, by go_num, HP8⟩
          case measure => simp [RowKit.intOf]; omega)
      · obtain rfl : nc = k := by omega
        have HE : Hid (s5 ++ codeT (m.code.take nc) = s ++ (headT m ++ codeT m.code)) := Lib.hid (by
          rw [HNC.out, List.take_length, HSE.out, HS4.out, HCL.out]
          unfold headT
          simp only [List.append_assoc])
        go_wp2_with fail
        first | (refine bodyPost_end (results_none rfl _ _ _) rfl ?_) | (simp only [Exit.inBlock, Exit.then]; refine bodyPost_end (results_none rfl _ _ _) rfl ?_)
        rw [← HE.out]
        exact ⟨rfl, HK.out.bd, HK.out.kb⟩)
end Go.Proofs.YtmikibcgphkcfaaGreatDoor

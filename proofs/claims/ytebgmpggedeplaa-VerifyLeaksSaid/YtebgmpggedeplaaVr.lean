/- Package verify's law VerifyLeaks, plainly: a walk along a line. No program is named here but by what it imports. -/
import Derived.Test.YtebgmpggedeplaaVp
namespace Go.Proofs.Ytebgmpggedeplaa
open Go.RowKit Go.Lib Go.ChangeShapes Go.WideShapes
set_option linter.unusedVariables false
set_option linter.unusedSimpArgs false

def doneB (p : PlM) : Bool := !p.td
def front (A : List PlM) (st : List Int) (m : Nat) : List PlM := A ++ ⟨st, true, true⟩ :: List.replicate m default
theorem front_len (A : List PlM) (st : List Int) (m : Nat) : (front A st m).length = A.length + 1 + m := by simp [front]; omega
theorem idx_front : ∀ (A : List PlM) (st : List Int) (m : Nat), A.all doneB = true → idxP PlM.td (front A st m) = some A.length
  | [], st, m, _ => rfl
  | a :: r, st, m, h => by
    simp only [List.all_cons, Bool.and_eq_true] at h
    have h1 : a.td = false := by simpa [doneB] using h.1
    have e := idx_front r st m h.2
    unfold front at e ⊢
    simp [idxP, h1, e]
theorem front_at (A : List PlM) (st : List Int) (m : Nat) : (front A st m).getD A.length default = ⟨st, true, true⟩ := by simp [front, List.getD]
theorem off_front (A : List PlM) (st : List Int) (m : Nat) : off (front A st m) A.length = A ++ ⟨st, true, false⟩ :: List.replicate m default := by
  unfold off
  rw [front_at]
  simp [front]
theorem off_at (A : List PlM) (st : List Int) (m : Nat) : ((A ++ ⟨st, true, false⟩ :: List.replicate m default : List PlM)).getD A.length default = ⟨st, true, false⟩ := by simp [List.getD]
def lineB (i : InsM) : Bool := !(i.op == 23 || i.op == 24 || i.op == 39)
theorem line_follow {i : InsM} (h : lineB i = true) (pc : Int) : followP i pc = [pc + 1] := by
  simp [lineB] at h
  simp [followP, h]
theorem walk_err {B : BodyM} {A : List PlM} {st : List Int} {m f : Nat} {i : InsM} {e : Int} (hA : A.all doneB = true) (hi : B.code.getD A.length default = i) (hs : (stepP B i st).2 = e) (he : e ≠ 0) :
    walkP B (f + 1) (front A st m) = some ([], A.length, e) := by
  show (match idxP PlM.td (front A st m) with | none => _ | some pc => _) = _
  rw [idx_front A st m hA]
  have hd : (doP B (off (front A st m) A.length) A.length).2 = e := by
    unfold doP
    rw [off_front, off_at, hi, hs, if_neg he]
  simp only [hd, if_neg he]
theorem walk_step {B : BodyM} {A : List PlM} {st st' : List Int} {m f : Nat} {i : InsM} (hA : A.all doneB = true) (hi : B.code.getD A.length default = i) (hl : lineB i = true) (hs : stepP B i st = (st', 0)) :
    walkP B (f + 1) (front A st (m + 1)) = walkP B f (front (A ++ [⟨st, true, false⟩]) st' m) := by
  show (match idxP PlM.td (front A st (m + 1)) with | none => _ | some pc => _) = _
  rw [idx_front A st (m + 1) hA]
  have hd : doP B (off (front A st (m + 1)) A.length) A.length = (front (A ++ [⟨st, true, false⟩]) st' m, 0) := by
    unfold doP
    rw [off_front, off_at, hi, hs, if_pos rfl, line_follow hl]
    have hlen : ¬ (((A ++ ⟨st, true, false⟩ :: List.replicate (m + 1) default : List PlM)).length : Int) ≤ (A.length : Int) + 1 := by simp; omega
    have hn : ((A.length : Int) + 1).toNat = A.length + 1 := by omega
    have hg : ((A ++ ⟨st, true, false⟩ :: List.replicate (m + 1) default : List PlM)).getD (A.length + 1) default = default := by simp [List.getD, List.getElem?_append_right]
    show bringP st' _ [(A.length : Int) + 1] = _
    unfold bringP
    rw [if_neg hlen, hn, hg]
    show bringP st' _ [] = _
    unfold bringP
    simp [front, List.replicate_succ, List.set_append_right]
  simp only [hd, if_true]
theorem idx_done : ∀ (A : List PlM), A.all doneB = true → idxP PlM.td A = none
  | [], _ => rfl
  | a :: r, h => by
    simp only [List.all_cons, Bool.and_eq_true] at h
    have h1 : a.td = false := by simpa [doneB] using h.1
    simp [idxP, h1, idx_done r h.2]
theorem walk_ret {B : BodyM} {A : List PlM} {st st' : List Int} {m f : Nat} {i : InsM} (hA : A.all doneB = true) (hi : B.code.getD A.length default = i) (hl : i.op = 39) (hs : stepP B i st = (st', 0)) :
    ∃ P, walkP B (f + 2) (front A st m) = some (P, 0, 0) := by
  refine ⟨A ++ ⟨st, true, false⟩ :: List.replicate m default, ?_⟩
  show (match idxP PlM.td (front A st m) with | none => _ | some pc => _) = _
  rw [idx_front A st m hA]
  have hd : doP B (off (front A st m) A.length) A.length = (A ++ ⟨st, true, false⟩ :: List.replicate m default, 0) := by
    unfold doP
    rw [off_front, off_at, hi, hs, if_pos rfl, show followP i A.length = [] by simp [followP, hl]]
    rfl
  simp only [hd, if_true]
  show (match idxP PlM.td (A ++ ⟨st, true, false⟩ :: List.replicate m default) with | none => _ | some pc => _) = _
  rw [idx_done _ (by simp [doneB, hA]; right; rfl)]
/-- a line of code done to a stack -/
def runP (B : BodyM) : List InsM → List Int → Option (List Int)
  | [], st => some st
  | i :: r, st => if lineB i = true ∧ (stepP B i st).2 = 0 then runP B r (stepP B i st).1 else none
theorem run_append {B : BodyM} : ∀ (D E : List InsM) (st st' : List Int), runP B D st = some st' → runP B (D ++ E) st = runP B E st'
  | [], E, st, st', h => by simp [runP] at h; subst h; rfl
  | i :: r, E, st, st', h => by
    unfold runP at h
    split at h
    · rename_i hc
      have := run_append r E _ st' h
      simp [runP, hc, this]
    · cases h
theorem walk_line {B : BodyM} : ∀ (D : List InsM) (A : List PlM) (st st' : List Int) (m f : Nat), A.all doneB = true → (∀ k, k < D.length → B.code.getD (A.length + k) default = D.getD k default) → runP B D st = some st' →
    ∃ A', A'.length = A.length + D.length ∧ A'.all doneB = true ∧ walkP B (f + D.length) (front A st (D.length + m)) = walkP B f (front A' st' m)
  | [], A, st, st', m, f, hA, _, h => by
    simp [runP] at h; subst h
    exact ⟨A, rfl, hA, by simp⟩
  | i :: r, A, st, st', m, f, hA, hc, h => by
    unfold runP at h
    split at h
    · rename_i hl
      have hi := hc 0 (by simp)
      simp only [Nat.add_zero, List.getD_cons_zero] at hi
      have hs : stepP B i st = ((stepP B i st).1, 0) := by rw [← hl.2]
      obtain ⟨A', h1, h2, h3⟩ := walk_line r (A ++ [⟨st, true, false⟩]) _ st' m f (by simp [doneB, hA]) (fun k hk => by
        have := hc (k + 1) (by simpa using hk)
        simp only [List.getD_cons_succ] at this
        rw [← this]
        congr 1
        simp; omega) h
      refine ⟨A', by rw [h1]; simp; omega, h2, ?_⟩
      rw [show (i :: r).length + m = (r.length + m) + 1 by simp; omega, show f + (i :: r).length = (f + r.length) + 1 by simp; omega, walk_step hA hi hl.1 hs, h3]
    · cases h

def leakStep (j : Int) : List InsM :=
  if j = 0 then [⟨1, 3, 0⟩, ⟨6, 0, 0⟩] else if j = 1 then [⟨15, 0, 0⟩] else if j = 2 then [⟨3, 1, 0⟩, ⟨2, 1, 0⟩] else if j = 3 then [⟨34, 0, 0⟩, ⟨33, 0, 0⟩]
  else if j = 4 then [⟨1, 0, 0⟩, ⟨1, 1, 0⟩, ⟨22, 0, 0⟩] else if j = 5 then [⟨5, 0, 0⟩, ⟨19, 0, 0⟩] else if j = 6 then [⟨1, 7, 0⟩, ⟨21, 0, 0⟩] else [⟨37, 1, 0⟩]
def leakHead : List InsM := [⟨35, 2, 0⟩, ⟨1, 0, 0⟩, ⟨29, 0, 0⟩]
def leakMid (L : List Int) : List InsM := L.flatMap (fun x => leakStep (x % 8))
def leakTail (j : Int) : List InsM :=
  if j = 0 then [⟨24, 0, 0⟩] else if j = 1 then [⟨27, 4, 0⟩, ⟨4, 0, 0⟩] else if j = 2 then [⟨3, 0, 0⟩] else if j = 3 then [⟨34, 1, 0⟩]
  else if j = 4 then [⟨1, 2, 0⟩, ⟨17, 0, 0⟩, ⟨4, 0, 0⟩] else if j = 5 then [⟨5, 0, 0⟩, ⟨18, 0, 0⟩, ⟨4, 0, 0⟩] else if j = 6 then [⟨3, 1, 0⟩] else if j = 7 then [⟨34, 0, 0⟩] else [⟨4, 0, 0⟩]
def leakAt (j : Int) : Nat := if j = 4 then 1 else if j = 5 then 1 else 0
def leakYes (j : Int) : Bool := decide (j < 6)
def leakCode (L : List Int) (j : Int) : List InsM := (leakHead ++ leakMid L) ++ leakTail j ++ [⟨39, 0, 0⟩]
def leakI (C : List InsM) : ImgM := ⟨aName, [2, 1], [], [⟨[], 0, [1, 2], C⟩, ⟨[2], 2, [], [⟨2, 0, 0⟩, ⟨39, 0, 0⟩]⟩], []⟩
theorem leak_step (C : List InsM) (j : Int) (h1 : 0 ≤ j) (h2 : j < 8) : runP (bodyP (leakI C) 0) (leakStep j) [2] = some [2] := by
  have : j = 0 ∨ j = 1 ∨ j = 2 ∨ j = 3 ∨ j = 4 ∨ j = 5 ∨ j = 6 ∨ j = 7 := by omega
  rcases this with rfl | rfl | rfl | rfl | rfl | rfl | rfl | rfl <;> (show _ = _; kernel_rfl)
theorem leak_mid (C : List InsM) : ∀ L : List Int, runP (bodyP (leakI C) 0) (leakMid L) [2] = some [2]
  | [] => rfl
  | x :: r => by
    show runP _ (leakStep (x % 8) ++ leakMid r) [2] = _
    rw [run_append _ _ _ _ (leak_step C _ (Int.emod_nonneg _ (by decide)) (Int.emod_lt_of_pos _ (by decide))), leak_mid C r]
theorem leak_head (C : List InsM) : runP (bodyP (leakI C) 0) leakHead [] = some [2] := by kernel_rfl
theorem leak_pre (C : List InsM) (L : List Int) : runP (bodyP (leakI C) 0) (leakHead ++ leakMid L) [] = some [2] := by
  rw [run_append _ _ _ _ (leak_head C), leak_mid C L]

theorem getD_app {α : Type} (X Y : List α) (k : Nat) (d : α) : (X ++ Y).getD (X.length + k) d = Y.getD k d := by
  simp [List.getD, List.getElem?_append_right]
def okI (C : List InsM) (x : InsM) : Bool := insB x && !astrayB (bodyP (leakI C) 0) x
theorem ok_step (C : List InsM) (j : Int) (h1 : 0 ≤ j) (h2 : j < 8) : (leakStep j).all (okI C) = true := by
  have : j = 0 ∨ j = 1 ∨ j = 2 ∨ j = 3 ∨ j = 4 ∨ j = 5 ∨ j = 6 ∨ j = 7 := by omega
  rcases this with rfl | rfl | rfl | rfl | rfl | rfl | rfl | rfl <;> (show _ = _; kernel_rfl)
theorem ok_mid (C : List InsM) : ∀ L : List Int, (leakMid L).all (okI C) = true
  | [] => rfl
  | x :: r => by
    show (leakStep (x % 8) ++ leakMid r).all (okI C) = true
    rw [List.all_append, ok_step C _ (Int.emod_nonneg _ (by decide)) (Int.emod_lt_of_pos _ (by decide)), ok_mid C r]
    rfl
theorem ok_jump (C : List InsM) (h : 0 < C.length) : okI C ⟨24, 0, 0⟩ = true := by
  have e : astrayB (bodyP (leakI C) 0) ⟨24, 0, 0⟩ = decide ((C.length : Int) ≤ 0) := rfl
  have e2 : insB ⟨24, 0, 0⟩ = true := rfl
  unfold okI
  rw [e, e2, decide_eq_false (by omega)]
  rfl
theorem nine {j : Int} (h1 : 0 ≤ j) (h2 : j < 9) : j = 0 ∨ j = 1 ∨ j = 2 ∨ j = 3 ∨ j = 4 ∨ j = 5 ∨ j = 6 ∨ j = 7 ∨ j = 8 := by omega
theorem ok_tail (C : List InsM) (h : 0 < C.length) (j : Int) (h1 : 0 ≤ j) (h2 : j < 9) : (leakTail j).all (okI C) = true := by
  rcases nine h1 h2 with rfl | rfl | rfl | rfl | rfl | rfl | rfl | rfl | rfl
  · show (okI C ⟨24, 0, 0⟩ && true) = true
    rw [ok_jump C h]; rfl
  all_goals rfl
theorem ok_code0 (C : List InsM) (h : 0 < C.length) (L : List Int) (j : Int) (h1 : 0 ≤ j) (h2 : j < 9) : ((leakHead ++ leakMid L) ++ leakTail j ++ [(⟨39, 0, 0⟩ : InsM)]).all (okI C) = true := by
  rw [List.all_append, List.all_append, List.all_append, ok_mid, ok_tail C h j h1 h2]
  rfl
theorem code_pos (L : List Int) (j : Int) : 0 < (leakCode L j).length := by simp [leakCode]; omega
theorem ok_code (L : List Int) (j : Int) (h1 : 0 ≤ j) (h2 : j < 9) : (leakCode L j).all (okI (leakCode L j)) = true := ok_code0 _ (code_pos L j) L j h1 h2
theorem step_short (j : Int) : (leakStep j).length ≤ 3 := by
  unfold leakStep
  repeat' split
  all_goals simp
theorem mid_len : ∀ L : List Int, (leakMid L).length ≤ 3 * L.length
  | [] => by simp [leakMid]
  | x :: r => by
    have h1 := step_short (x % 8)
    have h2 := mid_len r
    show (leakStep (x % 8) ++ leakMid r).length ≤ _
    rw [List.length_append, List.length_cons]
    omega
theorem tail_short (j : Int) : (leakTail j).length ≤ 3 := by
  unfold leakTail
  repeat' split
  all_goals simp
theorem code_len (L : List Int) (j : Int) (hL : L.length ≤ 12) : (leakCode L j).length ≤ 43 := by
  have h1 := mid_len L
  have h2 := tail_short j
  simp only [leakCode, List.length_append, leakHead, List.length_cons, List.length_nil]
  omega
theorem leak_img (C : List InsM) : imgB insB (leakI C) = ((decide (0 < C.length) && (decide (C.length ≤ 120) && C.all insB)) && true) := by
  have hn : nmB aName = true := by kernel_rfl
  have h1 : (decide (0 < C.length) && (decide (C.length ≤ 120) && C.all insB)) = metB insB ⟨[], 0, [1, 2], C⟩ := rfl
  have h2 : metB insB ⟨[2], 2, [], [⟨2, 0, 0⟩, ⟨39, 0, 0⟩]⟩ = true := by kernel_rfl
  rw [h1]
  show (nmB aName && (true && (true && (true && ((true && (metB insB ⟨[], 0, [1, 2], C⟩ && (metB insB ⟨[2], 2, [], [⟨2, 0, 0⟩, ⟨39, 0, 0⟩]⟩ && true))) && (true && true)))))) = _
  rw [hn, h2]
  simp
theorem leak_right (L : List Int) (j : Int) (hL : L.length ≤ 12) (h1 : 0 ≤ j) (h2 : j < 9) : imgB insB (leakI (leakCode L j)) = true := by
  have hok := List.all_eq_true.1 (ok_code L j h1 h2)
  have hl := code_len L j hL
  have h0 := code_pos L j
  rw [leak_img, decide_eq_true h0, decide_eq_true (show (leakCode L j).length ≤ 120 by omega), show (leakCode L j).all insB = true from List.all_eq_true.2 (fun x hx => by
    have := hok x hx
    simp only [okI, Bool.and_eq_true] at this
    exact this.1)]
  rfl
theorem leak_astray (L : List Int) (j : Int) (h1 : 0 ≤ j) (h2 : j < 9) : idxP (astrayB (bodyP (leakI (leakCode L j)) 0)) (leakCode L j) = none := by
  have hok := List.all_eq_true.1 (ok_code L j h1 h2)
  refine idx_none (d := default) (fun k hk => ?_)
  have := hok _ (mem_getD hk)
  simp only [okI, Bool.and_eq_true] at this
  simpa using this.2
theorem leak_m1 (C : List InsM) : ∃ P, methP (leakI C) 1 100 = some (P, 0, 0) := ⟨((methP (leakI C) 1 100).getD ([], 0, 0)).1, by kernel_rfl⟩
theorem start_front (n : Nat) : start (n + 1) = front [] [] n := by simp [start, front, List.replicate_succ]
set_option maxRecDepth 100000 in
set_option maxHeartbeats 4000000 in
theorem leak_m0 (L : List Int) (j : Int) (hL : L.length ≤ 12) (h1 : 0 ≤ j) (h2 : j < 9) : ∃ P, methP (leakI (leakCode L j)) 0 100 = some (P, if leakYes j then (leakHead ++ leakMid L).length + leakAt j else 0, if leakYes j then 12 else 0) := by
  obtain ⟨T, hT⟩ : ∃ T, T = leakTail j ++ [⟨39, 0, 0⟩] := ⟨_, rfl⟩
  obtain ⟨X, hX⟩ : ∃ X, X = leakHead ++ leakMid L := ⟨_, rfl⟩
  have hC : leakCode L j = X ++ T := by rw [hT, hX]; simp [leakCode]
  have hlen := code_len L j hL
  obtain ⟨m, hm⟩ : ∃ m, T.length = m + 1 := ⟨(leakTail j).length, by rw [hT]; simp⟩
  have hXl : X.length + (m + 1) ≤ 43 := by rw [hC, List.length_append, hm] at hlen; exact hlen
  have hw : methP (leakI (leakCode L j)) 0 100 = walkP (bodyP (leakI (leakCode L j)) 0) 100 (start (leakCode L j).length) := by
    show (match idxP (astrayB (bodyP (leakI (leakCode L j)) 0)) (leakCode L j) with | some pc => _ | none => _) = _
    rw [leak_astray L j h1 h2]
    rfl
  have hpre := leak_pre (leakCode L j) L
  rw [← hX] at hpre
  have hcode : ∀ k, (bodyP (leakI (leakCode L j)) 0).code.getD (X.length + k) default = T.getD k default := fun k => by
    show (leakCode L j).getD _ default = _
    rw [hC, getD_app]
  have hcode0 : ∀ k, k < X.length → (bodyP (leakI (leakCode L j)) 0).code.getD (([] : List PlM).length + k) default = X.getD k default := fun k hk => by
    show (leakCode L j).getD _ default = _
    rw [hC]
    simp [List.getD, List.getElem?_append_left, hk]
  obtain ⟨f1, hf1⟩ : ∃ f1, 100 = (f1 + 10) + X.length := ⟨90 - X.length, by omega⟩
  obtain ⟨A, hA1, hA2, hA3⟩ := walk_line X [] [] [2] m (f1 + 10) rfl hcode0 hpre
  rw [hw, show (leakCode L j).length = (X.length + m) + 1 by rw [hC, List.length_append, hm]; omega, start_front, hf1, hA3]
  simp only [List.length_nil, Nat.zero_add] at hA1
  rw [← hA1] at hcode
  rw [← hX, ← hA1]
  generalize hB : bodyP (leakI (leakCode L j)) 0 = B at *
  have hstep : ∀ i st, stepP B i st = stepP (bodyP (leakI (leakCode L j)) 0) i st := fun i st => by rw [hB]
  clear hw hpre hcode0 hA3 hC hX hXl hf1 hlen
  rcases nine h1 h2 with rfl | rfl | rfl | rfl | rfl | rfl | rfl | rfl | rfl
  · subst hT
    exact ⟨_, walk_err (i := ⟨24, 0, 0⟩) (e := 12) hA2 (hcode 0) (by rw [hstep]; kernel_rfl) (by decide)⟩
  · subst hT
    exact ⟨_, walk_err (i := ⟨27, 4, 0⟩) (e := 12) hA2 (hcode 0) (by rw [hstep]; kernel_rfl) (by decide)⟩
  · subst hT
    exact ⟨_, walk_err (i := ⟨3, 0, 0⟩) (e := 12) hA2 (hcode 0) (by rw [hstep]; kernel_rfl) (by decide)⟩
  · subst hT
    exact ⟨_, walk_err (i := ⟨34, 1, 0⟩) (e := 12) hA2 (hcode 0) (by rw [hstep]; kernel_rfl) (by decide)⟩
  · subst hT
    obtain rfl : m = 3 := by simpa [leakTail] using hm.symm
    rw [walk_step (st' := [2, 1]) (i := ⟨1, 2, 0⟩) hA2 (hcode 0) rfl (by rw [hstep]; kernel_rfl)]
    refine ⟨[], (walk_err (i := ⟨17, 0, 0⟩) (e := 12) (by simp [doneB, hA2]) (by rw [List.length_append]; exact hcode 1) (by rw [hstep]; kernel_rfl) (by decide)).trans ?_⟩
    simp [leakYes, leakAt]
  · subst hT
    obtain rfl : m = 3 := by simpa [leakTail] using hm.symm
    rw [walk_step (st' := [2, 2]) (i := ⟨5, 0, 0⟩) hA2 (hcode 0) rfl (by rw [hstep]; kernel_rfl)]
    refine ⟨[], (walk_err (i := ⟨18, 0, 0⟩) (e := 12) (by simp [doneB, hA2]) (by rw [List.length_append]; exact hcode 1) (by rw [hstep]; kernel_rfl) (by decide)).trans ?_⟩
    simp [leakYes, leakAt]
  · subst hT
    obtain rfl : m = 1 := by simpa [leakTail] using hm.symm
    rw [walk_step (st' := []) (i := ⟨3, 1, 0⟩) hA2 (hcode 0) rfl (by rw [hstep]; kernel_rfl)]
    exact walk_ret (st' := []) (i := ⟨39, 0, 0⟩) (by simp [doneB, hA2]) (by rw [List.length_append]; exact hcode 1) rfl (by rw [hstep]; kernel_rfl)
  · subst hT
    obtain rfl : m = 1 := by simpa [leakTail] using hm.symm
    rw [walk_step (st' := []) (i := ⟨34, 0, 0⟩) hA2 (hcode 0) rfl (by rw [hstep]; kernel_rfl)]
    exact walk_ret (st' := []) (i := ⟨39, 0, 0⟩) (by simp [doneB, hA2]) (by rw [List.length_append]; exact hcode 1) rfl (by rw [hstep]; kernel_rfl)
  · subst hT
    obtain rfl : m = 1 := by simpa [leakTail] using hm.symm
    rw [walk_step (st' := []) (i := ⟨4, 0, 0⟩) hA2 (hcode 0) rfl (by rw [hstep]; kernel_rfl)]
    exact walk_ret (st' := []) (i := ⟨39, 0, 0⟩) (by simp [doneB, hA2]) (by rw [List.length_append]; exact hcode 1) rfl (by rw [hstep]; kernel_rfl)
theorem leak_verify (L : List Int) (j : Int) (hL : L.length ≤ 12) (h1 : 0 ≤ j) (h2 : j < 9) : verifyP (leakI (leakCode L j)) 100 = some (0, if leakYes j then (leakHead ++ leakMid L).length + leakAt j else 0, if leakYes j then 12 else 0) := by
  obtain ⟨P, hP⟩ := leak_m0 L j hL h1 h2
  obtain ⟨P1, hP1⟩ := leak_m1 (leakCode L j)
  unfold verifyP
  rw [leak_right L j hL h1 h2, if_pos rfl]
  show fromP (leakI (leakCode L j)) 100 2 0 = _
  unfold fromP
  rw [hP]
  cases hy : leakYes j with
  | true => rfl
  | false =>
    show (if (0 : Int) = 0 then fromP (leakI (leakCode L j)) 100 1 1 else _) = _
    rw [if_pos rfl]
    unfold fromP
    rw [hP1]
    rfl
end Go.Proofs.Ytebgmpggedeplaa

/- Package text: Parse. -/
import Derived.Test.YtbjmmdomdijilabDoorTs
namespace Go.Proofs.YtbjmmdomdijilabDoor
open Go.RowKit Go.Shelf Go.Lib
set_option linter.unusedVariables false
set_option linter.unusedSimpArgs false
attribute [local go_sem] Oper.semAt_some

def zImg : ImgM := ⟨bs [], [], [], [], []⟩
def d0 : DrM := ⟨zImg, 0⟩
/-- line by line: the draft, and how many lines; none, and the line that is wrong -/
def pgo : DrM → Nat → List By → Option DrM × Nat
  | D, n, [] => (some D, n)
  | D, n, x :: xs => match takeD D x with
    | some D' => pgo D' (n + 1) xs
    | none => (none, n + 1)
def endP (r : Option DrM × Nat) : ImgM × Int × Int := match r with
  | (none, n) => (zImg, (n : Int), 5)
  | (some D, n) => match imgB insB D.img with
    | true => (D.img, 0, 0)
    | false => (zImg, (n : Int) + 1, 5)
/-- what Parse answers -/
def parseT (l : By) : ImgM × Int × Int := endP (pgo d0 0 (linesP l))
theorem endP_yes {D : DrM} {n : Nat} (h : true = imgB insB D.img) : endP (some D, n) = (D.img, 0, 0) := by
  show (match imgB insB D.img with | true => (D.img, (0 : Int), (0 : Int)) | false => (zImg, (n : Int) + 1, 5)) = _
  rw [← h]
theorem endP_no {D : DrM} {n : Nat} (h : false = imgB insB D.img) : endP (some D, n) = (zImg, (n : Int) + 1, 5) := by
  show (match imgB insB D.img with | true => (D.img, (0 : Int), (0 : Int)) | false => (zImg, (n : Int) + 1, 5)) = _
  rw [← h]
theorem upd_low {X : Nat} {w W : World} (h : Below X w W) (hX : w.heap.size = X) : Upd (fun _ => False) w W := by
  subst hX
  exact upd_of_below h
theorem pgo_some {D D' : DrM} {n : Nat} {x : By} {xs : List By} (h : takeD D x = some D') : pgo D n (x :: xs) = pgo D' (n + 1) xs := by
  show (match takeD D x with | some D' => pgo D' (n + 1) xs | none => (none, n + 1)) = _
  rw [h]
theorem pgo_none {D : DrM} {n : Nat} {x : By} {xs : List By} (h : takeD D x = none) : pgo D n (x :: xs) = (none, n + 1) := by
  show (match takeD D x with | some D' => pgo D' (n + 1) xs | none => (none, n + 1)) = _
  rw [h]
theorem lines_len : ∀ l : By, (linesP l).length ≤ l.length
  | [] => Nat.le_refl _
  | b :: t => by
    have ih := lines_len t
    show (match b == 10 with | true => [] :: linesP t | false => match linesP t with | [] => [[b]] | x :: xs => (b :: x) :: xs).length ≤ _
    cases b == 10 with
    | true => simp; exact ih
    | false =>
      cases h : linesP t with
      | nil => simp
      | cons x xs =>
        rw [h] at ih
        simp at ih ⊢
        omega
theorem lines_sub : ∀ (l : By) (x : By), x ∈ linesP l → x.length ≤ l.length
  | [], x, h => by simp [linesP] at h
  | b :: t, x, h => by
    have ih := lines_sub t
    replace h : x ∈ (match b == 10 with | true => [] :: linesP t | false => match linesP t with | [] => [[b]] | x :: xs => (b :: x) :: xs) := h
    cases hb : b == 10 with
    | true =>
      rw [hb] at h
      simp at h
      rcases h with rfl | h
      · simp
      · have := ih x h; simp; omega
    | false =>
      rw [hb] at h
      cases hl : linesP t with
      | nil => rw [hl] at h; simp at h; subst h; simp
      | cons y ys =>
        rw [hl] at h
        simp at h
        rcases h with rfl | h
        · have := ih y (by rw [hl]; simp); simp; omega
        · have := ih x (by rw [hl]; simp [h]); simp; omega
theorem tLines (l : By) (w : World) : Calls Tryd.prog 19 #[.string (bs l)] w fun e w' => e = .returned (.func (.func LF) #[] #[.pointer (some ⟨w.heap.size, 0, none⟩)]) ∧ w' = w.alloc (.cells #[.string (bs l)] 9) := by
  go_enter Tryd.func19, Tryd.ntmps19
  go_wp2_with fail
  go_ret
  exact ⟨rfl, rfl⟩
abbrev IMG : TypeId := 29
abbrev ERR : TypeId := 31
abbrev PDT : TypeId := 56
abbrev z5 : Array Value := #[.string { data := #[] }, .slice none 0 0, .slice none 0 0, .slice none 0 0, .slice none 0 0]
/-- Parse's boxes, as they are made -/
def pw0 (w : World) (X : Nat) (l : By) : World :=
  ((((((w.alloc (.cells z5 IMG)).alloc (.cells #[.int .i64 0] INT)).alloc (.cells #[.int .i64 0] ERR)).alloc (.cells #[.string { data := #[] }, .slice none 0 0, .slice none 0 0, .slice none 0 0, .slice none 0 0, .int .i64 0] DT)).alloc (.cells #[.pointer (some ⟨X + 3, 0, none⟩)] PDT)).alloc (.cells #[.int .i64 0] INT)).alloc (.cells #[.string (bs l)] 9)
/-- Parse's boxes, but the draft's -/
structure Bx (X : Nat) (w W : World) (c : Int) (C : Array Value) (r1 r2 : Int) : Prop where
  b0 : W.heap[X]? = some (.cells C IMG (0, 0))
  b1 : W.heap[X + 1]? = some (.cells #[.int .i64 r1] INT (0, 0))
  b2 : W.heap[X + 2]? = some (.cells #[.int .i64 r2] ERR (0, 0))
  b4 : W.heap[X + 4]? = some (.cells #[.pointer (some ⟨X + 3, 0, none⟩)] PDT (0, 0))
  b5 : W.heap[X + 5]? = some (.cells #[.int .i64 c] INT (0, 0))
  low : Below X w W
section
variable {X : Nat} {w W W' : World} {c : Int} {C : Array Value} {r1 r2 : Int}
theorem Bx.keep (h : Bx X w W c C r1 r2) (hk : ∀ k, k < X + 7 → k ≠ X + 3 → W'.heap[k]? = W.heap[k]?) (hl : Below X w W') : Bx X w W' c C r1 r2 :=
  ⟨(hk _ (by omega) (by omega)).trans h.b0, (hk _ (by omega) (by omega)).trans h.b1, (hk _ (by omega) (by omega)).trans h.b2, (hk _ (by omega) (by omega)).trans h.b4, (hk _ (by omega) (by omega)).trans h.b5, hl⟩
theorem own_bx {β : Type} (hX : X ≤ w.heap.size) {f : β → Int} {g h : β → Int} : OwnFrom (X + 7) (fun (s : β) W => Bx X w W (f s) C (g s) (h s)) := fun s A B row hs hg hr =>
  have hr' : ∀ r, row = some r → ∃ o : Obj, A.heap[r]? = some o ∧ o.isCells = false := fun r e => (hr r e).2
  ⟨(grownBy_keeps_cells hg hr' hs.b0 rfl).trans hs.b0, (grownBy_keeps_cells hg hr' hs.b1 rfl).trans hs.b1, (grownBy_keeps_cells hg hr' hs.b2 rfl).trans hs.b2, (grownBy_keeps_cells hg hr' hs.b4 rfl).trans hs.b4, (grownBy_keeps_cells hg hr' hs.b5 rfl).trans hs.b5,
    hs.low.grown hg (Nat.le_trans hX hs.low.size) (fun k e => Nat.le_trans (by omega) (hr k e).1)⟩
theorem DrAt.grown {B b : Nat} {D : DrM} {V : DrV} (h : DrAt B W b D V) {row : Option Nat} (hg : W.grownBy W' row) (hr : ∀ r, row = some r → B ≤ r ∧ ∃ o : Obj, W.heap[r]? = some o ∧ o.isCells = false) : DrAt B W' b D V :=
  h.keep (S := fun k => row = some k) ⟨hg.os, hg.tape, hg.output, hg.size, fun k hk hS => hg.block k hk (fun e => hS e.symm)⟩ (fun k e => by
    obtain ⟨h1, o, ho, hc⟩ := hr k e
    have := h.bB
    refine ⟨by omega, fun _ C e fr hk => ?_⟩
    rw [ho] at hk
    cases hk
    cases hc)
end
theorem bx_cells {X : Nat} {w W : World} {c r1 r2 : Int} {C : Array Value} (h : Bx X w W c C r1 r2) :
    (∀ q, W.cell? ⟨X, q, none⟩ = C[q]? ∧ W.frozen? ⟨X, q, none⟩ = false) ∧ (W.cell? ⟨X + 1, 0, none⟩ = some (.int .i64 r1) ∧ W.frozen? ⟨X + 1, 0, none⟩ = false) ∧ (W.cell? ⟨X + 2, 0, none⟩ = some (.int .i64 r2) ∧ W.frozen? ⟨X + 2, 0, none⟩ = false) ∧ W.cell? ⟨X + 4, 0, none⟩ = some (.pointer (some ⟨X + 3, 0, none⟩)) ∧ W.cell? ⟨X + 5, 0, none⟩ = some (.int .i64 c) :=
  ⟨fun q => tCell h.b0 q, tCell h.b1 0, tCell h.b2 0, (tCell h.b4 0).1, (tCell h.b5 0).1⟩
/-- what holds ahead of each line -/
def Pi (X : Nat) (w : World) (pre : List By) (W : World) : Prop :=
  (∃ D V, DrAt (X + 7) W (X + 3) D V ∧ GoodD D ∧ OkI D.img ∧ ∀ rest, pgo d0 0 (pre.map cap ++ rest) = pgo D pre.length rest) ∧ Bx X w W pre.length z5 0 0
def Px (X : Nat) (w : World) (c : Code) (pre : List By) (W : World) : Prop :=
  (c = .ret ∧ ∀ rest, pgo d0 0 (pre.map cap ++ rest) = (none, pre.length)) ∧ ∃ cn, Bx X w W cn z5 pre.length 5
theorem own_pi {X : Nat} {w : World} (hX : X ≤ w.heap.size) : OwnFrom (X + 7) (Pi X w) := fun s A B row hs hg hr => by
  obtain ⟨⟨D, V, hD, hG, hO, hP⟩, hb⟩ := hs
  exact ⟨⟨D, V, hD.grown hg hr, hG, hO, hP⟩, own_bx (C := z5) (f := fun s : List By => (s.length : Int)) (g := fun _ => 0) (h := fun _ => 0) hX s A B row hb hg hr⟩
theorem own_px {X : Nat} {w : World} (hX : X ≤ w.heap.size) (c : Code) : OwnFrom (X + 7) (Px X w c) := fun s A B row hs hg hr => by
  obtain ⟨hc, cn, hb⟩ := hs
  exact ⟨hc, cn, own_bx (C := z5) (f := fun s : List By => cn) (g := fun s : List By => (s.length : Int)) (h := fun _ => 5) hX s A B row hb hg hr⟩
theorem pw0_size (w : World) (X : Nat) (l : By) : (pw0 w X l).heap.size = w.heap.size + 7 := by simp [pw0]
theorem hp_new (W : World) (C : Array Value) (t : TypeId) {k : Nat} (h : k = W.heap.size) : (W.alloc (.cells C t)).heap[k]? = some (.cells C t (0, 0)) := by rw [h]; exact World.alloc_heap_new W _
theorem hp_old (W : World) (o : Obj) {k : Nat} {o' : Obj} (h : W.heap[k]? = some o') : (W.alloc o).heap[k]? = some o' := (Below.heap_alloc W o k (Array.getElem?_eq_some_iff.1 h).1).trans h
theorem pw0_at (w : World) (l : By) (k : Nat) : (pw0 w w.heap.size l).heap[w.heap.size + k]? = if k = 0 then some (.cells z5 IMG (0, 0)) else if k = 1 then some (.cells #[.int .i64 0] INT (0, 0)) else if k = 2 then some (.cells #[.int .i64 0] ERR (0, 0)) else if k = 3 then some (.cells #[.string { data := #[] }, .slice none 0 0, .slice none 0 0, .slice none 0 0, .slice none 0 0, .int .i64 0] DT (0, 0)) else if k = 4 then some (.cells #[.pointer (some ⟨w.heap.size + 3, 0, none⟩)] PDT (0, 0)) else if k = 5 then some (.cells #[.int .i64 0] INT (0, 0)) else if k = 6 then some (.cells #[.string (bs l)] 9 (0, 0)) else none := by
  by_cases hk : k < 7
  · have hsz : ∀ (W : World) (o : Obj), (W.alloc o).heap.size = W.heap.size + 1 := fun W o => World.size_alloc W o
    rcases (by omega : k = 0 ∨ k = 1 ∨ k = 2 ∨ k = 3 ∨ k = 4 ∨ k = 5 ∨ k = 6) with rfl | rfl | rfl | rfl | rfl | rfl | rfl
    · exact hp_old _ _ (hp_old _ _ (hp_old _ _ (hp_old _ _ (hp_old _ _ (hp_old _ _ (hp_new _ _ _ (by omega)))))))
    · exact hp_old _ _ (hp_old _ _ (hp_old _ _ (hp_old _ _ (hp_old _ _ (hp_new _ _ _ (by simp only [hsz]))))))
    · exact hp_old _ _ (hp_old _ _ (hp_old _ _ (hp_old _ _ (hp_new _ _ _ (by simp only [hsz])))))
    · exact hp_old _ _ (hp_old _ _ (hp_old _ _ (hp_new _ _ _ (by simp only [hsz]))))
    · exact hp_old _ _ (hp_old _ _ (hp_new _ _ _ (by simp only [hsz])))
    · exact hp_old _ _ (hp_new _ _ _ (by simp only [hsz]))
    · exact hp_new _ _ _ (by simp only [hsz])
  · rw [Array.getElem?_eq_none (by rw [pw0_size]; omega)]
    rw [if_neg (by omega), if_neg (by omega), if_neg (by omega), if_neg (by omega), if_neg (by omega), if_neg (by omega), if_neg (by omega)]
theorem pw0_low (w : World) (X : Nat) (l : By) : Below w.heap.size w (pw0 w X l) := by
  unfold pw0
  exact (((((((Below.refl _ w).alloc (Nat.le_refl _) _).alloc (by simp) _).alloc (by simp; omega) _).alloc (by simp; omega) _).alloc (by simp; omega) _).alloc (by simp; omega) _).alloc (by simp; omega) _
theorem pi_start (w : World) (l : By) : Pi w.heap.size w [] (pw0 w w.heap.size l) := by
  have hs := pw0_size w w.heap.size l
  refine ⟨⟨d0, ⟨.slice none 0 0, .slice none 0 0, .slice none 0 0, .slice none 0 0, [], []⟩, ?_, fun h => by simp [d0] at h, ⟨by simp [d0, zImg, maxLen, bs_size], by simp [d0, zImg, okN], by simp [d0, zImg], by simp [d0, zImg], by simp [d0, zImg, okN]⟩, fun _ => rfl⟩, pw0_at w l 0, pw0_at w l 1, pw0_at w l 2, pw0_at w l 4, pw0_at w l 5, pw0_low _ _ _⟩
  refine ⟨(pw0_at w l 3).trans rfl, Row.nil _ _ _ _, Row.nil _ _ _ _, Row.nil _ _ _ _, Row.nil _ _ _ _, rfl, rfl, ?_, ?_, ?_, ?_, ?_, ?_, ?_, ?_, ?_, ?_, ?_, ?_, by omega, by omega, ?_, ?_, ?_, ?_, ?_⟩
  all_goals simp [d0, zImg, DrV.ro, Ap, Value.ownBlock]
section
variable {B b : Nat} {w : World} {D : DrM} {V : DrV}
theorem take_yes (hD : DrAt B w b D V) (hg : GoodD D) {line : By} (hl : line.length ≤ maxLen) {D' : DrM} (ht : takeD D line = some D') : Calls Tryd.prog 20 #[.pointer (some ⟨b, 0, none⟩), .string (bs line)] w fun e w' => e = .returned (.bool true) ∧ (∃ V', DrAt B w' b D' V') ∧ Upd (fun k => k = b ∨ B ≤ k) w w' ∧ KeepsOthers w w' := by
  refine (tTake hD hg line hl).mono ?_
  rintro e w' ⟨rfl, h, hu, hk⟩
  exact ⟨by rw [ht]; rfl, h _ ht, hu, hk⟩
theorem take_no (hD : DrAt B w b D V) (hg : GoodD D) {line : By} (hl : line.length ≤ maxLen) (ht : takeD D line = none) : Calls Tryd.prog 20 #[.pointer (some ⟨b, 0, none⟩), .string (bs line)] w fun e w' => e = .returned (.bool false) ∧ Upd (fun k => k = b ∨ B ≤ k) w w' ∧ KeepsOthers w w' := by
  refine (tTake hD hg line hl).mono ?_
  rintro e w' ⟨rfl, -, hu, hk⟩
  exact ⟨by rw [ht]; rfl, hu, hk⟩
end
/-- the results are stored -/
abbrev fill (W : World) (X : Nat) (a0 a1 a2 a3 a4 : Value) (n m : Int) : World :=
  ((((((W.setCell ⟨X, 0, none⟩ a0).setCell ⟨X, 1, none⟩ a1).setCell ⟨X, 2, none⟩ a2).setCell ⟨X, 3, none⟩ a3).setCell ⟨X, 4, none⟩ a4).setCell ⟨X + 1, 0, none⟩ (.int .i64 n)).setCell ⟨X + 2, 0, none⟩ (.int .i64 m)
section
variable {X : Nat} {w W : World} {c : Int} {b0 b1 b2 b3 b4 : Value} {r1 r2 : Int}
theorem fill_bx (h : Bx X w W c #[b0, b1, b2, b3, b4] r1 r2) (a0 a1 a2 a3 a4 : Value) (n m : Int) : Bx X w (fill W X a0 a1 a2 a3 a4 n m) c #[a0, a1, a2, a3, a4] n m := by
  have ho : ∀ (W : World) (q : Nat) (u : Value) (g k : Nat), k ≠ g → (W.setCell ⟨g, q, none⟩ u).heap[k]? = W.heap[k]? := fun W q u g k hk => tOff q u hk
  refine ⟨?_, ?_, ?_, ?_, ?_, ?_⟩
  · rw [ho _ _ _ _ _ (by omega), ho _ _ _ _ _ (by omega)]
    exact (tPut (tPut (tPut (tPut (tPut h.b0 0 _) 1 _) 2 _) 3 _) 4 _).trans (by simp)
  · rw [ho _ _ _ _ _ (by omega)]
    refine (tPut (C := #[.int .i64 r1]) (t := INT) ?_ 0 _).trans (by simp)
    rw [ho _ _ _ _ _ (by omega), ho _ _ _ _ _ (by omega), ho _ _ _ _ _ (by omega), ho _ _ _ _ _ (by omega), ho _ _ _ _ _ (by omega)]
    exact h.b1
  · refine (tPut (C := #[.int .i64 r2]) (t := ERR) ?_ 0 _).trans (by simp)
    rw [ho _ _ _ _ _ (by omega), ho _ _ _ _ _ (by omega), ho _ _ _ _ _ (by omega), ho _ _ _ _ _ (by omega), ho _ _ _ _ _ (by omega), ho _ _ _ _ _ (by omega)]
    exact h.b2
  · rw [ho _ _ _ _ _ (by omega), ho _ _ _ _ _ (by omega), ho _ _ _ _ _ (by omega), ho _ _ _ _ _ (by omega), ho _ _ _ _ _ (by omega), ho _ _ _ _ _ (by omega), ho _ _ _ _ _ (by omega)]
    exact h.b4
  · rw [ho _ _ _ _ _ (by omega), ho _ _ _ _ _ (by omega), ho _ _ _ _ _ (by omega), ho _ _ _ _ _ (by omega), ho _ _ _ _ _ (by omega), ho _ _ _ _ _ (by omega), ho _ _ _ _ _ (by omega)]
    exact h.b5
  · exact ((((((h.low.setCell (p := ⟨X, 0, none⟩) (Nat.le_refl _) _).setCell (p := ⟨X, 1, none⟩) (Nat.le_refl _) _).setCell (p := ⟨X, 2, none⟩) (Nat.le_refl _) _).setCell (p := ⟨X, 3, none⟩) (Nat.le_refl _) _).setCell (p := ⟨X, 4, none⟩) (Nat.le_refl _) _).setCell (p := ⟨X + 1, 0, none⟩) (Nat.le_add_right _ _) _).setCell (p := ⟨X + 2, 0, none⟩) (Nat.le_add_right _ _) _
theorem fill_ko (W : World) (X : Nat) (a0 a1 a2 a3 a4 : Value) (n m : Int) : KeepsOthers W (fill W X a0 a1 a2 a3 a4 n m) :=
  (((((((KeepsOthers.setCell _ _ _).trans (KeepsOthers.setCell _ _ _)).trans (KeepsOthers.setCell _ _ _)).trans (KeepsOthers.setCell _ _ _)).trans (KeepsOthers.setCell _ _ _)).trans (KeepsOthers.setCell _ _ _)).trans (KeepsOthers.setCell _ _ _))
theorem fill_dr {D : DrM} {V : DrV} (h : DrAt (X + 7) W (X + 3) D V) (a0 a1 a2 a3 a4 : Value) (n m : Int) : DrAt (X + 7) (fill W X a0 a1 a2 a3 a4 n m) (X + 3) D V := by
  have hA : ∀ (W : World) (g : Nat), g < X + 3 → Alien (X + 7) (X + 3) W (fun k => k = g) := fun W g hg k hk => by
    have hk : k = g := hk
    exact ⟨by omega, fun h => by omega⟩
  exact (((((((h.keep (updBox _ X 0 _) (hA _ _ (by omega))).keep (updBox _ X 1 _) (hA _ _ (by omega))).keep (updBox _ X 2 _) (hA _ _ (by omega))).keep (updBox _ X 3 _) (hA _ _ (by omega))).keep (updBox _ X 4 _) (hA _ _ (by omega))).keep (updBox _ (X + 1) 0 _) (hA _ _ (by omega))).keep (updBox _ (X + 2) 0 _) (hA _ _ (by omega)))
theorem grown_bx {C : Array Value} (h : Bx X w W c C r1 r2) (hX : X ≤ w.heap.size) {g : Nat} (hg : X + 7 ≤ g) (hk : W.heap[g]? = some (.deferred (some []))) : Bx X w (W.putObj g (.deferred none)) c C r1 r2 :=
  own_bx (β := Unit) (f := fun _ => c) (g := fun _ => r1) (h := fun _ => r2) hX () W _ (some g) h (grownBy_putObj' _ g (.deferred none)) (fun r e => by cases e; exact ⟨hg, _, hk, rfl⟩)
theorem Bx.drew {C : Array Value} (h : Bx X w W c C r1 r2) : Bx X w W.drew c C r1 r2 := ⟨h.b0, h.b1, h.b2, h.b4, h.b5, ⟨h.low.os, h.low.tape, h.low.output, h.low.size, h.low.block⟩⟩
end
theorem img_zero (W : World) : Img W (.agg z5) zImg := by
  have hr := (Row.nil W INT 1 intC).ints (show okN [] by simp [okN])
  refine ⟨.slice none 0 0, .slice none 0 0, .slice none 0 0, .slice none 0 0, rfl, hr, ?_, ?_, hr, by simp [zImg, maxLen, bs_size]⟩
  · exact ⟨fun _ => .slice none 0 0, (Sl.own (Row.nil W IMP 4 impC)).congr (fun i hi => by simp at hi), fun i hi => by simp [zImg] at hi, by simp [zImg]⟩
  · exact ⟨fun _ => .slice none 0 0, fun _ => .slice none 0 0, fun _ => .slice none 0 0, (Sl.own (Row.nil W MET 4 metC)).congr (fun i hi => by simp at hi), fun i hi => by simp [zImg] at hi, by simp [zImg]⟩
set_option maxRecDepth 100000 in
set_option maxHeartbeats 1000000 in
theorem tParse (l : By) (w : World) (hl : l.length + 1 ≤ maxLen) : Calls Tryd.prog 7 #[.string (bs l)] w fun e w' => ∃ v, e = .returned (.tuple #[v, .int .i64 (parseT l).2.1, .int .i64 (parseT l).2.2]) ∧ Img w' v (parseT l).1 ∧ Upd (fun _ => False) w w' := by
  have HLL1 := Lib.hid hl
  have HLL : Hid (l.length ≤ maxLen) := Lib.hid (Nat.le_of_succ_le hl)
  have HLN := Lib.hid (fun w => tLines l w)
  clear hl
  refine (callsIn_wide (n := 4)).1 ?_
  refine callsIn_of_wp_marks Tryd.func7 rfl trivial ?_ rfl
  simp only [Tryd.ntmps7, List.size_toArray, List.length_cons, List.length_nil, Nat.reduceAdd, Nat.reduceSub, Array.replicate_succ, Array.replicate_zero, List.push_toArray, List.append_toArray, List.nil_append, List.cons_append]
  gi_wp2_with (refine ⟨trivial, ?_⟩; gi_at_call 19; refine (callsIn_wide.2 (HLN.out _)).mono ?_; rintro e w' ⟨rfl, rfl⟩)
  simp only [Nat.add_assoc, Nat.reduceAdd]
  have HS := Lib.hid (pw0_size w w.heap.size l)
  have H6 := Lib.hid (pw0_at w l 6)
  have HL0 := Lib.hid (pw0_low w w.heap.size l)
  have HI0 := Lib.hid (pi_start w l)
  obtain ⟨X, hX⟩ : ∃ X, w.heap.size = X := ⟨_, rfl⟩
  obtain ⟨W0, hW0⟩ : ∃ W0, W0 = pw0 w X l := ⟨_, rfl⟩
  rw [hX] at HS H6 HL0 HI0 ⊢
  rw [← hW0] at HS H6 HL0 HI0
  have HXS := Lib.hid hX
  have hW0' := hW0
  unfold pw0 at hW0'
  rw [← hW0']
  clear hW0 hW0' hX
  refine wpIn_rangeFunc_ownF rfl (by omega) (gf := LF) (lb := #[.pointer (some ⟨X + 6, 0, none⟩)]) rfl trivial (enters_of Tryd.func41 (by kernel_rfl) rfl)
    (lines_stops Fence.wide (4 - 1) trivial rfl (by omega) l HLL.out (X + 6) W0 H6.out) kpL_t (kpL_b (by have := HS.out; omega)) (Below.refl _ _) (fun _ => rfl)
    (Pi X w) (Px X w) (by rw [HS.out]; exact own_pi (by have := HXS.out; omega)) (fun c => by rw [HS.out]; exact own_px (by have := HXS.out; omega) c) HI0.out
    (fun x => { tmps := #[.string (bs l), undef, .pointer (some ⟨X, 0, none⟩), .pointer (some ⟨X + 1, 0, none⟩), .pointer (some ⟨X + 2, 0, none⟩), .pointer (some ⟨X + 4, 0, none⟩), .pointer (some ⟨X + 5, 0, none⟩), .string (bs (cap x)), .agg #[.string { data := #[] }, .slice none 0 0, .slice none 0 0, .slice none 0 0, .slice none 0 0, .int .i64 0], .pointer (some ⟨X + 3, 0, none⟩), .string (bs l), .func (.func LF) #[] #[.pointer (some ⟨X + 6, 0, none⟩)], .string (bs (cap x)), undef, undef, undef, undef, undef, undef, undef, undef, undef, undef, undef, undef, undef, undef, undef, undef, undef, undef, undef, undef, undef], defers := [] }) ?assign ?body ?done ?stop
  case assign =>
    intro lp x W K hK
    gi_wp2
    exact hK
  case body =>
    rintro lp pre x W ⟨⟨D, V, hD, hG, hO, hP⟩, hB⟩ hN
    have hN2 : (pre.length : Int) + 1 ≤ 9223372036854775807 := by have h1 := lines_len l; have h2 := HLL.out; unfold maxLen at h2; omega
    have hw1 : ∃ W1, W1 = W.setCell ⟨X + 5, 0, none⟩ (.int .i64 ((pre.length : Int) + 1)) := ⟨_, rfl⟩
    obtain ⟨W1, hW1⟩ := hw1
    have HW1 := Lib.hid hW1
    have hk1 : ∀ k, k ≠ X + 5 → W1.heap[k]? = W.heap[k]? := fun k hk => by rw [hW1]; exact tOff 0 _ hk
    have HD1 : Hid (DrAt (X + 7) W1 (X + 3) D V) := Lib.hid (by
      rw [hW1]
      refine hD.keep (updBox W (X + 5) 0 _) (fun k hk => ?_)
      have hk : k = X + 5 := hk
      exact ⟨by omega, fun h => by omega⟩)
    have HB1 : Hid (Bx X w W1 ((pre.length : Int) + 1) z5 0 0) := Lib.hid ⟨(hk1 _ (by omega)).trans hB.b0, (hk1 _ (by omega)).trans hB.b1, (hk1 _ (by omega)).trans hB.b2, (hk1 _ (by omega)).trans hB.b4, by rw [hW1]; exact tPut hB.b5 0 _, by rw [hW1]; exact hB.low.setCell (p := ⟨X + 5, 0, none⟩) (Nat.le_add_right _ _) _⟩
    have HK1 : Hid (KeepsOthers W W1) := Lib.hid (by rw [hW1]; exact KeepsOthers.setCell _ _ _)
    have HL6 : Hid (X + 6 < W1.heap.size) := Lib.hid (by have := HD1.out.sB; omega)
    have H61 : Hid (W1.heap[X + 6]? = W.heap[X + 6]?) := Lib.hid (hk1 _ (by omega))
    have HG := Lib.hid hG
    have HO := Lib.hid hO
    have HP := Lib.hid hP
    have HXL := Lib.hid (cap_le x)
    obtain ⟨y, hy⟩ : ∃ y, y = cap x := ⟨_, rfl⟩
    rw [← hy] at HXL ⊢
    have HY := Lib.hid hy
    have c5 := (tCell hB.b5 0).1
    have f5 := (tCell hB.b5 0).2
    have c4 := (tCell HB1.out.b4 0).1
    simp at c5 c4
    rw [hW1] at c4
    clear hD hG hO hP hB hN hW1 hk1 hy
    cases ht : takeD D y with
    | some D' =>
      have HT := Lib.hid ht
      clear ht
      gi_wp2_with (refine ⟨trivial, ?_⟩; gi_at_call 20; rw [← HW1.out]; refine (CallsIn.inRound lp (callsIn_wide.2 (take_yes HD1.out HG.out HXL.out HT.out))).mono ?_; rintro e W3 ⟨rfl, hd3, hu3, ko3⟩; have HD3 := Lib.hid hd3; have HU3 := Lib.hid hu3; have HK3 := Lib.hid ko3; clear hd3 hu3 ko3)
      refine ⟨HK1.out.trans HK3.out, ⟨(HK1.out.trans HK3.out).walks, (HU3.out.block _ (by have := HL6.out; omega) (by rintro (h | h) <;> omega)).trans H61.out⟩, ?_, ?_⟩
      · obtain ⟨V', hV'⟩ := HD3.out
        refine ⟨D', V', hV', takeD_good HG.out HT.out, takeD_ok HO.out HT.out, fun rest => ?_⟩
        rw [List.map_append, List.append_assoc, HP.out]
        show pgo D pre.length (cap x :: rest) = _
        rw [← HY.out, pgo_some HT.out]
        simp
      · have h := HB1.out.keep (W' := W3) (fun k hk hne => HU3.out.block _ (by have := HL6.out; omega) (by rintro (h | h) <;> omega)) (HB1.out.low.trans (HU3.out.below (by have := HL6.out; omega) (fun k h2 => by rcases h2 with h2 | h2 <;> omega)))
        simpa using h
    | none =>
      have HT := Lib.hid ht
      clear ht
      gi_wp2_with (refine ⟨trivial, ?_⟩; gi_at_call 20; rw [← HW1.out]; refine (CallsIn.inRound lp (callsIn_wide.2 (take_no HD1.out HG.out HXL.out HT.out))).mono ?_; rintro e W3 ⟨rfl, hu3, ko3⟩; have HU3 := Lib.hid hu3; have HK3 := Lib.hid ko3; have HB3 := Lib.hid (HB1.out.keep (W' := W3) (fun k hk hne => hu3.block _ (by have := HL6.out; omega) (by rintro (h | h) <;> omega)) (HB1.out.low.trans (hu3.below (by have := HL6.out; omega) (fun k h2 => by rcases h2 with h2 | h2 <;> omega)))); clear hu3 ko3; obtain ⟨p0, p1, p2, -, p5⟩ := bx_cells HB3.out)
      have HPN : Hid (∀ rest, pgo d0 0 ((pre ++ [x]).map cap ++ rest) = (none, (pre ++ [x]).length)) := Lib.hid (fun rest => by
        rw [List.map_append, List.append_assoc, HP.out]
        show pgo D pre.length (cap x :: rest) = _
        rw [← HY.out, pgo_none HT.out]
        simp)
      have HBE : Hid (Bx X w (fill W3 X (.string { data := #[] }) (.slice none 0 0) (.slice none 0 0) (.slice none 0 0) (.slice none 0 0) ((pre.length : Int) + 1) 5).drew ((pre.length : Int) + 1) z5 (pre ++ [x]).length 5) := Lib.hid (by
        have h := (fill_bx HB3.out (.string { data := #[] }) (.slice none 0 0) (.slice none 0 0) (.slice none 0 0) (.slice none 0 0) ((pre.length : Int) + 1) 5).drew
        simpa using h)
      refine wpIn_region_any (by kernel_rfl) ?_
      change wpAnyIn _ _ _ _ _ _ _ _ _ (World.drew _)
      (refine wpAnyIn_ready (rs := [0, 1]) (by kernel_rfl) (by simp) ?_; refine AllReadyIn.cons rfl (fun K hK => ?_) (AllReadyIn.cons rfl (fun K hK => ?_) AllReadyIn.nil); all_goals (go_simp; refine hK _ _ ?_; clear hK K))
      · (refine wpAnyIn_ready (rs := [1, 2]) (by kernel_rfl) (by simp) ?_; refine AllReadyIn.cons rfl (fun K hK => ?_) (AllReadyIn.cons rfl (fun K hK => ?_) AllReadyIn.nil); all_goals (go_simp; refine hK _ _ ?_; clear hK K))
        · (refine wpAnyIn_ready (rs := [2]) (by kernel_rfl) (by simp) ?_; refine AllReadyIn.cons rfl (fun K hK => ?_) AllReadyIn.nil; go_simp; refine hK _ _ ?_; clear hK K)
          (refine wpAnyIn_ready (rs := [3]) (by kernel_rfl) (by simp) ?_; refine AllReadyIn.cons rfl (fun K hK => ?_) AllReadyIn.nil; go_simp; refine hK _ _ ?_; clear hK K)
          (refine wpAnyIn_ready (rs := [4]) (by kernel_rfl) (by simp) ?_; refine AllReadyIn.cons rfl (fun K hK => ?_) AllReadyIn.nil; go_simp; refine hK _ _ ?_; clear hK K)
          refine wpAnyIn_done (by kernel_rfl) ?_ _
          gi_wp2
          exact ⟨(HK1.out.trans HK3.out).trans ((fill_ko W3 X _ _ _ _ _ _ _).trans (KeepsOthers.drew _)), ⟨rfl, HPN.out⟩, _, HBE.out⟩
        · (refine wpAnyIn_ready (rs := [1]) (by kernel_rfl) (by simp) ?_; refine AllReadyIn.cons rfl (fun K hK => ?_) AllReadyIn.nil; go_simp; refine hK _ _ ?_; clear hK K)
          (refine wpAnyIn_ready (rs := [3]) (by kernel_rfl) (by simp) ?_; refine AllReadyIn.cons rfl (fun K hK => ?_) AllReadyIn.nil; go_simp; refine hK _ _ ?_; clear hK K)
          (refine wpAnyIn_ready (rs := [4]) (by kernel_rfl) (by simp) ?_; refine AllReadyIn.cons rfl (fun K hK => ?_) AllReadyIn.nil; go_simp; refine hK _ _ ?_; clear hK K)
          refine wpAnyIn_done (by kernel_rfl) ?_ _
          gi_wp2
          exact ⟨(HK1.out.trans HK3.out).trans ((fill_ko W3 X _ _ _ _ _ _ _).trans (KeepsOthers.drew _)), ⟨rfl, HPN.out⟩, _, HBE.out⟩
      · (refine wpAnyIn_ready (rs := [0]) (by kernel_rfl) (by simp) ?_; refine AllReadyIn.cons rfl (fun K hK => ?_) AllReadyIn.nil; go_simp; refine hK _ _ ?_; clear hK K)
        (refine wpAnyIn_ready (rs := [2]) (by kernel_rfl) (by simp) ?_; refine AllReadyIn.cons rfl (fun K hK => ?_) AllReadyIn.nil; go_simp; refine hK _ _ ?_; clear hK K)
        (refine wpAnyIn_ready (rs := [3]) (by kernel_rfl) (by simp) ?_; refine AllReadyIn.cons rfl (fun K hK => ?_) AllReadyIn.nil; go_simp; refine hK _ _ ?_; clear hK K)
        (refine wpAnyIn_ready (rs := [4]) (by kernel_rfl) (by simp) ?_; refine AllReadyIn.cons rfl (fun K hK => ?_) AllReadyIn.nil; go_simp; refine hK _ _ ?_; clear hK K)
        refine wpAnyIn_done (by kernel_rfl) ?_ _
        gi_wp2
        exact ⟨(HK1.out.trans HK3.out).trans ((fill_ko W3 X _ _ _ _ _ _ _).trans (KeepsOthers.drew _)), ⟨rfl, HPN.out⟩, _, HBE.out⟩
  case done =>
    rintro DB ys W hDB rfl ⟨⟨D, V, hD, hG, hO, hP⟩, hB⟩ hK
    have hE : parseT l = endP (some D, (linesP l).length) := by
      have hc : (linesP l).map cap = linesP l := map_cap _ (fun x hx => Nat.le_trans (lines_sub l x hx) HLL.out)
      have := hP []
      rw [hc, List.append_nil] at this
      unfold parseT
      rw [this]
      rfl
    have hN2 : ((linesP l).length : Int) + 1 ≤ 9223372036854775807 := by have h1 := lines_len l; have h2 := HLL1.out; unfold maxLen at h2; omega
    obtain ⟨n, hn⟩ : ∃ n, n = (linesP l).length := ⟨_, rfl⟩
    rw [← hn] at hE hN2 hB
    obtain ⟨fv, iv, mv, xv, P, M⟩ := V
    obtain ⟨fa, fc, hf⟩ := ownsRow_slice hD.frow
    obtain ⟨ia, ic, hi⟩ := ownsRow_slice hD.irow
    obtain ⟨ma, mc, hm⟩ := ownsRow_slice hD.mrow
    obtain ⟨xa, xc, hx⟩ := ownsRow_slice hD.xrow
    simp only at hf hi hm hx
    subst hf hi hm hx
    have HD := Lib.hid hD
    have HB := Lib.hid hB
    have HO := Lib.hid hO
    have HE := Lib.hid hE
    have HK := Lib.hid hK
    have HDB := Lib.hid hDB
    have HIM := Lib.hid (hD.img hO)
    have c4 := (tCell hB.b4 0).1
    have d0 := (tCell hD.box 0).1
    have d1 := (tCell hD.box 1).1
    have d2 := (tCell hD.box 2).1
    have d3 := (tCell hD.box 3).1
    have d4 := (tCell hD.box 4).1
    simp at c4 d0 d1 d2 d3 d4
    obtain ⟨rt, hrt⟩ : ∃ rt, rt = imgB insB D.img := ⟨_, rfl⟩
    have HR := Lib.hid hrt
    clear hD hB hG hO hP hE hn hK hDB hrt
    cases rt with
    | true =>
      gi_wp2_with (refine ⟨trivial, ?_⟩; gi_at_call 12; refine (callsIn_wide.2 (cImgRight _ _ D.img HIM.out)).mono ?_; rw [← HR.out]; rintro e w5 ⟨rfl, hu5⟩; have HB5 := Lib.hid (HB.out.keep (W' := w5) (fun k hk hne => hu5.block _ (by have := HD.out.sB; omega) (fun h => h)) (HB.out.low.trans (hu5.below (by have := HD.out.sB; omega) (fun k h => h.elim)))); have HD5 := Lib.hid (HD.out.keep hu5 (Alien.no _ _ _)); have HK5 := Lib.hid ((ko_no hu5).same DB _ HK.out rfl); clear hu5; clear c4 d0 d1 d2 d3 d4; obtain ⟨p0, p1, p2, c4, c5⟩ := bx_cells HB5.out; have d0 := (tCell HD5.out.box 0).1; have d1 := (tCell HD5.out.box 1).1; have d2 := (tCell HD5.out.box 2).1; have d3 := (tCell HD5.out.box 3).1; have d4 := (tCell HD5.out.box 4).1; simp at d0 d1 d2 d3 d4)
      have hE : parseT l = (D.img, 0, 0) := by rw [HE.out]; exact endP_yes HR.out
      have hK6 := (fill_ko w5 X (.string D.img.name) (.slice fa D.img.fields.length fc) (.slice ia P.length ic) (.slice ma M.length mc) (.slice xa D.img.exports.length xc) 0 0).same DB _ HK5.out rfl
      refine ⟨by simp, .inl ⟨_, _, rfl, run_takeDeferred hK6, ?_⟩⟩
      have hDB2 : X + 7 ≤ DB := by have h1 := HS.out; have h2 := HDB.out; omega
      have HB6 := grown_bx (fill_bx HB5.out (.string D.img.name) (.slice fa D.img.fields.length fc) (.slice ia P.length ic) (.slice ma M.length mc) (.slice xa D.img.exports.length xc) 0 0) (by have := HXS.out; omega) hDB2 hK6
      have HD6 := (fill_dr HD5.out (.string D.img.name) (.slice fa D.img.fields.length fc) (.slice ia P.length ic) (.slice ma M.length mc) (.slice xa D.img.exports.length xc) 0 0).grown (grownBy_putObj' _ DB (.deferred none)) (fun r e => by cases e; exact ⟨hDB2, _, hK6, rfl⟩)
      obtain ⟨s0, s1, s2, -, -⟩ := bx_cells HB6
      have q0 := (s0 0).1
      have q1 := (s0 1).1
      have q2 := (s0 2).1
      have q3 := (s0 3).1
      have q4 := (s0 4).1
      have q5 := s1.1
      have q6 := s2.1
      simp at q0 q1 q2 q3 q4
      rw [hE]
      refine ⟨.tuple #[.agg #[.string D.img.name, .slice fa D.img.fields.length fc, .slice ia P.length ic, .slice ma M.length mc, .slice xa D.img.exports.length xc], .int .i64 0, .int .i64 0], ?_, _, rfl, HD6.img HO.out, upd_low HB6.low HXS.out⟩
      clear HD6 HB6 s0 s1 s2 hE hK6
      simp [results, Tryd.f7, go_sem, q0, q1, q2, q3, q4, q5, q6]
    | false =>
      gi_wp2_with (refine ⟨trivial, ?_⟩; gi_at_call 12; refine (callsIn_wide.2 (cImgRight _ _ D.img HIM.out)).mono ?_; rw [← HR.out]; rintro e w5 ⟨rfl, hu5⟩; have HB5 := Lib.hid (HB.out.keep (W' := w5) (fun k hk hne => hu5.block _ (by have := HD.out.sB; omega) (fun h => h)) (HB.out.low.trans (hu5.below (by have := HD.out.sB; omega) (fun k h => h.elim)))); have HD5 := Lib.hid (HD.out.keep hu5 (Alien.no _ _ _)); have HK5 := Lib.hid ((ko_no hu5).same DB _ HK.out rfl); clear hu5; clear c4 d0 d1 d2 d3 d4; obtain ⟨p0, p1, p2, c4, c5⟩ := bx_cells HB5.out; have d0 := (tCell HD5.out.box 0).1; have d1 := (tCell HD5.out.box 1).1; have d2 := (tCell HD5.out.box 2).1; have d3 := (tCell HD5.out.box 3).1; have d4 := (tCell HD5.out.box 4).1; simp at d0 d1 d2 d3 d4)
      have hE : parseT l = (zImg, (n : Int) + 1, 5) := by rw [HE.out]; exact endP_no HR.out
      have hK6 := ((fill_ko w5 X (.string { data := #[] }) (.slice none 0 0) (.slice none 0 0) (.slice none 0 0) (.slice none 0 0) ((n : Int) + 1) 5).trans (KeepsOthers.drew _)).same DB _ HK5.out rfl
      have hDB2 : X + 7 ≤ DB := by have h1 := HS.out; have h2 := HDB.out; omega
      have HB6 := Lib.hid (grown_bx (fill_bx HB5.out (.string { data := #[] }) (.slice none 0 0) (.slice none 0 0) (.slice none 0 0) (.slice none 0 0) ((n : Int) + 1) 5).drew (by have := HXS.out; omega) hDB2 hK6)
      have HK6 := Lib.hid hK6
      have HE2 := Lib.hid hE
      clear hE hK6
      gi_region
      all_goals gi_wp2
      all_goals refine ⟨by simp, .inl ⟨_, _, rfl, run_takeDeferred HK6.out, ?_⟩⟩
      all_goals obtain ⟨s0, s1, s2, -, -⟩ := bx_cells HB6.out
      all_goals have q0 := (s0 0).1
      all_goals have q1 := (s0 1).1
      all_goals have q2 := (s0 2).1
      all_goals have q3 := (s0 3).1
      all_goals have q4 := (s0 4).1
      all_goals have q5 := s1.1
      all_goals have q6 := s2.1
      all_goals simp at q0 q1 q2 q3 q4
      all_goals rw [HE2.out]
      all_goals refine ⟨.tuple #[.agg z5, .int .i64 ((n : Int) + 1), .int .i64 5], ?_, .agg z5, rfl, img_zero _, upd_low HB6.out.low HXS.out⟩
      all_goals clear s0 s1 s2
      all_goals simp [results, Tryd.f7, go_sem, q0, q1, q2, q3, q4, q5, q6]
  case stop =>
    rintro DB c pre W hDB hpre ⟨⟨rfl, hP⟩, cn, hB⟩ hK
    gi_wp2
    refine ⟨by simp, .inl ⟨_, _, rfl, run_takeDeferred hK, ?_⟩⟩
    have hB' := grown_bx (C := z5) hB (by have := HXS.out; omega) (by have := HS.out; omega) hK
    obtain ⟨p0, p1, p2, -, -⟩ := bx_cells hB'
    have q0 := (p0 0).1
    have q1 := (p0 1).1
    have q2 := (p0 2).1
    have q3 := (p0 3).1
    have q4 := (p0 4).1
    have q5 := p1.1
    have q6 := p2.1
    simp at q0 q1 q2 q3 q4
    have hE : parseT l = (zImg, (pre.length : Int), 5) := by
      obtain ⟨t, ht⟩ := hpre
      have hc : pre.map cap = pre := map_cap pre (fun x hx => Nat.le_trans (lines_sub l x (by rw [← ht]; simp [hx])) HLL.out)
      unfold parseT
      rw [← ht]
      have := hP t
      rw [hc] at this
      rw [this]
      rfl
    rw [hE]
    refine ⟨.tuple #[.agg z5, .int .i64 (pre.length : Int), .int .i64 5], ?_, .agg z5, rfl, img_zero _, upd_low hB'.low HXS.out⟩
    simp [results, Tryd.f7, go_sem, q0, q1, q2, q3, q4, q5, q6]
end Go.Proofs.YtbjmmdomdijilabDoor

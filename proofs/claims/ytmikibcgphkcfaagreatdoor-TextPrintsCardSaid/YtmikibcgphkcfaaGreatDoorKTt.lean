/- Several texts in one. -/
import Derived.Test.YtmikibcgphkcfaaGreatDoorKTq
import Derived.Laws.StructEq
import Derived.Test.YtmikibcgphkcfaaGreatDoorSh
import Derived.Shelf.Strings.OnBuilder
import Derived.Shelf.Strings.BuilderK
import Derived.Shelf.Strconv.Itoa3
import Derived.Lib.ItoaLen
/- Package text: Parse. -/
namespace Go.Proofs.YtmikibcgphkcfaaGreatDoor
open Go.RowKit Go.Shelf Go.Lib
set_option linter.unusedVariables false
set_option linter.unusedSimpArgs false
attribute [local go_sem] Oper.semAt_some

def zImg : ImgM := ⟨bs [], [], [], [], []⟩
def d0 : DrM := ⟨zImg, 0⟩
/-- line by line: the draft, and how many lines; none, and the line that is wrong -/
def pgo : DrM → Nat → List By → Option DrM × Nat
  | D, n, [] => (some D, n)
  | D, n, x :: xs => match takeD D x with
    | some D' => pgo D' (n + 1) xs
    | none => (none, n + 1)
def endP (r : Option DrM × Nat) : ImgM × Int × Int := match r with
  | (none, n) => (zImg, (n : Int), 5)
  | (some D, n) => match imgB insB D.img with
    | true => (D.img, 0, 0)
    | false => (zImg, (n : Int) + 1, 5)
/-- what Parse answers -/
def parseT (l : By) : ImgM × Int × Int := endP (pgo d0 0 (linesP l))
theorem endP_yes {D : DrM} {n : Nat} (h : true = imgB insB D.img) : endP (some D, n) = (D.img, 0, 0) := by
  show (match imgB insB D.img with | true => (D.img, (0 : Int), (0 : Int)) | false => (zImg, (n : Int) + 1, 5)) = _
  rw [← h]
theorem endP_no {D : DrM} {n : Nat} (h : false = imgB insB D.img) : endP (some D, n) = (zImg, (n : Int) + 1, 5) := by
  show (match imgB insB D.img with | true => (D.img, (0 : Int), (0 : Int)) | false => (zImg, (n : Int) + 1, 5)) = _
  rw [← h]
theorem upd_low {X : Nat} {w W : World} (h : Below X w W) (hX : w.heap.size = X) : Upd (fun _ => False) w W := by
  subst hX
  exact upd_of_below h
theorem pgo_some {D D' : DrM} {n : Nat} {x : By} {xs : List By} (h : takeD D x = some D') : pgo D n (x :: xs) = pgo D' (n + 1) xs := by
  show (match takeD D x with | some D' => pgo D' (n + 1) xs | none => (none, n + 1)) = _
  rw [h]
theorem pgo_none {D : DrM} {n : Nat} {x : By} {xs : List By} (h : takeD D x = none) : pgo D n (x :: xs) = (none, n + 1) := by
  show (match takeD D x with | some D' => pgo D' (n + 1) xs | none => (none, n + 1)) = _
  rw [h]
theorem lines_len : ∀ l : By, (linesP l).length ≤ l.length
  | [] => Nat.le_refl _
  | b :: t => by
    have ih := lines_len t
    show (match b == 10 with | true => [] :: linesP t | false => match linesP t with | [] => [[b]] | x :: xs => (b :: x) :: xs).length ≤ _
    cases b == 10 with
    | true => simp; exact ih
    | false =>
      cases h : linesP t with
      | nil => simp
      | cons x xs =>
        rw [h] at ih
        simp at ih ⊢
        omega
theorem lines_sub : ∀ (l : By) (x : By), x ∈ linesP l → x.length ≤ l.length
  | [], x, h => by simp [linesP] at h
  | b :: t, x, h => by
    have ih := lines_sub t
    replace h : x ∈ (match b == 10 with | true => [] :: linesP t | false => match linesP t with | [] => [[b]] | x :: xs => (b :: x) :: xs) := h
    cases hb : b == 10 with
    | true =>
      rw [hb] at h
      simp at h
      rcases h with rfl | h
      · simp
      · have := ih x h; simp; omega
    | false =>
      rw [hb] at h
      cases hl : linesP t with
      | nil => rw [hl] at h; simp at h; subst h; simp
      | cons y ys =>
        rw [hl] at h
        simp at h
        rcases h with rfl | h
        · have := ih y (by rw [hl]; simp); simp; omega
        · have := ih x (by rw [hl]; simp [h]); simp; omega
theorem tLines (l : By) (w : World) : Calls Tryz.prog 50 #[.string (bs l)] w fun e w' => e = .returned (.func (.func LF) #[] #[.pointer (some ⟨w.heap.size, 0, none⟩)]) ∧ w' = w.alloc (.cells #[.string (bs l)] 9) := by
  go_enter Tryz.func50, Tryz.ntmps50
  go_wp2_with fail
  go_ret
  exact ⟨rfl, rfl⟩
abbrev IMG : TypeId := 27
abbrev ERR : TypeId := 31
abbrev PDT : TypeId := 87
abbrev z5 : Array Value := #[.string { data := #[] }, .slice none 0 0, .slice none 0 0, .slice none 0 0, .slice none 0 0]
/-- Parse's boxes, as they are made -/
def pw0 (w : World) (X : Nat) (l : By) : World :=
  ((((((w.alloc (.cells z5 IMG)).alloc (.cells #[.int .i64 0] INT)).alloc (.cells #[.int .i64 0] ERR)).alloc (.cells #[.string { data := #[] }, .slice none 0 0, .slice none 0 0, .slice none 0 0, .slice none 0 0, .int .i64 0] DT)).alloc (.cells #[.pointer (some ⟨X + 3, 0, none⟩)] PDT)).alloc (.cells #[.int .i64 0] INT)).alloc (.cells #[.string (bs l)] 9)
/-- Parse's boxes, but the draft's -/
structure Bx (X : Nat) (w W : World) (c : Int) (C : Array Value) (r1 r2 : Int) : Prop where
  b0 : W.heap[X]? = some (.cells C IMG (0, 0))
  b1 : W.heap[X + 1]? = some (.cells #[.int .i64 r1] INT (0, 0))
  b2 : W.heap[X + 2]? = some (.cells #[.int .i64 r2] ERR (0, 0))
  b4 : W.heap[X + 4]? = some (.cells #[.pointer (some ⟨X + 3, 0, none⟩)] PDT (0, 0))
  b5 : W.heap[X + 5]? = some (.cells #[.int .i64 c] INT (0, 0))
  low : Below X w W
section
variable {X : Nat} {w W W' : World} {c : Int} {C : Array Value} {r1 r2 : Int}
theorem Bx.keep (h : Bx X w W c C r1 r2) (hk : ∀ k, k < X + 7 → k ≠ X + 3 → W'.heap[k]? = W.heap[k]?) (hl : Below X w W') : Bx X w W' c C r1 r2 :=
  ⟨(hk _ (by omega) (by omega)).trans h.b0, (hk _ (by omega) (by omega)).trans h.b1, (hk _ (by omega) (by omega)).trans h.b2, (hk _ (by omega) (by omega)).trans h.b4, (hk _ (by omega) (by omega)).trans h.b5, hl⟩
theorem own_bx {β : Type} (hX : X ≤ w.heap.size) {f : β → Int} {g h : β → Int} : OwnFrom (X + 7) (fun (s : β) W => Bx X w W (f s) C (g s) (h s)) := fun s A B row hs hg hr =>
  have hr' : ∀ r, row = some r → ∃ o : Obj, A.heap[r]? = some o ∧ o.isCells = false := fun r e => (hr r e).2
  ⟨(grownBy_keeps_cells hg hr' hs.b0 rfl).trans hs.b0, (grownBy_keeps_cells hg hr' hs.b1 rfl).trans hs.b1, (grownBy_keeps_cells hg hr' hs.b2 rfl).trans hs.b2, (grownBy_keeps_cells hg hr' hs.b4 rfl).trans hs.b4, (grownBy_keeps_cells hg hr' hs.b5 rfl).trans hs.b5,
    hs.low.grown hg (Nat.le_trans hX hs.low.size) (fun k e => Nat.le_trans (by omega) (hr k e).1)⟩
theorem DrAt.grown {B b : Nat} {D : DrM} {V : DrV} (h : DrAt B W b D V) {row : Option Nat} (hg : W.grownBy W' row) (hr : ∀ r, row = some r → B ≤ r ∧ ∃ o : Obj, W.heap[r]? = some o ∧ o.isCells = false) : DrAt B W' b D V :=
  h.keep (S := fun k => row = some k) ⟨hg.os, hg.tape, hg.output, hg.size, fun k hk hS => hg.block k hk (fun e => hS e.symm)⟩ (fun k e => by
    obtain ⟨h1, o, ho, hc⟩ := hr k e
    have := h.bB
    refine ⟨by omega, fun _ C e fr hk => ?_⟩
    rw [ho] at hk
    cases hk
    cases hc)
end
theorem bx_cells {X : Nat} {w W : World} {c r1 r2 : Int} {C : Array Value} (h : Bx X w W c C r1 r2) :
    (∀ q, W.cell? ⟨X, q, none⟩ = C[q]? ∧ W.frozen? ⟨X, q, none⟩ = false) ∧ (W.cell? ⟨X + 1, 0, none⟩ = some (.int .i64 r1) ∧ W.frozen? ⟨X + 1, 0, none⟩ = false) ∧ (W.cell? ⟨X + 2, 0, none⟩ = some (.int .i64 r2) ∧ W.frozen? ⟨X + 2, 0, none⟩ = false) ∧ W.cell? ⟨X + 4, 0, none⟩ = some (.pointer (some ⟨X + 3, 0, none⟩)) ∧ W.cell? ⟨X + 5, 0, none⟩ = some (.int .i64 c) :=
  ⟨fun q => tCell h.b0 q, tCell h.b1 0, tCell h.b2 0, (tCell h.b4 0).1, (tCell h.b5 0).1⟩
/-- what holds ahead of each line -/
def Pi (X : Nat) (w : World) (pre : List By) (W : World) : Prop :=
  (∃ D V, DrAt (X + 7) W (X + 3) D V ∧ GoodD D ∧ OkI D.img ∧ ∀ rest, pgo d0 0 (pre.map cap ++ rest) = pgo D pre.length rest) ∧ Bx X w W pre.length z5 0 0
def Px (X : Nat) (w : World) (c : Code) (pre : List By) (W : World) : Prop :=
  (c = .ret ∧ ∀ rest, pgo d0 0 (pre.map cap ++ rest) = (none, pre.length)) ∧ ∃ cn, Bx X w W cn z5 pre.length 5
theorem own_pi {X : Nat} {w : World} (hX : X ≤ w.heap.size) : OwnFrom (X + 7) (Pi X w) := fun s A B row hs hg hr => by
  obtain ⟨⟨D, V, hD, hG, hO, hP⟩, hb⟩ := hs
  exact ⟨⟨D, V, hD.grown hg hr, hG, hO, hP⟩, own_bx (C := z5) (f := fun s : List By => (s.length : Int)) (g := fun _ => 0) (h := fun _ => 0) hX s A B row hb hg hr⟩
theorem own_px {X : Nat} {w : World} (hX : X ≤ w.heap.size) (c : Code) : OwnFrom (X + 7) (Px X w c) := fun s A B row hs hg hr => by
  obtain ⟨hc, cn, hb⟩ := hs
  exact ⟨hc, cn, own_bx (C := z5) (f := fun s : List By => cn) (g := fun s : List By => (s.length : Int)) (h := fun _ => 5) hX s A B row hb hg hr⟩
theorem pw0_size (w : World) (X : Nat) (l : By) : (pw0 w X l).heap.size = w.heap.size + 7 := by simp [pw0]
theorem hp_new (W : World) (C : Array Value) (t : TypeId) {k : Nat} (h : k = W.heap.size) : (W.alloc (.cells C t)).heap[k]? = some (.cells C t (0, 0)) := by rw [h]; exact World.alloc_heap_new W _
theorem hp_old (W : World) (o : Obj) {k : Nat} {o' : Obj} (h : W.heap[k]? = some o') : (W.alloc o).heap[k]? = some o' := (Below.heap_alloc W o k (Array.getElem?_eq_some_iff.1 h).1).trans h
theorem pw0_at (w : World) (l : By) (k : Nat) : (pw0 w w.heap.size l).heap[w.heap.size + k]? = if k = 0 then some (.cells z5 IMG (0, 0)) else if k = 1 then some (.cells #[.int .i64 0] INT (0, 0)) else if k = 2 then some (.cells #[.int .i64 0] ERR (0, 0)) else if k = 3 then some (.cells #[.string { data := #[] }, .slice none 0 0, .slice none 0 0, .slice none 0 0, .slice none 0 0, .int .i64 0] DT (0, 0)) else if k = 4 then some (.cells #[.pointer (some ⟨w.heap.size + 3, 0, none⟩)] PDT (0, 0)) else if k = 5 then some (.cells #[.int .i64 0] INT (0, 0)) else if k = 6 then some (.cells #[.string (bs l)] 9 (0, 0)) else none := by
  by_cases hk : k < 7
  · have hsz : ∀ (W : World) (o : Obj), (W.alloc o).heap.size = W.heap.size + 1 := fun W o => World.size_alloc W o
    rcases (by omega : k = 0 ∨ k = 1 ∨ k = 2 ∨ k = 3 ∨ k = 4 ∨ k = 5 ∨ k = 6) with rfl | rfl | rfl | rfl | rfl | rfl | rfl
    · exact hp_old _ _ (hp_old _ _ (hp_old _ _ (hp_old _ _ (hp_old _ _ (hp_old _ _ (hp_new _ _ _ (by omega)))))))
    · exact hp_old _ _ (hp_old _ _ (hp_old _ _ (hp_old _ _ (hp_old _ _ (hp_new _ _ _ (by simp only [hsz]))))))
    · exact hp_old _ _ (hp_old _ _ (hp_old _ _ (hp_old _ _ (hp_new _ _ _ (by simp only [hsz])))))
    · exact hp_old _ _ (hp_old _ _ (hp_old _ _ (hp_new _ _ _ (by simp only [hsz]))))
    · exact hp_old _ _ (hp_old _ _ (hp_new _ _ _ (by simp only [hsz])))
    · exact hp_old _ _ (hp_new _ _ _ (by simp only [hsz]))
    · exact hp_new _ _ _ (by simp only [hsz])
  · rw [Array.getElem?_eq_none (by rw [pw0_size]; omega)]
    rw [if_neg (by omega), if_neg (by omega), if_neg (by omega), if_neg (by omega), if_neg (by omega), if_neg (by omega), if_neg (by omega)]
theorem pw0_low (w : World) (X : Nat) (l : By) : Below w.heap.size w (pw0 w X l) := by
  unfold pw0
  exact (((((((Below.refl _ w).alloc (Nat.le_refl _) _).alloc (by simp) _).alloc (by simp; omega) _).alloc (by simp; omega) _).alloc (by simp; omega) _).alloc (by simp; omega) _).alloc (by simp; omega) _
theorem pi_start (w : World) (l : By) : Pi w.heap.size w [] (pw0 w w.heap.size l) := by
  have hs := pw0_size w w.heap.size l
  refine ⟨⟨d0, ⟨.slice none 0 0, .slice none 0 0, .slice none 0 0, .slice none 0 0, [], []⟩, ?_, fun h => by simp [d0] at h, ⟨by simp [d0, zImg, maxLen, bs_size], by simp [d0, zImg, okN], by simp [d0, zImg], by simp [d0, zImg], by simp [d0, zImg, okN]⟩, fun _ => rfl⟩, pw0_at w l 0, pw0_at w l 1, pw0_at w l 2, pw0_at w l 4, pw0_at w l 5, pw0_low _ _ _⟩
  refine ⟨(pw0_at w l 3).trans rfl, Row.nil _ _ _ _, Row.nil _ _ _ _, Row.nil _ _ _ _, Row.nil _ _ _ _, rfl, rfl, ?_, ?_, ?_, ?_, ?_, ?_, ?_, ?_, ?_, ?_, ?_, ?_, by omega, by omega, ?_, ?_, ?_, ?_, ?_⟩
  all_goals simp [d0, zImg, DrV.ro, Ap, Value.ownBlock]
section
variable {B b : Nat} {w : World} {D : DrM} {V : DrV}
theorem take_yes (hD : DrAt B w b D V) (hg : GoodD D) {line : By} (hl : line.length ≤ maxLen) {D' : DrM} (ht : takeD D line = some D') : Calls Tryz.prog 51 #[.pointer (some ⟨b, 0, none⟩), .string (bs line)] w fun e w' => e = .returned (.bool true) ∧ (∃ V', DrAt B w' b D' V') ∧ Upd (fun k => k = b ∨ B ≤ k) w w' ∧ KeepsOthers w w' := by
  refine (tTake hD hg line hl).mono ?_
  rintro e w' ⟨rfl, h, hu, hk⟩
  exact ⟨by rw [ht]; rfl, h _ ht, hu, hk⟩
theorem take_no (hD : DrAt B w b D V) (hg : GoodD D) {line : By} (hl : line.length ≤ maxLen) (ht : takeD D line = none) : Calls Tryz.prog 51 #[.pointer (some ⟨b, 0, none⟩), .string (bs line)] w fun e w' => e = .returned (.bool false) ∧ Upd (fun k => k = b ∨ B ≤ k) w w' ∧ KeepsOthers w w' := by
  refine (tTake hD hg line hl).mono ?_
  rintro e w' ⟨rfl, -, hu, hk⟩
  exact ⟨by rw [ht]; rfl, hu, hk⟩
end
/-- the results are stored -/
abbrev fill (W : World) (X : Nat) (a0 a1 a2 a3 a4 : Value) (n m : Int) : World :=
  ((((((W.setCell ⟨X, 0, none⟩ a0).setCell ⟨X, 1, none⟩ a1).setCell ⟨X, 2, none⟩ a2).setCell ⟨X, 3, none⟩ a3).setCell ⟨X, 4, none⟩ a4).setCell ⟨X + 1, 0, none⟩ (.int .i64 n)).setCell ⟨X + 2, 0, none⟩ (.int .i64 m)
section
variable {X : Nat} {w W : World} {c : Int} {b0 b1 b2 b3 b4 : Value} {r1 r2 : Int}
theorem fill_bx (h : Bx X w W c #[b0, b1, b2, b3, b4] r1 r2) (a0 a1 a2 a3 a4 : Value) (n m : Int) : Bx X w (fill W X a0 a1 a2 a3 a4 n m) c #[a0, a1, a2, a3, a4] n m := by
  have ho : ∀ (W : World) (q : Nat) (u : Value) (g k : Nat), k ≠ g → (W.setCell ⟨g, q, none⟩ u).heap[k]? = W.heap[k]? := fun W q u g k hk => tOff q u hk
  refine ⟨?_, ?_, ?_, ?_, ?_, ?_⟩
  · rw [ho _ _ _ _ _ (by omega), ho _ _ _ _ _ (by omega)]
    exact (tPut (tPut (tPut (tPut (tPut h.b0 0 _) 1 _) 2 _) 3 _) 4 _).trans (by simp)
  · rw [ho _ _ _ _ _ (by omega)]
    refine (tPut (C := #[.int .i64 r1]) (t := INT) ?_ 0 _).trans (by simp)
    rw [ho _ _ _ _ _ (by omega), ho _ _ _ _ _ (by omega), ho _ _ _ _ _ (by omega), ho _ _ _ _ _ (by omega), ho _ _ _ _ _ (by omega)]
    exact h.b1
  · refine (tPut (C := #[.int .i64 r2]) (t := ERR) ?_ 0 _).trans (by simp)
    rw [ho _ _ _ _ _ (by omega), ho _ _ _ _ _ (by omega), ho _ _ _ _ _ (by omega), ho _ _ _ _ _ (by omega), ho _ _ _ _ _ (by omega), ho _ _ _ _ _ (by omega)]
    exact h.b2
  · rw [ho _ _ _ _ _ (by omega), ho _ _ _ _ _ (by omega), ho _ _ _ _ _ (by omega), ho _ _ _ _ _ (by omega), ho _ _ _ _ _ (by omega), ho _ _ _ _ _ (by omega), ho _ _ _ _ _ (by omega)]
    exact h.b4
  · rw [ho _ _ _ _ _ (by omega), ho _ _ _ _ _ (by omega), ho _ _ _ _ _ (by omega), ho _ _ _ _ _ (by omega), ho _ _ _ _ _ (by omega), ho _ _ _ _ _ (by omega), ho _ _ _ _ _ (by omega)]
    exact h.b5
  · exact ((((((h.low.setCell (p := ⟨X, 0, none⟩) (Nat.le_refl _) _).setCell (p := ⟨X, 1, none⟩) (Nat.le_refl _) _).setCell (p := ⟨X, 2, none⟩) (Nat.le_refl _) _).setCell (p := ⟨X, 3, none⟩) (Nat.le_refl _) _).setCell (p := ⟨X, 4, none⟩) (Nat.le_refl _) _).setCell (p := ⟨X + 1, 0, none⟩) (Nat.le_add_right _ _) _).setCell (p := ⟨X + 2, 0, none⟩) (Nat.le_add_right _ _) _
theorem fill_ko (W : World) (X : Nat) (a0 a1 a2 a3 a4 : Value) (n m : Int) : KeepsOthers W (fill W X a0 a1 a2 a3 a4 n m) :=
  (((((((KeepsOthers.setCell _ _ _).trans (KeepsOthers.setCell _ _ _)).trans (KeepsOthers.setCell _ _ _)).trans (KeepsOthers.setCell _ _ _)).trans (KeepsOthers.setCell _ _ _)).trans (KeepsOthers.setCell _ _ _)).trans (KeepsOthers.setCell _ _ _))
theorem fill_dr {D : DrM} {V : DrV} (h : DrAt (X + 7) W (X + 3) D V) (a0 a1 a2 a3 a4 : Value) (n m : Int) : DrAt (X + 7) (fill W X a0 a1 a2 a3 a4 n m) (X + 3) D V := by
  have hA : ∀ (W : World) (g : Nat), g < X + 3 → Alien (X + 7) (X + 3) W (fun k => k = g) := fun W g hg k hk => by
    have hk : k = g := hk
    exact ⟨by omega, fun h => by omega⟩
  exact (((((((h.keep (updBox _ X 0 _) (hA _ _ (by omega))).keep (updBox _ X 1 _) (hA _ _ (by omega))).keep (updBox _ X 2 _) (hA _ _ (by omega))).keep (updBox _ X 3 _) (hA _ _ (by omega))).keep (updBox _ X 4 _) (hA _ _ (by omega))).keep (updBox _ (X + 1) 0 _) (hA _ _ (by omega))).keep (updBox _ (X + 2) 0 _) (hA _ _ (by omega)))
theorem grown_bx {C : Array Value} (h : Bx X w W c C r1 r2) (hX : X ≤ w.heap.size) {g : Nat} (hg : X + 7 ≤ g) (hk : W.heap[g]? = some (.deferred (some []))) : Bx X w (W.putObj g (.deferred none)) c C r1 r2 :=
  own_bx (β := Unit) (f := fun _ => c) (g := fun _ => r1) (h := fun _ => r2) hX () W _ (some g) h (grownBy_putObj' _ g (.deferred none)) (fun r e => by cases e; exact ⟨hg, _, hk, rfl⟩)
theorem Bx.drew {C : Array Value} (h : Bx X w W c C r1 r2) : Bx X w W.drew c C r1 r2 := ⟨h.b0, h.b1, h.b2, h.b4, h.b5, ⟨h.low.os, h.low.tape, h.low.output, h.low.size, h.low.block⟩⟩
end
theorem img_zero (W : World) : Img W (.agg z5) zImg := by
  have hr := (Row.nil W INT 1 intC).ints (show okN [] by simp [okN])
  refine ⟨.slice none 0 0, .slice none 0 0, .slice none 0 0, .slice none 0 0, rfl, hr, ?_, ?_, hr, by simp [zImg, maxLen, bs_size]⟩
  · exact ⟨fun _ => .slice none 0 0, (Sl.own (Row.nil W IMP 4 impC)).congr (fun i hi => by simp at hi), fun i hi => by simp [zImg] at hi, by simp [zImg]⟩
  · exact ⟨fun _ => .slice none 0 0, fun _ => .slice none 0 0, fun _ => .slice none 0 0, (Sl.own (Row.nil W MET 4 metC)).congr (fun i hi => by simp at hi), fun i hi => by simp [zImg] at hi, by simp [zImg]⟩
set_option maxRecDepth 100000 in
set_option maxHeartbeats 1000000 in
theorem tParse (l : By) (w : World) (hl : l.length + 1 ≤ maxLen) : Calls Tryz.prog 25 #[.string (bs l)] w fun e w' => ∃ v, e = .returned (.tuple #[v, .int .i64 (parseT l).2.1, .int .i64 (parseT l).2.2]) ∧ Img w' v (parseT l).1 ∧ Upd (fun _ => False) w w' := by
  have HLL1 := Lib.hid hl
  have HLL : Hid (l.length ≤ maxLen) := Lib.hid (Nat.le_of_succ_le hl)
  have HLN := Lib.hid (fun w => tLines l w)
  clear hl
  refine (callsIn_wide (n := 4)).1 ?_
  refine callsIn_of_wp_marks Tryz.func25 rfl trivial ?_ rfl
  simp only [Tryz.ntmps25, List.size_toArray, List.length_cons, List.length_nil, Nat.reduceAdd, Nat.reduceSub, Array.replicate_succ, Array.replicate_zero, List.push_toArray, List.append_toArray, List.nil_append, List.cons_append]
  gi_wp2_with (refine ⟨trivial, ?_⟩; gi_at_call 50; refine (callsIn_wide.2 (HLN.out _)).mono ?_; rintro e w' ⟨rfl, rfl⟩)
  simp only [Nat.add_assoc, Nat.reduceAdd]
  have HS := Lib.hid (pw0_size w w.heap.size l)
  have H6 := Lib.hid (pw0_at w l 6)
  have HL0 := Lib.hid (pw0_low w w.heap.size l)
  have HI0 := Lib.hid (pi_start w l)
  obtain ⟨X, hX⟩ : ∃ X, w.heap.size = X := ⟨_, rfl⟩
  obtain ⟨W0, hW0⟩ : ∃ W0, W0 = pw0 w X l := ⟨_, rfl⟩
  rw [hX] at HS H6 HL0 HI0 ⊢
  rw [← hW0] at HS H6 HL0 HI0
  have HXS := Lib.hid hX
  have hW0' := hW0
  unfold pw0 at hW0'
  rw [← hW0']
  clear hW0 hW0' hX
  refine wpIn_rangeFunc_ownF rfl (by omega) (gf := LF) (lb := #[.pointer (some ⟨X + 6, 0, none⟩)]) rfl trivial (enters_of Tryz.func66 (by kernel_rfl) rfl)
    (lines_stops Fence.wide (4 - 1) trivial rfl (by omega) l HLL.out (X + 6) W0 H6.out) kpL_t (kpL_b (by have := HS.out; omega)) (Below.refl _ _) (fun _ => rfl)
    (Pi X w) (Px X w) (by rw [HS.out]; exact own_pi (by have := HXS.out; omega)) (fun c => by rw [HS.out]; exact own_px (by have := HXS.out; omega) c) HI0.out
    (fun x => { tmps := #[.string (bs l), undef, .pointer (some ⟨X, 0, none⟩), .pointer (some ⟨X + 1, 0, none⟩), .pointer (some ⟨X + 2, 0, none⟩), .pointer (some ⟨X + 4, 0, none⟩), .pointer (some ⟨X + 5, 0, none⟩), .string (bs (cap x)), .agg #[.string { data := #[] }, .slice none 0 0, .slice none 0 0, .slice none 0 0, .slice none 0 0, .int .i64 0], .pointer (some ⟨X + 3, 0, none⟩), .string (bs l), .func (.func LF) #[] #[.pointer (some ⟨X + 6, 0, none⟩)], .string (bs (cap x)), undef, undef, undef, undef, undef, undef, undef, undef, undef, undef, undef, undef, undef, undef, undef, undef, undef, undef, undef, undef, undef], defers := [] }) ?assign ?body ?done ?stop
  case assign =>
    intro lp x W K hK
    gi_wp2
    exact hK
  case body =>
    rintro lp pre x W ⟨⟨D, V, hD, hG, hO, hP⟩, hB⟩ hN
    have hN2 : (pre.length : Int) + 1 ≤ 9223372036854775807 := by have h1 := lines_len l; have h2 := HLL.out; unfold maxLen at h2; omega
    have hw1 : ∃ W1, W1 = W.setCell ⟨X + 5, 0, none⟩ (.int .i64 ((pre.length : Int) + 1)) := ⟨_, rfl⟩
    obtain ⟨W1, hW1⟩ := hw1
    have HW1 := Lib.hid hW1
    have hk1 : ∀ k, k ≠ X + 5 → W1.heap[k]? = W.heap[k]? := fun k hk => by rw [hW1]; exact tOff 0 _ hk
    have HD1 : Hid (DrAt (X + 7) W1 (X + 3) D V) := Lib.hid (by
      rw [hW1]
      refine hD.keep (updBox W (X + 5) 0 _) (fun k hk => ?_)
      have hk : k = X + 5 := hk
      exact ⟨by omega, fun h => by omega⟩)
    have HB1 : Hid (Bx X w W1 ((pre.length : Int) + 1) z5 0 0) := Lib.hid ⟨(hk1 _ (by omega)).trans hB.b0, (hk1 _ (by omega)).trans hB.b1, (hk1 _ (by omega)).trans hB.b2, (hk1 _ (by omega)).trans hB.b4, by rw [hW1]; exact tPut hB.b5 0 _, by rw [hW1]; exact hB.low.setCell (p := ⟨X + 5, 0, none⟩) (Nat.le_add_right _ _) _⟩
    have HK1 : Hid (KeepsOthers W W1) := Lib.hid (by rw [hW1]; exact KeepsOthers.setCell _ _ _)
    have HL6 : Hid (X + 6 < W1.heap.size) := Lib.hid (by have := HD1.out.sB; omega)
    have H61 : Hid (W1.heap[X + 6]? = W.heap[X + 6]?) := Lib.hid (hk1 _ (by omega))
    have HG := Lib.hid hG
    have HO := Lib.hid hO
    have HP := Lib.hid hP
    have HXL := Lib.hid (cap_le x)
    obtain ⟨y, hy⟩ : ∃ y, y = cap x := ⟨_, rfl⟩
    rw [← hy] at HXL ⊢
    have HY := Lib.hid hy
    have c5 := (tCell hB.b5 0).1
    have f5 := (tCell hB.b5 0).2
    have c4 := (tCell HB1.out.b4 0).1
    simp at c5 c4
    rw [hW1] at c4
    clear hD hG hO hP hB hN hW1 hk1 hy
    cases ht : takeD D y with
    | some D' =>
      have HT := Lib.hid ht
      clear ht
      gi_wp2_with (refine ⟨trivial, ?_⟩; gi_at_call 51; rw [← HW1.out]; refine (CallsIn.inRound lp (callsIn_wide.2 (take_yes HD1.out HG.out HXL.out HT.out))).mono ?_; rintro e W3 ⟨rfl, hd3, hu3, ko3⟩; have HD3 := Lib.hid hd3; have HU3 := Lib.hid hu3; have HK3 := Lib.hid ko3; clear hd3 hu3 ko3)
      refine ⟨HK1.out.trans HK3.out, ⟨(HK1.out.trans HK3.out).walks, (HU3.out.block _ (by have := HL6.out; omega) (by rintro (h | h) <;> omega)).trans H61.out⟩, ?_, ?_⟩
      · obtain ⟨V', hV'⟩ := HD3.out
        refine ⟨D', V', hV', takeD_good HG.out HT.out, takeD_ok HO.out HT.out, fun rest => ?_⟩
        rw [List.map_append, List.append_assoc, HP.out]
        show pgo D pre.length (cap x :: rest) = _
        rw [← HY.out, pgo_some HT.out]
        simp
      · have h := HB1.out.keep (W' := W3) (fun k hk hne => HU3.out.block _ (by have := HL6.out; omega) (by rintro (h | h) <;> omega)) (HB1.out.low.trans (HU3.out.below (by have := HL6.out; omega) (fun k h2 => by rcases h2 with h2 | h2 <;> omega)))
        simpa using h
    | none =>
      have HT := Lib.hid ht
      clear ht
      gi_wp2_with (refine ⟨trivial, ?_⟩; gi_at_call 51; rw [← HW1.out]; refine (CallsIn.inRound lp (callsIn_wide.2 (take_no HD1.out HG.out HXL.out HT.out))).mono ?_; rintro e W3 ⟨rfl, hu3, ko3⟩; have HU3 := Lib.hid hu3; have HK3 := Lib.hid ko3; have HB3 := Lib.hid (HB1.out.keep (W' := W3) (fun k hk hne => hu3.block _ (by have := HL6.out; omega) (by rintro (h | h) <;> omega)) (HB1.out.low.trans (hu3.below (by have := HL6.out; omega) (fun k h2 => by rcases h2 with h2 | h2 <;> omega)))); clear hu3 ko3; obtain ⟨p0, p1, p2, -, p5⟩ := bx_cells HB3.out)
      have HPN : Hid (∀ rest, pgo d0 0 ((pre ++ [x]).map cap ++ rest) = (none, (pre ++ [x]).length)) := Lib.hid (fun rest => by
        rw [List.map_append, List.append_assoc, HP.out]
        show pgo D pre.length (cap x :: rest) = _
        rw [← HY.out, pgo_none HT.out]
        simp)
      have HBE : Hid (Bx X w (fill W3 X (.string { data := #[] }) (.slice none 0 0) (.slice none 0 0) (.slice none 0 0) (.slice none 0 0) ((pre.length : Int) + 1) 5).drew ((pre.length : Int) + 1) z5 (pre ++ [x]).length 5) := Lib.hid (by
        have h := (fill_bx HB3.out (.string { data := #[] }) (.slice none 0 0) (.slice none 0 0) (.slice none 0 0) (.slice none 0 0) ((pre.length : Int) + 1) 5).drew
        simpa using h)
      refine wpIn_region_any (by kernel_rfl) ?_
      change wpAnyIn _ _ _ _ _ _ _ _ _ (World.drew _)
      (refine wpAnyIn_ready (rs := [0, 1]) (by kernel_rfl) (by simp) ?_; refine AllReadyIn.cons rfl (fun K hK => ?_) (AllReadyIn.cons rfl (fun K hK => ?_) AllReadyIn.nil); all_goals (go_simp; refine hK _ _ ?_; clear hK K))
      · (refine wpAnyIn_ready (rs := [1, 2]) (by kernel_rfl) (by simp) ?_; refine AllReadyIn.cons rfl (fun K hK => ?_) (AllReadyIn.cons rfl (fun K hK => ?_) AllReadyIn.nil); all_goals (go_simp; refine hK _ _ ?_; clear hK K))
        · (refine wpAnyIn_ready (rs := [2]) (by kernel_rfl) (by simp) ?_; refine AllReadyIn.cons rfl (fun K hK => ?_) AllReadyIn.nil; go_simp; refine hK _ _ ?_; clear hK K)
          (refine wpAnyIn_ready (rs := [3]) (by kernel_rfl) (by simp) ?_; refine AllReadyIn.cons rfl (fun K hK => ?_) AllReadyIn.nil; go_simp; refine hK _ _ ?_; clear hK K)
          (refine wpAnyIn_ready (rs := [4]) (by kernel_rfl) (by simp) ?_; refine AllReadyIn.cons rfl (fun K hK => ?_) AllReadyIn.nil; go_simp; refine hK _ _ ?_; clear hK K)
          refine wpAnyIn_done (by kernel_rfl) ?_ _
          gi_wp2
          exact ⟨(HK1.out.trans HK3.out).trans ((fill_ko W3 X _ _ _ _ _ _ _).trans (KeepsOthers.drew _)), ⟨rfl, HPN.out⟩, _, HBE.out⟩
        · (refine wpAnyIn_ready (rs := [1]) (by kernel_rfl) (by simp) ?_; refine AllReadyIn.cons rfl (fun K hK => ?_) AllReadyIn.nil; go_simp; refine hK _ _ ?_; clear hK K)
          (refine wpAnyIn_ready (rs := [3]) (by kernel_rfl) (by simp) ?_; refine AllReadyIn.cons rfl (fun K hK => ?_) AllReadyIn.nil; go_simp; refine hK _ _ ?_; clear hK K)
          (refine wpAnyIn_ready (rs := [4]) (by kernel_rfl) (by simp) ?_; refine AllReadyIn.cons rfl (fun K hK => ?_) AllReadyIn.nil; go_simp; refine hK _ _ ?_; clear hK K)
          refine wpAnyIn_done (by kernel_rfl) ?_ _
          gi_wp2
          exact ⟨(HK1.out.trans HK3.out).trans ((fill_ko W3 X _ _ _ _ _ _ _).trans (KeepsOthers.drew _)), ⟨rfl, HPN.out⟩, _, HBE.out⟩
      · (refine wpAnyIn_ready (rs := [0]) (by kernel_rfl) (by simp) ?_; refine AllReadyIn.cons rfl (fun K hK => ?_) AllReadyIn.nil; go_simp; refine hK _ _ ?_; clear hK K)
        (refine wpAnyIn_ready (rs := [2]) (by kernel_rfl) (by simp) ?_; refine AllReadyIn.cons rfl (fun K hK => ?_) AllReadyIn.nil; go_simp; refine hK _ _ ?_; clear hK K)
        (refine wpAnyIn_ready (rs := [3]) (by kernel_rfl) (by simp) ?_; refine AllReadyIn.cons rfl (fun K hK => ?_) AllReadyIn.nil; go_simp; refine hK _ _ ?_; clear hK K)
        (refine wpAnyIn_ready (rs := [4]) (by kernel_rfl) (by simp) ?_; refine AllReadyIn.cons rfl (fun K hK => ?_) AllReadyIn.nil; go_simp; refine hK _ _ ?_; clear hK K)
        refine wpAnyIn_done (by kernel_rfl) ?_ _
        gi_wp2
        exact ⟨(HK1.out.trans HK3.out).trans ((fill_ko W3 X _ _ _ _ _ _ _).trans (KeepsOthers.drew _)), ⟨rfl, HPN.out⟩, _, HBE.out⟩
  case done =>
    rintro DB ys W hDB rfl ⟨⟨D, V, hD, hG, hO, hP⟩, hB⟩ hK
    have hE : parseT l = endP (some D, (linesP l).length) := by
      have hc : (linesP l).map cap = linesP l := map_cap _ (fun x hx => Nat.le_trans (lines_sub l x hx) HLL.out)
      have := hP []
      rw [hc, List.append_nil] at this
      unfold parseT
      rw [this]
      rfl
    have hN2 : ((linesP l).length : Int) + 1 ≤ 9223372036854775807 := by have h1 := lines_len l; have h2 := HLL1.out; unfold maxLen at h2; omega
    obtain ⟨n, hn⟩ : ∃ n, n = (linesP l).length := ⟨_, rfl⟩
    rw [← hn] at hE hN2 hB
    obtain ⟨fv, iv, mv, xv, P, M⟩ := V
    obtain ⟨fa, fc, hf⟩ := ownsRow_slice hD.frow
    obtain ⟨ia, ic, hi⟩ := ownsRow_slice hD.irow
    obtain ⟨ma, mc, hm⟩ := ownsRow_slice hD.mrow
    obtain ⟨xa, xc, hx⟩ := ownsRow_slice hD.xrow
    simp only at hf hi hm hx
    subst hf hi hm hx
    have HD := Lib.hid hD
    have HB := Lib.hid hB
    have HO := Lib.hid hO
    have HE := Lib.hid hE
    have HK := Lib.hid hK
    have HDB := Lib.hid hDB
    have HIM := Lib.hid (hD.img hO)
    have c4 := (tCell hB.b4 0).1
    have d0 := (tCell hD.box 0).1
    have d1 := (tCell hD.box 1).1
    have d2 := (tCell hD.box 2).1
    have d3 := (tCell hD.box 3).1
    have d4 := (tCell hD.box 4).1
    simp at c4 d0 d1 d2 d3 d4
    obtain ⟨rt, hrt⟩ : ∃ rt, rt = imgB insB D.img := ⟨_, rfl⟩
    have HR := Lib.hid hrt
    clear hD hB hG hO hP hE hn hK hDB hrt
    cases rt with
    | true =>
      gi_wp2_with (refine ⟨trivial, ?_⟩; gi_at_call 14; refine (callsIn_wide.2 (cImgRight _ _ D.img HIM.out)).mono ?_; rw [← HR.out]; rintro e w5 ⟨rfl, hu5⟩; have HB5 := Lib.hid (HB.out.keep (W' := w5) (fun k hk hne => hu5.block _ (by have := HD.out.sB; omega) (fun h => h)) (HB.out.low.trans (hu5.below (by have := HD.out.sB; omega) (fun k h => h.elim)))); have HD5 := Lib.hid (HD.out.keep hu5 (Alien.no _ _ _)); have HK5 := Lib.hid ((ko_no hu5).same DB _ HK.out rfl); clear hu5; clear c4 d0 d1 d2 d3 d4; obtain ⟨p0, p1, p2, c4, c5⟩ := bx_cells HB5.out; have d0 := (tCell HD5.out.box 0).1; have d1 := (tCell HD5.out.box 1).1; have d2 := (tCell HD5.out.box 2).1; have d3 := (tCell HD5.out.box 3).1; have d4 := (tCell HD5.out.box 4).1; simp at d0 d1 d2 d3 d4)
      have hE : parseT l = (D.img, 0, 0) := by rw [HE.out]; exact endP_yes HR.out
      have hK6 := (fill_ko w5 X (.string D.img.name) (.slice fa D.img.fields.length fc) (.slice ia P.length ic) (.slice ma M.length mc) (.slice xa D.img.exports.length xc) 0 0).same DB _ HK5.out rfl
      refine ⟨by simp, .inl ⟨_, _, rfl, run_takeDeferred hK6, ?_⟩⟩
      have hDB2 : X + 7 ≤ DB := by have h1 := HS.out; have h2 := HDB.out; omega
      have HB6 := grown_bx (fill_bx HB5.out (.string D.img.name) (.slice fa D.img.fields.length fc) (.slice ia P.length ic) (.slice ma M.length mc) (.slice xa D.img.exports.length xc) 0 0) (by have := HXS.out; omega) hDB2 hK6
      have HD6 := (fill_dr HD5.out (.string D.img.name) (.slice fa D.img.fields.length fc) (.slice ia P.length ic) (.slice ma M.length mc) (.slice xa D.img.exports.length xc) 0 0).grown (grownBy_putObj' _ DB (.deferred none)) (fun r e => by cases e; exact ⟨hDB2, _, hK6, rfl⟩)
      obtain ⟨s0, s1, s2, -, -⟩ := bx_cells HB6
      have q0 := (s0 0).1
      have q1 := (s0 1).1
      have q2 := (s0 2).1
      have q3 := (s0 3).1
      have q4 := (s0 4).1
      have q5 := s1.1
      have q6 := s2.1
      simp at q0 q1 q2 q3 q4
      rw [hE]
      refine ⟨.tuple #[.agg #[.string D.img.name, .slice fa D.img.fields.length fc, .slice ia P.length ic, .slice ma M.length mc, .slice xa D.img.exports.length xc], .int .i64 0, .int .i64 0], ?_, _, rfl, HD6.img HO.out, upd_low HB6.low HXS.out⟩
      clear HD6 HB6 s0 s1 s2 hE hK6
      simp [results, Tryz.f25, go_sem, q0, q1, q2, q3, q4, q5, q6]
    | false =>
      gi_wp2_with (refine ⟨trivial, ?_⟩; gi_at_call 14; refine (callsIn_wide.2 (cImgRight _ _ D.img HIM.out)).mono ?_; rw [← HR.out]; rintro e w5 ⟨rfl, hu5⟩; have HB5 := Lib.hid (HB.out.keep (W' := w5) (fun k hk hne => hu5.block _ (by have := HD.out.sB; omega) (fun h => h)) (HB.out.low.trans (hu5.below (by have := HD.out.sB; omega) (fun k h => h.elim)))); have HD5 := Lib.hid (HD.out.keep hu5 (Alien.no _ _ _)); have HK5 := Lib.hid ((ko_no hu5).same DB _ HK.out rfl); clear hu5; clear c4 d0 d1 d2 d3 d4; obtain ⟨p0, p1, p2, c4, c5⟩ := bx_cells HB5.out; have d0 := (tCell HD5.out.box 0).1; have d1 := (tCell HD5.out.box 1).1; have d2 := (tCell HD5.out.box 2).1; have d3 := (tCell HD5.out.box 3).1; have d4 := (tCell HD5.out.box 4).1; simp at d0 d1 d2 d3 d4)
      have hE : parseT l = (zImg, (n : Int) + 1, 5) := by rw [HE.out]; exact endP_no HR.out
      have hK6 := ((fill_ko w5 X (.string { data := #[] }) (.slice none 0 0) (.slice none 0 0) (.slice none 0 0) (.slice none 0 0) ((n : Int) + 1) 5).trans (KeepsOthers.drew _)).same DB _ HK5.out rfl
      have hDB2 : X + 7 ≤ DB := by have h1 := HS.out; have h2 := HDB.out; omega
      have HB6 := Lib.hid (grown_bx (fill_bx HB5.out (.string { data := #[] }) (.slice none 0 0) (.slice none 0 0) (.slice none 0 0) (.slice none 0 0) ((n : Int) + 1) 5).drew (by have := HXS.out; omega) hDB2 hK6)
      have HK6 := Lib.hid hK6
      have HE2 := Lib.hid hE
      clear hE hK6
      gi_region
      all_goals gi_wp2
      all_goals refine ⟨by simp, .inl ⟨_, _, rfl, run_takeDeferred HK6.out, ?_⟩⟩
      all_goals obtain ⟨s0, s1, s2, -, -⟩ := bx_cells HB6.out
      all_goals have q0 := (s0 0).1
      all_goals have q1 := (s0 1).1
      all_goals have q2 := (s0 2).1
      all_goals have q3 := (s0 3).1
      all_goals have q4 := (s0 4).1
      all_goals have q5 := s1.1
      all_goals have q6 := s2.1
      all_goals simp at q0 q1 q2 q3 q4
      all_goals rw [HE2.out]
      all_goals refine ⟨.tuple #[.agg z5, .int .i64 ((n : Int) + 1), .int .i64 5], ?_, .agg z5, rfl, img_zero _, upd_low HB6.out.low HXS.out⟩
      all_goals clear s0 s1 s2
      all_goals simp [results, Tryz.f25, go_sem, q0, q1, q2, q3, q4, q5, q6]
  case stop =>
    rintro DB c pre W hDB hpre ⟨⟨rfl, hP⟩, cn, hB⟩ hK
    gi_wp2
    refine ⟨by simp, .inl ⟨_, _, rfl, run_takeDeferred hK, ?_⟩⟩
    have hB' := grown_bx (C := z5) hB (by have := HXS.out; omega) (by have := HS.out; omega) hK
    obtain ⟨p0, p1, p2, -, -⟩ := bx_cells hB'
    have q0 := (p0 0).1
    have q1 := (p0 1).1
    have q2 := (p0 2).1
    have q3 := (p0 3).1
    have q4 := (p0 4).1
    have q5 := p1.1
    have q6 := p2.1
    simp at q0 q1 q2 q3 q4
    have hE : parseT l = (zImg, (pre.length : Int), 5) := by
      obtain ⟨t, ht⟩ := hpre
      have hc : pre.map cap = pre := map_cap pre (fun x hx => Nat.le_trans (lines_sub l x (by rw [← ht]; simp [hx])) HLL.out)
      unfold parseT
      rw [← ht]
      have := hP t
      rw [hc] at this
      rw [this]
      rfl
    rw [hE]
    refine ⟨.tuple #[.agg z5, .int .i64 (pre.length : Int), .int .i64 5], ?_, .agg z5, rfl, img_zero _, upd_low hB'.low HXS.out⟩
    simp [results, Tryz.f25, go_sem, q0, q1, q2, q3, q4, q5, q6]
end Go.Proofs.YtmikibcgphkcfaaGreatDoor
/- Package text: the law's known (made by mktu.py). -/
namespace Go.Proofs.YtmikibcgphkcfaaGreatDoor
open Go.RowKit Go.Shelf Go.Lib
set_option linter.unusedVariables false
set_option linter.unusedSimpArgs false

def kn5I : ImgM := ⟨bs [97], [], [], [⟨[], 0, [], [⟨1, -5, 0⟩, ⟨4, 0, 0⟩, ⟨39, 0, 0⟩]⟩], []⟩
def kb5I : ImgM := ⟨bs [98, 195, 169, 116, 97], [2], [⟨bs [97], 1, [1, 4], 0⟩], [⟨[], 0, [3], [⟨39, 0, 0⟩]⟩], [0]⟩
def kn5 : By := [97, 112, 112, 108, 101, 116, 32, 97, 10, 109, 101, 116, 104, 111, 100, 32, 110, 111, 110, 101, 10, 32, 112, 117, 115, 104, 32, 45, 53, 32, 35, 32, 102, 105, 118, 101, 10, 32, 112, 111, 112, 10, 114, 101, 116, 10]
set_option maxRecDepth 100000 in
theorem kn5_parse : parseT kn5 = (kn5I, 0, 0) := by kernel_rfl
theorem kn5_bs : bs kn5 = { data := #[97, 112, 112, 108, 101, 116, 32, 97, 10, 109, 101, 116, 104, 111, 100, 32, 110, 111, 110, 101, 10, 32, 112, 117, 115, 104, 32, 45, 53, 32, 35, 32, 102, 105, 118, 101, 10, 32, 112, 111, 112, 10, 114, 101, 116, 10] } := rfl
theorem kn5_call (w : World) : Calls Tryz.prog 25 #[.string { data := #[97, 112, 112, 108, 101, 116, 32, 97, 10, 109, 101, 116, 104, 111, 100, 32, 110, 111, 110, 101, 10, 32, 112, 117, 115, 104, 32, 45, 53, 32, 35, 32, 102, 105, 118, 101, 10, 32, 112, 111, 112, 10, 114, 101, 116, 10] }] w fun e w' => ∃ v, e = .returned (.tuple #[v, .int .i64 0, .int .i64 0]) ∧ Img w' v kn5I ∧ Upd (fun _ => False) w w' := by
  have h := tParse kn5 w (by decide)
  rw [kn5_parse, kn5_bs] at h
  exact h
def kb5 : By := [97, 112, 112, 108, 101, 116, 32, 98, 195, 169, 116, 97, 10, 102, 105, 101, 108, 100, 32, 115, 101, 99, 10, 105, 109, 112, 111, 114, 116, 32, 97, 32, 49, 32, 110, 111, 110, 101, 32, 112, 117, 98, 32, 115, 101, 99, 97, 10, 109, 101, 116, 104, 111, 100, 32, 110, 111, 110, 101, 10, 108, 111, 99, 97, 108, 115, 32, 112, 117, 98, 97, 10, 114, 101, 116, 10, 101, 120, 112, 111, 114, 116, 32, 48]
set_option maxRecDepth 100000 in
theorem kb5_parse : parseT kb5 = (kb5I, 0, 0) := by kernel_rfl
theorem kb5_bs : bs kb5 = { data := #[97, 112, 112, 108, 101, 116, 32, 98, 195, 169, 116, 97, 10, 102, 105, 101, 108, 100, 32, 115, 101, 99, 10, 105, 109, 112, 111, 114, 116, 32, 97, 32, 49, 32, 110, 111, 110, 101, 32, 112, 117, 98, 32, 115, 101, 99, 97, 10, 109, 101, 116, 104, 111, 100, 32, 110, 111, 110, 101, 10, 108, 111, 99, 97, 108, 115, 32, 112, 117, 98, 97, 10, 114, 101, 116, 10, 101, 120, 112, 111, 114, 116, 32, 48] } := rfl
theorem kb5_call (w : World) : Calls Tryz.prog 25 #[.string { data := #[97, 112, 112, 108, 101, 116, 32, 98, 195, 169, 116, 97, 10, 102, 105, 101, 108, 100, 32, 115, 101, 99, 10, 105, 109, 112, 111, 114, 116, 32, 97, 32, 49, 32, 110, 111, 110, 101, 32, 112, 117, 98, 32, 115, 101, 99, 97, 10, 109, 101, 116, 104, 111, 100, 32, 110, 111, 110, 101, 10, 108, 111, 99, 97, 108, 115, 32, 112, 117, 98, 97, 10, 114, 101, 116, 10, 101, 120, 112, 111, 114, 116, 32, 48] }] w fun e w' => ∃ v, e = .returned (.tuple #[v, .int .i64 0, .int .i64 0]) ∧ Img w' v kb5I ∧ Upd (fun _ => False) w w' := by
  have h := tParse kb5 w (by decide)
  rw [kb5_parse, kb5_bs] at h
  exact h
def kf5 : By := [97, 112, 112, 108, 101, 116, 32, 97, 10, 102, 105, 101, 108, 100, 32, 110, 111, 110, 101, 10]
set_option maxRecDepth 100000 in
theorem kf5_parse : parseT kf5 = (zImg, 2, 5) := by kernel_rfl
theorem kf5_bs : bs kf5 = { data := #[97, 112, 112, 108, 101, 116, 32, 97, 10, 102, 105, 101, 108, 100, 32, 110, 111, 110, 101, 10] } := rfl
theorem kf5_call (w : World) : Calls Tryz.prog 25 #[.string { data := #[97, 112, 112, 108, 101, 116, 32, 97, 10, 102, 105, 101, 108, 100, 32, 110, 111, 110, 101, 10] }] w fun e w' => ∃ v, e = .returned (.tuple #[v, .int .i64 2, .int .i64 5]) ∧ Img w' v zImg ∧ Upd (fun _ => False) w w' := by
  have h := tParse kf5 w (by decide)
  rw [kf5_parse, kf5_bs] at h
  exact h
def kr5 : By := [97, 112, 112, 108, 101, 116, 32, 97, 10, 109, 101, 116, 104, 111, 100, 32, 110, 111, 110, 101, 10, 114, 101, 116, 32, 49, 10]
set_option maxRecDepth 100000 in
theorem kr5_parse : parseT kr5 = (zImg, 3, 5) := by kernel_rfl
theorem kr5_bs : bs kr5 = { data := #[97, 112, 112, 108, 101, 116, 32, 97, 10, 109, 101, 116, 104, 111, 100, 32, 110, 111, 110, 101, 10, 114, 101, 116, 32, 49, 10] } := rfl
theorem kr5_call (w : World) : Calls Tryz.prog 25 #[.string { data := #[97, 112, 112, 108, 101, 116, 32, 97, 10, 109, 101, 116, 104, 111, 100, 32, 110, 111, 110, 101, 10, 114, 101, 116, 32, 49, 10] }] w fun e w' => ∃ v, e = .returned (.tuple #[v, .int .i64 3, .int .i64 5]) ∧ Img w' v zImg ∧ Upd (fun _ => False) w w' := by
  have h := tParse kr5 w (by decide)
  rw [kr5_parse, kr5_bs] at h
  exact h
def ka5 : By := [97, 112, 112, 108, 101, 116, 32, 97, 10]
set_option maxRecDepth 100000 in
theorem ka5_parse : parseT ka5 = (zImg, 2, 5) := by kernel_rfl
theorem ka5_bs : bs ka5 = { data := #[97, 112, 112, 108, 101, 116, 32, 97, 10] } := rfl
theorem ka5_call (w : World) : Calls Tryz.prog 25 #[.string { data := #[97, 112, 112, 108, 101, 116, 32, 97, 10] }] w fun e w' => ∃ v, e = .returned (.tuple #[v, .int .i64 2, .int .i64 5]) ∧ Img w' v zImg ∧ Upd (fun _ => False) w w' := by
  have h := tParse ka5 w (by decide)
  rw [ka5_parse, ka5_bs] at h
  exact h
def ke5 : By := []
set_option maxRecDepth 100000 in
theorem ke5_parse : parseT ke5 = (zImg, 1, 5) := by kernel_rfl
theorem ke5_bs : bs ke5 = { data := #[] } := rfl
theorem ke5_call (w : World) : Calls Tryz.prog 25 #[.string { data := #[] }] w fun e w' => ∃ v, e = .returned (.tuple #[v, .int .i64 1, .int .i64 5]) ∧ Img w' v zImg ∧ Upd (fun _ => False) w w' := by
  have h := tParse ke5 w (by decide)
  rw [ke5_parse, ke5_bs] at h
  exact h
theorem in_under : Tryz.prog.underlying 41 = some (.struct (Tryz.prog.fieldsOf 41)) := by kernel_rfl
theorem in_held : Tryz.prog.stoodInHeld 41 = false := by kernel_rfl
theorem in5 (w : World) : (binOp .eql 41 (.agg #[.int .i64 1, .int .i64 (-5), .int .i64 0]) (.agg #[.int .i64 1, .int .i64 (-5), .int .i64 0])).run Tryz.prog w = .ok (.bool true) w := by
  rw [run_eql_struct, Go.run_equalIn_agg w 9999 _ _ _ in_under in_held]
  simp [Program.fieldsOf, Tryz.underlying41, Op.eqFields, go_sem, Tryz.underlying3]
set_option maxRecDepth 100000 in
set_option maxHeartbeats 1000000 in
theorem known5 (w : World) : Calls Tryz.prog 9 #[] w fun e w' => e = .returned (.bool true) ∧ Upd (fun _ => False) w w' := by
  go_enter Tryz.func9, Tryz.ntmps9
  go_wp2_with fail
  refine (kn5_call w).mono ?_
  rintro e w1 ⟨v, rfl, ⟨f, i, m, y, hr, hf, hi, hm, hy, hsz⟩, hu⟩
  replace hr : v = img5 { data := #[97] } f i m y := hr
  subst hr
  obtain ⟨ga, gc, rfl⟩ : ∃ a c, f = .slice a 0 c := by obtain ⟨a, c, h, _⟩ := hf.slice; exact ⟨a, c, h⟩
  obtain ⟨ja, jc, rfl⟩ : ∃ a c, i = .slice a 0 c := by obtain ⟨a, c, h, _⟩ := hi.slice; exact ⟨a, c, h⟩
  obtain ⟨ya, yc, rfl⟩ : ∃ a c, y = .slice a 0 c := by obtain ⟨a, c, h, _⟩ := hy.slice; exact ⟨a, c, h⟩
  obtain ⟨p, q, r, hs, hme, -⟩ := hm
  replace hs : Sl w1 m 4 1 (metF kn5I.methods p q r) := hs
  obtain ⟨ma, mc, rfl, -, -, hms⟩ := hs
  obtain ⟨g, off, rfl, hmc⟩ := hms.resolve_left (by omega)
  have hcs : Sl w1 (r 0) 3 3 (insF [⟨1, -5, 0⟩, ⟨4, 0, 0⟩, ⟨39, 0, 0⟩]) := (hme 0 (by simp [kn5I])).2.2.1
  obtain ⟨ca, cc, hcr, -, -, hcs⟩ := hcs
  obtain ⟨cg, co, rfl, hcc⟩ := hcs.resolve_left (by omega)
  have c3 : w1.cell? ⟨g, off + 3, none⟩ = some (.slice (some ⟨cg, co, none⟩) 3 cc) := (hmc 0 (by omega) 3 (by omega)).trans (congrArg some hcr)
  have i0 : w1.cell? ⟨cg, co, none⟩ = some (.int .i64 1) := hcc 0 (by omega) 0 (by omega)
  have i1 : w1.cell? ⟨cg, co + 1, none⟩ = some (.int .i64 (-5)) := hcc 0 (by omega) 1 (by omega)
  have i2 : w1.cell? ⟨cg, co + 2, none⟩ = some (.int .i64 0) := hcc 0 (by omega) 2 (by omega)
  have hg := World.block_lt_of_cell? w1 _ c3
  have hc := World.block_lt_of_cell? w1 _ i0
  simp only at hg hc
  have HU := Lib.hid (hu.trans (Upd.alloc (fun _ => False) w1 (.cells #[.string { data := #[97] }, .slice ga 0 gc, .slice ja 0 jc, .slice (some ⟨g, off, none⟩) 1 mc, .slice ya 0 yc] IMG)) (fun _ h _ => h))
  have he := in5
  clear hf hi hy hme hms hmc hcr hcs hcc hsz hu
  go_wp2_with fail
  go_ret
  exact ⟨rfl, HU.out⟩
end Go.Proofs.YtmikibcgphkcfaaGreatDoor
/- Package text: the library's contracts that Print asks for, at this seat. -/
namespace Go.Proofs.YtmikibcgphkcfaaGreatDoor
open Go.RowKit Go.Shelf Go.Lib
set_option linter.unusedVariables false
set_option linter.unusedSimpArgs false

abbrev BT : TypeId := 49
abbrev BY : TypeId := 5
abbrev STR : TypeId := 9
theorem xJ : Builder.Extra Tryz.prog Tryz.laysJoin_ren where
  sizeBuilder := by kernel_rfl
  liesBuilder := by kernel_rfl
  t5 := Tryz.underlying5
  a5 := Tryz.isAgg5
  z5 := Tryz.sizeOf5
  v5 := Tryz.zeroValue5
  infoByte := by kernel_rfl
  cellsByte := by kernel_rfl
  sizeByte := by kernel_rfl
  neB5 := by decide
theorem lWS : Lays.n166 Tryz.prog Tryz.laysJoin_ren := { Tryz.laysJoin with }
def wbRen : Ren := ⟨fun | 167 => 40 | n => Tryz.laysJoin_ren.f n, Tryz.laysJoin_ren.t, Tryz.laysJoin_ren.g⟩
theorem lWB : Lays.n167 Tryz.prog wbRen := { Tryz.laysJoin with
  f167 := Tryz.func40.trans (congrArg some (by kernel_rfl))
  t5 := Tryz.underlying5
  a5 := Tryz.isAgg5
  z5 := Tryz.sizeOf5
  v5 := Tryz.zeroValue5 }
theorem xWB : Builder.Extra Tryz.prog wbRen where
  sizeBuilder := by kernel_rfl
  liesBuilder := by kernel_rfl
  t5 := Tryz.underlying5
  a5 := Tryz.isAgg5
  z5 := Tryz.sizeOf5
  v5 := Tryz.zeroValue5
  infoByte := by kernel_rfl
  cellsByte := by kernel_rfl
  sizeByte := by kernel_rfl
  neB5 := by decide
/-- the builder in block b, made from B on, holds the bytes s -/
def Bd (B b : Nat) (w : World) (s : By) : Prop := IsBuilderF BT BY B b (byteCells s) w
/-- only the builder has turned, rows of bytes from B on, and what is new -/
def Kb (B b : Nat) (w w' : World) : Prop := Below B w w' ∧ OthersKept BY (some b) w w'
theorem Kb.trans {B b : Nat} {x y z : World} (h : Kb B b x y) (k : Kb B b y z) : Kb B b x z := ⟨h.1.trans k.1, h.2.trans k.2⟩
theorem Kb.refl (B b : Nat) (w : World) : Kb B b w w := ⟨Below.refl _ _, OthersKept.refl _ _ _⟩
theorem Kb.of {B b : Nat} {w w' : World} (hu : Upd (fun _ => False) w w') (hB : B ≤ w.heap.size) : Kb B b w w' :=
  ⟨hu.below hB (fun k h => h.elim), fun k o hk _ _ => (hu.block k (Array.getElem?_eq_some_iff.1 hk).1 (fun h => h)).trans hk⟩
theorem Bd.kept {B b : Nat} {w w' : World} {s : By} (h : Bd B b w s) (hu : Upd (fun _ => False) w w') : Bd B b w' s := by
  have hk : ∀ p, BuilderAtF BT BY B b p (byteCells s) w → BuilderAtF BT BY B b p (byteCells s) w' := by
    rintro p ⟨hB, v, hb, hown, hne⟩
    refine ⟨hB, v, (hu.block b (Array.getElem?_eq_some_iff.1 hb).1 (fun h => h)).trans hb, ?_, hne⟩
    exact hown.kept (row := none) ⟨hu.os, hu.tape, hu.output, hu.size, fun k hk _ => hu.block k hk (fun h => h)⟩ (by
      by_cases ho : v.ownBlock = none
      · exact Or.inl ho
      · exact Or.inr ho)
  exact h.elim (fun x => .inl (hk _ x)) (fun x => .inr (hk _ x))
theorem tWS {B b : Nat} {w : World} {s : By} (h : Bd B b w s) (t : By) (hl : s.length + t.length ≤ 140737488355328) (hB : B ≤ w.heap.size) : Calls Tryz.prog 38 #[.pointer (some ⟨b, 0, none⟩), .string (bs t)] w fun e w' => e = .returned (.tuple #[.int .i64 t.length, .nilIface]) ∧ Bd B b w' (s ++ t) ∧ Kb B b w w' := by
  refine (Any.Builder_WriteString_k lWS xJ B b (byteCells s) (bs t) w h (by rw [byteCells_length, bs_size]; exact hl) hB).mono ?_
  rintro e w' ⟨rfl, h1, h2, h3⟩
  refine ⟨by rw [bs_size], .inr ?_, h2, h3⟩
  rw [byteCells_append]
  exact h1
theorem tWB {B b : Nat} {w : World} {s : By} (h : Bd B b w s) (hl : s.length + 1 ≤ 140737488355328) (hB : B ≤ w.heap.size) : Calls Tryz.prog 40 #[.pointer (some ⟨b, 0, none⟩), .int .u8 10] w fun e w' => e = .returned .nilIface ∧ Bd B b w' (s ++ [10]) ∧ Kb B b w w' := by
  refine (Any.Builder_WriteByte_k lWB xWB B b (byteCells s) 10 w h (by rw [byteCells_length]; exact hl) hB).mono ?_
  rintro e w' ⟨rfl, h1, h2, h3⟩
  refine ⟨rfl, .inr ?_, h2, h3⟩
  rw [byteCells_append]
  exact h1
/-- words in one line, or kinds -/
def joinB (xs : List By) : By := Lib.join xs [32]
/-- a slice value that reads as strings -/
def Strs (w : World) (v : Value) (xs : List By) : Prop := Sl w v 1 xs.length (fun i _ => .string (bs (xs.getD i []))) ∧ xs.length ≤ 140737488355328
theorem map_bs (xs : List By) : (xs.map bs).map (fun x => x.data.toList) = xs := by
  rw [List.map_map]
  exact (List.map_congr_left (fun x _ => rfl)).trans (List.map_id xs)
theorem tJoin {w : World} {v : Value} {xs : List By} (h : Strs w v xs) (hl : (joinB xs).length ≤ 140737488355328) : Calls Tryz.prog 39 #[v, .string { data := #[32] }] w fun e w' => e = .returned (.string (bs (joinB xs))) ∧ Upd (fun _ => False) w w' := by
  obtain ⟨⟨a, c, rfl, hc, -, hs⟩, hn⟩ := h
  rcases hs with h0 | ⟨g, off, rfl, hs⟩
  · obtain rfl : xs = [] := List.length_eq_zero_iff.1 h0
    refine (Any.strings_Join_none Tryz.laysJoin xJ a c { data := #[32] } w).mono ?_
    rintro e w' ⟨rfl, rfl⟩
    exact ⟨rfl, Upd.refl _ _⟩
  · by_cases h0 : xs = []
    · subst h0
      refine (Any.strings_Join_none Tryz.laysJoin xJ _ c { data := #[32] } w).mono ?_
      rintro e w' ⟨rfl, rfl⟩
      exact ⟨rfl, Upd.refl _ _⟩
    · have hp := List.length_pos_iff.2 h0
      have hj : Lib.join ((xs.map bs).map (fun x => x.data.toList)) [32] = joinB xs := by rw [map_bs]; rfl
      have hcell := hs 0 hp 0 (by omega)
      have hm := Any.strings_Join Tryz.laysJoin xJ g off c (xs.map bs) { data := #[32] } w (fun j x hx => by
        rw [List.getElem?_map] at hx
        obtain ⟨y, hy, rfl⟩ := Option.map_eq_some_iff.1 hx
        have hlt := (List.getElem?_eq_some_iff.1 hy).1
        have := hs j hlt 0 (by omega)
        simp [List.getD, hy] at this
        exact this) (World.block_lt_of_cell? w _ hcell) (by simpa using hn) (by simpa using hc) (by rw [hj]; exact hl)
      rw [List.length_map] at hm
      refine hm.mono ?_
      rintro e w' ⟨rfl, hb⟩
      exact ⟨by rw [hj]; rfl, upd_of_below hb⟩
end Go.Proofs.YtmikibcgphkcfaaGreatDoor
/- Package text: kindNames, callNames, printLine. Package text: printLine. Package text: Itoa; what a method prints. -/
namespace Go.Proofs.YtmikibcgphkcfaaGreatDoor
section
open Go.RowKit Go.Shelf Go.Lib
set_option linter.unusedVariables false
set_option linter.unusedSimpArgs false

/-- a kind's name, of any number; none of others -/
def kindT (k : Int) : By := match decide (0 ≤ k), decide (k ≤ 4) with
  | true, true => kindS k.toNat
  | _, _ => []
theorem kindS_len (k : Nat) : (kindS k).length ≤ 4 := by
  unfold kindS
  split <;> simp
theorem kindT_len (k : Int) : (kindT k).length ≤ 4 := by
  unfold kindT
  split
  · exact kindS_len _
  · simp
theorem tKindT (k : Int) (w : World) : Calls Tryz.prog 10 #[.int .i64 k] w fun e w' => e = .returned (.string (bs (kindT k))) ∧ w = w' := by
  by_cases h : 0 ≤ k ∧ k ≤ 4
  · have e : kindT k = kindS k.toNat := by unfold kindT; simp [h.1, h.2]
    have hk : k = (k.toNat : Int) := by omega
    rw [e, hk]
    exact tKindName _ (by omega) w
  · have e : kindT k = [] := by
      unfold kindT
      by_cases h0 : 0 ≤ k
      · have h4 : ¬ k ≤ 4 := fun h4 => h ⟨h0, h4⟩
        simp [h4]
      · simp [h0]
    rw [e]
    exact tKindName_no k (by omega) w
theorem join_cons (x y : By) (r : List By) : joinB (x :: y :: r) = x ++ 32 :: joinB (y :: r) := by
  simp [joinB, Lib.join, List.intercalate]
theorem join_len {m : Nat} : ∀ (xs : List By), (∀ x ∈ xs, x.length ≤ m) → (joinB xs).length ≤ xs.length * (m + 1)
  | [], _ => by simp [joinB, Lib.join, List.intercalate]
  | [x], h => by
    have := h x (by simp)
    have e : joinB [x] = x := Lib.join_one x [32]
    rw [e]
    simp
    omega
  | x :: y :: r, h => by
    have h1 := h x (by simp)
    have h2 := join_len (y :: r) (fun z hz => h z (List.mem_cons_of_mem _ hz))
    rw [join_cons]
    simp only [List.length_append, List.length_cons, Nat.add_mul] at h2 ⊢
    omega
def strC (x : By) : List Value := [.string (bs x)]
theorem flatStr (L : List By) : L.flatMap strC = L.map (fun x => .string (bs x)) := by
  induction L with
  | nil => rfl
  | cons x L ih => rw [List.flatMap_cons, ih]; rfl
theorem Row.strs {w : World} {v : Value} {L : List By} (h : Row w STR 1 strC v L) (hl : L.length ≤ 140737488355328) : Strs w v L := by
  refine ⟨(Sl.own h).congr (fun i hi j hj => ?_), hl⟩
  obtain rfl : j = 0 := by omega
  rw [flatStr]
  simp [hi, List.getD]
theorem tInfoStr : (Tryz.prog.info? 9).map (fun i => (i.zero, i.size, i.bytes)) = some (some (.string { data := #[] }), 1, 16) := by kernel_rfl
/-- names of the kinds so far -/
def KN (w wr : World) (v : Value) (L : List By) : Prop := Row wr STR 1 strC v L ∧ Upd (fun _ => False) w wr ∧ (∀ k, v.ownBlock = some k → w.heap.size ≤ k)
theorem ints_at {w wr : World} {v : Value} {ks : List Int} (h : Ints w v ks) (hu : Upd (fun _ => False) w wr) : ∃ a c, v = .slice a ks.length c ∧ ∀ k, k < ks.length → ∃ g off, a = some ⟨g, off, none⟩ ∧ wr.cell? ⟨g, off + k, none⟩ = some (.int .i64 (ks.getD k 0)) := by
  obtain ⟨⟨a, c, rfl, -, -, hs⟩, -⟩ := h
  refine ⟨a, c, rfl, fun k hk => ?_⟩
  obtain ⟨g, off, rfl, hs2⟩ := hs.resolve_left (by omega)
  have h1 := hs2 k hk 0 (by omega)
  refine ⟨g, off, rfl, ?_⟩
  have h2 := (World.cell?_of_block (a := ⟨g, off + k * 1 + 0, none⟩) (hu.block g (World.block_lt_of_cell? w _ h1) (fun h => h))).trans h1
  simpa using h2
set_option maxHeartbeats 2000000 in
theorem tKindNames (w : World) (v : Value) (ks : List Int) (h : Ints w v ks) (hk : ks.length ≤ 1000) : Calls Tryz.prog 41 #[v] w fun e w' => e = .returned (.string (bs (joinB (ks.map kindT)))) ∧ Upd (fun _ => False) w w' := by
  obtain ⟨i0, hi, hz0, hz1, hz2⟩ := info_parts tInfoStr
  have HI := Lib.hid h
  obtain ⟨a, c, rfl, -⟩ := ints_at h (Upd.refl _ w)
  have HKL := Lib.hid hk
  have H0 : Hid (KN w w (.slice none 0 0) ((ks.take 0).map kindT)) := Lib.hid ⟨Row.nil _ _ _ _, Upd.refl _ _, by simp [Value.ownBlock]⟩
  clear h hk
  go_enter Tryz.func41, Tryz.ntmps41
  go_wp2_with fail
  go_loopw [3, 8] (fun nv iv wr => ∃ k : Nat, k ≤ ks.length ∧ iv = .int .i64 k ∧ Hid (KN w wr nv ((ks.take k).map kindT))) (fun _ iv _ => ks.length - (RowKit.intOf iv).toNat)
  case atStart => exact ⟨0, Nat.zero_le _, rfl, H0⟩
  case round =>
    obtain ⟨k, hk, rfl, HK⟩ := hrel
    obtain ⟨L, hL⟩ : ∃ L, L = (ks.take k).map kindT := ⟨_, rfl⟩
    rw [← hL] at HK
    have HL := Lib.hid hL
    have hLL : L.length ≤ 1000 := by rw [hL]; simp; have := HKL.out; omega
    have HLL := Lib.hid hLL
    clear hL hLL
    obtain ⟨na, nc, rfl⟩ := ownsRow_slice HK.out.1
    by_cases hlt : k < ks.length
    · obtain ⟨a', c', he, hat⟩ := ints_at HI.out HK.out.2.1
      obtain ⟨g, off, hg, c0⟩ := hat k hlt
      simp at he
      obtain ⟨rfl, rfl⟩ := he
      subst hg
      clear hat
      obtain ⟨x, hx⟩ : ∃ x, x = ks.getD k 0 := ⟨_, rfl⟩
      rw [← hx] at c0
      have HT : Hid ((ks.take (k + 1)).map kindT = L ++ [kindT x]) := Lib.hid (by
        rw [HL.out, hx, List.take_add_one, List.map_append, List.getElem?_eq_getElem hlt]
        simp only [Option.toList, List.map_cons, List.map_nil, List.getD_eq_getElem?_getD, List.getElem?_eq_getElem hlt, Option.getD_some])
      clear hx
      have hk3 : (k : Int) + 1 ≤ 9223372036854775807 := by have := HKL.out; omega
      have hal : Upd (fun _ => False) wr (wr.alloc (.cells #[.string (bs (kindT x))] STR)) := Upd.alloc _ _ _
      have HS : Hid (Src (wr.alloc (.cells #[.string (bs (kindT x))] STR)) 1 (.slice (some ⟨wr.heap.size, 0, none⟩) 1 1) 1 (strC (kindT x))) := Lib.hid (tSrc wr STR (strC (kindT x)) _ rfl 1 (by
        intro u hu
        simp [strC] at hu
        rcases hu with rfl
        rfl) 1 1 _ rfl rfl)
      have HV : Hid (Row (wr.alloc (.cells #[.string (bs (kindT x))] STR)) STR 1 strC (.slice na L.length nc) L) := Lib.hid (HK.out.1.upd hal (fun _ _ h => h))
      have HA := Lib.hid hal
      clear hal
      go_wp2_with fail
      refine (tKindT x wr).mono ?_
      rintro e w2 ⟨rfl, rfl⟩
      go_wp2_with (at_builtin; go_loud (refine wpList_append_mine _ rfl _ _ 76 rfl 0 9 i0 (.string { data := #[] }) 1 16 Tryz.underlying76 hi hz0 hz1 hz2 rfl (by decide) (.slice na L.length nc) L.length (L.flatMap strC) rfl HV.out 1 (strC (kindT x)) HS.out (by have := HLL.out; unfold maxLen; omega) (by have := HLL.out; omega) (Nat.zero_le _) ?_))
      intro v' w2 ho hgr hf
      have HK2 : Hid (KN w w2 v' ((ks.take (k + 1)).map kindT)) := Lib.hid (by
        rw [HT.out]
        refine ⟨?_, ?_, ?_⟩
        · unfold Row
          rw [List.length_append, List.flatMap_append]
          simpa using ho
        · exact HK.out.2.1.trans (Upd.row HA.out hgr) (fun i hi hl => by have := HK.out.2.2 i hi; omega)
        · intro j hj
          rcases hf j hj with h | h
          · exact HK.out.2.2 j h
          · exact Nat.le_trans (Nat.le_trans HK.out.2.1.size HA.out.size) h)
      obtain ⟨va, vc, rfl⟩ := ownsRow_slice ho
      clear ho hgr hf
      go_wp2_with fail
      go_roundw
      case rel => exact ⟨k + 1, hlt, by go_num, HK2⟩
      case measure => simp [RowKit.intOf]; omega
    · obtain rfl : k = ks.length := by omega
      have HE : Hid (L = ks.map kindT) := Lib.hid (by rw [HL.out, List.take_length])
      go_wp2_with fail
      refine (tJoin (w := wr) (xs := L) (HK.out.1.strs (by have := HLL.out; omega)) (by
        have h1 := join_len (m := 4) L (fun x hx => by
          rw [HE.out] at hx
          obtain ⟨y, -, rfl⟩ := List.mem_map.1 hx
          exact kindT_len y)
        have := HLL.out
        omega)).mono ?_
      rintro e w2 ⟨rfl, hu⟩
      have HU := Lib.hid (HK.out.2.1.trans hu (fun _ h _ => h))
      clear hu
      go_wp2_with fail
      go_ret
      exact ⟨by rw [HE.out]; rfl, HU.out⟩
/-- what a call bears: its result, then its parameters -/
def callT (ps : List Int) (r : Int) : By := match ps.isEmpty with
  | true => kindT r
  | false => kindT r ++ 32 :: joinB (ps.map kindT)
theorem callT_len (ps : List Int) (r : Int) : (callT ps r).length ≤ 5 + ps.length * 5 := by
  have h1 := kindT_len r
  have h2 := join_len (m := 4) (ps.map kindT) (fun x hx => by
    obtain ⟨y, -, rfl⟩ := List.mem_map.1 hx
    exact kindT_len y)
  unfold callT
  split
  · omega
  · simp only [List.length_append, List.length_cons, List.length_map] at h2 ⊢
    omega
theorem bs_app (a b : By) : bs a ++ bs b = bs (a ++ b) := by
  apply ByteArray.ext
  simp [bs]
set_option maxHeartbeats 1000000 in
theorem tCallNames (w : World) (v : Value) (ks : List Int) (r : Int) (h : Ints w v ks) (hk : ks.length ≤ 1000) : Calls Tryz.prog 16 #[v, .int .i64 r] w fun e w' => e = .returned (.string (bs (callT ks r))) ∧ Upd (fun _ => False) w w' := by
  have HI := Lib.hid h
  have HKL := Lib.hid hk
  obtain ⟨a, c, rfl, -⟩ := ints_at h (Upd.refl _ w)
  cases ks with
  | nil =>
    clear h hk
    go_enter Tryz.func16, Tryz.ntmps16
    go_wp2_with fail
    refine (tKindT r w).mono ?_
    rintro e w2 ⟨rfl, rfl⟩
    go_wp2_with fail
    go_ret
    exact ⟨rfl, Upd.refl _ _⟩
  | cons x xs =>
    have hb : ((((x :: xs).length : Nat) : Int) == 0) = false := by simp; omega
    obtain ⟨n, hn⟩ : ∃ n, n = (x :: xs).length := ⟨_, rfl⟩
    rw [← hn] at hb
    rw [← hn] at HI ⊢
    have HN := Lib.hid (fun w => tKindNames w (.slice a n c) (x :: xs))
    clear h hk hn
    go_enter Tryz.func16, Tryz.ntmps16
    go_wp2_with fail
    refine (tKindT r w).mono ?_
    rintro e w2 ⟨rfl, rfl⟩
    go_wp2_with fail
    · rename_i hh
      rw [bs_size] at hh
      have h4 := kindT_len r
      exfalso
      omega
    refine (HN.out w HI.out HKL.out).mono ?_
    rintro e w3 ⟨rfl, hu⟩
    have HU := Lib.hid hu
    clear hu
    have HJ := Lib.hid (join_len (m := 4) ((x :: xs).map kindT) (fun x hx => by
      obtain ⟨y, -, rfl⟩ := List.mem_map.1 hx
      exact kindT_len y))
    obtain ⟨j, hj⟩ : ∃ j, j = joinB ((x :: xs).map kindT) := ⟨_, rfl⟩
    rw [← hj] at HJ ⊢
    have HE := Lib.hid hj
    clear hj
    go_wp2_with fail
    · rename_i h1 hh
      have h4 := kindT_len r
      have h5 := HJ.out
      have h6 := HKL.out
      simp only [bs_size, List.length_map] at hh h5
      exfalso
      omega
    go_ret
    refine ⟨?_, HU.out⟩
    unfold callT
    rw [← HE.out]
    show Ending.returned (.string (bs (kindT r) ++ bs [32] ++ bs j)) = _
    rw [bs_app, bs_app, List.append_assoc]
    rfl
end

section
open Go.RowKit Go.Shelf Go.Lib
set_option linter.unusedVariables false
set_option linter.unusedSimpArgs false

/-- a line: words, and its end -/
def lineT (xs : List By) : By := joinB xs ++ [10]
theorem tPrintLine {B b : Nat} {w : World} {s : By} {v : Value} {xs : List By} (h : Bd B b w s) (hv : Strs w v xs) (hl : s.length + (joinB xs).length + 1 ≤ 140737488355328) (hB : B ≤ w.heap.size) : Calls Tryz.prog 15 #[.pointer (some ⟨b, 0, none⟩), v] w fun e w' => e = .returned (.tuple #[]) ∧ Bd B b w' (s ++ lineT xs) ∧ Kb B b w w' := by
  have HD := Lib.hid h
  have HV := Lib.hid hv
  have HL := Lib.hid hl
  have HB := Lib.hid hB
  obtain ⟨⟨a, c, rfl, -⟩, -⟩ := hv
  clear h hl hB
  go_enter Tryz.func15, Tryz.ntmps15
  go_wp2_with fail
  refine (tJoin HV.out (by have := HL.out; omega)).mono ?_
  rintro e w2 ⟨rfl, hu⟩
  have HD2 := Lib.hid (HD.out.kept hu)
  have HB2 : Hid (B ≤ w2.heap.size) := Lib.hid (Nat.le_trans HB.out hu.size)
  have HK2 := Lib.hid (Kb.of (B := B) (b := b) hu HB.out)
  clear hu
  go_wp2_with fail
  refine (tWS HD2.out (joinB xs) (by have := HL.out; omega) HB2.out).mono ?_
  rintro e w3 ⟨rfl, hd, hk⟩
  have HD3 := Lib.hid hd
  have HB3 : Hid (B ≤ w3.heap.size) := Lib.hid (Nat.le_trans HB2.out hk.1.size)
  have HK3 := Lib.hid (HK2.out.trans hk)
  clear hd hk
  go_wp2_with fail
  refine (tWB HD3.out (by have := HL.out; rw [List.length_append]; omega) HB3.out).mono ?_
  rintro e w4 ⟨rfl, hd, hk⟩
  have HD4 := Lib.hid hd
  have HK4 := Lib.hid (HK3.out.trans hk)
  clear hd hk
  go_wp2_with fail
  first | (refine bodyPost_end (results_none rfl _ _ _) rfl ?_) | (simp only [Exit.inBlock, Exit.then]; refine bodyPost_end (results_none rfl _ _ _) rfl ?_)
  refine ⟨rfl, ?_, HK4.out⟩
  have := HD4.out
  rwa [List.append_assoc] at this
/-- a row of strings that was just made -/
theorem strs_new (w : World) (xs : List By) (hl : xs.length ≤ 1000) (cs : Array Value) (hc : cs = (xs.map (fun x => Value.string (bs x))).toArray) (g : Nat) (hg : w.heap.size = g) : Strs (w.alloc (.cells cs STR)) (.slice (some ⟨g, 0, none⟩) xs.length xs.length) xs := by
  subst hc hg
  refine ⟨⟨_, _, rfl, Nat.le_refl _, by unfold maxLen; omega, .inr ⟨_, _, rfl, fun i hi j hj => ?_⟩⟩, by omega⟩
  obtain rfl : j = 0 := by omega
  have hh : (w.alloc (.cells (xs.map (fun x => Value.string (bs x))).toArray STR)).heap[w.heap.size]? = some (.cells (xs.map (fun x => Value.string (bs x))).toArray STR (0, 0)) := hp_new w _ _ rfl
  rw [(tCell hh _).1]
  simp [List.getD, hi]
end

section
open Go.RowKit Go.Shelf Go.Lib
set_option linter.unusedVariables false
set_option linter.unusedSimpArgs false

abbrev P10 : String := "internal/strconv.uint64pow10"
/-- strconv's table, in a block below B -/
def Tb (B : Nat) (w : World) : Prop := ∃ g, Tryz.prog.globalNamed P10 = some g ∧ g < B ∧ TabIs Tryz.prog w P10 .u64 pow10Tab
theorem Tb.kept {B : Nat} {w w' : World} (h : Tb B w) (hb : Below B w w') : Tb B w' := by
  obtain ⟨g, hg, hlt, ht⟩ := h
  refine ⟨g, hg, hlt, ?_⟩
  unfold TabIs World.var? at ht ⊢
  rw [hg] at ht ⊢
  simp only [Option.bind_some] at ht ⊢
  rw [hb.block g hlt]
  exact ht
theorem tItoa {B : Nat} {w : World} (ht : Tb B w) {n : Int} (hn : wi64 n) : Calls Tryz.prog 17 #[.int .i64 n] w fun e w' => e = .returned (.string (bs (itoa n))) ∧ Upd (fun _ => False) w w' := by
  obtain ⟨g, hg, hlt, ht⟩ := ht
  obtain ⟨h0, h1⟩ := hn
  refine (Any.strconv_Itoa Tryz.laysItoaM n (by omega) (by omega) w ht).mono ?_
  rintro e w' ⟨rfl, k, os, rfl⟩
  refine ⟨rfl, upd_of_below ⟨rfl, rfl, rfl, by show w.heap.size ≤ (w.heap ++ os).size; simp, fun j hj => ?_⟩⟩
  show (w.heap ++ os)[j]? = _
  rw [Array.getElem?_append_left hj]
end
end Go.Proofs.YtmikibcgphkcfaaGreatDoor

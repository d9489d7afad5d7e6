/- Package text: last, goOn; put, its applet's line. -/
import Derived.Test.YtmikibcgphkcfaaGreatDoorTn
namespace Go.Proofs.YtmikibcgphkcfaaGreatDoor
open Go.RowKit Go.Lib Go.Deep
set_option linter.unusedVariables false
set_option linter.unusedSimpArgs false

/-- where a line of class c may stand, and where the next one may -/
def rangeT (c : Nat) : Int × Int × Int := match c with
  | 0 => (0, 0, 1)
  | 1 => (1, 1, 1)
  | 2 => (1, 2, 2)
  | 3 => (1, 4, 3)
  | 4 => (3, 3, 4)
  | 5 => (3, 5, 5)
  | _ => (3, 4, 4)
def mayT (c : Nat) (t : Int) : Bool := decide ((rangeT c).1 ≤ t) && decide (t ≤ (rangeT c).2.1)
section
variable {B b wb : Nat} {w w' : World} {D : DrM} {V : DrV} {S : Nat → Prop} {l : By} {bad : Bool} {f : By}
theorem cls_facts (f : By) : ((bs f).toList == [97, 112, 112, 108, 101, 116]) = (clsP f == 0) ∧ ((bs f).toList == [102, 105, 101, 108, 100]) = (clsP f == 1) ∧ ((bs f).toList == [105, 109, 112, 111, 114, 116]) = (clsP f == 2) ∧
    ((bs f).toList == [109, 101, 116, 104, 111, 100]) = (clsP f == 3) ∧ ((bs f).toList == [108, 111, 99, 97, 108, 115]) = (clsP f == 4) ∧ ((bs f).toList == [101, 120, 112, 111, 114, 116]) = (clsP f == 5) :=
  ⟨cls_list f 0 (by omega), cls_list f 1 (by omega), cls_list f 2 (by omega), cls_list f 3 (by omega), cls_list f 4 (by omega), cls_list f 5 (by omega)⟩
theorem tLast (hD : DrAt B w b D V) (h0 : 0 < V.M.length) : Calls Tryz.prog 93 #[.pointer (some ⟨b, 0, none⟩)] w fun e w' => ∃ g c, V.mv = .slice (some ⟨g, 0, none⟩) V.M.length c ∧ e = .returned (.pointer (some ⟨g, (V.M.length - 1) * 4, none⟩)) ∧ Upd (fun _ => False) w w' := by
  obtain ⟨n, hn⟩ : ∃ n, V.M.length = n + 1 := ⟨V.M.length - 1, by omega⟩
  have c3 := (tCell hD.box 3).1
  obtain ⟨g, c, hmv⟩ : ∃ g c, V.mv = .slice (some ⟨g, 0, none⟩) V.M.length c := by
    rcases hD.mrow.2 with ⟨_, h⟩ | ⟨g, cap, cur, h, _⟩
    · omega
    · exact ⟨g, cap, h⟩
  have hlm := hD.lm
  rw [hn] at hmv hlm ⊢
  simp [hmv] at c3
  have HMV := Lib.hid hmv
  have hw1 : IntKind.i64.wrap ((n : Int) + 1 - 1) = (n : Int) := by rw [show (n : Int) + 1 - 1 = n by omega]; exact IntWalk.i64_in _ (by omega)
  have hni : (0 : Int) ≤ (n : Int) := Int.natCast_nonneg _
  clear hD h0 hn hmv
  go_enter Tryz.func93, Tryz.ntmps93
  go_wp2_with fail
  go_quiet (fail)
  go_wp2_with fail
  go_ret
  refine ⟨g, c, HMV.out, ?_, ⟨rfl, rfl, rfl, Nat.le_refl _, fun _ _ _ => rfl⟩⟩
  rfl
theorem goOn0 (hD : DrAt B w b D V) (hc : clsP f = 0) : Calls Tryz.prog 70 #[.pointer (some ⟨b, 0, none⟩), .string (bs f)] w fun e w' =>
    (mayT 0 D.pos = true → e = .returned (.bool true) ∧ w' = w.setCell ⟨b, 5, none⟩ (.int .i64 1)) ∧ (mayT 0 D.pos = false → e = .returned (.bool false) ∧ w' = w) := by
  obtain ⟨q0, q1, q2, q3, q4, q5⟩ := cls_facts f
  rw [hc] at q0 q1 q2 q3 q4 q5
  replace q0 : ((bs f).toList == [97, 112, 112, 108, 101, 116]) = true := q0
  replace q1 : ((bs f).toList == [102, 105, 101, 108, 100]) = false := q1
  replace q2 : ((bs f).toList == [105, 109, 112, 111, 114, 116]) = false := q2
  replace q3 : ((bs f).toList == [109, 101, 116, 104, 111, 100]) = false := q3
  replace q4 : ((bs f).toList == [108, 111, 99, 97, 108, 115]) = false := q4
  replace q5 : ((bs f).toList == [101, 120, 112, 111, 114, 116]) = false := q5
  clear hc
  have c5 := (tCell hD.box 5).1
  have f5 := (tCell hD.box 5).2
  simp at c5
  obtain ⟨t, ht⟩ : ∃ t, t = D.pos := ⟨_, rfl⟩
  rw [← ht] at c5 ⊢
  have HM : Hid (mayT 0 t = (decide ((0 : Int) ≤ t) && decide (t ≤ 0))) := Lib.hid rfl
  generalize mayT 0 t = q at *
  clear hD ht
  by_cases h1 : t < 0
  · have hq : Hid (q = false) := Lib.hid (by rw [HM.out]; simp; omega)
    go_enter Tryz.func70, Tryz.ntmps70
    go_wp2_with fail
    go_ret
    exact ⟨fun h => (by rw [hq.out] at h; cases h), fun _ => ⟨rfl, rfl⟩⟩
  · by_cases h2 : 0 < t
    · have hq : Hid (q = false) := Lib.hid (by rw [HM.out]; simp; omega)
      go_enter Tryz.func70, Tryz.ntmps70
      go_wp2_with fail
      go_ret
      exact ⟨fun h => (by rw [hq.out] at h; cases h), fun _ => ⟨rfl, rfl⟩⟩
    · have hq : Hid (q = true) := Lib.hid (by rw [HM.out]; simp; omega)
      go_enter Tryz.func70, Tryz.ntmps70
      go_wp2_with fail
      go_ret
      exact ⟨fun _ => ⟨rfl, rfl⟩, fun h => (by rw [hq.out] at h; cases h)⟩
theorem goOn1 (hD : DrAt B w b D V) (hc : clsP f = 1) : Calls Tryz.prog 70 #[.pointer (some ⟨b, 0, none⟩), .string (bs f)] w fun e w' =>
    (mayT 1 D.pos = true → e = .returned (.bool true) ∧ w' = w.setCell ⟨b, 5, none⟩ (.int .i64 1)) ∧ (mayT 1 D.pos = false → e = .returned (.bool false) ∧ w' = w) := by
  obtain ⟨q0, q1, q2, q3, q4, q5⟩ := cls_facts f
  rw [hc] at q0 q1 q2 q3 q4 q5
  replace q0 : ((bs f).toList == [97, 112, 112, 108, 101, 116]) = false := q0
  replace q1 : ((bs f).toList == [102, 105, 101, 108, 100]) = true := q1
  replace q2 : ((bs f).toList == [105, 109, 112, 111, 114, 116]) = false := q2
  replace q3 : ((bs f).toList == [109, 101, 116, 104, 111, 100]) = false := q3
  replace q4 : ((bs f).toList == [108, 111, 99, 97, 108, 115]) = false := q4
  replace q5 : ((bs f).toList == [101, 120, 112, 111, 114, 116]) = false := q5
  clear hc
  have c5 := (tCell hD.box 5).1
  have f5 := (tCell hD.box 5).2
  simp at c5
  obtain ⟨t, ht⟩ : ∃ t, t = D.pos := ⟨_, rfl⟩
  rw [← ht] at c5 ⊢
  have HM : Hid (mayT 1 t = (decide ((1 : Int) ≤ t) && decide (t ≤ 1))) := Lib.hid rfl
  generalize mayT 1 t = q at *
  clear hD ht
  by_cases h1 : t < 1
  · have hq : Hid (q = false) := Lib.hid (by rw [HM.out]; simp; omega)
    go_enter Tryz.func70, Tryz.ntmps70
    go_wp2_with fail
    go_ret
    exact ⟨fun h => (by rw [hq.out] at h; cases h), fun _ => ⟨rfl, rfl⟩⟩
  · by_cases h2 : 1 < t
    · have hq : Hid (q = false) := Lib.hid (by rw [HM.out]; simp; omega)
      go_enter Tryz.func70, Tryz.ntmps70
      go_wp2_with fail
      go_ret
      exact ⟨fun h => (by rw [hq.out] at h; cases h), fun _ => ⟨rfl, rfl⟩⟩
    · have hq : Hid (q = true) := Lib.hid (by rw [HM.out]; simp; omega)
      go_enter Tryz.func70, Tryz.ntmps70
      go_wp2_with fail
      go_ret
      exact ⟨fun _ => ⟨rfl, rfl⟩, fun h => (by rw [hq.out] at h; cases h)⟩
theorem goOn2 (hD : DrAt B w b D V) (hc : clsP f = 2) : Calls Tryz.prog 70 #[.pointer (some ⟨b, 0, none⟩), .string (bs f)] w fun e w' =>
    (mayT 2 D.pos = true → e = .returned (.bool true) ∧ w' = w.setCell ⟨b, 5, none⟩ (.int .i64 2)) ∧ (mayT 2 D.pos = false → e = .returned (.bool false) ∧ w' = w) := by
  obtain ⟨q0, q1, q2, q3, q4, q5⟩ := cls_facts f
  rw [hc] at q0 q1 q2 q3 q4 q5
  replace q0 : ((bs f).toList == [97, 112, 112, 108, 101, 116]) = false := q0
  replace q1 : ((bs f).toList == [102, 105, 101, 108, 100]) = false := q1
  replace q2 : ((bs f).toList == [105, 109, 112, 111, 114, 116]) = true := q2
  replace q3 : ((bs f).toList == [109, 101, 116, 104, 111, 100]) = false := q3
  replace q4 : ((bs f).toList == [108, 111, 99, 97, 108, 115]) = false := q4
  replace q5 : ((bs f).toList == [101, 120, 112, 111, 114, 116]) = false := q5
  clear hc
  have c5 := (tCell hD.box 5).1
  have f5 := (tCell hD.box 5).2
  simp at c5
  obtain ⟨t, ht⟩ : ∃ t, t = D.pos := ⟨_, rfl⟩
  rw [← ht] at c5 ⊢
  have HM : Hid (mayT 2 t = (decide ((1 : Int) ≤ t) && decide (t ≤ 2))) := Lib.hid rfl
  generalize mayT 2 t = q at *
  clear hD ht
  by_cases h1 : t < 1
  · have hq : Hid (q = false) := Lib.hid (by rw [HM.out]; simp; omega)
    go_enter Tryz.func70, Tryz.ntmps70
    go_wp2_with fail
    go_ret
    exact ⟨fun h => (by rw [hq.out] at h; cases h), fun _ => ⟨rfl, rfl⟩⟩
  · by_cases h2 : 2 < t
    · have hq : Hid (q = false) := Lib.hid (by rw [HM.out]; simp; omega)
      go_enter Tryz.func70, Tryz.ntmps70
      go_wp2_with fail
      go_ret
      exact ⟨fun h => (by rw [hq.out] at h; cases h), fun _ => ⟨rfl, rfl⟩⟩
    · have hq : Hid (q = true) := Lib.hid (by rw [HM.out]; simp; omega)
      go_enter Tryz.func70, Tryz.ntmps70
      go_wp2_with fail
      go_ret
      exact ⟨fun _ => ⟨rfl, rfl⟩, fun h => (by rw [hq.out] at h; cases h)⟩
theorem goOn3 (hD : DrAt B w b D V) (hc : clsP f = 3) : Calls Tryz.prog 70 #[.pointer (some ⟨b, 0, none⟩), .string (bs f)] w fun e w' =>
    (mayT 3 D.pos = true → e = .returned (.bool true) ∧ w' = w.setCell ⟨b, 5, none⟩ (.int .i64 3)) ∧ (mayT 3 D.pos = false → e = .returned (.bool false) ∧ w' = w) := by
  obtain ⟨q0, q1, q2, q3, q4, q5⟩ := cls_facts f
  rw [hc] at q0 q1 q2 q3 q4 q5
  replace q0 : ((bs f).toList == [97, 112, 112, 108, 101, 116]) = false := q0
  replace q1 : ((bs f).toList == [102, 105, 101, 108, 100]) = false := q1
  replace q2 : ((bs f).toList == [105, 109, 112, 111, 114, 116]) = false := q2
  replace q3 : ((bs f).toList == [109, 101, 116, 104, 111, 100]) = true := q3
  replace q4 : ((bs f).toList == [108, 111, 99, 97, 108, 115]) = false := q4
  replace q5 : ((bs f).toList == [101, 120, 112, 111, 114, 116]) = false := q5
  clear hc
  have c5 := (tCell hD.box 5).1
  have f5 := (tCell hD.box 5).2
  simp at c5
  obtain ⟨t, ht⟩ : ∃ t, t = D.pos := ⟨_, rfl⟩
  rw [← ht] at c5 ⊢
  have HM : Hid (mayT 3 t = (decide ((1 : Int) ≤ t) && decide (t ≤ 4))) := Lib.hid rfl
  generalize mayT 3 t = q at *
  clear hD ht
  by_cases h1 : t < 1
  · have hq : Hid (q = false) := Lib.hid (by rw [HM.out]; simp; omega)
    go_enter Tryz.func70, Tryz.ntmps70
    go_wp2_with fail
    go_ret
    exact ⟨fun h => (by rw [hq.out] at h; cases h), fun _ => ⟨rfl, rfl⟩⟩
  · by_cases h2 : 4 < t
    · have hq : Hid (q = false) := Lib.hid (by rw [HM.out]; simp; omega)
      go_enter Tryz.func70, Tryz.ntmps70
      go_wp2_with fail
      go_ret
      exact ⟨fun h => (by rw [hq.out] at h; cases h), fun _ => ⟨rfl, rfl⟩⟩
    · have hq : Hid (q = true) := Lib.hid (by rw [HM.out]; simp; omega)
      go_enter Tryz.func70, Tryz.ntmps70
      go_wp2_with fail
      go_ret
      exact ⟨fun _ => ⟨rfl, rfl⟩, fun h => (by rw [hq.out] at h; cases h)⟩
theorem goOn4 (hD : DrAt B w b D V) (hc : clsP f = 4) : Calls Tryz.prog 70 #[.pointer (some ⟨b, 0, none⟩), .string (bs f)] w fun e w' =>
    (mayT 4 D.pos = true → e = .returned (.bool true) ∧ w' = w.setCell ⟨b, 5, none⟩ (.int .i64 4)) ∧ (mayT 4 D.pos = false → e = .returned (.bool false) ∧ w' = w) := by
  obtain ⟨q0, q1, q2, q3, q4, q5⟩ := cls_facts f
  rw [hc] at q0 q1 q2 q3 q4 q5
  replace q0 : ((bs f).toList == [97, 112, 112, 108, 101, 116]) = false := q0
  replace q1 : ((bs f).toList == [102, 105, 101, 108, 100]) = false := q1
  replace q2 : ((bs f).toList == [105, 109, 112, 111, 114, 116]) = false := q2
  replace q3 : ((bs f).toList == [109, 101, 116, 104, 111, 100]) = false := q3
  replace q4 : ((bs f).toList == [108, 111, 99, 97, 108, 115]) = true := q4
  replace q5 : ((bs f).toList == [101, 120, 112, 111, 114, 116]) = false := q5
  clear hc
  have c5 := (tCell hD.box 5).1
  have f5 := (tCell hD.box 5).2
  simp at c5
  obtain ⟨t, ht⟩ : ∃ t, t = D.pos := ⟨_, rfl⟩
  rw [← ht] at c5 ⊢
  have HM : Hid (mayT 4 t = (decide ((3 : Int) ≤ t) && decide (t ≤ 3))) := Lib.hid rfl
  generalize mayT 4 t = q at *
  clear hD ht
  by_cases h1 : t < 3
  · have hq : Hid (q = false) := Lib.hid (by rw [HM.out]; simp; omega)
    go_enter Tryz.func70, Tryz.ntmps70
    go_wp2_with fail
    go_ret
    exact ⟨fun h => (by rw [hq.out] at h; cases h), fun _ => ⟨rfl, rfl⟩⟩
  · by_cases h2 : 3 < t
    · have hq : Hid (q = false) := Lib.hid (by rw [HM.out]; simp; omega)
      go_enter Tryz.func70, Tryz.ntmps70
      go_wp2_with fail
      go_ret
      exact ⟨fun h => (by rw [hq.out] at h; cases h), fun _ => ⟨rfl, rfl⟩⟩
    · have hq : Hid (q = true) := Lib.hid (by rw [HM.out]; simp; omega)
      go_enter Tryz.func70, Tryz.ntmps70
      go_wp2_with fail
      go_ret
      exact ⟨fun _ => ⟨rfl, rfl⟩, fun h => (by rw [hq.out] at h; cases h)⟩
theorem goOn5 (hD : DrAt B w b D V) (hc : clsP f = 5) : Calls Tryz.prog 70 #[.pointer (some ⟨b, 0, none⟩), .string (bs f)] w fun e w' =>
    (mayT 5 D.pos = true → e = .returned (.bool true) ∧ w' = w.setCell ⟨b, 5, none⟩ (.int .i64 5)) ∧ (mayT 5 D.pos = false → e = .returned (.bool false) ∧ w' = w) := by
  obtain ⟨q0, q1, q2, q3, q4, q5⟩ := cls_facts f
  rw [hc] at q0 q1 q2 q3 q4 q5
  replace q0 : ((bs f).toList == [97, 112, 112, 108, 101, 116]) = false := q0
  replace q1 : ((bs f).toList == [102, 105, 101, 108, 100]) = false := q1
  replace q2 : ((bs f).toList == [105, 109, 112, 111, 114, 116]) = false := q2
  replace q3 : ((bs f).toList == [109, 101, 116, 104, 111, 100]) = false := q3
  replace q4 : ((bs f).toList == [108, 111, 99, 97, 108, 115]) = false := q4
  replace q5 : ((bs f).toList == [101, 120, 112, 111, 114, 116]) = true := q5
  clear hc
  have c5 := (tCell hD.box 5).1
  have f5 := (tCell hD.box 5).2
  simp at c5
  obtain ⟨t, ht⟩ : ∃ t, t = D.pos := ⟨_, rfl⟩
  rw [← ht] at c5 ⊢
  have HM : Hid (mayT 5 t = (decide ((3 : Int) ≤ t) && decide (t ≤ 5))) := Lib.hid rfl
  generalize mayT 5 t = q at *
  clear hD ht
  by_cases h1 : t < 3
  · have hq : Hid (q = false) := Lib.hid (by rw [HM.out]; simp; omega)
    go_enter Tryz.func70, Tryz.ntmps70
    go_wp2_with fail
    go_ret
    exact ⟨fun h => (by rw [hq.out] at h; cases h), fun _ => ⟨rfl, rfl⟩⟩
  · by_cases h2 : 5 < t
    · have hq : Hid (q = false) := Lib.hid (by rw [HM.out]; simp; omega)
      go_enter Tryz.func70, Tryz.ntmps70
      go_wp2_with fail
      go_ret
      exact ⟨fun h => (by rw [hq.out] at h; cases h), fun _ => ⟨rfl, rfl⟩⟩
    · have hq : Hid (q = true) := Lib.hid (by rw [HM.out]; simp; omega)
      go_enter Tryz.func70, Tryz.ntmps70
      go_wp2_with fail
      go_ret
      exact ⟨fun _ => ⟨rfl, rfl⟩, fun h => (by rw [hq.out] at h; cases h)⟩
theorem goOn6 (hD : DrAt B w b D V) (hc : clsP f = 6) : Calls Tryz.prog 70 #[.pointer (some ⟨b, 0, none⟩), .string (bs f)] w fun e w' =>
    (mayT 6 D.pos = true → e = .returned (.bool true) ∧ w' = w.setCell ⟨b, 5, none⟩ (.int .i64 4)) ∧ (mayT 6 D.pos = false → e = .returned (.bool false) ∧ w' = w) := by
  obtain ⟨q0, q1, q2, q3, q4, q5⟩ := cls_facts f
  rw [hc] at q0 q1 q2 q3 q4 q5
  replace q0 : ((bs f).toList == [97, 112, 112, 108, 101, 116]) = false := q0
  replace q1 : ((bs f).toList == [102, 105, 101, 108, 100]) = false := q1
  replace q2 : ((bs f).toList == [105, 109, 112, 111, 114, 116]) = false := q2
  replace q3 : ((bs f).toList == [109, 101, 116, 104, 111, 100]) = false := q3
  replace q4 : ((bs f).toList == [108, 111, 99, 97, 108, 115]) = false := q4
  replace q5 : ((bs f).toList == [101, 120, 112, 111, 114, 116]) = false := q5
  clear hc
  have c5 := (tCell hD.box 5).1
  have f5 := (tCell hD.box 5).2
  simp at c5
  obtain ⟨t, ht⟩ : ∃ t, t = D.pos := ⟨_, rfl⟩
  rw [← ht] at c5 ⊢
  have HM : Hid (mayT 6 t = (decide ((3 : Int) ≤ t) && decide (t ≤ 4))) := Lib.hid rfl
  generalize mayT 6 t = q at *
  clear hD ht
  by_cases h1 : t < 3
  · have hq : Hid (q = false) := Lib.hid (by rw [HM.out]; simp; omega)
    go_enter Tryz.func70, Tryz.ntmps70
    go_wp2_with fail
    go_ret
    exact ⟨fun h => (by rw [hq.out] at h; cases h), fun _ => ⟨rfl, rfl⟩⟩
  · by_cases h2 : 4 < t
    · have hq : Hid (q = false) := Lib.hid (by rw [HM.out]; simp; omega)
      go_enter Tryz.func70, Tryz.ntmps70
      go_wp2_with fail
      go_ret
      exact ⟨fun h => (by rw [hq.out] at h; cases h), fun _ => ⟨rfl, rfl⟩⟩
    · have hq : Hid (q = true) := Lib.hid (by rw [HM.out]; simp; omega)
      go_enter Tryz.func70, Tryz.ntmps70
      go_wp2_with fail
      go_ret
      exact ⟨fun _ => ⟨rfl, rfl⟩, fun h => (by rw [hq.out] at h; cases h)⟩
/-- goOn: whether such a line may come next; the place of the next one -/
theorem tGoOn (hD : DrAt B w b D V) : Calls Tryz.prog 70 #[.pointer (some ⟨b, 0, none⟩), .string (bs f)] w fun e w' =>
    (mayT (clsP f) D.pos = true → e = .returned (.bool true) ∧ w' = w.setCell ⟨b, 5, none⟩ (.int .i64 (rangeT (clsP f)).2.2)) ∧ (mayT (clsP f) D.pos = false → e = .returned (.bool false) ∧ w' = w) := by
  have h6 := cls_le f
  obtain ⟨c, hc⟩ : ∃ c, clsP f = c := ⟨_, rfl⟩
  rw [hc]
  rcases (by omega : c = 0 ∨ c = 1 ∨ c = 2 ∨ c = 3 ∨ c = 4 ∨ c = 5 ∨ c = 6) with rfl | rfl | rfl | rfl | rfl | rfl | rfl
  · exact goOn0 hD hc
  · exact goOn1 hD hc
  · exact goOn2 hD hc
  · exact goOn3 hD hc
  · exact goOn4 hD hc
  · exact goOn5 hD hc
  · exact goOn6 hD hc
set_option maxHeartbeats 1000000 in
theorem putApplet (hD : DrAt B w b D V) (hw : Wb w wb l bad) (hB : B ≤ wb) (hl : l.length ≤ maxLen) (hc : clsP f = 0) :
    Calls Tryz.prog 71 #[.pointer (some ⟨b, 0, none⟩), .string (bs f), .pointer (some ⟨wb, 0, none⟩)] w (PutTo B b wb w (D.setName (bs (nameW (l, bad)).1)) (nameW (l, bad)).2) := by
  have q0 := (cls_facts f).1
  rw [hc] at q0
  replace q0 : ((bs f).toList == [97, 112, 112, 108, 101, 116]) = true := q0
  clear hc
  have hbB := hD.bB
  have HD := Lib.hid hD
  have HW := Lib.hid hw
  have HL := Lib.hid hl
  clear hD hw hl
  go_enter Tryz.func71, Tryz.ntmps71
  go_wp2_with fail
  refine (tName HW.out HL.out).mono ?_
  rintro e w5 ⟨rfl, hwb, hu⟩
  have HW5 := Lib.hid hwb
  have HD5 := Lib.hid (HD.out.keep hu (alien_wb HW.out (by omega)))
  have HU5 := Lib.hid hu
  have c0 := (tCell HD5.out.box 0).1
  have f0 := (tCell HD5.out.box 0).2
  simp at c0
  clear hwb hu
  go_wp2_with fail
  first | (refine bodyPost_end (results_none rfl _ _ _) rfl ?_) | (simp only [Exit.inBlock, Exit.then]; refine bodyPost_end (results_none rfl _ _ _) rfl ?_)
  exact ⟨rfl, ⟨_, HD5.out.name _⟩, HW5.out.off (by omega), (updW HU5.out hB).trans ((updBox w5 b _ _).mono (T := fun k => k = b ∨ B ≤ k) (fun k hk _ => .inl hk)) (fun _ h _ => h), (ko_wb HW.out HU5.out).trans (KeepsOthers.setCell _ _ _)⟩
end
end Go.Proofs.YtmikibcgphkcfaaGreatDoor

/- Stage 17: IrKnown. -/
import Derived.Test.YtkleofpiikbpmaaDm
import Derived.Test.YtkleofpiikbpmaaDl
namespace Go.Proofs.Ytkleofpiikbpmaa
open Go.RowKit Go.ChangeShapes Go.WideShapes Go.Deep
set_option linter.unusedVariables false
set_option linter.unusedSimpArgs false
def nvs : Array Value := #[.iface 23 (.agg #[.int .i64 0, .int .i32 0]), .iface 25 (.agg #[.int .i64 0, .int .i64 0]), .iface 27 (.agg #[.int .i64 0, .int .i64 0, .int .i64 0, .int .i64 0]), .iface 29 (.agg #[.int .i64 0, .int .i64 0, .int .i64 0]), .iface 31 (.agg #[.int .i64 0, .int .i64 0, .int .i64 0, .int .i64 0]), .iface 33 (.agg #[]), .iface 35 (.agg #[.int .i64 0]), .iface 37 (.agg #[.int .i64 0, .int .i64 0]), .iface 39 (.agg #[.int .i64 0, .int .i64 0]), .iface 41 (.agg #[.int .i64 0, .int .i64 0]), .iface 44 (.agg #[.int .i64 0, .int .i64 0, .int .i64 0, .int .i64 0, .slice none 0 0]), .iface 46 (.agg #[.int .i64 0, .int .i64 0, .slice none 0 0]), .iface 48 (.agg #[.int .i64 0, .int .i64 0, .slice none 0 0]), .iface 50 (.agg #[.int .i64 0])]
def nms : Array Value := #[.string ⟨#[99, 111, 110, 115, 116]⟩, .string ⟨#[109, 111, 118, 101]⟩, .string ⟨#[98, 105, 110]⟩, .string ⟨#[117, 110]⟩, .string ⟨#[99, 104, 111, 111, 115, 101]⟩, .string ⟨#[116, 105, 99, 107]⟩, .string ⟨#[103, 111, 116, 111]⟩, .string ⟨#[98, 114, 97, 110, 99, 104]⟩, .string ⟨#[103, 101, 116, 102, 105, 101, 108, 100]⟩, .string ⟨#[112, 117, 116, 102, 105, 101, 108, 100]⟩, .string ⟨#[115, 101, 114, 118, 101]⟩, .string ⟨#[99, 97, 108, 108]⟩, .string ⟨#[99, 97, 108, 108, 120]⟩, .string ⟨#[114, 101, 116]⟩]
theorem nameC0 (w : World) : Calls Try.prog 69 #[.agg #[.int .i64 0, .int .i32 0]] w fun e w' => e = .returned (.string ⟨#[99, 111, 110, 115, 116]⟩) ∧ Upd (fun _ => False) w w' := by
  go_enter Try.func69, Try.ntmps69
  go_wp2_with fail
  go_ret
  exact ⟨rfl, by first | exact Upd.refl _ _ | exact Upd.alloc _ _ _⟩
theorem methC0 (w : World) : (method 209 23 (.agg #[.int .i64 0, .int .i32 0]) "Name").run Try.prog w = .ok (69, .agg #[.int .i64 0, .int .i32 0]) w := by kernel_rfl
theorem nameC1 (w : World) : Calls Try.prog 70 #[.agg #[.int .i64 0, .int .i64 0]] w fun e w' => e = .returned (.string ⟨#[109, 111, 118, 101]⟩) ∧ Upd (fun _ => False) w w' := by
  go_enter Try.func70, Try.ntmps70
  go_wp2_with fail
  go_ret
  exact ⟨rfl, by first | exact Upd.refl _ _ | exact Upd.alloc _ _ _⟩
theorem methC1 (w : World) : (method 209 25 (.agg #[.int .i64 0, .int .i64 0]) "Name").run Try.prog w = .ok (70, .agg #[.int .i64 0, .int .i64 0]) w := by kernel_rfl
theorem nameC2 (w : World) : Calls Try.prog 71 #[.agg #[.int .i64 0, .int .i64 0, .int .i64 0, .int .i64 0]] w fun e w' => e = .returned (.string ⟨#[98, 105, 110]⟩) ∧ Upd (fun _ => False) w w' := by
  go_enter Try.func71, Try.ntmps71
  go_wp2_with fail
  go_ret
  exact ⟨rfl, by first | exact Upd.refl _ _ | exact Upd.alloc _ _ _⟩
theorem methC2 (w : World) : (method 209 27 (.agg #[.int .i64 0, .int .i64 0, .int .i64 0, .int .i64 0]) "Name").run Try.prog w = .ok (71, .agg #[.int .i64 0, .int .i64 0, .int .i64 0, .int .i64 0]) w := by kernel_rfl
theorem nameC3 (w : World) : Calls Try.prog 72 #[.agg #[.int .i64 0, .int .i64 0, .int .i64 0]] w fun e w' => e = .returned (.string ⟨#[117, 110]⟩) ∧ Upd (fun _ => False) w w' := by
  go_enter Try.func72, Try.ntmps72
  go_wp2_with fail
  go_ret
  exact ⟨rfl, by first | exact Upd.refl _ _ | exact Upd.alloc _ _ _⟩
theorem methC3 (w : World) : (method 209 29 (.agg #[.int .i64 0, .int .i64 0, .int .i64 0]) "Name").run Try.prog w = .ok (72, .agg #[.int .i64 0, .int .i64 0, .int .i64 0]) w := by kernel_rfl
theorem nameC4 (w : World) : Calls Try.prog 73 #[.agg #[.int .i64 0, .int .i64 0, .int .i64 0, .int .i64 0]] w fun e w' => e = .returned (.string ⟨#[99, 104, 111, 111, 115, 101]⟩) ∧ Upd (fun _ => False) w w' := by
  go_enter Try.func73, Try.ntmps73
  go_wp2_with fail
  go_ret
  exact ⟨rfl, by first | exact Upd.refl _ _ | exact Upd.alloc _ _ _⟩
theorem methC4 (w : World) : (method 209 31 (.agg #[.int .i64 0, .int .i64 0, .int .i64 0, .int .i64 0]) "Name").run Try.prog w = .ok (73, .agg #[.int .i64 0, .int .i64 0, .int .i64 0, .int .i64 0]) w := by kernel_rfl
theorem nameC5 (w : World) : Calls Try.prog 74 #[.agg #[]] w fun e w' => e = .returned (.string ⟨#[116, 105, 99, 107]⟩) ∧ Upd (fun _ => False) w w' := by
  go_enter Try.func74, Try.ntmps74
  go_wp2_with fail
  go_ret
  exact ⟨rfl, by first | exact Upd.refl _ _ | exact Upd.alloc _ _ _⟩
theorem methC5 (w : World) : (method 209 33 (.agg #[]) "Name").run Try.prog w = .ok (74, .agg #[]) w := by kernel_rfl
theorem nameC6 (w : World) : Calls Try.prog 75 #[.agg #[.int .i64 0]] w fun e w' => e = .returned (.string ⟨#[103, 111, 116, 111]⟩) ∧ Upd (fun _ => False) w w' := by
  go_enter Try.func75, Try.ntmps75
  go_wp2_with fail
  go_ret
  exact ⟨rfl, by first | exact Upd.refl _ _ | exact Upd.alloc _ _ _⟩
theorem methC6 (w : World) : (method 209 35 (.agg #[.int .i64 0]) "Name").run Try.prog w = .ok (75, .agg #[.int .i64 0]) w := by kernel_rfl
theorem nameC7 (w : World) : Calls Try.prog 76 #[.agg #[.int .i64 0, .int .i64 0]] w fun e w' => e = .returned (.string ⟨#[98, 114, 97, 110, 99, 104]⟩) ∧ Upd (fun _ => False) w w' := by
  go_enter Try.func76, Try.ntmps76
  go_wp2_with fail
  go_ret
  exact ⟨rfl, by first | exact Upd.refl _ _ | exact Upd.alloc _ _ _⟩
theorem methC7 (w : World) : (method 209 37 (.agg #[.int .i64 0, .int .i64 0]) "Name").run Try.prog w = .ok (76, .agg #[.int .i64 0, .int .i64 0]) w := by kernel_rfl
theorem nameC8 (w : World) : Calls Try.prog 77 #[.agg #[.int .i64 0, .int .i64 0]] w fun e w' => e = .returned (.string ⟨#[103, 101, 116, 102, 105, 101, 108, 100]⟩) ∧ Upd (fun _ => False) w w' := by
  go_enter Try.func77, Try.ntmps77
  go_wp2_with fail
  go_ret
  exact ⟨rfl, by first | exact Upd.refl _ _ | exact Upd.alloc _ _ _⟩
theorem methC8 (w : World) : (method 209 39 (.agg #[.int .i64 0, .int .i64 0]) "Name").run Try.prog w = .ok (77, .agg #[.int .i64 0, .int .i64 0]) w := by kernel_rfl
theorem nameC9 (w : World) : Calls Try.prog 78 #[.agg #[.int .i64 0, .int .i64 0]] w fun e w' => e = .returned (.string ⟨#[112, 117, 116, 102, 105, 101, 108, 100]⟩) ∧ Upd (fun _ => False) w w' := by
  go_enter Try.func78, Try.ntmps78
  go_wp2_with fail
  go_ret
  exact ⟨rfl, by first | exact Upd.refl _ _ | exact Upd.alloc _ _ _⟩
theorem methC9 (w : World) : (method 209 41 (.agg #[.int .i64 0, .int .i64 0]) "Name").run Try.prog w = .ok (78, .agg #[.int .i64 0, .int .i64 0]) w := by kernel_rfl
theorem nameC10 (w : World) : Calls Try.prog 79 #[.agg #[.int .i64 0, .int .i64 0, .int .i64 0, .int .i64 0, .slice none 0 0]] w fun e w' => e = .returned (.string ⟨#[115, 101, 114, 118, 101]⟩) ∧ Upd (fun _ => False) w w' := by
  go_enter Try.func79, Try.ntmps79
  go_wp2_with fail
  go_ret
  exact ⟨rfl, by first | exact Upd.refl _ _ | exact Upd.alloc _ _ _⟩
theorem methC10 (w : World) : (method 209 44 (.agg #[.int .i64 0, .int .i64 0, .int .i64 0, .int .i64 0, .slice none 0 0]) "Name").run Try.prog w = .ok (79, .agg #[.int .i64 0, .int .i64 0, .int .i64 0, .int .i64 0, .slice none 0 0]) w := by kernel_rfl
theorem nameC11 (w : World) : Calls Try.prog 80 #[.agg #[.int .i64 0, .int .i64 0, .slice none 0 0]] w fun e w' => e = .returned (.string ⟨#[99, 97, 108, 108]⟩) ∧ Upd (fun _ => False) w w' := by
  go_enter Try.func80, Try.ntmps80
  go_wp2_with fail
  go_ret
  exact ⟨rfl, by first | exact Upd.refl _ _ | exact Upd.alloc _ _ _⟩
theorem methC11 (w : World) : (method 209 46 (.agg #[.int .i64 0, .int .i64 0, .slice none 0 0]) "Name").run Try.prog w = .ok (80, .agg #[.int .i64 0, .int .i64 0, .slice none 0 0]) w := by kernel_rfl
theorem nameC12 (w : World) : Calls Try.prog 81 #[.agg #[.int .i64 0, .int .i64 0, .slice none 0 0]] w fun e w' => e = .returned (.string ⟨#[99, 97, 108, 108, 120]⟩) ∧ Upd (fun _ => False) w w' := by
  go_enter Try.func81, Try.ntmps81
  go_wp2_with fail
  go_ret
  exact ⟨rfl, by first | exact Upd.refl _ _ | exact Upd.alloc _ _ _⟩
theorem methC12 (w : World) : (method 209 48 (.agg #[.int .i64 0, .int .i64 0, .slice none 0 0]) "Name").run Try.prog w = .ok (81, .agg #[.int .i64 0, .int .i64 0, .slice none 0 0]) w := by kernel_rfl
theorem nameC13 (w : World) : Calls Try.prog 82 #[.agg #[.int .i64 0]] w fun e w' => e = .returned (.string ⟨#[114, 101, 116]⟩) ∧ Upd (fun _ => False) w w' := by
  go_enter Try.func82, Try.ntmps82
  go_wp2_with fail
  go_ret
  exact ⟨rfl, by first | exact Upd.refl _ _ | exact Upd.alloc _ _ _⟩
theorem methC13 (w : World) : (method 209 50 (.agg #[.int .i64 0]) "Name").run Try.prog w = .ok (82, .agg #[.int .i64 0]) w := by kernel_rfl
theorem nds_nil (w : World) : Nds w (.slice none 0 0) [] := ⟨fun _ => default, Sl.nil _ _ _, fun i hi => absurd hi (by simp)⟩
def knL : List Nd := [.tick, .const 0 5, .bin 6 1 0 0, .ret 1]
theorem kn_eval : evalP ⟨0, 2, knL⟩ [0, 0] 0 99 = ([5, 10], 3, 1) := by decide +kernel
set_option maxRecDepth 20000 in
set_option maxHeartbeats 4000000 in
theorem irKnown_walk (w : World) : Calls Try.prog 3 #[] w fun e w' => e = .returned (.bool true) ∧ Upd (fun _ => False) w w' := by
  go_enter Try.func3, Try.ntmps3
  go_upto_region 3 with fail
  obtain ⟨W1, hW1⟩ : ∃ W1, w.alloc (.cells nvs 53) = W1 := ⟨_, rfl⟩
  have hu1 : Upd (fun _ => False) w W1 := by rw [← hW1]; exact Upd.alloc _ _ _
  have hx1 : W1.heap[w.heap.size]? = some (.cells nvs 53) := by rw [← hW1]; exact heap_topD _ _
  have hs1 : w.heap.size + 1 = W1.heap.size := by rw [← hW1]; simp
  obtain ⟨W2, hW2⟩ : ∃ W2, W1.alloc (.cells nms 54) = W2 := ⟨_, rfl⟩
  have hu2 : Upd (fun _ => False) W1 W2 := by rw [← hW2]; exact Upd.alloc _ _ _
  have hx2 : W2.heap[W1.heap.size]? = some (.cells nms 54) := by rw [← hW2]; exact heap_topD _ _
  have hx1' : W2.heap[w.heap.size]? = some (.cells nvs 53) := (hu2.block _ (Array.getElem?_eq_some_iff.1 hx1).1 (fun h => h)).trans hx1
  unfold nvs at hW1
  unfold nms at hW2
  rw [hW1, hs1, hW2]
  have HU := Lib.hid (hu1.two hu2)
  have HX1 := Lib.hid hx1'
  have HX2 := Lib.hid hx2
  clear hW1 hW2 hu1 hu2 hx1 hx2 hx1' hs1
  generalize W1.heap.size = NB at *
  generalize w.heap.size = PB at *
  go_wp2_with fail
  go_loopw [3] (fun t wr => ∃ k : Nat, k ≤ 14 ∧ t = .int .i64 k ∧ Hid (Upd (fun _ => False) W2 wr)) (fun t _ => 14 - (intOf t).toNat)
  case atStart => exact ⟨0, by omega, rfl, Lib.hid (Upd.refl _ _)⟩
  case round =>
    obtain ⟨k, hk, rfl, HR⟩ := hrel
    by_cases hlt : k < 14
    · have hd : decide ((k : Int) < 14) = true := by simp; omega
      obtain ⟨V, hV⟩ : ∃ V, nvs[k]? = some V := ⟨_, Array.getElem?_eq_getElem (by show k < 14; exact hlt)⟩
      obtain ⟨S, hS⟩ : ∃ S, nms[k]? = some S := ⟨_, Array.getElem?_eq_getElem (by show k < 14; exact hlt)⟩
      have hp : wr.drew.heap[PB]? = some (.cells nvs 53) := ((HR.out.two (Upd.drew _ wr)).block _ (Array.getElem?_eq_some_iff.1 HX1.out).1 (fun h => h)).trans HX1.out
      have hn : wr.drew.heap[NB]? = some (.cells nms 54) := ((HR.out.two (Upd.drew _ wr)).block _ (Array.getElem?_eq_some_iff.1 HX2.out).1 (fun h => h)).trans HX2.out
      have b1 : wr.drew.cell? ⟨PB, k, none⟩ = some V := by simp [World.cell?, hp, hV]
      have b2 : wr.drew.cell? ⟨NB, k, none⟩ = some S := by simp [World.cell?, hn, hS]
      have zk : (k : Int) < 14 := by omega
      go_upto_region 6 with fail
      have hHeld : (fun w' : World => w'.cell? ⟨PB, k, none⟩ = some V ∧ w'.cell? ⟨NB, k, none⟩ = some S) wr.drew := ⟨b1, b2⟩
      have HU2 := Lib.hid (HR.out.two (Upd.drew (fun _ => False) wr))
      refine wp_region_last (S := (fun w' : World => w'.cell? ⟨PB, k, none⟩ = some V ∧ w'.cell? ⟨NB, k, none⟩ = some S)) 16 _ (by kernel_rfl) (by kernel_rfl) rfl ?_
      change wpHL _ _ _ _ _ _ _ _ _ _ wr.drew
      generalize wr.drew = w2 at *
      refine wpHL_take (i := 0) (v := ?_) rfl (by kernel_rfl) (fun _ _ _ h => h) hHeld (Or.inl ⟨by rfl, ?_⟩) ?_
      rotate_left
      · (intro w hSw; obtain ⟨y0, y1⟩ := hSw; go_simp; try with_reducible rfl)
      try simp only [Act.put, List.getElem_toArray, List.getElem_cons_succ, List.getElem_cons_zero, List.setIfInBounds_toArray, List.set_cons_zero, List.set_cons_succ]
      refine wpHL_take (i := 1) (v := ?_) rfl (by kernel_rfl) (fun _ _ _ h => h) hHeld (Or.inl ⟨by rfl, ?_⟩) ?_
      rotate_left
      · (intro w hSw; obtain ⟨y0, y1⟩ := hSw; go_simp; try with_reducible rfl)
      try simp only [Act.put, List.getElem_toArray, List.getElem_cons_succ, List.getElem_cons_zero, List.setIfInBounds_toArray, List.set_cons_zero, List.set_cons_succ]
      refine wpHL_take (i := 2) (v := ?_) rfl (by kernel_rfl) (fun _ _ _ h => h) hHeld (Or.inl ⟨by rfl, ?_⟩) ?_
      rotate_left
      · (intro w hSw; obtain ⟨y0, y1⟩ := hSw; go_simp; try with_reducible rfl)
      try simp only [Act.put, List.getElem_toArray, List.getElem_cons_succ, List.getElem_cons_zero, List.setIfInBounds_toArray, List.set_cons_zero, List.set_cons_succ]
      refine wpHL_take (i := 4) (v := ?_) rfl (by kernel_rfl) (fun _ _ _ h => h) hHeld (Or.inl ⟨by rfl, ?_⟩) ?_
      rotate_left
      · (intro w hSw; obtain ⟨y0, y1⟩ := hSw; go_simp; try with_reducible rfl)
      try simp only [Act.put, List.getElem_toArray, List.getElem_cons_succ, List.getElem_cons_zero, List.setIfInBounds_toArray, List.set_cons_zero, List.set_cons_succ]
      refine wpHL_take (i := 5) (v := ?_) rfl (by kernel_rfl) (fun _ _ _ h => h) hHeld (Or.inl ⟨by rfl, ?_⟩) ?_
      rotate_left
      · (intro w hSw; obtain ⟨y0, y1⟩ := hSw; go_simp; try with_reducible rfl)
      try simp only [Act.put, List.getElem_toArray, List.getElem_cons_succ, List.getElem_cons_zero, List.setIfInBounds_toArray, List.set_cons_zero, List.set_cons_succ]
      refine wpHL_take (i := 6) (v := ?_) rfl (by kernel_rfl) (fun _ _ _ h => h) hHeld (Or.inl ⟨by rfl, ?_⟩) ?_
      rotate_left
      · (intro w hSw; obtain ⟨y0, y1⟩ := hSw; go_simp; try with_reducible rfl)
      try simp only [Act.put, List.getElem_toArray, List.getElem_cons_succ, List.getElem_cons_zero, List.setIfInBounds_toArray, List.set_cons_zero, List.set_cons_succ]
      clear b1 b2 hp hn hd zk
      by_cases hk0 : k = 0
      · as_aux_lemma =>
        subst hk0
        have hv : V = .iface 23 (.agg #[.int .i64 0, .int .i32 0]) := (Option.some.inj hV).symm
        have hs : S = .string ⟨#[99, 111, 110, 115, 116]⟩ := (Option.some.inj hS).symm
        subst hv
        subst hs
        clear hV hS hlt hk
        refine wpHL_step (i := 3) rfl (by kernel_rfl) (by decide) (fun K hK => ?_)
        have HKK := Lib.hid hK
        clear hK
        go_simp
        rw [methC0]
        go_simp
        refine (nameC0 _).mono ?_
        rintro e_ w3 ⟨rfl, hu⟩
        have HU2 := Lib.hid (HU2.out.two hu)
        have hHeld : (fun w' : World => w'.cell? ⟨PB, 0, none⟩ = some (.iface 23 (.agg #[.int .i64 0, .int .i32 0])) ∧ w'.cell? ⟨NB, 0, none⟩ = some (.string ⟨#[99, 111, 110, 115, 116]⟩)) w3 := ⟨by rw [hu.cell (World.block_lt_of_cell? _ _ hHeld.1) (fun h => h)]; exact hHeld.1, by rw [hu.cell (World.block_lt_of_cell? _ _ hHeld.2) (fun h => h)]; exact hHeld.2⟩
        clear hu
        go_simp
        refine HKK.out _ _ hHeld ?_
        clear HKK
        try simp only [Act.put, List.getElem_toArray, List.getElem_cons_succ, List.getElem_cons_zero, List.setIfInBounds_toArray, List.set_cons_zero, List.set_cons_succ]
        refine wpHL_take (i := 7) (v := ?_) rfl (by kernel_rfl) (fun _ _ _ h => h) hHeld (Or.inl ⟨by rfl, ?_⟩) ?_
        rotate_left
        · (intro w hSw; obtain ⟨y0, y1⟩ := hSw; go_simp; try with_reducible rfl)
        try simp only [Act.put, List.getElem_toArray, List.getElem_cons_succ, List.getElem_cons_zero, List.setIfInBounds_toArray, List.set_cons_zero, List.set_cons_succ]
        refine wpHL_take (i := 8) (v := ?_) rfl (by kernel_rfl) (fun _ _ _ h => h) hHeld (Or.inl ⟨by rfl, ?_⟩) ?_
        rotate_left
        · (intro w hSw; obtain ⟨y0, y1⟩ := hSw; go_simp; try with_reducible rfl)
        try simp only [Act.put, List.getElem_toArray, List.getElem_cons_succ, List.getElem_cons_zero, List.setIfInBounds_toArray, List.set_cons_zero, List.set_cons_succ]
        refine wpHL_take (i := 9) (v := ?_) rfl (by kernel_rfl) (fun _ _ _ h => h) hHeld (Or.inl ⟨by rfl, ?_⟩) ?_
        rotate_left
        · (intro w hSw; obtain ⟨y0, y1⟩ := hSw; go_simp; try with_reducible rfl)
        try simp only [Act.put, List.getElem_toArray, List.getElem_cons_succ, List.getElem_cons_zero, List.setIfInBounds_toArray, List.set_cons_zero, List.set_cons_succ]
        refine wpHL_take (i := 10) (v := ?_) rfl (by kernel_rfl) (fun _ _ _ h => h) hHeld (Or.inl ⟨by rfl, ?_⟩) ?_
        rotate_left
        · (intro w hSw; obtain ⟨y0, y1⟩ := hSw; go_simp; try with_reducible rfl)
        try simp only [Act.put, List.getElem_toArray, List.getElem_cons_succ, List.getElem_cons_zero, List.setIfInBounds_toArray, List.set_cons_zero, List.set_cons_succ]
        refine wpHL_take (i := 11) (v := ?_) rfl (by kernel_rfl) (fun _ _ _ h => h) hHeld (Or.inl ⟨by rfl, ?_⟩) ?_
        rotate_left
        · (intro w hSw; obtain ⟨y0, y1⟩ := hSw; go_simp; try with_reducible rfl)
        try simp only [Act.put, List.getElem_toArray, List.getElem_cons_succ, List.getElem_cons_zero, List.setIfInBounds_toArray, List.set_cons_zero, List.set_cons_succ]
        refine wpHL_take (i := 13) (v := ?_) rfl (by kernel_rfl) (fun _ _ _ h => h) hHeld (Or.inl ⟨by rfl, ?_⟩) ?_
        rotate_left
        · (intro w hSw; obtain ⟨y0, y1⟩ := hSw; go_simp; try with_reducible rfl)
        try simp only [Act.put, List.getElem_toArray, List.getElem_cons_succ, List.getElem_cons_zero, List.setIfInBounds_toArray, List.set_cons_zero, List.set_cons_succ]
        refine wpHL_take (i := 14) (v := ?_) rfl (by kernel_rfl) (fun _ _ _ h => h) hHeld (Or.inl ⟨by rfl, ?_⟩) ?_
        rotate_left
        · (intro w hSw; obtain ⟨y0, y1⟩ := hSw; go_simp; try with_reducible rfl)
        try simp only [Act.put, List.getElem_toArray, List.getElem_cons_succ, List.getElem_cons_zero, List.setIfInBounds_toArray, List.set_cons_zero, List.set_cons_succ]
        refine wpHL_step (i := 12) rfl (by kernel_rfl) (by decide) (fun K hK => ?_)
        have HKK := Lib.hid hK
        clear hK
        go_simp
        refine (ir_Pure (n := .const 0 0) (⟨rfl, by unfold wi64; omega⟩)).mono ?_
        rintro e_ w3 ⟨rfl, rfl⟩
        rw [show pureP (.const 0 0) = true from rfl]
        go_simp
        refine HKK.out _ _ hHeld ?_
        clear HKK
        try simp only [Act.put, List.getElem_toArray, List.getElem_cons_succ, List.getElem_cons_zero, List.setIfInBounds_toArray, List.set_cons_zero, List.set_cons_succ]
        refine wpHL_take (i := 15) (v := ?_) rfl (by kernel_rfl) (fun _ _ _ h => h) hHeld (Or.inl ⟨by rfl, ?_⟩) ?_
        rotate_left
        · (intro w hSw; obtain ⟨y0, y1⟩ := hSw; go_simp; try with_reducible rfl)
        try simp only [Act.put, List.getElem_toArray, List.getElem_cons_succ, List.getElem_cons_zero, List.setIfInBounds_toArray, List.set_cons_zero, List.set_cons_succ]
        obtain ⟨e1, e2⟩ := hHeld
        refine wpHL_last (by kernel_rfl) ?_
        go_wp2_with fail
        refine (mustNo _ _ (.inr ⟨_, _, rfl, by decide⟩)).mono ?_
        rintro e_ w3 ⟨rfl, hu⟩
        have HU3 := Lib.hid (HU2.out.two hu)
        clear hu e1 e2
        go_wp2_with fail
        go_roundw
        case rel => exact ⟨1, by omega, by go_num, HU3⟩
        case measure => simp [intOf]
      by_cases hk1 : k = 1
      · as_aux_lemma =>
        subst hk1
        have hv : V = .iface 25 (.agg #[.int .i64 0, .int .i64 0]) := (Option.some.inj hV).symm
        have hs : S = .string ⟨#[109, 111, 118, 101]⟩ := (Option.some.inj hS).symm
        subst hv
        subst hs
        clear hV hS hlt hk
        refine wpHL_step (i := 3) rfl (by kernel_rfl) (by decide) (fun K hK => ?_)
        have HKK := Lib.hid hK
        clear hK
        go_simp
        rw [methC1]
        go_simp
        refine (nameC1 _).mono ?_
        rintro e_ w3 ⟨rfl, hu⟩
        have HU2 := Lib.hid (HU2.out.two hu)
        have hHeld : (fun w' : World => w'.cell? ⟨PB, 1, none⟩ = some (.iface 25 (.agg #[.int .i64 0, .int .i64 0])) ∧ w'.cell? ⟨NB, 1, none⟩ = some (.string ⟨#[109, 111, 118, 101]⟩)) w3 := ⟨by rw [hu.cell (World.block_lt_of_cell? _ _ hHeld.1) (fun h => h)]; exact hHeld.1, by rw [hu.cell (World.block_lt_of_cell? _ _ hHeld.2) (fun h => h)]; exact hHeld.2⟩
        clear hu
        go_simp
        refine HKK.out _ _ hHeld ?_
        clear HKK
        try simp only [Act.put, List.getElem_toArray, List.getElem_cons_succ, List.getElem_cons_zero, List.setIfInBounds_toArray, List.set_cons_zero, List.set_cons_succ]
        refine wpHL_take (i := 7) (v := ?_) rfl (by kernel_rfl) (fun _ _ _ h => h) hHeld (Or.inl ⟨by rfl, ?_⟩) ?_
        rotate_left
        · (intro w hSw; obtain ⟨y0, y1⟩ := hSw; go_simp; try with_reducible rfl)
        try simp only [Act.put, List.getElem_toArray, List.getElem_cons_succ, List.getElem_cons_zero, List.setIfInBounds_toArray, List.set_cons_zero, List.set_cons_succ]
        refine wpHL_take (i := 8) (v := ?_) rfl (by kernel_rfl) (fun _ _ _ h => h) hHeld (Or.inl ⟨by rfl, ?_⟩) ?_
        rotate_left
        · (intro w hSw; obtain ⟨y0, y1⟩ := hSw; go_simp; try with_reducible rfl)
        try simp only [Act.put, List.getElem_toArray, List.getElem_cons_succ, List.getElem_cons_zero, List.setIfInBounds_toArray, List.set_cons_zero, List.set_cons_succ]
        refine wpHL_take (i := 9) (v := ?_) rfl (by kernel_rfl) (fun _ _ _ h => h) hHeld (Or.inl ⟨by rfl, ?_⟩) ?_
        rotate_left
        · (intro w hSw; obtain ⟨y0, y1⟩ := hSw; go_simp; try with_reducible rfl)
        try simp only [Act.put, List.getElem_toArray, List.getElem_cons_succ, List.getElem_cons_zero, List.setIfInBounds_toArray, List.set_cons_zero, List.set_cons_succ]
        refine wpHL_take (i := 10) (v := ?_) rfl (by kernel_rfl) (fun _ _ _ h => h) hHeld (Or.inl ⟨by rfl, ?_⟩) ?_
        rotate_left
        · (intro w hSw; obtain ⟨y0, y1⟩ := hSw; go_simp; try with_reducible rfl)
        try simp only [Act.put, List.getElem_toArray, List.getElem_cons_succ, List.getElem_cons_zero, List.setIfInBounds_toArray, List.set_cons_zero, List.set_cons_succ]
        refine wpHL_take (i := 11) (v := ?_) rfl (by kernel_rfl) (fun _ _ _ h => h) hHeld (Or.inl ⟨by rfl, ?_⟩) ?_
        rotate_left
        · (intro w hSw; obtain ⟨y0, y1⟩ := hSw; go_simp; try with_reducible rfl)
        try simp only [Act.put, List.getElem_toArray, List.getElem_cons_succ, List.getElem_cons_zero, List.setIfInBounds_toArray, List.set_cons_zero, List.set_cons_succ]
        refine wpHL_take (i := 13) (v := ?_) rfl (by kernel_rfl) (fun _ _ _ h => h) hHeld (Or.inl ⟨by rfl, ?_⟩) ?_
        rotate_left
        · (intro w hSw; obtain ⟨y0, y1⟩ := hSw; go_simp; try with_reducible rfl)
        try simp only [Act.put, List.getElem_toArray, List.getElem_cons_succ, List.getElem_cons_zero, List.setIfInBounds_toArray, List.set_cons_zero, List.set_cons_succ]
        refine wpHL_take (i := 14) (v := ?_) rfl (by kernel_rfl) (fun _ _ _ h => h) hHeld (Or.inl ⟨by rfl, ?_⟩) ?_
        rotate_left
        · (intro w hSw; obtain ⟨y0, y1⟩ := hSw; go_simp; try with_reducible rfl)
        try simp only [Act.put, List.getElem_toArray, List.getElem_cons_succ, List.getElem_cons_zero, List.setIfInBounds_toArray, List.set_cons_zero, List.set_cons_succ]
        refine wpHL_step (i := 12) rfl (by kernel_rfl) (by decide) (fun K hK => ?_)
        have HKK := Lib.hid hK
        clear hK
        go_simp
        refine (ir_Pure (n := .move 0 0) (⟨rfl, by unfold wi64; omega, by unfold wi64; omega⟩)).mono ?_
        rintro e_ w3 ⟨rfl, rfl⟩
        rw [show pureP (.move 0 0) = true from rfl]
        go_simp
        refine HKK.out _ _ hHeld ?_
        clear HKK
        try simp only [Act.put, List.getElem_toArray, List.getElem_cons_succ, List.getElem_cons_zero, List.setIfInBounds_toArray, List.set_cons_zero, List.set_cons_succ]
        refine wpHL_take (i := 15) (v := ?_) rfl (by kernel_rfl) (fun _ _ _ h => h) hHeld (Or.inl ⟨by rfl, ?_⟩) ?_
        rotate_left
        · (intro w hSw; obtain ⟨y0, y1⟩ := hSw; go_simp; try with_reducible rfl)
        try simp only [Act.put, List.getElem_toArray, List.getElem_cons_succ, List.getElem_cons_zero, List.setIfInBounds_toArray, List.set_cons_zero, List.set_cons_succ]
        obtain ⟨e1, e2⟩ := hHeld
        refine wpHL_last (by kernel_rfl) ?_
        go_wp2_with fail
        refine (mustNo _ _ (.inr ⟨_, _, rfl, by decide⟩)).mono ?_
        rintro e_ w3 ⟨rfl, hu⟩
        have HU3 := Lib.hid (HU2.out.two hu)
        clear hu e1 e2
        go_wp2_with fail
        go_roundw
        case rel => exact ⟨2, by omega, by go_num, HU3⟩
        case measure => simp [intOf]
      by_cases hk2 : k = 2
      · as_aux_lemma =>
        subst hk2
        have hv : V = .iface 27 (.agg #[.int .i64 0, .int .i64 0, .int .i64 0, .int .i64 0]) := (Option.some.inj hV).symm
        have hs : S = .string ⟨#[98, 105, 110]⟩ := (Option.some.inj hS).symm
        subst hv
        subst hs
        clear hV hS hlt hk
        refine wpHL_step (i := 3) rfl (by kernel_rfl) (by decide) (fun K hK => ?_)
        have HKK := Lib.hid hK
        clear hK
        go_simp
        rw [methC2]
        go_simp
        refine (nameC2 _).mono ?_
        rintro e_ w3 ⟨rfl, hu⟩
        have HU2 := Lib.hid (HU2.out.two hu)
        have hHeld : (fun w' : World => w'.cell? ⟨PB, 2, none⟩ = some (.iface 27 (.agg #[.int .i64 0, .int .i64 0, .int .i64 0, .int .i64 0])) ∧ w'.cell? ⟨NB, 2, none⟩ = some (.string ⟨#[98, 105, 110]⟩)) w3 := ⟨by rw [hu.cell (World.block_lt_of_cell? _ _ hHeld.1) (fun h => h)]; exact hHeld.1, by rw [hu.cell (World.block_lt_of_cell? _ _ hHeld.2) (fun h => h)]; exact hHeld.2⟩
        clear hu
        go_simp
        refine HKK.out _ _ hHeld ?_
        clear HKK
        try simp only [Act.put, List.getElem_toArray, List.getElem_cons_succ, List.getElem_cons_zero, List.setIfInBounds_toArray, List.set_cons_zero, List.set_cons_succ]
        refine wpHL_take (i := 7) (v := ?_) rfl (by kernel_rfl) (fun _ _ _ h => h) hHeld (Or.inl ⟨by rfl, ?_⟩) ?_
        rotate_left
        · (intro w hSw; obtain ⟨y0, y1⟩ := hSw; go_simp; try with_reducible rfl)
        try simp only [Act.put, List.getElem_toArray, List.getElem_cons_succ, List.getElem_cons_zero, List.setIfInBounds_toArray, List.set_cons_zero, List.set_cons_succ]
        refine wpHL_take (i := 8) (v := ?_) rfl (by kernel_rfl) (fun _ _ _ h => h) hHeld (Or.inl ⟨by rfl, ?_⟩) ?_
        rotate_left
        · (intro w hSw; obtain ⟨y0, y1⟩ := hSw; go_simp; try with_reducible rfl)
        try simp only [Act.put, List.getElem_toArray, List.getElem_cons_succ, List.getElem_cons_zero, List.setIfInBounds_toArray, List.set_cons_zero, List.set_cons_succ]
        refine wpHL_take (i := 9) (v := ?_) rfl (by kernel_rfl) (fun _ _ _ h => h) hHeld (Or.inl ⟨by rfl, ?_⟩) ?_
        rotate_left
        · (intro w hSw; obtain ⟨y0, y1⟩ := hSw; go_simp; try with_reducible rfl)
        try simp only [Act.put, List.getElem_toArray, List.getElem_cons_succ, List.getElem_cons_zero, List.setIfInBounds_toArray, List.set_cons_zero, List.set_cons_succ]
        refine wpHL_take (i := 10) (v := ?_) rfl (by kernel_rfl) (fun _ _ _ h => h) hHeld (Or.inl ⟨by rfl, ?_⟩) ?_
        rotate_left
        · (intro w hSw; obtain ⟨y0, y1⟩ := hSw; go_simp; try with_reducible rfl)
        try simp only [Act.put, List.getElem_toArray, List.getElem_cons_succ, List.getElem_cons_zero, List.setIfInBounds_toArray, List.set_cons_zero, List.set_cons_succ]
        refine wpHL_take (i := 11) (v := ?_) rfl (by kernel_rfl) (fun _ _ _ h => h) hHeld (Or.inl ⟨by rfl, ?_⟩) ?_
        rotate_left
        · (intro w hSw; obtain ⟨y0, y1⟩ := hSw; go_simp; try with_reducible rfl)
        try simp only [Act.put, List.getElem_toArray, List.getElem_cons_succ, List.getElem_cons_zero, List.setIfInBounds_toArray, List.set_cons_zero, List.set_cons_succ]
        refine wpHL_take (i := 13) (v := ?_) rfl (by kernel_rfl) (fun _ _ _ h => h) hHeld (Or.inl ⟨by rfl, ?_⟩) ?_
        rotate_left
        · (intro w hSw; obtain ⟨y0, y1⟩ := hSw; go_simp; try with_reducible rfl)
        try simp only [Act.put, List.getElem_toArray, List.getElem_cons_succ, List.getElem_cons_zero, List.setIfInBounds_toArray, List.set_cons_zero, List.set_cons_succ]
        refine wpHL_take (i := 14) (v := ?_) rfl (by kernel_rfl) (fun _ _ _ h => h) hHeld (Or.inl ⟨by rfl, ?_⟩) ?_
        rotate_left
        · (intro w hSw; obtain ⟨y0, y1⟩ := hSw; go_simp; try with_reducible rfl)
        try simp only [Act.put, List.getElem_toArray, List.getElem_cons_succ, List.getElem_cons_zero, List.setIfInBounds_toArray, List.set_cons_zero, List.set_cons_succ]
        refine wpHL_step (i := 12) rfl (by kernel_rfl) (by decide) (fun K hK => ?_)
        have HKK := Lib.hid hK
        clear hK
        go_simp
        refine (ir_Pure (n := .bin 0 0 0 0) (⟨rfl, by unfold wi64; omega, by unfold wi64; omega, by unfold wi64; omega, by unfold wi64; omega⟩)).mono ?_
        rintro e_ w3 ⟨rfl, rfl⟩
        rw [show pureP (.bin 0 0 0 0) = true from rfl]
        go_simp
        refine HKK.out _ _ hHeld ?_
        clear HKK
        try simp only [Act.put, List.getElem_toArray, List.getElem_cons_succ, List.getElem_cons_zero, List.setIfInBounds_toArray, List.set_cons_zero, List.set_cons_succ]
        refine wpHL_take (i := 15) (v := ?_) rfl (by kernel_rfl) (fun _ _ _ h => h) hHeld (Or.inl ⟨by rfl, ?_⟩) ?_
        rotate_left
        · (intro w hSw; obtain ⟨y0, y1⟩ := hSw; go_simp; try with_reducible rfl)
        try simp only [Act.put, List.getElem_toArray, List.getElem_cons_succ, List.getElem_cons_zero, List.setIfInBounds_toArray, List.set_cons_zero, List.set_cons_succ]
        obtain ⟨e1, e2⟩ := hHeld
        refine wpHL_last (by kernel_rfl) ?_
        go_wp2_with fail
        refine (mustNo _ _ (.inr ⟨_, _, rfl, by decide⟩)).mono ?_
        rintro e_ w3 ⟨rfl, hu⟩
        have HU3 := Lib.hid (HU2.out.two hu)
        clear hu e1 e2
        go_wp2_with fail
        go_roundw
        case rel => exact ⟨3, by omega, by go_num, HU3⟩
        case measure => simp [intOf]
      by_cases hk3 : k = 3
      · as_aux_lemma =>
        subst hk3
        have hv : V = .iface 29 (.agg #[.int .i64 0, .int .i64 0, .int .i64 0]) := (Option.some.inj hV).symm
        have hs : S = .string ⟨#[117, 110]⟩ := (Option.some.inj hS).symm
        subst hv
        subst hs
        clear hV hS hlt hk
        refine wpHL_step (i := 3) rfl (by kernel_rfl) (by decide) (fun K hK => ?_)
        have HKK := Lib.hid hK
        clear hK
        go_simp
        rw [methC3]
        go_simp
        refine (nameC3 _).mono ?_
        rintro e_ w3 ⟨rfl, hu⟩
        have HU2 := Lib.hid (HU2.out.two hu)
        have hHeld : (fun w' : World => w'.cell? ⟨PB, 3, none⟩ = some (.iface 29 (.agg #[.int .i64 0, .int .i64 0, .int .i64 0])) ∧ w'.cell? ⟨NB, 3, none⟩ = some (.string ⟨#[117, 110]⟩)) w3 := ⟨by rw [hu.cell (World.block_lt_of_cell? _ _ hHeld.1) (fun h => h)]; exact hHeld.1, by rw [hu.cell (World.block_lt_of_cell? _ _ hHeld.2) (fun h => h)]; exact hHeld.2⟩
        clear hu
        go_simp
        refine HKK.out _ _ hHeld ?_
        clear HKK
        try simp only [Act.put, List.getElem_toArray, List.getElem_cons_succ, List.getElem_cons_zero, List.setIfInBounds_toArray, List.set_cons_zero, List.set_cons_succ]
        refine wpHL_take (i := 7) (v := ?_) rfl (by kernel_rfl) (fun _ _ _ h => h) hHeld (Or.inl ⟨by rfl, ?_⟩) ?_
        rotate_left
        · (intro w hSw; obtain ⟨y0, y1⟩ := hSw; go_simp; try with_reducible rfl)
        try simp only [Act.put, List.getElem_toArray, List.getElem_cons_succ, List.getElem_cons_zero, List.setIfInBounds_toArray, List.set_cons_zero, List.set_cons_succ]
        refine wpHL_take (i := 8) (v := ?_) rfl (by kernel_rfl) (fun _ _ _ h => h) hHeld (Or.inl ⟨by rfl, ?_⟩) ?_
        rotate_left
        · (intro w hSw; obtain ⟨y0, y1⟩ := hSw; go_simp; try with_reducible rfl)
        try simp only [Act.put, List.getElem_toArray, List.getElem_cons_succ, List.getElem_cons_zero, List.setIfInBounds_toArray, List.set_cons_zero, List.set_cons_succ]
        refine wpHL_take (i := 9) (v := ?_) rfl (by kernel_rfl) (fun _ _ _ h => h) hHeld (Or.inl ⟨by rfl, ?_⟩) ?_
        rotate_left
        · (intro w hSw; obtain ⟨y0, y1⟩ := hSw; go_simp; try with_reducible rfl)
        try simp only [Act.put, List.getElem_toArray, List.getElem_cons_succ, List.getElem_cons_zero, List.setIfInBounds_toArray, List.set_cons_zero, List.set_cons_succ]
        refine wpHL_take (i := 10) (v := ?_) rfl (by kernel_rfl) (fun _ _ _ h => h) hHeld (Or.inl ⟨by rfl, ?_⟩) ?_
        rotate_left
        · (intro w hSw; obtain ⟨y0, y1⟩ := hSw; go_simp; try with_reducible rfl)
        try simp only [Act.put, List.getElem_toArray, List.getElem_cons_succ, List.getElem_cons_zero, List.setIfInBounds_toArray, List.set_cons_zero, List.set_cons_succ]
        refine wpHL_take (i := 11) (v := ?_) rfl (by kernel_rfl) (fun _ _ _ h => h) hHeld (Or.inl ⟨by rfl, ?_⟩) ?_
        rotate_left
        · (intro w hSw; obtain ⟨y0, y1⟩ := hSw; go_simp; try with_reducible rfl)
        try simp only [Act.put, List.getElem_toArray, List.getElem_cons_succ, List.getElem_cons_zero, List.setIfInBounds_toArray, List.set_cons_zero, List.set_cons_succ]
        refine wpHL_take (i := 13) (v := ?_) rfl (by kernel_rfl) (fun _ _ _ h => h) hHeld (Or.inl ⟨by rfl, ?_⟩) ?_
        rotate_left
        · (intro w hSw; obtain ⟨y0, y1⟩ := hSw; go_simp; try with_reducible rfl)
        try simp only [Act.put, List.getElem_toArray, List.getElem_cons_succ, List.getElem_cons_zero, List.setIfInBounds_toArray, List.set_cons_zero, List.set_cons_succ]
        refine wpHL_take (i := 14) (v := ?_) rfl (by kernel_rfl) (fun _ _ _ h => h) hHeld (Or.inl ⟨by rfl, ?_⟩) ?_
        rotate_left
        · (intro w hSw; obtain ⟨y0, y1⟩ := hSw; go_simp; try with_reducible rfl)
        try simp only [Act.put, List.getElem_toArray, List.getElem_cons_succ, List.getElem_cons_zero, List.setIfInBounds_toArray, List.set_cons_zero, List.set_cons_succ]
        refine wpHL_step (i := 12) rfl (by kernel_rfl) (by decide) (fun K hK => ?_)
        have HKK := Lib.hid hK
        clear hK
        go_simp
        refine (ir_Pure (n := .un 0 0 0) (⟨rfl, by unfold wi64; omega, by unfold wi64; omega, by unfold wi64; omega⟩)).mono ?_
        rintro e_ w3 ⟨rfl, rfl⟩
        rw [show pureP (.un 0 0 0) = true from rfl]
        go_simp
        refine HKK.out _ _ hHeld ?_
        clear HKK
        try simp only [Act.put, List.getElem_toArray, List.getElem_cons_succ, List.getElem_cons_zero, List.setIfInBounds_toArray, List.set_cons_zero, List.set_cons_succ]
        refine wpHL_take (i := 15) (v := ?_) rfl (by kernel_rfl) (fun _ _ _ h => h) hHeld (Or.inl ⟨by rfl, ?_⟩) ?_
        rotate_left
        · (intro w hSw; obtain ⟨y0, y1⟩ := hSw; go_simp; try with_reducible rfl)
        try simp only [Act.put, List.getElem_toArray, List.getElem_cons_succ, List.getElem_cons_zero, List.setIfInBounds_toArray, List.set_cons_zero, List.set_cons_succ]
        obtain ⟨e1, e2⟩ := hHeld
        refine wpHL_last (by kernel_rfl) ?_
        go_wp2_with fail
        refine (mustNo _ _ (.inr ⟨_, _, rfl, by decide⟩)).mono ?_
        rintro e_ w3 ⟨rfl, hu⟩
        have HU3 := Lib.hid (HU2.out.two hu)
        clear hu e1 e2
        go_wp2_with fail
        go_roundw
        case rel => exact ⟨4, by omega, by go_num, HU3⟩
        case measure => simp [intOf]
      by_cases hk4 : k = 4
      · as_aux_lemma =>
        subst hk4
        have hv : V = .iface 31 (.agg #[.int .i64 0, .int .i64 0, .int .i64 0, .int .i64 0]) := (Option.some.inj hV).symm
        have hs : S = .string ⟨#[99, 104, 111, 111, 115, 101]⟩ := (Option.some.inj hS).symm
        subst hv
        subst hs
        clear hV hS hlt hk
        refine wpHL_step (i := 3) rfl (by kernel_rfl) (by decide) (fun K hK => ?_)
        have HKK := Lib.hid hK
        clear hK
        go_simp
        rw [methC4]
        go_simp
        refine (nameC4 _).mono ?_
        rintro e_ w3 ⟨rfl, hu⟩
        have HU2 := Lib.hid (HU2.out.two hu)
        have hHeld : (fun w' : World => w'.cell? ⟨PB, 4, none⟩ = some (.iface 31 (.agg #[.int .i64 0, .int .i64 0, .int .i64 0, .int .i64 0])) ∧ w'.cell? ⟨NB, 4, none⟩ = some (.string ⟨#[99, 104, 111, 111, 115, 101]⟩)) w3 := ⟨by rw [hu.cell (World.block_lt_of_cell? _ _ hHeld.1) (fun h => h)]; exact hHeld.1, by rw [hu.cell (World.block_lt_of_cell? _ _ hHeld.2) (fun h => h)]; exact hHeld.2⟩
        clear hu
        go_simp
        refine HKK.out _ _ hHeld ?_
        clear HKK
        try simp only [Act.put, List.getElem_toArray, List.getElem_cons_succ, List.getElem_cons_zero, List.setIfInBounds_toArray, List.set_cons_zero, List.set_cons_succ]
        refine wpHL_take (i := 7) (v := ?_) rfl (by kernel_rfl) (fun _ _ _ h => h) hHeld (Or.inl ⟨by rfl, ?_⟩) ?_
        rotate_left
        · (intro w hSw; obtain ⟨y0, y1⟩ := hSw; go_simp; try with_reducible rfl)
        try simp only [Act.put, List.getElem_toArray, List.getElem_cons_succ, List.getElem_cons_zero, List.setIfInBounds_toArray, List.set_cons_zero, List.set_cons_succ]
        refine wpHL_take (i := 8) (v := ?_) rfl (by kernel_rfl) (fun _ _ _ h => h) hHeld (Or.inl ⟨by rfl, ?_⟩) ?_
        rotate_left
        · (intro w hSw; obtain ⟨y0, y1⟩ := hSw; go_simp; try with_reducible rfl)
        try simp only [Act.put, List.getElem_toArray, List.getElem_cons_succ, List.getElem_cons_zero, List.setIfInBounds_toArray, List.set_cons_zero, List.set_cons_succ]
        refine wpHL_take (i := 9) (v := ?_) rfl (by kernel_rfl) (fun _ _ _ h => h) hHeld (Or.inl ⟨by rfl, ?_⟩) ?_
        rotate_left
        · (intro w hSw; obtain ⟨y0, y1⟩ := hSw; go_simp; try with_reducible rfl)
        try simp only [Act.put, List.getElem_toArray, List.getElem_cons_succ, List.getElem_cons_zero, List.setIfInBounds_toArray, List.set_cons_zero, List.set_cons_succ]
        refine wpHL_take (i := 10) (v := ?_) rfl (by kernel_rfl) (fun _ _ _ h => h) hHeld (Or.inl ⟨by rfl, ?_⟩) ?_
        rotate_left
        · (intro w hSw; obtain ⟨y0, y1⟩ := hSw; go_simp; try with_reducible rfl)
        try simp only [Act.put, List.getElem_toArray, List.getElem_cons_succ, List.getElem_cons_zero, List.setIfInBounds_toArray, List.set_cons_zero, List.set_cons_succ]
        refine wpHL_take (i := 11) (v := ?_) rfl (by kernel_rfl) (fun _ _ _ h => h) hHeld (Or.inl ⟨by rfl, ?_⟩) ?_
        rotate_left
        · (intro w hSw; obtain ⟨y0, y1⟩ := hSw; go_simp; try with_reducible rfl)
        try simp only [Act.put, List.getElem_toArray, List.getElem_cons_succ, List.getElem_cons_zero, List.setIfInBounds_toArray, List.set_cons_zero, List.set_cons_succ]
        refine wpHL_take (i := 13) (v := ?_) rfl (by kernel_rfl) (fun _ _ _ h => h) hHeld (Or.inl ⟨by rfl, ?_⟩) ?_
        rotate_left
        · (intro w hSw; obtain ⟨y0, y1⟩ := hSw; go_simp; try with_reducible rfl)
        try simp only [Act.put, List.getElem_toArray, List.getElem_cons_succ, List.getElem_cons_zero, List.setIfInBounds_toArray, List.set_cons_zero, List.set_cons_succ]
        refine wpHL_take (i := 14) (v := ?_) rfl (by kernel_rfl) (fun _ _ _ h => h) hHeld (Or.inl ⟨by rfl, ?_⟩) ?_
        rotate_left
        · (intro w hSw; obtain ⟨y0, y1⟩ := hSw; go_simp; try with_reducible rfl)
        try simp only [Act.put, List.getElem_toArray, List.getElem_cons_succ, List.getElem_cons_zero, List.setIfInBounds_toArray, List.set_cons_zero, List.set_cons_succ]
        refine wpHL_step (i := 12) rfl (by kernel_rfl) (by decide) (fun K hK => ?_)
        have HKK := Lib.hid hK
        clear hK
        go_simp
        refine (ir_Pure (n := .choose 0 0 0 0) (⟨rfl, by unfold wi64; omega, by unfold wi64; omega, by unfold wi64; omega, by unfold wi64; omega⟩)).mono ?_
        rintro e_ w3 ⟨rfl, rfl⟩
        rw [show pureP (.choose 0 0 0 0) = true from rfl]
        go_simp
        refine HKK.out _ _ hHeld ?_
        clear HKK
        try simp only [Act.put, List.getElem_toArray, List.getElem_cons_succ, List.getElem_cons_zero, List.setIfInBounds_toArray, List.set_cons_zero, List.set_cons_succ]
        refine wpHL_take (i := 15) (v := ?_) rfl (by kernel_rfl) (fun _ _ _ h => h) hHeld (Or.inl ⟨by rfl, ?_⟩) ?_
        rotate_left
        · (intro w hSw; obtain ⟨y0, y1⟩ := hSw; go_simp; try with_reducible rfl)
        try simp only [Act.put, List.getElem_toArray, List.getElem_cons_succ, List.getElem_cons_zero, List.setIfInBounds_toArray, List.set_cons_zero, List.set_cons_succ]
        obtain ⟨e1, e2⟩ := hHeld
        refine wpHL_last (by kernel_rfl) ?_
        go_wp2_with fail
        refine (mustNo _ _ (.inr ⟨_, _, rfl, by decide⟩)).mono ?_
        rintro e_ w3 ⟨rfl, hu⟩
        have HU3 := Lib.hid (HU2.out.two hu)
        clear hu e1 e2
        go_wp2_with fail
        go_roundw
        case rel => exact ⟨5, by omega, by go_num, HU3⟩
        case measure => simp [intOf]
      by_cases hk5 : k = 5
      · as_aux_lemma =>
        subst hk5
        have hv : V = .iface 33 (.agg #[]) := (Option.some.inj hV).symm
        have hs : S = .string ⟨#[116, 105, 99, 107]⟩ := (Option.some.inj hS).symm
        subst hv
        subst hs
        clear hV hS hlt hk
        refine wpHL_step (i := 3) rfl (by kernel_rfl) (by decide) (fun K hK => ?_)
        have HKK := Lib.hid hK
        clear hK
        go_simp
        rw [methC5]
        go_simp
        refine (nameC5 _).mono ?_
        rintro e_ w3 ⟨rfl, hu⟩
        have HU2 := Lib.hid (HU2.out.two hu)
        have hHeld : (fun w' : World => w'.cell? ⟨PB, 5, none⟩ = some (.iface 33 (.agg #[])) ∧ w'.cell? ⟨NB, 5, none⟩ = some (.string ⟨#[116, 105, 99, 107]⟩)) w3 := ⟨by rw [hu.cell (World.block_lt_of_cell? _ _ hHeld.1) (fun h => h)]; exact hHeld.1, by rw [hu.cell (World.block_lt_of_cell? _ _ hHeld.2) (fun h => h)]; exact hHeld.2⟩
        clear hu
        go_simp
        refine HKK.out _ _ hHeld ?_
        clear HKK
        try simp only [Act.put, List.getElem_toArray, List.getElem_cons_succ, List.getElem_cons_zero, List.setIfInBounds_toArray, List.set_cons_zero, List.set_cons_succ]
        refine wpHL_take (i := 7) (v := ?_) rfl (by kernel_rfl) (fun _ _ _ h => h) hHeld (Or.inl ⟨by rfl, ?_⟩) ?_
        rotate_left
        · (intro w hSw; obtain ⟨y0, y1⟩ := hSw; go_simp; try with_reducible rfl)
        try simp only [Act.put, List.getElem_toArray, List.getElem_cons_succ, List.getElem_cons_zero, List.setIfInBounds_toArray, List.set_cons_zero, List.set_cons_succ]
        refine wpHL_take (i := 8) (v := ?_) rfl (by kernel_rfl) (fun _ _ _ h => h) hHeld (Or.inl ⟨by rfl, ?_⟩) ?_
        rotate_left
        · (intro w hSw; obtain ⟨y0, y1⟩ := hSw; go_simp; try with_reducible rfl)
        try simp only [Act.put, List.getElem_toArray, List.getElem_cons_succ, List.getElem_cons_zero, List.setIfInBounds_toArray, List.set_cons_zero, List.set_cons_succ]
        refine wpHL_take (i := 9) (v := ?_) rfl (by kernel_rfl) (fun _ _ _ h => h) hHeld (Or.inl ⟨by rfl, ?_⟩) ?_
        rotate_left
        · (intro w hSw; obtain ⟨y0, y1⟩ := hSw; go_simp; try with_reducible rfl)
        try simp only [Act.put, List.getElem_toArray, List.getElem_cons_succ, List.getElem_cons_zero, List.setIfInBounds_toArray, List.set_cons_zero, List.set_cons_succ]
        refine wpHL_take (i := 10) (v := ?_) rfl (by kernel_rfl) (fun _ _ _ h => h) hHeld (Or.inl ⟨by rfl, ?_⟩) ?_
        rotate_left
        · (intro w hSw; obtain ⟨y0, y1⟩ := hSw; go_simp; try with_reducible rfl)
        try simp only [Act.put, List.getElem_toArray, List.getElem_cons_succ, List.getElem_cons_zero, List.setIfInBounds_toArray, List.set_cons_zero, List.set_cons_succ]
        refine wpHL_take (i := 11) (v := ?_) rfl (by kernel_rfl) (fun _ _ _ h => h) hHeld (Or.inl ⟨by rfl, ?_⟩) ?_
        rotate_left
        · (intro w hSw; obtain ⟨y0, y1⟩ := hSw; go_simp; try with_reducible rfl)
        try simp only [Act.put, List.getElem_toArray, List.getElem_cons_succ, List.getElem_cons_zero, List.setIfInBounds_toArray, List.set_cons_zero, List.set_cons_succ]
        refine wpHL_take (i := 13) (v := ?_) rfl (by kernel_rfl) (fun _ _ _ h => h) hHeld (Or.inl ⟨by rfl, ?_⟩) ?_
        rotate_left
        · (intro w hSw; obtain ⟨y0, y1⟩ := hSw; go_simp; try with_reducible rfl)
        try simp only [Act.put, List.getElem_toArray, List.getElem_cons_succ, List.getElem_cons_zero, List.setIfInBounds_toArray, List.set_cons_zero, List.set_cons_succ]
        refine wpHL_take (i := 14) (v := ?_) rfl (by kernel_rfl) (fun _ _ _ h => h) hHeld (Or.inl ⟨by rfl, ?_⟩) ?_
        rotate_left
        · (intro w hSw; obtain ⟨y0, y1⟩ := hSw; go_simp; try with_reducible rfl)
        try simp only [Act.put, List.getElem_toArray, List.getElem_cons_succ, List.getElem_cons_zero, List.setIfInBounds_toArray, List.set_cons_zero, List.set_cons_succ]
        refine wpHL_step (i := 12) rfl (by kernel_rfl) (by decide) (fun K hK => ?_)
        have HKK := Lib.hid hK
        clear hK
        go_simp
        refine (ir_Pure (n := .tick ) (rfl)).mono ?_
        rintro e_ w3 ⟨rfl, rfl⟩
        rw [show pureP (.tick ) = true from rfl]
        go_simp
        refine HKK.out _ _ hHeld ?_
        clear HKK
        try simp only [Act.put, List.getElem_toArray, List.getElem_cons_succ, List.getElem_cons_zero, List.setIfInBounds_toArray, List.set_cons_zero, List.set_cons_succ]
        refine wpHL_take (i := 15) (v := ?_) rfl (by kernel_rfl) (fun _ _ _ h => h) hHeld (Or.inl ⟨by rfl, ?_⟩) ?_
        rotate_left
        · (intro w hSw; obtain ⟨y0, y1⟩ := hSw; go_simp; try with_reducible rfl)
        try simp only [Act.put, List.getElem_toArray, List.getElem_cons_succ, List.getElem_cons_zero, List.setIfInBounds_toArray, List.set_cons_zero, List.set_cons_succ]
        obtain ⟨e1, e2⟩ := hHeld
        refine wpHL_last (by kernel_rfl) ?_
        go_wp2_with fail
        refine (mustNo _ _ (.inr ⟨_, _, rfl, by decide⟩)).mono ?_
        rintro e_ w3 ⟨rfl, hu⟩
        have HU3 := Lib.hid (HU2.out.two hu)
        clear hu e1 e2
        go_wp2_with fail
        go_roundw
        case rel => exact ⟨6, by omega, by go_num, HU3⟩
        case measure => simp [intOf]
      by_cases hk6 : k = 6
      · as_aux_lemma =>
        subst hk6
        have hv : V = .iface 35 (.agg #[.int .i64 0]) := (Option.some.inj hV).symm
        have hs : S = .string ⟨#[103, 111, 116, 111]⟩ := (Option.some.inj hS).symm
        subst hv
        subst hs
        clear hV hS hlt hk
        refine wpHL_step (i := 3) rfl (by kernel_rfl) (by decide) (fun K hK => ?_)
        have HKK := Lib.hid hK
        clear hK
        go_simp
        rw [methC6]
        go_simp
        refine (nameC6 _).mono ?_
        rintro e_ w3 ⟨rfl, hu⟩
        have HU2 := Lib.hid (HU2.out.two hu)
        have hHeld : (fun w' : World => w'.cell? ⟨PB, 6, none⟩ = some (.iface 35 (.agg #[.int .i64 0])) ∧ w'.cell? ⟨NB, 6, none⟩ = some (.string ⟨#[103, 111, 116, 111]⟩)) w3 := ⟨by rw [hu.cell (World.block_lt_of_cell? _ _ hHeld.1) (fun h => h)]; exact hHeld.1, by rw [hu.cell (World.block_lt_of_cell? _ _ hHeld.2) (fun h => h)]; exact hHeld.2⟩
        clear hu
        go_simp
        refine HKK.out _ _ hHeld ?_
        clear HKK
        try simp only [Act.put, List.getElem_toArray, List.getElem_cons_succ, List.getElem_cons_zero, List.setIfInBounds_toArray, List.set_cons_zero, List.set_cons_succ]
        refine wpHL_take (i := 7) (v := ?_) rfl (by kernel_rfl) (fun _ _ _ h => h) hHeld (Or.inl ⟨by rfl, ?_⟩) ?_
        rotate_left
        · (intro w hSw; obtain ⟨y0, y1⟩ := hSw; go_simp; try with_reducible rfl)
        try simp only [Act.put, List.getElem_toArray, List.getElem_cons_succ, List.getElem_cons_zero, List.setIfInBounds_toArray, List.set_cons_zero, List.set_cons_succ]
        refine wpHL_take (i := 8) (v := ?_) rfl (by kernel_rfl) (fun _ _ _ h => h) hHeld (Or.inl ⟨by rfl, ?_⟩) ?_
        rotate_left
        · (intro w hSw; obtain ⟨y0, y1⟩ := hSw; go_simp; try with_reducible rfl)
        try simp only [Act.put, List.getElem_toArray, List.getElem_cons_succ, List.getElem_cons_zero, List.setIfInBounds_toArray, List.set_cons_zero, List.set_cons_succ]
        refine wpHL_take (i := 9) (v := ?_) rfl (by kernel_rfl) (fun _ _ _ h => h) hHeld (Or.inl ⟨by rfl, ?_⟩) ?_
        rotate_left
        · (intro w hSw; obtain ⟨y0, y1⟩ := hSw; go_simp; try with_reducible rfl)
        try simp only [Act.put, List.getElem_toArray, List.getElem_cons_succ, List.getElem_cons_zero, List.setIfInBounds_toArray, List.set_cons_zero, List.set_cons_succ]
        refine wpHL_take (i := 10) (v := ?_) rfl (by kernel_rfl) (fun _ _ _ h => h) hHeld (Or.inl ⟨by rfl, ?_⟩) ?_
        rotate_left
        · (intro w hSw; obtain ⟨y0, y1⟩ := hSw; go_simp; try with_reducible rfl)
        try simp only [Act.put, List.getElem_toArray, List.getElem_cons_succ, List.getElem_cons_zero, List.setIfInBounds_toArray, List.set_cons_zero, List.set_cons_succ]
        refine wpHL_take (i := 11) (v := ?_) rfl (by kernel_rfl) (fun _ _ _ h => h) hHeld (Or.inl ⟨by rfl, ?_⟩) ?_
        rotate_left
        · (intro w hSw; obtain ⟨y0, y1⟩ := hSw; go_simp; try with_reducible rfl)
        try simp only [Act.put, List.getElem_toArray, List.getElem_cons_succ, List.getElem_cons_zero, List.setIfInBounds_toArray, List.set_cons_zero, List.set_cons_succ]
        refine wpHL_take (i := 13) (v := ?_) rfl (by kernel_rfl) (fun _ _ _ h => h) hHeld (Or.inl ⟨by rfl, ?_⟩) ?_
        rotate_left
        · (intro w hSw; obtain ⟨y0, y1⟩ := hSw; go_simp; try with_reducible rfl)
        try simp only [Act.put, List.getElem_toArray, List.getElem_cons_succ, List.getElem_cons_zero, List.setIfInBounds_toArray, List.set_cons_zero, List.set_cons_succ]
        refine wpHL_take (i := 14) (v := ?_) rfl (by kernel_rfl) (fun _ _ _ h => h) hHeld (Or.inl ⟨by rfl, ?_⟩) ?_
        rotate_left
        · (intro w hSw; obtain ⟨y0, y1⟩ := hSw; go_simp; try with_reducible rfl)
        try simp only [Act.put, List.getElem_toArray, List.getElem_cons_succ, List.getElem_cons_zero, List.setIfInBounds_toArray, List.set_cons_zero, List.set_cons_succ]
        refine wpHL_step (i := 12) rfl (by kernel_rfl) (by decide) (fun K hK => ?_)
        have HKK := Lib.hid hK
        clear hK
        go_simp
        refine (ir_Pure (n := .goto 0) (⟨rfl, by unfold wi64; omega⟩)).mono ?_
        rintro e_ w3 ⟨rfl, rfl⟩
        rw [show pureP (.goto 0) = true from rfl]
        go_simp
        refine HKK.out _ _ hHeld ?_
        clear HKK
        try simp only [Act.put, List.getElem_toArray, List.getElem_cons_succ, List.getElem_cons_zero, List.setIfInBounds_toArray, List.set_cons_zero, List.set_cons_succ]
        refine wpHL_take (i := 15) (v := ?_) rfl (by kernel_rfl) (fun _ _ _ h => h) hHeld (Or.inl ⟨by rfl, ?_⟩) ?_
        rotate_left
        · (intro w hSw; obtain ⟨y0, y1⟩ := hSw; go_simp; try with_reducible rfl)
        try simp only [Act.put, List.getElem_toArray, List.getElem_cons_succ, List.getElem_cons_zero, List.setIfInBounds_toArray, List.set_cons_zero, List.set_cons_succ]
        obtain ⟨e1, e2⟩ := hHeld
        refine wpHL_last (by kernel_rfl) ?_
        go_wp2_with fail
        refine (mustNo _ _ (.inr ⟨_, _, rfl, by decide⟩)).mono ?_
        rintro e_ w3 ⟨rfl, hu⟩
        have HU3 := Lib.hid (HU2.out.two hu)
        clear hu e1 e2
        go_wp2_with fail
        go_roundw
        case rel => exact ⟨7, by omega, by go_num, HU3⟩
        case measure => simp [intOf]
      by_cases hk7 : k = 7
      · as_aux_lemma =>
        subst hk7
        have hv : V = .iface 37 (.agg #[.int .i64 0, .int .i64 0]) := (Option.some.inj hV).symm
        have hs : S = .string ⟨#[98, 114, 97, 110, 99, 104]⟩ := (Option.some.inj hS).symm
        subst hv
        subst hs
        clear hV hS hlt hk
        refine wpHL_step (i := 3) rfl (by kernel_rfl) (by decide) (fun K hK => ?_)
        have HKK := Lib.hid hK
        clear hK
        go_simp
        rw [methC7]
        go_simp
        refine (nameC7 _).mono ?_
        rintro e_ w3 ⟨rfl, hu⟩
        have HU2 := Lib.hid (HU2.out.two hu)
        have hHeld : (fun w' : World => w'.cell? ⟨PB, 7, none⟩ = some (.iface 37 (.agg #[.int .i64 0, .int .i64 0])) ∧ w'.cell? ⟨NB, 7, none⟩ = some (.string ⟨#[98, 114, 97, 110, 99, 104]⟩)) w3 := ⟨by rw [hu.cell (World.block_lt_of_cell? _ _ hHeld.1) (fun h => h)]; exact hHeld.1, by rw [hu.cell (World.block_lt_of_cell? _ _ hHeld.2) (fun h => h)]; exact hHeld.2⟩
        clear hu
        go_simp
        refine HKK.out _ _ hHeld ?_
        clear HKK
        try simp only [Act.put, List.getElem_toArray, List.getElem_cons_succ, List.getElem_cons_zero, List.setIfInBounds_toArray, List.set_cons_zero, List.set_cons_succ]
        refine wpHL_take (i := 7) (v := ?_) rfl (by kernel_rfl) (fun _ _ _ h => h) hHeld (Or.inl ⟨by rfl, ?_⟩) ?_
        rotate_left
        · (intro w hSw; obtain ⟨y0, y1⟩ := hSw; go_simp; try with_reducible rfl)
        try simp only [Act.put, List.getElem_toArray, List.getElem_cons_succ, List.getElem_cons_zero, List.setIfInBounds_toArray, List.set_cons_zero, List.set_cons_succ]
        refine wpHL_take (i := 8) (v := ?_) rfl (by kernel_rfl) (fun _ _ _ h => h) hHeld (Or.inl ⟨by rfl, ?_⟩) ?_
        rotate_left
        · (intro w hSw; obtain ⟨y0, y1⟩ := hSw; go_simp; try with_reducible rfl)
        try simp only [Act.put, List.getElem_toArray, List.getElem_cons_succ, List.getElem_cons_zero, List.setIfInBounds_toArray, List.set_cons_zero, List.set_cons_succ]
        refine wpHL_take (i := 9) (v := ?_) rfl (by kernel_rfl) (fun _ _ _ h => h) hHeld (Or.inl ⟨by rfl, ?_⟩) ?_
        rotate_left
        · (intro w hSw; obtain ⟨y0, y1⟩ := hSw; go_simp; try with_reducible rfl)
        try simp only [Act.put, List.getElem_toArray, List.getElem_cons_succ, List.getElem_cons_zero, List.setIfInBounds_toArray, List.set_cons_zero, List.set_cons_succ]
        refine wpHL_take (i := 10) (v := ?_) rfl (by kernel_rfl) (fun _ _ _ h => h) hHeld (Or.inl ⟨by rfl, ?_⟩) ?_
        rotate_left
        · (intro w hSw; obtain ⟨y0, y1⟩ := hSw; go_simp; try with_reducible rfl)
        try simp only [Act.put, List.getElem_toArray, List.getElem_cons_succ, List.getElem_cons_zero, List.setIfInBounds_toArray, List.set_cons_zero, List.set_cons_succ]
        refine wpHL_take (i := 11) (v := ?_) rfl (by kernel_rfl) (fun _ _ _ h => h) hHeld (Or.inl ⟨by rfl, ?_⟩) ?_
        rotate_left
        · (intro w hSw; obtain ⟨y0, y1⟩ := hSw; go_simp; try with_reducible rfl)
        try simp only [Act.put, List.getElem_toArray, List.getElem_cons_succ, List.getElem_cons_zero, List.setIfInBounds_toArray, List.set_cons_zero, List.set_cons_succ]
        refine wpHL_take (i := 13) (v := ?_) rfl (by kernel_rfl) (fun _ _ _ h => h) hHeld (Or.inl ⟨by rfl, ?_⟩) ?_
        rotate_left
        · (intro w hSw; obtain ⟨y0, y1⟩ := hSw; go_simp; try with_reducible rfl)
        try simp only [Act.put, List.getElem_toArray, List.getElem_cons_succ, List.getElem_cons_zero, List.setIfInBounds_toArray, List.set_cons_zero, List.set_cons_succ]
        refine wpHL_take (i := 14) (v := ?_) rfl (by kernel_rfl) (fun _ _ _ h => h) hHeld (Or.inl ⟨by rfl, ?_⟩) ?_
        rotate_left
        · (intro w hSw; obtain ⟨y0, y1⟩ := hSw; go_simp; try with_reducible rfl)
        try simp only [Act.put, List.getElem_toArray, List.getElem_cons_succ, List.getElem_cons_zero, List.setIfInBounds_toArray, List.set_cons_zero, List.set_cons_succ]
        refine wpHL_step (i := 12) rfl (by kernel_rfl) (by decide) (fun K hK => ?_)
        have HKK := Lib.hid hK
        clear hK
        go_simp
        refine (ir_Pure (n := .branch 0 0) (⟨rfl, by unfold wi64; omega, by unfold wi64; omega⟩)).mono ?_
        rintro e_ w3 ⟨rfl, rfl⟩
        rw [show pureP (.branch 0 0) = true from rfl]
        go_simp
        refine HKK.out _ _ hHeld ?_
        clear HKK
        try simp only [Act.put, List.getElem_toArray, List.getElem_cons_succ, List.getElem_cons_zero, List.setIfInBounds_toArray, List.set_cons_zero, List.set_cons_succ]
        refine wpHL_take (i := 15) (v := ?_) rfl (by kernel_rfl) (fun _ _ _ h => h) hHeld (Or.inl ⟨by rfl, ?_⟩) ?_
        rotate_left
        · (intro w hSw; obtain ⟨y0, y1⟩ := hSw; go_simp; try with_reducible rfl)
        try simp only [Act.put, List.getElem_toArray, List.getElem_cons_succ, List.getElem_cons_zero, List.setIfInBounds_toArray, List.set_cons_zero, List.set_cons_succ]
        obtain ⟨e1, e2⟩ := hHeld
        refine wpHL_last (by kernel_rfl) ?_
        go_wp2_with fail
        refine (mustYes _ 0 0 (fun _ => by kernel_rfl)).mono ?_
        rintro e_ w3 ⟨rfl, hu⟩
        have HU3 := Lib.hid (HU2.out.two hu)
        clear hu e1 e2
        go_wp2_with fail
        go_roundw
        case rel => exact ⟨8, by omega, by go_num, HU3⟩
        case measure => simp [intOf]
      by_cases hk8 : k = 8
      · as_aux_lemma =>
        subst hk8
        have hv : V = .iface 39 (.agg #[.int .i64 0, .int .i64 0]) := (Option.some.inj hV).symm
        have hs : S = .string ⟨#[103, 101, 116, 102, 105, 101, 108, 100]⟩ := (Option.some.inj hS).symm
        subst hv
        subst hs
        clear hV hS hlt hk
        refine wpHL_step (i := 3) rfl (by kernel_rfl) (by decide) (fun K hK => ?_)
        have HKK := Lib.hid hK
        clear hK
        go_simp
        rw [methC8]
        go_simp
        refine (nameC8 _).mono ?_
        rintro e_ w3 ⟨rfl, hu⟩
        have HU2 := Lib.hid (HU2.out.two hu)
        have hHeld : (fun w' : World => w'.cell? ⟨PB, 8, none⟩ = some (.iface 39 (.agg #[.int .i64 0, .int .i64 0])) ∧ w'.cell? ⟨NB, 8, none⟩ = some (.string ⟨#[103, 101, 116, 102, 105, 101, 108, 100]⟩)) w3 := ⟨by rw [hu.cell (World.block_lt_of_cell? _ _ hHeld.1) (fun h => h)]; exact hHeld.1, by rw [hu.cell (World.block_lt_of_cell? _ _ hHeld.2) (fun h => h)]; exact hHeld.2⟩
        clear hu
        go_simp
        refine HKK.out _ _ hHeld ?_
        clear HKK
        try simp only [Act.put, List.getElem_toArray, List.getElem_cons_succ, List.getElem_cons_zero, List.setIfInBounds_toArray, List.set_cons_zero, List.set_cons_succ]
        refine wpHL_take (i := 7) (v := ?_) rfl (by kernel_rfl) (fun _ _ _ h => h) hHeld (Or.inl ⟨by rfl, ?_⟩) ?_
        rotate_left
        · (intro w hSw; obtain ⟨y0, y1⟩ := hSw; go_simp; try with_reducible rfl)
        try simp only [Act.put, List.getElem_toArray, List.getElem_cons_succ, List.getElem_cons_zero, List.setIfInBounds_toArray, List.set_cons_zero, List.set_cons_succ]
        refine wpHL_take (i := 8) (v := ?_) rfl (by kernel_rfl) (fun _ _ _ h => h) hHeld (Or.inl ⟨by rfl, ?_⟩) ?_
        rotate_left
        · (intro w hSw; obtain ⟨y0, y1⟩ := hSw; go_simp; try with_reducible rfl)
        try simp only [Act.put, List.getElem_toArray, List.getElem_cons_succ, List.getElem_cons_zero, List.setIfInBounds_toArray, List.set_cons_zero, List.set_cons_succ]
        refine wpHL_take (i := 9) (v := ?_) rfl (by kernel_rfl) (fun _ _ _ h => h) hHeld (Or.inl ⟨by rfl, ?_⟩) ?_
        rotate_left
        · (intro w hSw; obtain ⟨y0, y1⟩ := hSw; go_simp; try with_reducible rfl)
        try simp only [Act.put, List.getElem_toArray, List.getElem_cons_succ, List.getElem_cons_zero, List.setIfInBounds_toArray, List.set_cons_zero, List.set_cons_succ]
        refine wpHL_take (i := 10) (v := ?_) rfl (by kernel_rfl) (fun _ _ _ h => h) hHeld (Or.inl ⟨by rfl, ?_⟩) ?_
        rotate_left
        · (intro w hSw; obtain ⟨y0, y1⟩ := hSw; go_simp; try with_reducible rfl)
        try simp only [Act.put, List.getElem_toArray, List.getElem_cons_succ, List.getElem_cons_zero, List.setIfInBounds_toArray, List.set_cons_zero, List.set_cons_succ]
        refine wpHL_take (i := 11) (v := ?_) rfl (by kernel_rfl) (fun _ _ _ h => h) hHeld (Or.inl ⟨by rfl, ?_⟩) ?_
        rotate_left
        · (intro w hSw; obtain ⟨y0, y1⟩ := hSw; go_simp; try with_reducible rfl)
        try simp only [Act.put, List.getElem_toArray, List.getElem_cons_succ, List.getElem_cons_zero, List.setIfInBounds_toArray, List.set_cons_zero, List.set_cons_succ]
        refine wpHL_take (i := 13) (v := ?_) rfl (by kernel_rfl) (fun _ _ _ h => h) hHeld (Or.inl ⟨by rfl, ?_⟩) ?_
        rotate_left
        · (intro w hSw; obtain ⟨y0, y1⟩ := hSw; go_simp; try with_reducible rfl)
        try simp only [Act.put, List.getElem_toArray, List.getElem_cons_succ, List.getElem_cons_zero, List.setIfInBounds_toArray, List.set_cons_zero, List.set_cons_succ]
        refine wpHL_take (i := 14) (v := ?_) rfl (by kernel_rfl) (fun _ _ _ h => h) hHeld (Or.inl ⟨by rfl, ?_⟩) ?_
        rotate_left
        · (intro w hSw; obtain ⟨y0, y1⟩ := hSw; go_simp; try with_reducible rfl)
        try simp only [Act.put, List.getElem_toArray, List.getElem_cons_succ, List.getElem_cons_zero, List.setIfInBounds_toArray, List.set_cons_zero, List.set_cons_succ]
        refine wpHL_step (i := 12) rfl (by kernel_rfl) (by decide) (fun K hK => ?_)
        have HKK := Lib.hid hK
        clear hK
        go_simp
        refine (ir_Pure (n := .getf 0 0) (⟨rfl, by unfold wi64; omega, by unfold wi64; omega⟩)).mono ?_
        rintro e_ w3 ⟨rfl, rfl⟩
        rw [show pureP (.getf 0 0) = false from rfl]
        go_simp
        refine HKK.out _ _ hHeld ?_
        clear HKK
        try simp only [Act.put, List.getElem_toArray, List.getElem_cons_succ, List.getElem_cons_zero, List.setIfInBounds_toArray, List.set_cons_zero, List.set_cons_succ]
        refine wpHL_take (i := 15) (v := ?_) rfl (by kernel_rfl) (fun _ _ _ h => h) hHeld (Or.inl ⟨by rfl, ?_⟩) ?_
        rotate_left
        · (intro w hSw; obtain ⟨y0, y1⟩ := hSw; go_simp; try with_reducible rfl)
        try simp only [Act.put, List.getElem_toArray, List.getElem_cons_succ, List.getElem_cons_zero, List.setIfInBounds_toArray, List.set_cons_zero, List.set_cons_succ]
        obtain ⟨e1, e2⟩ := hHeld
        refine wpHL_last (by kernel_rfl) ?_
        go_wp2_with fail
        refine (mustNo _ _ (.inr ⟨_, _, rfl, by decide⟩)).mono ?_
        rintro e_ w3 ⟨rfl, hu⟩
        have HU3 := Lib.hid (HU2.out.two hu)
        clear hu e1 e2
        go_wp2_with fail
        go_roundw
        case rel => exact ⟨9, by omega, by go_num, HU3⟩
        case measure => simp [intOf]
      by_cases hk9 : k = 9
      · as_aux_lemma =>
        subst hk9
        have hv : V = .iface 41 (.agg #[.int .i64 0, .int .i64 0]) := (Option.some.inj hV).symm
        have hs : S = .string ⟨#[112, 117, 116, 102, 105, 101, 108, 100]⟩ := (Option.some.inj hS).symm
        subst hv
        subst hs
        clear hV hS hlt hk
        refine wpHL_step (i := 3) rfl (by kernel_rfl) (by decide) (fun K hK => ?_)
        have HKK := Lib.hid hK
        clear hK
        go_simp
        rw [methC9]
        go_simp
        refine (nameC9 _).mono ?_
        rintro e_ w3 ⟨rfl, hu⟩
        have HU2 := Lib.hid (HU2.out.two hu)
        have hHeld : (fun w' : World => w'.cell? ⟨PB, 9, none⟩ = some (.iface 41 (.agg #[.int .i64 0, .int .i64 0])) ∧ w'.cell? ⟨NB, 9, none⟩ = some (.string ⟨#[112, 117, 116, 102, 105, 101, 108, 100]⟩)) w3 := ⟨by rw [hu.cell (World.block_lt_of_cell? _ _ hHeld.1) (fun h => h)]; exact hHeld.1, by rw [hu.cell (World.block_lt_of_cell? _ _ hHeld.2) (fun h => h)]; exact hHeld.2⟩
        clear hu
        go_simp
        refine HKK.out _ _ hHeld ?_
        clear HKK
        try simp only [Act.put, List.getElem_toArray, List.getElem_cons_succ, List.getElem_cons_zero, List.setIfInBounds_toArray, List.set_cons_zero, List.set_cons_succ]
        refine wpHL_take (i := 7) (v := ?_) rfl (by kernel_rfl) (fun _ _ _ h => h) hHeld (Or.inl ⟨by rfl, ?_⟩) ?_
        rotate_left
        · (intro w hSw; obtain ⟨y0, y1⟩ := hSw; go_simp; try with_reducible rfl)
        try simp only [Act.put, List.getElem_toArray, List.getElem_cons_succ, List.getElem_cons_zero, List.setIfInBounds_toArray, List.set_cons_zero, List.set_cons_succ]
        refine wpHL_take (i := 8) (v := ?_) rfl (by kernel_rfl) (fun _ _ _ h => h) hHeld (Or.inl ⟨by rfl, ?_⟩) ?_
        rotate_left
        · (intro w hSw; obtain ⟨y0, y1⟩ := hSw; go_simp; try with_reducible rfl)
        try simp only [Act.put, List.getElem_toArray, List.getElem_cons_succ, List.getElem_cons_zero, List.setIfInBounds_toArray, List.set_cons_zero, List.set_cons_succ]
        refine wpHL_take (i := 9) (v := ?_) rfl (by kernel_rfl) (fun _ _ _ h => h) hHeld (Or.inl ⟨by rfl, ?_⟩) ?_
        rotate_left
        · (intro w hSw; obtain ⟨y0, y1⟩ := hSw; go_simp; try with_reducible rfl)
        try simp only [Act.put, List.getElem_toArray, List.getElem_cons_succ, List.getElem_cons_zero, List.setIfInBounds_toArray, List.set_cons_zero, List.set_cons_succ]
        refine wpHL_take (i := 10) (v := ?_) rfl (by kernel_rfl) (fun _ _ _ h => h) hHeld (Or.inl ⟨by rfl, ?_⟩) ?_
        rotate_left
        · (intro w hSw; obtain ⟨y0, y1⟩ := hSw; go_simp; try with_reducible rfl)
        try simp only [Act.put, List.getElem_toArray, List.getElem_cons_succ, List.getElem_cons_zero, List.setIfInBounds_toArray, List.set_cons_zero, List.set_cons_succ]
        refine wpHL_take (i := 11) (v := ?_) rfl (by kernel_rfl) (fun _ _ _ h => h) hHeld (Or.inl ⟨by rfl, ?_⟩) ?_
        rotate_left
        · (intro w hSw; obtain ⟨y0, y1⟩ := hSw; go_simp; try with_reducible rfl)
        try simp only [Act.put, List.getElem_toArray, List.getElem_cons_succ, List.getElem_cons_zero, List.setIfInBounds_toArray, List.set_cons_zero, List.set_cons_succ]
        refine wpHL_take (i := 13) (v := ?_) rfl (by kernel_rfl) (fun _ _ _ h => h) hHeld (Or.inl ⟨by rfl, ?_⟩) ?_
        rotate_left
        · (intro w hSw; obtain ⟨y0, y1⟩ := hSw; go_simp; try with_reducible rfl)
        try simp only [Act.put, List.getElem_toArray, List.getElem_cons_succ, List.getElem_cons_zero, List.setIfInBounds_toArray, List.set_cons_zero, List.set_cons_succ]
        refine wpHL_take (i := 14) (v := ?_) rfl (by kernel_rfl) (fun _ _ _ h => h) hHeld (Or.inl ⟨by rfl, ?_⟩) ?_
        rotate_left
        · (intro w hSw; obtain ⟨y0, y1⟩ := hSw; go_simp; try with_reducible rfl)
        try simp only [Act.put, List.getElem_toArray, List.getElem_cons_succ, List.getElem_cons_zero, List.setIfInBounds_toArray, List.set_cons_zero, List.set_cons_succ]
        refine wpHL_step (i := 12) rfl (by kernel_rfl) (by decide) (fun K hK => ?_)
        have HKK := Lib.hid hK
        clear hK
        go_simp
        refine (ir_Pure (n := .putf 0 0) (⟨rfl, by unfold wi64; omega, by unfold wi64; omega⟩)).mono ?_
        rintro e_ w3 ⟨rfl, rfl⟩
        rw [show pureP (.putf 0 0) = false from rfl]
        go_simp
        refine HKK.out _ _ hHeld ?_
        clear HKK
        try simp only [Act.put, List.getElem_toArray, List.getElem_cons_succ, List.getElem_cons_zero, List.setIfInBounds_toArray, List.set_cons_zero, List.set_cons_succ]
        refine wpHL_take (i := 15) (v := ?_) rfl (by kernel_rfl) (fun _ _ _ h => h) hHeld (Or.inl ⟨by rfl, ?_⟩) ?_
        rotate_left
        · (intro w hSw; obtain ⟨y0, y1⟩ := hSw; go_simp; try with_reducible rfl)
        try simp only [Act.put, List.getElem_toArray, List.getElem_cons_succ, List.getElem_cons_zero, List.setIfInBounds_toArray, List.set_cons_zero, List.set_cons_succ]
        obtain ⟨e1, e2⟩ := hHeld
        refine wpHL_last (by kernel_rfl) ?_
        go_wp2_with fail
        refine (mustNo _ _ (.inr ⟨_, _, rfl, by decide⟩)).mono ?_
        rintro e_ w3 ⟨rfl, hu⟩
        have HU3 := Lib.hid (HU2.out.two hu)
        clear hu e1 e2
        go_wp2_with fail
        go_roundw
        case rel => exact ⟨10, by omega, by go_num, HU3⟩
        case measure => simp [intOf]
      by_cases hk10 : k = 10
      · as_aux_lemma =>
        subst hk10
        have hv : V = .iface 44 (.agg #[.int .i64 0, .int .i64 0, .int .i64 0, .int .i64 0, .slice none 0 0]) := (Option.some.inj hV).symm
        have hs : S = .string ⟨#[115, 101, 114, 118, 101]⟩ := (Option.some.inj hS).symm
        subst hv
        subst hs
        clear hV hS hlt hk
        refine wpHL_step (i := 3) rfl (by kernel_rfl) (by decide) (fun K hK => ?_)
        have HKK := Lib.hid hK
        clear hK
        go_simp
        rw [methC10]
        go_simp
        refine (nameC10 _).mono ?_
        rintro e_ w3 ⟨rfl, hu⟩
        have HU2 := Lib.hid (HU2.out.two hu)
        have hHeld : (fun w' : World => w'.cell? ⟨PB, 10, none⟩ = some (.iface 44 (.agg #[.int .i64 0, .int .i64 0, .int .i64 0, .int .i64 0, .slice none 0 0])) ∧ w'.cell? ⟨NB, 10, none⟩ = some (.string ⟨#[115, 101, 114, 118, 101]⟩)) w3 := ⟨by rw [hu.cell (World.block_lt_of_cell? _ _ hHeld.1) (fun h => h)]; exact hHeld.1, by rw [hu.cell (World.block_lt_of_cell? _ _ hHeld.2) (fun h => h)]; exact hHeld.2⟩
        clear hu
        go_simp
        refine HKK.out _ _ hHeld ?_
        clear HKK
        try simp only [Act.put, List.getElem_toArray, List.getElem_cons_succ, List.getElem_cons_zero, List.setIfInBounds_toArray, List.set_cons_zero, List.set_cons_succ]
        refine wpHL_take (i := 7) (v := ?_) rfl (by kernel_rfl) (fun _ _ _ h => h) hHeld (Or.inl ⟨by rfl, ?_⟩) ?_
        rotate_left
        · (intro w hSw; obtain ⟨y0, y1⟩ := hSw; go_simp; try with_reducible rfl)
        try simp only [Act.put, List.getElem_toArray, List.getElem_cons_succ, List.getElem_cons_zero, List.setIfInBounds_toArray, List.set_cons_zero, List.set_cons_succ]
        refine wpHL_take (i := 8) (v := ?_) rfl (by kernel_rfl) (fun _ _ _ h => h) hHeld (Or.inl ⟨by rfl, ?_⟩) ?_
        rotate_left
        · (intro w hSw; obtain ⟨y0, y1⟩ := hSw; go_simp; try with_reducible rfl)
        try simp only [Act.put, List.getElem_toArray, List.getElem_cons_succ, List.getElem_cons_zero, List.setIfInBounds_toArray, List.set_cons_zero, List.set_cons_succ]
        refine wpHL_take (i := 9) (v := ?_) rfl (by kernel_rfl) (fun _ _ _ h => h) hHeld (Or.inl ⟨by rfl, ?_⟩) ?_
        rotate_left
        · (intro w hSw; obtain ⟨y0, y1⟩ := hSw; go_simp; try with_reducible rfl)
        try simp only [Act.put, List.getElem_toArray, List.getElem_cons_succ, List.getElem_cons_zero, List.setIfInBounds_toArray, List.set_cons_zero, List.set_cons_succ]
        refine wpHL_take (i := 10) (v := ?_) rfl (by kernel_rfl) (fun _ _ _ h => h) hHeld (Or.inl ⟨by rfl, ?_⟩) ?_
        rotate_left
        · (intro w hSw; obtain ⟨y0, y1⟩ := hSw; go_simp; try with_reducible rfl)
        try simp only [Act.put, List.getElem_toArray, List.getElem_cons_succ, List.getElem_cons_zero, List.setIfInBounds_toArray, List.set_cons_zero, List.set_cons_succ]
        refine wpHL_take (i := 11) (v := ?_) rfl (by kernel_rfl) (fun _ _ _ h => h) hHeld (Or.inl ⟨by rfl, ?_⟩) ?_
        rotate_left
        · (intro w hSw; obtain ⟨y0, y1⟩ := hSw; go_simp; try with_reducible rfl)
        try simp only [Act.put, List.getElem_toArray, List.getElem_cons_succ, List.getElem_cons_zero, List.setIfInBounds_toArray, List.set_cons_zero, List.set_cons_succ]
        refine wpHL_take (i := 13) (v := ?_) rfl (by kernel_rfl) (fun _ _ _ h => h) hHeld (Or.inl ⟨by rfl, ?_⟩) ?_
        rotate_left
        · (intro w hSw; obtain ⟨y0, y1⟩ := hSw; go_simp; try with_reducible rfl)
        try simp only [Act.put, List.getElem_toArray, List.getElem_cons_succ, List.getElem_cons_zero, List.setIfInBounds_toArray, List.set_cons_zero, List.set_cons_succ]
        refine wpHL_take (i := 14) (v := ?_) rfl (by kernel_rfl) (fun _ _ _ h => h) hHeld (Or.inl ⟨by rfl, ?_⟩) ?_
        rotate_left
        · (intro w hSw; obtain ⟨y0, y1⟩ := hSw; go_simp; try with_reducible rfl)
        try simp only [Act.put, List.getElem_toArray, List.getElem_cons_succ, List.getElem_cons_zero, List.setIfInBounds_toArray, List.set_cons_zero, List.set_cons_succ]
        refine wpHL_step (i := 12) rfl (by kernel_rfl) (by decide) (fun K hK => ?_)
        have HKK := Lib.hid hK
        clear hK
        go_simp
        refine (ir_Pure (n := .serve 0 0 0 0 []) (⟨_, rfl, ints_nil _, by unfold wi64; omega, by unfold wi64; omega, by unfold wi64; omega, by unfold wi64; omega⟩)).mono ?_
        rintro e_ w3 ⟨rfl, rfl⟩
        rw [show pureP (.serve 0 0 0 0 []) = false from rfl]
        go_simp
        refine HKK.out _ _ hHeld ?_
        clear HKK
        try simp only [Act.put, List.getElem_toArray, List.getElem_cons_succ, List.getElem_cons_zero, List.setIfInBounds_toArray, List.set_cons_zero, List.set_cons_succ]
        refine wpHL_take (i := 15) (v := ?_) rfl (by kernel_rfl) (fun _ _ _ h => h) hHeld (Or.inl ⟨by rfl, ?_⟩) ?_
        rotate_left
        · (intro w hSw; obtain ⟨y0, y1⟩ := hSw; go_simp; try with_reducible rfl)
        try simp only [Act.put, List.getElem_toArray, List.getElem_cons_succ, List.getElem_cons_zero, List.setIfInBounds_toArray, List.set_cons_zero, List.set_cons_succ]
        obtain ⟨e1, e2⟩ := hHeld
        refine wpHL_last (by kernel_rfl) ?_
        go_wp2_with fail
        have HU3 := HU2
        go_roundw
        case rel => exact ⟨11, by omega, by go_num, HU3⟩
        case measure => simp [intOf]
      by_cases hk11 : k = 11
      · as_aux_lemma =>
        subst hk11
        have hv : V = .iface 46 (.agg #[.int .i64 0, .int .i64 0, .slice none 0 0]) := (Option.some.inj hV).symm
        have hs : S = .string ⟨#[99, 97, 108, 108]⟩ := (Option.some.inj hS).symm
        subst hv
        subst hs
        clear hV hS hlt hk
        refine wpHL_step (i := 3) rfl (by kernel_rfl) (by decide) (fun K hK => ?_)
        have HKK := Lib.hid hK
        clear hK
        go_simp
        rw [methC11]
        go_simp
        refine (nameC11 _).mono ?_
        rintro e_ w3 ⟨rfl, hu⟩
        have HU2 := Lib.hid (HU2.out.two hu)
        have hHeld : (fun w' : World => w'.cell? ⟨PB, 11, none⟩ = some (.iface 46 (.agg #[.int .i64 0, .int .i64 0, .slice none 0 0])) ∧ w'.cell? ⟨NB, 11, none⟩ = some (.string ⟨#[99, 97, 108, 108]⟩)) w3 := ⟨by rw [hu.cell (World.block_lt_of_cell? _ _ hHeld.1) (fun h => h)]; exact hHeld.1, by rw [hu.cell (World.block_lt_of_cell? _ _ hHeld.2) (fun h => h)]; exact hHeld.2⟩
        clear hu
        go_simp
        refine HKK.out _ _ hHeld ?_
        clear HKK
        try simp only [Act.put, List.getElem_toArray, List.getElem_cons_succ, List.getElem_cons_zero, List.setIfInBounds_toArray, List.set_cons_zero, List.set_cons_succ]
        refine wpHL_take (i := 7) (v := ?_) rfl (by kernel_rfl) (fun _ _ _ h => h) hHeld (Or.inl ⟨by rfl, ?_⟩) ?_
        rotate_left
        · (intro w hSw; obtain ⟨y0, y1⟩ := hSw; go_simp; try with_reducible rfl)
        try simp only [Act.put, List.getElem_toArray, List.getElem_cons_succ, List.getElem_cons_zero, List.setIfInBounds_toArray, List.set_cons_zero, List.set_cons_succ]
        refine wpHL_take (i := 8) (v := ?_) rfl (by kernel_rfl) (fun _ _ _ h => h) hHeld (Or.inl ⟨by rfl, ?_⟩) ?_
        rotate_left
        · (intro w hSw; obtain ⟨y0, y1⟩ := hSw; go_simp; try with_reducible rfl)
        try simp only [Act.put, List.getElem_toArray, List.getElem_cons_succ, List.getElem_cons_zero, List.setIfInBounds_toArray, List.set_cons_zero, List.set_cons_succ]
        refine wpHL_take (i := 9) (v := ?_) rfl (by kernel_rfl) (fun _ _ _ h => h) hHeld (Or.inl ⟨by rfl, ?_⟩) ?_
        rotate_left
        · (intro w hSw; obtain ⟨y0, y1⟩ := hSw; go_simp; try with_reducible rfl)
        try simp only [Act.put, List.getElem_toArray, List.getElem_cons_succ, List.getElem_cons_zero, List.setIfInBounds_toArray, List.set_cons_zero, List.set_cons_succ]
        refine wpHL_take (i := 10) (v := ?_) rfl (by kernel_rfl) (fun _ _ _ h => h) hHeld (Or.inl ⟨by rfl, ?_⟩) ?_
        rotate_left
        · (intro w hSw; obtain ⟨y0, y1⟩ := hSw; go_simp; try with_reducible rfl)
        try simp only [Act.put, List.getElem_toArray, List.getElem_cons_succ, List.getElem_cons_zero, List.setIfInBounds_toArray, List.set_cons_zero, List.set_cons_succ]
        refine wpHL_take (i := 11) (v := ?_) rfl (by kernel_rfl) (fun _ _ _ h => h) hHeld (Or.inl ⟨by rfl, ?_⟩) ?_
        rotate_left
        · (intro w hSw; obtain ⟨y0, y1⟩ := hSw; go_simp; try with_reducible rfl)
        try simp only [Act.put, List.getElem_toArray, List.getElem_cons_succ, List.getElem_cons_zero, List.setIfInBounds_toArray, List.set_cons_zero, List.set_cons_succ]
        refine wpHL_take (i := 13) (v := ?_) rfl (by kernel_rfl) (fun _ _ _ h => h) hHeld (Or.inl ⟨by rfl, ?_⟩) ?_
        rotate_left
        · (intro w hSw; obtain ⟨y0, y1⟩ := hSw; go_simp; try with_reducible rfl)
        try simp only [Act.put, List.getElem_toArray, List.getElem_cons_succ, List.getElem_cons_zero, List.setIfInBounds_toArray, List.set_cons_zero, List.set_cons_succ]
        refine wpHL_take (i := 14) (v := ?_) rfl (by kernel_rfl) (fun _ _ _ h => h) hHeld (Or.inl ⟨by rfl, ?_⟩) ?_
        rotate_left
        · (intro w hSw; obtain ⟨y0, y1⟩ := hSw; go_simp; try with_reducible rfl)
        try simp only [Act.put, List.getElem_toArray, List.getElem_cons_succ, List.getElem_cons_zero, List.setIfInBounds_toArray, List.set_cons_zero, List.set_cons_succ]
        refine wpHL_step (i := 12) rfl (by kernel_rfl) (by decide) (fun K hK => ?_)
        have HKK := Lib.hid hK
        clear hK
        go_simp
        refine (ir_Pure (n := .call 0 0 []) (⟨_, rfl, ints_nil _, by unfold wi64; omega, by unfold wi64; omega⟩)).mono ?_
        rintro e_ w3 ⟨rfl, rfl⟩
        rw [show pureP (.call 0 0 []) = false from rfl]
        go_simp
        refine HKK.out _ _ hHeld ?_
        clear HKK
        try simp only [Act.put, List.getElem_toArray, List.getElem_cons_succ, List.getElem_cons_zero, List.setIfInBounds_toArray, List.set_cons_zero, List.set_cons_succ]
        refine wpHL_take (i := 15) (v := ?_) rfl (by kernel_rfl) (fun _ _ _ h => h) hHeld (Or.inl ⟨by rfl, ?_⟩) ?_
        rotate_left
        · (intro w hSw; obtain ⟨y0, y1⟩ := hSw; go_simp; try with_reducible rfl)
        try simp only [Act.put, List.getElem_toArray, List.getElem_cons_succ, List.getElem_cons_zero, List.setIfInBounds_toArray, List.set_cons_zero, List.set_cons_succ]
        obtain ⟨e1, e2⟩ := hHeld
        refine wpHL_last (by kernel_rfl) ?_
        go_wp2_with fail
        have HU3 := HU2
        go_roundw
        case rel => exact ⟨12, by omega, by go_num, HU3⟩
        case measure => simp [intOf]
      by_cases hk12 : k = 12
      · as_aux_lemma =>
        subst hk12
        have hv : V = .iface 48 (.agg #[.int .i64 0, .int .i64 0, .slice none 0 0]) := (Option.some.inj hV).symm
        have hs : S = .string ⟨#[99, 97, 108, 108, 120]⟩ := (Option.some.inj hS).symm
        subst hv
        subst hs
        clear hV hS hlt hk
        refine wpHL_step (i := 3) rfl (by kernel_rfl) (by decide) (fun K hK => ?_)
        have HKK := Lib.hid hK
        clear hK
        go_simp
        rw [methC12]
        go_simp
        refine (nameC12 _).mono ?_
        rintro e_ w3 ⟨rfl, hu⟩
        have HU2 := Lib.hid (HU2.out.two hu)
        have hHeld : (fun w' : World => w'.cell? ⟨PB, 12, none⟩ = some (.iface 48 (.agg #[.int .i64 0, .int .i64 0, .slice none 0 0])) ∧ w'.cell? ⟨NB, 12, none⟩ = some (.string ⟨#[99, 97, 108, 108, 120]⟩)) w3 := ⟨by rw [hu.cell (World.block_lt_of_cell? _ _ hHeld.1) (fun h => h)]; exact hHeld.1, by rw [hu.cell (World.block_lt_of_cell? _ _ hHeld.2) (fun h => h)]; exact hHeld.2⟩
        clear hu
        go_simp
        refine HKK.out _ _ hHeld ?_
        clear HKK
        try simp only [Act.put, List.getElem_toArray, List.getElem_cons_succ, List.getElem_cons_zero, List.setIfInBounds_toArray, List.set_cons_zero, List.set_cons_succ]
        refine wpHL_take (i := 7) (v := ?_) rfl (by kernel_rfl) (fun _ _ _ h => h) hHeld (Or.inl ⟨by rfl, ?_⟩) ?_
        rotate_left
        · (intro w hSw; obtain ⟨y0, y1⟩ := hSw; go_simp; try with_reducible rfl)
        try simp only [Act.put, List.getElem_toArray, List.getElem_cons_succ, List.getElem_cons_zero, List.setIfInBounds_toArray, List.set_cons_zero, List.set_cons_succ]
        refine wpHL_take (i := 8) (v := ?_) rfl (by kernel_rfl) (fun _ _ _ h => h) hHeld (Or.inl ⟨by rfl, ?_⟩) ?_
        rotate_left
        · (intro w hSw; obtain ⟨y0, y1⟩ := hSw; go_simp; try with_reducible rfl)
        try simp only [Act.put, List.getElem_toArray, List.getElem_cons_succ, List.getElem_cons_zero, List.setIfInBounds_toArray, List.set_cons_zero, List.set_cons_succ]
        refine wpHL_take (i := 9) (v := ?_) rfl (by kernel_rfl) (fun _ _ _ h => h) hHeld (Or.inl ⟨by rfl, ?_⟩) ?_
        rotate_left
        · (intro w hSw; obtain ⟨y0, y1⟩ := hSw; go_simp; try with_reducible rfl)
        try simp only [Act.put, List.getElem_toArray, List.getElem_cons_succ, List.getElem_cons_zero, List.setIfInBounds_toArray, List.set_cons_zero, List.set_cons_succ]
        refine wpHL_take (i := 10) (v := ?_) rfl (by kernel_rfl) (fun _ _ _ h => h) hHeld (Or.inl ⟨by rfl, ?_⟩) ?_
        rotate_left
        · (intro w hSw; obtain ⟨y0, y1⟩ := hSw; go_simp; try with_reducible rfl)
        try simp only [Act.put, List.getElem_toArray, List.getElem_cons_succ, List.getElem_cons_zero, List.setIfInBounds_toArray, List.set_cons_zero, List.set_cons_succ]
        refine wpHL_take (i := 11) (v := ?_) rfl (by kernel_rfl) (fun _ _ _ h => h) hHeld (Or.inl ⟨by rfl, ?_⟩) ?_
        rotate_left
        · (intro w hSw; obtain ⟨y0, y1⟩ := hSw; go_simp; try with_reducible rfl)
        try simp only [Act.put, List.getElem_toArray, List.getElem_cons_succ, List.getElem_cons_zero, List.setIfInBounds_toArray, List.set_cons_zero, List.set_cons_succ]
        refine wpHL_take (i := 13) (v := ?_) rfl (by kernel_rfl) (fun _ _ _ h => h) hHeld (Or.inl ⟨by rfl, ?_⟩) ?_
        rotate_left
        · (intro w hSw; obtain ⟨y0, y1⟩ := hSw; go_simp; try with_reducible rfl)
        try simp only [Act.put, List.getElem_toArray, List.getElem_cons_succ, List.getElem_cons_zero, List.setIfInBounds_toArray, List.set_cons_zero, List.set_cons_succ]
        refine wpHL_take (i := 14) (v := ?_) rfl (by kernel_rfl) (fun _ _ _ h => h) hHeld (Or.inl ⟨by rfl, ?_⟩) ?_
        rotate_left
        · (intro w hSw; obtain ⟨y0, y1⟩ := hSw; go_simp; try with_reducible rfl)
        try simp only [Act.put, List.getElem_toArray, List.getElem_cons_succ, List.getElem_cons_zero, List.setIfInBounds_toArray, List.set_cons_zero, List.set_cons_succ]
        refine wpHL_step (i := 12) rfl (by kernel_rfl) (by decide) (fun K hK => ?_)
        have HKK := Lib.hid hK
        clear hK
        go_simp
        refine (ir_Pure (n := .callx 0 0 []) (⟨_, rfl, ints_nil _, by unfold wi64; omega, by unfold wi64; omega⟩)).mono ?_
        rintro e_ w3 ⟨rfl, rfl⟩
        rw [show pureP (.callx 0 0 []) = false from rfl]
        go_simp
        refine HKK.out _ _ hHeld ?_
        clear HKK
        try simp only [Act.put, List.getElem_toArray, List.getElem_cons_succ, List.getElem_cons_zero, List.setIfInBounds_toArray, List.set_cons_zero, List.set_cons_succ]
        refine wpHL_take (i := 15) (v := ?_) rfl (by kernel_rfl) (fun _ _ _ h => h) hHeld (Or.inl ⟨by rfl, ?_⟩) ?_
        rotate_left
        · (intro w hSw; obtain ⟨y0, y1⟩ := hSw; go_simp; try with_reducible rfl)
        try simp only [Act.put, List.getElem_toArray, List.getElem_cons_succ, List.getElem_cons_zero, List.setIfInBounds_toArray, List.set_cons_zero, List.set_cons_succ]
        obtain ⟨e1, e2⟩ := hHeld
        refine wpHL_last (by kernel_rfl) ?_
        go_wp2_with fail
        have HU3 := HU2
        go_roundw
        case rel => exact ⟨13, by omega, by go_num, HU3⟩
        case measure => simp [intOf]
      by_cases hk13 : k = 13
      · as_aux_lemma =>
        subst hk13
        have hv : V = .iface 50 (.agg #[.int .i64 0]) := (Option.some.inj hV).symm
        have hs : S = .string ⟨#[114, 101, 116]⟩ := (Option.some.inj hS).symm
        subst hv
        subst hs
        clear hV hS hlt hk
        refine wpHL_step (i := 3) rfl (by kernel_rfl) (by decide) (fun K hK => ?_)
        have HKK := Lib.hid hK
        clear hK
        go_simp
        rw [methC13]
        go_simp
        refine (nameC13 _).mono ?_
        rintro e_ w3 ⟨rfl, hu⟩
        have HU2 := Lib.hid (HU2.out.two hu)
        have hHeld : (fun w' : World => w'.cell? ⟨PB, 13, none⟩ = some (.iface 50 (.agg #[.int .i64 0])) ∧ w'.cell? ⟨NB, 13, none⟩ = some (.string ⟨#[114, 101, 116]⟩)) w3 := ⟨by rw [hu.cell (World.block_lt_of_cell? _ _ hHeld.1) (fun h => h)]; exact hHeld.1, by rw [hu.cell (World.block_lt_of_cell? _ _ hHeld.2) (fun h => h)]; exact hHeld.2⟩
        clear hu
        go_simp
        refine HKK.out _ _ hHeld ?_
        clear HKK
        try simp only [Act.put, List.getElem_toArray, List.getElem_cons_succ, List.getElem_cons_zero, List.setIfInBounds_toArray, List.set_cons_zero, List.set_cons_succ]
        refine wpHL_take (i := 7) (v := ?_) rfl (by kernel_rfl) (fun _ _ _ h => h) hHeld (Or.inl ⟨by rfl, ?_⟩) ?_
        rotate_left
        · (intro w hSw; obtain ⟨y0, y1⟩ := hSw; go_simp; try with_reducible rfl)
        try simp only [Act.put, List.getElem_toArray, List.getElem_cons_succ, List.getElem_cons_zero, List.setIfInBounds_toArray, List.set_cons_zero, List.set_cons_succ]
        refine wpHL_take (i := 8) (v := ?_) rfl (by kernel_rfl) (fun _ _ _ h => h) hHeld (Or.inl ⟨by rfl, ?_⟩) ?_
        rotate_left
        · (intro w hSw; obtain ⟨y0, y1⟩ := hSw; go_simp; try with_reducible rfl)
        try simp only [Act.put, List.getElem_toArray, List.getElem_cons_succ, List.getElem_cons_zero, List.setIfInBounds_toArray, List.set_cons_zero, List.set_cons_succ]
        refine wpHL_take (i := 9) (v := ?_) rfl (by kernel_rfl) (fun _ _ _ h => h) hHeld (Or.inl ⟨by rfl, ?_⟩) ?_
        rotate_left
        · (intro w hSw; obtain ⟨y0, y1⟩ := hSw; go_simp; try with_reducible rfl)
        try simp only [Act.put, List.getElem_toArray, List.getElem_cons_succ, List.getElem_cons_zero, List.setIfInBounds_toArray, List.set_cons_zero, List.set_cons_succ]
        refine wpHL_take (i := 10) (v := ?_) rfl (by kernel_rfl) (fun _ _ _ h => h) hHeld (Or.inl ⟨by rfl, ?_⟩) ?_
        rotate_left
        · (intro w hSw; obtain ⟨y0, y1⟩ := hSw; go_simp; try with_reducible rfl)
        try simp only [Act.put, List.getElem_toArray, List.getElem_cons_succ, List.getElem_cons_zero, List.setIfInBounds_toArray, List.set_cons_zero, List.set_cons_succ]
        refine wpHL_take (i := 11) (v := ?_) rfl (by kernel_rfl) (fun _ _ _ h => h) hHeld (Or.inl ⟨by rfl, ?_⟩) ?_
        rotate_left
        · (intro w hSw; obtain ⟨y0, y1⟩ := hSw; go_simp; try with_reducible rfl)
        try simp only [Act.put, List.getElem_toArray, List.getElem_cons_succ, List.getElem_cons_zero, List.setIfInBounds_toArray, List.set_cons_zero, List.set_cons_succ]
        refine wpHL_take (i := 13) (v := ?_) rfl (by kernel_rfl) (fun _ _ _ h => h) hHeld (Or.inl ⟨by rfl, ?_⟩) ?_
        rotate_left
        · (intro w hSw; obtain ⟨y0, y1⟩ := hSw; go_simp; try with_reducible rfl)
        try simp only [Act.put, List.getElem_toArray, List.getElem_cons_succ, List.getElem_cons_zero, List.setIfInBounds_toArray, List.set_cons_zero, List.set_cons_succ]
        refine wpHL_take (i := 14) (v := ?_) rfl (by kernel_rfl) (fun _ _ _ h => h) hHeld (Or.inl ⟨by rfl, ?_⟩) ?_
        rotate_left
        · (intro w hSw; obtain ⟨y0, y1⟩ := hSw; go_simp; try with_reducible rfl)
        try simp only [Act.put, List.getElem_toArray, List.getElem_cons_succ, List.getElem_cons_zero, List.setIfInBounds_toArray, List.set_cons_zero, List.set_cons_succ]
        refine wpHL_step (i := 12) rfl (by kernel_rfl) (by decide) (fun K hK => ?_)
        have HKK := Lib.hid hK
        clear hK
        go_simp
        refine (ir_Pure (n := .ret 0) (⟨rfl, by unfold wi64; omega⟩)).mono ?_
        rintro e_ w3 ⟨rfl, rfl⟩
        rw [show pureP (.ret 0) = false from rfl]
        go_simp
        refine HKK.out _ _ hHeld ?_
        clear HKK
        try simp only [Act.put, List.getElem_toArray, List.getElem_cons_succ, List.getElem_cons_zero, List.setIfInBounds_toArray, List.set_cons_zero, List.set_cons_succ]
        refine wpHL_take (i := 15) (v := ?_) rfl (by kernel_rfl) (fun _ _ _ h => h) hHeld (Or.inl ⟨by rfl, ?_⟩) ?_
        rotate_left
        · (intro w hSw; obtain ⟨y0, y1⟩ := hSw; go_simp; try with_reducible rfl)
        try simp only [Act.put, List.getElem_toArray, List.getElem_cons_succ, List.getElem_cons_zero, List.setIfInBounds_toArray, List.set_cons_zero, List.set_cons_succ]
        obtain ⟨e1, e2⟩ := hHeld
        refine wpHL_last (by kernel_rfl) ?_
        go_wp2_with fail
        have HU3 := HU2
        go_roundw
        case rel => exact ⟨14, by omega, by go_num, HU3⟩
        case measure => simp [intOf]
      exact absurd hlt (by omega)
    · have hke : k = 14 := by omega
      subst hke
      have hd : decide (((14 : Nat) : Int) < 14) = false := by decide
      clear hlt hk
      have HU0 := Lib.hid (HU.out.two HR.out)
      go_wp2_with fail
      obtain ⟨W3, hW3⟩ : ∃ W3, wr.alloc (.cells #[.iface 33 (.agg #[]), .iface 23 (.agg #[.int .i64 0, .int .i32 5]), .iface 27 (.agg #[.int .i64 6, .int .i64 1, .int .i64 0, .int .i64 0]), .iface 50 (.agg #[.int .i64 1])] 52) = W3 := ⟨_, rfl⟩
      have hu3 : Upd (fun _ => False) wr W3 := by rw [← hW3]; exact Upd.alloc _ _ _
      have hs3 : wr.heap.size + 1 = W3.heap.size := by rw [← hW3]; simp
      have hn3 : Nds W3 (.slice (some ⟨wr.heap.size, 0, none⟩) 4 4) knL := by
        rw [← hW3]
        refine nds_lit wr _ _ knL _ 4 rfl rfl rfl (by omega) fun i hi u => ?_
        rcases (by omega : i = 0 ∨ i = 1 ∨ i = 2 ∨ i = 3) with rfl | rfl | rfl | rfl
        · exact rfl
        · exact ⟨rfl, by unfold wi64; omega⟩
        · exact ⟨rfl, by unfold wi64; omega, by unfold wi64; omega, by unfold wi64; omega, by unfold wi64; omega⟩
        · exact ⟨rfl, by unfold wi64; omega⟩
      rw [hW3, hs3]
      obtain ⟨W4, hW4⟩ : ∃ W4, W3.alloc (.cells #[.int .i32 0, .int .i32 0] 21) = W4 := ⟨_, rfl⟩
      have hu4 : Upd (fun _ => False) W3 W4 := by rw [← hW4]; exact Upd.alloc _ _ _
      have hr4 : W32 W4 (.slice (some ⟨W3.heap.size, 0, none⟩) 2 2) [0, 0] := by rw [← hW4]; exact w32_lit W3 _ [0, 0] _ _ 2 rfl rfl rfl (by simp)
      rw [hW4]
      refine (irEval (p := ⟨0, 2, knL⟩) (rs := [0, 0]) ⟨_, rfl, hn3.stay hu4, show wi64 0 by unfold wi64; omega, show wi64 2 by unfold wi64; omega⟩ hr4 (by simp) 0 99 (by unfold wi64; omega) (by unfold wi64; omega)).mono ?_
      rintro e w5 ⟨v5, rfl, hv, hu⟩
      rw [kn_eval] at hv ⊢
      dsimp only at hv ⊢
      have HU5 := Lib.hid (((HU0.out.two hu3).two hu4).two hu)
      clear hu hr4 hu4 hu3 hs3 hn3 hW3 hW4
      rcases hv with ⟨h, -⟩ | ⟨g, gc, rfl, hv⟩
      · simp at h
      have HV := Lib.hid hv
      clear hv
      simp only [List.length_cons, List.length_nil] at *
      go_wp2_with fail
      refine (known17 _).mono ?_
      rintro e w6 ⟨rfl, hu⟩
      have HU6 := Lib.hid (HU5.out.two hu)
      have hc := (HV.out.upd hu (fun h => h)).cell (k := 1) (by simp)
      rw [show ([5, 10] : List (BitVec 32)).getD 1 0 = 10 from rfl, show si 10 = 10 by decide] at hc
      clear hu HV
      go_wp2_with fail
      refine (mustYes _ 0 3 (fun _ => by kernel_rfl)).mono ?_
      rintro e w7 ⟨rfl, hu⟩
      have HU7 := Lib.hid (HU6.out.two hu)
      clear hu hc
      go_wp2_with fail
      refine (mustNo _ _ (.inl rfl)).mono ?_
      rintro e w8 ⟨rfl, hu⟩
      have HU8 := Lib.hid (HU7.out.two hu)
      clear hu
      go_wp2_with fail
      refine (ir_Def (n := .nil) rfl).mono ?_
      rintro e w9 ⟨rfl, hu⟩
      rw [show defP .nil = -1 from rfl]
      have HU9 := Lib.hid (HU8.out.two hu)
      clear hu
      go_wp2_with fail
      refine (ir_Uses (n := .nil) rfl (by decide)).mono ?_
      rintro e w10 ⟨v10, rfl, hi, hu⟩
      obtain ⟨a10, c10, rfl, -, -⟩ := hi.1.slice
      have HU10 := Lib.hid (HU9.out.two hu)
      rw [show (usesP .nil).length = 0 from rfl]
      clear hi hu
      go_wp2_with fail
      refine (ir_Next (n := .nil) rfl 1 (by omega) (by omega)).mono ?_
      rintro e w11 ⟨v11, rfl, hi, hu⟩
      obtain ⟨a11, c11, rfl, -, -⟩ := hi.1.slice
      have HU11 := Lib.hid (HU10.out.two hu)
      rw [show (nextP 1 .nil).length = 0 from rfl]
      clear hi hu
      go_wp2_with fail
      refine (ir_Pure (n := .nil) rfl).mono ?_
      rintro e w12 ⟨rfl, rfl⟩
      rw [show pureP .nil = false from rfl]
      go_wp2_with fail
      refine (irCheck _ _ ⟨0, 0, []⟩ ⟨_, rfl, nds_nil _, show wi64 0 by unfold wi64; omega, show wi64 0 by unfold wi64; omega⟩).mono ?_
      rintro e w12 ⟨rfl, hu⟩
      rw [show checkP ⟨0, 0, []⟩ = false by decide +kernel]
      have HU12 := Lib.hid (HU11.out.two hu)
      clear hu
      go_wp2_with fail
      obtain ⟨W13, hW13⟩ : ∃ W, w12.alloc (.cells #[.iface 50 (.agg #[.int .i64 (-1)])] 52) = W := ⟨_, rfl⟩
      have hu13 : Upd (fun _ => False) w12 W13 := by rw [← hW13]; exact Upd.alloc _ _ _
      have hn13 : Nds W13 (.slice (some ⟨w12.heap.size, 0, none⟩) 1 1) [.ret (-1)] := by
        rw [← hW13]
        refine nds_lit w12 _ _ [.ret (-1)] _ 1 rfl rfl rfl (by omega) fun i hi u => ?_
        obtain rfl : i = 0 := by omega
        exact ⟨rfl, by unfold wi64; omega⟩
      rw [hW13]
      refine (irCheck _ _ ⟨0, 0, [.ret (-1)]⟩ ⟨_, rfl, hn13, show wi64 0 by unfold wi64; omega, show wi64 0 by unfold wi64; omega⟩).mono ?_
      rintro e w14 ⟨rfl, hu⟩
      rw [show checkP ⟨0, 0, [.ret (-1)]⟩ = true by decide +kernel]
      have HU14 := Lib.hid ((HU12.out.two hu13).two hu)
      clear hu hn13 hu13 hW13
      go_wp2_with fail
      obtain ⟨W15, hW15⟩ : ∃ W, w14.alloc (.cells #[.nilIface] 52) = W := ⟨_, rfl⟩
      have hu15 : Upd (fun _ => False) w14 W15 := by rw [← hW15]; exact Upd.alloc _ _ _
      have hn15 : Nds W15 (.slice (some ⟨w14.heap.size, 0, none⟩) 1 1) [.nil] := by
        rw [← hW15]
        refine nds_lit w14 _ _ [.nil] _ 1 rfl rfl rfl (by omega) fun i hi u => ?_
        obtain rfl : i = 0 := by omega
        exact rfl
      rw [hW15]
      refine (irCheck _ _ ⟨0, 0, [.nil]⟩ ⟨_, rfl, hn15, show wi64 0 by unfold wi64; omega, show wi64 0 by unfold wi64; omega⟩).mono ?_
      rintro e w16 ⟨rfl, hu⟩
      rw [show checkP ⟨0, 0, [.nil]⟩ = false by decide +kernel]
      have HU16 := Lib.hid ((HU14.out.two hu15).two hu)
      clear hu hn15 hu15 hW15
      go_wp2_with fail
      go_ret
      exact ⟨rfl, HU16.out⟩
theorem irKnown_below (w : World) : Calls Try.prog 3 #[] w fun e w' => e = .returned (.bool true) ∧ Below w.heap.size w w' := (irKnown_walk w).mono fun _ _ h => ⟨h.1, h.2.below (Nat.le_refl _) (fun _ h => h.elim)⟩
end Go.Proofs.Ytkleofpiikbpmaa

/- Package text: the law's known (made by mktu.py). -/
import Derived.Test.YtbjmmdomdijilabDoorTt
import Derived.Laws.StructEq
namespace Go.Proofs.YtbjmmdomdijilabDoor
open Go.RowKit Go.Shelf Go.Lib
set_option linter.unusedVariables false
set_option linter.unusedSimpArgs false

def kn5I : ImgM := ⟨bs [97], [], [], [⟨[], 0, [], [⟨1, -5, 0⟩, ⟨4, 0, 0⟩, ⟨39, 0, 0⟩]⟩], []⟩
def kb5I : ImgM := ⟨bs [98, 195, 169, 116, 97], [2], [⟨bs [97], 1, [1, 4], 0⟩], [⟨[], 0, [3], [⟨39, 0, 0⟩]⟩], [0]⟩
def kn5 : By := [97, 112, 112, 108, 101, 116, 32, 97, 10, 109, 101, 116, 104, 111, 100, 32, 110, 111, 110, 101, 10, 32, 112, 117, 115, 104, 32, 45, 53, 32, 35, 32, 102, 105, 118, 101, 10, 32, 112, 111, 112, 10, 114, 101, 116, 10]
set_option maxRecDepth 100000 in
theorem kn5_parse : parseT kn5 = (kn5I, 0, 0) := by kernel_rfl
theorem kn5_bs : bs kn5 = { data := #[97, 112, 112, 108, 101, 116, 32, 97, 10, 109, 101, 116, 104, 111, 100, 32, 110, 111, 110, 101, 10, 32, 112, 117, 115, 104, 32, 45, 53, 32, 35, 32, 102, 105, 118, 101, 10, 32, 112, 111, 112, 10, 114, 101, 116, 10] } := rfl
theorem kn5_call (w : World) : Calls Tryd.prog 7 #[.string { data := #[97, 112, 112, 108, 101, 116, 32, 97, 10, 109, 101, 116, 104, 111, 100, 32, 110, 111, 110, 101, 10, 32, 112, 117, 115, 104, 32, 45, 53, 32, 35, 32, 102, 105, 118, 101, 10, 32, 112, 111, 112, 10, 114, 101, 116, 10] }] w fun e w' => ∃ v, e = .returned (.tuple #[v, .int .i64 0, .int .i64 0]) ∧ Img w' v kn5I ∧ Upd (fun _ => False) w w' := by
  have h := tParse kn5 w (by decide)
  rw [kn5_parse, kn5_bs] at h
  exact h
def kb5 : By := [97, 112, 112, 108, 101, 116, 32, 98, 195, 169, 116, 97, 10, 102, 105, 101, 108, 100, 32, 115, 101, 99, 10, 105, 109, 112, 111, 114, 116, 32, 97, 32, 49, 32, 110, 111, 110, 101, 32, 112, 117, 98, 32, 115, 101, 99, 97, 10, 109, 101, 116, 104, 111, 100, 32, 110, 111, 110, 101, 10, 108, 111, 99, 97, 108, 115, 32, 112, 117, 98, 97, 10, 114, 101, 116, 10, 101, 120, 112, 111, 114, 116, 32, 48]
set_option maxRecDepth 100000 in
theorem kb5_parse : parseT kb5 = (kb5I, 0, 0) := by kernel_rfl
theorem kb5_bs : bs kb5 = { data := #[97, 112, 112, 108, 101, 116, 32, 98, 195, 169, 116, 97, 10, 102, 105, 101, 108, 100, 32, 115, 101, 99, 10, 105, 109, 112, 111, 114, 116, 32, 97, 32, 49, 32, 110, 111, 110, 101, 32, 112, 117, 98, 32, 115, 101, 99, 97, 10, 109, 101, 116, 104, 111, 100, 32, 110, 111, 110, 101, 10, 108, 111, 99, 97, 108, 115, 32, 112, 117, 98, 97, 10, 114, 101, 116, 10, 101, 120, 112, 111, 114, 116, 32, 48] } := rfl
theorem kb5_call (w : World) : Calls Tryd.prog 7 #[.string { data := #[97, 112, 112, 108, 101, 116, 32, 98, 195, 169, 116, 97, 10, 102, 105, 101, 108, 100, 32, 115, 101, 99, 10, 105, 109, 112, 111, 114, 116, 32, 97, 32, 49, 32, 110, 111, 110, 101, 32, 112, 117, 98, 32, 115, 101, 99, 97, 10, 109, 101, 116, 104, 111, 100, 32, 110, 111, 110, 101, 10, 108, 111, 99, 97, 108, 115, 32, 112, 117, 98, 97, 10, 114, 101, 116, 10, 101, 120, 112, 111, 114, 116, 32, 48] }] w fun e w' => ∃ v, e = .returned (.tuple #[v, .int .i64 0, .int .i64 0]) ∧ Img w' v kb5I ∧ Upd (fun _ => False) w w' := by
  have h := tParse kb5 w (by decide)
  rw [kb5_parse, kb5_bs] at h
  exact h
def kf5 : By := [97, 112, 112, 108, 101, 116, 32, 97, 10, 102, 105, 101, 108, 100, 32, 110, 111, 110, 101, 10]
set_option maxRecDepth 100000 in
theorem kf5_parse : parseT kf5 = (zImg, 2, 5) := by kernel_rfl
theorem kf5_bs : bs kf5 = { data := #[97, 112, 112, 108, 101, 116, 32, 97, 10, 102, 105, 101, 108, 100, 32, 110, 111, 110, 101, 10] } := rfl
theorem kf5_call (w : World) : Calls Tryd.prog 7 #[.string { data := #[97, 112, 112, 108, 101, 116, 32, 97, 10, 102, 105, 101, 108, 100, 32, 110, 111, 110, 101, 10] }] w fun e w' => ∃ v, e = .returned (.tuple #[v, .int .i64 2, .int .i64 5]) ∧ Img w' v zImg ∧ Upd (fun _ => False) w w' := by
  have h := tParse kf5 w (by decide)
  rw [kf5_parse, kf5_bs] at h
  exact h
def kr5 : By := [97, 112, 112, 108, 101, 116, 32, 97, 10, 109, 101, 116, 104, 111, 100, 32, 110, 111, 110, 101, 10, 114, 101, 116, 32, 49, 10]
set_option maxRecDepth 100000 in
theorem kr5_parse : parseT kr5 = (zImg, 3, 5) := by kernel_rfl
theorem kr5_bs : bs kr5 = { data := #[97, 112, 112, 108, 101, 116, 32, 97, 10, 109, 101, 116, 104, 111, 100, 32, 110, 111, 110, 101, 10, 114, 101, 116, 32, 49, 10] } := rfl
theorem kr5_call (w : World) : Calls Tryd.prog 7 #[.string { data := #[97, 112, 112, 108, 101, 116, 32, 97, 10, 109, 101, 116, 104, 111, 100, 32, 110, 111, 110, 101, 10, 114, 101, 116, 32, 49, 10] }] w fun e w' => ∃ v, e = .returned (.tuple #[v, .int .i64 3, .int .i64 5]) ∧ Img w' v zImg ∧ Upd (fun _ => False) w w' := by
  have h := tParse kr5 w (by decide)
  rw [kr5_parse, kr5_bs] at h
  exact h
def ka5 : By := [97, 112, 112, 108, 101, 116, 32, 97, 10]
set_option maxRecDepth 100000 in
theorem ka5_parse : parseT ka5 = (zImg, 2, 5) := by kernel_rfl
theorem ka5_bs : bs ka5 = { data := #[97, 112, 112, 108, 101, 116, 32, 97, 10] } := rfl
theorem ka5_call (w : World) : Calls Tryd.prog 7 #[.string { data := #[97, 112, 112, 108, 101, 116, 32, 97, 10] }] w fun e w' => ∃ v, e = .returned (.tuple #[v, .int .i64 2, .int .i64 5]) ∧ Img w' v zImg ∧ Upd (fun _ => False) w w' := by
  have h := tParse ka5 w (by decide)
  rw [ka5_parse, ka5_bs] at h
  exact h
def ke5 : By := []
set_option maxRecDepth 100000 in
theorem ke5_parse : parseT ke5 = (zImg, 1, 5) := by kernel_rfl
theorem ke5_bs : bs ke5 = { data := #[] } := rfl
theorem ke5_call (w : World) : Calls Tryd.prog 7 #[.string { data := #[] }] w fun e w' => ∃ v, e = .returned (.tuple #[v, .int .i64 1, .int .i64 5]) ∧ Img w' v zImg ∧ Upd (fun _ => False) w w' := by
  have h := tParse ke5 w (by decide)
  rw [ke5_parse, ke5_bs] at h
  exact h
theorem in_under : Tryd.prog.underlying 64 = some (.struct (Tryd.prog.fieldsOf 64)) := by kernel_rfl
theorem in_held : Tryd.prog.stoodInHeld 64 = false := by kernel_rfl
theorem in5 (w : World) : (binOp .eql 64 (.agg #[.int .i64 1, .int .i64 (-5), .int .i64 0]) (.agg #[.int .i64 1, .int .i64 (-5), .int .i64 0])).run Tryd.prog w = .ok (.bool true) w := by
  rw [run_eql_struct, Go.run_equalIn_agg w 9999 _ _ _ in_under in_held]
  simp [Program.fieldsOf, Tryd.underlying64, Op.eqFields, go_sem, Tryd.underlying3]
set_option maxRecDepth 100000 in
set_option maxHeartbeats 1000000 in
theorem known5 (w : World) : Calls Tryd.prog 8 #[] w fun e w' => e = .returned (.bool true) ∧ Upd (fun _ => False) w w' := by
  go_enter Tryd.func8, Tryd.ntmps8
  go_wp2_with fail
  refine (kn5_call w).mono ?_
  rintro e w1 ⟨v, rfl, ⟨f, i, m, y, hr, hf, hi, hm, hy, hsz⟩, hu⟩
  replace hr : v = img5 { data := #[97] } f i m y := hr
  subst hr
  obtain ⟨ga, gc, rfl⟩ : ∃ a c, f = .slice a 0 c := by obtain ⟨a, c, h, _⟩ := hf.slice; exact ⟨a, c, h⟩
  obtain ⟨ja, jc, rfl⟩ : ∃ a c, i = .slice a 0 c := by obtain ⟨a, c, h, _⟩ := hi.slice; exact ⟨a, c, h⟩
  obtain ⟨ya, yc, rfl⟩ : ∃ a c, y = .slice a 0 c := by obtain ⟨a, c, h, _⟩ := hy.slice; exact ⟨a, c, h⟩
  obtain ⟨p, q, r, hs, hme, -⟩ := hm
  replace hs : Sl w1 m 4 1 (metF kn5I.methods p q r) := hs
  obtain ⟨ma, mc, rfl, -, -, hms⟩ := hs
  obtain ⟨g, off, rfl, hmc⟩ := hms.resolve_left (by omega)
  have hcs : Sl w1 (r 0) 3 3 (insF [⟨1, -5, 0⟩, ⟨4, 0, 0⟩, ⟨39, 0, 0⟩]) := (hme 0 (by simp [kn5I])).2.2.1
  obtain ⟨ca, cc, hcr, -, -, hcs⟩ := hcs
  obtain ⟨cg, co, rfl, hcc⟩ := hcs.resolve_left (by omega)
  have c3 : w1.cell? ⟨g, off + 3, none⟩ = some (.slice (some ⟨cg, co, none⟩) 3 cc) := (hmc 0 (by omega) 3 (by omega)).trans (congrArg some hcr)
  have i0 : w1.cell? ⟨cg, co, none⟩ = some (.int .i64 1) := hcc 0 (by omega) 0 (by omega)
  have i1 : w1.cell? ⟨cg, co + 1, none⟩ = some (.int .i64 (-5)) := hcc 0 (by omega) 1 (by omega)
  have i2 : w1.cell? ⟨cg, co + 2, none⟩ = some (.int .i64 0) := hcc 0 (by omega) 2 (by omega)
  have hg := World.block_lt_of_cell? w1 _ c3
  have hc := World.block_lt_of_cell? w1 _ i0
  simp only at hg hc
  have HU := Lib.hid (hu.trans (Upd.alloc (fun _ => False) w1 (.cells #[.string { data := #[97] }, .slice ga 0 gc, .slice ja 0 jc, .slice (some ⟨g, off, none⟩) 1 mc, .slice ya 0 yc] IMG)) (fun _ h _ => h))
  have he := in5
  clear hf hi hy hme hms hmc hcr hcs hcc hsz hu
  go_wp2_with fail
  go_ret
  exact ⟨rfl, HU.out⟩
end Go.Proofs.YtbjmmdomdijilabDoor

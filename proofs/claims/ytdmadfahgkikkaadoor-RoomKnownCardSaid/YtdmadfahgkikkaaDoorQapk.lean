/- The hand's applet of no statements: an image that may be added. -/
import Derived.Test.YtdmadfahgkikkaaDoorMu
import Derived.Test.YtdmadfahgkikkaaDoorQAk
namespace Go.Proofs.YtdmadfahgkikkaaDoor
open Go.RowKit Go.Lib
set_option linter.unusedVariables false

theorem bins_up {W w : World} (h : Bins ⟨W, fun _ => False⟩) (hu : Upd (fun _ => False) W w) : Bins ⟨w, fun _ => False⟩ :=
  ⟨fun h => h, fun k hk => (hu.cell (p := ⟨0, k, none⟩) (World.block_lt_of_cell? W _ (h.2 k hk)) (fun h => h)).trans (h.2 k hk)⟩
theorem hAppletN (w : World) (k : Int) (hB : Bins ⟨w, fun _ => False⟩) :
    Calls Tryd.prog 10 #[.int .i64 k, .slice none 0 0] w fun e w' => ∃ v I, e = .returned v ∧ Img w' v I ∧ ImgS I ∧ I.fields.length = 4 ∧ Upd (fun _ => False) w w' := by
  refine (hAppletX w k _ [] (.inl ⟨⟨none, 0, rfl⟩, rfl⟩) (by simp) hB).mono ?_
  rintro e w' ⟨s, s1, s2, c0, c1, c2, C0, C1, C2, rfl, hA, ⟨g0, g1, g2⟩, -, -⟩
  refine ⟨_, _, rfl, hA.img, ⟨by simp, by simp [appImps], by simp [appMets], by simp, fun x hx => ?_, fun x hx => ?_⟩, rfl, hA.up⟩
  · simp [appImps] at hx
    rcases hx with rfl | rfl <;> simp
  · simp [appMets] at hx
    rcases hx with rfl | rfl | rfl
    · exact ⟨by simp, by simp, g0.2⟩
    · exact ⟨by simp, by simp, g1.2⟩
    · exact ⟨by simp, by simp, g2.2⟩
end Go.Proofs.YtdmadfahgkikkaaDoor

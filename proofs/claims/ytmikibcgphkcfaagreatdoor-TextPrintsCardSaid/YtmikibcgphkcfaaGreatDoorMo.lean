/- The hand's maker: a statement, all ways. -/
import Derived.Test.YtmikibcgphkcfaaGreatDoorMoa
import Derived.Test.YtmikibcgphkcfaaGreatDoorMob
import Derived.Test.YtmikibcgphkcfaaGreatDoorMoc
import Derived.Test.YtmikibcgphkcfaaGreatDoorMod
import Derived.Test.YtmikibcgphkcfaaGreatDoorMoe
namespace Go.Proofs.YtmikibcgphkcfaaGreatDoor
open Go.RowKit Go.Lib
set_option linter.unusedVariables false

theorem mStmt (W0 : Gnd) (w0 : World) (b : Nat) (d : Int) (c : Nat) (o a' b' c' : Int) (sv mv iv : Value) (h0 : Mk 62 W0 w0 b d c) (hB0 : Bins W0) (d0 : 0 ≤ d) (d9 : d ≤ 900) (hc : c ≤ 400000000) {Ss : List Int} (hsv : ∀ w', Upd W0.S W0.w0 w' → Ints w' sv Ss) (hss : Ss.length ≤ 1000) {Is : List ImpM} (hiv : ∀ w', Upd W0.S W0.w0 w' → Imps w' iv Is) (his : Is.length ≤ 1000) (hip : ∀ i ∈ Is, i.params.length ≤ 3) {Ms : List MetM} (hmv : ∀ w', Upd W0.S W0.w0 w' → Mets w' mv Ms) (hms : 0 < Ms.length ∧ Ms.length ≤ 1000) (hmp : ∀ m ∈ Ms, m.params.length ≤ 3) (wo : wi64 o) (wa : wi64 a') (wb : wi64 b') :
    Calls Tryz.prog 26 #[.pointer (some ⟨b, 0, none⟩), raw4 o a' b' c', sv, mv, iv] w0 fun e w' => e = .returned (.tuple #[]) ∧ Mk 62 W0 w' b d (c + 500000) := by
  have hr0 := Int.emod_nonneg o (b := 16) (by omega)
  have hr1 := Int.emod_lt_of_pos o (b := 16) (by omega)
  have h : (o % 16 = 0 ∨ o % 16 = 1 ∨ o % 16 = 2 ∨ o % 16 = 3 ∨ o % 16 = 4) ∨ (o % 16 = 5 ∨ o % 16 = 6 ∨ o % 16 = 7 ∨ o % 16 = 8 ∨ o % 16 = 13 ∨ o % 16 = 14 ∨ o % 16 = 15) ∨ (o % 16 = 9) ∨ (o % 16 = 10) ∨ (o % 16 = 11 ∨ o % 16 = 12) := by omega
  rcases h with h | h | h | h | h
  · exact mStmta W0 w0 b d c o a' b' c' sv mv iv h0 hB0 d0 d9 hc hsv hss hiv his hip hmv hms hmp wo wa wb h
  · exact mStmtb W0 w0 b d c o a' b' c' sv mv iv h0 hB0 d0 d9 hc hsv hss hiv his hip hmv hms hmp wo wa wb h
  · exact mStmtc W0 w0 b d c o a' b' c' sv mv iv h0 hB0 d0 d9 hc hsv hss hiv his hip hmv hms hmp wo wa wb h
  · exact mStmtd W0 w0 b d c o a' b' c' sv mv iv h0 hB0 d0 d9 hc hsv hss hiv his hip hmv hms hmp wo wa wb h
  · exact mStmte W0 w0 b d c o a' b' c' sv mv iv h0 hB0 d0 d9 hc hsv hss hiv his hip hmv hms hmp wo wa wb h
end Go.Proofs.YtmikibcgphkcfaaGreatDoor

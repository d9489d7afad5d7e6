/- The reference's Decode of one halfword. -/
import Derived.Test.YtkdmppgjmmmclaaZS
import Derived.Test.YtkdmppgjmmmclaaZT
import Derived.Test.YtkdmppgjmmmclaaZU
namespace Go.Proofs.Ytkdmppgjmmmclaa
open Go.RowKit
set_option linter.unusedVariables false
set_option linter.unusedSimpArgs false

theorem qDecode1 (x : Nat) (hx : x < 65536) (hf : ¬ x / 2048 = 30) (a : Option Addr) (g off len c : Nat) (t : List Nat) (hl : t.length + 1 = len) (hc1 : len ≤ c) (hc2 : c ≤ maxLen) (w : World) (c0 : w.cell? ⟨g, off, none⟩ = some (.int .u16 (x : Int))) : Calls Try.prog 19 #[.slice (some ⟨g, off, none⟩) len c] w fun e w' => e = .returned (refV x) ∧ New w w' := by
  by_cases p0 : x < 6144
  · by_cases q0 : x < 2048
    · exact qD0a x hx hf q0 a g off len c t hl hc1 hc2 w c0
    · by_cases q1 : x / 64 % 32 = 0
      · exact qD0b x hx hf q0 p0 q1 a g off len c t hl hc1 hc2 w c0
      · exact qD0c x hx hf q0 p0 q1 a g off len c t hl hc1 hc2 w c0
  by_cases p1 : x < 7168
  · exact qD1 x hx hf p0 p1 a g off len c t hl hc1 hc2 w c0
  by_cases p2 : x < 8192
  · exact qD2 x hx hf p0 p1 p2 a g off len c t hl hc1 hc2 w c0
  by_cases p3 : x < 16384
  · exact qD3 x hx hf p0 p1 p2 p3 a g off len c t hl hc1 hc2 w c0
  by_cases p4 : x < 17408
  · exact qD4 x hx hf p0 p1 p2 p3 p4 a g off len c t hl hc1 hc2 w c0
  by_cases p5 : x / 256 = 70
  · exact qD5 x hx hf p0 p1 p2 p3 p4 p5 a g off len c t hl hc1 hc2 w c0
  by_cases p6 : x / 512 = 40
  · exact qD6 x hx hf p0 p1 p2 p3 p4 p5 p6 a g off len c t hl hc1 hc2 w c0
  by_cases p7 : x / 512 = 44
  · exact qD7 x hx hf p0 p1 p2 p3 p4 p5 p6 p7 a g off len c t hl hc1 hc2 w c0
  by_cases p8 : x / 2048 = 12
  · exact qD8 x hx hf p0 p1 p2 p3 p4 p5 p6 p7 p8 a g off len c t hl hc1 hc2 w c0
  by_cases p9 : x / 2048 = 13
  · exact qD9 x hx hf p0 p1 p2 p3 p4 p5 p6 p7 p8 p9 a g off len c t hl hc1 hc2 w c0
  by_cases p10 : x / 2048 = 14
  · exact qD10 x hx hf p0 p1 p2 p3 p4 p5 p6 p7 p8 p9 p10 a g off len c t hl hc1 hc2 w c0
  by_cases p11 : x / 2048 = 15
  · exact qD11 x hx hf p0 p1 p2 p3 p4 p5 p6 p7 p8 p9 p10 p11 a g off len c t hl hc1 hc2 w c0
  by_cases p12 : x / 2048 = 18
  · exact qD12 x hx hf p0 p1 p2 p3 p4 p5 p6 p7 p8 p9 p10 p11 p12 a g off len c t hl hc1 hc2 w c0
  by_cases p13 : x / 2048 = 19
  · exact qD13 x hx hf p0 p1 p2 p3 p4 p5 p6 p7 p8 p9 p10 p11 p12 p13 a g off len c t hl hc1 hc2 w c0
  by_cases p14 : x / 128 = 352
  · exact qD14 x hx hf p0 p1 p2 p3 p4 p5 p6 p7 p8 p9 p10 p11 p12 p13 p14 a g off len c t hl hc1 hc2 w c0
  by_cases p15 : x / 128 = 353
  · exact qD15 x hx hf p0 p1 p2 p3 p4 p5 p6 p7 p8 p9 p10 p11 p12 p13 p14 p15 a g off len c t hl hc1 hc2 w c0
  by_cases p16 : x / 512 = 90
  · exact qD16 x hx hf p0 p1 p2 p3 p4 p5 p6 p7 p8 p9 p10 p11 p12 p13 p14 p15 p16 a g off len c t hl hc1 hc2 w c0
  by_cases p17 : x / 512 = 94
  · exact qD17 x hx hf p0 p1 p2 p3 p4 p5 p6 p7 p8 p9 p10 p11 p12 p13 p14 p15 p16 p17 a g off len c t hl hc1 hc2 w c0
  by_cases p18 : x = 48896
  · exact qD18 x hx hf p0 p1 p2 p3 p4 p5 p6 p7 p8 p9 p10 p11 p12 p13 p14 p15 p16 p17 p18 a g off len c t hl hc1 hc2 w c0
  by_cases p19 : x / 4096 = 13 ∧ x / 256 % 16 < 14
  · exact qD19 x hx hf p0 p1 p2 p3 p4 p5 p6 p7 p8 p9 p10 p11 p12 p13 p14 p15 p16 p17 p18 p19 a g off len c t hl hc1 hc2 w c0
  by_cases p20 : x / 256 = 223
  · exact qD20 x hx hf p0 p1 p2 p3 p4 p5 p6 p7 p8 p9 p10 p11 p12 p13 p14 p15 p16 p17 p18 p19 p20 a g off len c t hl hc1 hc2 w c0
  by_cases p21 : x / 2048 = 28
  · exact qD21 x hx hf p0 p1 p2 p3 p4 p5 p6 p7 p8 p9 p10 p11 p12 p13 p14 p15 p16 p17 p18 p19 p20 p21 a g off len c t hl hc1 hc2 w c0
  by_cases q : x / 4096 = 13
  · exact qDnoB x hx hf p0 p1 p2 p3 p4 p5 p6 p7 p8 p9 p10 p11 p12 p13 p14 p15 p16 p17 p18 p19 p20 p21 q a g off len c t hl hc1 hc2 w c0
  · exact qDnoA x hx hf p0 p1 p2 p3 p4 p5 p6 p7 p8 p9 p10 p11 p12 p13 p14 p15 p16 p17 p18 p19 p20 p21 q a g off len c t hl hc1 hc2 w c0
end Go.Proofs.Ytkdmppgjmmmclaa

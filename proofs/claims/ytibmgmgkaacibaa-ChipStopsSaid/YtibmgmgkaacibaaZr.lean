/- All halfwords, one by one: what a row takes is what the reference tells, and is laid as the same. No program is named here. -/
import Derived.Test.YtibmgmgkaacibaaZp
namespace Go.Proofs.Ytibmgmgkaacibaa
set_option maxRecDepth 10000 in
theorem all_8 : allB (fun hi => okHi (Nat.add hi 128)) 16 = true := by decide +kernel
set_option maxRecDepth 10000 in
theorem all_9 : allB (fun hi => okHi (Nat.add hi 144)) 16 = true := by decide +kernel
set_option maxRecDepth 10000 in
theorem all_10 : allB (fun hi => okHi (Nat.add hi 160)) 16 = true := by decide +kernel
set_option maxRecDepth 10000 in
theorem all_11 : allB (fun hi => okHi (Nat.add hi 176)) 16 = true := by decide +kernel
set_option maxRecDepth 10000 in
theorem all_12 : allB (fun hi => okHi (Nat.add hi 192)) 16 = true := by decide +kernel
set_option maxRecDepth 10000 in
theorem all_13 : allB (fun hi => okHi (Nat.add hi 208)) 16 = true := by decide +kernel
set_option maxRecDepth 10000 in
theorem all_14 : allB (fun hi => okHi (Nat.add hi 224)) 16 = true := by decide +kernel
set_option maxRecDepth 10000 in
theorem all_15 : allB (fun hi => okHi (Nat.add hi 240)) 16 = true := by decide +kernel
end Go.Proofs.Ytibmgmgkaacibaa

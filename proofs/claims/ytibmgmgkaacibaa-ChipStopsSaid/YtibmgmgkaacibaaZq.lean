/- All halfwords, one by one: what a row takes is what the reference tells, and is laid as the same. No program is named here. -/
import Derived.Test.YtibmgmgkaacibaaZp
namespace Go.Proofs.Ytibmgmgkaacibaa
set_option maxRecDepth 10000 in
theorem all_0 : allB (fun hi => okHi (Nat.add hi 0)) 16 = true := by decide +kernel
set_option maxRecDepth 10000 in
theorem all_1 : allB (fun hi => okHi (Nat.add hi 16)) 16 = true := by decide +kernel
set_option maxRecDepth 10000 in
theorem all_2 : allB (fun hi => okHi (Nat.add hi 32)) 16 = true := by decide +kernel
set_option maxRecDepth 10000 in
theorem all_3 : allB (fun hi => okHi (Nat.add hi 48)) 16 = true := by decide +kernel
set_option maxRecDepth 10000 in
theorem all_4 : allB (fun hi => okHi (Nat.add hi 64)) 16 = true := by decide +kernel
set_option maxRecDepth 10000 in
theorem all_5 : allB (fun hi => okHi (Nat.add hi 80)) 16 = true := by decide +kernel
set_option maxRecDepth 10000 in
theorem all_6 : allB (fun hi => okHi (Nat.add hi 96)) 16 = true := by decide +kernel
set_option maxRecDepth 10000 in
theorem all_7 : allB (fun hi => okHi (Nat.add hi 112)) 16 = true := by decide +kernel
end Go.Proofs.Ytibmgmgkaacibaa

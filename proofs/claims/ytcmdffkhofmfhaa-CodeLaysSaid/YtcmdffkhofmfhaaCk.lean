/- Chapter 3's example, as each law asks it first. -/
import Derived.Test.YtcmdffkhofmfhaaCr
import Derived.Test.YtcmdffkhofmfhaaCl
import Derived.Outline
namespace Go.Proofs.Ytcmdffkhofmfhaa
open Go.RowKit
set_option linter.unusedVariables false

theorem str3 {w : World} {v : Value} {ys : List Int} (h : Vw w v ys) : (convert 35 9 v).run Try.prog w = .ok (.string (strOfNums ys)) w :=
  run_str Try.underlying35 Try.underlying5 Try.underlying9 h

theorem ex_str : strOfNums [1, 255, 255, 255, 255] = { data := #[1, 255, 255, 255, 255] } := by kernel_rfl
theorem ex_bytes : layB 1 (-1) 0 = [1, 255, 255, 255, 255] := by decide
theorem ex_right : rightB 1 (-1) 0 = true := by decide
theorem ex_err : errI false [1, 255, 255, 255, 255] = 0 := by decide
theorem ex_op : opI false [1, 255, 255, 255, 255] = 1 := by decide
theorem ex_rest : restI false [1, 255, 255, 255, 255] = (-1, 0, false, []) := by decide

set_option maxHeartbeats 2000000 in
theorem known3 (w : World) : Calls Try.prog 15 #[] w fun e w' => e = .returned (.bool true) ∧ Upd (fun _ => False) w w' := by
  go_enter Try.func15, Try.ntmps15
  go_wp2_with fail
  refine (newWriter _).mono ?_
  rintro e w1 ⟨rfl, hw1, hu1⟩
  have HW1 := Lib.hid hw1
  have HU1 := Lib.hid hu1
  clear hw1 hu1
  go_wp2_with fail
  refine (cLay 1 (-1) 0 _ _ _ [] HW1.out (by simp) ex_right).mono ?_
  rw [ex_bytes, List.nil_append]
  rintro e w2 ⟨rfl, v2, k1, k2, k3⟩
  have K1 := Lib.hid k1
  have HU2 := Lib.hid (HU1.out.trans k2 (fun i hi hlt => by
    rcases hi with rfl | h
    · omega
    · simp [Value.ownBlock] at h))
  clear k1 k2 k3
  go_wp2_with fail
  refine (bytesOf _ _ _ _ K1.out (by simp)).mono ?_
  rintro e w3 ⟨v3, rfl, hN⟩
  obtain ⟨a3, c3, rfl⟩ := ownsRow_slice hN.1
  have hs3 := str3 (hN.vw K1.out.byte)
  have K3 := Lib.hid (K1.out.upd hN.2.1 (fun _ _ h => h))
  have HU3 := Lib.hid (HU2.out.trans hN.2.1 (fun _ h _ => h))
  rw [ex_str] at hs3
  simp only [List.length_cons, List.length_nil, Nat.reduceAdd] at hs3
  clear hN
  go_wp2_with fail
  clear hs3
  refine (bytesOf _ _ _ _ K3.out (by simp)).mono ?_
  rintro e w4 ⟨v4, rfl, hN⟩
  have HV4 := Lib.hid (hN.vw K3.out.byte)
  have HU4 := Lib.hid (HU3.out.trans hN.2.1 (fun _ h _ => h))
  clear hN
  go_wp2_with fail
  refine (newReader _ _ _ HV4.out (by simp)).mono ?_
  rintro e w5 ⟨b5, v5, rfl, h1, h2, h3⟩
  have HR5 := Lib.hid h1
  have HU5 := Lib.hid (HU4.out.trans h2 (fun _ h _ => h))
  have HF5 := Lib.hid h3
  clear h1 h2 h3
  go_wp2_with fail
  refine (cRead _ b5 v5 false _ HR5.out).mono ?_
  rw [ex_err, ex_op, ex_rest]
  rintro e w6 (⟨h0, _⟩ | ⟨_, rfl, v6, h1, h2, h3⟩)
  · exact absurd rfl h0
  have HU6 := Lib.hid (HU5.out.trans h2 (fun i hi hlt => by have := HF5.out b5 (.inl rfl); have := HU4.out.size; omega))
  clear h1 h2 h3
  go_wp2_with fail
  go_ret
  exact ⟨rfl, HU6.out.trans (Upd.alloc _ _ _) (fun _ h _ => h)⟩
theorem cRead_no (w : World) (b : Nat) (v : Value) (lk : Bool) (ys : List Int) (h : Rd 67 w b v lk ys) (E : Int) (hE : errI lk ys = E) (h0 : E ≠ 0) :
    Calls Try.prog 16 #[.pointer (some ⟨b, 0, none⟩)] w fun e w' => e = .returned (.tuple #[ins 0 0 0, .int .i64 E]) ∧ Upd (fun _ => False) w w' :=
  (cRead w b v lk ys h).mono fun e w' k => by
    rcases k with ⟨_, k1, k2⟩ | ⟨k0, _⟩
    · exact ⟨by rw [k1, hE], k2⟩
    · exact absurd (hE.symm.trans k0) h0
theorem cRead_ok (w : World) (b : Nat) (v : Value) (lk : Bool) (ys : List Int) (h : Rd 67 w b v lk ys) (hE : errI lk ys = 0) :
    Calls Try.prog 16 #[.pointer (some ⟨b, 0, none⟩)] w fun e w' => e = .returned (.tuple #[ins (opI lk ys) (restI lk ys).1 (restI lk ys).2.1, .int .i64 0]) ∧ ∃ v', Rd 67 w' b v' false (restI lk ys).2.2.2 ∧ Upd (fun k => k = b) w w' ∧ (∀ k, v'.ownBlock = some k → v.ownBlock = some k) :=
  (cRead w b v lk ys h).mono fun e w' k => by
    rcases k with ⟨k0, _⟩ | ⟨_, k⟩
    · exact absurd hE k0
    · exact k
end Go.Proofs.Ytcmdffkhofmfhaa

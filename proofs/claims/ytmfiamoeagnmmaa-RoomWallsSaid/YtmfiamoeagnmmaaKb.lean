/- Package leak: Add, At, All. -/
import Derived.Test.YtmfiamoeagnmmaaKa
namespace Go.Proofs.Ytmfiamoeagnmmaa
open Go.RowKit Go.Lib Go.ChangeShapes Go.WideShapes Go.Deep
set_option linter.unusedVariables false
set_option linter.unusedSimpArgs false

theorem eS {S : Nat → Prop} {w w' : World} {p : Addr} {u : Value} (h : Upd S w w') (hp : S p.block) : Upd S w (w'.setCell p u) := h.trans (Upd.setCell (S := S) w' (.inl hp) u) (fun _ h _ => h)
theorem four {w : World} {g : Nat} {v0 v1 v2 v3 : Value} {t : TypeId} (h : w.heap[g]? = some (.cells #[v0, v1, v2, v3] t (0, 0))) :
    w.cell? ⟨g, 0, none⟩ = some v0 ∧ w.cell? ⟨g, 1, none⟩ = some v1 ∧ w.cell? ⟨g, 2, none⟩ = some v2 ∧ w.cell? ⟨g, 3, none⟩ = some v3 ∧ ∀ q, w.frozen? ⟨g, q, none⟩ = false := by
  refine ⟨?_, ?_, ?_, ?_, fun q => by simp [World.frozen?, h]⟩ <;> simp [World.cell?, h]
theorem src4 (w : World) (e : TypeId) (x y z t : Value) (h1 : ∀ u ∈ [x, y, z, t], u.oneCell' = true) (n c : Nat) (hn : 1 = n) :
    Src (w.alloc (.cells #[x, y, z, t] e)) 4 (.slice (some ⟨w.heap.size, 0, none⟩) n c) n [x, y, z, t] := by
  subst hn
  refine .inr ⟨_, _, rfl, rfl, fun j u hj => ?_, h1⟩
  rw [addr_add]
  show (match (w.heap.push _)[w.heap.size]? with | some (.cells c _ _) => _ | _ => _) = _
  simpa using hj
section
variable {F G : Nat → Prop} {w w' : World} {b : Nat} {ev : Value} {L : List EvM}
theorem Trc.len (h : Trc F w b L) : L.length ≤ maxLen := by
  obtain ⟨ev, h⟩ := h
  rcases h.row.2 with ⟨_, h0⟩ | ⟨g, cap, cur, rfl, hb, hg, hc, hm, hcs, ht⟩
  · omega
  · omega
theorem tAdd_full (h : Trc F w b L) (hl : 200000 ≤ L.length) (x a b' c : Int) : Calls Try.prog 38 #[.pointer (some ⟨b, 0, none⟩), .int .i64 x, .int .i64 a, .int .i64 b', .int .i64 c] w fun e w' => e = .returned (.bool false) ∧ w = w' := by
  obtain ⟨ev, h⟩ := h
  obtain ⟨h0, h1⟩ := h.bx
  obtain ⟨la, lc, rfl⟩ := ownsRow_slice h.row
  have hl2 : (200000 : Int) ≤ (L.length : Int) := by omega
  clear h h1
  go_enter Try.func38, Try.ntmps38
  go_wp2_with fail
  all_goals first
    | (exfalso; omega)
    | (go_ret; exact ⟨rfl, rfl⟩)
set_option maxRecDepth 100000 in
set_option maxHeartbeats 1000000 in
theorem tAdd (h : Trc F w b L) (hl : L.length < 200000) (x a b' c : Int) : Calls Try.prog 38 #[.pointer (some ⟨b, 0, none⟩), .int .i64 x, .int .i64 a, .int .i64 b', .int .i64 c] w fun e w' => e = .returned (.bool true) ∧ Trc (EMore F w w') w' b (L ++ [⟨x, a, b', c⟩]) ∧ Upd F w w' := by
  obtain ⟨i0, hi, hz0, hz1, hz2⟩ := info_parts evInfo
  obtain ⟨ev, h⟩ := h
  obtain ⟨h0, h1⟩ := h.bx
  obtain ⟨la, lc, rfl⟩ := ownsRow_slice h.row
  have H := Lib.hid h
  have HS := Lib.hid (src4 w 100 (.int .i64 x) (.int .i64 a) (.int .i64 b') (.int .i64 c) (by simp [Value.oneCell']) 1 1 rfl)
  have hal := Upd.alloc (fun _ => False) w (.cells #[.int .i64 x, .int .i64 a, .int .i64 b', .int .i64 c] 100)
  have HRW := Lib.hid (ownsRow_upd h.row hal (fun _ _ h => h))
  have HAL := Lib.hid hal
  have hbl : b < w.heap.size := (Array.getElem?_eq_some_iff.1 h.box).1
  have f0 := h1 0
  have hl2 : decide ((200000 : Int) ≤ (L.length : Int)) = false := by simp; omega
  have hl3 : decide ((L.length : Int) ≥ 200000) = false := by simp; omega
  have HLL := Lib.hid hl
  clear h h1 hal hl
  go_enter Try.func38, Try.ntmps38
  go_wp2_with (at_builtin; go_loud (refine wpList_append_mine _ rfl _ _ 96 rfl 0 100 i0 (evV default) 4 32 Try.underlying96 hi hz0 hz1 hz2 rfl (by decide) (.slice la L.length lc) L.length (L.flatMap ecl) rfl HRW.out 1 _ HS.out (by have := HLL.out; unfold maxLen; omega) (by have := HLL.out; omega) (Nat.zero_le _) ?_))
  all_goals first
    | (exfalso; omega)
    | skip
  intro v' w1 ho hg hf
  obtain ⟨va, vc, rfl⟩ := ownsRow_slice ho
  have hu1 : Upd (fun k => (Value.slice la L.length lc).ownBlock = some k) w w1 := Upd.row HAL.out hg
  have hnb : ¬ (Value.slice la L.length lc).ownBlock = some b := hpBoxNe H.out.row H.out.box (by decide)
  have hx : w1.heap[b]? = some (.cells #[.slice la L.length lc] 98 (0, 0)) := hpBlk hu1 H.out.box hnb
  have c0 : w1.cell? ⟨b, 0, none⟩ = some (.slice la L.length lc) := by simp [World.cell?, hx]
  have c1 : w1.frozen? ⟨b, 0, none⟩ = false := by simp [World.frozen?, hx]
  have HX := Lib.hid hx
  have HO := Lib.hid ho
  have HF := Lib.hid hf
  have HU1 := Lib.hid hu1
  clear ho hg hf hu1 hnb hx h0 f0
  go_wp2_with fail
  go_ret
  have hu2 : Upd (fun k => k = b) w1 (w1.setCell ⟨b, 0, none⟩ (.slice va (L.length + 1) vc)) := Upd.setCell (S := fun k => k = b) w1 (p := ⟨b, 0, none⟩) (.inl rfl) _
  have hsz : (w1.setCell ⟨b, 0, none⟩ (.slice va (L.length + 1) vc)).heap.size = w1.heap.size := by simp [World.setCell]
  refine ⟨rfl, ⟨.slice va (L.length + 1) vc, ?_, ?_, .inl H.out.fb, ?_, ?_⟩, ?_⟩
  · simp [World.setCell, Array.getElem?_modify, HX.out]
  · have hr : w1.ownsRow 0 100 4 (.slice va (L.length + 1) vc) (L ++ [(⟨x, a, b', c⟩ : EvM)]).length ((L ++ [(⟨x, a, b', c⟩ : EvM)]).flatMap ecl) := by
      rw [List.length_append, List.flatMap_append]
      exact HO.out
    exact ownsRow_upd hr hu2 (fun k hk hkb => hpBoxNe hr HX.out (by decide) (by rw [← hkb]; exact hk))
  · intro k hk
    rcases HF.out k hk with h | h
    · exact .inl (H.out.fr k h)
    · refine .inr ⟨by simp at h; omega, ?_⟩
      rw [hsz]
      exact hpRowLt HO.out k hk
  · intro k hk
    rw [hsz]
    rcases hk with hk | hk
    · exact Nat.lt_of_lt_of_le (H.out.lt k hk) HU1.out.size
    · rw [hsz] at hk; exact hk.2
  · exact (HU1.out.mono (T := F) (fun k hk _ => H.out.fr k hk)).trans (hu2.mono (T := F) (fun k hk _ => by rw [hk]; exact H.out.fb)) (fun _ h _ => h)
end
end Go.Proofs.Ytmfiamoeagnmmaa

/- Package heap: Copy. -/
import Derived.Test.YtmfiamoeagnmmaaHg
namespace Go.Proofs.Ytmfiamoeagnmmaa
open Go.RowKit Go.ChangeShapes Go.WideShapes Go.Deep
set_option linter.unusedVariables false
set_option linter.unusedSimpArgs false

/-- the blocks that were made since w -/
def Since (w w' : World) (k : Nat) : Prop := w.heap.size ≤ k ∧ k < w'.heap.size
section
variable {F : Nat → Prop} {w : World} {b : Nat} {sz : Int} {av : Value} {R : List (ArrM × Value)}
theorem cpMap {Q R : List (ArrM × Value)} {p : ArrM} {pd : Value} {hk : Q.length < R.length} (h : Q.map Prod.fst = (R.map Prod.fst).take Q.length) (hp : (p, pd) = R[Q.length]'hk) (hk' : Q.length < R.length) (d : Value) :
    (Q ++ [(p, d)]).map Prod.fst = (R.map Prod.fst).take (Q.length + 1) := by
  rw [List.map_append, h, List.take_add_one, List.getElem?_map, List.getElem?_eq_getElem hk', ← hp]
  rfl
theorem cpAdd {w wr w1 w5 w8 w9 : World} {Q : List (ArrM × Value)} {oa va : Option Addr} {oc vc : Nat} {a : ArrM} {d : Value} (hu : Upd (fun _ => False) w wr) (hu1 : Upd (fun _ => False) wr w1) (hd1 : Upd (fun _ => False) w1 w1.drew)
    (ho : Hp 62 (Since w wr) wr w.heap.size sz (.slice oa Q.length oc) Q) (ho5 : Hp 62 (Since w wr) w5 w.heap.size sz (.slice oa Q.length oc) Q) (h5 : New w1.drew d a.data w5)
    (h2 : Upd (fun k => (Value.slice oa Q.length oc).ownBlock = some k) w5 w9) (hrow : w9.ownsRow 0 42 5 (.slice va (Q.length + 1) vc) (Q.length + 1) (Q.flatMap acl ++ acl (a, d)))
    (hf : Fresh w8 (.slice oa Q.length oc) (.slice va (Q.length + 1) vc)) (h8 : w5.heap.size ≤ w8.heap.size)
    (hbox : w9.heap[w.heap.size]? = some (.cells #[.int .i64 sz, .slice oa Q.length oc] 62 (0, 0))) (hy : ∀ y ∈ a.data, 0 ≤ y ∧ y ≤ 255) (hl : a.data.length ≤ 64) :
    Hp 62 (Since w (w9.setCell ⟨w.heap.size, 1, none⟩ (.slice va (Q.length + 1) vc))) (w9.setCell ⟨w.heap.size, 1, none⟩ (.slice va (Q.length + 1) vc)) w.heap.size sz (.slice va (Q.length + 1) vc) (Q ++ [(a, d)]) ∧
    Upd (fun _ => False) w (w9.setCell ⟨w.heap.size, 1, none⟩ (.slice va (Q.length + 1) vc)) := by
  have hsz : (w9.setCell ⟨w.heap.size, 1, none⟩ (.slice va (Q.length + 1) vc)).heap.size = w9.heap.size := by simp [World.setCell]
  have hu5 : Upd (fun _ => False) w w5 := ((hu.trans hu1 (fun _ h _ => h)).trans hd1 (fun _ h _ => h)).trans h5.2.1 (fun _ h _ => h)
  have s1 := hu1.size
  have s2 := hd1.size
  have s3 := h5.2.1.size
  have s4 := h2.size
  have s0 := hu.size
  refine ⟨?_, ?_⟩
  · refine (hpAdd (w := w) ho5 h2 (by decide) (by decide) hrow hf h8 ⟨rfl, rfl⟩ hbox h5.1 (fun k hk => ?_) hu5 hy hl).wide (fun k hk => ?_) (fun k hk => hk.2)
    · have k1 := h5.2.2 k hk
      have k2 := hpRowLt h5.1 k hk
      refine ⟨by omega, k2, fun q hq hqk => ?_⟩
      have := ((ho.dat q hq).inn k hqk).2
      omega
    · rcases hk with hk | hk
      · exact ⟨hk.1, by rw [hsz]; have := hk.2; omega⟩
      · exact hk
  · refine hu5.trans (T := fun q => w.heap.size ≤ q) ?_ (fun k hk hlt => by omega)
    exact hpS (h2.mono (fun k hk _ => (ho.fr k hk).1)) (Nat.le_refl _)
set_option maxHeartbeats 2000000 in
theorem hCopy (h : Hp 62 F w b sz av R) (hl : R.length ≤ 1000) :
    Calls Try.prog 11 #[.pointer (some ⟨b, 0, none⟩)] w fun e w' => ∃ b' av' R', e = .returned (.pointer (some ⟨b', 0, none⟩)) ∧ Hp 62 (Since w w') w' b' sz av' R' ∧ R'.map Prod.fst = R.map Prod.fst ∧ Upd (fun _ => False) w w' := by
  obtain ⟨h0, h1, h2⟩ := h.bx
  have H := Lib.hid h
  obtain ⟨a, c, rfl⟩ := h.len
  obtain ⟨j0, hj, hy0, hy1, hy2⟩ := info_parts arrInfo
  have hbl : b < w.heap.size := (Array.getElem?_eq_some_iff.1 h.box).1
  clear h
  obtain ⟨w0, hw0⟩ : ∃ w0, w0 = w.alloc (.cells #[.int .i64 sz, .slice none 0 0] 62) := ⟨_, rfl⟩
  have hu0 : Upd (fun _ => False) w w0 := by rw [hw0]; exact Upd.alloc _ _ _
  have hs0 : w0.heap.size = w.heap.size + 1 := by rw [hw0]; simp
  have HX0 : Hid (Hp 62 (Since w w0) w0 w.heap.size sz (.slice none 0 0) []) := Lib.hid ⟨by rw [hw0]; exact hpTop _ _ _ rfl, World.ownsRow_nil _ _ _ _, by simp, List.Pairwise.nil, ⟨Nat.le_refl _, by omega⟩, by simp [Value.ownBlock], fun k hk => hk.2⟩
  have HW := Lib.hid hw0
  have HU0 := Lib.hid hu0
  have q1 := (H.out.upd hu0 (fun _ _ h => h)).bx.2.1
  have HE0 : Hid (([] : List (ArrM × Value)).map Prod.fst = (R.map Prod.fst).take 0) := Lib.hid (by simp)
  have HL0 : Hid (([] : List (ArrM × Value)).length = 0) := Lib.hid rfl
  clear hw0 hu0 hs0
  go_enter Try.func11, Try.ntmps11
  go_wp2_with fail
  rw [← HW.out]
  go_loopw [17, 5] (fun i _ wr => ∃ (k : Nat) (oa : Option Addr) (oc : Nat) (Q : List (ArrM × Value)), k ≤ R.length ∧ i = .int .i64 k ∧ Hid (Q.length = k) ∧ Hid (Q.map Prod.fst = (R.map Prod.fst).take k) ∧ Hid (Hp 62 (Since w wr) wr w.heap.size sz (.slice oa k oc) Q) ∧ Hid (Upd (fun _ => False) w wr)) (fun i _ _ => R.length - (intOf i).toNat)
  case atStart => exact ⟨0, none, 0, [], Nat.zero_le _, rfl, HL0, HE0, HX0, HU0⟩
  case round =>
    obtain ⟨k, oa, oc, Q, hk, rfl, HQ, HM, HO, HU⟩ := hrel
    by_cases hlt : k < R.length
    · have H1 := Lib.hid (H.out.upd HU.out (fun _ _ h => h))
      obtain ⟨g, c', hv, k0, k1, k2, k3, k4, k5⟩ := H1.out.at hlt
      simp at hv
      obtain ⟨rfl, rfl⟩ := hv
      obtain ⟨da, dc, hd, -, -⟩ := H1.out.dslice hlt
      have hdat := H1.out.dat _ (List.getElem_mem hlt)
      obtain ⟨p, hp⟩ : ∃ p, p = R[k] := ⟨_, rfl⟩
      rw [← hp] at k0 k1 k2 k3 k4 hd hdat
      have HPE := Lib.hid hp
      clear hp k5
      rw [hd] at k4
      obtain ⟨w1, hw1⟩ : ∃ w1, w1 = wr.alloc (.cells #[.int .i64 p.1.own, .int .i64 p.1.lab, .int .i64 p.1.life, .bool p.1.sh, .slice da p.1.data.length dc] 42) := ⟨_, rfl⟩
      have hu1 : Upd (fun _ => False) wr w1 := by rw [hw1]; exact Upd.alloc _ _ _
      have hx1 : w1.heap[wr.heap.size]? = some (.cells #[.int .i64 p.1.own, .int .i64 p.1.lab, .int .i64 p.1.life, .bool p.1.sh, .slice da p.1.data.length dc] 42 (0, 0)) := by rw [hw1]; exact hpTop _ _ _ rfl
      have hs1 : wr.heap.size < w1.heap.size := by rw [hw1]; simp
      have HCL := Lib.hid (hClone p.1 (.slice da p.1.data.length dc) w1.drew (by rw [← hd]; exact ((hdat.vw.upd hu1 (fun _ _ h => h)).upd (Upd.drew (fun _ => False) w1) (fun _ _ h => h))) hdat.len)
      have HO1 := Lib.hid (HO.out.upd hu1 (fun _ _ h => h))
      have o1 := HO1.out.bx.2.1
      have hwl : w.heap.size < w1.heap.size := by have := (Array.getElem?_eq_some_iff.1 HO1.out.box).1; exact this
      have HLN := Lib.hid (show p.1.data.length ≤ 64 from hdat.len)
      have HBY := Lib.hid hdat.byt
      have HW1 := Lib.hid hw1
      have HU1 := Lib.hid hu1
      have HX1 := Lib.hid hx1
      have HD1 := Lib.hid (Upd.drew (fun _ => False) w1)
      clear hw1 hu1 hx1 hd hdat
      go_wp2_with fail
      rw [← HW1.out]
      obtain ⟨e0, e1, e2, e3, e4, ef⟩ := five HX1.out
      clear ef
      clear k0 k1 k2 k3 k4
      obtain ⟨⟨own1, lab1, life1, sh1, ys⟩, pd⟩ := p
      simp only [aval] at HCL
      simp only at e0 e1 e2 e3 e4 HLN HBY
      generalize hn : ys.length = n at *
      have HN := Lib.hid hn
      clear hn
      go_region_law ((first
        | (refine hpStep rfl (.tmp 25) (.tmp 28) 60 rfl 0 42 j0 zarr 5 56 Try.underlying60 hj hy0 hy1 hy2 rfl (by decide) (.slice oa k oc) k (Q.flatMap acl) rfl HRW.out 1 _ HSR.out (by unfold maxLen; omega) (by omega) (Nat.zero_le _) ?_; intro v9 w9 ho hg hf; obtain ⟨va, vc, rfl⟩ := ownsRow_slice ho; have hu9 := HA5.out.trans (Upd.grown (S := fun q => (Value.slice oa k oc).ownBlock = some q) hg (fun q hq => .inl hq)) (fun _ h _ => h); have HX9 := Lib.hid hu9; have hb9 := hpBlk hu9 HO5.out.box (fun h => hpBoxNe HO5.out.row HO5.out.box (by decide) h); have c9 : w9.cell? ⟨w.heap.size, 1, none⟩ = some (.slice oa k oc) := (by simp [World.cell?, hb9]); have b9 : w9.frozen? ⟨w.heap.size, 1, none⟩ = false := (by simp [World.frozen?, hb9]); have HB9 := Lib.hid hb9; have HO9 := Lib.hid ho; have HF9 := Lib.hid hf; clear ho hg hf hu9 hb9)
        | (go_simp; (refine HCL.out.mono ?_); rintro e w5 ⟨d', rfl, hnew⟩; obtain ⟨na, nc, rfl⟩ := ownsRow_slice hnew.1; have HX5 := Lib.hid hnew; have HO5 := Lib.hid (HO1.out.upd (HD1.out.trans hnew.2.1 (fun _ h _ => h)) (fun _ _ h => h)); have o5 := HO5.out.bx.2.1; have hwl5 := Nat.lt_of_lt_of_le hwl (HD1.out.trans hnew.2.1 (fun _ h _ => h)).size; have HA5 := Lib.hid (Upd.alloc (fun q => (Value.slice oa k oc).ownBlock = some q) w5 (.cells #[.int .i64 own1, .int .i64 lab1, .int .i64 life1, .bool sh1, .slice na ys.length nc] 42)); have HRW : Hid ((w5.alloc (.cells #[.int .i64 own1, .int .i64 lab1, .int .i64 life1, .bool sh1, .slice na ys.length nc] 42)).ownsRow 0 42 5 (.slice oa k oc) k (Q.flatMap acl)) := Lib.hid (by have := HO5.out.row.alloc (.cells #[.int .i64 own1, .int .i64 lab1, .int .i64 life1, .bool sh1, .slice na ys.length nc] 42); rw [HQ.out] at this; exact this); have HSR : Hid (Src (w5.alloc (.cells #[.int .i64 own1, .int .i64 lab1, .int .i64 life1, .bool sh1, .slice na ys.length nc] 42)) 5 (.slice (some ⟨w5.heap.size, 0, none⟩) 1 1) 1 (acl (⟨own1, lab1, life1, sh1, ys⟩, .slice na ys.length nc))) := Lib.hid (hpSrc w5 42 #[.int .i64 own1, .int .i64 lab1, .int .i64 life1, .bool sh1, .slice na ys.length nc] 5 (by simp [Value.oneCell']) 1 1 rfl); clear hnew)))
      all_goals
        have hq := HQ.out
        subst hq
        clear e0 e1 e2 e3 e4 o1 o5 h0 h1 h2 q1 c9
        have HP9 := Lib.hid (cpAdd HU.out HU1.out HD1.out HO.out HO5.out HX5.out HX9.out HO9.out HF9.out (by simp) HB9.out HBY.out (by rw [HN.out]; exact HLN.out))
        have HM9 := Lib.hid (cpMap HM.out HPE.out hlt (.slice na ys.length nc))
        go_wp2_with fail
        go_roundw
        case rel => exact ⟨Q.length + 1, va, vc, Q ++ [(⟨own1, lab1, life1, sh1, ys⟩, .slice na ys.length nc)], by omega, by go_num, Lib.hid (by simp), HM9, Lib.hid HP9.out.1, Lib.hid HP9.out.2⟩
        case measure => simp [intOf]; omega
    · obtain rfl : k = R.length := by omega
      have HM2 : Hid (Q.map Prod.fst = R.map Prod.fst) := Lib.hid (by rw [HM.out, List.take_of_length_le (by simp)])
      go_wp2_with fail
      go_ret
      exact ⟨_, _, _, rfl, HO.out, HM2.out, HU.out⟩
end
end Go.Proofs.Ytmfiamoeagnmmaa

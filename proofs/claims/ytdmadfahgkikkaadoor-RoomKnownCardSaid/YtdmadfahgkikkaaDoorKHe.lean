/- Several texts in one. -/
import Derived.Test.YtdmadfahgkikkaaDoorHd
import Derived.IntWalk
import Derived.Deep.RegionHeld3
import Derived.Deep.RegionLaw
import Derived.Lib.SliceRun
/- Package heap: Alloc. -/
namespace Go.Proofs.YtdmadfahgkikkaaDoor
open Go.RowKit Go.ChangeShapes Go.WideShapes Go.Deep
set_option linter.unusedVariables false
set_option linter.unusedSimpArgs false

theorem hpStep {P : Program} {ops : Array Oper} {o : Oper} {a : Act} {w : World} {K : Act → World → Prop} {Q : Exit → Act → World → Prop} {E : Prop}
    (hg : o.guard = none) (s x : Operand) (t : TypeId) (hop : o.op = Op.call { callee := Callee.builtin Builtin.append, args := #[s, x], argTypes := #[t, t] })
    (base : Nat) (e : TypeId) (i : TypeInfo) (z : Value) (size bytes : Nat) (ht : P.underlying t = some (.slice e)) (hi : P.info? e = some i) (hz : i.zero = some z)
    (hsize : i.size = size) (hby : i.bytes = bytes) (hzs : z.cells.size = size) (hsz : 0 < size)
    (v : Value) (n : Nat) (xs : List Value) (hs : a.eval s = v) (hown : w.ownsRow base e size v n xs)
    (m : Nat) (news : List Value) (hx : Src w size (a.eval x) m news)
    (h63 : n + m ≤ maxLen) (hbytes : (n + m) * bytes ≤ 140737488355328) (hbase : base ≤ w.heap.size)
    (hK : ∀ v' w', w'.ownsRow base e size v' (n + m) (xs ++ news) → w.grownBy w' v.ownBlock → Fresh w v v' → K (a.put o.dst v') w') :
    if Region.wanted o (yielded ops a.tmps) = true then Oper.wp P o a w K Q else E := by
  have hw : Region.wanted o (yielded ops a.tmps) = true := by simp [Region.wanted, hg]
  rw [if_pos hw]
  obtain ⟨v', w', hr, h2, h3, h4⟩ := run_append_mine (P := P) w base t o.type e i z size bytes ht hi hz hsize hby hzs hsz v n xs hown (a.eval x) m news hx h63 hbytes hbase
  have hK' := hK v' w' h2 h3 h4
  unfold Oper.wp
  simp [execOp, hop, resolve, invoke, builtin, hs, hr, Result.andThen]
  exact hK'
theorem hpSrc (w : World) (e : TypeId) (cs : Array Value) (sz : Nat) (h1 : ∀ u ∈ cs.toList, u.oneCell' = true) (n c : Nat) (hn : cs.size = n * sz) :
    Src (w.alloc (.cells cs e)) sz (.slice (some ⟨w.heap.size, 0, none⟩) n c) n cs.toList := by
  refine .inr ⟨_, _, rfl, by simpa using hn, fun j u hj => ?_, h1⟩
  have hadd : (⟨w.heap.size, 0, none⟩ : Addr).add j = ⟨w.heap.size, j, none⟩ := by unfold Addr.add; split <;> simp_all
  rw [hadd]
  show (match (w.heap.push _)[w.heap.size]? with | some (.cells c _ _) => _ | _ => _) = _
  simpa using hj
theorem hpDrewN (S : Nat → Prop) (w : World) (n : Nat) : Upd S w (w.drewN n) := ⟨rfl, rfl, rfl, Nat.le_refl _, fun _ _ _ => rfl⟩
theorem fits_no {sz : Int} {L : List ArrM} {lab life n : Int} (h : fitsB ⟨sz, L⟩ lab life n = false) :
    labB lab = false ∨ (labB lab = true ∧ lifeB life = false) ∨ (labB lab = true ∧ lifeB life = true ∧ n < 0) ∨ (labB lab = true ∧ lifeB life = true ∧ 0 ≤ n ∧ 64 < n) ∨ (labB lab = true ∧ lifeB life = true ∧ 0 ≤ n ∧ n ≤ 64 ∧ sz - (usedP L : Int) < 8 + n) := by
  simp only [fitsB] at h
  cases h1 : labB lab <;> cases h2 : lifeB life <;> simp_all
  omega
section
variable {F : Nat → Prop} {w : World} {b : Nat} {sz : Int} {av : Value} {R : List (ArrM × Value)}
set_option maxHeartbeats 1000000 in
theorem hAlloc_no (h : Hp 122 F w b sz av R) (hl : R.length ≤ 1000) (hs : 0 ≤ sz ∧ sz ≤ 4096) (own lab life n : Int) (sh : Bool) (hf : fitsB ⟨sz, R.map Prod.fst⟩ lab life n = false) :
    Calls Tryd.prog 76 #[.pointer (some ⟨b, 0, none⟩), .int .i64 own, .int .i64 lab, .int .i64 life, .bool sh, .int .i64 n] w fun e w' => e = .returned (.tuple #[.int .i64 0, .bool false]) ∧ Upd (fun _ => False) w w' := by
  have hu := used_le (L := R.map Prod.fst) (fun x hx => by obtain ⟨p, hp, rfl⟩ := List.mem_map.1 hx; exact (h.dat p hp).len) R.length (by simp)
  rw [List.take_of_length_le (by simp)] at hu
  have H1 := Lib.hid (h.upd (Upd.drew (fun _ => False) w) (fun _ _ h => h))
  have HC : Hid (∀ w', Upd (fun _ => False) w.drew w' → w'.cell? ⟨b, 0, none⟩ = some (.int .i64 sz)) := Lib.hid (fun w' hu => (H1.out.upd hu (fun _ _ h => h)).bx.1)
  have HD := Lib.hid (Upd.drew (fun _ => False) w)
  have HR0 := Lib.hid (Upd.refl (fun _ => False) w.drew)
  have HUS := Lib.hid (hUsed H1.out hl)
  obtain ⟨c0, c1, cf⟩ := h.bx
  have HF := Lib.hid hf
  have hcase := fits_no hf
  clear h hf
  generalize usedP (R.map Prod.fst) = u at *
  rcases hcase with h1 | ⟨h1, h2⟩ | ⟨h1, h2, h3⟩ | ⟨h1, h2, h3, h4⟩ | ⟨h1, h2, h3, h4, h5⟩
  · have HL := Lib.hid h1
    clear h1
    go_enter Tryd.func76, Tryd.ntmps76
    go_wp2_with fail
    go_quiet (exact Calls.quiet_of_same ((hLabel _ _).mono fun _ _ h => ⟨by rw [h.1, HL.out], h.2.symm⟩))
    go_wp2_with fail
    refine bodyPost_ret (v := .tuple #[.int .i64 0, .bool false]) (by simp only [results, Tryd.f76]; simp [go_sem]) rfl ?_
    exact ⟨rfl, hpDrewN _ _ _⟩
  · have HL := Lib.hid h1
    have HL2 := Lib.hid h2
    clear h1 h2
    go_enter Tryd.func76, Tryd.ntmps76
    go_wp2_with fail
    go_quiet (first
      | exact Calls.quiet_of_same ((hLabel _ _).mono fun _ _ h => ⟨by rw [h.1, HL.out], h.2.symm⟩)
      | exact Calls.quiet_of_same ((hLife _ _).mono fun _ _ h => ⟨by rw [h.1, HL2.out], h.2.symm⟩))
    go_wp2_with fail
    refine bodyPost_ret (v := .tuple #[.int .i64 0, .bool false]) (by simp only [results, Tryd.f76]; simp [go_sem]) rfl ?_
    exact ⟨rfl, hpDrewN _ _ _⟩
  · have HL := Lib.hid h1
    have HL2 := Lib.hid h2
    clear h1 h2
    have t1 : decide (n < 0) = true := by simp; omega
    go_enter Tryd.func76, Tryd.ntmps76
    go_wp2_with fail
    go_quiet (first
      | exact Calls.quiet_of_same ((hLabel _ _).mono fun _ _ h => ⟨by rw [h.1, HL.out], h.2.symm⟩)
      | exact Calls.quiet_of_same ((hLife _ _).mono fun _ _ h => ⟨by rw [h.1, HL2.out], h.2.symm⟩))
    go_wp2_with fail
    refine bodyPost_ret (v := .tuple #[.int .i64 0, .bool false]) (by simp only [results, Tryd.f76]; simp [go_sem]) rfl ?_
    exact ⟨rfl, hpDrewN _ _ _⟩
  · have HL := Lib.hid h1
    have HL2 := Lib.hid h2
    clear h1 h2
    have t1 : decide (n < 0) = false := by simp; omega
    have t2 : decide (64 < n) = true := by simp; omega
    go_enter Tryd.func76, Tryd.ntmps76
    go_wp2_with fail
    go_quiet (first
      | exact Calls.quiet_of_same ((hLabel _ _).mono fun _ _ h => ⟨by rw [h.1, HL.out], h.2.symm⟩)
      | exact Calls.quiet_of_same ((hLife _ _).mono fun _ _ h => ⟨by rw [h.1, HL2.out], h.2.symm⟩))
    go_wp2_with fail
    refine bodyPost_ret (v := .tuple #[.int .i64 0, .bool false]) (by simp only [results, Tryd.f76]; simp [go_sem]) rfl ?_
    exact ⟨rfl, hpDrewN _ _ _⟩
  · have HL := Lib.hid h1
    have HL2 := Lib.hid h2
    clear h1 h2
    have t1 : decide (n < 0) = false := by simp; omega
    have t2 : decide (64 < n) = false := by simp; omega
    have hw1 : IntKind.i64.wrap (8 + n) = 8 + n := IntWalk.i64_in _ (by omega)
    have hw2 : IntKind.i64.wrap (sz - (u : Int)) = sz - u := IntWalk.i64_in _ (by omega)
    have t3 : decide (sz - (u : Int) < 8 + n) = true := by simp; omega
    go_enter Tryd.func76, Tryd.ntmps76
    go_wp2_with fail
    go_region_held3 (fun w' => w'.cell? ⟨b, 0, none⟩ = some (.int .i64 sz)) (first
      | with_reducible exact HC.out _ HR0.out
      | with_reducible exact HC.out _ HX5.out) ((first
      | (go_at_call 90; (refine (hLabel _ _).mono ?_); rw [HL.out]; rintro e w' ⟨rfl, rfl⟩)
      | (go_at_call 91; (refine (hLife _ _).mono ?_); rw [HL2.out]; rintro e w' ⟨rfl, rfl⟩)
      | (go_at_call 92; (refine HUS.out.mono ?_); rintro e w5 ⟨rfl, hu5⟩; have HX5 := Lib.hid hu5; clear hu5)))
    all_goals
      go_wp2_with fail
      refine bodyPost_ret (v := .tuple #[.int .i64 0, .bool false]) (by simp only [results, Tryd.f76]; simp [go_sem]) rfl ?_
      exact ⟨rfl, HD.out.trans HX5.out (fun _ h _ => h)⟩
theorem fits_yes {sz : Int} {L : List ArrM} {lab life n : Int} (h : fitsB ⟨sz, L⟩ lab life n = true) :
    labB lab = true ∧ lifeB life = true ∧ 0 ≤ n ∧ n ≤ 64 ∧ 8 + n ≤ sz - (usedP L : Int) := by
  simp only [fitsB] at h
  simp_all
theorem b8Info : (Tryd.prog.info? 5).map (fun i => (i.zero, i.size, i.bytes)) = some (some (.int .u8 0), 1, 1) := by kernel_rfl
theorem arrInfo : (Tryd.prog.info? 50).map (fun i => (i.zero, i.size, i.bytes)) = some (some zarr, 5, 56) := by kernel_rfl
/-- one array more -/
theorem hpAdd {t : TypeId} {w7 w8 w9 : World} {aa va : Option Addr} {ac vc m m' : Nat} {a : ArrM} {d : Value} (h7 : Hp t F w7 b sz (.slice aa R.length ac) R) (h2 : Upd (fun k => (Value.slice aa R.length ac).ownBlock = some k) w7 w9)
    (ht : t ≠ 5) (ht2 : t ≠ 50) (hrow : w9.ownsRow 0 50 5 (.slice va m vc) m' (R.flatMap acl ++ acl (a, d)))
    (hf : Fresh w8 (.slice aa R.length ac) (.slice va m vc)) (h8 : w7.heap.size ≤ w8.heap.size) (hm : m = R.length + 1 ∧ m' = R.length + 1)
    (hbox : w9.heap[b]? = some (.cells #[.int .i64 sz, .slice aa R.length ac] t (0, 0)))
    (hd : w7.ownsRow 0 5 1 d a.data.length (bv a.data)) (hn : ∀ k, d.ownBlock = some k → w.heap.size ≤ k ∧ k < w7.heap.size ∧ ∀ q ∈ R, ¬ q.2.ownBlock = some k)
    (hu : Upd (fun _ => False) w w7) (hy : (∀ y ∈ a.data, 0 ≤ y ∧ y ≤ 255) := by exact zeros_byte _) (hl : a.data.length ≤ 64 := by simp only [newA, zeros_len]; omega) :
    Hp t (More F w (w9.setCell ⟨b, 1, none⟩ (.slice va m vc))) (w9.setCell ⟨b, 1, none⟩ (.slice va m vc)) b sz (.slice va m vc) (R ++ [(a, d)]) := by
  obtain ⟨rfl, rfl⟩ := hm
  have hsz : (w9.setCell ⟨b, 1, none⟩ (.slice va (R.length + 1) vc)).heap.size = w9.heap.size := by simp [World.setCell]
  have h79 := h2.size
  have hw7 := hu.size
  refine Hp.turn hbox (.inl h7.fb) (fun k hk => ?_) ht ht2 _ _ ?_ (fun p hp => ?_) (ap_snoc h7.ap (fun k hk => (hn k hk).2.2)) (fun k hk => ?_)
  · rcases hk with hk | hk
    · exact Nat.lt_of_lt_of_le (h7.lt k hk) h79
    · rw [hsz] at hk; exact hk.2
  · rw [List.length_append, List.flatMap_append]
    simpa using hrow
  · rcases List.mem_append.1 hp with hp | hp
    · exact ((h7.dat p hp).upd h2 (fun k hk hk' => hpRowNe (h7.dat p hp).row h7.row (by decide) k hk hk')).wide (fun k hk => .inl hk)
    · simp at hp
      subst hp
      refine ⟨ownsRow_upd hd h2 (fun k hk hk' => hpRowNe hd h7.row (by decide) k hk hk'), hy, fun k hk => .inr ?_, hl⟩
      have := hn k hk
      rw [hsz]
      exact ⟨this.1, by omega⟩
  · rcases hf k hk with h | h
    · exact .inl (h7.fr k h)
    · refine .inr ⟨?_, ?_⟩
      · omega
      · rw [hsz]; exact hpRowLt hrow k hk
set_option maxHeartbeats 1000000 in
theorem hAlloc (h : Hp 122 F w b sz av R) (hl : R.length ≤ 1000) (hs : 0 ≤ sz ∧ sz ≤ 4096) (own lab life n : Int) (sh : Bool) (hf : fitsB ⟨sz, R.map Prod.fst⟩ lab life n = true) :
    Calls Tryd.prog 76 #[.pointer (some ⟨b, 0, none⟩), .int .i64 own, .int .i64 lab, .int .i64 life, .bool sh, .int .i64 n] w fun e w' => e = .returned (.tuple #[.int .i64 ((R.length + 1 : Nat) : Int), .bool true]) ∧
      (∃ av' d, Hp 122 (More F w w') w' b sz av' (R ++ [(newA own lab life sh n, d)])) ∧ Upd F w w' := by
  have hu := used_le (L := R.map Prod.fst) (fun x hx => by obtain ⟨p, hp, rfl⟩ := List.mem_map.1 hx; exact (h.dat p hp).len) R.length (by simp)
  rw [List.take_of_length_le (by simp)] at hu
  have H1 := Lib.hid (h.upd (Upd.drew (fun _ => False) w) (fun _ _ h => h))
  have HC : Hid (∀ w', Upd (fun _ => False) w.drew w' → w'.cell? ⟨b, 0, none⟩ = some (.int .i64 sz)) := Lib.hid (fun w' hu => (H1.out.upd hu (fun _ _ h => h)).bx.1)
  have HD := Lib.hid (Upd.drew (fun _ => False) w)
  have HR0 := Lib.hid (Upd.refl (fun _ => False) w.drew)
  have HUS := Lib.hid (hUsed H1.out hl)
  obtain ⟨c0, c1, cf⟩ := h.bx
  obtain ⟨h1, h2, h3, h4, h5⟩ := fits_yes hf
  obtain ⟨i0, hi, hz0, hz1, hz2⟩ := info_parts b8Info
  obtain ⟨j0, hj, hy0, hy1, hy2⟩ := info_parts arrInfo
  have HLT := Lib.hid h.lt
  clear h hf
  generalize usedP (R.map Prod.fst) = u at *
  have HL := Lib.hid h1
  have HL2 := Lib.hid h2
  clear h1 h2
  obtain ⟨n, rfl⟩ := Int.eq_ofNat_of_zero_le h3
  have t1 : decide ((n : Int) < 0) = false := by simp
  have t2 : decide (64 < (n : Int)) = false := by simp; omega
  have hw1 : IntKind.i64.wrap (8 + (n : Int)) = 8 + n := IntWalk.i64_in _ (by omega)
  have hw2 : IntKind.i64.wrap (sz - (u : Int)) = sz - u := IntWalk.i64_in _ (by omega)
  have t3 : decide (sz - (u : Int) < 8 + n) = false := by simp; omega
  go_enter Tryd.func76, Tryd.ntmps76
  go_wp2_with fail
  go_region_held3 (fun w' => w'.cell? ⟨b, 0, none⟩ = some (.int .i64 sz)) (first
    | with_reducible exact HC.out _ HR0.out
    | with_reducible exact HC.out _ HX5.out) ((first
    | (go_at_call 90; (refine (hLabel _ _).mono ?_); rw [HL.out]; rintro e w' ⟨rfl, rfl⟩)
    | (go_at_call 91; (refine (hLife _ _).mono ?_); rw [HL2.out]; rintro e w' ⟨rfl, rfl⟩)
    | (go_at_call 92; (refine HUS.out.mono ?_); rintro e w5 ⟨rfl, hu5⟩; have HX5 := Lib.hid hu5; clear hu5)))
  all_goals
    have H2 := Lib.hid (H1.out.upd HX5.out (fun _ _ h => h))
    go_wp2_with ((refine wpList_make_full w5 rfl _ _ 41 rfl 0 5 i0 (.int .u8 0) 1 Tryd.underlying41 hi hz0 hz1 .i64 .i64 (n : Int) (n : Int) n rfl rfl rfl rfl (by rw [hz2]; omega) (by unfold maxLen; omega) (Nat.zero_le _) ?_))
    intro w6 ho hg
    have hu6 : Upd (fun _ => False) w5 w6 := Upd.grown hg (fun k hk => by cases hk)
    have hd6 : w6.ownsRow 0 5 1 (.slice (some ⟨w5.heap.size, 0, none⟩) n n) (zeros n).length (bv (zeros n)) := by
      have h := ho
      rw [made_zeros] at h
      rw [zeros_len]
      exact h
    have hs6 : w5.heap.size < w6.heap.size := hpRowLt ho w5.heap.size rfl
    obtain ⟨w7, hw7⟩ : ∃ w7, w7 = w6.alloc (.cells #[.int .i64 own, .int .i64 lab, .int .i64 life, .bool sh, .slice (some ⟨w5.heap.size, 0, none⟩) n n] 50) := ⟨_, rfl⟩
    have hu7 : Upd (fun _ => False) w6 w7 := by rw [hw7]; exact Upd.alloc _ _ _
    have hx7 : w7.heap[w6.heap.size]? = some (.cells #[.int .i64 own, .int .i64 lab, .int .i64 life, .bool sh, .slice (some ⟨w5.heap.size, 0, none⟩) n n] 50 (0, 0)) := by rw [hw7]; exact hpTop _ _ _ rfl
    have hs7 : w7.heap.size = w6.heap.size + 1 := by rw [hw7]; simp
    have HW := Lib.hid hw7
    have H7 := Lib.hid ((H2.out.upd hu6 (fun _ _ h => h)).upd hu7 (fun _ _ h => h))
    have HD7 := Lib.hid (ownsRow_upd hd6 hu7 (fun _ _ h => h))
    have HX7 := Lib.hid hx7
    have HZ := Lib.hid (And.intro hs6 hs7)
    have HU7 := Lib.hid (((HD.out.trans HX5.out (fun _ h _ => h)).trans hu6 (fun _ h _ => h)).trans hu7 (fun _ h _ => h))
    clear ho hg hu6 hd6 hs6 hw7 hu7 hx7 hs7
    obtain ⟨aa, ac, rfl⟩ := H7.out.len
    have HC8 : Hid (∀ w', Upd (fun k => (Value.slice aa R.length ac).ownBlock = some k) w7 w' → w'.cell? ⟨b, 1, none⟩ = some (.slice aa R.length ac) ∧ w'.cell? ⟨w6.heap.size, 0, none⟩ = some (.int .i64 own) ∧ w'.cell? ⟨w6.heap.size, 1, none⟩ = some (.int .i64 lab) ∧ w'.cell? ⟨w6.heap.size, 2, none⟩ = some (.int .i64 life) ∧ w'.cell? ⟨w6.heap.size, 3, none⟩ = some (.bool sh) ∧ w'.cell? ⟨w6.heap.size, 4, none⟩ = some (.slice (some ⟨w5.heap.size, 0, none⟩) n n) ∧ w'.frozen? ⟨b, 1, none⟩ = false) := Lib.hid (fun w' hu => by
      have hz := HZ.out
      obtain ⟨k0, k1, k2, k3, k4, -⟩ := five (hpBlk hu HX7.out (fun h => by have := hpRowLt H2.out.row _ h; omega))
      have hb := hpBlk hu H7.out.box (fun h => hpBoxNe H7.out.row H7.out.box (by decide) h)
      exact ⟨by simp [World.cell?, hb], k0, k1, k2, k3, k4, by simp [World.frozen?, hb]⟩)
    have HR7 := Lib.hid (Upd.refl (fun _ => False) w7.drew)
    go_wp2_with fail
    rw [← HW.out]
    have HA7 := Lib.hid (Upd.alloc (fun k => (Value.slice aa R.length ac).ownBlock = some k) w7.drew (.cells #[.int .i64 own, .int .i64 lab, .int .i64 life, .bool sh, .slice (some ⟨w5.heap.size, 0, none⟩) n n] 50))
    have HRW : Hid ((w7.drew.alloc (.cells #[.int .i64 own, .int .i64 lab, .int .i64 life, .bool sh, .slice (some ⟨w5.heap.size, 0, none⟩) n n] 50)).ownsRow 0 50 5 (.slice aa R.length ac) R.length (R.flatMap acl)) := Lib.hid (((H7.out.upd (Upd.drew (fun _ => False) w7) (fun _ _ h => h)).row).alloc _)
    have HSR : Hid (Src (w7.drew.alloc (.cells #[.int .i64 own, .int .i64 lab, .int .i64 life, .bool sh, .slice (some ⟨w5.heap.size, 0, none⟩) n n] 50)) 5 (.slice (some ⟨w7.heap.size, 0, none⟩) 1 1) 1 (acl (newA own lab life sh n, .slice (some ⟨w5.heap.size, 0, none⟩) n n))) := Lib.hid (hpSrc w7.drew 50 #[.int .i64 own, .int .i64 lab, .int .i64 life, .bool sh, .slice (some ⟨w5.heap.size, 0, none⟩) n n] 5 (by simp [Value.oneCell']) 1 1 rfl)
    have HDR := Lib.hid (Upd.drew (fun k => (Value.slice aa R.length ac).ownBlock = some k) w7)
    obtain ⟨q1, e0, e1, e2, e3, e4, q2⟩ := HC8.out w7 (Upd.refl _ _)
    have hbl : b < w7.heap.size := (Array.getElem?_eq_some_iff.1 H7.out.box).1
    have hbl6 : w6.heap.size < w7.heap.size := by have := HZ.out; omega
    go_region_law ((first
      | (refine hpStep rfl (.tmp 54) (.tmp 56) 120 rfl 0 50 j0 zarr 5 56 Tryd.underlying120 hj hy0 hy1 hy2 rfl (by decide) (.slice aa R.length ac) R.length (R.flatMap acl) rfl HRW.out 1 _ HSR.out (by unfold maxLen; omega) (by omega) (Nat.zero_le _) ?_; intro v9 w9 ho hg hf; have hu9 := (HDR.out.trans HA7.out (fun _ h _ => h)).trans (Upd.grown (S := fun k => (Value.slice aa R.length ac).ownBlock = some k) hg (fun k hk => .inl hk)) (fun _ h _ => h); have HX9 := Lib.hid hu9; have hb9 := hpBlk hu9 H7.out.box (fun h => hpBoxNe H7.out.row H7.out.box (by decide) h); have c9 : w9.cell? ⟨b, 1, none⟩ = some (.slice aa R.length ac) := (by simp [World.cell?, hb9]); have b9 : w9.frozen? ⟨b, 1, none⟩ = false := (by simp [World.frozen?, hb9]); have HB9 := Lib.hid hb9; obtain ⟨va, vc, rfl⟩ := ownsRow_slice ho; have HO9 := Lib.hid ho; have HF9 := Lib.hid hf; clear ho hg hf hu9 hb9)))
    all_goals
      clear q1 e0 e1 e2 e3 e4 q2
      go_wp2_with fail
      refine bodyPost_ret (v := .tuple #[.int .i64 ((R.length + 1 : Nat) : Int), .bool true]) (by simp only [results, Tryd.f76]; simp [go_sem]) rfl ?_
      refine ⟨rfl, ⟨_, .slice (some ⟨w5.heap.size, 0, none⟩) n n, hpAdd H7.out (h2 := HX9.out) (t := 122) (by decide) (by decide) HO9.out HF9.out (by simp) (by simp) HB9.out HD7.out ?_ HU7.out⟩, ?_⟩
      · intro k hk
        simp [Value.ownBlock] at hk
        subst hk
        have := HZ.out
        have hs := (HD.out.trans HX5.out (fun _ h _ => h)).size
        exact ⟨by omega, by omega, fun q hq => fun h => by have := hpRowLt (H2.out.dat q hq).row _ h; omega⟩
      · refine (HU7.out.mono (fun _ h _ => h.elim)).trans (T := F) ?_ (fun _ h _ => h)
        exact hpS (HX9.out.mono (fun k h _ => H7.out.fr k h)) H7.out.fb
end
end Go.Proofs.YtdmadfahgkikkaaDoor
/- Package heap: SetBuffer, Clear. -/
namespace Go.Proofs.YtdmadfahgkikkaaDoor
open Go.RowKit Go.ChangeShapes Go.WideShapes Go.Deep
set_option linter.unusedVariables false
set_option linter.unusedSimpArgs false

def setFrom {α : Type} (xs : List α) : Nat → List α → List α
  | _, [] => xs
  | o, v :: r => setFrom (xs.set o v) (o + 1) r
theorem setFrom_len {α : Type} : ∀ (vs xs : List α) (o : Nat), (setFrom xs o vs).length = xs.length
  | [], xs, o => rfl
  | v :: r, xs, o => by simp [setFrom, setFrom_len r]
theorem setFrom_at {α : Type} : ∀ (vs xs : List α) (o j : Nat), j < xs.length → (setFrom xs o vs)[j]? = if o ≤ j ∧ j < o + vs.length then vs[j - o]? else xs[j]?
  | [], xs, o, j, hj => by
    rw [if_neg (by simp; try omega)]; rfl
  | v :: r, xs, o, j, hj => by
    simp only [setFrom]
    rw [setFrom_at r (xs.set o v) (o + 1) j (by simpa using hj), List.getElem?_set, List.length_cons]
    by_cases h1 : o = j
    · subst h1
      rw [if_neg (by omega), if_pos rfl, if_pos hj, if_pos (by omega)]
      simp
    · by_cases h2 : o + 1 ≤ j ∧ j < o + 1 + r.length
      · rw [if_pos h2, if_pos (by omega)]
        rw [show j - o = (j - (o + 1)) + 1 by omega, List.getElem?_cons_succ]
      · rw [if_neg h2, if_neg h1, if_neg (by omega)]
theorem setFrom_all {α : Type} (xs vs : List α) (h : xs.length = vs.length) : setFrom xs 0 vs = vs := by
  apply List.ext_getElem?
  intro j
  by_cases hj : j < xs.length
  · rw [setFrom_at vs xs 0 j hj, if_pos (by omega)]; simp
  · rw [List.getElem?_eq_none (by rw [setFrom_len]; omega), List.getElem?_eq_none (by omega)]
theorem row_setCells {e : TypeId} {g n c : Nat} : ∀ (vs xs : List Value) (o : Nat) (w : World), w.ownsRow 0 e 1 (.slice (some ⟨g, 0, none⟩) n c) n xs → (w.setCells g o vs).ownsRow 0 e 1 (.slice (some ⟨g, 0, none⟩) n c) n (setFrom xs o vs)
  | [], xs, o, w, h => h
  | v :: r, xs, o, w, h => row_setCells r _ _ _ (hpSet h o v)
theorem upd_setCells {S : Nat → Prop} {g : Nat} (hg : S g) {w0 : World} : ∀ (vs : List Value) (o : Nat) (w : World), Upd S w0 w → Upd S w0 (w.setCells g o vs)
  | [], o, w, h => h
  | v :: r, o, w, h => upd_setCells hg r _ _ (hpS h hg)
theorem zero8 (w : World) : (zeroValue 5).run Tryd.prog w = .ok (.int .u8 0) w := by
  obtain ⟨i0, hi, hz0, hz1, hz2⟩ := info_parts b8Info
  simp [zeroValue, typeInfo, hi, hz0]
/-- a row of bytes is cleared -/
theorem clear_row (w : World) (v : Value) (ys : List Int) (h : w.ownsRow 0 5 1 v ys.length (bv ys)) :
    ∃ w', (∀ ty, (Builtin.clear_ #[41] ty #[v]).run Tryd.prog w = .ok (.tuple #[]) w') ∧ w'.ownsRow 0 5 1 v ys.length (bv (zeros ys.length)) ∧ Upd (fun k => v.ownBlock = some k) w w' := by
  have hz : ys = [] → bv (zeros ys.length) = bv ys := by rintro rfl; rfl
  have ht := Tryd.underlying41
  rcases h.2 with ⟨rfl, h0⟩ | ⟨g, cap, cur, rfl, hb, hg, hc, hm, hcs, hk⟩
  · rw [hz (List.eq_nil_of_length_eq_zero h0)]
    refine ⟨w, fun ty => ?_, h, Upd.refl _ _⟩
    simp [Builtin.clear_, run_underlying ht]
  · by_cases h0 : ys.length = 0
    · rw [hz (List.eq_nil_of_length_eq_zero h0)]
      refine ⟨w, fun ty => ?_, h, Upd.refl _ _⟩
      rw [h0]
      simp [Builtin.clear_, run_underlying ht]
    · refine ⟨_, fun ty => Lib.run_clear_slice w _ _ ty (.int .u8 0) ht zero8 rfl rfl g 0 _ cap (by omega) (fun j hj => ?_) (fun j hj => hpFrozen h _), ?_, ?_⟩
      · have := h.cells (g := g) rfl j (.int .u8 (ys.getD j 0)) (by simp [bv, List.getElem?_eq_getElem hj, List.getD])
        rw [addr_add] at this
        rw [this]; rfl
      · have h1 := row_setCells (List.replicate ys.length (Value.int .u8 0)) _ 0 w h
        rw [setFrom_all _ _ (by simp [bv])] at h1
        simpa [bv, zeros] using h1
      · exact upd_setCells (S := fun k => (Value.slice (some ⟨g, 0, none⟩) ys.length cap).ownBlock = some k) (by simp [Value.ownBlock]) _ _ _ (Upd.refl _ _)
section
variable {t : TypeId} {F : Nat → Prop} {w w' : World} {b : Nat} {sz : Int} {av : Value} {R : List (ArrM × Value)}
/-- array i's bytes are others, as many, in their block -/
theorem Hp.relay (h : Hp t F w b sz av R) (ht : t ≠ 5) {i : Nat} (hi : i < R.length) (hu : Upd (fun k => R[i].2.ownBlock = some k) w w') (ys : List Int)
    (hr : w'.ownsRow 0 5 1 R[i].2 ys.length (bv ys)) (hy : ∀ y ∈ ys, 0 ≤ y ∧ y ≤ 255) (hl : ys.length ≤ 64) : Hp t F w' b sz av (R.set i (R[i].1.put ys, R[i].2)) := by
  have hm := h.dat _ (List.getElem_mem hi)
  refine ⟨hpBlk hu h.box (hpBoxNe hm.row h.box (Ne.symm ht)), ?_, fun p hp => ?_, ?_, h.fb, h.fr, fun k hk => Nat.lt_of_lt_of_le (h.lt k hk) hu.size⟩
  · rw [List.length_set, acl_keep R i hi]
    exact ownsRow_upd h.row hu (fun k hk hk' => hpRowNe h.row hm.row (by decide) k hk hk')
  · obtain ⟨k, hk, rfl⟩ := List.mem_iff_getElem.1 hp
    rw [List.length_set] at hk
    rw [List.getElem_set]
    split
    · exact ⟨hr, hy, hm.inn, hl⟩
    · rename_i he
      refine (h.dat _ (List.getElem_mem hk)).upd hu (fun q hq hq' => ?_)
      have hp2 := List.pairwise_iff_getElem.1 h.ap
      rcases Nat.lt_or_ge k i with h1 | h1
      · exact hp2 k i hk hi h1 _ hq hq'
      · exact hp2 i k hi hk (by omega) _ hq' hq
  · rw [List.pairwise_iff_getElem]
    intro k l hk hl hkl q hq hq'
    rw [List.length_set] at hk hl
    rw [snd_set R i hi _ k hk] at hq
    rw [snd_set R i hi _ l hl] at hq'
    exact List.pairwise_iff_getElem.1 h.ap k l hk hl hkl q hq hq'
end
end Go.Proofs.YtdmadfahgkikkaaDoor
/- Package heap: Clear, SetBuffer. -/
namespace Go.Proofs.YtdmadfahgkikkaaDoor
open Go.RowKit Go.ChangeShapes Go.WideShapes Go.Deep
set_option linter.unusedVariables false
set_option linter.unusedSimpArgs false

def clrR (life own : Int) (p : ArrM × Value) : ArrM × Value := (clrA life own p.1, p.2)
def midR (life own : Int) (R : List (ArrM × Value)) (k : Nat) : List (ArrM × Value) := (R.take k).map (clrR life own) ++ R.drop k
theorem midR_len (life own : Int) (R : List (ArrM × Value)) (k : Nat) (hk : k ≤ R.length) : (midR life own R k).length = R.length := by simp [midR]; omega
theorem midR_at (life own : Int) (R : List (ArrM × Value)) (k : Nat) (hk : k < R.length) : (midR life own R k)[k]? = some R[k] := by
  unfold midR
  rw [List.getElem?_append_right (by simp; omega)]
  simp [List.getElem?_drop, Nat.min_eq_left (by omega : k ≤ R.length), hk]
theorem midR_set (life own : Int) (R : List (ArrM × Value)) (k : Nat) (hk : k < R.length) : midR life own R (k + 1) = (midR life own R k).set k (clrR life own R[k]) := by
  have e1 : R.take (k + 1) = R.take k ++ [R[k]] := by rw [List.take_add_one, List.getElem?_eq_getElem hk]; rfl
  have e2 : R.drop k = R[k] :: R.drop (k + 1) := List.drop_eq_getElem_cons hk
  have e3 : ((R.take k).map (clrR life own)).length = k := by simp; omega
  unfold midR
  rw [e1, e2, List.map_append, List.set_append_right _ _ (by omega), e3, Nat.sub_self, List.append_assoc]
  rfl
theorem midR_zero (life own : Int) (R : List (ArrM × Value)) : midR life own R 0 = R := by simp [midR]
theorem midR_all (life own : Int) (R : List (ArrM × Value)) : midR life own R R.length = R.map (clrR life own) := by simp [midR]
theorem gone_take (life own : Int) (L : List ArrM) (k : Nat) (hk : k < L.length) : goneN (L.take (k + 1)) life own = goneN (L.take k) life own + (if endsB L[k] life own then 1 else 0) := by
  unfold goneN
  rw [List.take_add_one, List.filter_append, List.length_append, List.getElem?_eq_getElem hk]
  simp [List.filter_cons]
  split <;> simp
theorem gone_le (life own : Int) (L : List ArrM) : goneN L life own ≤ L.length := List.length_filter_le _ _
section
variable {F : Nat → Prop} {w : World} {b : Nat} {sz : Int} {av : Value} {R : List (ArrM × Value)}
theorem hSet_no (h : Hp 122 F w b sz av R) (ref : Int) (v : Value) (ys : List Int) (hv : Vw w v ys) (hf : bufB ref = false ∨ 64 < ys.length) :
    Calls Tryd.prog 36 #[.pointer (some ⟨b, 0, none⟩), .int .i64 ref, v] w fun e w' => e = .returned (.bool false) ∧ w = w' := by
  obtain ⟨da, dc, rfl, -, -⟩ := hv.slice
  cases hq : bufB ref with
  | false =>
    have HQ := Lib.hid hq
    clear hq hf
    go_enter Tryd.func36, Tryd.ntmps36
    go_wp2_with (refine (hBuffer _ _).mono ?_; rw [HQ.out]; rintro e w' ⟨rfl, rfl⟩)
    go_ret
    exact ⟨rfl, rfl⟩
  | true =>
    rw [hq] at hf
    have HQ := Lib.hid hq
    have hl : 64 < ys.length := by rcases hf with h | h; cases h; exact h
    clear hq hf
    go_enter Tryd.func36, Tryd.ntmps36
    go_wp2_with (refine (hBuffer _ _).mono ?_; rw [HQ.out]; rintro e w' ⟨rfl, rfl⟩)
    go_ret
    exact ⟨rfl, rfl⟩
theorem hpGive {t : TypeId} {w5 : World} {d : Value} {ys : List Int} {g c : Nat} (h : Hp t F w5 b sz (.slice (some ⟨g, 0, none⟩) R.length c) R) {i : Nat} (hi : i < R.length) (h5 : New w.drew d ys w5) (hy : ∀ y ∈ ys, 0 ≤ y ∧ y ≤ 255) (hl : ys.length ≤ 64) (hlt : ∀ k, F k → k < w.heap.size)
    (ht : t ≠ 50 := by decide) : Hp t (More F w (w5.setCell ⟨g, i * 5 + 4, none⟩ d)) (w5.setCell ⟨g, i * 5 + 4, none⟩ d) b sz (.slice (some ⟨g, 0, none⟩) R.length c) (R.set i (R[i].1.put ys, d)) := by
  have hsz : (w5.setCell ⟨g, i * 5 + 4, none⟩ d).heap.size = w5.heap.size := by simp [World.setCell]
  have h6 : Hp t (More F w (w5.setCell ⟨g, i * 5 + 4, none⟩ d)) w5 b sz (.slice (some ⟨g, 0, none⟩) R.length c) R := h.wide (fun k hk => .inl hk) (fun k hk => by
    rcases hk with hk | hk
    · exact h.lt k hk
    · rw [hsz] at hk; exact hk.2)
  refine h6.give ht hi rfl d ys h5.1 hy hl (fun k hk => ?_)
  have h1 := h5.2.2 k hk
  have h2 := hpRowLt h5.1 k hk
  simp at h1
  refine ⟨.inr ⟨h1, by rw [hsz]; exact h2⟩, fun p hp hpk => ?_⟩
  have := hlt k ((h.dat p hp).inn k hpk)
  omega
set_option maxHeartbeats 1000000 in
theorem hSet (h : Hp 122 F w b sz av R) {i : Nat} (hi : i < R.length) (hi2 : i < 2) (v : Value) (ys : List Int) (hv : Vw w v ys) (hl : ys.length ≤ 64) :
    Calls Tryd.prog 36 #[.pointer (some ⟨b, 0, none⟩), .int .i64 ((i : Int) + 1), v] w fun e w' => e = .returned (.bool true) ∧ (∃ d, Hp 122 (More F w w') w' b sz av (R.set i (R[i].1.put ys, d))) ∧ Upd F w w' := by
  obtain ⟨da, dc, rfl, -, -⟩ := hv.slice
  have HQ : Hid (bufB ((i : Int) + 1) = true) := Lib.hid (by simp [bufB]; omega)
  have H := Lib.hid (h.upd (Upd.drew (fun _ => False) w) (fun _ _ h => h))
  have HL := Lib.hid h.lt
  have HV := Lib.hid (hv.upd (Upd.drew (fun _ => False) w) (fun _ _ h => h))
  obtain ⟨h0, h1, h2⟩ := h.bx
  obtain ⟨g, c, rfl, -, -, -, -, k4, k5⟩ := h.at hi
  have f4 := k5 (i * 5 + 4)
  obtain ⟨oa, oc, hd, -, -⟩ := h.dslice hi
  rw [hd] at k4
  have hbl : b < w.heap.size := (Array.getElem?_eq_some_iff.1 h.box).1
  have hgl : g < w.heap.size := hpRowLt h.row g rfl
  have HUD := Lib.hid (Upd.drew (fun _ => False) w)
  have hw1 : IntKind.i64.wrap (i : Int) = (i : Int) := IntWalk.i64_in _ (by omega)
  have hi3 : (0 : Int) ≤ (i : Int) := Int.natCast_nonneg _
  have hi4 : (i : Int) < (R.length : Int) := by omega
  clear h hd k5 h2 h0 hv
  generalize hn : ys.length = n at *
  have HN := Lib.hid hn
  clear hn
  go_enter Tryd.func36, Tryd.ntmps36
  go_wp2_with (refine (hBuffer _ _).mono ?_; rw [HQ.out]; rintro e w' ⟨rfl, rfl⟩)
  go_region_law ((first
    | (go_simp; (refine (clone w.drew _ ys HV.out (by rw [HN.out]; omega)).mono ?_); rintro e w5 ⟨v', rfl, hnew⟩; have HX5 := Lib.hid hnew; have HC5 := Lib.hid (H.out.upd hnew.2.1 (fun _ _ h => h)); obtain ⟨va, vc, rfl⟩ := ownsRow_slice hnew.1; have c1 := HC5.out.bx.2.1; have c4 := ((hnew.2.1.cell (p := ⟨g, i * 5 + 4, none⟩) (by simpa using hgl) (fun h => h)).trans (by simpa using k4)); have c5 := ((hnew.2.1.frozen (p := ⟨g, i * 5 + 4, none⟩) (by simpa using hgl) (fun h => h)).trans (by simpa using f4)); clear hnew)))
  all_goals
    clear c1 c4 c5
    go_wp2_with fail
    go_ret
    refine ⟨rfl, ⟨.slice va ys.length vc, hpGive HC5.out hi (h5 := HX5.out) HV.out.1 (by rw [HN.out]; omega) HL.out⟩, ?_⟩
    exact hpS ((HUD.out.trans HX5.out.2.1 (fun _ h _ => h)).mono (T := F) (fun _ h _ => h.elim)) (HC5.out.fr g rfl)
end
end Go.Proofs.YtdmadfahgkikkaaDoor
/- Package heap: Copy. -/
namespace Go.Proofs.YtdmadfahgkikkaaDoor
open Go.RowKit Go.ChangeShapes Go.WideShapes Go.Deep
set_option linter.unusedVariables false
set_option linter.unusedSimpArgs false

/-- the blocks that were made since w -/
def Since (w w' : World) (k : Nat) : Prop := w.heap.size ≤ k ∧ k < w'.heap.size
section
variable {F : Nat → Prop} {w : World} {b : Nat} {sz : Int} {av : Value} {R : List (ArrM × Value)}
theorem cpMap {Q R : List (ArrM × Value)} {p : ArrM} {pd : Value} {hk : Q.length < R.length} (h : Q.map Prod.fst = (R.map Prod.fst).take Q.length) (hp : (p, pd) = R[Q.length]'hk) (hk' : Q.length < R.length) (d : Value) :
    (Q ++ [(p, d)]).map Prod.fst = (R.map Prod.fst).take (Q.length + 1) := by
  rw [List.map_append, h, List.take_add_one, List.getElem?_map, List.getElem?_eq_getElem hk', ← hp]
  rfl
theorem cpAdd {w wr w1 w5 w8 w9 : World} {Q : List (ArrM × Value)} {oa va : Option Addr} {oc vc : Nat} {a : ArrM} {d : Value} (hu : Upd (fun _ => False) w wr) (hu1 : Upd (fun _ => False) wr w1) (hd1 : Upd (fun _ => False) w1 w1.drew)
    (ho : Hp 122 (Since w wr) wr w.heap.size sz (.slice oa Q.length oc) Q) (ho5 : Hp 122 (Since w wr) w5 w.heap.size sz (.slice oa Q.length oc) Q) (h5 : New w1.drew d a.data w5)
    (h2 : Upd (fun k => (Value.slice oa Q.length oc).ownBlock = some k) w5 w9) (hrow : w9.ownsRow 0 50 5 (.slice va (Q.length + 1) vc) (Q.length + 1) (Q.flatMap acl ++ acl (a, d)))
    (hf : Fresh w8 (.slice oa Q.length oc) (.slice va (Q.length + 1) vc)) (h8 : w5.heap.size ≤ w8.heap.size)
    (hbox : w9.heap[w.heap.size]? = some (.cells #[.int .i64 sz, .slice oa Q.length oc] 122 (0, 0))) (hy : ∀ y ∈ a.data, 0 ≤ y ∧ y ≤ 255) (hl : a.data.length ≤ 64) :
    Hp 122 (Since w (w9.setCell ⟨w.heap.size, 1, none⟩ (.slice va (Q.length + 1) vc))) (w9.setCell ⟨w.heap.size, 1, none⟩ (.slice va (Q.length + 1) vc)) w.heap.size sz (.slice va (Q.length + 1) vc) (Q ++ [(a, d)]) ∧
    Upd (fun _ => False) w (w9.setCell ⟨w.heap.size, 1, none⟩ (.slice va (Q.length + 1) vc)) := by
  have hsz : (w9.setCell ⟨w.heap.size, 1, none⟩ (.slice va (Q.length + 1) vc)).heap.size = w9.heap.size := by simp [World.setCell]
  have hu5 : Upd (fun _ => False) w w5 := ((hu.trans hu1 (fun _ h _ => h)).trans hd1 (fun _ h _ => h)).trans h5.2.1 (fun _ h _ => h)
  have s1 := hu1.size
  have s2 := hd1.size
  have s3 := h5.2.1.size
  have s4 := h2.size
  have s0 := hu.size
  refine ⟨?_, ?_⟩
  · refine (hpAdd (w := w) ho5 h2 (by decide) (by decide) hrow hf h8 ⟨rfl, rfl⟩ hbox h5.1 (fun k hk => ?_) hu5 hy hl).wide (fun k hk => ?_) (fun k hk => hk.2)
    · have k1 := h5.2.2 k hk
      have k2 := hpRowLt h5.1 k hk
      refine ⟨by omega, k2, fun q hq hqk => ?_⟩
      have := ((ho.dat q hq).inn k hqk).2
      omega
    · rcases hk with hk | hk
      · exact ⟨hk.1, by rw [hsz]; have := hk.2; omega⟩
      · exact hk
  · refine hu5.trans (T := fun q => w.heap.size ≤ q) ?_ (fun k hk hlt => by omega)
    exact hpS (h2.mono (fun k hk _ => (ho.fr k hk).1)) (Nat.le_refl _)
end
end Go.Proofs.YtdmadfahgkikkaaDoor
/- Package heap: its methods, said of the plain heap. -/
namespace Go.Proofs.YtdmadfahgkikkaaDoor
open Go.RowKit Go.ChangeShapes Go.WideShapes Go.Deep
set_option linter.unusedVariables false
set_option linter.unusedSimpArgs false

theorem fst_at {R : List (ArrM × Value)} {L : List ArrM} (h : R.map Prod.fst = L) {i : Nat} (hi : i < L.length) : ∃ hr : i < R.length, R[i].1 = L.getD i default := by
  subst h
  have hr : i < R.length := by simpa using hi
  exact ⟨hr, by simp [List.getD, hr]⟩
theorem fst_len {R : List (ArrM × Value)} {L : List ArrM} (h : R.map Prod.fst = L) : R.length = L.length := by rw [← h]; simp
theorem fst_set {R : List (ArrM × Value)} {L : List ArrM} (h : R.map Prod.fst = L) (i : Nat) (a : ArrM) (d : Value) : (R.set i (a, d)).map Prod.fst = L.set i a := by rw [List.map_set, h]
abbrev HT : TypeId := 122
section
variable {F : Nat → Prop} {w : World} {b : Nat} {m : HpM}
theorem pCount (h : Hep HT F w b m) : Calls Tryd.prog 64 #[.pointer (some ⟨b, 0, none⟩)] w fun e w' => e = .returned (.int .i64 (m.arrs.length : Int)) ∧ w = w' := by
  obtain ⟨av, R, h, hR⟩ := h
  rw [← fst_len hR]
  exact hCount h
theorem pUsed (h : Hep HT F w b m) (hl : m.arrs.length ≤ 1000) : Calls Tryd.prog 92 #[.pointer (some ⟨b, 0, none⟩)] w fun e w' => e = .returned (.int .i64 (usedP m.arrs : Int)) ∧ Upd (fun _ => False) w w' := by
  obtain ⟨av, R, h, hR⟩ := h
  have := hUsed h (by rw [fst_len hR]; exact hl)
  rw [hR] at this
  exact this
theorem pGet_none (h : Hep HT F w b m) (ref at_ : Int) (hr : hasB m.arrs.length ref = false) : Calls Tryd.prog 79 #[.pointer (some ⟨b, 0, none⟩), .int .i64 ref, .int .i64 at_] w fun e w' => e = .returned (.tuple #[.int .u8 0, .bool false]) ∧ w = w' := by
  obtain ⟨av, R, h, hR⟩ := h
  exact hGet_none h ref at_ (by rw [fst_len hR]; exact hr)
theorem pGet_out (h : Hep HT F w b m) {i : Nat} (hi : i < m.arrs.length) (hl : m.arrs.length ≤ 1000) (at_ : Int) (ha : at_ < 0 ∨ ((m.arrs.getD i default).data.length : Int) ≤ at_) : Calls Tryd.prog 79 #[.pointer (some ⟨b, 0, none⟩), .int .i64 ((i : Int) + 1), .int .i64 at_] w fun e w' => e = .returned (.tuple #[.int .u8 0, .bool false]) ∧ w = w' := by
  obtain ⟨av, R, h, hR⟩ := h
  obtain ⟨hr, e⟩ := fst_at hR hi
  exact hGet_out h hr (by rw [fst_len hR]; exact hl) at_ (by rw [e]; exact ha)
theorem pGet (h : Hep HT F w b m) {i : Nat} (hi : i < m.arrs.length) (hl : m.arrs.length ≤ 1000) {j : Nat} (hj : j < (m.arrs.getD i default).data.length) : Calls Tryd.prog 79 #[.pointer (some ⟨b, 0, none⟩), .int .i64 ((i : Int) + 1), .int .i64 j] w fun e w' => e = .returned (.tuple #[.int .u8 ((m.arrs.getD i default).data.getD j 0), .bool true]) ∧ w = w' := by
  obtain ⟨av, R, h, hR⟩ := h
  obtain ⟨hr, e⟩ := fst_at hR hi
  rw [← e] at hj ⊢
  exact hGet h hr (by rw [fst_len hR]; exact hl) hj
theorem pPut_none (h : Hep HT F w b m) (ref at_ y : Int) (hr : hasB m.arrs.length ref = false) : Calls Tryd.prog 80 #[.pointer (some ⟨b, 0, none⟩), .int .i64 ref, .int .i64 at_, .int .u8 y] w fun e w' => e = .returned (.bool false) ∧ w = w' := by
  obtain ⟨av, R, h, hR⟩ := h
  exact hPut_none h ref at_ y (by rw [fst_len hR]; exact hr)
theorem pPut_out (h : Hep HT F w b m) {i : Nat} (hi : i < m.arrs.length) (hl : m.arrs.length ≤ 1000) (at_ y : Int) (ha : at_ < 0 ∨ ((m.arrs.getD i default).data.length : Int) ≤ at_) : Calls Tryd.prog 80 #[.pointer (some ⟨b, 0, none⟩), .int .i64 ((i : Int) + 1), .int .i64 at_, .int .u8 y] w fun e w' => e = .returned (.bool false) ∧ w = w' := by
  obtain ⟨av, R, h, hR⟩ := h
  obtain ⟨hr, e⟩ := fst_at hR hi
  exact hPut_out h hr (by rw [fst_len hR]; exact hl) at_ y (by rw [e]; exact ha)
theorem pPut (h : Hep HT F w b m) {i : Nat} (hi : i < m.arrs.length) (hl : m.arrs.length ≤ 1000) {j : Nat} (hj : j < (m.arrs.getD i default).data.length) (y : Int) (hy : 0 ≤ y ∧ y ≤ 255) : Calls Tryd.prog 80 #[.pointer (some ⟨b, 0, none⟩), .int .i64 ((i : Int) + 1), .int .i64 j, .int .u8 y] w fun e w' => e = .returned (.bool true) ∧ Hep HT F w' b (m.put i j y) ∧ Upd F w w' := by
  obtain ⟨av, R, h, hR⟩ := h
  obtain ⟨hr, e⟩ := fst_at hR hi
  rw [← e] at hj
  refine (hPut h hr (by rw [fst_len hR]; exact hl) hj y hy).mono ?_
  rintro x w' ⟨rfl, h1, h2⟩
  refine ⟨rfl, ⟨av, _, h1, ?_⟩, h2⟩
  rw [fst_set hR, e]
  rfl
theorem pArray_no (h : Hep HT F w b m) (ref : Int) (hr : hasB m.arrs.length ref = false) : Calls Tryd.prog 17 #[.pointer (some ⟨b, 0, none⟩), .int .i64 ref] w fun e w' => e = .returned (.tuple #[zarr, .bool false]) ∧ Upd (fun _ => False) w w' := by
  obtain ⟨av, R, h, hR⟩ := h
  exact hArray_no h ref (by rw [fst_len hR]; exact hr)
theorem pArray (h : Hep HT F w b m) {i : Nat} (hi : i < m.arrs.length) (hl : m.arrs.length ≤ 1000) : Calls Tryd.prog 17 #[.pointer (some ⟨b, 0, none⟩), .int .i64 ((i : Int) + 1)] w fun e w' => ∃ d, e = .returned (.tuple #[aval (m.arrs.getD i default) d, .bool true]) ∧ New w d (m.arrs.getD i default).data w' := by
  obtain ⟨av, R, h, hR⟩ := h
  obtain ⟨hr, e⟩ := fst_at hR hi
  rw [← e]
  exact hArray h hr (by rw [fst_len hR]; exact hl)
theorem pAlloc_no (h : Hep HT F w b m) (hl : m.arrs.length ≤ 1000) (hs : 0 ≤ m.size ∧ m.size ≤ 4096) (own lab life n : Int) (sh : Bool) (hf : fitsB m lab life n = false) :
    Calls Tryd.prog 76 #[.pointer (some ⟨b, 0, none⟩), .int .i64 own, .int .i64 lab, .int .i64 life, .bool sh, .int .i64 n] w fun e w' => e = .returned (.tuple #[.int .i64 0, .bool false]) ∧ Upd (fun _ => False) w w' := by
  obtain ⟨av, R, h, hR⟩ := h
  exact hAlloc_no h (by rw [fst_len hR]; exact hl) hs own lab life n sh (by rw [hR]; exact hf)
theorem pAlloc (h : Hep HT F w b m) (hl : m.arrs.length ≤ 1000) (hs : 0 ≤ m.size ∧ m.size ≤ 4096) (own lab life n : Int) (sh : Bool) (hf : fitsB m lab life n = true) :
    Calls Tryd.prog 76 #[.pointer (some ⟨b, 0, none⟩), .int .i64 own, .int .i64 lab, .int .i64 life, .bool sh, .int .i64 n] w fun e w' => e = .returned (.tuple #[.int .i64 ((m.arrs.length + 1 : Nat) : Int), .bool true]) ∧ Hep HT (More F w w') w' b (m.add (newA own lab life sh n)) ∧ Upd F w w' := by
  obtain ⟨av, R, h, hR⟩ := h
  rw [← fst_len hR]
  refine (hAlloc h (by rw [fst_len hR]; exact hl) hs own lab life n sh (by rw [hR]; exact hf)).mono ?_
  rintro x w' ⟨rfl, ⟨av', d, h1⟩, h2⟩
  refine ⟨rfl, ⟨av', _, h1, ?_⟩, h2⟩
  rw [List.map_append, hR]
  rfl
theorem pSet_no (h : Hep HT F w b m) (ref : Int) (v : Value) (ys : List Int) (hv : Vw w v ys) (hf : bufB ref = false ∨ 64 < ys.length) :
    Calls Tryd.prog 36 #[.pointer (some ⟨b, 0, none⟩), .int .i64 ref, v] w fun e w' => e = .returned (.bool false) ∧ w = w' := by
  obtain ⟨av, R, h, hR⟩ := h
  exact hSet_no h ref v ys hv hf
theorem pSet (h : Hep HT F w b m) {i : Nat} (hi : i < m.arrs.length) (hi2 : i < 2) (v : Value) (ys : List Int) (hv : Vw w v ys) (hl : ys.length ≤ 64) :
    Calls Tryd.prog 36 #[.pointer (some ⟨b, 0, none⟩), .int .i64 ((i : Int) + 1), v] w fun e w' => e = .returned (.bool true) ∧ Hep HT (More F w w') w' b (m.lay i ys) ∧ Upd F w w' := by
  obtain ⟨av, R, h, hR⟩ := h
  obtain ⟨hr, e⟩ := fst_at hR hi
  refine (hSet h hr hi2 v ys hv hl).mono ?_
  rintro x w' ⟨rfl, ⟨d, h1⟩, h2⟩
  refine ⟨rfl, ⟨av, _, h1, ?_⟩, h2⟩
  rw [fst_set hR, e]
  rfl
theorem pNew (s : Int) (h1 : 64 ≤ s) (h2 : s ≤ 4096) : Calls Tryd.prog 31 #[.int .i64 s] w fun e w' => ∃ b, e = .returned (.tuple #[.pointer (some ⟨b, 0, none⟩), .int .i64 0]) ∧ Hep HT (Since w w') w' b (two s) ∧ Upd (fun _ => False) w w' := hNew s w h1 h2
end
end Go.Proofs.YtdmadfahgkikkaaDoor

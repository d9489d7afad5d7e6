/- Package heap: Alloc. -/
import Derived.Test.YtdmadfahgkikkaaGreatHdk
import Derived.IntWalk
import Derived.Deep.RegionHeld3
import Derived.Deep.RegionLaw
namespace Go.Proofs.YtdmadfahgkikkaaGreat
open Go.RowKit Go.ChangeShapes Go.WideShapes Go.Deep
set_option linter.unusedVariables false
set_option linter.unusedSimpArgs false

theorem hpStep {P : Program} {ops : Array Oper} {o : Oper} {a : Act} {w : World} {K : Act → World → Prop} {Q : Exit → Act → World → Prop} {E : Prop}
    (hg : o.guard = none) (s x : Operand) (t : TypeId) (hop : o.op = Op.call { callee := Callee.builtin Builtin.append, args := #[s, x], argTypes := #[t, t] })
    (base : Nat) (e : TypeId) (i : TypeInfo) (z : Value) (size bytes : Nat) (ht : P.underlying t = some (.slice e)) (hi : P.info? e = some i) (hz : i.zero = some z)
    (hsize : i.size = size) (hby : i.bytes = bytes) (hzs : z.cells.size = size) (hsz : 0 < size)
    (v : Value) (n : Nat) (xs : List Value) (hs : a.eval s = v) (hown : w.ownsRow base e size v n xs)
    (m : Nat) (news : List Value) (hx : Src w size (a.eval x) m news)
    (h63 : n + m ≤ maxLen) (hbytes : (n + m) * bytes ≤ 140737488355328) (hbase : base ≤ w.heap.size)
    (hK : ∀ v' w', w'.ownsRow base e size v' (n + m) (xs ++ news) → w.grownBy w' v.ownBlock → Fresh w v v' → K (a.put o.dst v') w') :
    if Region.wanted o (yielded ops a.tmps) = true then Oper.wp P o a w K Q else E := by
  have hw : Region.wanted o (yielded ops a.tmps) = true := by simp [Region.wanted, hg]
  rw [if_pos hw]
  obtain ⟨v', w', hr, h2, h3, h4⟩ := run_append_mine (P := P) w base t o.type e i z size bytes ht hi hz hsize hby hzs hsz v n xs hown (a.eval x) m news hx h63 hbytes hbase
  have hK' := hK v' w' h2 h3 h4
  unfold Oper.wp
  simp [execOp, hop, resolve, invoke, builtin, hs, hr, Result.andThen]
  exact hK'
theorem hpSrc (w : World) (e : TypeId) (cs : Array Value) (sz : Nat) (h1 : ∀ u ∈ cs.toList, u.oneCell' = true) (n c : Nat) (hn : cs.size = n * sz) :
    Src (w.alloc (.cells cs e)) sz (.slice (some ⟨w.heap.size, 0, none⟩) n c) n cs.toList := by
  refine .inr ⟨_, _, rfl, by simpa using hn, fun j u hj => ?_, h1⟩
  have hadd : (⟨w.heap.size, 0, none⟩ : Addr).add j = ⟨w.heap.size, j, none⟩ := by unfold Addr.add; split <;> simp_all
  rw [hadd]
  show (match (w.heap.push _)[w.heap.size]? with | some (.cells c _ _) => _ | _ => _) = _
  simpa using hj
theorem hpDrewN (S : Nat → Prop) (w : World) (n : Nat) : Upd S w (w.drewN n) := ⟨rfl, rfl, rfl, Nat.le_refl _, fun _ _ _ => rfl⟩
theorem fits_no {sz : Int} {L : List ArrM} {lab life n : Int} (h : fitsB ⟨sz, L⟩ lab life n = false) :
    labB lab = false ∨ (labB lab = true ∧ lifeB life = false) ∨ (labB lab = true ∧ lifeB life = true ∧ n < 0) ∨ (labB lab = true ∧ lifeB life = true ∧ 0 ≤ n ∧ 64 < n) ∨ (labB lab = true ∧ lifeB life = true ∧ 0 ≤ n ∧ n ≤ 64 ∧ sz - (usedP L : Int) < 8 + n) := by
  simp only [fitsB] at h
  cases h1 : labB lab <;> cases h2 : lifeB life <;> simp_all
  omega
section
variable {F : Nat → Prop} {w : World} {b : Nat} {sz : Int} {av : Value} {R : List (ArrM × Value)}
set_option maxHeartbeats 1000000 in
theorem hAlloc_no (h : Hp 92 F w b sz av R) (hl : R.length ≤ 1000) (hs : 0 ≤ sz ∧ sz ≤ 4096) (own lab life n : Int) (sh : Bool) (hf : fitsB ⟨sz, R.map Prod.fst⟩ lab life n = false) :
    Calls Tryz.prog 93 #[.pointer (some ⟨b, 0, none⟩), .int .i64 own, .int .i64 lab, .int .i64 life, .bool sh, .int .i64 n] w fun e w' => e = .returned (.tuple #[.int .i64 0, .bool false]) ∧ Upd (fun _ => False) w w' := by
  have hu := used_le (L := R.map Prod.fst) (fun x hx => by obtain ⟨p, hp, rfl⟩ := List.mem_map.1 hx; exact (h.dat p hp).len) R.length (by simp)
  rw [List.take_of_length_le (by simp)] at hu
  have H1 := Lib.hid (h.upd (Upd.drew (fun _ => False) w) (fun _ _ h => h))
  have HC : Hid (∀ w', Upd (fun _ => False) w.drew w' → w'.cell? ⟨b, 0, none⟩ = some (.int .i64 sz)) := Lib.hid (fun w' hu => (H1.out.upd hu (fun _ _ h => h)).bx.1)
  have HD := Lib.hid (Upd.drew (fun _ => False) w)
  have HR0 := Lib.hid (Upd.refl (fun _ => False) w.drew)
  have HUS := Lib.hid (hUsed H1.out hl)
  obtain ⟨c0, c1, cf⟩ := h.bx
  have HF := Lib.hid hf
  have hcase := fits_no hf
  clear h hf
  generalize usedP (R.map Prod.fst) = u at *
  rcases hcase with h1 | ⟨h1, h2⟩ | ⟨h1, h2, h3⟩ | ⟨h1, h2, h3, h4⟩ | ⟨h1, h2, h3, h4, h5⟩
  · have HL := Lib.hid h1
    clear h1
    go_enter Tryz.func93, Tryz.ntmps93
    go_wp2_with fail
    go_quiet (exact Calls.quiet_of_same ((hLabel _ _).mono fun _ _ h => ⟨by rw [h.1, HL.out], h.2.symm⟩))
    go_wp2_with fail
    refine bodyPost_ret (v := .tuple #[.int .i64 0, .bool false]) (by simp only [results, Tryz.f93]; simp [go_sem]) rfl ?_
    exact ⟨rfl, hpDrewN _ _ _⟩
  · have HL := Lib.hid h1
    have HL2 := Lib.hid h2
    clear h1 h2
    go_enter Tryz.func93, Tryz.ntmps93
    go_wp2_with fail
    go_quiet (first
      | exact Calls.quiet_of_same ((hLabel _ _).mono fun _ _ h => ⟨by rw [h.1, HL.out], h.2.symm⟩)
      | exact Calls.quiet_of_same ((hLife _ _).mono fun _ _ h => ⟨by rw [h.1, HL2.out], h.2.symm⟩))
    go_wp2_with fail
    refine bodyPost_ret (v := .tuple #[.int .i64 0, .bool false]) (by simp only [results, Tryz.f93]; simp [go_sem]) rfl ?_
    exact ⟨rfl, hpDrewN _ _ _⟩
  · have HL := Lib.hid h1
    have HL2 := Lib.hid h2
    clear h1 h2
    have t1 : decide (n < 0) = true := by simp; omega
    go_enter Tryz.func93, Tryz.ntmps93
    go_wp2_with fail
    go_quiet (first
      | exact Calls.quiet_of_same ((hLabel _ _).mono fun _ _ h => ⟨by rw [h.1, HL.out], h.2.symm⟩)
      | exact Calls.quiet_of_same ((hLife _ _).mono fun _ _ h => ⟨by rw [h.1, HL2.out], h.2.symm⟩))
    go_wp2_with fail
    refine bodyPost_ret (v := .tuple #[.int .i64 0, .bool false]) (by simp only [results, Tryz.f93]; simp [go_sem]) rfl ?_
    exact ⟨rfl, hpDrewN _ _ _⟩
  · have HL := Lib.hid h1
    have HL2 := Lib.hid h2
    clear h1 h2
    have t1 : decide (n < 0) = false := by simp; omega
    have t2 : decide (64 < n) = true := by simp; omega
    go_enter Tryz.func93, Tryz.ntmps93
    go_wp2_with fail
    go_quiet (first
      | exact Calls.quiet_of_same ((hLabel _ _).mono fun _ _ h => ⟨by rw [h.1, HL.out], h.2.symm⟩)
      | exact Calls.quiet_of_same ((hLife _ _).mono fun _ _ h => ⟨by rw [h.1, HL2.out], h.2.symm⟩))
    go_wp2_with fail
    refine bodyPost_ret (v := .tuple #[.int .i64 0, .bool false]) (by simp only [results, Tryz.f93]; simp [go_sem]) rfl ?_
    exact ⟨rfl, hpDrewN _ _ _⟩
  · have HL := Lib.hid h1
    have HL2 := Lib.hid h2
    clear h1 h2
    have t1 : decide (n < 0) = false := by simp; omega
    have t2 : decide (64 < n) = false := by simp; omega
    have hw1 : IntKind.i64.wrap (8 + n) = 8 + n := IntWalk.i64_in _ (by omega)
    have hw2 : IntKind.i64.wrap (sz - (u : Int)) = sz - u := IntWalk.i64_in _ (by omega)
    have t3 : decide (sz - (u : Int) < 8 + n) = true := by simp; omega
    go_enter Tryz.func93, Tryz.ntmps93
    go_wp2_with fail
    go_region_held3 (fun w' => w'.cell? ⟨b, 0, none⟩ = some (.int .i64 sz)) (first
      | with_reducible exact HC.out _ HR0.out
      | with_reducible exact HC.out _ HX5.out) ((first
      | (go_at_call 104; (refine (hLabel _ _).mono ?_); rw [HL.out]; rintro e w' ⟨rfl, rfl⟩)
      | (go_at_call 105; (refine (hLife _ _).mono ?_); rw [HL2.out]; rintro e w' ⟨rfl, rfl⟩)
      | (go_at_call 106; (refine HUS.out.mono ?_); rintro e w5 ⟨rfl, hu5⟩; have HX5 := Lib.hid hu5; clear hu5)))
    all_goals
      go_wp2_with fail
      refine bodyPost_ret (v := .tuple #[.int .i64 0, .bool false]) (by simp only [results, Tryz.f93]; simp [go_sem]) rfl ?_
      exact ⟨rfl, HD.out.trans HX5.out (fun _ h _ => h)⟩
theorem fits_yes {sz : Int} {L : List ArrM} {lab life n : Int} (h : fitsB ⟨sz, L⟩ lab life n = true) :
    labB lab = true ∧ lifeB life = true ∧ 0 ≤ n ∧ n ≤ 64 ∧ 8 + n ≤ sz - (usedP L : Int) := by
  simp only [fitsB] at h
  simp_all
theorem b8Info : (Tryz.prog.info? 5).map (fun i => (i.zero, i.size, i.bytes)) = some (some (.int .u8 0), 1, 1) := by kernel_rfl
theorem arrInfo : (Tryz.prog.info? 89).map (fun i => (i.zero, i.size, i.bytes)) = some (some zarr, 5, 56) := by kernel_rfl
/-- one array more -/
theorem hpAdd {t : TypeId} {w7 w8 w9 : World} {aa va : Option Addr} {ac vc m m' : Nat} {a : ArrM} {d : Value} (h7 : Hp t F w7 b sz (.slice aa R.length ac) R) (h2 : Upd (fun k => (Value.slice aa R.length ac).ownBlock = some k) w7 w9)
    (ht : t ≠ 5) (ht2 : t ≠ 89) (hrow : w9.ownsRow 0 89 5 (.slice va m vc) m' (R.flatMap acl ++ acl (a, d)))
    (hf : Fresh w8 (.slice aa R.length ac) (.slice va m vc)) (h8 : w7.heap.size ≤ w8.heap.size) (hm : m = R.length + 1 ∧ m' = R.length + 1)
    (hbox : w9.heap[b]? = some (.cells #[.int .i64 sz, .slice aa R.length ac] t (0, 0)))
    (hd : w7.ownsRow 0 5 1 d a.data.length (bv a.data)) (hn : ∀ k, d.ownBlock = some k → w.heap.size ≤ k ∧ k < w7.heap.size ∧ ∀ q ∈ R, ¬ q.2.ownBlock = some k)
    (hu : Upd (fun _ => False) w w7) (hy : (∀ y ∈ a.data, 0 ≤ y ∧ y ≤ 255) := by exact zeros_byte _) (hl : a.data.length ≤ 64 := by simp only [newA, zeros_len]; omega) :
    Hp t (More F w (w9.setCell ⟨b, 1, none⟩ (.slice va m vc))) (w9.setCell ⟨b, 1, none⟩ (.slice va m vc)) b sz (.slice va m vc) (R ++ [(a, d)]) := by
  obtain ⟨rfl, rfl⟩ := hm
  have hsz : (w9.setCell ⟨b, 1, none⟩ (.slice va (R.length + 1) vc)).heap.size = w9.heap.size := by simp [World.setCell]
  have h79 := h2.size
  have hw7 := hu.size
  refine Hp.turn hbox (.inl h7.fb) (fun k hk => ?_) ht ht2 _ _ ?_ (fun p hp => ?_) (ap_snoc h7.ap (fun k hk => (hn k hk).2.2)) (fun k hk => ?_)
  · rcases hk with hk | hk
    · exact Nat.lt_of_lt_of_le (h7.lt k hk) h79
    · rw [hsz] at hk; exact hk.2
  · rw [List.length_append, List.flatMap_append]
    simpa using hrow
  · rcases List.mem_append.1 hp with hp | hp
    · exact ((h7.dat p hp).upd h2 (fun k hk hk' => hpRowNe (h7.dat p hp).row h7.row (by decide) k hk hk')).wide (fun k hk => .inl hk)
    · simp at hp
      subst hp
      refine ⟨ownsRow_upd hd h2 (fun k hk hk' => hpRowNe hd h7.row (by decide) k hk hk'), hy, fun k hk => .inr ?_, hl⟩
      have := hn k hk
      rw [hsz]
      exact ⟨this.1, by omega⟩
  · rcases hf k hk with h | h
    · exact .inl (h7.fr k h)
    · refine .inr ⟨?_, ?_⟩
      · omega
      · rw [hsz]; exact hpRowLt hrow k hk
set_option maxHeartbeats 1000000 in
theorem hAlloc (h : Hp 92 F w b sz av R) (hl : R.length ≤ 1000) (hs : 0 ≤ sz ∧ sz ≤ 4096) (own lab life n : Int) (sh : Bool) (hf : fitsB ⟨sz, R.map Prod.fst⟩ lab life n = true) :
    Calls Tryz.prog 93 #[.pointer (some ⟨b, 0, none⟩), .int .i64 own, .int .i64 lab, .int .i64 life, .bool sh, .int .i64 n] w fun e w' => e = .returned (.tuple #[.int .i64 ((R.length + 1 : Nat) : Int), .bool true]) ∧
      (∃ av' d, Hp 92 (More F w w') w' b sz av' (R ++ [(newA own lab life sh n, d)])) ∧ Upd F w w' := by
  have hu := used_le (L := R.map Prod.fst) (fun x hx => by obtain ⟨p, hp, rfl⟩ := List.mem_map.1 hx; exact (h.dat p hp).len) R.length (by simp)
  rw [List.take_of_length_le (by simp)] at hu
  have H1 := Lib.hid (h.upd (Upd.drew (fun _ => False) w) (fun _ _ h => h))
  have HC : Hid (∀ w', Upd (fun _ => False) w.drew w' → w'.cell? ⟨b, 0, none⟩ = some (.int .i64 sz)) := Lib.hid (fun w' hu => (H1.out.upd hu (fun _ _ h => h)).bx.1)
  have HD := Lib.hid (Upd.drew (fun _ => False) w)
  have HR0 := Lib.hid (Upd.refl (fun _ => False) w.drew)
  have HUS := Lib.hid (hUsed H1.out hl)
  obtain ⟨c0, c1, cf⟩ := h.bx
  obtain ⟨h1, h2, h3, h4, h5⟩ := fits_yes hf
  obtain ⟨i0, hi, hz0, hz1, hz2⟩ := info_parts b8Info
  obtain ⟨j0, hj, hy0, hy1, hy2⟩ := info_parts arrInfo
  have HLT := Lib.hid h.lt
  clear h hf
  generalize usedP (R.map Prod.fst) = u at *
  have HL := Lib.hid h1
  have HL2 := Lib.hid h2
  clear h1 h2
  obtain ⟨n, rfl⟩ := Int.eq_ofNat_of_zero_le h3
  have t1 : decide ((n : Int) < 0) = false := by simp
  have t2 : decide (64 < (n : Int)) = false := by simp; omega
  have hw1 : IntKind.i64.wrap (8 + (n : Int)) = 8 + n := IntWalk.i64_in _ (by omega)
  have hw2 : IntKind.i64.wrap (sz - (u : Int)) = sz - u := IntWalk.i64_in _ (by omega)
  have t3 : decide (sz - (u : Int) < 8 + n) = false := by simp; omega
  go_enter Tryz.func93, Tryz.ntmps93
  go_wp2_with fail
  go_region_held3 (fun w' => w'.cell? ⟨b, 0, none⟩ = some (.int .i64 sz)) (first
    | with_reducible exact HC.out _ HR0.out
    | with_reducible exact HC.out _ HX5.out) ((first
    | (go_at_call 104; (refine (hLabel _ _).mono ?_); rw [HL.out]; rintro e w' ⟨rfl, rfl⟩)
    | (go_at_call 105; (refine (hLife _ _).mono ?_); rw [HL2.out]; rintro e w' ⟨rfl, rfl⟩)
    | (go_at_call 106; (refine HUS.out.mono ?_); rintro e w5 ⟨rfl, hu5⟩; have HX5 := Lib.hid hu5; clear hu5)))
  all_goals
    have H2 := Lib.hid (H1.out.upd HX5.out (fun _ _ h => h))
    go_wp2_with ((refine wpList_make_full w5 rfl _ _ 81 rfl 0 5 i0 (.int .u8 0) 1 Tryz.underlying81 hi hz0 hz1 .i64 .i64 (n : Int) (n : Int) n rfl rfl rfl rfl (by rw [hz2]; omega) (by unfold maxLen; omega) (Nat.zero_le _) ?_))
    intro w6 ho hg
    have hu6 : Upd (fun _ => False) w5 w6 := Upd.grown hg (fun k hk => by cases hk)
    have hd6 : w6.ownsRow 0 5 1 (.slice (some ⟨w5.heap.size, 0, none⟩) n n) (zeros n).length (bv (zeros n)) := by
      have h := ho
      rw [made_zeros] at h
      rw [zeros_len]
      exact h
    have hs6 : w5.heap.size < w6.heap.size := hpRowLt ho w5.heap.size rfl
    obtain ⟨w7, hw7⟩ : ∃ w7, w7 = w6.alloc (.cells #[.int .i64 own, .int .i64 lab, .int .i64 life, .bool sh, .slice (some ⟨w5.heap.size, 0, none⟩) n n] 89) := ⟨_, rfl⟩
    have hu7 : Upd (fun _ => False) w6 w7 := by rw [hw7]; exact Upd.alloc _ _ _
    have hx7 : w7.heap[w6.heap.size]? = some (.cells #[.int .i64 own, .int .i64 lab, .int .i64 life, .bool sh, .slice (some ⟨w5.heap.size, 0, none⟩) n n] 89 (0, 0)) := by rw [hw7]; exact hpTop _ _ _ rfl
    have hs7 : w7.heap.size = w6.heap.size + 1 := by rw [hw7]; simp
    have HW := Lib.hid hw7
    have H7 := Lib.hid ((H2.out.upd hu6 (fun _ _ h => h)).upd hu7 (fun _ _ h => h))
    have HD7 := Lib.hid (ownsRow_upd hd6 hu7 (fun _ _ h => h))
    have HX7 := Lib.hid hx7
    have HZ := Lib.hid (And.intro hs6 hs7)
    have HU7 := Lib.hid (((HD.out.trans HX5.out (fun _ h _ => h)).trans hu6 (fun _ h _ => h)).trans hu7 (fun _ h _ => h))
    clear ho hg hu6 hd6 hs6 hw7 hu7 hx7 hs7
    obtain ⟨aa, ac, rfl⟩ := H7.out.len
    have HC8 : Hid (∀ w', Upd (fun k => (Value.slice aa R.length ac).ownBlock = some k) w7 w' → w'.cell? ⟨b, 1, none⟩ = some (.slice aa R.length ac) ∧ w'.cell? ⟨w6.heap.size, 0, none⟩ = some (.int .i64 own) ∧ w'.cell? ⟨w6.heap.size, 1, none⟩ = some (.int .i64 lab) ∧ w'.cell? ⟨w6.heap.size, 2, none⟩ = some (.int .i64 life) ∧ w'.cell? ⟨w6.heap.size, 3, none⟩ = some (.bool sh) ∧ w'.cell? ⟨w6.heap.size, 4, none⟩ = some (.slice (some ⟨w5.heap.size, 0, none⟩) n n) ∧ w'.frozen? ⟨b, 1, none⟩ = false) := Lib.hid (fun w' hu => by
      have hz := HZ.out
      obtain ⟨k0, k1, k2, k3, k4, -⟩ := five (hpBlk hu HX7.out (fun h => by have := hpRowLt H2.out.row _ h; omega))
      have hb := hpBlk hu H7.out.box (fun h => hpBoxNe H7.out.row H7.out.box (by decide) h)
      exact ⟨by simp [World.cell?, hb], k0, k1, k2, k3, k4, by simp [World.frozen?, hb]⟩)
    have HR7 := Lib.hid (Upd.refl (fun _ => False) w7.drew)
    go_wp2_with fail
    rw [← HW.out]
    have HA7 := Lib.hid (Upd.alloc (fun k => (Value.slice aa R.length ac).ownBlock = some k) w7.drew (.cells #[.int .i64 own, .int .i64 lab, .int .i64 life, .bool sh, .slice (some ⟨w5.heap.size, 0, none⟩) n n] 89))
    have HRW : Hid ((w7.drew.alloc (.cells #[.int .i64 own, .int .i64 lab, .int .i64 life, .bool sh, .slice (some ⟨w5.heap.size, 0, none⟩) n n] 89)).ownsRow 0 89 5 (.slice aa R.length ac) R.length (R.flatMap acl)) := Lib.hid (((H7.out.upd (Upd.drew (fun _ => False) w7) (fun _ _ h => h)).row).alloc _)
    have HSR : Hid (Src (w7.drew.alloc (.cells #[.int .i64 own, .int .i64 lab, .int .i64 life, .bool sh, .slice (some ⟨w5.heap.size, 0, none⟩) n n] 89)) 5 (.slice (some ⟨w7.heap.size, 0, none⟩) 1 1) 1 (acl (newA own lab life sh n, .slice (some ⟨w5.heap.size, 0, none⟩) n n))) := Lib.hid (hpSrc w7.drew 89 #[.int .i64 own, .int .i64 lab, .int .i64 life, .bool sh, .slice (some ⟨w5.heap.size, 0, none⟩) n n] 5 (by simp [Value.oneCell']) 1 1 rfl)
    have HDR := Lib.hid (Upd.drew (fun k => (Value.slice aa R.length ac).ownBlock = some k) w7)
    obtain ⟨q1, e0, e1, e2, e3, e4, q2⟩ := HC8.out w7 (Upd.refl _ _)
    have hbl : b < w7.heap.size := (Array.getElem?_eq_some_iff.1 H7.out.box).1
    have hbl6 : w6.heap.size < w7.heap.size := by have := HZ.out; omega
    go_region_law ((first
      | (refine hpStep rfl (.tmp 54) (.tmp 56) 90 rfl 0 89 j0 zarr 5 56 Tryz.underlying90 hj hy0 hy1 hy2 rfl (by decide) (.slice aa R.length ac) R.length (R.flatMap acl) rfl HRW.out 1 _ HSR.out (by unfold maxLen; omega) (by omega) (Nat.zero_le _) ?_; intro v9 w9 ho hg hf; have hu9 := (HDR.out.trans HA7.out (fun _ h _ => h)).trans (Upd.grown (S := fun k => (Value.slice aa R.length ac).ownBlock = some k) hg (fun k hk => .inl hk)) (fun _ h _ => h); have HX9 := Lib.hid hu9; have hb9 := hpBlk hu9 H7.out.box (fun h => hpBoxNe H7.out.row H7.out.box (by decide) h); have c9 : w9.cell? ⟨b, 1, none⟩ = some (.slice aa R.length ac) := (by simp [World.cell?, hb9]); have b9 : w9.frozen? ⟨b, 1, none⟩ = false := (by simp [World.frozen?, hb9]); have HB9 := Lib.hid hb9; obtain ⟨va, vc, rfl⟩ := ownsRow_slice ho; have HO9 := Lib.hid ho; have HF9 := Lib.hid hf; clear ho hg hf hu9 hb9)))
    all_goals
      clear q1 e0 e1 e2 e3 e4 q2
      go_wp2_with fail
      refine bodyPost_ret (v := .tuple #[.int .i64 ((R.length + 1 : Nat) : Int), .bool true]) (by simp only [results, Tryz.f93]; simp [go_sem]) rfl ?_
      refine ⟨rfl, ⟨_, .slice (some ⟨w5.heap.size, 0, none⟩) n n, hpAdd H7.out (h2 := HX9.out) (t := 92) (by decide) (by decide) HO9.out HF9.out (by simp) (by simp) HB9.out HD7.out ?_ HU7.out⟩, ?_⟩
      · intro k hk
        simp [Value.ownBlock] at hk
        subst hk
        have := HZ.out
        have hs := (HD.out.trans HX5.out (fun _ h _ => h)).size
        exact ⟨by omega, by omega, fun q hq => fun h => by have := hpRowLt (H2.out.dat q hq).row _ h; omega⟩
      · refine (HU7.out.mono (fun _ h _ => h.elim)).trans (T := F) ?_ (fun _ h _ => h)
        exact hpS (HX9.out.mono (fun k h _ => H7.out.fr k h)) H7.out.fb
end
end Go.Proofs.YtdmadfahgkikkaaGreat

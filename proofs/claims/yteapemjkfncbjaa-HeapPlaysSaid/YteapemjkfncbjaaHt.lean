/- The reference's heap: Alloc, where it makes one. -/
import Derived.Test.YteapemjkfncbjaaHs
import Derived.Deep.OwnRows
namespace Go.Proofs.Yteapemjkfncbjaa
open Go.RowKit Go.Lib Go.ChangeShapes Go.WideShapes Go.Deep
set_option linter.unusedVariables false
set_option linter.unusedSimpArgs false

theorem uD {S : Nat → Prop} {w0 w : World} (h : Upd S w0 w) : Upd S w0 w.drew := h.trans (Upd.drew S w) (fun _ h _ => h)
theorem rD {w : World} {base : Nat} {e : TypeId} {size n : Nat} {v : Value} {xs : List Value} (h : w.ownsRow base e size v n xs) : w.drew.ownsRow base e size v n xs := ownsRow_upd h (Upd.drew (fun _ => False) w) (fun _ _ h => h)
theorem zUp {S : Nat → Prop} {w0 wc w6 : World} {r : Option Nat} (hg : wc.grownBy w6 r) (h : Upd S w0 wc) : w0.heap.size ≤ wc.heap.size := h.size
theorem hpStep0 {P : Program} {ops : Array Oper} {o : Oper} {a : Act} {w : World} {K : Act → World → Prop} {Q : Exit → Act → World → Prop} {E : Prop}
    (hg : o.guard = none) (s x : Operand) (t : TypeId) (hop : o.op = Op.call { callee := Callee.builtin Builtin.append, args := #[s, x], argTypes := #[t, t] })
    (e : TypeId) (i : TypeInfo) (z : Value) (size bytes : Nat) (ht : P.underlying t = some (.slice e)) (hi : P.info? e = some i) (hz : i.zero = some z)
    (hsize : i.size = size) (hby : i.bytes = bytes) (hzs : z.cells.size = size) (hsz : 0 < size)
    (g : Nat) (hs : a.eval s = .slice (some ⟨g, 0, none⟩) 0 0)
    (m : Nat) (news : List Value) (hm : 0 < m) (hx : Src w size (a.eval x) m news)
    (h63 : m ≤ maxLen) (hbytes : m * bytes ≤ 140737488355328)
    (hK : ∀ v' w', w'.ownsRow 0 e size v' m news → Upd (fun _ => False) w w' → (∀ k, v'.ownBlock = some k → w.heap.size ≤ k) → K (a.put o.dst v') w') :
    if Region.wanted o (yielded ops a.tmps) = true then Oper.wp P o a w K Q else E := by
  have hw : Region.wanted o (yielded ops a.tmps) = true := by simp [Region.wanted, hg]
  rw [if_pos hw]
  rcases hx with ⟨_, h0, _⟩ | ⟨ad, c, hev, hl, hnews, h1⟩
  · omega
  · obtain ⟨v', w', h2, h3, h4⟩ := run_append_arg_grows (P := P) w t o.type e i z size bytes ht hi hz hsize hby hzs hsz ⟨g, 0, none⟩ 0 0 [] (by simp) (by simp) ad m c news hl hnews (by omega) (by omega) (by simpa using hbytes)
    have h5 : w'.ownsRow 0 e size v' m news := by
      refine ⟨by simpa using h3.1, ?_⟩
      rcases h3.2 with ⟨h, h'⟩ | ⟨g', cap, cur, h5, h6, h7⟩
      · exact .inl ⟨h, by omega⟩
      · rw [Nat.zero_add] at h5 h7
        exact .inr ⟨g', cap, cur, h5, by omega, by simpa using h7⟩
    have hK' := hK v' w' h5 ⟨h4.os, h4.tape, h4.output, h4.size, fun k hk _ => h4.block k hk (by simp)⟩ (fun k hk => (h3.lt k hk).1)
    unfold Oper.wp
    simp [execOp, hop, resolve, invoke, builtin, hs, hev, h2, Result.andThen]
    exact hK'
theorem mkRow (u : World) (n X : Nat) (hn : n ≤ 64) (hX : X = u.heap.size) : (u.alloc (.cells (madeCells #[.int .u8 0] n) 5)).ownsRow 0 5 1 (.slice (some ⟨X, 0, none⟩) n n) n (bv (zeros n)) := by
  subst hX
  have h := World.ownsRow_lit (base := 0) (e := 5) (size := 1) u (madeCells #[.int .u8 0] n) n (Nat.zero_le _) (by unfold maxLen; omega) (by simp [madeCells])
  rw [made_zeros] at h
  exact h
theorem srcAtX (u : World) (cs : Array Value) (X : Nat) (hX : X = u.heap.size) (h1 : ∀ v ∈ cs.toList, v.oneCell' = true) (hn : cs.size = 5) : Src (u.alloc (.cells cs 38)) 5 (.slice (some ⟨X, 0, none⟩) 1 1) 1 cs.toList := by
  subst hX
  exact hpSrc u 38 cs 5 h1 1 1 (by simpa using hn)
theorem rAdd {F : Nat → Prop} {w wc w9 : World} {b : Nat} {sz : Int} {av : Value} {R : List (ArrM × Value)} {va v9 : Option Addr} {vc c9 m : Nat} {a : ArrM} {d : Value} (h : Hp RT F w b sz av R) (hg : wc.grownBy w9 (Value.slice va R.length vc).ownBlock) (hf : Fresh wc (.slice va R.length vc) (.slice v9 m c9))
    (ho : w9.ownsRow 0 38 5 (.slice v9 m c9) (R.length + 1) (R.flatMap acl ++ acl (a, d))) (hn7 : ∀ k, (Value.slice va R.length vc).ownBlock = some k → w.heap.size ≤ k) (hy : ∀ y ∈ a.data, 0 ≤ y ∧ y ≤ 255) (hl : a.data.length ≤ 64) (hnd : ∀ k, d.ownBlock = some k → w.heap.size ≤ k)
    (hu : Upd (fun _ => False) w wc) (hrow7 : wc.ownsRow 0 38 5 (.slice va R.length vc) R.length (R.flatMap acl)) (hd : wc.ownsRow 0 5 1 d a.data.length (bv a.data)) :
    (w9.cell? ⟨b, 1, none⟩ = some av ∧ w9.frozen? ⟨b, 1, none⟩ = false) ∧ Hp RT (More F w (w9.setCell ⟨b, 1, none⟩ (.slice v9 m c9))) (w9.setCell ⟨b, 1, none⟩ (.slice v9 m c9)) b sz (.slice v9 m c9) (R ++ [(a, d)]) ∧ Upd F w (w9.setCell ⟨b, 1, none⟩ (.slice v9 m c9)) := by
  have hu9 : Upd (fun k => (Value.slice va R.length vc).ownBlock = some k) wc w9 := Upd.grown (S := fun k => (Value.slice va R.length vc).ownBlock = some k) hg (fun k hk => .inl hk)
  have hsz : (w9.setCell ⟨b, 1, none⟩ (.slice v9 m c9)).heap.size = w9.heap.size := by simp [World.setCell]
  have s1 := hu.size
  have s2 := hu9.size
  have hbl := (Array.getElem?_eq_some_iff.1 h.box).1
  have hbc := hpBlk hu h.box (fun h => h)
  have hbox := hpBlk hu9 hbc (hpBoxNe hrow7 hbc (by decide))
  refine ⟨⟨by simp [World.cell?, hbox], by simp [World.frozen?, hbox]⟩, ?_, ?_⟩
  · refine Hp.turn hbox (.inl h.fb) (fun k hk => ?_) (by decide) (by decide) _ _ ?_ (fun p hp => ?_) (ap_snoc h.ap (fun k hk q hq hqk => ?_)) (fun k hk => .inr ⟨?_, by rw [hsz]; exact hpRowLt ho k hk⟩)
    · rcases hk with hk | hk
      · have := h.lt k hk; omega
      · rw [hsz] at hk; exact hk.2
    · rw [List.length_append, List.flatMap_append]
      simpa using ho
    · rcases List.mem_append.1 hp with hp | hp
      · have hm := (h.dat p hp).upd hu (fun _ _ h => h)
        exact (hm.upd hu9 (fun k hk hk' => hpRowNe hm.row hrow7 (by decide) k hk hk')).wide (fun k hk => .inl hk)
      · simp at hp
        subst hp
        refine ⟨ownsRow_upd hd hu9 (fun k hk hk' => hpRowNe hd hrow7 (by decide) k hk hk'), hy, fun k hk => .inr ⟨hnd k hk, ?_⟩, hl⟩
        rw [hsz]
        have := hpRowLt hd k hk
        omega
    · have h1 := hnd k hk
      have h2 := h.lt k ((h.dat q hq).inn k hqk)
      omega
    · rcases hf k hk with h1 | h1
      · exact hn7 k h1
      · omega
  · refine hpS ?_ h.fb
    refine (hu.mono (T := F) (fun _ h _ => h.elim)).trans (T := fun k => w.heap.size ≤ k) (hu9.mono (fun k hk _ => hn7 k hk)) (fun k hk hl => by omega)
section
variable {F : Nat → Prop} {w : World} {b : Nat} {sz : Int} {av : Value} {R : List (ArrM × Value)}
set_option maxRecDepth 100000 in
set_option maxHeartbeats 8000000 in
theorem rAlloc3 (h : Hp RT F w b sz av R) (hl : R.length ≤ 1000) (h0 : 0 < R.length) (hs : 0 ≤ sz ∧ sz ≤ 4096) (own life : Int) (n : Nat) (sh : Bool) (hf : fitsB ⟨sz, R.map Prod.fst⟩ 3 life n = true) :
    Calls Try.prog 25 #[.pointer (some ⟨b, 0, none⟩), .int .i64 own, .int .i64 3, .int .i64 life, .bool sh, .int .i64 n] w fun e w' => e = .returned (.tuple #[.int .i64 ((R.length + 1 : Nat) : Int), .bool true]) ∧
      (∃ av' d, Hp RT (More F w w') w' b sz av' (R ++ [(newA own 3 life sh n, d)])) ∧ Upd F w w' := by
  have hu := used_le (L := R.map Prod.fst) (fun x hx => by obtain ⟨p, hp, rfl⟩ := List.mem_map.1 hx; exact (h.dat p hp).len) R.length (by simp)
  rw [List.take_of_length_le (by simp)] at hu
  have HUS : Hid (∀ u, Upd (fun _ => False) w u → Calls Try.prog 41 #[.pointer (some ⟨b, 0, none⟩)] u fun e w' => e = .returned (.int .i64 (usedP (R.map Prod.fst) : Int)) ∧ u = w') := Lib.hid (fun u hu => rUsed (h.upd hu (fun _ _ h => h)) hl)
  obtain ⟨c0, c1, cf⟩ := h.bx
  obtain ⟨h1, h2, h3, h4, h5⟩ := fits_yes hf
  have hlf := life012 h2
  obtain ⟨i0, hi, hz0, hz1, hz2⟩ := info_parts b8Info
  obtain ⟨j0, hj, hy0, hy1, hy2⟩ := info_parts arrInfo
  have H := Lib.hid h
  clear h hf h1 h2
  generalize usedP (R.map Prod.fst) = u at *
  have t1 : decide (life < 0) = false := by simp; omega
  have t2 : decide (2 < life) = false := by simp; omega
  have t3 : decide ((n : Int) < 0) = false := by simp
  have t4 : decide (64 < (n : Int)) = false := by simp; omega
  have hw1 : IntKind.i64.wrap (8 + (n : Int)) = 8 + n := IntWalk.i64_in _ (by omega)
  have hw2 : IntKind.i64.wrap (sz - (u : Int)) = sz - u := IntWalk.i64_in _ (by omega)
  have t5 : decide (sz - (u : Int) < 8 + n) = false := by simp; omega
  · go_enter Try.func25, Try.ntmps25
    go_wp2_with fail
    go_quiet (first
      | exact Calls.quiet_of_same ((HUS.out _ (Upd.refl _ _)).mono fun _ _ h => ⟨h.1, h.2.symm⟩)
      | exact Calls.quiet_of_same ((HUS.out _ (Upd.drew _ _)).mono fun _ _ h => ⟨h.1, h.2.symm⟩)
      | exact Calls.quiet_of_same ((HUS.out _ (hpDrewN _ _ _)).mono fun _ _ h => ⟨h.1, h.2.symm⟩))
    go_wp2_with fail
    clear t1 t2 t3 t4 t5 hw1 hw2 c0 c1 cf
    obtain ⟨w0, hw0⟩ : ∃ w0, w0 = w.drewN nq := ⟨_, rfl⟩
    have hu0 : Upd (fun _ => False) w w0 := by rw [hw0]; exact hpDrewN _ _ _
    rw [← hw0]
    have H0 := Lib.hid (H.out.upd hu0 (fun _ _ h => h))
    have HUW := Lib.hid hu0
    clear hw0 hu0
    obtain ⟨q0, q1, qf⟩ := H0.out.bx
    obtain ⟨aa, ac, rfl⟩ := H0.out.len
    have hbl : b < w0.heap.size := (Array.getElem?_eq_some_iff.1 H0.out.box).1
    have HSR : Hid (∀ w', Upd (fun _ => False) w0 w' → Src w' 5 (.slice aa R.length ac) R.length (R.flatMap acl)) := Lib.hid (fun w' hu => (hpSrcRow H0.out.row H0.out.one).upd hu (fun _ _ h => h))
    have HU6 := Lib.hid (Upd.refl (fun _ => False) w0)
    have HU7 := Lib.hid (Upd.refl (fun _ => False) w0)
    have hbl1 : b < w0.heap.size + 1 := by omega
    have hbl2 : b < w0.heap.size + 1 + 1 := by omega
    have hbl3 : b < w0.heap.size + 1 + 1 + 1 := by omega
    have HMK := fun u : World => run_make_row (P := Try.prog) 31 5 i0 (.int .u8 0) Try.underlying31 hi hz0 hz1 rfl .i64 .i64 n (by rw [hz2]; omega) (by omega) u
    go_region_law ((first
      | (refine hpStep rfl (.tmp 54) (.tmp 62) 34 rfl 0 38 j0 zarr 5 56 Try.underlying34 hj hy0 hy1 hy2 rfl (by decide) (.slice va R.length vc) R.length (R.flatMap acl) rfl (by first | exact HO7.out | exact HO7.out.alloc _ | exact (HO7.out.alloc _).alloc _) 1 (acl (newA own 3 life sh n, .slice (some ⟨_, 0, none⟩) n n)) (by first | exact srcAtX _ #[.int .i64 own, .int .i64 3, .int .i64 life, .bool sh, .slice (some ⟨_, 0, none⟩) n n] _ (by simp) (by simp [Value.oneCell']) rfl | exact Src.upd (srcAtX _ #[.int .i64 own, .int .i64 3, .int .i64 life, .bool sh, .slice (some ⟨_, 0, none⟩) n n] _ (by simp) (by simp [Value.oneCell']) rfl) HV7.out (fun _ _ h => h) | exact Src.upd (Src.upd (srcAtX _ #[.int .i64 own, .int .i64 3, .int .i64 life, .bool sh, .slice (some ⟨_, 0, none⟩) n n] _ (by simp) (by simp [Value.oneCell']) rfl) (Upd.drew (fun _ => False) _) (fun _ _ h => h)) HV7.out (fun _ _ h => h) | exact Src.upd (Src.upd (srcAtX _ #[.int .i64 own, .int .i64 3, .int .i64 life, .bool sh, .slice (some ⟨_, 0, none⟩) n n] _ (by simp) (by simp [Value.oneCell']) rfl) (uD (Upd.alloc (fun _ => False) _ _)) (fun _ _ h => h)) HV7.out (fun _ _ h => h)) (by unfold maxLen; omega) (by omega) (Nat.zero_le _) ?_; intro v9 w9 ho hg hf; obtain ⟨v9a, v9c, rfl⟩ := ownsRow_slice ho; have HADD := Lib.hid (rAdd H0.out hg hf ho HN7.out (zeros_byte _) (by simp only [newA, zeros_len]; omega) (fun k hk => by simp [Value.ownBlock] at hk; omega) (by (repeat (first | refine uA ?_ | refine uD ?_)); first | exact HU7.out | exact Upd.refl _ _) (by first | exact HO7.out | exact HO7.out.alloc _ | exact (HO7.out.alloc _).alloc _) (by simp only [newA, zeros_len]; first | exact mkRow _ n _ (by omega) (by simp) | exact (mkRow _ n _ (by omega) (by simp)).alloc _ | exact ownsRow_upd (by (try refine rD ?_); first | exact mkRow _ n _ (by omega) (by simp) | exact (mkRow _ n _ (by omega) (by simp)).alloc _ | exact ((mkRow _ n _ (by omega) (by simp)).alloc _).alloc _) HV7.out (fun _ _ h => h) | exact (ownsRow_upd (by (try refine rD ?_); first | exact mkRow _ n _ (by omega) (by simp) | exact (mkRow _ n _ (by omega) (by simp)).alloc _ | exact ((mkRow _ n _ (by omega) (by simp)).alloc _).alloc _) HV7.out (fun _ _ h => h)).alloc _)); have q1 := HADD.out.1.1; have q2 := HADD.out.1.2; clear ho hg hf)
      | (refine hpStep0 rfl (.tmp 49) (.tmp 53) 34 rfl 38 j0 zarr 5 56 Try.underlying34 hj hy0 hy1 hy2 rfl (by decide) _ rfl R.length (R.flatMap acl) h0 (HSR.out _ (by (repeat (first | refine uA ?_ | refine uD ?_)); first | exact HU7.out | exact Upd.refl _ _)) (by unfold maxLen; omega) (by omega) ?_; intro v7 w7 ho hu hn; obtain ⟨va, vc, rfl⟩ := ownsRow_slice ho; have hup : Upd (fun _ => False) w0 w7 := Upd.trans (by (repeat (first | refine uA ?_ | refine uD ?_)); first | exact HU7.out | exact Upd.refl _ _) hu (fun _ h _ => h); have HN7 : Hid (∀ k, (Value.slice va R.length vc).ownBlock = some k → w0.heap.size ≤ k) := Lib.hid (fun k hk => Nat.le_trans (show w0.heap.size ≤ _ from Upd.size (by (repeat (first | refine uA ?_ | refine uD ?_)); first | exact HU7.out | exact Upd.refl _ _)) (hn k hk)); have HU7 := Lib.hid hup; have HO7 := Lib.hid ho; have HV7 := Lib.hid hu; have hsz7 := hu.size; simp at hsz7; clear ho hu hn hup)))
    all_goals
      go_wp2_with fail
      clear q1 q2
      refine bodyPost_ret (v := .tuple #[.int .i64 ((R.length + 1 : Nat) : Int), .bool true]) (by simp only [results, Try.f25]; simp [go_sem]) rfl ?_
      have hsw := HUW.out.size
      exact ⟨rfl, ⟨_, _, HADD.out.2.1.wide (fun k hk => by rcases hk with hk | hk; exact .inl hk; exact .inr ⟨by omega, hk.2⟩) (fun k hk => by
        rcases hk with hk | hk
        · exact HADD.out.2.1.lt k (.inl hk)
        · exact hk.2)⟩, (HUW.out.mono (T := F) (fun _ h _ => h.elim)).trans HADD.out.2.2 (fun _ h _ => h)⟩
end
end Go.Proofs.Yteapemjkfncbjaa

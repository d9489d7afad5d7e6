/- The hand's Applet: of raw statements. -/
import Derived.Test.YtmikibcgphkcfaaGreatDoorMt
import Derived.Test.YtmikibcgphkcfaaGreatDoorMs
import Derived.Deep.RegionLaw
import Derived.Deep.Cut
import Derived.Deep.CutRange
import Derived.Deep.DeepCutAuto
namespace Go.Proofs.YtmikibcgphkcfaaGreatDoor
open Go.RowKit Go.Lib
set_option linter.unusedVariables false
set_option linter.unusedSimpArgs false

/-- a piece of raw ones -/
theorem RawsAt.sub {w : World} {a : Option Addr} {n c : Nat} {L : List RawR} (h : RawsAt w (.slice a n c) L) {lo hi : Nat} (h1 : lo ≤ hi) (h2 : hi ≤ L.length) :
    RawsAt w (.slice (if c = lo then a else a.map (·.add (lo * 4))) (hi - lo) (c - lo)) ((L.drop lo).take (hi - lo)) := by
  have hlen : ((L.drop lo).take (hi - lo)).length = hi - lo := by simp; omega
  by_cases he : hi - lo = 0
  · refine .inl ⟨⟨_, _, by rw [he]⟩, ?_⟩
    rw [he]; simp
  · rcases h with ⟨_, rfl⟩ | ⟨g, off, c', hv, hc1, hc2, hat⟩
    · simp at h2; omega
    · simp at hv
      obtain ⟨rfl, rfl, rfl⟩ := hv
      rw [if_neg (by omega)]
      refine .inr ⟨g, off + lo * 4, c - lo, ?_, by rw [hlen]; omega, by omega, fun i hi' => ?_⟩
      · simp [hlen, addr_add]
      · rw [hlen] at hi'
        have := hat (lo + i) (by omega)
        rw [show off + lo * 4 + i * 4 = off + (lo + i) * 4 by omega]
        have e : ((L.drop lo).take (hi - lo)).getD i default = L.getD (lo + i) default := by
          simp [List.getD, hi', List.getElem?_drop]
        rw [e]; exact this

theorem RawsAt.take {w : World} {a : Option Addr} {n c : Nat} {L : List RawR} (h : RawsAt w (.slice a n c) L) {hi : Nat} (h2 : hi ≤ L.length) : RawsAt w (.slice a hi c) (L.take hi) := by
  have hlen : (L.take hi).length = hi := by simp; omega
  by_cases he : hi = 0
  · refine .inl ⟨⟨_, _, by rw [he]⟩, by rw [he]; simp⟩
  · rcases h with ⟨_, rfl⟩ | ⟨g, off, c', hv, hc1, hc2, hat⟩
    · simp at h2; omega
    · simp at hv
      obtain ⟨rfl, rfl, rfl⟩ := hv
      refine .inr ⟨g, off, c, by rw [hlen], by rw [hlen]; omega, hc2, fun i hi' => ?_⟩
      rw [hlen] at hi'
      have := hat i (by omega)
      have e : (L.take hi).getD i default = L.getD i default := by simp [List.getD, hi']
      rw [e]; exact this
theorem RawsAt.later {W w : World} {v : Value} {L : List RawR} (h : RawsAt W v L) (hb : Below W.heap.size W w) : RawsAt w v L := by
  rcases h with h | ⟨g, off, c, rfl, h1, h2, h3⟩
  · exact .inl h
  · exact .inr ⟨g, off, c, rfl, h1, h2, fun i hi => (h3 i hi).below hb⟩
theorem blk_top (w : World) (o : Obj) (k : Nat) (h : k = w.heap.size) : (w.alloc o).heap[k]? = some o := by
  subst h
  show (w.heap.push o)[w.heap.size]? = _
  simp
/-- a block reads so -/
theorem Sl.blk {w : World} {g : Nat} {C : Array Value} {e : TypeId} {fr : Nat × Nat} (h : w.heap[g]? = some (.cells C e fr)) (sz n c : Nat) (hC : n * sz ≤ C.size) (hc : n ≤ c) (hm : c ≤ maxLen) :
    Sl w (.slice (some ⟨g, 0, none⟩) n c) sz n (fun i j => C.getD (i * sz + j) (.int .i64 0)) := by
  refine ⟨_, c, rfl, hc, hm, .inr ⟨_, 0, rfl, fun i hi j hj => ?_⟩⟩
  have hlt : i * sz + j < C.size := by
    have : (i + 1) * sz ≤ n * sz := Nat.mul_le_mul_right _ hi
    rw [Nat.add_mul] at this
    omega
  simp [World.cell?, h, hlt]
theorem Ints.blk {w : World} {g : Nat} {C : Array Value} {e : TypeId} {fr : Nat × Nat} (h : w.heap[g]? = some (.cells C e fr)) (L : List Int) (hL : (iv L) <+: C.toList) (c : Nat) (hc : L.length ≤ c) (hm : c ≤ maxLen) (hw : ∀ n ∈ L, wi64 n) : Ints w (.slice (some ⟨g, 0, none⟩) L.length c) L := by
  obtain ⟨r, hr⟩ := hL
  have hs : L.length ≤ C.size := by
    have := congrArg List.length hr
    simp [iv] at this
    omega
  refine ⟨(Sl.blk h 1 L.length c (by omega) hc hm).congr (fun i hi j hj => ?_), hw⟩
  obtain rfl : j = 0 := by omega
  have hlt : i < C.size := by omega
  have e1 : C.getD (i * 1 + 0) (.int .i64 0) = C.toList.getD i (.int .i64 0) := by simp [Array.getD, List.getD, hlt]
  rw [e1, ← hr]
  simp [List.getD, iv, List.getElem?_append, hi]
theorem Src.blk {w : World} {g : Nat} {C : Array Value} {e : TypeId} {fr : Nat × Nat} (h : w.heap[g]? = some (.cells C e fr)) (L : List Int) (hL : (iv L) <+: C.toList) (c : Nat) : Src w 1 (.slice (some ⟨g, 0, none⟩) L.length c) L.length (iv L) := by
  obtain ⟨r, hr⟩ := hL
  refine .inr ⟨_, c, rfl, by simp [iv], fun j u hj => ?_, fun u hu => ?_⟩
  · rw [addr_add]
    have hlt : j < (iv L).length := (List.getElem?_eq_some_iff.1 hj).1
    have : C.toList[j]? = some u := by rw [← hr, List.getElem?_append_left hlt, hj]
    simp [World.cell?, h]
    simpa using this
  · obtain ⟨n, -, rfl⟩ := List.mem_map.1 hu
    rfl
/-- what Applet lays, block by block from N on; the three codes -/
structure App (w0 w : World) (N : Nat) (s s1 s2 : ByteArray) (c0 c1 c2 : Value) (C0 C1 C2 : List InsM) : Prop where
  sz : w0.heap.size = N
  up : Upd (fun _ => False) w0 w
  b0 : ∃ a b c d e, w.heap[N]? = some (.cells #[a, b, c, d, e] 27 (0, 0))
  b1 : w.heap[N + 1]? = some (.cells #[.int .i64 1, .int .i64 2, .int .i64 3, .int .i64 4] 3 (0, 0))
  b2 : w.heap[N + 2]? = some (.cells #[.int .i64 1, .int .i64 2, .int .i64 3, .int .i64 4] 3 (0, 0))
  b3 : w.heap[N + 3]? = some (.cells #[.int .i64 1, .int .i64 2] 3 (0, 0))
  b4 : w.heap[N + 4]? = some (.cells #[.string s, .slice (some ⟨N + 2, 0, none⟩) 4 4, .slice (some ⟨N + 7, 0, none⟩) 2 2, .slice (some ⟨N + 10, 0, none⟩) 3 3, .slice (some ⟨N + 3, 0, none⟩) 2 2] 27 (0, 0))
  b5 : w.heap[N + 5]? = some (.cells #[.int .i64 1, .int .i64 2] 3 (0, 0))
  b6 : w.heap[N + 6]? = some (.cells #[.int .i64 4, .int .i64 3] 3 (0, 0))
  b7 : w.heap[N + 7]? = some (.cells #[.string s1, .int .i64 0, .slice (some ⟨N + 5, 0, none⟩) 2 2, .int .i64 2, .string s2, .int .i64 1, .slice (some ⟨N + 6, 0, none⟩) 2 2, .int .i64 3] 43 (0, 0))
  b8 : w.heap[N + 8]? = some (.cells #[.int .i64 1, .int .i64 2] 3 (0, 0))
  b9 : w.heap[N + 9]? = some (.cells #[.int .i64 4, .int .i64 3] 3 (0, 0))
  b10 : w.heap[N + 10]? = some (.cells #[.slice none 0 0, .int .i64 0, .slice (some ⟨N + 1, 0, none⟩) 4 4, c0, .slice (some ⟨N + 8, 0, none⟩) 2 2, .int .i64 2, .slice (some ⟨N + 1, 0, none⟩) 4 4, c1, .slice (some ⟨N + 9, 0, none⟩) 2 2, .int .i64 3, .slice (some ⟨N + 1, 0, none⟩) 2 4, c2] 39 (0, 0))
  k0 : Inss w c0 C0 ∧ ∀ k, c0.ownBlock = some k → N + 11 ≤ k
  k1 : Inss w c1 C1 ∧ ∀ k, c1.ownBlock = some k → N + 11 ≤ k
  k2 : Inss w c2 C2 ∧ ∀ k, c2.ownBlock = some k → N + 11 ≤ k
  ns : s.size ≤ 5 ∧ s1.size ≤ 5 ∧ s2.size ≤ 5
theorem stay_blk {S : Nat → Prop} {w w' : World} {k : Nat} {o : Obj} (hu : Upd S w w') (h : w.heap[k]? = some o) (hS : ¬ S k) : w'.heap[k]? = some o := (hu.block k (Array.getElem?_eq_some_iff.1 h).1 hS).trans h
theorem Inss.stay {S : Nat → Prop} {w w' : World} {v : Value} {C : List InsM} {N : Nat} (h : Inss w v C ∧ ∀ k, v.ownBlock = some k → N + 11 ≤ k) (hu : Upd S w w') (hS : ∀ k, S k → k < N + 11) : Inss w' v C ∧ ∀ k, v.ownBlock = some k → N + 11 ≤ k :=
  ⟨⟨h.1.1.upd hu (fun k hk hSk => by have := h.2 k hk; have := hS k hSk; omega), h.1.2⟩, h.2⟩
section
variable {w0 w w' : World} {N : Nat} {s s1 s2 : ByteArray} {c0 c1 c2 : Value} {C0 C1 C2 : List InsM}
theorem App.keep (h : App w0 w N s s1 s2 c0 c1 c2 C0 C1 C2) (hu : Upd (fun _ => False) w w') : App w0 w' N s s1 s2 c0 c1 c2 C0 C1 C2 :=
  ⟨h.sz, h.up.trans hu (fun _ h _ => h), (h.b0.imp fun a ⟨b, c, d, e, x⟩ => ⟨b, c, d, e, stay_blk hu x id⟩), stay_blk hu h.b1 id, stay_blk hu h.b2 id, stay_blk hu h.b3 id, stay_blk hu h.b4 id, stay_blk hu h.b5 id, stay_blk hu h.b6 id, stay_blk hu h.b7 id, stay_blk hu h.b8 id, stay_blk hu h.b9 id, stay_blk hu h.b10 id,
    Inss.stay h.k0 hu (fun _ h => h.elim), Inss.stay h.k1 hu (fun _ h => h.elim), Inss.stay h.k2 hu (fun _ h => h.elim), h.ns⟩
theorem App.upS (h : App w0 w N s s1 s2 c0 c1 c2 C0 C1 C2) (j : Nat) (v : Value) : Upd (fun _ => False) w0 (w.setCell ⟨N + 10, j, none⟩ v) :=
  upd_of_new (W := ⟨w0, fun _ => False⟩) h.up (box_upd w (N + 10) j v) (fun k hk => .inr (show w0.heap.size ≤ k by rw [h.sz, hk]; omega))
theorem App.set0 (h : App w0 w N s s1 s2 c0 c1 c2 C0 C1 C2) {v : Value} {C : List InsM} (hv : Inss w v C ∧ ∀ k, v.ownBlock = some k → N + 11 ≤ k) : App w0 (w.setCell ⟨N + 10, 3, none⟩ v) N s s1 s2 v c1 c2 C C1 C2 := by
  have hu := box_upd w (N + 10) 3 v
  have hS : ∀ k, k = N + 10 → k < N + 11 := fun k hk => by omega
  exact ⟨h.sz, h.upS 3 v, (h.b0.imp fun a ⟨b, c, d, e, x⟩ => ⟨b, c, d, e, stay_blk hu x (by omega)⟩), stay_blk hu h.b1 (by omega), stay_blk hu h.b2 (by omega), stay_blk hu h.b3 (by omega), stay_blk hu h.b4 (by omega), stay_blk hu h.b5 (by omega), stay_blk hu h.b6 (by omega), stay_blk hu h.b7 (by omega), stay_blk hu h.b8 (by omega), stay_blk hu h.b9 (by omega),
    by simp [World.setCell, Array.getElem?_modify, h.b10], Inss.stay hv hu hS, Inss.stay h.k1 hu hS, Inss.stay h.k2 hu hS, h.ns⟩
theorem App.set1 (h : App w0 w N s s1 s2 c0 c1 c2 C0 C1 C2) {v : Value} {C : List InsM} (hv : Inss w v C ∧ ∀ k, v.ownBlock = some k → N + 11 ≤ k) : App w0 (w.setCell ⟨N + 10, 7, none⟩ v) N s s1 s2 c0 v c2 C0 C C2 := by
  have hu := box_upd w (N + 10) 7 v
  have hS : ∀ k, k = N + 10 → k < N + 11 := fun k hk => by omega
  exact ⟨h.sz, h.upS 7 v, (h.b0.imp fun a ⟨b, c, d, e, x⟩ => ⟨b, c, d, e, stay_blk hu x (by omega)⟩), stay_blk hu h.b1 (by omega), stay_blk hu h.b2 (by omega), stay_blk hu h.b3 (by omega), stay_blk hu h.b4 (by omega), stay_blk hu h.b5 (by omega), stay_blk hu h.b6 (by omega), stay_blk hu h.b7 (by omega), stay_blk hu h.b8 (by omega), stay_blk hu h.b9 (by omega),
    by simp [World.setCell, Array.getElem?_modify, h.b10], Inss.stay h.k0 hu hS, Inss.stay hv hu hS, Inss.stay h.k2 hu hS, h.ns⟩
theorem App.set2 (h : App w0 w N s s1 s2 c0 c1 c2 C0 C1 C2) {v : Value} {C : List InsM} (hv : Inss w v C ∧ ∀ k, v.ownBlock = some k → N + 11 ≤ k) : App w0 (w.setCell ⟨N + 10, 11, none⟩ v) N s s1 s2 c0 c1 v C0 C1 C := by
  have hu := box_upd w (N + 10) 11 v
  have hS : ∀ k, k = N + 10 → k < N + 11 := fun k hk => by omega
  exact ⟨h.sz, h.upS 11 v, (h.b0.imp fun a ⟨b, c, d, e, x⟩ => ⟨b, c, d, e, stay_blk hu x (by omega)⟩), stay_blk hu h.b1 (by omega), stay_blk hu h.b2 (by omega), stay_blk hu h.b3 (by omega), stay_blk hu h.b4 (by omega), stay_blk hu h.b5 (by omega), stay_blk hu h.b6 (by omega), stay_blk hu h.b7 (by omega), stay_blk hu h.b8 (by omega), stay_blk hu h.b9 (by omega),
    by simp [World.setCell, Array.getElem?_modify, h.b10], Inss.stay h.k0 hu hS, Inss.stay h.k1 hu hS, Inss.stay hv hu hS, h.ns⟩
theorem App.fin (h : App w0 w N s s1 s2 c0 c1 c2 C0 C1 C2) (hu : Upd (fun k => k = N) w w') {a b c d e : Value} (hb : w'.heap[N]? = some (.cells #[a, b, c, d, e] 27 (0, 0))) : App w0 w' N s s1 s2 c0 c1 c2 C0 C1 C2 := by
  have hS : ∀ k, k = N → k < N + 11 := fun k hk => by omega
  exact ⟨h.sz, upd_of_new (W := ⟨w0, fun _ => False⟩) h.up hu (fun k hk => .inr (show w0.heap.size ≤ k by rw [h.sz, hk]; omega)), ⟨_, _, _, _, _, hb⟩, stay_blk hu h.b1 (by omega), stay_blk hu h.b2 (by omega), stay_blk hu h.b3 (by omega), stay_blk hu h.b4 (by omega), stay_blk hu h.b5 (by omega), stay_blk hu h.b6 (by omega), stay_blk hu h.b7 (by omega), stay_blk hu h.b8 (by omega), stay_blk hu h.b9 (by omega), stay_blk hu h.b10 (by omega),
    Inss.stay h.k0 hu hS, Inss.stay h.k1 hu hS, Inss.stay h.k2 hu hS, h.ns⟩
def appMets (C0 C1 C2 : List InsM) : List MetM := [⟨[], 0, [1, 2, 3, 4], C0⟩, ⟨[1, 2], 2, [1, 2, 3, 4], C1⟩, ⟨[4, 3], 3, [1, 2], C2⟩]
def appImps (s1 s2 : ByteArray) : List ImpM := [⟨s1, 0, [1, 2], 2⟩, ⟨s2, 1, [4, 3], 3⟩]
theorem App.mets (h : App w0 w N s s1 s2 c0 c1 c2 C0 C1 C2) : Mets w (.slice (some ⟨N + 10, 0, none⟩) 3 3) (appMets C0 C1 C2) := by
  refine ⟨fun i => if i = 0 then .slice none 0 0 else if i = 1 then .slice (some ⟨N + 8, 0, none⟩) 2 2 else .slice (some ⟨N + 9, 0, none⟩) 2 2,
    fun i => if i = 2 then .slice (some ⟨N + 1, 0, none⟩) 2 4 else .slice (some ⟨N + 1, 0, none⟩) 4 4, fun i => if i = 0 then c0 else if i = 1 then c1 else c2, ?_, ?_, ?_⟩
  · refine (Sl.blk h.b10 4 3 3 (by simp) (by omega) (by decide)).congr (fun i hi j hj => ?_)
    match i, hi, j, hj with
    | 0, _, 0, _ => rfl
    | 0, _, 1, _ => rfl
    | 0, _, 2, _ => rfl
    | 0, _, 3, _ => rfl
    | 1, _, 0, _ => rfl
    | 1, _, 1, _ => rfl
    | 1, _, 2, _ => rfl
    | 1, _, 3, _ => rfl
    | 2, _, 0, _ => rfl
    | 2, _, 1, _ => rfl
    | 2, _, 2, _ => rfl
    | 2, _, 3, _ => rfl
  · intro i hi
    have hi3 : i < 3 := hi
    match i, hi3 with
    | 0, _ => exact ⟨⟨Sl.nil _ _ _, by simp [appMets]⟩, Ints.blk h.b1 [1, 2, 3, 4] ⟨[], rfl⟩ 4 (by decide) (by decide) (by simp [wi64]), h.k0.1⟩
    | 1, _ => exact ⟨Ints.blk h.b8 [1, 2] ⟨[], rfl⟩ 2 (by decide) (by decide) (by simp [wi64]), Ints.blk h.b1 [1, 2, 3, 4] ⟨[], rfl⟩ 4 (by decide) (by decide) (by simp [wi64]), h.k1.1⟩
    | 2, _ => exact ⟨Ints.blk h.b9 [4, 3] ⟨[], rfl⟩ 2 (by decide) (by decide) (by simp [wi64]), Ints.blk h.b1 [1, 2] ⟨[.int .i64 3, .int .i64 4], rfl⟩ 4 (by decide) (by decide) (by simp [wi64]), h.k2.1⟩
  · simp [appMets, wi64]
theorem App.imps (h : App w0 w N s s1 s2 c0 c1 c2 C0 C1 C2) : Imps w (.slice (some ⟨N + 7, 0, none⟩) 2 2) (appImps s1 s2) := by
  refine ⟨fun i => if i = 0 then .slice (some ⟨N + 5, 0, none⟩) 2 2 else .slice (some ⟨N + 6, 0, none⟩) 2 2, ?_, ?_, ?_⟩
  · refine (Sl.blk h.b7 4 2 2 (by simp) (by omega) (by decide)).congr (fun i hi j hj => ?_)
    match i, hi, j, hj with
    | 0, _, 0, _ => rfl
    | 0, _, 1, _ => rfl
    | 0, _, 2, _ => rfl
    | 0, _, 3, _ => rfl
    | 1, _, 0, _ => rfl
    | 1, _, 1, _ => rfl
    | 1, _, 2, _ => rfl
    | 1, _, 3, _ => rfl
  · intro i hi
    have hi2 : i < 2 := hi
    match i, hi2 with
    | 0, _ => exact Ints.blk h.b5 [1, 2] ⟨[], rfl⟩ 2 (by decide) (by decide) (by simp [wi64])
    | 1, _ => exact Ints.blk h.b6 [4, 3] ⟨[], rfl⟩ 2 (by decide) (by decide) (by simp [wi64])
  · have := h.ns
    intro x hx
    simp [appImps] at hx
    rcases hx with rfl | rfl
    · exact ⟨by simp [wi64], by simp [wi64], by show s1.size ≤ maxLen; unfold maxLen; omega⟩
    · exact ⟨by simp [wi64], by simp [wi64], by show s2.size ≤ maxLen; unfold maxLen; omega⟩
theorem App.img (h : App w0 w N s s1 s2 c0 c1 c2 C0 C1 C2) : Img w (img5 s (.slice (some ⟨N + 2, 0, none⟩) 4 4) (.slice (some ⟨N + 7, 0, none⟩) 2 2) (.slice (some ⟨N + 10, 0, none⟩) 3 3) (.slice (some ⟨N + 3, 0, none⟩) 2 2)) ⟨s, [1, 2, 3, 4], appImps s1 s2, appMets C0 C1 C2, [1, 2]⟩ :=
  ⟨_, _, _, _, rfl, Ints.blk h.b2 [1, 2, 3, 4] ⟨[], rfl⟩ 4 (by decide) (by decide) (by simp [wi64]), h.imps, h.mets, Ints.blk h.b3 [1, 2] ⟨[], rfl⟩ 2 (by decide) (by decide) (by simp [wi64]), by have := h.ns; show s.size ≤ maxLen; unfold maxLen; omega⟩
end

set_option maxRecDepth 100000 in
set_option maxHeartbeats 40000000 in
theorem hAppletX (w : World) (k : Int) (lv : Value) (L : List RawR) (hl : RawsAt w lv L) (hL : L.length ≤ 4398046511104) (hB : Bins ⟨w, fun _ => False⟩) :
    Calls Tryz.prog 5 #[.int .i64 k, lv] w fun e w' => ∃ s s1 s2 c0 c1 c2 C0 C1 C2, e = .returned (img5 s (.slice (some ⟨w.heap.size + 2, 0, none⟩) 4 4) (.slice (some ⟨w.heap.size + 7, 0, none⟩) 2 2) (.slice (some ⟨w.heap.size + 10, 0, none⟩) 3 3) (.slice (some ⟨w.heap.size + 3, 0, none⟩) 2 2)) ∧
      App w w' w.heap.size s s1 s2 c0 c1 c2 C0 C1 C2 ∧ ((0 < C0.length ∧ C0.length ≤ 100000000) ∧ (0 < C1.length ∧ C1.length ≤ 100000000) ∧ (0 < C2.length ∧ C2.length ≤ 100000000)) ∧ s = nmOf k ∧ s1 = nmOf (wrap64 (k + 1)) := by
  obtain ⟨la, lc, rfl⟩ := hl.slice
  have HL := Lib.hid hl
  have HB := Lib.hid hB
  clear hl hB
  go_enter Tryz.func5, Tryz.ntmps5
  go_wp2_with (first
    | (go_at_call 12; (with_reducible refine (hName _ _).mono ?_); rintro e _ ⟨s, rfl, hs, rfl⟩)
    | (go_at_call 6; (with_reducible refine (mPick _ 3 _ (by omega) (by omega)).mono ?_); rintro e _ ⟨p, rfl, hp, rfl⟩))
  rename_i Q0 s0 hs0 s1 hs1 K0 a0
  have HS := Lib.hid (And.intro hs0.out.1 (And.intro hs1.out.1 hs.out.1))
  have HNM := Lib.hid (And.intro hs0.out.2 hs1.out.2)
  clear hs0 hs1 hs hp
  go_loopw [8] (fun i wr => ∃ (m : Nat) (c0 c1 c2 : Value) (C0 C1 C2 : List InsM), m ≤ 3 ∧ i = .int .i64 m ∧ Hid (App w wr w.heap.size s0 s1 s c0 c1 c2 C0 C1 C2) ∧ Hid ((0 < m → 0 < C0.length ∧ C0.length ≤ 100000000) ∧ (1 < m → 0 < C1.length ∧ C1.length ≤ 100000000) ∧ (2 < m → 0 < C2.length ∧ C2.length ≤ 100000000))) (fun i _ => 3 - (intOf i).toNat)
  case atStart =>
    refine ⟨0, .slice none 0 0, .slice none 0 0, .slice none 0 0, [], [], [], by omega, rfl, Lib.hid ⟨rfl, ?_, ⟨.string { data := #[] }, .slice none 0 0, .slice none 0 0, .slice none 0 0, .slice none 0 0, ?_⟩, ?_, ?_, ?_, ?_, ?_, ?_, ?_, ?_, ?_, ?_, ⟨⟨Sl.nil _ _ _, by simp⟩, by simp [Value.ownBlock]⟩, ⟨⟨Sl.nil _ _ _, by simp⟩, by simp [Value.ownBlock]⟩, ⟨⟨Sl.nil _ _ _, by simp⟩, by simp [Value.ownBlock]⟩, HS.out⟩, Lib.hid ⟨by omega, by omega, by omega⟩⟩
    · repeat (first | exact Upd.refl _ _ | refine Upd.trans ?_ (Upd.alloc _ _ _) (fun _ h _ => h))
    all_goals repeat (first | (refine blk_top _ _ _ ?_; simp; done) | refine stay_blk (Upd.alloc (fun _ => False) _ _) ?_ id)
  case round =>
    obtain ⟨m, c0, c1, c2, C0, C1, C2, hm, rfl, HA, HG⟩ := hrel
    have e2 : wr.cell? ⟨w.heap.size + 1 + 1 + 1 + 1, 2, none⟩ = some (.slice (some ⟨w.heap.size + 7, 0, none⟩) 2 2) := by simp [World.cell?, HA.out.b4]
    have e3 : wr.cell? ⟨w.heap.size + 1 + 1 + 1 + 1, 3, none⟩ = some (.slice (some ⟨w.heap.size + 10, 0, none⟩) 3 3) := by simp [World.cell?, HA.out.b4]
    by_cases hlt : m < 3
    · have hm3 : m = 0 ∨ m = 1 ∨ m = 2 := by omega
      clear hlt
      have q1 : ((L.length : Nat) : Int).tdiv 3 = ((L.length / 3 : Nat) : Int) := (Int.ofNat_tdiv _ 3).symm
      have q2 : (2 * (L.length : Int)).tdiv 3 = ((2 * L.length / 3 : Nat) : Int) := (Int.ofNat_tdiv (2 * L.length) 3).symm
      have q3 : (3 * (L.length : Int)).tdiv 3 = ((L.length : Nat) : Int) := by
        have h := Int.ofNat_tdiv (3 * L.length) 3
        rw [Nat.mul_div_cancel_left _ (by omega)] at h
        exact h.symm
      have q4 : ((L.length : Nat) : Int).tdiv 2 = ((L.length / 2 : Nat) : Int) := (Int.ofNat_tdiv _ 2).symm
      have hlc : L.length ≤ lc := by
        rcases HL.out with ⟨_, h0⟩ | ⟨g, off, c', hv, hc1, -⟩
        · simp [h0]
        · simp at hv
          omega
      have HAD := Lib.hid (HA.out.keep (Upd.drew (fun _ => False) wr))
      have HBD : Hid (Bins ⟨wr.drew, fun _ => False⟩) := Lib.hid (by
        have hg : 0 < w.heap.size := World.block_lt_of_cell? w _ (HB.out.2 0 (by omega))
        exact ⟨fun h => h, fun k hk => (HAD.out.up.cell (p := ⟨0, k, none⟩) hg (fun h => h)).trans (HB.out.2 k hk)⟩)
      have HBE := Lib.hid (HAD.out.up.below (Nat.le_refl _) (fun _ h => h.elim))
      have HIV := Lib.hid HAD.out.imps
      have HMV := Lib.hid HAD.out.mets
      have HIL : Hid ((appImps s1 s).length ≤ 1000) := Lib.hid (by simp [appImps])
      have HIP : Hid (∀ i ∈ appImps s1 s, i.params.length ≤ 3) := Lib.hid (by simp [appImps])
      have HML : Hid (0 < (appMets C0 C1 C2).length ∧ (appMets C0 C1 C2).length ≤ 1000) := Lib.hid (by simp [appMets])
      have HMP : Hid (∀ m ∈ appMets C0 C1 C2, m.params.length ≤ 3) := Lib.hid (by simp [appMets])
      rcases hm3 with rfl | rfl | rfl
      · have HP2 : Hid (Src wr.drew 1 (.slice none 0 0) ([] : List Int).length (iv [])) := Lib.hid (.inl ⟨rfl, rfl, rfl⟩)
        have HQ4 : Hid (Src wr.drew 1 (.slice (some ⟨w.heap.size + 1, 0, none⟩) 4 4) [(1 : Int), 2, 3, 4].length (iv [1, 2, 3, 4])) := Lib.hid (Src.blk HAD.out.b1 [1, 2, 3, 4] ⟨[], rfl⟩ 4)
        have HPW : Hid (([] : List Int).length ≤ 10 ∧ ∀ n ∈ ([] : List Int), wi64 n) := Lib.hid (by simp [wi64])
        have HQW : Hid ([(1 : Int), 2, 3, 4].length ≤ 10 ∧ ∀ n ∈ [(1 : Int), 2, 3, 4], wi64 n) := Lib.hid (by simp [wi64])
        have HRW : Hid (wi64 0) := Lib.hid (by simp [wi64])
        go_upto_region 12 with fail
        all_goals try (exfalso; omega)
        generalize hA : (if (L.length : Int) / 2 < (L.length : Int) then (L.length : Int) / 2 else (L.length : Int)).toNat = A
        have hAB : A ≤ L.length := by
          rw [← hA]
          split <;> omega
        have hraw := (HL.out.take hAB).later HBE.out
        have HRL : Hid ((L.take A).length ≤ 4398046511104) := Lib.hid (by simp; omega)
        generalize L.take A = L' at *
        generalize A = n' at *
        have HRAW := Lib.hid hraw
        clear hraw hA hAB q1 q2 q3 q4
        have HS2 : Hid (∀ u, App w u w.heap.size s0 s1 s c0 c1 c2 C0 C1 C2 → (fun w' => w'.cell? ⟨w.heap.size + 1 + 1 + 1 + 1, 2, none⟩ = some (.slice (some ⟨w.heap.size + 7, 0, none⟩) 2 2) ∧ w'.cell? ⟨w.heap.size + 1 + 1 + 1 + 1, 3, none⟩ = some (.slice (some ⟨w.heap.size + 10, 0, none⟩) 3 3) ∧ w'.cell? ⟨w.heap.size + 10, 0, none⟩ = some (.slice none 0 0) ∧ w'.cell? ⟨w.heap.size + 10, 1, none⟩ = some (.int .i64 0) ∧ w'.cell? ⟨w.heap.size + 10, 2, none⟩ = some (.slice (some ⟨w.heap.size + 1, 0, none⟩) 4 4) ∧ w'.cell? ⟨w.heap.size + 10, 3, none⟩ = some c0) u) := Lib.hid (fun u h => by simp [World.cell?, h.b4, h.b10])
        clear e2 e3
        refine wp_region_last (S := fun w' => w'.cell? ⟨w.heap.size + 1 + 1 + 1 + 1, 2, none⟩ = some (.slice (some ⟨w.heap.size + 7, 0, none⟩) 2 2) ∧ w'.cell? ⟨w.heap.size + 1 + 1 + 1 + 1, 3, none⟩ = some (.slice (some ⟨w.heap.size + 10, 0, none⟩) 3 3) ∧ w'.cell? ⟨w.heap.size + 10, 0, none⟩ = some (.slice none 0 0) ∧ w'.cell? ⟨w.heap.size + 10, 1, none⟩ = some (.int .i64 0) ∧ w'.cell? ⟨w.heap.size + 10, 2, none⟩ = some (.slice (some ⟨w.heap.size + 1, 0, none⟩) 4 4) ∧ w'.cell? ⟨w.heap.size + 10, 3, none⟩ = some c0) 16 _ (by kernel_rfl) (by kernel_rfl) rfl ?_
        change wpHL _ _ _ _ _ _ _ _ _ _ wr.drew
        have hHeld := HS2.out _ HAD.out
        refine wpHL_take (i := 0) (v := ?_) rfl (by kernel_rfl) (fun _ _ _ h => h) hHeld (Or.inl ⟨by rfl, ?_⟩) ?_
        rotate_left
        · (intro w hSw; (try dsimp only at hSw); go_simp; try with_reducible rfl)
        simp only [Act.put, List.setIfInBounds_toArray, List.set_cons_zero, List.set_cons_succ]
        refine wpHL_take (i := 1) (v := ?_) rfl (by kernel_rfl) (fun _ _ _ h => h) hHeld (Or.inl ⟨by rfl, ?_⟩) ?_
        rotate_left
        · (intro w hSw; (try dsimp only at hSw); go_simp; try with_reducible rfl)
        simp only [Act.put, List.setIfInBounds_toArray, List.set_cons_zero, List.set_cons_succ]
        refine wpHL_take (i := 2) (v := ?_) rfl (by kernel_rfl) (fun _ _ _ h => h) hHeld (Or.inl ⟨by rfl, ?_⟩) ?_
        rotate_left
        · (intro w hSw; (try dsimp only at hSw); go_simp; try with_reducible rfl)
        simp only [Act.put, List.setIfInBounds_toArray, List.set_cons_zero, List.set_cons_succ]
        refine wpHL_take (i := 3) (v := ?_) rfl (by kernel_rfl) (fun _ _ _ h => h) hHeld (Or.inl ⟨by rfl, ?_⟩) ?_
        rotate_left
        · (intro w hSw; (try dsimp only at hSw); go_simp; try with_reducible rfl)
        simp only [Act.put, List.setIfInBounds_toArray, List.set_cons_zero, List.set_cons_succ]
        refine wpHL_take (i := 4) (v := ?_) rfl (by kernel_rfl) (fun _ _ _ h => h) hHeld (Or.inl ⟨by rfl, ?_⟩) ?_
        rotate_left
        · (intro w hSw; (try dsimp only at hSw); go_simp; try with_reducible rfl)
        simp only [Act.put, List.setIfInBounds_toArray, List.set_cons_zero, List.set_cons_succ]
        refine wpHL_take (i := 5) (v := ?_) rfl (by kernel_rfl) (fun _ _ _ h => h) hHeld (Or.inl ⟨by rfl, ?_⟩) ?_
        rotate_left
        · (intro w hSw; (try dsimp only at hSw); go_simp; try with_reducible rfl)
        simp only [Act.put, List.setIfInBounds_toArray, List.set_cons_zero, List.set_cons_succ]
        refine wpHL_take (i := 6) (v := ?_) rfl (by kernel_rfl) (fun _ _ _ h => h) hHeld (Or.inl ⟨by rfl, ?_⟩) ?_
        rotate_left
        · (intro w hSw; (try dsimp only at hSw); go_simp; try with_reducible rfl)
        simp only [Act.put, List.setIfInBounds_toArray, List.set_cons_zero, List.set_cons_succ]
        refine wpHL_take (i := 7) (v := ?_) rfl (by kernel_rfl) (fun _ _ _ h => h) hHeld (Or.inl ⟨by rfl, ?_⟩) ?_
        rotate_left
        · (intro w hSw; (try dsimp only at hSw); go_simp; try with_reducible rfl)
        simp only [Act.put, List.setIfInBounds_toArray, List.set_cons_zero, List.set_cons_succ]
        refine wpHL_take (i := 8) (v := ?_) rfl (by kernel_rfl) (fun _ _ _ h => h) hHeld (Or.inl ⟨by rfl, ?_⟩) ?_
        rotate_left
        · (intro w hSw; (try dsimp only at hSw); go_simp; try with_reducible rfl)
        simp only [Act.put, List.setIfInBounds_toArray, List.set_cons_zero, List.set_cons_succ]
        refine wpHL_take (i := 9) (v := ?_) rfl (by kernel_rfl) (fun _ _ _ h => h) hHeld (Or.inl ⟨by rfl, ?_⟩) ?_
        rotate_left
        · (intro w hSw; (try dsimp only at hSw); go_simp; try with_reducible rfl)
        simp only [Act.put, List.setIfInBounds_toArray, List.set_cons_zero, List.set_cons_succ]
        refine wpHL_take (i := 10) (v := ?_) rfl (by kernel_rfl) (fun _ _ _ h => h) hHeld (Or.inl ⟨by rfl, ?_⟩) ?_
        rotate_left
        · (intro w hSw; (try dsimp only at hSw); go_simp; try with_reducible rfl)
        simp only [Act.put, List.setIfInBounds_toArray, List.set_cons_zero, List.set_cons_succ]
        refine wpHL_take (i := 11) (v := ?_) rfl (by kernel_rfl) (fun _ _ _ h => h) hHeld (Or.inl ⟨by rfl, ?_⟩) ?_
        rotate_left
        · (intro w hSw; (try dsimp only at hSw); go_simp; try with_reducible rfl)
        simp only [Act.put, List.setIfInBounds_toArray, List.set_cons_zero, List.set_cons_succ]
        refine wpHL_take (i := 12) (v := ?_) rfl (by kernel_rfl) (fun _ _ _ h => h) hHeld (Or.inl ⟨by rfl, ?_⟩) ?_
        rotate_left
        · (intro w hSw; (try dsimp only at hSw); go_simp; try with_reducible rfl)
        simp only [Act.put, List.setIfInBounds_toArray, List.set_cons_zero, List.set_cons_succ]
        refine wpHL_step (i := 13) rfl (by kernel_rfl) (by decide) (fun K hK => ?_)
        have HKK := Lib.hid hK
        clear hK hHeld
        go_simp
        refine (hCode _ _ _ _ _ _ _ _ L' HRAW.out HRL.out (P := []) (Q := [1, 2, 3, 4]) HP2.out HQ4.out HPW.out HQW.out HRW.out HIV.out HIL.out HIP.out HMV.out HML.out HMP.out HBD.out).mono ?_
        rintro e w5 ⟨v5, C5, rfl, k1, k2, k3, k4⟩
        have HA5 := Lib.hid (HAD.out.keep k4)
        have g7 : w5.cell? ⟨w.heap.size + 10, 3, none⟩ = some c0 := by simp [World.cell?, HA5.out.b10]
        have f7 : w5.frozen? ⟨w.heap.size + 10, 3, none⟩ = false := by simp [World.frozen?, HA5.out.b10]
        obtain ⟨va5, vc5, rfl, -, -⟩ := k1.slice
        have HC5 : Hid (Inss w5 (.slice va5 C5.length vc5) C5 ∧ ∀ k, (Value.slice va5 C5.length vc5).ownBlock = some k → w.heap.size + 11 ≤ k) := Lib.hid ⟨k1, fun k hk => by
          have h1 := k2 k hk
          have h2 : w.heap.size + 10 < wr.heap.size := (Array.getElem?_eq_some_iff.1 HA.out.b10).1
          simp at h1
          omega⟩
        have HL5 := Lib.hid k3
        clear k1 k2 k3 k4
        go_simp
        have hHeld := HS2.out _ HA5.out
        refine HKK.out _ _ hHeld ?_
        try simp only [Act.put, List.setIfInBounds_toArray, List.set_cons_zero, List.set_cons_succ]
        refine wpHL_take (i := 14) (v := ?_) rfl (by kernel_rfl) (fun _ _ _ h => h) hHeld (Or.inl ⟨by rfl, ?_⟩) ?_
        rotate_left
        · (intro w hSw; (try dsimp only at hSw); go_simp; try with_reducible rfl)
        simp only [Act.put, List.setIfInBounds_toArray, List.set_cons_zero, List.set_cons_succ]
        refine wpHL_take (i := 15) (v := ?_) rfl (by kernel_rfl) (fun _ _ _ h => h) hHeld (Or.inl ⟨by rfl, ?_⟩) ?_
        rotate_left
        · (intro w hSw; (try dsimp only at hSw); go_simp; try with_reducible rfl)
        simp only [Act.put, List.setIfInBounds_toArray, List.set_cons_zero, List.set_cons_succ]
        refine wpHL_last (by kernel_rfl) ?_
        clear hHeld HKK
        go_wp2_with fail
        go_roundw
        case rel => exact ⟨1, _, _, _, _, _, _, by omega, by go_num, Lib.hid (HA5.out.set0 HC5.out), Lib.hid ⟨fun _ => HL5.out, by omega, by omega⟩⟩
        case measure => simp [intOf]
      · have HP2 : Hid (Src wr.drew 1 (.slice (some ⟨w.heap.size + 8, 0, none⟩) 2 2) [(1 : Int), 2].length (iv [1, 2])) := Lib.hid (Src.blk HAD.out.b8 [1, 2] ⟨[], rfl⟩ 2)
        have HQ4 : Hid (Src wr.drew 1 (.slice (some ⟨w.heap.size + 1, 0, none⟩) 4 4) [(1 : Int), 2, 3, 4].length (iv [1, 2, 3, 4])) := Lib.hid (Src.blk HAD.out.b1 [1, 2, 3, 4] ⟨[], rfl⟩ 4)
        have HPW : Hid ([(1 : Int), 2].length ≤ 10 ∧ ∀ n ∈ [(1 : Int), 2], wi64 n) := Lib.hid (by simp [wi64])
        have HQW : Hid ([(1 : Int), 2, 3, 4].length ≤ 10 ∧ ∀ n ∈ [(1 : Int), 2, 3, 4], wi64 n) := Lib.hid (by simp [wi64])
        have HRW : Hid (wi64 2) := Lib.hid (by simp [wi64])
        go_upto_region 12 with fail
        all_goals try (exfalso; omega)
        generalize hA : (if (L.length : Int) / 3 < (L.length : Int) then (L.length : Int) / 3 else (L.length : Int)).toNat = A
        generalize hBB : (if 2 * (L.length : Int) / 3 < (L.length : Int) then 2 * (L.length : Int) / 3 else (L.length : Int)).toNat = B
        have hAB : A ≤ B ∧ B ≤ L.length := by
          rw [← hA, ← hBB]
          split <;> split <;> omega
        have hraw := (HL.out.sub hAB.1 hAB.2).later HBE.out
        have HRL : Hid (((L.drop A).take (B - A)).length ≤ 4398046511104) := Lib.hid (by simp; omega)
        generalize (L.drop A).take (B - A) = L' at *
        generalize (if lc = A then la else la.map (·.add (A * 4))) = la' at *
        generalize B - A = n' at *
        generalize lc - A = lc' at *
        have HRAW := Lib.hid hraw
        clear hraw hA hBB hAB q1 q2 q3 q4
        have HS2 : Hid (∀ u, App w u w.heap.size s0 s1 s c0 c1 c2 C0 C1 C2 → (fun w' => w'.cell? ⟨w.heap.size + 1 + 1 + 1 + 1, 2, none⟩ = some (.slice (some ⟨w.heap.size + 7, 0, none⟩) 2 2) ∧ w'.cell? ⟨w.heap.size + 1 + 1 + 1 + 1, 3, none⟩ = some (.slice (some ⟨w.heap.size + 10, 0, none⟩) 3 3) ∧ w'.cell? ⟨w.heap.size + 10, 4, none⟩ = some (.slice (some ⟨w.heap.size + 8, 0, none⟩) 2 2) ∧ w'.cell? ⟨w.heap.size + 10, 5, none⟩ = some (.int .i64 2) ∧ w'.cell? ⟨w.heap.size + 10, 6, none⟩ = some (.slice (some ⟨w.heap.size + 1, 0, none⟩) 4 4) ∧ w'.cell? ⟨w.heap.size + 10, 7, none⟩ = some c1) u) := Lib.hid (fun u h => by simp [World.cell?, h.b4, h.b10])
        clear e2 e3
        refine wp_region_last (S := fun w' => w'.cell? ⟨w.heap.size + 1 + 1 + 1 + 1, 2, none⟩ = some (.slice (some ⟨w.heap.size + 7, 0, none⟩) 2 2) ∧ w'.cell? ⟨w.heap.size + 1 + 1 + 1 + 1, 3, none⟩ = some (.slice (some ⟨w.heap.size + 10, 0, none⟩) 3 3) ∧ w'.cell? ⟨w.heap.size + 10, 4, none⟩ = some (.slice (some ⟨w.heap.size + 8, 0, none⟩) 2 2) ∧ w'.cell? ⟨w.heap.size + 10, 5, none⟩ = some (.int .i64 2) ∧ w'.cell? ⟨w.heap.size + 10, 6, none⟩ = some (.slice (some ⟨w.heap.size + 1, 0, none⟩) 4 4) ∧ w'.cell? ⟨w.heap.size + 10, 7, none⟩ = some c1) 16 _ (by kernel_rfl) (by kernel_rfl) rfl ?_
        change wpHL _ _ _ _ _ _ _ _ _ _ wr.drew
        have hHeld := HS2.out _ HAD.out
        refine wpHL_take (i := 0) (v := ?_) rfl (by kernel_rfl) (fun _ _ _ h => h) hHeld (Or.inl ⟨by rfl, ?_⟩) ?_
        rotate_left
        · (intro w hSw; (try dsimp only at hSw); go_simp; try with_reducible rfl)
        simp only [Act.put, List.setIfInBounds_toArray, List.set_cons_zero, List.set_cons_succ]
        refine wpHL_take (i := 1) (v := ?_) rfl (by kernel_rfl) (fun _ _ _ h => h) hHeld (Or.inl ⟨by rfl, ?_⟩) ?_
        rotate_left
        · (intro w hSw; (try dsimp only at hSw); go_simp; try with_reducible rfl)
        simp only [Act.put, List.setIfInBounds_toArray, List.set_cons_zero, List.set_cons_succ]
        refine wpHL_take (i := 2) (v := ?_) rfl (by kernel_rfl) (fun _ _ _ h => h) hHeld (Or.inl ⟨by rfl, ?_⟩) ?_
        rotate_left
        · (intro w hSw; (try dsimp only at hSw); go_simp; try with_reducible rfl)
        simp only [Act.put, List.setIfInBounds_toArray, List.set_cons_zero, List.set_cons_succ]
        refine wpHL_take (i := 3) (v := ?_) rfl (by kernel_rfl) (fun _ _ _ h => h) hHeld (Or.inl ⟨by rfl, ?_⟩) ?_
        rotate_left
        · (intro w hSw; (try dsimp only at hSw); go_simp; try with_reducible rfl)
        simp only [Act.put, List.setIfInBounds_toArray, List.set_cons_zero, List.set_cons_succ]
        refine wpHL_take (i := 4) (v := ?_) rfl (by kernel_rfl) (fun _ _ _ h => h) hHeld (Or.inl ⟨by rfl, ?_⟩) ?_
        rotate_left
        · (intro w hSw; (try dsimp only at hSw); go_simp; try with_reducible rfl)
        simp only [Act.put, List.setIfInBounds_toArray, List.set_cons_zero, List.set_cons_succ]
        refine wpHL_take (i := 5) (v := ?_) rfl (by kernel_rfl) (fun _ _ _ h => h) hHeld (Or.inl ⟨by rfl, ?_⟩) ?_
        rotate_left
        · (intro w hSw; (try dsimp only at hSw); go_simp; try with_reducible rfl)
        simp only [Act.put, List.setIfInBounds_toArray, List.set_cons_zero, List.set_cons_succ]
        refine wpHL_take (i := 6) (v := ?_) rfl (by kernel_rfl) (fun _ _ _ h => h) hHeld (Or.inl ⟨by rfl, ?_⟩) ?_
        rotate_left
        · (intro w hSw; (try dsimp only at hSw); go_simp; try with_reducible rfl)
        simp only [Act.put, List.setIfInBounds_toArray, List.set_cons_zero, List.set_cons_succ]
        refine wpHL_take (i := 7) (v := ?_) rfl (by kernel_rfl) (fun _ _ _ h => h) hHeld (Or.inl ⟨by rfl, ?_⟩) ?_
        rotate_left
        · (intro w hSw; (try dsimp only at hSw); go_simp; try with_reducible rfl)
        simp only [Act.put, List.setIfInBounds_toArray, List.set_cons_zero, List.set_cons_succ]
        refine wpHL_take (i := 8) (v := ?_) rfl (by kernel_rfl) (fun _ _ _ h => h) hHeld (Or.inl ⟨by rfl, ?_⟩) ?_
        rotate_left
        · (intro w hSw; (try dsimp only at hSw); go_simp; try with_reducible rfl)
        simp only [Act.put, List.setIfInBounds_toArray, List.set_cons_zero, List.set_cons_succ]
        refine wpHL_take (i := 9) (v := ?_) rfl (by kernel_rfl) (fun _ _ _ h => h) hHeld (Or.inl ⟨by rfl, ?_⟩) ?_
        rotate_left
        · (intro w hSw; (try dsimp only at hSw); go_simp; try with_reducible rfl)
        simp only [Act.put, List.setIfInBounds_toArray, List.set_cons_zero, List.set_cons_succ]
        refine wpHL_take (i := 10) (v := ?_) rfl (by kernel_rfl) (fun _ _ _ h => h) hHeld (Or.inl ⟨by rfl, ?_⟩) ?_
        rotate_left
        · (intro w hSw; (try dsimp only at hSw); go_simp; try with_reducible rfl)
        simp only [Act.put, List.setIfInBounds_toArray, List.set_cons_zero, List.set_cons_succ]
        refine wpHL_take (i := 11) (v := ?_) rfl (by kernel_rfl) (fun _ _ _ h => h) hHeld (Or.inl ⟨by rfl, ?_⟩) ?_
        rotate_left
        · (intro w hSw; (try dsimp only at hSw); go_simp; try with_reducible rfl)
        simp only [Act.put, List.setIfInBounds_toArray, List.set_cons_zero, List.set_cons_succ]
        refine wpHL_take (i := 12) (v := ?_) rfl (by kernel_rfl) (fun _ _ _ h => h) hHeld (Or.inl ⟨by rfl, ?_⟩) ?_
        rotate_left
        · (intro w hSw; (try dsimp only at hSw); go_simp; try with_reducible rfl)
        simp only [Act.put, List.setIfInBounds_toArray, List.set_cons_zero, List.set_cons_succ]
        refine wpHL_step (i := 13) rfl (by kernel_rfl) (by decide) (fun K hK => ?_)
        have HKK := Lib.hid hK
        clear hK hHeld
        go_simp
        refine (hCode _ _ _ _ _ _ _ _ L' HRAW.out HRL.out (P := [1, 2]) (Q := [1, 2, 3, 4]) HP2.out HQ4.out HPW.out HQW.out HRW.out HIV.out HIL.out HIP.out HMV.out HML.out HMP.out HBD.out).mono ?_
        rintro e w5 ⟨v5, C5, rfl, k1, k2, k3, k4⟩
        have HA5 := Lib.hid (HAD.out.keep k4)
        have g7 : w5.cell? ⟨w.heap.size + 10, 7, none⟩ = some c1 := by simp [World.cell?, HA5.out.b10]
        have f7 : w5.frozen? ⟨w.heap.size + 10, 7, none⟩ = false := by simp [World.frozen?, HA5.out.b10]
        obtain ⟨va5, vc5, rfl, -, -⟩ := k1.slice
        have HC5 : Hid (Inss w5 (.slice va5 C5.length vc5) C5 ∧ ∀ k, (Value.slice va5 C5.length vc5).ownBlock = some k → w.heap.size + 11 ≤ k) := Lib.hid ⟨k1, fun k hk => by
          have h1 := k2 k hk
          have h2 : w.heap.size + 10 < wr.heap.size := (Array.getElem?_eq_some_iff.1 HA.out.b10).1
          simp at h1
          omega⟩
        have HL5 := Lib.hid k3
        clear k1 k2 k3 k4
        go_simp
        have hHeld := HS2.out _ HA5.out
        refine HKK.out _ _ hHeld ?_
        try simp only [Act.put, List.setIfInBounds_toArray, List.set_cons_zero, List.set_cons_succ]
        refine wpHL_take (i := 14) (v := ?_) rfl (by kernel_rfl) (fun _ _ _ h => h) hHeld (Or.inl ⟨by rfl, ?_⟩) ?_
        rotate_left
        · (intro w hSw; (try dsimp only at hSw); go_simp; try with_reducible rfl)
        simp only [Act.put, List.setIfInBounds_toArray, List.set_cons_zero, List.set_cons_succ]
        refine wpHL_take (i := 15) (v := ?_) rfl (by kernel_rfl) (fun _ _ _ h => h) hHeld (Or.inl ⟨by rfl, ?_⟩) ?_
        rotate_left
        · (intro w hSw; (try dsimp only at hSw); go_simp; try with_reducible rfl)
        simp only [Act.put, List.setIfInBounds_toArray, List.set_cons_zero, List.set_cons_succ]
        refine wpHL_last (by kernel_rfl) ?_
        clear hHeld HKK
        go_wp2_with fail
        go_roundw
        case rel => exact ⟨2, _, _, _, _, _, _, by omega, by go_num, Lib.hid (HA5.out.set1 HC5.out), Lib.hid ⟨fun _ => HG.out.1 (by omega), fun _ => HL5.out, by omega⟩⟩
        case measure => simp [intOf]
      · have HP2 : Hid (Src wr.drew 1 (.slice (some ⟨w.heap.size + 9, 0, none⟩) 2 2) [(4 : Int), 3].length (iv [4, 3])) := Lib.hid (Src.blk HAD.out.b9 [4, 3] ⟨[], rfl⟩ 2)
        have HQ4 : Hid (Src wr.drew 1 (.slice (some ⟨w.heap.size + 1, 0, none⟩) 2 4) [(1 : Int), 2].length (iv [1, 2])) := Lib.hid (Src.blk HAD.out.b1 [1, 2] ⟨[.int .i64 3, .int .i64 4], rfl⟩ 4)
        have HPW : Hid ([(4 : Int), 3].length ≤ 10 ∧ ∀ n ∈ [(4 : Int), 3], wi64 n) := Lib.hid (by simp [wi64])
        have HQW : Hid ([(1 : Int), 2].length ≤ 10 ∧ ∀ n ∈ [(1 : Int), 2], wi64 n) := Lib.hid (by simp [wi64])
        have HRW : Hid (wi64 3) := Lib.hid (by simp [wi64])
        go_upto_region 12 with fail
        all_goals try (exfalso; omega)
        generalize hA : (if 2 * (L.length : Int) / 3 < (L.length : Int) then 2 * (L.length : Int) / 3 else (L.length : Int)).toNat = A
        obtain ⟨B, hBB⟩ : ∃ B, B = L.length := ⟨_, rfl⟩
        have hAB : A ≤ B ∧ B ≤ L.length := by
          rw [← hA, hBB]
          split <;> omega
        have hraw := (HL.out.sub hAB.1 hAB.2).later HBE.out
        have HRL : Hid (((L.drop A).take (B - A)).length ≤ 4398046511104) := Lib.hid (by simp; omega)
        rw [hBB] at hraw HRL
        generalize (L.drop A).take (L.length - A) = L' at *
        generalize (if lc = A then la else la.map (·.add (A * 4))) = la' at *
        generalize L.length - A = n' at *
        generalize lc - A = lc' at *
        have HRAW := Lib.hid hraw
        clear hraw hA hBB hAB q1 q2 q3 q4
        have HS2 : Hid (∀ u, App w u w.heap.size s0 s1 s c0 c1 c2 C0 C1 C2 → (fun w' => w'.cell? ⟨w.heap.size + 1 + 1 + 1 + 1, 2, none⟩ = some (.slice (some ⟨w.heap.size + 7, 0, none⟩) 2 2) ∧ w'.cell? ⟨w.heap.size + 1 + 1 + 1 + 1, 3, none⟩ = some (.slice (some ⟨w.heap.size + 10, 0, none⟩) 3 3) ∧ w'.cell? ⟨w.heap.size + 10, 8, none⟩ = some (.slice (some ⟨w.heap.size + 9, 0, none⟩) 2 2) ∧ w'.cell? ⟨w.heap.size + 10, 9, none⟩ = some (.int .i64 3) ∧ w'.cell? ⟨w.heap.size + 10, 10, none⟩ = some (.slice (some ⟨w.heap.size + 1, 0, none⟩) 2 4) ∧ w'.cell? ⟨w.heap.size + 10, 11, none⟩ = some c2) u) := Lib.hid (fun u h => by simp [World.cell?, h.b4, h.b10])
        clear e2 e3
        refine wp_region_last (S := fun w' => w'.cell? ⟨w.heap.size + 1 + 1 + 1 + 1, 2, none⟩ = some (.slice (some ⟨w.heap.size + 7, 0, none⟩) 2 2) ∧ w'.cell? ⟨w.heap.size + 1 + 1 + 1 + 1, 3, none⟩ = some (.slice (some ⟨w.heap.size + 10, 0, none⟩) 3 3) ∧ w'.cell? ⟨w.heap.size + 10, 8, none⟩ = some (.slice (some ⟨w.heap.size + 9, 0, none⟩) 2 2) ∧ w'.cell? ⟨w.heap.size + 10, 9, none⟩ = some (.int .i64 3) ∧ w'.cell? ⟨w.heap.size + 10, 10, none⟩ = some (.slice (some ⟨w.heap.size + 1, 0, none⟩) 2 4) ∧ w'.cell? ⟨w.heap.size + 10, 11, none⟩ = some c2) 16 _ (by kernel_rfl) (by kernel_rfl) rfl ?_
        change wpHL _ _ _ _ _ _ _ _ _ _ wr.drew
        have hHeld := HS2.out _ HAD.out
        refine wpHL_take (i := 0) (v := ?_) rfl (by kernel_rfl) (fun _ _ _ h => h) hHeld (Or.inl ⟨by rfl, ?_⟩) ?_
        rotate_left
        · (intro w hSw; (try dsimp only at hSw); go_simp; try with_reducible rfl)
        simp only [Act.put, List.setIfInBounds_toArray, List.set_cons_zero, List.set_cons_succ]
        refine wpHL_take (i := 1) (v := ?_) rfl (by kernel_rfl) (fun _ _ _ h => h) hHeld (Or.inl ⟨by rfl, ?_⟩) ?_
        rotate_left
        · (intro w hSw; (try dsimp only at hSw); go_simp; try with_reducible rfl)
        simp only [Act.put, List.setIfInBounds_toArray, List.set_cons_zero, List.set_cons_succ]
        refine wpHL_take (i := 2) (v := ?_) rfl (by kernel_rfl) (fun _ _ _ h => h) hHeld (Or.inl ⟨by rfl, ?_⟩) ?_
        rotate_left
        · (intro w hSw; (try dsimp only at hSw); go_simp; try with_reducible rfl)
        simp only [Act.put, List.setIfInBounds_toArray, List.set_cons_zero, List.set_cons_succ]
        refine wpHL_take (i := 3) (v := ?_) rfl (by kernel_rfl) (fun _ _ _ h => h) hHeld (Or.inl ⟨by rfl, ?_⟩) ?_
        rotate_left
        · (intro w hSw; (try dsimp only at hSw); go_simp; try with_reducible rfl)
        simp only [Act.put, List.setIfInBounds_toArray, List.set_cons_zero, List.set_cons_succ]
        refine wpHL_take (i := 4) (v := ?_) rfl (by kernel_rfl) (fun _ _ _ h => h) hHeld (Or.inl ⟨by rfl, ?_⟩) ?_
        rotate_left
        · (intro w hSw; (try dsimp only at hSw); go_simp; try with_reducible rfl)
        simp only [Act.put, List.setIfInBounds_toArray, List.set_cons_zero, List.set_cons_succ]
        refine wpHL_take (i := 5) (v := ?_) rfl (by kernel_rfl) (fun _ _ _ h => h) hHeld (Or.inl ⟨by rfl, ?_⟩) ?_
        rotate_left
        · (intro w hSw; (try dsimp only at hSw); go_simp; try with_reducible rfl)
        simp only [Act.put, List.setIfInBounds_toArray, List.set_cons_zero, List.set_cons_succ]
        refine wpHL_take (i := 6) (v := ?_) rfl (by kernel_rfl) (fun _ _ _ h => h) hHeld (Or.inl ⟨by rfl, ?_⟩) ?_
        rotate_left
        · (intro w hSw; (try dsimp only at hSw); go_simp; try with_reducible rfl)
        simp only [Act.put, List.setIfInBounds_toArray, List.set_cons_zero, List.set_cons_succ]
        refine wpHL_take (i := 7) (v := ?_) rfl (by kernel_rfl) (fun _ _ _ h => h) hHeld (Or.inl ⟨by rfl, ?_⟩) ?_
        rotate_left
        · (intro w hSw; (try dsimp only at hSw); go_simp; try with_reducible rfl)
        simp only [Act.put, List.setIfInBounds_toArray, List.set_cons_zero, List.set_cons_succ]
        refine wpHL_take (i := 8) (v := ?_) rfl (by kernel_rfl) (fun _ _ _ h => h) hHeld (Or.inl ⟨by rfl, ?_⟩) ?_
        rotate_left
        · (intro w hSw; (try dsimp only at hSw); go_simp; try with_reducible rfl)
        simp only [Act.put, List.setIfInBounds_toArray, List.set_cons_zero, List.set_cons_succ]
        refine wpHL_take (i := 9) (v := ?_) rfl (by kernel_rfl) (fun _ _ _ h => h) hHeld (Or.inl ⟨by rfl, ?_⟩) ?_
        rotate_left
        · (intro w hSw; (try dsimp only at hSw); go_simp; try with_reducible rfl)
        simp only [Act.put, List.setIfInBounds_toArray, List.set_cons_zero, List.set_cons_succ]
        refine wpHL_take (i := 10) (v := ?_) rfl (by kernel_rfl) (fun _ _ _ h => h) hHeld (Or.inl ⟨by rfl, ?_⟩) ?_
        rotate_left
        · (intro w hSw; (try dsimp only at hSw); go_simp; try with_reducible rfl)
        simp only [Act.put, List.setIfInBounds_toArray, List.set_cons_zero, List.set_cons_succ]
        refine wpHL_take (i := 11) (v := ?_) rfl (by kernel_rfl) (fun _ _ _ h => h) hHeld (Or.inl ⟨by rfl, ?_⟩) ?_
        rotate_left
        · (intro w hSw; (try dsimp only at hSw); go_simp; try with_reducible rfl)
        simp only [Act.put, List.setIfInBounds_toArray, List.set_cons_zero, List.set_cons_succ]
        refine wpHL_take (i := 12) (v := ?_) rfl (by kernel_rfl) (fun _ _ _ h => h) hHeld (Or.inl ⟨by rfl, ?_⟩) ?_
        rotate_left
        · (intro w hSw; (try dsimp only at hSw); go_simp; try with_reducible rfl)
        simp only [Act.put, List.setIfInBounds_toArray, List.set_cons_zero, List.set_cons_succ]
        refine wpHL_step (i := 13) rfl (by kernel_rfl) (by decide) (fun K hK => ?_)
        have HKK := Lib.hid hK
        clear hK hHeld
        go_simp
        refine (hCode _ _ _ _ _ _ _ _ L' HRAW.out HRL.out (P := [4, 3]) (Q := [1, 2]) HP2.out HQ4.out HPW.out HQW.out HRW.out HIV.out HIL.out HIP.out HMV.out HML.out HMP.out HBD.out).mono ?_
        rintro e w5 ⟨v5, C5, rfl, k1, k2, k3, k4⟩
        have HA5 := Lib.hid (HAD.out.keep k4)
        have g7 : w5.cell? ⟨w.heap.size + 10, 11, none⟩ = some c2 := by simp [World.cell?, HA5.out.b10]
        have f7 : w5.frozen? ⟨w.heap.size + 10, 11, none⟩ = false := by simp [World.frozen?, HA5.out.b10]
        obtain ⟨va5, vc5, rfl, -, -⟩ := k1.slice
        have HC5 : Hid (Inss w5 (.slice va5 C5.length vc5) C5 ∧ ∀ k, (Value.slice va5 C5.length vc5).ownBlock = some k → w.heap.size + 11 ≤ k) := Lib.hid ⟨k1, fun k hk => by
          have h1 := k2 k hk
          have h2 : w.heap.size + 10 < wr.heap.size := (Array.getElem?_eq_some_iff.1 HA.out.b10).1
          simp at h1
          omega⟩
        have HL5 := Lib.hid k3
        clear k1 k2 k3 k4
        go_simp
        have hHeld := HS2.out _ HA5.out
        refine HKK.out _ _ hHeld ?_
        try simp only [Act.put, List.setIfInBounds_toArray, List.set_cons_zero, List.set_cons_succ]
        refine wpHL_take (i := 14) (v := ?_) rfl (by kernel_rfl) (fun _ _ _ h => h) hHeld (Or.inl ⟨by rfl, ?_⟩) ?_
        rotate_left
        · (intro w hSw; (try dsimp only at hSw); go_simp; try with_reducible rfl)
        simp only [Act.put, List.setIfInBounds_toArray, List.set_cons_zero, List.set_cons_succ]
        refine wpHL_take (i := 15) (v := ?_) rfl (by kernel_rfl) (fun _ _ _ h => h) hHeld (Or.inl ⟨by rfl, ?_⟩) ?_
        rotate_left
        · (intro w hSw; (try dsimp only at hSw); go_simp; try with_reducible rfl)
        simp only [Act.put, List.setIfInBounds_toArray, List.set_cons_zero, List.set_cons_succ]
        refine wpHL_last (by kernel_rfl) ?_
        clear hHeld HKK
        go_wp2_with fail
        go_roundw
        case rel => exact ⟨3, _, _, _, _, _, _, by omega, by go_num, Lib.hid (HA5.out.set2 HC5.out), Lib.hid ⟨fun _ => HG.out.1 (by omega), fun _ => HG.out.2.1 (by omega), fun _ => HL5.out⟩⟩
        case measure => simp [intOf]
    · obtain rfl : m = 3 := by omega
      have e0 : wr.cell? ⟨w.heap.size + 1 + 1 + 1 + 1, 0, none⟩ = some (.string s0) := by simp [World.cell?, HA.out.b4]
      have e1 : wr.cell? ⟨w.heap.size + 1 + 1 + 1 + 1, 1, none⟩ = some (.slice (some ⟨w.heap.size + 2, 0, none⟩) 4 4) := by simp [World.cell?, HA.out.b4]
      have e4 : wr.cell? ⟨w.heap.size + 1 + 1 + 1 + 1, 4, none⟩ = some (.slice (some ⟨w.heap.size + 3, 0, none⟩) 2 2) := by simp [World.cell?, HA.out.b4]
      obtain ⟨a, b, c, d, e, hb0⟩ := HA.out.b0
      have r0 : wr.cell? ⟨w.heap.size, 0, none⟩ = some a := by simp [World.cell?, hb0]
      have r1 : wr.cell? ⟨w.heap.size, 1, none⟩ = some b := by simp [World.cell?, hb0]
      have r2 : wr.cell? ⟨w.heap.size, 2, none⟩ = some c := by simp [World.cell?, hb0]
      have r3 : wr.cell? ⟨w.heap.size, 3, none⟩ = some d := by simp [World.cell?, hb0]
      have r4 : wr.cell? ⟨w.heap.size, 4, none⟩ = some e := by simp [World.cell?, hb0]
      have f0 : ∀ j, wr.frozen? ⟨w.heap.size, j, none⟩ = false := fun j => by simp [World.frozen?, hb0]
      have f0' := f0 0
      have f1' := f0 1
      have f2' := f0 2
      have f3' := f0 3
      have f4' := f0 4
      obtain ⟨h5, hu5⟩ := fin5 (t := 27) (w := wr) (b := w.heap.size) (x := a) (y := b) (z := c) (u := d) (s := e) hb0 (.string s0) (.slice (some ⟨w.heap.size + 2, 0, none⟩) 4 4) (.slice (some ⟨w.heap.size + 7, 0, none⟩) 2 2) (.slice (some ⟨w.heap.size + 10, 0, none⟩) 3 3) (.slice (some ⟨w.heap.size + 3, 0, none⟩) 2 2)
      have HF := Lib.hid (HA.out.fin hu5 h5)
      have H5 := Lib.hid h5
      clear f0 h5 hu5 hb0
      go_wp2_with fail
      refine bodyPost_ret (v := img5 s0 (.slice (some ⟨w.heap.size + 2, 0, none⟩) 4 4) (.slice (some ⟨w.heap.size + 7, 0, none⟩) 2 2) (.slice (some ⟨w.heap.size + 10, 0, none⟩) 3 3) (.slice (some ⟨w.heap.size + 3, 0, none⟩) 2 2)) (by simp [results, Tryz.f5, go_sem, H5.out.c0, H5.out.c1, H5.out.c2, H5.out.c3, H5.out.c4]) rfl ?_
      exact ⟨_, _, _, _, _, _, _, _, _, rfl, HF.out, ⟨HG.out.1 (by omega), HG.out.2.1 (by omega), HG.out.2.2 (by omega)⟩, HNM.out.1, HNM.out.2⟩
theorem hApplet (w : World) (k : Int) (lv : Value) (L : List RawR) (hl : RawsAt w lv L) (hL : L.length ≤ 4398046511104) (hB : Bins ⟨w, fun _ => False⟩) :
    Calls Tryz.prog 5 #[.int .i64 k, lv] w fun e w' => ∃ v I, e = .returned v ∧ Img w' v I ∧ (∀ m ∈ I.methods, 0 < m.code.length ∧ m.code.length ≤ 100000000) ∧ (I.methods.length = 3 ∧ I.fields.length = 4 ∧ I.imports.length = 2 ∧ I.exports.length = 2) ∧ Upd (fun _ => False) w w' := by
  refine (hAppletX w k lv L hl hL hB).mono ?_
  rintro e w' ⟨s, s1, s2, c0, c1, c2, C0, C1, C2, rfl, hA, ⟨g0, g1, g2⟩, -, -⟩
  refine ⟨_, _, rfl, hA.img, fun m hm => ?_, ⟨rfl, rfl, rfl, rfl⟩, hA.up⟩
  simp [appMets] at hm
  rcases hm with rfl | rfl | rfl
  · exact g0
  · exact g1
  · exact g2
end Go.Proofs.YtmikibcgphkcfaaGreatDoor

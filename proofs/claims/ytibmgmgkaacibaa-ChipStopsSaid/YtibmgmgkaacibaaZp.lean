/- Package thumb's table by numbers that are quickly reckoned, and the reference's form of the same. No program is named here. -/
import Derived.Test.YtibmgmgkaacibaaZa
namespace Go.Proofs.Ytibmgmgkaacibaa
open Go.RowKit
set_option linter.unusedVariables false

structure Rf where
  first : Nat
  fixed : Nat
  nt : Nat
  pl : Nat
  pw : Nat
  dl : Nat
  dw : Nat
  nl : Nat
  nw : Nat
  ml : Nat
  mw : Nat
  il : Nat
  iw : Nat
  cl : Nat
  cw : Nat
  least : Int
  most : Int
  halved : Nat
deriving DecidableEq
def rowF : List Rf := [
  ⟨1, 0, 63488, 0, 0, 0, 3, 0, 0, 3, 3, 6, 5, 0, 0, 0, 31, 0⟩,
  ⟨2, 2048, 63488, 0, 0, 0, 3, 0, 0, 3, 3, 6, 5, 0, 0, 1, 32, 0⟩,
  ⟨3, 4096, 63488, 0, 0, 0, 3, 0, 0, 3, 3, 6, 5, 0, 0, 1, 32, 0⟩,
  ⟨4, 6144, 64512, 9, 1, 0, 3, 3, 3, 6, 3, 0, 0, 0, 0, 0, 0, 0⟩,
  ⟨6, 7168, 64512, 9, 1, 0, 3, 3, 3, 0, 0, 6, 3, 0, 0, 0, 7, 0⟩,
  ⟨8, 8192, 57344, 11, 2, 8, 3, 0, 0, 0, 0, 0, 8, 0, 0, 0, 255, 0⟩,
  ⟨12, 16384, 64512, 6, 4, 0, 3, 0, 0, 3, 3, 0, 0, 0, 0, 0, 0, 0⟩,
  ⟨28, 17920, 65280, 0, 0, 0, 100, 0, 0, 3, 4, 0, 0, 0, 0, 0, 0, 0⟩,
  ⟨30, 20480, 65024, 0, 0, 0, 3, 3, 3, 6, 3, 0, 0, 0, 0, 0, 0, 0⟩,
  ⟨29, 22528, 65024, 0, 0, 0, 3, 3, 3, 6, 3, 0, 0, 0, 0, 0, 0, 0⟩,
  ⟨32, 24576, 63488, 0, 0, 0, 3, 3, 3, 0, 0, 6, 5, 0, 0, 0, 124, 2⟩,
  ⟨31, 26624, 63488, 0, 0, 0, 3, 3, 3, 0, 0, 6, 5, 0, 0, 0, 124, 2⟩,
  ⟨34, 28672, 63488, 0, 0, 0, 3, 3, 3, 0, 0, 6, 5, 0, 0, 0, 31, 0⟩,
  ⟨33, 30720, 63488, 0, 0, 0, 3, 3, 3, 0, 0, 6, 5, 0, 0, 0, 31, 0⟩,
  ⟨36, 36864, 63488, 0, 0, 8, 3, 0, 0, 0, 0, 0, 8, 0, 0, 0, 1020, 2⟩,
  ⟨35, 38912, 63488, 0, 0, 8, 3, 0, 0, 0, 0, 0, 8, 0, 0, 0, 1020, 2⟩,
  ⟨37, 45056, 65280, 7, 1, 0, 0, 0, 0, 0, 0, 0, 7, 0, 0, 0, 508, 2⟩,
  ⟨39, 46080, 65024, 0, 0, 0, 0, 0, 0, 0, 0, 0, 9, 0, 0, 1, 511, 0⟩,
  ⟨40, 48128, 65024, 0, 0, 0, 0, 0, 0, 0, 0, 0, 9, 0, 0, 1, 511, 0⟩,
  ⟨41, 53248, 61440, 0, 0, 0, 0, 0, 0, 0, 0, 0, 8, 8, 4, -256, 254, 1⟩,
  ⟨42, 57344, 63488, 0, 0, 0, 0, 0, 0, 0, 0, 0, 11, 0, 0, -2048, 2046, 1⟩,
  ⟨43, 61440, 65535, 0, 0, 0, 0, 0, 0, 0, 0, 0, 0, 0, 0, -16777216, 16777214, 1⟩,
  ⟨44, 57088, 65280, 0, 0, 0, 0, 0, 0, 0, 0, 0, 8, 0, 0, 0, 255, 0⟩,
  ⟨45, 48896, 65535, 0, 0, 0, 0, 0, 0, 0, 0, 0, 0, 0, 0, 0, 0, 0⟩]
def fld (h lo w : Nat) : Nat := match w with
  | 100 => Nat.add (Nat.land h 7) (Nat.mul 8 (Nat.land (Nat.shiftRight h 7) 1))
  | w => Nat.land (Nat.shiftRight h lo) (Nat.sub (Nat.pow 2 w) 1)
def immF (r : Rf) (h : Nat) : Int := Int.add r.least (Int.emod (Int.sub (Int.ofNat (Nat.mul (fld h r.il r.iw) (Nat.pow 2 r.halved))) r.least) (Int.ofNat (Nat.pow 2 (Nat.add r.iw r.halved))))
def takeF (r : Rf) (h : Nat) : I6 := ⟨Int.ofNat (Nat.add r.first (fld h r.pl r.pw)), Int.ofNat (fld h r.dl r.dw), Int.ofNat (fld h r.nl r.nw), Int.ofNat (fld h r.ml r.mw), immF r h, Int.ofNat (fld h r.cl r.cw)⟩
def hasF (r : Rf) (h : Nat) : Bool := Nat.beq (Nat.land h r.nt) r.fixed
def mayF (r : Rf) (i : I6) : Bool := decide (i.imm ≤ r.most) && !barP i

/-- what the reference says may be -/
def inP (n a b by' : Int) : Bool := decide (a ≤ n) && decide (n ≤ b) && (n % by' == 0)
def useP (is : Bool) (r : Int) : Bool := if is then decide (0 ≤ r) && decide (r ≤ 7) else r == 0
structure Fm where
  d : Bool
  n : Bool
  m : Bool
  lo : Int
  hi : Int
  by' : Int
def formsP (op : Int) : Option Fm :=
  if op == 1 then some ⟨true, false, true, 0, 31, 1⟩
  else if op == 2 || op == 3 then some ⟨true, false, true, 1, 32, 1⟩
  else if op == 4 || op == 5 || op == 29 || op == 30 then some ⟨true, true, true, 0, 0, 1⟩
  else if op == 6 || op == 7 then some ⟨true, true, false, 0, 7, 1⟩
  else if decide (8 ≤ op) && decide (op ≤ 11) then some ⟨true, false, false, 0, 255, 1⟩
  else if decide (12 ≤ op) && decide (op ≤ 27) then some ⟨true, false, true, 0, 0, 1⟩
  else if op == 31 || op == 32 then some ⟨true, true, false, 0, 124, 4⟩
  else if op == 33 || op == 34 then some ⟨true, true, false, 0, 31, 1⟩
  else if op == 35 || op == 36 then some ⟨true, false, false, 0, 1020, 4⟩
  else if op == 37 || op == 38 then some ⟨false, false, false, 0, 508, 4⟩
  else if op == 39 || op == 40 then some ⟨false, false, false, 1, 511, 1⟩
  else if op == 41 then some ⟨false, false, false, -256, 254, 2⟩
  else if op == 42 then some ⟨false, false, false, -2048, 2046, 2⟩
  else if op == 43 then some ⟨false, false, false, -16777216, 16777214, 2⟩
  else if op == 44 then some ⟨false, false, false, 0, 255, 1⟩
  else if op == 45 then some ⟨false, false, false, 0, 0, 0⟩
  else none
def refR (i : I6) : Bool :=
  if ((i.op != 41) && (i.cond != 0)) || ((i.op == 41) && !inP i.cond 0 13 1) then false
  else if i.op == 28 then (i.n == 0) && (i.imm == 0) && inP i.d 0 14 1 && (i.d != 13) && inP i.m 0 14 1
  else match formsP i.op with
    | none => false
    | some f => if !useP f.d i.d || !useP f.n i.n || !useP f.m i.m then false
      else if f.by' == 0 then i.imm == 0 else inP i.imm f.lo f.hi f.by'
def signN (n b : Nat) : Int := if Nat.pow 2 (Nat.sub b 1) ≤ n then Int.sub (Int.ofNat n) (Int.ofNat (Nat.pow 2 b)) else Int.ofNat n
/-- the reference's instruction of a halfword, right or not -/
def refI (x : Nat) : I6 :=
  bif Nat.blt x 0x1800 then ⟨Int.ofNat (Nat.add 1 (Nat.div x 2048)), Int.ofNat (Nat.mod x 8), 0, Int.ofNat (Nat.mod (Nat.div x 8) 8), (bif Nat.beq (Nat.div x 2048) 0 then Int.ofNat (Nat.mod (Nat.div x 64) 32) else bif Nat.beq (Nat.mod (Nat.div x 64) 32) 0 then 32 else Int.ofNat (Nat.mod (Nat.div x 64) 32)), 0⟩
  else bif Nat.blt x 0x1c00 then ⟨Int.ofNat (Nat.add 4 (Nat.mod (Nat.div x 512) 2)), Int.ofNat (Nat.mod x 8), Int.ofNat (Nat.mod (Nat.div x 8) 8), Int.ofNat (Nat.mod (Nat.div x 64) 8), 0, 0⟩
  else bif Nat.blt x 0x2000 then ⟨Int.ofNat (Nat.add 6 (Nat.mod (Nat.div x 512) 2)), Int.ofNat (Nat.mod x 8), Int.ofNat (Nat.mod (Nat.div x 8) 8), 0, Int.ofNat (Nat.mod (Nat.div x 64) 8), 0⟩
  else bif Nat.blt x 0x4000 then ⟨Int.ofNat (Nat.add 8 (Nat.mod (Nat.div x 2048) 4)), Int.ofNat (Nat.mod (Nat.div x 256) 8), 0, 0, Int.ofNat (Nat.mod x 256), 0⟩
  else bif Nat.blt x 0x4400 then ⟨Int.ofNat (Nat.add 12 (Nat.mod (Nat.div x 64) 16)), Int.ofNat (Nat.mod x 8), 0, Int.ofNat (Nat.mod (Nat.div x 8) 8), 0, 0⟩
  else bif Nat.beq (Nat.div x 256) 0x46 then ⟨28, Int.ofNat (Nat.add (Nat.mul (Nat.mod (Nat.div x 128) 2) 8) (Nat.mod x 8)), 0, Int.ofNat (Nat.mod (Nat.div x 8) 16), 0, 0⟩
  else bif Nat.beq (Nat.div x 512) 0x28 then ⟨30, Int.ofNat (Nat.mod x 8), Int.ofNat (Nat.mod (Nat.div x 8) 8), Int.ofNat (Nat.mod (Nat.div x 64) 8), 0, 0⟩
  else bif Nat.beq (Nat.div x 512) 0x2c then ⟨29, Int.ofNat (Nat.mod x 8), Int.ofNat (Nat.mod (Nat.div x 8) 8), Int.ofNat (Nat.mod (Nat.div x 64) 8), 0, 0⟩
  else bif Nat.beq (Nat.div x 2048) 0xc then ⟨32, Int.ofNat (Nat.mod x 8), Int.ofNat (Nat.mod (Nat.div x 8) 8), 0, Int.ofNat (Nat.mul (Nat.mod (Nat.div x 64) 32) 4), 0⟩
  else bif Nat.beq (Nat.div x 2048) 0xd then ⟨31, Int.ofNat (Nat.mod x 8), Int.ofNat (Nat.mod (Nat.div x 8) 8), 0, Int.ofNat (Nat.mul (Nat.mod (Nat.div x 64) 32) 4), 0⟩
  else bif Nat.beq (Nat.div x 2048) 0xe then ⟨34, Int.ofNat (Nat.mod x 8), Int.ofNat (Nat.mod (Nat.div x 8) 8), 0, Int.ofNat (Nat.mod (Nat.div x 64) 32), 0⟩
  else bif Nat.beq (Nat.div x 2048) 0xf then ⟨33, Int.ofNat (Nat.mod x 8), Int.ofNat (Nat.mod (Nat.div x 8) 8), 0, Int.ofNat (Nat.mod (Nat.div x 64) 32), 0⟩
  else bif Nat.beq (Nat.div x 2048) 0x12 then ⟨36, Int.ofNat (Nat.mod (Nat.div x 256) 8), 0, 0, Int.ofNat (Nat.mul (Nat.mod x 256) 4), 0⟩
  else bif Nat.beq (Nat.div x 2048) 0x13 then ⟨35, Int.ofNat (Nat.mod (Nat.div x 256) 8), 0, 0, Int.ofNat (Nat.mul (Nat.mod x 256) 4), 0⟩
  else bif Nat.beq (Nat.div x 128) 0x160 then ⟨37, 0, 0, 0, Int.ofNat (Nat.mul (Nat.mod x 128) 4), 0⟩
  else bif Nat.beq (Nat.div x 128) 0x161 then ⟨38, 0, 0, 0, Int.ofNat (Nat.mul (Nat.mod x 128) 4), 0⟩
  else bif Nat.beq (Nat.div x 512) 0x5a then ⟨39, 0, 0, 0, Int.ofNat (Nat.mod x 512), 0⟩
  else bif Nat.beq (Nat.div x 512) 0x5e then ⟨40, 0, 0, 0, Int.ofNat (Nat.mod x 512), 0⟩
  else bif Nat.beq x 0xbf00 then ⟨45, 0, 0, 0, 0, 0⟩
  else bif Nat.beq (Nat.div x 4096) 0xd && Nat.blt (Nat.mod (Nat.div x 256) 16) 14 then ⟨41, 0, 0, 0, Int.mul 2 (signN (Nat.mod x 256) 8), Int.ofNat (Nat.mod (Nat.div x 256) 16)⟩
  else bif Nat.beq (Nat.div x 256) 0xdf then ⟨44, 0, 0, 0, Int.ofNat (Nat.mod x 256), 0⟩
  else bif Nat.beq (Nat.div x 2048) 0x1c then ⟨42, 0, 0, 0, Int.mul 2 (signN (Nat.mod x 2048) 11), 0⟩
  else ⟨0, 0, 0, 0, 0, 0⟩
/-- the reference's halfword of an instruction that is no Bl -/
def refE (i : I6) : Nat :=
  bif Nat.blt i.op.toNat 4 then Nat.add (Nat.add (Nat.mul (Nat.sub i.op.toNat 1) 2048) (Nat.mul (Nat.mod i.imm.toNat 32) 64)) (Nat.add (Nat.mul i.m.toNat 8) i.d.toNat)
  else bif Nat.blt i.op.toNat 6 then Nat.add (Nat.add 0x1800 (Nat.mul (Nat.sub i.op.toNat 4) 512)) (Nat.add (Nat.add (Nat.mul i.m.toNat 64) (Nat.mul i.n.toNat 8)) i.d.toNat)
  else bif Nat.blt i.op.toNat 8 then Nat.add (Nat.add 0x1c00 (Nat.mul (Nat.sub i.op.toNat 6) 512)) (Nat.add (Nat.add (Nat.mul i.imm.toNat 64) (Nat.mul i.n.toNat 8)) i.d.toNat)
  else bif Nat.blt i.op.toNat 12 then Nat.add (Nat.add 0x2000 (Nat.mul (Nat.sub i.op.toNat 8) 2048)) (Nat.add (Nat.mul i.d.toNat 256) i.imm.toNat)
  else bif Nat.blt i.op.toNat 28 then Nat.add (Nat.add 0x4000 (Nat.mul (Nat.sub i.op.toNat 12) 64)) (Nat.add (Nat.mul i.m.toNat 8) i.d.toNat)
  else bif Nat.beq i.op.toNat 28 then Nat.add (Nat.add 0x4600 (Nat.mul (Nat.div i.d.toNat 8) 128)) (Nat.add (Nat.mul i.m.toNat 8) (Nat.mod i.d.toNat 8))
  else bif Nat.beq i.op.toNat 30 then Nat.add 0x5000 (Nat.add (Nat.add (Nat.mul i.m.toNat 64) (Nat.mul i.n.toNat 8)) i.d.toNat)
  else bif Nat.beq i.op.toNat 29 then Nat.add 0x5800 (Nat.add (Nat.add (Nat.mul i.m.toNat 64) (Nat.mul i.n.toNat 8)) i.d.toNat)
  else bif Nat.beq i.op.toNat 32 then Nat.add 0x6000 (Nat.add (Nat.add (Nat.mul (Nat.div i.imm.toNat 4) 64) (Nat.mul i.n.toNat 8)) i.d.toNat)
  else bif Nat.beq i.op.toNat 31 then Nat.add 0x6800 (Nat.add (Nat.add (Nat.mul (Nat.div i.imm.toNat 4) 64) (Nat.mul i.n.toNat 8)) i.d.toNat)
  else bif Nat.beq i.op.toNat 34 then Nat.add 0x7000 (Nat.add (Nat.add (Nat.mul i.imm.toNat 64) (Nat.mul i.n.toNat 8)) i.d.toNat)
  else bif Nat.beq i.op.toNat 33 then Nat.add 0x7800 (Nat.add (Nat.add (Nat.mul i.imm.toNat 64) (Nat.mul i.n.toNat 8)) i.d.toNat)
  else bif Nat.beq i.op.toNat 36 then Nat.add 0x9000 (Nat.add (Nat.mul i.d.toNat 256) (Nat.div i.imm.toNat 4))
  else bif Nat.beq i.op.toNat 35 then Nat.add 0x9800 (Nat.add (Nat.mul i.d.toNat 256) (Nat.div i.imm.toNat 4))
  else bif Nat.beq i.op.toNat 37 then Nat.add 0xb000 (Nat.div i.imm.toNat 4)
  else bif Nat.beq i.op.toNat 38 then Nat.add 0xb080 (Nat.div i.imm.toNat 4)
  else bif Nat.beq i.op.toNat 39 then Nat.add 0xb400 i.imm.toNat
  else bif Nat.beq i.op.toNat 40 then Nat.add 0xbc00 i.imm.toNat
  else bif Nat.beq i.op.toNat 41 then Nat.add 0xd000 (Nat.add (Nat.mul i.cond.toNat 256) (Int.toNat (Int.emod (Int.ediv i.imm 2) 256)))
  else bif Nat.beq i.op.toNat 42 then Nat.add 0xe000 (Int.toNat (Int.emod (Int.ediv i.imm 2) 2048))
  else bif Nat.beq i.op.toNat 44 then Nat.add 0xdf00 i.imm.toNat
  else 0xbf00
/-- a row's halfword of an instruction -/
def putF (n lo w : Nat) : Nat := match w with
  | 100 => Nat.add (Nat.land n 7) (Nat.mul 128 (Nat.land (Nat.shiftRight n 3) 1))
  | w => Nat.shiftLeft (Nat.land n (Nat.sub (Nat.pow 2 w) 1)) lo
def layF (r : Rf) (i : I6) : Nat :=
  Nat.lor (Nat.lor (Nat.lor (Nat.lor (Nat.lor (Nat.lor r.fixed (putF (Nat.sub i.op.toNat r.first) r.pl r.pw)) (putF i.d.toNat r.dl r.dw)) (putF i.n.toNat r.nl r.nw)) (putF i.m.toNat r.ml r.mw)) (Nat.shiftLeft (Int.toNat (Int.emod (Int.ediv i.imm (Int.ofNat (Nat.pow 2 r.halved))) (Int.ofNat (Nat.pow 2 r.iw)))) r.il)) (putF i.cond.toNat r.cl r.cw)
def ieq : Int → Int → Bool
  | .ofNat m, .ofNat n => Nat.beq m n
  | .negSucc m, .negSucc n => Nat.beq m n
  | _, _ => false
def eqI (a b : I6) : Bool := ieq a.op b.op && (ieq a.d b.d && (ieq a.n b.n && (ieq a.m b.m && (ieq a.imm b.imm && ieq a.cond b.cond))))
/-- what a halfword is that no row takes -/
def badI (i : I6) : Bool := ieq i.op 0 || (ieq i.op 28 && barP i) || ((ieq i.op 39 || ieq i.op 40) && ieq i.imm 0)
def someF (h : Nat) : List Rf → Bool
  | [] => false
  | r :: rs => match hasF r h with
    | true => match mayF r (takeF r h) with
      | true => true
      | false => someF h rs
    | false => someF h rs
def everyF (h : Nat) : List Rf → Bool
  | [] => true
  | r :: rs => match hasF r h with
    | true => match mayF r (takeF r h) with
      | true => eqI (takeF r h) (refI h) && (Nat.beq (layF r (takeF r h)) h && (Nat.beq (refE (takeF r h)) h && everyF h rs))
      | false => everyF h rs
    | false => everyF h rs
def farN' (h : Nat) : Bool := Nat.beq (Nat.div h 2048) 30
def okH (rs : List Rf) (h : Nat) : Bool := match farN' h with
  | true => true
  | false => match everyF h rs with
    | true => match someF h rs with
      | true => true
      | false => badI (refI h)
    | false => false
def allB (f : Nat → Bool) : Nat → Bool
  | 0 => true
  | k + 1 => match f k with
    | true => allB f k
    | false => false
def candF (hi : Nat) : List Rf → List Rf
  | [] => []
  | r :: rs => match Nat.beq (Nat.land (Nat.mul hi 256) r.nt) (Nat.land r.fixed 65280) with
    | true => r :: candF hi rs
    | false => candF hi rs
def forceL : List Rf → (List Rf → Bool) → Bool
  | [], k => k []
  | r :: rs, k => forceL rs fun t => k (r :: t)
def okHi (hi : Nat) : Bool := forceL (candF hi rowF) fun rs => allB (fun lo => okH rs (Nat.add (Nat.mul hi 256) lo)) 256
end Go.Proofs.Ytibmgmgkaacibaa

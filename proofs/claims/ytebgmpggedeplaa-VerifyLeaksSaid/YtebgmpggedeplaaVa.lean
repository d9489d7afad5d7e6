/- What package verify does, plainly: what an instruction takes, gives and refuses; the walk. No program is named here but by what it imports. -/
import Derived.Test.YtebgmpggedeplaaLb
import Derived.Test.YtebgmpggedeplaaIs
namespace Go.Proofs.Ytebgmpggedeplaa
open Go.RowKit Go.Lib
set_option linter.unusedVariables false

structure BodyM where
  img : ImgM
  locals : List Int
  res : Int
  code : List InsM
def bodyP (I : ImgM) (m : Nat) : BodyM := ⟨I, (I.methods.getD m default).params ++ (I.methods.getD m default).locals, (I.methods.getD m default).res, (I.methods.getD m default).code⟩
def oneP (k : Int) : List Int := if k == 0 then [] else [k]
def bufV (a : Int) : Int := if a == 1 then 3 else 4
def atI (T : List Int) (k : Nat) : Int := T.getD k 0
def astrayB (B : BodyM) (i : InsM) : Bool :=
  if i.op == 2 || i.op == 3 then decide ((B.locals.length : Int) ≤ i.a)
  else if i.op == 23 || i.op == 24 then decide ((B.code.length : Int) ≤ i.a)
  else if i.op == 33 || i.op == 34 then decide ((B.img.fields.length : Int) ≤ i.a)
  else if i.op == 37 then decide ((B.img.methods.length : Int) ≤ i.a)
  else if i.op == 38 then decide ((B.img.imports.length : Int) ≤ i.a)
  else false
def twoB (op : Int) : Bool := (decide (6 ≤ op ∧ op ≤ 14)) || decide (19 ≤ op ∧ op ≤ 21)
def asks0 (op : Int) : List Int :=
  if op == 4 || op == 5 then [-1]
  else if twoB op then [2, 2]
  else if op == 15 || op == 16 then [2]
  else if op == 17 || op == 18 then [1, 1]
  else if op == 22 then [2, -1, -1]
  else if op == 24 || op == 27 then [1]
  else if op == 26 || op == 28 then [-2]
  else if op == 29 then [-2, 1]
  else if op == 30 then [-2, 1, 2]
  else if op == 31 || op == 32 then [-2, 1, -2, 1, 1]
  else if op == 36 then [-2, 1, 1]
  else []
def asksP (B : BodyM) (i : InsM) : List Int :=
  if i.op == 3 then oneP (B.locals.getD i.a.toNat 0)
  else if i.op == 34 then oneP (B.img.fields.getD i.a.toNat 0)
  else if i.op == 37 then (B.img.methods.getD i.a.toNat default).params
  else if i.op == 38 then (B.img.imports.getD i.a.toNat default).params
  else if i.op == 39 then oneP B.res
  else asks0 i.op
def pickedV (T : List Int) : Int := if kI (joinV (atI T 1) (atI T 2)) then bothV (atI T 0) (joinV (atI T 1) (atI T 2)) else joinV (atI T 1) (atI T 2)
def givesP (B : BodyM) (i : InsM) (T : List Int) : List Int :=
  if i.op == 1 || i.op == 17 || i.op == 18 || i.op == 26 || i.op == 28 then [1]
  else if i.op == 2 then oneP (B.locals.getD i.a.toNat 0)
  else if i.op == 5 then [atI T 0, atI T 0]
  else if twoB i.op then [bothV (atI T 0) (atI T 1)]
  else if i.op == 15 || i.op == 16 then [atI T 0]
  else if i.op == 22 then [pickedV T]
  else if i.op == 25 || i.op == 27 then oneP i.a
  else if i.op == 29 then [ofV (atI T 0)]
  else if i.op == 32 then [bothV (ofV (atI T 0)) (ofV (atI T 2))]
  else if i.op == 33 then oneP (B.img.fields.getD i.a.toNat 0)
  else if i.op == 35 then oneP (bufV i.a)
  else if i.op == 37 then oneP (B.img.methods.getD i.a.toNat default).res
  else if i.op == 38 then oneP (B.img.imports.getD i.a.toNat default).res
  else []
def suitB (k asked : Int) : Bool := if asked == -1 then true else if asked == -2 then kA k else fitB k asked || (kI k && kI asked)
def keptB (k asked : Int) : Bool := asked != 1 || !kS k
def alikeB (i : InsM) (T : List Int) : Bool := if i.op == 22 then joinB (atI T 1) (atI T 2) else true
def outB (i : InsM) (T : List Int) : Bool :=
  if i.op == 22 then kA (atI T 1) && kS (atI T 0)
  else if i.op == 30 then !fitB (atI T 2) (ofV (atI T 0))
  else if i.op == 31 then !fitB (ofV (atI T 2)) (ofV (atI T 0))
  else if i.op == 36 then !fitB (ofV (atI T 0)) (ofV (bufV i.a))
  else false
/-- the new stack, and the error -/
def stepP (B : BodyM) (i : InsM) (st : List Int) : List Int × Int :=
  if st.length < (asksP B i).length then ([], 10)
  else if 8 < (st.take (st.length - (asksP B i).length) ++ givesP B i (st.drop (st.length - (asksP B i).length))).length then ([], 10)
  else if (allB suitB (st.drop (st.length - (asksP B i).length)) (asksP B i) && alikeB i (st.drop (st.length - (asksP B i).length))) = false then ([], 11)
  else if (allB keptB (st.drop (st.length - (asksP B i).length)) (asksP B i) && !outB i (st.drop (st.length - (asksP B i).length))) = false then ([], 12)
  else (st.take (st.length - (asksP B i).length) ++ givesP B i (st.drop (st.length - (asksP B i).length)), 0)

structure PlM where
  st : List Int
  on : Bool
  td : Bool
deriving DecidableEq
instance : Inhabited PlM := ⟨⟨[], false, false⟩⟩
def followP (i : InsM) (pc : Int) : List Int :=
  if i.op == 23 then [i.a] else if i.op == 24 then [pc + 1, i.a] else if i.op == 39 then [] else [pc + 1]
/-- a stack brought to a place: what is there then; none, if that may not be -/
def takeP (p : PlM) (st : List Int) : Option PlM :=
  if p.on = false then some ⟨st, true, true⟩
  else if allB joinB p.st st = false then none
  else if joinL p.st st = p.st then some p
  else some ⟨joinL p.st st, p.on, true⟩
def bringP (st : List Int) : List PlM → List Int → List PlM × Int
  | P, [] => (P, 0)
  | P, n :: r => if (P.length : Int) ≤ n then (P, 13) else
    match takeP (P.getD n.toNat default) st with
    | none => (P, 14)
    | some p => bringP st (P.set n.toNat p) r
def doP (B : BodyM) (P : List PlM) (pc : Nat) : List PlM × Int :=
  if (stepP B (B.code.getD pc default) (P.getD pc default).st).2 = 0 then
    bringP (stepP B (B.code.getD pc default) (P.getD pc default).st).1 P (followP (B.code.getD pc default) pc)
  else (P, (stepP B (B.code.getD pc default) (P.getD pc default).st).2)
def off (P : List PlM) (pc : Nat) : List PlM := P.set pc ⟨(P.getD pc default).st, (P.getD pc default).on, false⟩
/-- the first place that b holds at -/
def idxP {α : Type} (b : α → Bool) : List α → Option Nat
  | [] => none
  | x :: r => if b x then some 0 else (idxP b r).map (· + 1)
/-- what the walk ends with: the places, the pc, the error -/
def walkP (B : BodyM) : Nat → List PlM → Option (List PlM × Nat × Int)
  | 0, _ => none
  | f + 1, P => match idxP PlM.td P with
    | none => some (P, 0, 0)
    | some pc => if (doP B (off P pc) pc).2 = 0 then walkP B f (doP B (off P pc) pc).1 else some ([], pc, (doP B (off P pc) pc).2)
def start (n : Nat) : List PlM := (List.replicate n default).set 0 ⟨[], true, true⟩
def methP (I : ImgM) (m f : Nat) : Option (List PlM × Nat × Int) :=
  match idxP (astrayB (bodyP I m)) (bodyP I m).code with
  | some pc => some ([], pc, 9)
  | none => walkP (bodyP I m) f (start (bodyP I m).code.length)
/-- method, pc, error; from method m on -/
def fromP (I : ImgM) (f : Nat) : Nat → Nat → Option (Nat × Nat × Int)
  | 0, _ => some (0, 0, 0)
  | k + 1, m => match methP I m f with
    | none => none
    | some (_, pc, e) => if e = 0 then fromP I f k (m + 1) else some (m, pc, e)
def verifyP (I : ImgM) (f : Nat) : Option (Nat × Nat × Int) := if imgB insB I then fromP I f I.methods.length 0 else some (0, 0, 1)

end Go.Proofs.Ytebgmpggedeplaa

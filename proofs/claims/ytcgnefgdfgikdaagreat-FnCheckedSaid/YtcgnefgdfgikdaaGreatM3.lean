/-
  The way of a check: plain. Types on a stack (none: any type), blocks that are open, how high the stack was.
-/
import Derived.Test.YtcgnefgdfgikdaaGreatM2
namespace Go.Proofs.YtcgnefgdfgikdaaGreat

abbrev Ty := Option Int
def okTy (t : Ty) : Prop := ∀ x, t = some x → 125 ≤ x ∧ x ≤ 127
def enc (z : Int) (t : Ty) : Int := t.getD z
structure Blk where
  op : Int
  kind : Int
  h : Nat
  dead : Bool
  split : Bool
structure St where
  vals : List Ty
  opn : List Blk
  most : Nat
def fit (a b : Ty) : Bool := (a == b || a == none) || b == none
/-- A type is taken: what was found. -/
def takeT (want : Ty) (s : St) : Except Int (Ty × St) :=
  match s.opn with
  | [] => .error 2
  | b :: _ =>
    if s.vals.length ≤ b.h then (if b.dead then .ok (none, s) else .error 2)
    else match s.vals with
      | [] => .error 2
      | t :: vs => if fit t want then .ok (t, { s with vals := vs }) else .error 3
/-- The type that a number stands for: 0 is any. -/
def wt (k : Int) : Ty := if k = 0 then none else some k
def takeI (k : Int) (s : St) : Except Int St := if k = 64 then .ok s else (takeT (wt k) s).map (·.2)
def putT (t : Ty) (s : St) : St := { s with vals := t :: s.vals, most := max s.most (s.vals.length + 1) }
def putI (k : Int) (s : St) : St := if k = 64 then s else putT (some k) s
def dieS (s : St) : St :=
  match s.opn with
  | [] => s
  | b :: r => { s with vals := s.vals.drop (s.vals.length - b.h), opn := { b with dead := true } :: r }
def beginS (op k : Int) (s : St) : St := { s with opn := ⟨op, k, s.vals.length, false, false⟩ :: s.opn }
def closeS (s : St) : Except Int St :=
  match s.opn with
  | [] => .error 2
  | b :: _ => (takeI b.kind s).bind fun s' => if s'.vals.length ≤ b.h then .ok s' else .error 2
def wantsS (a : Int) (s : St) : Except Int Int :=
  match s.opn[a.toNat]? with
  | none => .error 4
  | some b => if b.op = 3 then .ok 64 else .ok b.kind
def takes (ks : List Int) (s : St) : Except Int St := ks.foldlM (fun s k => takeI k s) s
def elseS (s : St) : Except Int St := (closeS s).map fun s =>
  match s.opn with
  | [] => s
  | b :: r => { s with opn := { b with dead := false, split := true } :: r }
def endS (s : St) : Except Int St := (closeS s).bind fun s =>
  match s.opn with
  | [] => .error 2
  | b :: r => if (b.op = 4 ∧ b.split = false) ∧ b.kind ≠ 64 then .error 3 else .ok (if r = [] then { s with opn := r } else putI b.kind { s with opn := r })
def selS (s : St) : Except Int St := (takeI 127 s).bind fun s => (takeT none s).bind fun x => (takeT x.1 x.2).map fun y => putT (y.1.or x.1) y.2
/-- What the plain instructions take and put. -/
def intEff (k t : Int) : List Int × Int := if k < 16 then ([t, t], t) else if k ≤ 21 then ([t, t], 127) else if k = 25 then ([t], 127) else ([t], t)
def floatEff (k : Int) : List Int × Int := if k = 6 then ([125], 125) else if 7 ≤ k then ([125, 125], 127) else ([125, 125], 125)
def plainEff (op : Int) : List Int × Int :=
  if op = 26 then ([0], 64) else if op = 65 then ([], 127) else if op = 66 then ([], 126) else if op = 67 then ([], 125)
  else if op = 176 then ([126], 127) else if op = 177 ∨ op = 178 then ([127], 126) else if op = 179 then ([127], 125) else if op = 180 then ([125], 127)
  else if 96 < op ∧ op ≤ 123 then intEff (op - 96) 127 else if 128 < op ∧ op ≤ 155 then intEff (op - 128) 126 else if 160 < op ∧ op ≤ 169 then floatEff (op - 160) else ([], 64)
def memEff (op : Int) : List Int × Int := if op = 41 then ([127], 126) else if op = 54 then ([127, 127], 64) else if op = 55 then ([126, 127], 64) else if op = 63 then ([], 127) else ([127], 127)
def varEff (op t : Int) : List Int × Int := if op = 33 ∨ op = 36 then ([t], 64) else if op = 34 then ([t], t) else ([], t)
def effS (M : Mod7) (own : List Int) (op a : Int) (s : St) : Except Int (List Int × Int) :=
  if op = 13 then (wantsS a s).map fun k => ([127, k], k)
  else if op = 16 then (match M.fs[a.toNat]? with | none => .error 5 | some f => .ok (f.ps.reverse, f.res))
  else if op = 32 ∨ op = 33 ∨ op = 34 then (match own[a.toNat]? with | none => .error 5 | some t => .ok (varEff op t))
  else if op = 35 ∨ op = 36 then (match M.gs[a.toNat]? with | none => .error 5 | some g => if op = 36 ∧ g.fixed = true then .error 7 else .ok (varEff op g.ty))
  else if op = 40 ∨ op = 41 ∨ op = 54 ∨ op = 55 ∨ op = 63 ∨ op = 64 then (if M.mem then .ok (memEff op) else .error 6)
  else .ok (plainEff op)
def stepS (M : Mod7) (own : List Int) (res op a : Int) (s : St) : Except Int St :=
  if op = 2 ∨ op = 3 then .ok (beginS op a s)
  else if op = 4 then (takeI 127 s).map (beginS 4 a)
  else if op = 5 then elseS s
  else if op = 11 then endS s
  else if op = 0 then .ok (dieS s)
  else if op = 15 then (takeI res s).map dieS
  else if op = 12 then (wantsS a s).bind fun k => (takeI k s).map dieS
  else if op = 27 then selS s
  else (effS M own op a s).bind fun e => (takes e.1 s).map (putI e.2)
/-- The way through a body: how it ends, where. -/
def runS (M : Mod7) (own : List Int) (res : Int) : Nat → List (Int × Int) → St → Except (Int × Nat) St
  | _, [], s => .ok s
  | k, x :: L, s => match stepS M own res x.1 x.2 s with
    | .error c => .error (c, k)
    | .ok s' => runS M own res (k + 1) L s'
def firstS (res : Int) : St := beginS 2 res ⟨[], [], 0⟩
/-- What is told of a func: a code, a place, how high. -/
def checkS (M : Mod7) (f : Fun7) : Int × Int × Int :=
  match runS M (f.ps ++ f.ls) f.res 0 f.body (firstS f.res) with
  | .error (c, k) => (c, (k : Int), 0)
  | .ok s => (0, 0, (s.most : Int))

/-- All is in order: types on the stack, blocks that begin no higher than the next one. -/
def okB (b : Blk) : Prop := b.kind = 64 ∨ (125 ≤ b.kind ∧ b.kind ≤ 127)
def downs : List Blk → Nat → Prop
  | [], _ => True
  | b :: r, n => b.h ≤ n ∧ downs r b.h
structure Fine (s : St) : Prop where
  vals : ∀ t ∈ s.vals, okTy t
  blks : ∀ b ∈ s.opn, okB b
  low : downs s.opn s.vals.length
  sp : ∀ b ∈ s.opn, b.split = true → b.op = 4
end Go.Proofs.YtcgnefgdfgikdaaGreat

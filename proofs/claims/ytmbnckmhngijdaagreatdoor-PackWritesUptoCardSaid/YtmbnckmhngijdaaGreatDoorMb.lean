/- What is packed and what is read, as plain functions on lists of bytes. -/
import Derived.Test.YtmbnckmhngijdaaGreatDoorMa
namespace Go.Proofs.YtmbnckmhngijdaaGreatDoor

structure Itm where
  t : Bool
  i : Int
  s : List UInt8

/-! ### numbers as bytes -/
def leL : Nat → Nat → List UInt8
  | 0, _ => []
  | k + 1, u => UInt8.ofNat u :: leL k (u / 256)
def u64 (n : Int) : Nat := (n % 18446744073709551616).toNat
def sevF : Nat → Nat → List UInt8
  | 0, _ => []
  | f + 1, m => if m = 0 then [] else UInt8.ofNat (m % 128 + 128) :: sevF f (m / 128)
def sevL (m : Nat) : List UInt8 := (UInt8.ofNat (m % 128) :: sevF 10 (m / 128)).reverse
def utfL (r : Nat) : List UInt8 :=
  if r < 128 then [UInt8.ofNat r]
  else if r < 2048 then [UInt8.ofNat (192 + r / 64), UInt8.ofNat (128 + r % 64)]
  else if r < 65536 then [UInt8.ofNat (224 + r / 4096), UInt8.ofNat (128 + r / 64 % 64), UInt8.ofNat (128 + r % 64)]
  else [UInt8.ofNat (240 + r / 262144), UInt8.ofNat (128 + r / 4096 % 64), UInt8.ofNat (128 + r / 64 % 64), UInt8.ofNat (128 + r % 64)]
def fitsC (c : UInt8) (n : Int) : Bool :=
  if c = 85 then decide (0 ≤ n ∧ n ≤ 1114111 ∧ ¬ (55296 ≤ n ∧ n ≤ 57343))
  else if c = 119 then decide (0 ≤ n)
  else if signC c then decide (-((2 ^ (8 * sizeC c - 1) : Nat) : Int) ≤ n ∧ n < ((2 ^ (8 * sizeC c - 1) : Nat) : Int))
  else decide (0 ≤ n ∧ n < ((2 ^ (8 * sizeC c) : Nat) : Int))
def numB (d : Dir) (n : Int) : List UInt8 :=
  if d.c = 85 then utfL n.toNat
  else if d.c = 119 then sevL n.toNat
  else if d.great then (leL (sizeC d.c) (u64 n)).reverse else leL (sizeC d.c) (u64 n)

/-! ### strings as bytes -/
def hexV (b : UInt8) : Option Nat :=
  if 48 ≤ b.toNat ∧ b.toNat ≤ 57 then some (b.toNat - 48) else if 97 ≤ b.toNat ∧ b.toNat ≤ 102 then some (b.toNat - 87) else none
def hexVs : List UInt8 → Option (List Nat)
  | [] => some []
  | b :: l => match hexV b with
    | none => none
    | some v => (hexVs l).map (v :: ·)
def pairL : List Nat → List UInt8
  | [] => []
  | [x] => [UInt8.ofNat (16 * x)]
  | x :: y :: r => UInt8.ofNat (16 * x + y) :: pairL r
def hexB (all : Bool) (n : Nat) (s : List UInt8) : Option (List UInt8) :=
  if all then (hexVs s).map pairL
  else (hexVs (s.take n)).map fun v => pairL (v ++ List.replicate (n - s.length) 0)
def symL : List UInt8 := [48, 49, 50, 51, 52, 53, 54, 55, 56, 57, 97, 98, 99, 100, 101, 102]
def hexD (v : Nat) : UInt8 := symL.getD v 0
def hexL : List UInt8 → List UInt8
  | [] => []
  | b :: l => hexD (b.toNat / 16) :: hexD (b.toNat % 16) :: hexL l
def fillL (d : Dir) (s : List UInt8) : List UInt8 :=
  if d.all then (if d.c = 90 then s ++ [0] else s)
  else if d.n < s.length then (if d.c = 90 then s.take (d.n - 1) ++ [0] else s.take d.n)
  else s ++ List.replicate (d.n - s.length) (if d.c = 65 then 32 else 0)

/-! ### packing -/
def itemL (d : Dir) (x : Itm) : Except Nat (List UInt8) :=
  if d.c = 72 then
    match hexB d.all d.n x.s with
    | none => .error 1
    | some b => .ok b
  else if numC d.c then (if fitsC d.c x.i then .ok (numB d x.i) else .error 5)
  else .ok (fillL d x.s)
def addL (o : List UInt8) (b : List UInt8) : Except Nat (List UInt8) :=
  if 100000 < o.length + b.length then .error 5 else .ok (o ++ b)
abbrev St := List UInt8 × Nat
def takeL (xs : List Itm) (d : Dir) (st : St) : Except Nat St :=
  match xs[st.2]? with
  | none => .error 14
  | some x =>
    if x.t = numC d.c then .error 1
    else
      match itemL d x with
      | .error e => .error e
      | .ok b =>
        match addL st.1 b with
        | .error e => .error e
        | .ok o => .ok (o, st.2 + 1)
def takesL (xs : List Itm) (d : Dir) : Nat → St → Except Nat St
  | 0, st => .ok st
  | n + 1, st =>
    match takeL xs d st with
    | .error e => .error e
    | .ok st' => takesL xs d n st'
def usesD (d : Dir) (left : Nat) : Nat := if numC d.c then (if d.all then left else d.n) else 1
def stepL (xs : List Itm) (d : Dir) (st : St) : Except Nat St :=
  if d.c = 120 then
    match addL st.1 (List.replicate d.n 0) with
    | .error e => .error e
    | .ok o => .ok (o, st.2)
  else if d.c = 64 then
    .ok (if st.1.length < d.n then st.1 ++ List.replicate (d.n - st.1.length) 0 else st.1.take d.n, st.2)
  else takesL xs d (usesD d (xs.length - st.2)) st
def runL (xs : List Itm) : List Dir → St → Except Nat St
  | [], st => .ok st
  | d :: ds, st =>
    match stepL xs d st with
    | .error e => .error e
    | .ok st' => runL xs ds st'
/-- the bytes, how many items are used, the error -/
def packL (form : List UInt8) (xs : List Itm) : Except Nat St :=
  match formL form with
  | none => .error 4
  | some ds => runL xs ds ([], 0)
def packB (r : Except Nat St) : List UInt8 := match r with | .ok st => st.1 | .error _ => []
def packN (r : Except Nat St) : Nat := match r with | .ok st => st.2 | .error _ => 0
def errN {α : Type} (r : Except Nat α) : Nat := match r with | .ok _ => 0 | .error e => e

/-! ### the size of a form -/
def sizeL : List Dir → Nat → Except Nat Nat
  | [], n => .ok n
  | d :: ds, n =>
    if d.all || (numC d.c && decide (sizeC d.c = 0)) then .error 1
    else sizeL ds (if d.c = 64 then d.n else if d.c = 72 then n + (d.n + 1) / 2 else if numC d.c then n + d.n * sizeC d.c else n + d.n)
def sizeF (form : List UInt8) : Except Nat Nat :=
  match formL form with
  | none => .error 4
  | some ds => sizeL ds 0
def okN (r : Except Nat Nat) : Nat := match r with | .ok n => n | .error _ => 0

/-! ### reading -/
def beV : List UInt8 → Nat → Nat
  | [], u => u
  | b :: l, u => beV l (u * 256 + b.toNat)
def fixedN (d : Dir) (l : List UInt8) : Nat := if d.great then beV l 0 else beV l.reverse 0
def fixedR (d : Dir) (l : List UInt8) : Except Nat Int :=
  if signC d.c then
    .ok (if 2 ^ (8 * l.length - 1) ≤ fixedN d l then (fixedN d l : Int) - ((2 ^ (8 * l.length) : Nat) : Int) else (fixedN d l : Int))
  else if fixedN d l < 9223372036854775808 then .ok (fixedN d l : Int) else .error 5
def sevR : Nat → Nat → Nat → List UInt8 → Except Nat (Int × Nat)
  | _, _, _, [] => .error 14
  | 0, _, _, _ :: _ => .error 5
  | f + 1, i, u, b :: l => if b.toNat < 128 then .ok ((u * 128 + b.toNat % 128 : Nat), i + 1) else sevR f (i + 1) (u * 128 + b.toNat % 128) l
def numberR (chr : List UInt8 → Except Nat (Int × Nat)) (d : Dir) (l : List UInt8) : Except Nat (Int × Nat) :=
  if l.length < max (sizeC d.c) 1 then .error 14
  else if d.c = 85 then chr l
  else if d.c = 119 then (if l.head? = some 128 then .error 5 else sevR 9 0 0 l)
  else
    match fixedR d (l.take (sizeC d.c)) with
    | .error e => .error e
    | .ok v => .ok (v, sizeC d.c)
abbrev Rt := Nat × List Itm
def numbersR (chr : List UInt8 → Except Nat (Int × Nat)) (s : List UInt8) (d : Dir) : Nat → Rt → Except Nat Rt
  | 0, st => .ok st
  | f + 1, st =>
    if d.all = true ∧ (s.drop st.1).length < max (sizeC d.c) 1 then .ok st
    else
      match numberR chr d (s.drop st.1) with
      | .error e => .error e
      | .ok v => numbersR chr s d f (st.1 + v.2, st.2 ++ [⟨false, v.1, []⟩])
def trimRL (l : List UInt8) : List UInt8 := (l.reverse.dropWhile fun b => b == 32 || b == 0).reverse
def textR (d : Dir) (l : List UInt8) : List UInt8 × Nat :=
  if d.c = 72 then
    (if d.all then (hexL l, l.length) else ((hexL (l.take ((d.n + 1) / 2))).take d.n, min ((d.n + 1) / 2) l.length))
  else
    let z := if d.all then l.length else min d.n l.length
    if d.c = 65 then (trimRL (l.take z), z)
    else if d.c = 90 then
      (if (l.take z).contains 0 then ((l.take z).takeWhile (· != 0), if d.all then ((l.take z).takeWhile (· != 0)).length + 1 else z) else (l.take z, z))
    else (l.take z, z)
def stepR (chr : List UInt8 → Except Nat (Int × Nat)) (s : List UInt8) (d : Dir) (st : Rt) : Except Nat Rt :=
  if d.c = 120 then (if s.length < st.1 + d.n then .error 14 else .ok (st.1 + d.n, st.2))
  else if d.c = 64 then (if s.length < d.n then .error 14 else .ok (d.n, st.2))
  else if numC d.c then numbersR chr s d (if d.all then s.length + 1 else d.n) st
  else .ok (st.1 + (textR d (s.drop st.1)).2, st.2 ++ [⟨true, 0, (textR d (s.drop st.1)).1⟩])
def runR (chr : List UInt8 → Except Nat (Int × Nat)) (s : List UInt8) : List Dir → Rt → Except Nat Rt
  | [], st => .ok st
  | d :: ds, st =>
    match stepR chr s d st with
    | .error e => .error e
    | .ok st' => runR chr s ds st'
def readR (chr : List UInt8 → Except Nat (Int × Nat)) (form s : List UInt8) : Except Nat Rt :=
  match formL form with
  | none => .error 4
  | some ds => runR chr s ds (0, [])
def readB (r : Except Nat Rt) : List Itm := match r with | .ok st => st.2 | .error _ => []
end Go.Proofs.YtmbnckmhngijdaaGreatDoor

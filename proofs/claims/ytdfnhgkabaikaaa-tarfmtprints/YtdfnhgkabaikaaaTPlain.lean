/- Tars, plainly: fields, headers, entries. -/
import Derived.Test.YtdfnhgkabaikaaaTKit
namespace Go.Proofs.Ytdfnhgkabaikaaa
/-- Are all bytes 0? -/
def noughts (bs : List UInt8) : Bool := bs.all (fun x => x == 0)
def isDig (x : UInt8) : Bool := decide (48 ≤ x.toNat) && decide (x.toNat ≤ 55)
/-- What digits tell. -/
def val (ds : List UInt8) : Nat := ds.foldl (fun n d => n * 8 + (d.toNat - 48)) 0
/-- A number's field: digits, and the last byte. -/
def numP (ds : List UInt8) (z : UInt8) : Nat × Bool := if ds.all isDig then (val ds, (z == 0) || (z == 32)) else (0, false)
def numF (f : List UInt8) : Nat × Bool := numP f.dropLast (f.getLastD 0)
def sumF (f : List UInt8) : Nat × Bool := if f.getD 7 0 = 32 ∧ f.getD 6 0 = 0 then numF (f.take 7) else numF f
def textF (f : List UInt8) : List UInt8 × Bool := (f.takeWhile (fun x => x != 0), noughts (f.dropWhile (fun x => x != 0)))
/-- The sum of bytes. -/
def total (bs : List UInt8) : Nat := bs.foldl (fun n d => n + d.toNat) 0
def fld (h : List UInt8) (o n : Nat) : List UInt8 := (h.drop o).take n
/-- A header's sum. -/
def sumH (h : List UInt8) : Int := (total h : Int) + (8 * 32 - (total (fld h 148 8) : Int))
/-- An entry. -/
structure EN where
  name : List UInt8
  kind : Int
  mode : Int
  link : List UInt8
  data : List UInt8
def noZ (s : List UInt8) : Bool := s.all (fun x => x != 0)
def textOk (s : List UInt8) (most : Nat) : Bool := decide (1 ≤ s.length) && (decide (s.length ≤ most) && noZ s)
/-- Where a long name is parted, looked for from k downwards. -/
def partAt (s : List UInt8) : Nat → Option Nat
  | 0 => none
  | k + 1 => if s.length - (k + 1) - 1 ≤ 100 then (if s.getD (k + 1) 0 = 47 then some (k + 1) else partAt s k) else none
def partP (s : List UInt8) : Option (List UInt8 × List UInt8) :=
  if s.length ≤ 100 then some ([], s) else (partAt s (min (s.length - 2) 155)).map fun k => (s.take k, s.drop (k + 1))
def nameOk (s : List UInt8) : Bool := textOk s 255 && (partP s).isSome
def linkOk (k : Int) (s : List UInt8) : Bool := if k = 3 ∨ k = 4 then textOk s 100 else decide (s = [])
def rightE (e : EN) : Int :=
  if e.kind < 1 ∨ e.kind > 4 ∨ e.mode < 0 ∨ e.mode > 4095 then 2
  else if nameOk e.name = false then 8
  else if linkOk e.kind e.link = false ∨ (e.kind ≠ 1 ∧ 0 < e.data.length) then 3
  else if e.data.length > 70656 then 6 else 0
def filledN (n : Nat) : Nat := (n + 511) / 512 * 512
def kindP (t : UInt8) : Int := if t = 0 ∨ t = 48 then 1 else if t = 49 then 4 else if t = 50 then 3 else if t = 53 then 2 else 0
def typeP (k : Int) : UInt8 := if k = 4 then 49 else if k = 3 then 50 else if k = 2 then 53 else 48
def signB : List UInt8 := [117, 115, 116, 97, 114, 0, 48, 48]
def formedP (h : List UInt8) : Bool :=
  (numF (fld h 100 8)).2 && ((numF (fld h 108 8)).2 && ((numF (fld h 116 8)).2 && ((numF (fld h 124 12)).2 && ((numF (fld h 136 12)).2 && ((numF (fld h 329 8)).2 && ((numF (fld h 337 8)).2 &&
  ((textF (fld h 0 100)).2 && ((textF (fld h 157 100)).2 && ((textF (fld h 265 32)).2 && ((textF (fld h 297 32)).2 && ((textF (fld h 345 155)).2 && (decide (fld h 257 8 = signB) && noughts (fld h 500 12)))))))))))))
def nameP (h : List UInt8) : List UInt8 := if (textF (fld h 345 155)).1 = [] then (textF (fld h 0 100)).1 else (textF (fld h 345 155)).1 ++ 47 :: (textF (fld h 0 100)).1
/-- What a header tells, with the data. -/
def entP (h : List UInt8) (data : List UInt8) : EN := ⟨nameP h, kindP (h.getD 156 0), ((numF (fld h 100 8)).1 : Int), (textF (fld h 157 100)).1, data⟩
def sizeP (h : List UInt8) : Nat := (numF (fld h 124 12)).1
/-- The entry that bytes begin with, and how many bytes it takes; hd is the header. -/
def readP (bs : List UInt8) : Option (EN × Nat) :=
  if bs.length < 512 then none
  else if (sumF (fld (bs.take 512) 148 8)).2 = false ∨ ((sumF (fld (bs.take 512) 148 8)).1 : Int) ≠ sumH (bs.take 512) then none
  else if formedP (bs.take 512) = false then none
  else if filledN (sizeP (bs.take 512)) > bs.length - 512 ∨ noughts (((bs.drop 512).drop (sizeP (bs.take 512))).take (filledN (sizeP (bs.take 512)) - sizeP (bs.take 512))) = false then none
  else if rightE (entP (bs.take 512) ((bs.drop 512).take (sizeP (bs.take 512)))) ≠ 0 then none
  else some (entP (bs.take 512) ((bs.drop 512).take (sizeP (bs.take 512))), 512 + filledN (sizeP (bs.take 512)))
def endP (bs : List UInt8) : Bool := decide (1024 ≤ bs.length) && (decide (bs.length % 512 = 0) && noughts bs)
/-- A tar's entries, or the place of the header that is none. -/
def parseF : Nat → List UInt8 → Nat → List EN → Option (List EN) × Nat
  | 0, _, at_, _ => (none, at_)
  | k + 1, bs, at_, acc => if endP bs then (some acc, 0) else match readP bs with
    | none => (none, at_)
    | some (e, n) => if acc.length = 256 then (none, at_) else parseF k (bs.drop n) (at_ + n) (acc ++ [e])
end Go.Proofs.Ytdfnhgkabaikaaa

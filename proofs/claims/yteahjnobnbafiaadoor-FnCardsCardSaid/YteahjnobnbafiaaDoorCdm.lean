/-
  Hands of cards: the functions of chapter 14 as mathematics. No program text.
-/
import Derived.Test.YteahjnobnbafiaaDoorRows
namespace Go.Proofs.YteahjnobnbafiaaDoor

/-- three numbers of cards -/
structure Dl where
  a : Int
  b : Int
  c : Int
  deriving DecidableEq
def Dl.v (d : Dl) : Go.Value := .agg #[.int .i64 d.a, .int .i64 d.b, .int .i64 d.c]
def dealR (d : Dl) : Bool := decide (1 ≤ d.a ∧ d.a ≤ 7) && (decide (1 ≤ d.b ∧ d.b ≤ 7) && (decide (0 ≤ d.c ∧ d.c ≤ 7) && decide (d.a + d.b + d.c ≤ 7)))
/-- how many cards -/
def Dl.n (d : Dl) : Nat := (d.a + d.b + d.c).toNat
def popF : Nat → Nat → Nat
  | 0, _ => 0
  | f + 1, h => h % 2 + popF f (h / 2)
def pop (h : Nat) : Nat := popF 7 h
/-- the hands of k of n cards, below m -/
def handsTo (k : Nat) : Nat → List Int
  | 0 => []
  | m + 1 => handsTo k m ++ (if pop m = k then [(m : Int)] else [])
def handsN (n k : Nat) : List Int := handsTo k (2 ^ n)
def handsR (d : Dl) : List Int := if dealR d then handsN d.n d.a.toNat else []
def hasI (l : List Int) (x : Int) : Bool := l.any (fun y => y == x)
/-- the hands are among all, and ascend: from the k-th on, whose predecessor is p -/
def annL (all : List Int) : Option Int → List Int → Bool
  | _, [] => true
  | p, h :: r => hasI all h && (match p with | none => true | some q => decide (q < h)) && annL all (some h) r
def annR (d : Dl) (l : List Int) : Bool := dealR d && (!l.isEmpty && annL (handsR d) none l)
/-- the cards that two hands have in common -/
def andI (x y : Int) : Nat := x.toNat &&& y.toNat
def tellL (t : Int) : List Int → List Int → Bool
  | _, [] => true
  | pre, h :: r => pre.all (fun x => decide ((pop (andI h x) : Int) < t)) && tellL t (pre ++ [h]) r
def tellR (d : Dl) (l : List Int) : Bool := annR d l && tellL (d.a - d.c) [] l
def fitL (third : Int) (l : List Int) : List Int := l.filter (fun h => andI h third == 0)
def commonL (third : Int) (l : List Int) (all : Nat) : Nat := (fitL third l).foldl (fun s h => s &&& h.toNat) all
def someL (third : Int) (l : List Int) : Nat := (fitL third l).foldl (fun s h => s ||| h.toNat) 0
def hiddenR (l : List Int) (all : Nat) (third : Int) : Bool := (fitL third l).isEmpty || (commonL third l all == 0 && (someL third l ||| third.toNat) == all)
def hidesR (d : Dl) (l : List Int) : Bool := annR d l && (handsN d.n d.c.toNat).all (hiddenR l (2 ^ d.n - 1))
def safeR (d : Dl) (l : List Int) : Bool := tellR d l && hidesR d l
/-- lists that continue a list by elements of the rest, in order -/
def goS (hand : Int) (ok : List Int → Bool) (next : List Int → List Int → Option (List Int)) : List Int → List Int → Option (List Int)
  | [], _ => none
  | a :: r, l => if (decide (hand < a) && !hasI l hand) || !ok (l ++ [a]) then goS hand ok next r l else match next r (l ++ [a]) with
    | some o => some o
    | none => goS hand ok next r l
def srchS (hand : Int) (ok fin : List Int → Bool) : Nat → List Int → List Int → Option (List Int)
  | 0, _, l => if hasI l hand && fin l then some l else none
  | k + 1, r, l => goS hand ok (srchS hand ok fin k) r l
def firstR (d : Dl) (hand size : Int) : Option (List Int) :=
  if dealR d && (hasI (handsR d) hand && decide (1 ≤ size ∧ size ≤ 7)) then srchS hand (tellR d) (hidesR d) size.toNat (handsR d) [] else none
end Go.Proofs.YteahjnobnbafiaaDoor

/-
  Words: which are operators, of which rank, which end a line, what is laid between. No program.
-/
import Derived.Test.YtakllllnpdnpdaaInB
import Derived.KernelRfl
import Derived.WalkKit
namespace Go.Proofs.Ytakllllnpdnpdaa
def opsB : List ByteArray := [⟨#[40]⟩, ⟨#[41]⟩, ⟨#[123]⟩, ⟨#[125]⟩, ⟨#[44]⟩, ⟨#[46]⟩, ⟨#[58]⟩, ⟨#[58, 61]⟩, ⟨#[61]⟩, ⟨#[61, 61]⟩, ⟨#[33, 61]⟩, ⟨#[60]⟩, ⟨#[43]⟩, ⟨#[45]⟩, ⟨#[42]⟩, ⟨#[33]⟩, ⟨#[38, 38]⟩, ⟨#[124, 124]⟩]
def isOp (s : ByteArray) : Bool := inB s opsB
/-- A text is this one. -/
def eqT (s : ByteArray) (x : List UInt8) : Bool := s.data.toList == x
def rankN (s : ByteArray) : Int :=
  if eqT s [124, 124] then 1 else if eqT s [38, 38] then 2 else if eqT s [61, 61] || eqT s [33, 61] || eqT s [60] then 3 else if eqT s [43] || eqT s [45] then 4 else if eqT s [42] then 5 else 0
def isUn (s : ByteArray) : Bool := eqT s [45] || eqT s [33]
/-- A token. -/
structure Tk where
  k : Int
  s : ByteArray
  p : Int
  l : Int
  q : Bool
def Tk.val (t : Tk) : Value := .agg #[.int .i64 t.k, .string t.s, .int .i64 t.p, .int .i64 t.l, .bool t.q]
/-- It is the sign x. -/
def sgn (t : Tk) (x : List UInt8) : Bool := decide (t.k = 4) && eqT t.s x
def operB (t : Tk) : Bool := decide (t.k = 1) || decide (t.k = 2) || decide (t.k = 3) || sgn t [41]
def endB (t : Tk) : Bool := operB t || sgn t [125] || (decide (t.k = 5) && (eqT t.s [114, 101, 116, 117, 114, 110] || eqT t.s [98, 114, 101, 97, 107] || eqT t.s [99, 111, 110, 116, 105, 110, 117, 101]))
def eqB (a b : Tk) : Bool := decide (a.k = b.k) && eqT a.s b.s.data.toList
def nextB (p a : Tk) : Bool := sgn a [40] || sgn a [46] || sgn a [33] || (sgn a [45] && !operB p)
def lastB (b : Tk) : Bool := sgn b [41] || sgn b [44] || sgn b [46] || sgn b [58]
def callB (a b : Tk) : Bool := (decide (a.k = 1) || sgn a [41]) && sgn b [40]
def spaceB (p a b : Tk) : Bool := !nextB p a && !lastB b && !callB a b && !(sgn a [123] && sgn b [125])
end Go.Proofs.Ytakllllnpdnpdaa

/-
  11 texts in one.
-/
import Derived.WalkKit
import Derived.KernelRfl
import Derived.Test.YtiknnobgoamgcaaGreatDoorRows
import Derived.WalkSpells
import Derived.WalkLawsBesides
import Derived.Handy
import Derived.OpenShut
import Derived.Deep.DeepAppendWide
import Derived.Lib.SmallJoins
import Derived.Laws.OwnMore
import Derived.LoopTactic
/-
  A word is one of some: which one. No program.
-/
namespace Go.Proofs.YtiknnobgoamgcaaGreatDoor
/-- A word is one of some. -/
def inB (s : ByteArray) (l : List ByteArray) : Bool := l.any fun k => s.data.toList == k.data.toList
/-- Which one it is, from i on; -1: none. -/
def idxB (s : ByteArray) : List ByteArray → Int → Int
 | [], _ => -1
 | k :: l, i => if s.data.toList == k.data.toList then i else idxB s l (i + 1)
theorem same_of {s k : ByteArray} (h : (s.data.toList == k.data.toList) = true) : s = k := by
 rw [beq_iff_eq] at h
 exact ByteArray.ext (Array.toList_inj.1 h)
theorem inB_mem {s : ByteArray} {l : List ByteArray} (h : inB s l = true) : s ∈ l := by
 rw [inB, List.any_eq_true] at h
 obtain ⟨k, hk, he⟩ := h
 rw [same_of he]
 exact hk
theorem idxB_mem {s : ByteArray} : ∀ {l : List ByteArray} {i : Int}, idxB s l i ≠ -1 → s ∈ l := by
 intro l
 induction l with
 | nil => intro i h; exact absurd rfl h
 | cons k l ih =>
  intro i h
  rw [idxB] at h
  split at h
  ·
   rename_i he
   rw [same_of he]
   exact List.mem_cons_self
  ·
   exact List.mem_cons_of_mem _ (ih h)
theorem idxB_skip {s : ByteArray} : ∀ (l : List ByteArray) (k : Nat) (i : Int), (∀ j, j < k → ∀ x, l[j]? = some x → (s.data.toList == x.data.toList) = false) → idxB s l i = idxB s (l.drop k) (i + k) := by
 intro l k
 induction k generalizing l with
 | zero => intro i _; simp
 | succ k ih =>
  intro i h
  cases l with
  | nil => simp [idxB]
  | cons x l =>
   have h0 := h 0 (by omega) x rfl
   rw [idxB, h0, if_neg (by decide), ih l (i + 1) (fun j hj y hy => h (j + 1) (by omega) y (by simpa using hy))]
   simp only [List.drop_succ_cons]
   congr 1
   omega
theorem inB_at {s : ByteArray} {xs : List ByteArray} (k : Nat) (hk : k < xs.length) (h : (s.data.toList == (xs.getD k ⟨#[]⟩).data.toList) = true) : inB s xs = true := by
 rw [inB, List.any_eq_true]
 refine ⟨xs.getD k ⟨#[]⟩, ?_, h⟩
 simp [List.getD, hk]
theorem inB_none {s : ByteArray} {xs : List ByteArray} (h : ∀ j, j < xs.length → (s.data.toList == (xs.getD j ⟨#[]⟩).data.toList) = false) : inB s xs = false := by
 rw [inB, List.any_eq_false]
 intro x hx
 obtain ⟨j, hj, rfl⟩ := List.getElem_of_mem hx
 have := h j hj
 simp only [List.getD, hj, getElem?_pos, Option.getD_some] at this
 rw [this]
 decide
theorem eq_flip (a b : ByteArray) : (a.toList == b.toList) = (b.data.toList == a.data.toList) := by
 rw [ByteArray.toList_eq, ByteArray.toList_eq, BEq.comm]
end Go.Proofs.YtiknnobgoamgcaaGreatDoor
/-
  Words: which are operators, of which rank, which end a line, what is laid between. No program.
-/
namespace Go.Proofs.YtiknnobgoamgcaaGreatDoor
def opsB : List ByteArray := [⟨#[40]⟩, ⟨#[41]⟩, ⟨#[123]⟩, ⟨#[125]⟩, ⟨#[44]⟩, ⟨#[46]⟩, ⟨#[58]⟩, ⟨#[58, 61]⟩, ⟨#[61]⟩, ⟨#[61, 61]⟩, ⟨#[33, 61]⟩, ⟨#[60]⟩, ⟨#[43]⟩, ⟨#[45]⟩, ⟨#[42]⟩, ⟨#[33]⟩, ⟨#[38, 38]⟩, ⟨#[124, 124]⟩]
def isOp (s : ByteArray) : Bool := inB s opsB
/-- A text is this one. -/
def eqT (s : ByteArray) (x : List UInt8) : Bool := s.data.toList == x
def rankN (s : ByteArray) : Int :=
 if eqT s [124, 124] then 1 else if eqT s [38, 38] then 2 else if eqT s [61, 61] || eqT s [33, 61] || eqT s [60] then 3 else if eqT s [43] || eqT s [45] then 4 else if eqT s [42] then 5 else 0
def isUn (s : ByteArray) : Bool := eqT s [45] || eqT s [33]
/-- A token. -/
structure Tk where
 k : Int
 s : ByteArray
 p : Int
 l : Int
 q : Bool
def Tk.val (t : Tk) : Value := .agg #[.int .i64 t.k, .string t.s, .int .i64 t.p, .int .i64 t.l, .bool t.q]
/-- It is the sign x. -/
def sgn (t : Tk) (x : List UInt8) : Bool := decide (t.k = 4) && eqT t.s x
def operB (t : Tk) : Bool := decide (t.k = 1) || decide (t.k = 2) || decide (t.k = 3) || sgn t [41]
def endB (t : Tk) : Bool := operB t || sgn t [125] || (decide (t.k = 5) && (eqT t.s [114, 101, 116, 117, 114, 110] || eqT t.s [98, 114, 101, 97, 107] || eqT t.s [99, 111, 110, 116, 105, 110, 117, 101]))
def eqB (a b : Tk) : Bool := decide (a.k = b.k) && eqT a.s b.s.data.toList
def nextB (p a : Tk) : Bool := sgn a [40] || sgn a [46] || sgn a [33] || (sgn a [45] && !operB p)
def lastB (b : Tk) : Bool := sgn b [41] || sgn b [44] || sgn b [46] || sgn b [58]
def callB (a b : Tk) : Bool := (decide (a.k = 1) || sgn a [41]) && sgn b [40]
def spaceB (p a b : Tk) : Bool := !nextB p a && !lastB b && !callB a b && !(sgn a [123] && sgn b [125])
end Go.Proofs.YtiknnobgoamgcaaGreatDoor
/-
  Trees: forests of nodes, how many, how deep, gone through. No program.
-/
namespace Go.Proofs.YtiknnobgoamgcaaGreatDoor
/-- A list of trees: the first node's kind, token, what is beneath it; the rest. -/
inductive F where
 | nil
 | cons (k t : Int) (c r : F)
deriving DecidableEq
/-- A tree. -/
structure Nd where
 k : Int
 t : Int
 c : F
deriving DecidableEq
def F.len : F → Nat
 | .nil => 0
 | .cons _ _ _ r => r.len + 1
/-- How many nodes. -/
def F.size : F → Nat
 | .nil => 0
 | .cons _ _ c r => c.size + 1 + r.size
def F.deep : F → Nat
 | .nil => 0
 | .cons _ _ c r => max (c.deep + 1) r.deep
def F.drop : F → Nat → F
 | f, 0 => f
 | .nil, _ + 1 => .nil
 | .cons _ _ _ r, i + 1 => r.drop i
def F.toL : F → List Nd
 | .nil => []
 | .cons k t c r => ⟨k, t, c⟩ :: r.toL
def F.ofL : List Nd → F
 | [] => .nil
 | n :: l => .cons n.k n.t n.c (F.ofL l)
def F.app : F → F → F
 | .nil, g => g
 | .cons k t c r, g => .cons k t c (r.app g)
theorem F.len_le_size : ∀ f : F, f.len ≤ f.size
 | .nil => Nat.le_refl _
 | .cons _ _ _ r => by have := r.len_le_size; simp only [F.len, F.size]; omega
theorem F.deep_le_size : ∀ f : F, f.deep ≤ f.size
 | .nil => Nat.le_refl _
 | .cons _ _ c r => by have := c.deep_le_size; have := r.deep_le_size; simp only [F.deep, F.size]; omega
theorem F.drop_nil (i : Nat) : F.nil.drop i = .nil := by cases i <;> rfl
theorem F.drop_len : ∀ (f : F) (i : Nat), (f.drop i).len = f.len - i
 | f, 0 => by cases f <;> rfl
 | .nil, i + 1 => by simp [F.drop, F.len]
 | .cons _ _ _ r, i + 1 => by simp only [F.drop, F.len, r.drop_len i]; omega
theorem F.drop_succ : ∀ (f : F) (i : Nat) {k t : Int} {c r : F}, f.drop i = .cons k t c r → f.drop (i + 1) = r
 | .nil, i, k, t, c, r, h => by rw [F.drop_nil] at h; cases h
 | .cons _ _ _ r', 0, k, t, c, r, h => by
  simp only [F.drop] at h
  injection h with _ _ _ h
  subst h
  cases r' <;> rfl
 | .cons _ _ _ r', i + 1, k, t, c, r, h => F.drop_succ r' i h
theorem F.drop_cons {f : F} {i : Nat} (h : i < f.len) : ∃ k t c, f.drop i = .cons k t c (f.drop (i + 1)) := by
 cases hd : f.drop i with
 | nil => have := f.drop_len i; rw [hd] at this; simp only [F.len] at this; omega
 | cons k t c r => exact ⟨k, t, c, by rw [F.drop_succ f i hd]⟩
theorem F.drop_size {f : F} {i : Nat} {k t : Int} {c : F} (h : f.drop i = .cons k t c (f.drop (i + 1))) : c.size < f.size := by
 have key : ∀ (f : F) (i : Nat), (f.drop i).size ≤ f.size := by
  intro f
  induction f with
  | nil => intro i; rw [F.drop_nil]; exact Nat.le_refl _
  | cons k t c r _ ih =>
   intro i
   cases i with
   | zero => exact Nat.le_refl _
   | succ i => have := ih i; simp only [F.drop, F.size]; omega
 have := key f i
 rw [h] at this
 simp only [F.size] at this
 omega
theorem F.drop_end {f : F} {i : Nat} (h : f.len ≤ i) : f.drop i = .nil := by
 cases hd : f.drop i with
 | nil => rfl
 | cons k t c r => have := f.drop_len i; rw [hd] at this; simp only [F.len] at this; omega
/-- What is gone through: a node, and, where A says yes to its kind, what is beneath it; each with its depth. -/
def vis (A : Int → Bool) : F → Nat → List (Nd × Nat)
 | .nil, _ => []
 | .cons k t c r, d => (⟨k, t, c⟩, d) :: ((if A k then vis A c (d + 1) else []) ++ vis A r d)
def visN (A : Int → Bool) (n : Nd) : List (Nd × Nat) := (n, 1) :: if A n.k then vis A n.c 2 else []
/-- What is still to come of lists upon one another, the topmost first. -/
def rem (A : Int → Bool) : List F → List (Nd × Nat)
 | [] => []
 | f :: fs => vis A f (fs.length + 2) ++ rem A fs
theorem rem_nil (A : Int → Bool) (fs : List F) : rem A (.nil :: fs) = rem A fs := rfl
theorem rem_cons (A : Int → Bool) (k t : Int) (c r : F) (fs : List F) : rem A (.cons k t c r :: fs) = (⟨k, t, c⟩, fs.length + 2) :: rem A (if A k then c :: r :: fs else r :: fs) := by
 cases h : A k with
 | true => simp only [rem, vis, h, if_true, List.length_cons, List.cons_append, List.append_assoc]
 | false => simp only [rem, vis, h, Bool.false_eq_true, if_false, List.cons_append, List.nil_append]
/-- How long it may last. -/
def mu : List F → Nat
 | [] => 0
 | f :: fs => 2 * f.size + 1 + mu fs
theorem mu_nil (fs : List F) : mu (.nil :: fs) = mu fs + 1 := by simp only [mu, F.size]; omega
theorem mu_cons (A : Int → Bool) (k t : Int) (c r : F) (fs : List F) : mu (if A k then c :: r :: fs else r :: fs) + 1 ≤ mu (.cons k t c r :: fs) := by
 split
 ·
  simp only [mu, F.size]; omega
 ·
  simp only [mu, F.size]; omega
theorem mu_len : ∀ fs : List F, fs.length ≤ mu fs
 | [] => Nat.le_refl _
 | f :: fs => by have := mu_len fs; simp only [mu, List.length_cons]; omega
def Nd.size (n : Nd) : Nat := n.c.size + 1
def Nd.deep (n : Nd) : Nat := n.c.deep + 1
def allA : Int → Bool := fun _ => true
theorem vis_len : ∀ (f : F) (d : Nat), (vis allA f d).length = f.size
 | .nil, _ => rfl
 | .cons _ _ c r, d => by
  simp only [vis, allA, if_true, List.length_cons, List.length_append, F.size]
  have h1 := vis_len c (d + 1)
  have h2 := vis_len r d
  omega
/-- The deepest. -/
def maxD (d0 : Int) : List (Nd × Nat) → Int
 | [] => d0
 | x :: xs => maxD (max d0 x.2) xs
theorem maxD_append (d0 : Int) : ∀ xs ys, maxD d0 (xs ++ ys) = maxD (maxD d0 xs) ys
 | [], _ => rfl
 | x :: xs, ys => maxD_append (max d0 x.2) xs ys
theorem vis_deep : ∀ (f : F) (d : Nat) (d0 : Int), maxD d0 (vis allA f d) = if f.len = 0 then d0 else max d0 ((d + f.deep - 1 : Nat) : Int)
 | .nil, d, d0 => rfl
 | .cons k t c r, d, d0 => by
  have h1 := vis_deep c (d + 1) (max d0 (d : Int))
  have h2 := fun e => vis_deep r d e
  have hc : c.len = 0 ↔ c.deep = 0 := by cases c <;> simp [F.len, F.deep]
  have hr : r.len = 0 ↔ r.deep = 0 := by cases r <;> simp [F.len, F.deep]
  rw [show vis allA (.cons k t c r) d = (⟨k, t, c⟩, d) :: (vis allA c (d + 1) ++ vis allA r d) from rfl, maxD, maxD_append, h1, h2]
  rw [if_neg (show ¬ (F.cons k t c r).len = 0 by simp [F.len])]
  simp only [F.deep]
  split <;> split <;> omega
theorem visN_deep (n : Nd) : maxD 0 (visN allA n) = n.deep := by
 rw [show visN allA n = (n, 1) :: vis allA n.c 2 from rfl, maxD, vis_deep]
 have hc : n.c.len = 0 ↔ n.c.deep = 0 := by cases n.c <;> simp [F.len, F.deep]
 simp only [Nd.deep]
 split <;> omega
theorem visN_len (n : Nd) : (visN allA n).length = n.size := by
 rw [show visN allA n = (n, 1) :: vis allA n.c 2 from rfl, List.length_cons, vis_len]
 rfl
end Go.Proofs.YtiknnobgoamgcaaGreatDoor
/-
  The tree of a list of words, by a bounded number of steps (no program): what the parser answers, or the word at which it stops.
-/
namespace Go.Proofs.YtiknnobgoamgcaaGreatDoor
/-- What comes of a piece of the grammar: no steps left, the word at fault, or what was made and the word behind it. -/
inductive PR (α : Type) where
 | out
 | bad (i : Nat)
 | ok (v : α) (i : Nat)
def PR.bind {α β : Type} (r : PR α) (f : α → Nat → PR β) : PR β := match r with
 | .out => .out
 | .bad i => .bad i
 | .ok v i => f v i
def zTk : Tk := ⟨0, ⟨#[]⟩, 0, 0, false⟩
/-- The i-th word; none: a zero one. -/
def tkA (L : List Tk) (i : Nat) : Tk := L.getD i zTk
def knd (L : List Tk) (i : Nat) (k : Int) : Bool := decide ((tkA L i).k = k)
def opA (L : List Tk) (i : Nat) (x : List UInt8) : Bool := decide ((tkA L i).k = 4) && eqT (tkA L i).s x
def keyA (L : List Tk) (i : Nat) (x : List UInt8) : Bool := decide ((tkA L i).k = 5) && eqT (tkA L i).s x
/-- Of the word here: the rank, if it stands between two; does it stand ahead of one? -/
def rkA (L : List Tk) (i : Nat) : Int := if knd L i 4 then rankN (tkA L i).s else 0
def unA (L : List Tk) (i : Nat) : Bool := knd L i 4 && isUn (tkA L i).s
/-- Behind semicolons. -/
def skF (L : List Tk) : Nat → Nat → Nat
 | 0, i => i
 | f + 1, i => if knd L i 6 then skF L f (i + 1) else i
def skN (L : List Tk) (i : Nat) : Nat := skF L (L.length - i) i
def one (n : Nd) : F := .cons n.k n.t n.c .nil
def snoc (l : F) (n : Nd) : F := l.app (one n)
def leafA (L : List Tk) (kind tk : Int) (i : Nat) : PR Nd := if knd L i tk then .ok ⟨kind, i, .nil⟩ (i + 1) else .bad i
def wantA {α : Type} (b : Bool) (i : Nat) (r : PR α) : PR α := if b then r else .bad i
def typA (L : List Tk) (i : Nat) : PR Nd := (leafA L 28 1 i).bind fun n j =>
 if opA L j [46] then (leafA L 28 1 (j + 1)).bind fun m l => .ok ⟨28, m.t, .cons 20 n.t .nil .nil⟩ l else .ok n j
def typedA (L : List Tk) (kind : Int) (i : Nat) : PR Nd := (leafA L kind 1 i).bind fun n j => (typA L j).bind fun m l => .ok ⟨kind, n.t, one m⟩ l
mutual
def absA (L : List Tk) : Nat → Int → Nat → Nat → PR Nd
 | 0, _, _, _ => .out
 | f + 1, low, i, d => (unrA L f i d).bind fun l j => labA L f low l j d
def labA (L : List Tk) : Nat → Int → Nd → Nat → Nat → PR Nd
 | 0, _, _, _, _ => .out
 | f + 1, low, l, i, d => if rkA L i ≤ low then .ok l i else (absA L f (rkA L i) (i + 1) d).bind fun r j => labA L f low ⟨24, i, snoc (one l) r⟩ j d
def unrA (L : List Tk) : Nat → Nat → Nat → PR Nd
 | 0, _, _ => .out
 | f + 1, i, d => if unA L i then (if d = 40 then .bad i else (unrA L f (i + 1) (d + 1)).bind fun x j => .ok ⟨23, i, one x⟩ j) else prmA L f i d
def prmA (L : List Tk) : Nat → Nat → Nat → PR Nd
 | 0, _, _ => .out
 | f + 1, i, d => (opdA L f i d).bind fun x j => lprA L f x j d
def lprA (L : List Tk) : Nat → Nd → Nat → Nat → PR Nd
 | 0, _, _, _ => .out
 | f + 1, x, i, d => if opA L i [40] then (calA L f x i d).bind fun y j => lprA L f y j d
  else if opA L i [46] then (leafA L 27 1 (i + 1)).bind fun y j => lprA L f ⟨27, y.t, one x⟩ j d
  else .ok x i
def calA (L : List Tk) : Nat → Nd → Nat → Nat → PR Nd
 | 0, _, _, _ => .out
 | f + 1, x, i, d => if d = 40 then .bad i else wantA (opA L i [40]) i ((lstA L f (i + 1) (d + 1)).bind fun l j => .ok ⟨26, i, (one x).app l⟩ j)
def lstA (L : List Tk) : Nat → Nat → Nat → PR F
 | 0, _, _ => .out
 | f + 1, i, d => if opA L i [41] then .ok .nil (i + 1) else (absA L f 0 i d).bind fun x j => llsA L f (one x) j d
def llsA (L : List Tk) : Nat → F → Nat → Nat → PR F
 | 0, _, _, _ => .out
 | f + 1, l, i, d => if opA L i [44] then (absA L f 0 (i + 1) d).bind fun x j => llsA L f (snoc l x) j d else wantA (opA L i [41]) i (.ok l (i + 1))
def opdA (L : List Tk) : Nat → Nat → Nat → PR Nd
 | 0, _, _ => .out
 | f + 1, i, d => if knd L i 1 then .ok ⟨20, i, .nil⟩ (i + 1) else if knd L i 2 then .ok ⟨21, i, .nil⟩ (i + 1) else if knd L i 3 then .ok ⟨22, i, .nil⟩ (i + 1) else parA L f i d
def parA (L : List Tk) : Nat → Nat → Nat → PR Nd
 | 0, _, _ => .out
 | f + 1, i, d => if d = 40 then .bad i else wantA (opA L i [40]) i ((absA L f 0 (i + 1) (d + 1)).bind fun x j => wantA (opA L j [41]) j (.ok ⟨25, i, one x⟩ (j + 1)))
end
/-- A var, behind its word; a const. -/
def varA (L : List Tk) (f i d : Nat) : PR Nd := (typedA L 4 i).bind fun n j => if opA L j [61] then (absA L f 0 (j + 1) d).bind fun x l => .ok ⟨4, n.t, snoc n.c x⟩ l else .ok n j
def conA (L : List Tk) (f i d : Nat) : PR Nd := (leafA L 5 1 i).bind fun n j => wantA (opA L j [61]) j ((absA L f 0 (j + 1) d).bind fun x l => .ok ⟨5, n.t, one x⟩ l)
/-- A return; a jump. -/
def retA (L : List Tk) (f i d : Nat) : PR Nd := if knd L (i + 1) 6 || opA L (i + 1) [125] then .ok ⟨16, i, .nil⟩ (i + 1) else (absA L f 0 (i + 1) d).bind fun x j => .ok ⟨16, i, one x⟩ j
def jmpA (L : List Tk) (kind : Int) (i : Nat) : PR Nd := if knd L (i + 1) 1 then .ok ⟨kind, i, .cons 19 (i + 1 : Nat) .nil .nil⟩ (i + 2) else .ok ⟨kind, i, .nil⟩ (i + 1)
def kIf : List UInt8 := [105, 102]
def kFor : List UInt8 := [102, 111, 114]
mutual
def blkA (L : List Tk) : Nat → Nat → Nat → PR Nd
 | 0, _, _ => .out
 | f + 1, i, d => if d = 40 then .bad i else wantA (opA L i [123]) i ((brsA L f .nil (skN L (i + 1)) (d + 1)).bind fun l j => .ok ⟨10, i, l⟩ j)
def brsA (L : List Tk) : Nat → F → Nat → Nat → PR F
 | 0, _, _, _ => .out
 | f + 1, l, i, d => if opA L i [125] then .ok l (i + 1) else (stmA L f i d).bind fun x j =>
  if opA L j [125] then brsA L f (snoc l x) (skN L j) d else wantA (knd L j 6) j (brsA L f (snoc l x) (skN L (j + 1)) d)
def stmA (L : List Tk) : Nat → Nat → Nat → PR Nd
 | 0, _, _ => .out
 | f + 1, i, d => if keyA L i [118, 97, 114] then varA L f (i + 1) d else if keyA L i [99, 111, 110, 115, 116] then conA L f (i + 1) d
  else if opA L i [123] then blkA L f i d else if keyA L i kIf then choA L f i d else if keyA L i kFor then guaA L f 15 kFor i d
  else if keyA L i [114, 101, 116, 117, 114, 110] then retA L f i d else if keyA L i [98, 114, 101, 97, 107] then jmpA L 17 i
  else if keyA L i [99, 111, 110, 116, 105, 110, 117, 101] then jmpA L 18 i else simA L f i d
def choA (L : List Tk) : Nat → Nat → Nat → PR Nd
 | 0, _, _ => .out
 | f + 1, i, d => (guaA L f 14 kIf i d).bind fun n j => if keyA L j [101, 108, 115, 101] then (othA L f (j + 1) d).bind fun x l => .ok ⟨14, n.t, snoc n.c x⟩ l else .ok n j
def othA (L : List Tk) : Nat → Nat → Nat → PR Nd
 | 0, _, _ => .out
 | f + 1, i, d => if keyA L i kIf then (if d = 40 then .bad i else choA L f i (d + 1)) else blkA L f i d
def guaA (L : List Tk) : Nat → Int → List UInt8 → Nat → Nat → PR Nd
 | 0, _, _, _, _ => .out
 | f + 1, kind, x, i, d => wantA (keyA L i x) i ((absA L f 0 (i + 1) d).bind fun e j => (blkA L f j d).bind fun b l => .ok ⟨kind, i, snoc (one e) b⟩ l)
def simA (L : List Tk) : Nat → Nat → Nat → PR Nd
 | 0, _, _ => .out
 | f + 1, i, d => (absA L f 0 i d).bind fun x j =>
  if decide (x.k = 20) && opA L j [58, 61] then (absA L f 0 (j + 1) d).bind fun y l => .ok ⟨11, x.t, one y⟩ l
  else if decide (x.k = 20) && opA L j [58] then (guaA L f 15 kFor (j + 1) d).bind fun y l => .ok ⟨19, x.t, one y⟩ l
  else if opA L j [61] then (absA L f 0 (j + 1) d).bind fun y l => .ok ⟨13, j, snoc (one x) y⟩ l
  else .ok ⟨12, i, one x⟩ j
end
/-- The fields of a struct, the params of a func. -/
def fldA (L : List Tk) : Nat → F → Nat → PR F
 | 0, _, _ => .out
 | f + 1, l, i => if opA L i [125] then .ok l (i + 1) else (typedA L 7 i).bind fun x j =>
  if opA L j [125] then fldA L f (snoc l x) (skN L j) else wantA (knd L j 6) j (fldA L f (snoc l x) (skN L (j + 1)))
def prsA (L : List Tk) : Nat → F → Nat → PR F
 | 0, _, _ => .out
 | f + 1, l, i => if opA L i [44] then (typedA L 9 (i + 1)).bind fun x j => prsA L f (snoc l x) j else wantA (opA L i [41]) i (.ok l (i + 1))
def plsA (L : List Tk) (f i : Nat) : PR F := if opA L i [41] then .ok .nil (i + 1) else (typedA L 9 i).bind fun x j => prsA L f (one x) j
def strA (L : List Tk) (f i : Nat) : PR Nd := (leafA L 6 1 i).bind fun n j => wantA (keyA L j [115, 116, 114, 117, 99, 116]) j (wantA (opA L (j + 1) [123]) (j + 1) ((fldA L f .nil (skN L (j + 2))).bind fun l k => .ok ⟨6, n.t, l⟩ k))
def funA (L : List Tk) (f i : Nat) : PR Nd := (leafA L 8 1 i).bind fun n j => wantA (opA L j [40]) j ((plsA L f (j + 1)).bind fun l k =>
 (if knd L k 1 then (typA L k).bind fun t m => .ok (snoc l t) m else .ok l k).bind fun l' m => (blkA L f m 0).bind fun b o => .ok ⟨8, n.t, snoc l' b⟩ o)
def decA (L : List Tk) (f i : Nat) : PR Nd := if keyA L i [118, 97, 114] then varA L f (i + 1) 0 else if keyA L i [99, 111, 110, 115, 116] then conA L f (i + 1) 0
 else if keyA L i [116, 121, 112, 101] then strA L f (i + 1) else wantA (keyA L i [102, 117, 110, 99]) i (funA L f (i + 1))
/-- Behind a piece of a file. -/
def endA (L : List Tk) (i : Nat) : PR Unit := wantA (knd L i 6) i (.ok () (skN L (i + 1)))
def impA (L : List Tk) : Nat → F → Nat → PR F
 | 0, _, _ => .out
 | f + 1, l, i => if keyA L i [105, 109, 112, 111, 114, 116] then (leafA L 3 1 (i + 1)).bind fun n j => (endA L j).bind fun _ k => impA L f (snoc l n) k else .ok l i
def dcsA (L : List Tk) : Nat → F → Nat → PR F
 | 0, _, _ => .out
 | f + 1, l, i => if knd L i 7 then .ok l i else (decA L f i).bind fun n j => (endA L j).bind fun _ k => dcsA L f (snoc l n) k
/-- A file: its kids as they stand in the text. -/
def filA (L : List Tk) (f : Nat) : PR Nd := wantA (keyA L 0 [112, 97, 99, 107, 97, 103, 101]) 0 ((leafA L 2 1 1).bind fun n j => (endA L j).bind fun _ k => (impA L f (one n) k).bind fun l m => (dcsA L f l m).bind fun l' o =>
 wantA (decide (L.length ≤ o + 1)) (o + 1) (.ok ⟨1, 0, l'⟩ (o + 1)))
end Go.Proofs.YtiknnobgoamgcaaGreatDoor
/-
  Bytes in memory: that a slice's value holds some bytes in a world, and how that lasts. No program is named here but the number of the element's type.
-/
namespace Go.Proofs.YtiknnobgoamgcaaGreatDoor
open Go.RowKit

theorem zH {p : Prop} (h : p) : Hid p := h
theorem uH {p : Prop} (h : Hid p) : p := h
def Byt (xs : List Int) : Prop := ∀ x ∈ xs, 0 ≤ x ∧ x ≤ 255

theorem byt_nil : Byt [] := fun _ h => by cases h
theorem byt_append {a b : List Int} (ha : Byt a) (hb : Byt b) : Byt (a ++ b) := fun x hx => by
 rcases List.mem_append.1 hx with h | h
 ·
  exact ha x h
 ·
  exact hb x h
theorem byt_take {a : List Int} (ha : Byt a) (k : Nat) : Byt (a.take k) := fun x hx => ha x (List.mem_of_mem_take hx)
theorem byt_drop {a : List Int} (ha : Byt a) (k : Nat) : Byt (a.drop k) := fun x hx => ha x (List.mem_of_mem_drop hx)
theorem byt_getD {xs : List Int} (hx : Byt xs) (k : Nat) (h : k < xs.length) : 0 ≤ xs.getD k 0 ∧ xs.getD k 0 ≤ 255 := by
 have := hx (xs[k]) (List.getElem_mem h)
 simpa [List.getD, h] using this
theorem drop_getD (xs : List Int) (k : Nat) (h : k < xs.length) : xs.drop k = xs.getD k 0 :: xs.drop (k + 1) := by
 rw [List.drop_eq_getElem_cons h]
 simp [List.getD, h]

/-- The slice v holds the bytes xs in w. -/
def Bts (w : World) (v : Value) (xs : List Int) : Prop :=
 Byt xs ∧ xs.length ≤ 140737488355328 ∧
 ((xs = [] ∧ ∃ ao cap, v = .slice ao 0 cap ∧ (ao = none → cap = 0) ∧ cap ≤ 9223372036854775807) ∨
 (∃ b off cap, v = .slice (some ⟨b, off, none⟩) xs.length cap ∧ 0 < xs.length ∧ xs.length ≤ cap ∧ cap ≤ 9223372036854775807 ∧ b < w.heap.size ∧ ∀ i, i < xs.length → w.cell? ⟨b, off + i, none⟩ = some (.int .u8 (xs.getD i 0))))

theorem bts_nil (w : World) : Bts w (.slice none 0 0) [] := ⟨byt_nil, by simp, .inl ⟨rfl, none, 0, rfl, fun _ => rfl, by omega⟩⟩
theorem Bts.len {w : World} {v : Value} {xs : List Int} (h : Bts w v xs) : ∃ ao cap, v = .slice ao xs.length cap := by
 rcases h.2.2 with ⟨rfl, ao, cap, rfl, _⟩ | ⟨b, off, cap, rfl, _⟩
 ·
  exact ⟨ao, cap, rfl⟩
 ·
  exact ⟨_, cap, rfl⟩
theorem Bts.below {w w' : World} {v : Value} {xs : List Int} (h : Bts w v xs) {B : Nat} (hb : Below B w w') (hB : w.heap.size ≤ B) : Bts w' v xs := by
 refine ⟨h.1, h.2.1, ?_⟩
 rcases h.2.2 with h | ⟨b, off, cap, rfl, h1, h2, h3, h4, h5⟩
 ·
  exact .inl h
 ·
  exact .inr ⟨b, off, cap, rfl, h1, h2, h3, Nat.lt_of_lt_of_le h4 hb.size, fun i hi => by rw [hb.cell (by show b < B; omega)]; exact h5 i hi⟩
/-- What is owned can be read. -/
theorem Bts.ofOwn {w : World} {base e : Nat} {v : Value} {n : Nat} {xs : List Int} (h : w.ownsRow base e 1 v n (xs.map (Value.int .u8))) (hx : Byt xs) (hl : xs.length ≤ 140737488355328) : Bts w v xs := by
 have hn : xs.length = n := by simpa using h.1
 subst hn
 refine ⟨hx, hl, ?_⟩
 rcases h.2 with ⟨rfl, h0⟩ | ⟨g, cap, cur, rfl, hb, hg, hnc, hcm, hcs, htake⟩
 ·
  exact .inl ⟨List.eq_nil_of_length_eq_zero h0, none, 0, rfl, fun _ => rfl, by omega⟩
 ·
  have hcm' : cap ≤ 9223372036854775807 := by unfold maxLen at hcm; omega
  rcases Nat.eq_zero_or_pos xs.length with h0 | h0
  ·
   exact .inl ⟨List.eq_nil_of_length_eq_zero h0, _, cap, by rw [h0], (fun e => by cases e), hcm'⟩
  ·
   refine .inr ⟨g, 0, cap, rfl, h0, hnc, hcm', (Array.getElem?_eq_some_iff.1 hg).1, fun i hi => ?_⟩
   have := h.cells (g := g) rfl i (.int .u8 (xs.getD i 0)) (by simp [List.getD, hi])
   rw [show ((⟨g, 0, none⟩ : Addr).add i) = ⟨g, 0 + i, none⟩ by unfold Addr.add; split <;> simp_all] at this
   exact this
theorem Bts.ofCells {w : World} {b off cap : Nat} {xs : List Int} (hx : Byt xs) (hl : xs.length ≤ 140737488355328) (hc : xs.length ≤ cap) (hm : cap ≤ 9223372036854775807) (hb : b < w.heap.size)
  (h : ∀ i, i < xs.length → w.cell? ⟨b, off + i, none⟩ = some (.int .u8 (xs.getD i 0))) : Bts w (.slice (some ⟨b, off, none⟩) xs.length cap) xs := by
 refine ⟨hx, hl, ?_⟩
 rcases Nat.eq_zero_or_pos xs.length with h0 | h0
 ·
  exact .inl ⟨List.eq_nil_of_length_eq_zero h0, _, cap, by rw [h0], (fun e => by cases e), hm⟩
 ·
  exact .inr ⟨b, off, cap, rfl, h0, hc, hm, hb, h⟩
theorem own_ne {w : World} {base e : Nat} {v : Value} {n : Nat} {xs : List Value} (h : w.ownsRow base e 1 v n xs) : ∃ ao cap, v = .slice ao n cap ∧ n ≤ cap := by
 rcases h.2 with ⟨rfl, rfl⟩ | ⟨g, cap, cur, rfl, hb, hg, hnc, _⟩
 ·
  exact ⟨none, 0, rfl, by omega⟩
 ·
  exact ⟨_, cap, rfl, hnc⟩
theorem news_of {w : World} {b off : Nat} {xs : List Int} (h : ∀ i, i < xs.length → w.cell? ⟨b, off + i, none⟩ = some (.int .u8 (xs.getD i 0))) :
  ∀ j u, (xs.map (Value.int .u8))[j]? = some u → w.cell? ((⟨b, off, none⟩ : Addr).add j) = some u := by
 intro j u hj
 have hjl : j < xs.length := by
  rcases Nat.lt_or_ge j xs.length with h | h
  ·
   exact h
  ·
   simp [List.getElem?_eq_none (show (xs.map (Value.int .u8)).length ≤ j by simpa using h)] at hj
 rw [show ((⟨b, off, none⟩ : Addr).add j) = ⟨b, off + j, none⟩ by unfold Addr.add; split <;> simp_all, h j hjl]
 simpa [List.getD, hjl] using hj
theorem one_map (xs : List Int) : ∀ u ∈ xs.map (Value.int .u8), u.oneCell' = true := by
 intro u hu
 obtain ⟨_, _, rfl⟩ := List.mem_map.1 hu
 rfl
end Go.Proofs.YtiknnobgoamgcaaGreatDoor
/-
  Arguments that are slices of bytes or numbers: what is told of them; slices cut at their ends.
-/
namespace Go.Proofs.YtiknnobgoamgcaaGreatDoor
open Go.RowKit
theorem Tryz.info5 : (Tryz.prog.info? 5).map (fun i => (i.zero, i.size, i.bytes)) = some (some (.int .u8 0), 1, 1) := by kernel_rfl
theorem ret_int {k : IntKind} {a b : Int} (h : a = b) : Ending.returned (.int k a) = .returned (.int k b) := by rw [h]

theorem cell_alloc_at (w : World) (cs : Array Value) (t : Nat) (i : Nat) (h : i < cs.size) : (w.alloc (.cells cs t)).cell? ⟨w.heap.size, 0 + i, none⟩ = some (cs.getD i undef) := by
 rw [Nat.zero_add, cell_of_row _ w.heap.size i cs t (0, 0) (heap_alloc_new w _)]
 simp [Array.getD, h]
theorem below_alloc (w : World) (o : Obj) : Below w.heap.size w (w.alloc o) := (Below.refl _ _).alloc (Nat.le_refl _) o
theorem bts_alloc (w : World) (xs : List Int) (fr : Nat × Nat) (hx : Byt xs) (hl : xs.length ≤ 140737488355328) : Bts (w.alloc (.cells (xs.map (Value.int .u8)).toArray 5 fr)) (.slice (some ⟨w.heap.size, 0, none⟩) xs.length xs.length) xs :=
 Bts.ofCells hx hl (Nat.le_refl _) (by omega) (by simp) (fun i hi => by
  rw [Nat.zero_add, World.cell?_alloc_mark]
  simp [List.getD, hi])
/-- What is told of a slice of integers that came in. -/
def IsRow (k : IntKind) (w : World) (a : Option Addr) (len cap : Nat) (zs : List Int) : Prop :=
 (a = none ∧ len = 0 ∧ cap = 0 ∧ zs = []) ∨
 ∃ x, a = some x ∧ len ≤ cap ∧ cap ≤ maxLen ∧ zs.length = cap ∧ (∀ i, i < zs.length → w.cell? (x.add i) = some (.int k (zs.getD i 0))) ∧ ∀ n ∈ zs, (Lit.int k n).wf = true

theorem byt_wf {zs : List Int} (h : ∀ n ∈ zs, (Lit.int .u8 n).wf = true) : Byt zs := fun x hx => bounds_u8 (h x hx)
theorem getD_take (zs : List Int) (i k : Nat) (h : i < k) : (zs.take k).getD i 0 = zs.getD i 0 := by
 simp [List.getD, h]
theorem IsRow.below {k : IntKind} {w w' : World} {a : Option Addr} {len cap : Nat} {zs : List Int} (h : IsRow k w a len cap zs) (hb : Below w.heap.size w w') : IsRow k w' a len cap zs := by
 rcases h with h | ⟨x, h1, h2, h3, h4, hcell, h5⟩
 ·
  exact .inl h
 ·
  exact .inr ⟨x, h1, h2, h3, h4, fun i hi => (hb.cell (World.block_lt_of_cell? w _ (hcell i hi))).trans (hcell i hi), h5⟩
/-- The first m of its bytes. -/
theorem IsRow.bts {w : World} {a : Option Addr} {len cap : Nat} {zs : List Int} (h : IsRow .u8 w a len cap zs) (m : Nat) (hm : m ≤ len) (hb : m ≤ 140737488355328) : Bts w (.slice a m cap) (zs.take m) := by
 rcases h with ⟨rfl, rfl, rfl, rfl⟩ | ⟨x, rfl, hlc, hcm, hz, hcell, hwf⟩
 ·
  obtain rfl : m = 0 := by omega
  exact bts_nil w
 ·
  unfold maxLen at hcm
  rcases Nat.eq_zero_or_pos m with rfl | hp
  ·
   exact ⟨by simpa using byt_nil, by simp, .inl ⟨by simp, _, cap, rfl, (fun e => by cases e), by omega⟩⟩
  ·
   obtain ⟨b, off, rfl, hc⟩ := ints_at hcell (by omega)
   have hl : (zs.take m).length = m := by simp; omega
   have := Bts.ofCells (w := w) (b := b) (off := off) (cap := cap) (byt_take (byt_wf hwf) m) (by omega) (by omega) (by omega) (World.block_lt_of_cell? w _ (hc 0 (by omega)))
    (fun i hi => by rw [hl] at hi; rw [getD_take _ _ _ hi]; exact hc i (by omega))
   rw [hl] at this
   exact this
theorem bts_some {w : World} {v : Value} {xs : List Int} (h : Bts w v xs) (h0 : 0 < xs.length) : ∃ b off cap, v = .slice (some ⟨b, off, none⟩) xs.length cap ∧ xs.length ≤ cap ∧ cap ≤ 9223372036854775807 := by
 rcases h.2.2 with ⟨rfl, _⟩ | ⟨b, off, cap, rfl, _, h2, h3, _⟩
 ·
  simp at h0
 ·
  exact ⟨b, off, cap, rfl, h2, h3⟩
theorem bts_cells {w : World} {b off n cap : Nat} {xs : List Int} (h : Bts w (.slice (some ⟨b, off, none⟩) n cap) xs) (h0 : 0 < xs.length) : n = xs.length ∧ xs.length ≤ cap ∧ cap ≤ 9223372036854775807 ∧ b < w.heap.size ∧ ∀ i, i < xs.length → w.cell? ⟨b, off + i, none⟩ = some (.int .u8 (xs.getD i 0)) := by
 rcases h.2.2 with ⟨rfl, _⟩ | ⟨b', off', cap', he, _, h2, h3, h4, h5⟩
 ·
  simp at h0
 ·
  simp only [Value.slice.injEq, Option.some.injEq, Addr.mk.injEq] at he
  obtain ⟨⟨rfl, rfl, _⟩, rfl, rfl⟩ := he
  exact ⟨rfl, h2, h3, h4, h5⟩
/-- Cut at its end: v[:m]. -/
theorem Bts.take {w : World} {b off n cap : Nat} {xs : List Int} (h : Bts w (.slice (some ⟨b, off, none⟩) n cap) xs) (h0 : 0 < xs.length) (m : Nat) (hm : m ≤ xs.length) : Bts w (.slice (some ⟨b, off, none⟩) m cap) (xs.take m) := by
 obtain ⟨_, h2, h3, h4, h5⟩ := bts_cells h h0
 have hl : (xs.take m).length = m := by simp; omega
 have := Bts.ofCells (w := w) (b := b) (off := off) (cap := cap) (byt_take h.1 m) (by have := h.2.1; omega) (by omega) h3 h4
  (fun i hi => by rw [hl] at hi; rw [getD_take _ _ _ hi]; exact h5 i (by omega))
 rw [hl] at this
 exact this
/-- Cut at its beginning: v[k:]. -/
theorem Bts.drop {w : World} {b off n cap : Nat} {xs : List Int} (h : Bts w (.slice (some ⟨b, off, none⟩) n cap) xs) (h0 : 0 < xs.length) (k : Nat) (hk : k ≤ xs.length) : Bts w (.slice (some ⟨b, off + k, none⟩) (xs.length - k) (cap - k)) (xs.drop k) := by
 obtain ⟨_, h2, h3, h4, h5⟩ := bts_cells h h0
 have hl : (xs.drop k).length = xs.length - k := by simp
 have := Bts.ofCells (w := w) (b := b) (off := off + k) (cap := cap - k) (byt_drop h.1 k) (by have := h.2.1; omega) (by omega) (by omega) h4
  (fun i hi => by
   rw [hl] at hi
   rw [Nat.add_assoc, h5 (k + i) (by omega)]
   congr 2
   simp [List.getD])
 rw [hl] at this
 exact this
/-- Cut at both ends: v[t:t+n], where v has room behind t. -/
theorem Bts.sub {w : World} {a : Option Addr} {m cap : Nat} {xs : List Int} (h : Bts w (.slice a m cap) xs) (hm : xs.length = m) (t n : Nat) (htn : t + n ≤ m) (hct : ¬ cap = t) : Bts w (.slice (a.map (·.add t)) n (cap - t)) ((xs.drop t).take n) := by
 rcases Nat.eq_zero_or_pos xs.length with h0 | h0
 ·
  obtain rfl := List.eq_nil_of_length_eq_zero h0
  simp at hm
  obtain ⟨rfl, rfl⟩ : t = 0 ∧ n = 0 := by omega
  rcases h.2.2 with ⟨_, ao, cap', he, hao, hcm⟩ | ⟨_, _, _, _, h1, _⟩
  ·
   simp only [Value.slice.injEq] at he
   obtain ⟨rfl, _, rfl⟩ := he
   refine ⟨by simpa using byt_nil, by simp, .inl ⟨by simp, _, _, rfl, ?_, by omega⟩⟩
   intro hn
   cases a with
   | none => exact absurd (hao rfl) (by omega)
   | some x => simp at hn
  ·
   simp at h1
 ·
  obtain ⟨b, off, cap', he, h1, h2⟩ := bts_some h h0
  simp only [Value.slice.injEq] at he
  obtain ⟨rfl, _, rfl⟩ := he
  obtain ⟨_, h2, h3, h4, h5⟩ := bts_cells h h0
  have hl : ((xs.drop t).take n).length = n := by simp; omega
  have := Bts.ofCells (w := w) (b := b) (off := off + t) (cap := cap - t) (byt_take (byt_drop h.1 t) n) (by have := h.2.1; omega) (by omega) (by omega) h4
   (fun i hi => by
    rw [hl] at hi
    rw [Nat.add_assoc, h5 (t + i) (by omega)]
    congr 2
    simp [List.getD, hi])
  rw [hl] at this
  rw [Option.map_some, show ((⟨b, off, none⟩ : Addr).add t) = ⟨b, off + t, none⟩ by unfold Addr.add; split <;> simp_all]
  exact this
/-- Its cells, one by one, also later. -/
theorem Bts.at {w w' : World} {a : Option Addr} {m cap : Nat} {xs : List Int} (h : Bts w (.slice a m cap) xs) (h0 : 0 < xs.length) (hb : Below w.heap.size w w') : ∃ b off, a = some ⟨b, off, none⟩ ∧ b < w.heap.size ∧ ∀ i, i < xs.length → w'.cell? ⟨b, off + i, none⟩ = some (.int .u8 (xs.getD i 0)) := by
 obtain ⟨b, off, cap', he, h1, h2⟩ := bts_some h h0
 simp only [Value.slice.injEq] at he
 obtain ⟨rfl, _, rfl⟩ := he
 obtain ⟨_, _, _, h4, h5⟩ := bts_cells h h0
 exact ⟨b, off, rfl, h4, fun i hi => by rw [hb.cell (by exact h4)]; exact h5 i hi⟩
/-- Where nothing is behind. -/
theorem bts_end (w : World) (a : Option Addr) : Bts w (.slice a 0 0) [] := ⟨byt_nil, by simp, .inl ⟨rfl, a, 0, rfl, fun _ => rfl, by omega⟩⟩
theorem Bts.pre {w : World} {a : Option Addr} {m cap : Nat} {xs : List Int} (h : Bts w (.slice a m cap) xs) (hm : xs.length = m) (n : Nat) (hn : n ≤ m) : Bts w (.slice a n cap) (xs.take n) := by
 rcases Nat.eq_zero_or_pos xs.length with h0 | h0
 ·
  obtain rfl := List.eq_nil_of_length_eq_zero h0
  simp at hm
  obtain rfl : n = m := by omega
  simpa using h
 ·
  obtain ⟨b, off, cap', he, h1, h2⟩ := bts_some h h0
  simp only [Value.slice.injEq] at he
  obtain ⟨rfl, _, rfl⟩ := he
  exact h.take h0 n (by omega)
theorem bts_none_left {w : World} {b off cap : Nat} {xs : List Int} (k : Nat) (hk : xs.length ≤ k) (hc : cap ≤ 9223372036854775807) : Bts w (.slice (some ⟨b, off, none⟩) 0 cap) (xs.drop k) := by
 rw [List.drop_of_length_le hk]
 exact ⟨byt_nil, by simp, .inl ⟨rfl, _, cap, rfl, (fun e => by cases e), hc⟩⟩
end Go.Proofs.YtiknnobgoamgcaaGreatDoor
/-
  What a call answers; worlds one behind the other.
-/
namespace Go.Proofs.YtiknnobgoamgcaaGreatDoor
open Go.RowKit
set_option linter.unusedSimpArgs false
set_option linter.unusedVariables false
theorem ret_bool {a b : Bool} (h : a = b) : Ending.returned (.bool a) = .returned (.bool b) := by rw [h]
theorem below3 {a b c : World} (h : Below a.heap.size a b) (k : Below b.heap.size b c) : Below a.heap.size a c := h.trans (k.mono h.size)
end Go.Proofs.YtiknnobgoamgcaaGreatDoor
/-
  Tokens and comments that a slice of one's own holds; append; what a slice holds.
-/
namespace Go.Proofs.YtiknnobgoamgcaaGreatDoor
open Go.RowKit
set_option linter.unusedSimpArgs false
set_option linter.unusedVariables false
/-- A comment. -/
structure Cm where
 s : ByteArray
 p : Int
 l : Int
 n : Int
def Cm.cells (c : Cm) : List Value := [.string c.s, .int .i64 c.p, .int .i64 c.l, .int .i64 c.n]
def Tk.cells (t : Tk) : List Value := [.int .i64 t.k, .string t.s, .int .i64 t.p, .int .i64 t.l, .bool t.q]
def toksC (l : List Tk) : List Value := l.flatMap Tk.cells
def comsC (l : List Cm) : List Value := l.flatMap Cm.cells
theorem toksC_snoc (l : List Tk) (t : Tk) : toksC (l ++ [t]) = toksC l ++ t.cells := by simp [toksC]
theorem comsC_snoc (l : List Cm) (t : Cm) : comsC (l ++ [t]) = comsC l ++ t.cells := by simp [comsC]
/-- Tokens that the call's own slice holds. -/
def OwnT (w : World) (base : Nat) (v : Value) (l : List Tk) : Prop := w.ownsRow base 50 5 v l.length (toksC l)
def OwnC (w : World) (base : Nat) (v : Value) (l : List Cm) : Prop := w.ownsRow base 92 4 v l.length (comsC l)
theorem own_other {w w' : World} {base e size n : Nat} {v : Value} {xs : List Value} (h : w.ownsRow base e size v n xs) (hb : ∀ (k : Nat) (cur : Array Value), w.heap[k]? = some (Obj.cells cur e (0, 0)) → w'.heap[k]? = w.heap[k]?) : w'.ownsRow base e size v n xs := by
 refine ⟨h.1, ?_⟩
 rcases h.2 with h | ⟨g, cap, cur, h1, h2, h3, h4⟩
 ·
  exact .inl h
 ·
  exact .inr ⟨g, cap, cur, h1, h2, (hb g cur h3).trans h3, h4⟩
/-- What other kinds of blocks do turns no row. -/
theorem own_grown {w w' : World} {base e size n : Nat} {v u : Value} {xs : List Value} (h : w.ownsRow base e size v n xs) (hg : w.grownBy w' u.ownBlock) (hu : ∀ (k : Nat), u.ownBlock = some k → ∀ cur, w.heap[k]? ≠ some (Obj.cells cur e (0, 0))) : w'.ownsRow base e size v n xs :=
 own_other h fun k cur hk => hg.block k (Array.getElem?_eq_some_iff.1 hk).1 (fun e => hu k e.symm cur hk)
theorem own_alloc {w : World} {base e size n : Nat} {v : Value} {xs : List Value} (h : w.ownsRow base e size v n xs) (o : Obj) : (w.alloc o).ownsRow base e size v n xs :=
 own_other h fun _ _ hk => Below.heap_alloc _ _ _ (Array.getElem?_eq_some_iff.1 hk).1
theorem own_set {w : World} {base e size n : Nat} {v : Value} {xs : List Value} (h : w.ownsRow base e size v n xs) (a : Addr) (x : Value) (ha : ∀ cur, w.heap[a.block]? ≠ some (Obj.cells cur e (0, 0))) : (w.setCell a x).ownsRow base e size v n xs :=
 own_other h fun _ cur hk => Below.heap_setCell _ _ _ _ (fun e => ha cur (e ▸ hk))
/-- The kind of the block that an own row lies in. -/
theorem own_kind {w : World} {base e size n : Nat} {v : Value} {xs : List Value} (h : w.ownsRow base e size v n xs) {k : Nat} (hk : v.ownBlock = some k) : ∃ cur, w.heap[k]? = some (Obj.cells cur e (0, 0)) := by
 rcases h.2 with ⟨rfl, _⟩ | ⟨g, cap, cur, rfl, h2, h3, h4⟩
 ·
  cases hk
 ·
  obtain rfl : g = k := by simpa [Value.ownBlock] using hk
  exact ⟨cur, h3⟩
theorem own_apart {w : World} {base e e' size n : Nat} {v : Value} {xs : List Value} (h : w.ownsRow base e size v n xs) (hne : e ≠ e') : ∀ k, v.ownBlock = some k → ∀ cur, w.heap[k]? ≠ some (Obj.cells cur e' (0, 0)) := fun k hk cur hc => by
 obtain ⟨cur', h'⟩ := own_kind h hk
 rw [h'] at hc
 simp only [Option.some.injEq, Obj.cells.injEq] at hc
 exact hne hc.2.1
theorem own_shape {w : World} {base e size n : Nat} {v : Value} {xs : List Value} (h : w.ownsRow base e size v n xs) : ∃ a c, v = .slice a n c ∧ n ≤ c ∧ c ≤ maxLen := by
 rcases h.2 with ⟨rfl, rfl⟩ | ⟨g, cap, cur, rfl, _, _, h4, h5, _⟩
 ·
  exact ⟨_, _, rfl, Nat.le_refl _, Nat.zero_le _⟩
 ·
  exact ⟨_, _, rfl, h4, h5⟩
/-- A scanner: where it stands, its line, its tokens, its comments. -/
structure Sc where
 p : Nat
 line : Nat
 l : List Tk
 c : List Cm
theorem Tryz.info50 : (Tryz.prog.info? 50).map (fun i => (i.zero, i.size, i.bytes)) = some (some (.agg #[.int .i64 0, .string ⟨#[]⟩, .int .i64 0, .int .i64 0, .bool false]), 5, 48) := by kernel_rfl
theorem Tryz.info92 : (Tryz.prog.info? 92).map (fun i => (i.zero, i.size, i.bytes)) = some (some (.agg #[.string ⟨#[]⟩, .int .i64 0, .int .i64 0, .int .i64 0]), 4, 40) := by kernel_rfl
theorem one_tok (t : Tk) : ∀ u ∈ t.cells, u.oneCell' = true := by
 intro u hu
 simp only [Tk.cells, List.mem_cons, List.not_mem_nil, or_false] at hu
 rcases hu with rfl | rfl | rfl | rfl | rfl <;> rfl
theorem one_com (t : Cm) : ∀ u ∈ t.cells, u.oneCell' = true := by
 intro u hu
 simp only [Cm.cells, List.mem_cons, List.not_mem_nil, or_false] at hu
 rcases hu with rfl | rfl | rfl | rfl <;> rfl
theorem new_tok (w : World) (t : Tk) (fr : Nat × Nat) : ∀ (j : Nat) (u : Value), t.cells[j]? = some u → (w.alloc (.cells #[.int .i64 t.k, .string t.s, .int .i64 t.p, .int .i64 t.l, .bool t.q] 50 fr)).cell? (Addr.add ⟨w.heap.size, 0, none⟩ j) = some u := by
 intro j u hj
 rw [show Addr.add ⟨w.heap.size, 0, none⟩ j = ⟨w.heap.size, j, none⟩ by simp [Addr.add]; omega, World.cell?_alloc_mark, List.getElem?_toArray]
 exact hj
theorem new_com (w : World) (t : Cm) (fr : Nat × Nat) : ∀ (j : Nat) (u : Value), t.cells[j]? = some u → (w.alloc (.cells #[.string t.s, .int .i64 t.p, .int .i64 t.l, .int .i64 t.n] 92 fr)).cell? (Addr.add ⟨w.heap.size, 0, none⟩ j) = some u := by
 intro j u hj
 rw [show Addr.add ⟨w.heap.size, 0, none⟩ j = ⟨w.heap.size, j, none⟩ by simp [Addr.add]; omega, World.cell?_alloc_mark, List.getElem?_toArray]
 exact hj
theorem wp_append_tok {w : World} {o : Oper} {a : Act} {K : Act → World → Prop} {Q : Exit → Act → World → Prop} (s x : Operand)
  (ho : o.op = .call { callee := .builtin .append, args := #[s, x], argTypes := #[25, 25] })
  {base : Nat} {v : Value} {l : List Tk} (t : Tk) (hs : a.eval s = v) (hown : OwnT w base v l) (ad : Addr) (hx : a.eval x = .slice (some ad) 1 1)
  (hnews : ∀ (j : Nat) (u : Value), t.cells[j]? = some u → w.cell? (ad.add j) = some u) (hl : l.length ≤ 1000000) (hbase : base ≤ w.heap.size)
  (h : ∀ v' w', OwnT w' base v' (l ++ [t]) → w.grownBy w' v.ownBlock → K (a.put o.dst v') w') : o.wp Tryz.prog a w K Q := by
 obtain ⟨i0, hi, hz0, hz1, hz2⟩ := info_parts Tryz.info50
 refine wp_append_own_wide w s x 25 ho base 50 i0 _ 5 48 Tryz.underlying25 hi hz0 hz1 hz2 rfl (by decide) v l.length (toksC l) hs hown ad 1 1 t.cells hx rfl hnews (one_tok t) (by unfold maxLen; omega) (by omega) hbase ?_
 intro v' w' h1 h2 _
 refine h v' w' ?_ h2
 unfold OwnT
 rw [toksC_snoc, List.length_append]
 exact h1
theorem wp_append_com {w : World} {o : Oper} {a : Act} {K : Act → World → Prop} {Q : Exit → Act → World → Prop} (s x : Operand)
  (ho : o.op = .call { callee := .builtin .append, args := #[s, x], argTypes := #[51, 51] })
  {base : Nat} {v : Value} {l : List Cm} (t : Cm) (hs : a.eval s = v) (hown : OwnC w base v l) (ad : Addr) (hx : a.eval x = .slice (some ad) 1 1)
  (hnews : ∀ (j : Nat) (u : Value), t.cells[j]? = some u → w.cell? (ad.add j) = some u) (hl : l.length ≤ 1000000) (hbase : base ≤ w.heap.size)
  (h : ∀ v' w', OwnC w' base v' (l ++ [t]) → w.grownBy w' v.ownBlock → K (a.put o.dst v') w') : o.wp Tryz.prog a w K Q := by
 obtain ⟨i0, hi, hz0, hz1, hz2⟩ := info_parts Tryz.info92
 refine wp_append_own_wide w s x 51 ho base 92 i0 _ 4 40 Tryz.underlying51 hi hz0 hz1 hz2 rfl (by decide) v l.length (comsC l) hs hown ad 1 1 t.cells hx rfl hnews (one_com t) (by unfold maxLen; omega) (by omega) hbase ?_
 intro v' w' h1 h2 _
 refine h v' w' ?_ h2
 unfold OwnC
 rw [comsC_snoc, List.length_append]
 exact h1
theorem toksC_len (l : List Tk) : (toksC l).length = l.length * 5 := by
 induction l with
 | nil => rfl
 | cons t l ih => simp only [toksC, List.flatMap_cons, List.length_append, List.length_cons] at *; rw [ih]; simp only [Tk.cells, List.length_cons, List.length_nil]; omega
/-- The last token's cells. -/
theorem last_tok {w : World} {base gl cl : Nat} {l : List Tk} {t : Tk} (h : OwnT w base (.slice (some ⟨gl, 0, none⟩) (l.length + 1) cl) (l ++ [t])) (i : Nat) (hi : i < 5) : w.cell? ⟨gl, l.length * 5 + i, none⟩ = t.cells[i]? := by
 have h' : w.ownsRow base 50 5 (.slice (some ⟨gl, 0, none⟩) (l.length + 1) cl) (l.length + 1) (toksC (l ++ [t])) := by
  unfold OwnT at h
  rw [List.length_append] at h
  exact h
 rw [World.ownsRow.cellAt h' _ (by omega), toksC_snoc, List.getElem?_append_right (by rw [toksC_len]; omega), toksC_len, Nat.add_sub_cancel_left]
theorem own_none (w : World) (base e size : Nat) : w.ownsRow base e size (.slice none 0 0) 0 [] := ⟨by simp, .inl ⟨rfl, rfl⟩⟩
/-- A row that holds these, whoever's. -/
theorem own_nil {w : World} {base : Nat} : OwnT w base (.slice none 0 0) [] ∧ OwnC w base (.slice none 0 0) [] := ⟨own_none _ _ _ _, own_none _ _ _ _⟩
theorem toksC_at : ∀ (L : List Tk) (i j : Nat), j < 5 → (toksC L)[i * 5 + j]? = (L[i]?).bind fun t => t.cells[j]? := by
 intro L
 induction L with
 | nil => intro i j _; simp [toksC]
 | cons t L ih =>
  intro i j hj
  have hl : t.cells.length = 5 := rfl
  show (t.cells ++ toksC L)[i * 5 + j]? = _
  cases i with
  | zero => rw [List.getElem?_append_left (by omega)]; simp
  | succ i =>
   rw [List.getElem?_append_right (by omega), hl, show (i + 1) * 5 + j - 5 = i * 5 + j by omega, ih i j hj]
   simp
theorem comsC_at : ∀ (L : List Cm) (i j : Nat), j < 4 → (comsC L)[i * 4 + j]? = (L[i]?).bind fun t => t.cells[j]? := by
 intro L
 induction L with
 | nil => intro i j _; simp [comsC]
 | cons t L ih =>
  intro i j hj
  have hl : t.cells.length = 4 := rfl
  show (t.cells ++ comsC L)[i * 4 + j]? = _
  cases i with
  | zero => rw [List.getElem?_append_left (by omega)]; simp
  | succ i =>
   rw [List.getElem?_append_right (by omega), hl, show (i + 1) * 4 + j - 4 = i * 4 + j by omega, ih i j hj]
   simp
/-- The cells at a place are a token's. -/
def TkAt (w : World) (g o : Nat) (t : Tk) : Prop :=
 w.cell? ⟨g, o, none⟩ = some (.int .i64 t.k) ∧ w.cell? ⟨g, o + 1, none⟩ = some (.string t.s) ∧ w.cell? ⟨g, o + 2, none⟩ = some (.int .i64 t.p) ∧ w.cell? ⟨g, o + 3, none⟩ = some (.int .i64 t.l) ∧ w.cell? ⟨g, o + 4, none⟩ = some (.bool t.q)
def CmAt (w : World) (g o : Nat) (t : Cm) : Prop :=
 w.cell? ⟨g, o, none⟩ = some (.string t.s) ∧ w.cell? ⟨g, o + 1, none⟩ = some (.int .i64 t.p) ∧ w.cell? ⟨g, o + 2, none⟩ = some (.int .i64 t.l) ∧ w.cell? ⟨g, o + 3, none⟩ = some (.int .i64 t.n)
/-- A slice holds these tokens. -/
def Toks (w : World) (v : Value) (L : List Tk) : Prop :=
 ∃ a c, v = .slice a L.length c ∧ L.length ≤ c ∧ c ≤ maxLen ∧ (0 < L.length → ∃ g, a = some ⟨g, 0, none⟩ ∧ g < w.heap.size ∧ ∀ i t, L[i]? = some t → TkAt w g (i * 5) t)
def Coms (w : World) (v : Value) (L : List Cm) : Prop :=
 ∃ a c, v = .slice a L.length c ∧ L.length ≤ c ∧ c ≤ maxLen ∧ (0 < L.length → ∃ g, a = some ⟨g, 0, none⟩ ∧ g < w.heap.size ∧ ∀ i t, L[i]? = some t → CmAt w g (i * 4) t)
theorem own_toks {w : World} {base : Nat} {v : Value} {L : List Tk} (h : OwnT w base v L) : Toks w v L := by
 obtain ⟨a, c, rfl, h1, h2⟩ := own_shape h
 refine ⟨a, c, rfl, h1, h2, fun h0 => ?_⟩
 rcases h.2 with ⟨_, hz⟩ | ⟨g, cap, cur, e, _, hg, _⟩
 ·
  omega
 ·
  simp only [Value.slice.injEq] at e
  obtain ⟨rfl, _, rfl⟩ := e
  refine ⟨g, rfl, (Array.getElem?_eq_some_iff.1 hg).1, fun i t hi => ?_⟩
  have hlt : i < L.length := (List.getElem?_eq_some_iff.1 hi).1
  have hc : ∀ j, j < 5 → w.cell? ⟨g, i * 5 + j, none⟩ = t.cells[j]? := fun j hj => by
   rw [World.ownsRow.cellAt h _ (by omega), toksC_at L i j hj, hi]; rfl
  exact ⟨hc 0 (by omega), hc 1 (by omega), hc 2 (by omega), hc 3 (by omega), hc 4 (by omega)⟩
theorem own_coms {w : World} {base : Nat} {v : Value} {L : List Cm} (h : OwnC w base v L) : Coms w v L := by
 obtain ⟨a, c, rfl, h1, h2⟩ := own_shape h
 refine ⟨a, c, rfl, h1, h2, fun h0 => ?_⟩
 rcases h.2 with ⟨_, hz⟩ | ⟨g, cap, cur, e, _, hg, _⟩
 ·
  omega
 ·
  simp only [Value.slice.injEq] at e
  obtain ⟨rfl, _, rfl⟩ := e
  refine ⟨g, rfl, (Array.getElem?_eq_some_iff.1 hg).1, fun i t hi => ?_⟩
  have hlt : i < L.length := (List.getElem?_eq_some_iff.1 hi).1
  have hc : ∀ j, j < 4 → w.cell? ⟨g, i * 4 + j, none⟩ = t.cells[j]? := fun j hj => by
   rw [World.ownsRow.cellAt h _ (by omega), comsC_at L i j hj, hi]; rfl
  exact ⟨hc 0 (by omega), hc 1 (by omega), hc 2 (by omega), hc 3 (by omega)⟩
theorem TkAt.below {w w' : World} {g o : Nat} {t : Tk} (h : TkAt w g o t) (hg : g < w.heap.size) (hb : Below w.heap.size w w') : TkAt w' g o t := by
 obtain ⟨h0, h1, h2, h3, h4⟩ := h
 exact ⟨by rw [hb.cell hg]; exact h0, by rw [hb.cell hg]; exact h1, by rw [hb.cell hg]; exact h2, by rw [hb.cell hg]; exact h3, by rw [hb.cell hg]; exact h4⟩
theorem CmAt.below {w w' : World} {g o : Nat} {t : Cm} (h : CmAt w g o t) (hg : g < w.heap.size) (hb : Below w.heap.size w w') : CmAt w' g o t := by
 obtain ⟨h0, h1, h2, h3⟩ := h
 exact ⟨by rw [hb.cell hg]; exact h0, by rw [hb.cell hg]; exact h1, by rw [hb.cell hg]; exact h2, by rw [hb.cell hg]; exact h3⟩
theorem Toks.below {w w' : World} {v : Value} {L : List Tk} (h : Toks w v L) (hb : Below w.heap.size w w') : Toks w' v L := by
 obtain ⟨a, c, h1, h2, h3, h4⟩ := h
 refine ⟨a, c, h1, h2, h3, fun h0 => ?_⟩
 obtain ⟨g, e, hg, hc⟩ := h4 h0
 exact ⟨g, e, Nat.lt_of_lt_of_le hg hb.size, fun i t hi => (hc i t hi).below hg hb⟩
theorem Coms.below {w w' : World} {v : Value} {L : List Cm} (h : Coms w v L) (hb : Below w.heap.size w w') : Coms w' v L := by
 obtain ⟨a, c, h1, h2, h3, h4⟩ := h
 refine ⟨a, c, h1, h2, h3, fun h0 => ?_⟩
 obtain ⟨g, e, hg, hc⟩ := h4 h0
 exact ⟨g, e, Nat.lt_of_lt_of_le hg hb.size, fun i t hi => (hc i t hi).below hg hb⟩
end Go.Proofs.YtiknnobgoamgcaaGreatDoor
/-
  A block that holds a token.
-/
namespace Go.Proofs.YtiknnobgoamgcaaGreatDoor
open Go.RowKit
theorem eqT_text (s x : ByteArray) : (s.toList == x.toList) = eqT s x.data.toList := by
 rw [ByteArray.toList_eq, ByteArray.toList_eq]; rfl
theorem eqT_list (s : ByteArray) (x : List UInt8) : (s.toList == x) = eqT s x := by
 rw [ByteArray.toList_eq]; rfl
/-- The block b holds the token t. -/
def Box (w : World) (b : Nat) (t : Tk) : Prop :=
 w.cell? ⟨b, 0, none⟩ = some (.int .i64 t.k) ∧ w.cell? ⟨b, 1, none⟩ = some (.string t.s) ∧ w.cell? ⟨b, 2, none⟩ = some (.int .i64 t.p) ∧ w.cell? ⟨b, 3, none⟩ = some (.int .i64 t.l) ∧ w.cell? ⟨b, 4, none⟩ = some (.bool t.q)
theorem Box.below {w w' : World} {b B : Nat} {t : Tk} (h : Box w b t) (hb : Below B w w') (hB : b < B) : Box w' b t := by
 obtain ⟨h0, h1, h2, h3, h4⟩ := h
 exact ⟨by rw [hb.cell hB]; exact h0, by rw [hb.cell hB]; exact h1, by rw [hb.cell hB]; exact h2, by rw [hb.cell hB]; exact h3, by rw [hb.cell hB]; exact h4⟩
theorem box_alloc (w : World) (t : Tk) (fr : Nat × Nat) : Box (w.alloc (.cells #[.int .i64 t.k, .string t.s, .int .i64 t.p, .int .i64 t.l, .bool t.q] 50 fr)) w.heap.size t := by
 refine ⟨?_, ?_, ?_, ?_, ?_⟩ <;> rw [World.cell?_alloc_mark] <;> rfl
theorem Box.lt {w : World} {b : Nat} {t : Tk} (h : Box w b t) : b < w.heap.size := World.block_lt_of_cell? w ⟨b, 0, none⟩ h.1
/-- A token's block. -/
abbrev Tk.obj (t : Tk) (fr : Nat × Nat) : Obj := .cells #[.int .i64 t.k, .string t.s, .int .i64 t.p, .int .i64 t.l, .bool t.q] 50 fr
/-- Three tokens laid one behind the other, and what a call leaves of them. -/
theorem box3 (w : World) (p a b : Tk) (f1 f2 f3 : Nat × Nat) (W : World) (hw : Below (((w.alloc (p.obj f1)).alloc (a.obj f2)).alloc (b.obj f3)).heap.size (((w.alloc (p.obj f1)).alloc (a.obj f2)).alloc (b.obj f3)) W) :
  Box W (w.heap.size + 1) a ∧ Box W (w.heap.size + 1 + 1) b ∧ Below w.heap.size w W := by
 have h2 := box_alloc (w.alloc (p.obj f1)) a f2
 have h3 := box_alloc ((w.alloc (p.obj f1)).alloc (a.obj f2)) b f3
 have h2 := h2.below (below_alloc _ (b.obj f3)) h2.lt
 have h2 := h2.below hw h2.lt
 have h3 := h3.below hw h3.lt
 have e1 : (w.alloc (p.obj f1)).heap.size = w.heap.size + 1 := by simp
 have e2 : ((w.alloc (p.obj f1)).alloc (a.obj f2)).heap.size = w.heap.size + 1 + 1 := by simp
 rw [e1] at h2
 rw [e2] at h3
 exact ⟨h2, h3, below3 (below3 (below3 (below_alloc w _) (below_alloc _ _)) (below_alloc _ _)) hw⟩
end Go.Proofs.YtiknnobgoamgcaaGreatDoor
/-
  The walks of package token: Op, sign, operand, Ends.
-/
namespace Go.Proofs.YtiknnobgoamgcaaGreatDoor
open Go.RowKit
set_option linter.unusedSimpArgs false
set_option maxHeartbeats 2000000 in
set_option maxRecDepth 100000 in
theorem tOp_any (s : ByteArray) (w : World) :
  Calls Tryz.prog 136 #[.string s] w fun e w' => e = .returned (.bool (isOp s)) ∧ w' = w := by
 go_enter Tryz.func136, Tryz.ntmps136
 go_wp2
 all_goals
  go_ret
  refine ⟨ret_bool ?_, rfl⟩
  simp only [ByteArray.toList_eq] at *
  simp_all only [isOp, inB, opsB, List.any_cons, List.any_nil, Bool.true_or, Bool.false_or, Bool.or_true, Bool.or_false, Bool.false_eq_true, Bool.true_eq_false]
set_option maxHeartbeats 400000 in
set_option maxRecDepth 100000 in
theorem tsign_any (t : Tk) (x : ByteArray) (w : World) :
  Calls Tryz.prog 101 #[t.val, .string x] w fun e w' => e = .returned (.bool (sgn t x.data.toList)) ∧ Below w.heap.size w w' := by
 obtain ⟨k, s, p, l, q⟩ := t
 unfold Tk.val
 dsimp only
 go_enter Tryz.func101, Tryz.ntmps101
 go_wp2
 all_goals
  go_ret
  refine ⟨ret_bool ?_, below_alloc _ _⟩
  simp_all [sgn, eqT_text]
set_option maxHeartbeats 400000 in
set_option maxRecDepth 100000 in
theorem toperand_any (t : Tk) (w : World) :
  Calls Tryz.prog 100 #[t.val] w fun e w' => e = .returned (.bool (operB t)) ∧ Below w.heap.size w w' := by
 have HS := fun w => tsign_any t ⟨#[41]⟩ w
 rw [show (⟨#[41]⟩ : ByteArray).data.toList = [41] from rfl] at HS
 have hb : ∀ b, sgn t [41] = b → operB t = (decide (t.k = 1) || decide (t.k = 2) || decide (t.k = 3) || b) := fun b hb => by rw [← hb]; rfl
 generalize sgn t [41] = b at *
 have hb := hb b rfl
 rw [hb]
 clear hb
 obtain ⟨k, s, p, l, q⟩ := t
 unfold Tk.val at *
 dsimp only at *
 have HS := zH HS
 by_cases h1 : k = 1
 ·
  subst h1
  clear HS
  go_enter Tryz.func100, Tryz.ntmps100
  go_wp2
  go_ret
  exact ⟨ret_bool (by simp), below_alloc _ _⟩
 by_cases h2 : k = 2
 ·
  subst h2
  clear HS
  go_enter Tryz.func100, Tryz.ntmps100
  go_wp2
  go_ret
  exact ⟨ret_bool (by simp), below_alloc _ _⟩
 by_cases h3 : k = 3
 ·
  subst h3
  clear HS
  go_enter Tryz.func100, Tryz.ntmps100
  go_wp2
  go_ret
  exact ⟨ret_bool (by simp), below_alloc _ _⟩
 rw [decide_eq_false h1, decide_eq_false h2, decide_eq_false h3]
 go_enter Tryz.func100, Tryz.ntmps100
 go_wp2_with fail
 refine (uH HS _).mono ?_
 rintro e W ⟨rfl, hw⟩
 go_wp2
 go_ret
 exact ⟨ret_bool (by simp), below3 (below_alloc _ _) hw⟩
set_option maxHeartbeats 1000000 in
set_option maxRecDepth 100000 in
theorem tEnds_any (t : Tk) (w : World) :
  Calls Tryz.prog 82 #[t.val] w fun e w' => e = .returned (.bool (endB t)) ∧ Below w.heap.size w w' := by
 have HO := fun w => toperand_any t w
 have HS := fun w => tsign_any t ⟨#[125]⟩ w
 rw [show (⟨#[125]⟩ : ByteArray).data.toList = [125] from rfl] at HS
 have hx := fun w => box_alloc w t (0, 0)
 by_cases hk : t.k = 5
 ·
  have h0 : operB t = false := by simp [operB, sgn, hk]
  have h1 : sgn t [125] = false := by simp [sgn, hk]
  rw [endB, h0, h1, hk]
  clear h0 h1 HO HS hx
  obtain ⟨k, s, p, l, q⟩ := t
  obtain rfl : k = 5 := hk
  unfold Tk.val
  dsimp only
  go_enter Tryz.func82, Tryz.ntmps82
  go_wp2
  all_goals
   go_ret
   refine ⟨ret_bool ?_, below_alloc _ _⟩
   simp_all [eqT, ByteArray.toList_eq]
 ·
  have h0 : endB t = (operB t || sgn t [125]) := by simp [endB, hk]
  rw [h0]
  clear h0
  generalize operB t = x at *
  generalize sgn t [125] = y at *
  obtain ⟨k, s, p, l, q⟩ := t
  unfold Tk.val at *
  dsimp only at *
  have HO := zH HO
  have HS := zH HS
  have hx := zH hx
  cases x with
  | true =>
   go_enter Tryz.func82, Tryz.ntmps82
   go_wp2_with fail
   refine (uH HO _).mono ?_
   rintro e W ⟨rfl, hw⟩
   go_wp2
   go_ret
   exact ⟨rfl, below3 (below_alloc _ _) hw⟩
  | false =>
   go_enter Tryz.func82, Tryz.ntmps82
   go_wp2_with fail
   refine (uH HO _).mono ?_
   rintro e W ⟨rfl, hw⟩
   obtain ⟨c0, c1, c2, c3, c4⟩ := (uH hx w).below hw (by simp)
   dsimp only at c0 c1 c2 c3 c4
   go_wp2_with fail
   refine (uH HS _).mono ?_
   rintro e W2 ⟨rfl, hw2⟩
   go_wp2
   go_ret
   exact ⟨rfl, below3 (below3 (below_alloc _ _) hw) hw2⟩
end Go.Proofs.YtiknnobgoamgcaaGreatDoor
/-
  The walks of package token: Rank, Unary, Eq.
-/
namespace Go.Proofs.YtiknnobgoamgcaaGreatDoor
open Go.RowKit
set_option linter.unusedSimpArgs false
set_option maxHeartbeats 2000000 in
set_option maxRecDepth 100000 in
theorem tRank_any (s : ByteArray) (w : World) :
  Calls Tryz.prog 155 #[.string s] w fun e w' => e = .returned (.int .i64 (rankN s)) ∧ w' = w := by
 go_enter Tryz.func155, Tryz.ntmps155
 go_wp2
 all_goals
  go_ret
  refine ⟨ret_int ?_, rfl⟩
  simp only [ByteArray.toList_eq] at *
  simp_all only [rankN, eqT, if_true, if_false, Bool.true_or, Bool.false_or, Bool.or_true, Bool.or_false, Bool.false_eq_true, Bool.true_eq_false]
set_option maxHeartbeats 2000000 in
set_option maxRecDepth 100000 in
theorem tUnary_any (s : ByteArray) (w : World) :
  Calls Tryz.prog 153 #[.string s] w fun e w' => e = .returned (.bool (isUn s)) ∧ w' = w := by
 go_enter Tryz.func153, Tryz.ntmps153
 go_wp2
 all_goals
  go_ret
  refine ⟨ret_bool ?_, rfl⟩
  simp only [ByteArray.toList_eq] at *
  simp_all only [isUn, eqT, Bool.true_or, Bool.false_or, Bool.or_true, Bool.or_false, Bool.false_eq_true, Bool.true_eq_false]
  try rfl
set_option maxHeartbeats 400000 in
set_option maxRecDepth 100000 in
theorem tEq_any (a b : Tk) (w : World) :
  Calls Tryz.prog 102 #[a.val, b.val] w fun e w' => e = .returned (.bool (eqB a b)) ∧ Below w.heap.size w w' := by
 obtain ⟨k, s, p, l, q⟩ := a
 obtain ⟨k', s', p', l', q'⟩ := b
 unfold Tk.val
 dsimp only
 go_enter Tryz.func102, Tryz.ntmps102
 go_wp2
 all_goals
  go_ret
  refine ⟨ret_bool ?_, below3 (below_alloc _ _) (below_alloc _ _)⟩
  simp_all [eqB, eqT_text]
end Go.Proofs.YtiknnobgoamgcaaGreatDoor

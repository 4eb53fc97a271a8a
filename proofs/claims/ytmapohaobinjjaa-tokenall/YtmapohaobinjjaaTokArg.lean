/-
  A token that came in: opened, and shut again.
-/
import Derived.Test.YtmapohaobinjjaaTokMath
import Derived.Test.YtmapohaobinjjaaRows
import Derived.ProofKit
import Derived.OpenShut
import Derived.ShutString
namespace Go.Proofs.Ytmapohaobinjjaa
open Go.ChangeShapes Go.WideShapes Go.ChangeAt Go.RowKit
open Go.ChangeMaps (open_string shut_string)
theorem Try.cells3 : Try.prog.cellsOf 3 = 1 := by kernel_rfl
theorem Try.cells9 : Try.prog.cellsOf 9 = 1 := by kernel_rfl
theorem Try.cells4 : Try.prog.cellsOf 4 = 1 := by kernel_rfl
theorem Try.cells23 : Try.prog.cellsOf 23 = 5 := by kernel_rfl
def Tk.dat {H : Type} (t : Tk) : DataW H := .agg [.lit (.int .i64 t.k), .lit (.string t.s.data.toList), .lit (.int .i64 t.p), .lit (.int .i64 t.l), .lit (.bool t.q)]
def Tk.wf (t : Tk) : Prop := (Lit.int .i64 t.k).wf = true ∧ t.s.size ≤ maxLen ∧ (Lit.int .i64 t.p).wf = true ∧ (Lit.int .i64 t.l).wf = true
theorem shut_tok {H : Type} {enc : TypeId × Value → H} {W : World} {base : Nat} {sp : Nat → Bool} {held : Bool} (t : Tk) (h : t.wf) : DataW.Trod enc Try.prog W base sp held 23 t.val t.dat [] := by
  obtain ⟨h0, h1, h2, h3⟩ := h
  refine ⟨2, ?_⟩
  have := trod_struct_mk (enc := enc) (P := Try.prog) (w := W) (base := base) (spare := sp) (held := held) (n := 1) (t := 23) (cs := [.int .i64 t.k, .string t.s, .int .i64 t.p, .int .i64 t.l, .bool t.q]) (xs := [(.lit (.int .i64 t.k), []), (.lit (.string t.s.data.toList), []), (.lit (.int .i64 t.p), []), (.lit (.int .i64 t.l), []), (.lit (.bool t.q), [])]) Try.underlying23 (by rw [Try.cells23]; rfl)
    (by simp [DataW.trod, Try.underlying3, Try.underlying9, Try.underlying4, Try.cells3, Try.cells9, Try.cells4, h0, h1, h2, h3])
  exact this
theorem open_tok {H : Type} {enc : TypeId × Value → H} {W : World} {base b0 : Nat} {r : Reach} {sp : Nat → Bool} {held : Bool} {v : Value} {d : DataW H} {ps : List MemPlace} (hval : Value.okWide Try.prog W r b0 23 v) (hd : DataW.Trod enc Try.prog W base sp held 23 v d ps) :
    ∃ t : Tk, v = t.val ∧ d = t.dat ∧ ps = [] ∧ t.wf := by
  obtain ⟨cs, rfl, hsz⟩ := okWide_struct Try.underlying23 hval
  rw [Try.cells23] at hsz
  obtain ⟨l⟩ := cs
  match l, hsz with
  | [c0, c1, c2, c3, c4], _ =>
  obtain ⟨fuel, hf⟩ := hd
  obtain ⟨xs, n, _, hx, _, hl, hall⟩ := DataW.trod_struct Try.underlying23 hf
  match xs, hl with
  | [y0, y1, y2, y3, y4], _ =>
  have e0 := hall 0 _ rfl
  have e1 := hall 1 _ rfl
  have e2 := hall 2 _ rfl
  have e3 := hall 3 _ rfl
  have e4 := hall 4 _ rfl
  obtain ⟨k, g0, rfl, w0⟩ := DataW.trod_int Try.underlying3 e0
  obtain ⟨s, g1, rfl, w1⟩ := DataW.trod_string Try.underlying9 e1
  obtain ⟨p, g2, rfl, w2⟩ := DataW.trod_int Try.underlying3 e2
  obtain ⟨l, g3, rfl, w3⟩ := DataW.trod_int Try.underlying3 e3
  obtain ⟨q, g4, rfl⟩ := DataW.trod_bool Try.underlying4 e4
  simp [Value.cells, Try.cells3, Try.cells9, Try.cells4] at g0 g1 g2 g3 g4
  subst g0 g1 g2 g3 g4
  simp only [Prod.mk.injEq] at hx
  obtain ⟨rfl, rfl⟩ := hx
  exact ⟨⟨k, s, p, l, q⟩, rfl, rfl, rfl, w0, w1, w2, w3⟩
end Go.Proofs.Ytmapohaobinjjaa

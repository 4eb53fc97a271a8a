/-
  One operation of a region that draws its order: by what its run answers.
-/
import Derived.WalkKit
import Derived.Test.YthnapcdanccohaaDoorBts
import Derived.Test.YthnapcdanccohaaDoorRows
namespace Go.Proofs.YthnapcdanccohaaDoor
open Go.RowKit
set_option linter.unusedSimpArgs false
theorem oper_of_run {P : Program} {o : Oper} {a : Act} {w w' : World} {v : Value} {K : Act → World → Prop} {Q : Exit → Act → World → Prop} (h : (execOp a.eval o).run P w = .ok (.value v) w') (hk : K (a.put o.dst v) w') : o.wp P a w K Q := by
  unfold Oper.wp
  rw [h]
  simpa only [Oper.upon] using hk
theorem oper_call {P : Program} {o : Oper} {a : Act} {w : World} {f : FuncId} {args : Array Value} {K : Act → World → Prop} {Q : Exit → Act → World → Prop} (h : (execOp a.eval o).run P w = .ok (.enter f args) w)
    (hc : Calls P f args w fun e w'' => ∃ u, e = .returned u ∧ K (a.put o.dst u) w'') : o.wp P a w K Q := by
  unfold Oper.wp
  rw [h]
  simp only [Oper.upon]
  exact hc.mono (fun e w'' ⟨u, he, hk⟩ => by subst he; exact hk)
theorem run_call1 {P : Program} {W : World} {A : Act} {d : Option Nat} {f : FuncId} {x : Operand} {ts : Array TypeId} {t : TypeId} {p : String} {af : Array Edge} {gd : Option (Nat × Bool)} (hf : ∀ us W, Sem.run P (callFunc f us) W = .ok (.enter f us) W) :
    (execOp A.eval { dst := d, op := .call { callee := .value (.func f), args := #[x], argTypes := ts }, type := t, pos := p, after := af, guard := gd }).run P W = .ok (.enter f #[A.eval x]) W := by
  have h := hf #[A.eval x] W
  generalize hv : A.eval x = v at h
  have e : A.eval (.func f) = .func (.func f) #[] #[] := rfl
  unfold execOp
  simp only [resolve, invoke, Sem.run_bind, Sem.run_pure, Result.andThen_ok, List.map_toArray, List.map_cons, List.map_nil, hv, e, Deferred.ofValue, Array.empty_append, Array.append_empty, List.nil_append, List.append_nil, List.append_toArray, h]
theorem run_call2 {P : Program} {W : World} {A : Act} {d : Option Nat} {f : FuncId} {x y : Operand} {ts : Array TypeId} {t : TypeId} {p : String} {af : Array Edge} {gd : Option (Nat × Bool)} (hf : ∀ us W, Sem.run P (callFunc f us) W = .ok (.enter f us) W) :
    (execOp A.eval { dst := d, op := .call { callee := .value (.func f), args := #[x, y], argTypes := ts }, type := t, pos := p, after := af, guard := gd }).run P W = .ok (.enter f #[A.eval x, A.eval y]) W := by
  have h := hf #[A.eval x, A.eval y] W
  generalize hv : A.eval x = v at h
  generalize hu : A.eval y = u at h
  have e : A.eval (.func f) = .func (.func f) #[] #[] := rfl
  unfold execOp
  simp only [resolve, invoke, Sem.run_bind, Sem.run_pure, Result.andThen_ok, List.map_toArray, List.map_cons, List.map_nil, hv, hu, e, Deferred.ofValue, Array.empty_append, Array.append_empty, List.nil_append, List.append_nil, List.append_toArray, h]
end Go.Proofs.YthnapcdanccohaaDoor

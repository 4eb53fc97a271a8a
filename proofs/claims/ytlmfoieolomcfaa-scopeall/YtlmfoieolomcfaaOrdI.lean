/-
  A region that draws its order: an invariant of whatever has come up. No program.
-/
import Derived.Test.YtlmfoieolomcfaaOrdD
namespace Go.Proofs.Ytlmfoieolomcfaa
section
variable {P : Program} {ops : Array Oper} {Q : Exit → Act → World → Prop} {md : Region.Mode} {S : World → Prop}
/-- An invariant of whatever has come up. -/
theorem wpAnyH_inv {R : Array Bool → Act → World → Prop} (hS : ∀ l a w, R l a w → S w)
    (hstep : ∀ l a w, Closed md ops l → R l a w → (Region.ready md ops l = [] → Q .normal a w) ∧ ∀ i ∈ Region.ready md ops l, wpOp P ops Q i (fun a' w' => R (l.setIfInBounds i true) a' w') a w) :
    ∀ (fuel : Nat) (l : Array Bool) (a : Act) (w : World), Closed md ops l → l.toList.count false ≤ fuel → R l a w → wpAnyH P md ops Q S fuel l a w := by
  intro fuel
  induction fuel with
  | zero =>
    intro l a w hc hn hR
    have hr : Region.ready md ops l = [] := by
      cases hr : Region.ready md ops l with
      | nil => rfl
      | cons j js =>
        exfalso
        have hj : j ∈ Region.ready md ops l := by rw [hr]; exact List.mem_cons_self
        have := count_set (mem_ready.1 hj).1
        omega
    exact ⟨hr, (hstep l a w hc hR).1 hr⟩
  | succ fuel ih =>
    intro l a w hc hn hR
    refine ⟨(hstep l a w hc hR).1, fun i hi => wpOp_mono (fun a' w' h' => ⟨hS _ _ _ h', ih _ a' w' (closed_set hc hi) ?_ h'⟩) ((hstep l a w hc hR).2 i hi)⟩
    have := count_set (mem_ready.1 hi).1
    omega
theorem wpAnyH_act {fuel : Nat} {l : Array Bool} {T : Array Value} {w : World} (h : ∀ T', T' = T → wpAnyH P md ops Q S fuel l ⟨T', []⟩ w) : wpAnyH P md ops Q S fuel l ⟨T, []⟩ w := h T rfl
/-- Whether k waits for i. -/
def waits (md : Region.Mode) (ops : Array Oper) (k i : Nat) : Bool := match ops[k]? with
  | some o => o.after.any fun e => Region.binds md e && e.on == i
  | none => false
theorem ready_waits {l : Array Bool} {k i : Nat} (h : k ∈ Region.ready md ops l) (hw : waits md ops k i = true) : l.getD i false = true := by
  obtain ⟨_, o, ho, hall⟩ := mem_ready.1 h
  rw [waits, ho] at hw
  dsimp only at hw
  rw [Array.any_eq_true] at hw
  obtain ⟨j, hj, he⟩ := hw
  rw [Bool.and_eq_true, beq_iff_eq] at he
  have := hall o.after[j] (Array.getElem_mem hj) he.1
  rw [he.2] at this
  exact this
theorem closed_waits {l : Array Bool} {k i : Nat} (hc : Closed md ops l) (hl : l.getD k false = true) (hw : waits md ops k i = true) : l.getD i false = true := by
  rw [waits] at hw
  split at hw
  · rename_i o ho
    rw [Array.any_eq_true] at hw
    obtain ⟨j, hj, he⟩ := hw
    rw [Bool.and_eq_true, beq_iff_eq] at he
    have := hc k o ho hl o.after[j] (Array.getElem_mem hj) he.1
    rw [he.2] at this
    exact this
  · cases hw
theorem ready_not {l : Array Bool} {i : Nat} (h : i ∈ Region.ready md ops l) : l.getD i false = false := by
  have h0 := (mem_ready.1 h).1
  rcases Nat.lt_or_ge i l.size with h' | h'
  · simp [h'] at h0 ⊢; exact h0
  · simp [Array.getElem?_eq_none h'] at h0
/-- What waits for one that comes up has not come up. -/
theorem ready_behind {l : Array Bool} {k i : Nat} (hc : Closed md ops l) (h : i ∈ Region.ready md ops l) (hw : waits md ops k i = true) : l.getD k false = false := by
  cases hk : l.getD k false with
  | false => rfl
  | true =>
    have h1 := closed_waits hc hk hw
    rw [ready_not h] at h1
    cases h1
theorem ready_lt {l : Array Bool} {i : Nat} (h : i ∈ Region.ready md ops l) : i < ops.size := by
  obtain ⟨_, o, ho, _⟩ := mem_ready.1 h
  exact (Array.getElem?_eq_some_iff.1 ho).1
/-- None may come up: all have. -/
theorem all_listed {l : Array Bool} (hn : l.size = ops.size) (hf : ((List.range ops.size).all fun j => match ops[j]? with | some o => o.after.all fun e => decide (e.on < j) | none => true) = true) (hr : Region.ready md ops l = []) : ∀ k, k < ops.size → l.getD k false = true := by
  intro k
  induction k using Nat.strongRecOn with
  | ind k ih =>
    intro hk
    cases hl : l.getD k false with
    | true => rfl
    | false =>
      exfalso
      have hj : k ∈ Region.ready md ops l := by
        refine mem_ready.2 ⟨?_, ops[k], Array.getElem?_eq_getElem hk, fun e he _ => ?_⟩
        · have h' : k < l.size := by omega
          simp [h'] at hl ⊢
          exact hl
        · have h1 := List.all_eq_true.1 hf k (List.mem_range.2 hk)
          rw [Array.getElem?_eq_getElem hk] at h1
          dsimp only at h1
          have h2 := Array.all_eq_true_iff_forall_mem.1 h1 e he
          have h3 := of_decide_eq_true h2
          exact ih e.on h3 (by omega)
      rw [hr] at hj
      cases hj
def closedB (md : Region.Mode) (ops : Array Oper) (l : Array Bool) : Bool := (List.range ops.size).all fun j => !l.getD j false || match ops[j]? with
  | some o => o.after.all fun e => !Region.binds md e || l.getD e.on false
  | none => true
theorem closed_of {l : Array Bool} (h : closedB md ops l = true) : Closed md ops l := by
  intro j o ho hl e he hb
  have hk := (Array.getElem?_eq_some_iff.1 ho).1
  have h1 := List.all_eq_true.1 h j (List.mem_range.2 hk)
  rw [hl, ho] at h1
  dsimp only at h1
  rw [Bool.not_true, Bool.false_or] at h1
  have h2 := Array.all_eq_true_iff_forall_mem.1 h1 e he
  rw [hb, Bool.not_true, Bool.false_or] at h2
  exact h2
theorem wpAnyD_takeC {D : Nat → Bool} {i : Nat} {oi : Oper} {v : Value} {fuel : Nat} {listed : Array Bool} {a : Act} {w : World} (ds : List Nat) (hds : ∀ j, D j = ds.contains j) (hi : ops[i]? = some oi) (hcl : closedB md ops listed = true)
    (n : Nat) (hlate : (ds.all fun j => behind md ops i n j) = true) (hDi : D i = false)
    (hs : Region.noSelect ops = true) (hf : Region.free md ops listed i = true) (hr : (Region.ready md ops listed).contains i = true)
    (hQ : ∀ c a w, Q (.panic c) (a.put oi.dst v) w → Q (.panic c) a w) (hy : YieldsIf P ops S oi v a) (hS : S w)
    (h : wpAnyD P md ops Q S D fuel (listed.setIfInBounds i true) (a.put oi.dst v) w) : wpAnyD P md ops Q S D (fuel + 1) listed a w :=
  wpAnyD_take ds hds hi (closed_of hcl) n hlate hDi hs hf hr hQ hy hS (fun _ => h)
end
end Go.Proofs.Ytlmfoieolomcfaa

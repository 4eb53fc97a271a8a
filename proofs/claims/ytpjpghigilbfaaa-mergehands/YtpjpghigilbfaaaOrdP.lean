/-
  A region that draws its order and has a narrow place: one operation for which all later ones wait, and which waits for all ahead of it. What holds ahead of it need not hold behind it. No program.
-/
import Derived.Test.YtpjpghigilbfaaaOrdI
namespace Go.Proofs.Ytpjpghigilbfaaa
section
variable {P : Program} {ops : Array Oper} {Q : Exit → Act → World → Prop} {md : Region.Mode} {S S2 : World → Prop}
/-- All behind number m wait for it, if by others. -/
def afterB (md : Region.Mode) (ops : Array Oper) (m : Nat) : Bool :=
  (List.range ops.size).all fun j => decide (j ≤ m) || (match ops[j]? with
    | some o => o.after.any fun e => Region.binds md e && decide (m ≤ e.on) && decide (e.on < j)
    | none => true)
theorem after_edge {m j : Nat} {o : Oper} (h : afterB md ops m = true) (ho : ops[j]? = some o) (hj : m < j) : ∃ e ∈ o.after, Region.binds md e = true ∧ m ≤ e.on ∧ e.on < j := by
  have hlt : j < ops.size := (Array.getElem?_eq_some_iff.1 ho).1
  have h1 := List.all_eq_true.1 h j (List.mem_range.2 hlt)
  rw [ho] at h1
  simp only [Bool.or_eq_true, decide_eq_true_eq] at h1
  rcases h1 with h1 | h1
  · omega
  · rw [Array.any_eq_true] at h1
    obtain ⟨k, hk, he⟩ := h1
    simp only [Bool.and_eq_true, decide_eq_true_eq] at he
    exact ⟨o.after[k], Array.getElem_mem hk, he.1.1, he.1.2, he.2⟩
theorem after_m {l : Array Bool} {m : Nat} (hc : Closed md ops l) (h : afterB md ops m = true) : ∀ j, m ≤ j → j < ops.size → l.getD j false = true → l.getD m false = true := by
  intro j
  induction j using Nat.strongRecOn with
  | ind j ih =>
    intro hm hj hl
    rcases Nat.lt_or_ge m j with h1 | h1
    · obtain ⟨e, he, hb, h2, h3⟩ := after_edge h (Array.getElem?_eq_getElem hj) h1
      exact ih e.on h3 h2 (by omega) (hc j _ (Array.getElem?_eq_getElem hj) hl e he hb)
    · obtain rfl : m = j := by omega
      exact hl
theorem late_ofP {i m n : Nat} (h : afterB md ops m = true) (hb : behind md ops i n m = true) : ∀ l, Closed md ops l → l.getD i true = false → ∀ j ∈ Region.ready md ops l, j ≠ i → decide (m ≤ j) = false := by
  intro l hc hl j hj hji
  rw [decide_eq_false_iff_not]
  intro hm
  obtain ⟨hjl, o, ho, _⟩ := mem_ready.1 hj
  have hjs : j < l.size := by
    rcases Nat.lt_or_ge j l.size with h' | h'
    · exact h'
    · simp [Array.getElem?_eq_none h'] at hjl
  have hcl := closed_set hc hj
  have h1 : (l.setIfInBounds j true).getD j false = true := by simp [hjs]
  have h2 := after_m hcl h j hm (Array.getElem?_eq_some_iff.1 ho).1 h1
  have h3 := behind_listed hcl n m hb h2
  rw [getD_set_ne false hji] at h3
  rcases Nat.lt_or_ge i l.size with h' | h'
  · simp [h'] at hl h3; rw [hl] at h3; cases h3
  · simp [Array.getElem?_eq_none h'] at h3
/-- Ahead of the narrow place m. -/
theorem wpAnyP_take {m i : Nat} {oi : Oper} {v : Value} {fuel : Nat} {listed : Array Bool} {a : Act} {w : World} (n : Nat) (hi : ops[i]? = some oi) (hcl : closedB md ops listed = true)
    (hlate : (afterB md ops m && behind md ops i n m) = true) (hDi : decide (m ≤ i) = false)
    (hs : Region.noSelect ops = true) (hf : Region.free md ops listed i = true) (hr : (Region.ready md ops listed).contains i = true)
    (hQ : ∀ c a w, Q (.panic c) (a.put oi.dst v) w → Q (.panic c) a w) (hy : YieldsIf P ops S oi v a) (hS : S w)
    (h : wpAnyD P md ops Q S (fun j => decide (m ≤ j)) fuel (listed.setIfInBounds i true) (a.put oi.dst v) w) : wpAnyD P md ops Q S (fun j => decide (m ≤ j)) (fuel + 1) listed a w :=
  wpAnyD_first hi (Region.noSelect_spec hs) hQ (late_ofP (Bool.and_eq_true_iff.1 hlate).1 (Bool.and_eq_true_iff.1 hlate).2) hDi fuel listed a w (closed_of hcl) (Region.free_spec hi hf) (by simpa using hr) hy hS h
/-- Behind it. -/
theorem wpAnyD_of_H {D : Nat → Bool} : ∀ (fuel : Nat) (listed : Array Bool) (a : Act) (w : World), (∀ j, listed.getD j true = false → D j = true) → wpAnyH P md ops Q S2 fuel listed a w → wpAnyD P md ops Q S D fuel listed a w
  | 0, _, _, _, _, h => h
  | fuel + 1, listed, _, _, hd, h => ⟨h.1, fun i hi => wpOp_mono (fun a' w' h' => ⟨fun e => (by rw [hd i (mem_ready.1 hi).1] at e; cases e), wpAnyD_of_H fuel _ a' w' (fun j hj => by
      by_cases hij : i = j
      · subst hij; exact hd i (mem_ready.1 hi).1
      · rw [getD_set_ne true hij] at hj; exact hd j hj) h'.2⟩) (h.2 i hi)⟩
def restB (listed : Array Bool) (m : Nat) : Bool := (List.range listed.size).all fun j => listed.getD j true || decide (m ≤ j)
theorem wpAnyP_rest {m fuel : Nat} {listed : Array Bool} {a : Act} {w : World} (hr : restB listed m = true) (h : wpAnyH P md ops Q S2 fuel listed a w) : wpAnyD P md ops Q S (fun j => decide (m ≤ j)) fuel listed a w :=
  wpAnyD_of_H fuel listed a w (fun j hj => by
    have hlt : j < listed.size := by
      rcases Nat.lt_or_ge j listed.size with h' | h'
      · exact h'
      · simp [Array.getElem?_eq_none h'] at hj
    have := List.all_eq_true.1 hr j (List.mem_range.2 hlt)
    rw [hj, Bool.false_or] at this
    exact this) h
end
end Go.Proofs.Ytpjpghigilbfaaa

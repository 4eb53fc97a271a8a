/-
  A region that draws its order and has a narrow place: all ahead of it only read, in the order of the text; then one operation; then all behind it only read. No program.
-/
import Derived.Test.YtpjpghigilbfaaaOrdP
import Derived.BigQuiet
namespace Go.Proofs.Ytpjpghigilbfaaa
open Go.RowKit
section
variable {P : Program} {ops : Array Oper} {md : Region.Mode} {C : World → Prop}
theorem fold_mark {l : Array Bool} (md : Region.Mode) : ∀ (es : List Edge) (mk : Array Bool), (∀ j, mk.getD j false = true → l.getD j false = true) → (∀ e ∈ es, Region.binds md e = true → l.getD e.on false = true) →
    ∀ j, (es.foldl (fun mk e => if Region.binds md e then mk.setIfInBounds e.on true else mk) mk).getD j false = true → l.getD j false = true
  | [], _, h, _ => h
  | e :: es, mk, h, he => fold_mark md es _ (fun j hj => by
      dsimp only at hj
      by_cases hb : Region.binds md e = true
      · rw [if_pos hb] at hj
        by_cases hij : e.on = j
        · subst hij; exact he e (by simp) hb
        · rw [getD_set_ne false hij] at hj; exact h j hj
      · rw [if_neg hb] at hj; exact h j hj) (fun e' he' => he e' (by simp [he']))
/-- All that is waited for by what is marked is marked, from number j down. -/
def sweep (md : Region.Mode) (ops : Array Oper) : Nat → Array Bool → Array Bool
  | 0, mk => mk
  | j + 1, mk => sweep md ops j (if mk.getD j false then (match ops[j]? with | some o => o.after.toList.foldl (fun mk e => if Region.binds md e then mk.setIfInBounds e.on true else mk) mk | none => mk) else mk)
theorem sweep_mark {l : Array Bool} (hc : Closed md ops l) : ∀ (n : Nat) (mk : Array Bool), (∀ j, mk.getD j false = true → l.getD j false = true) → ∀ j, (sweep md ops n mk).getD j false = true → l.getD j false = true
  | 0, _, h => h
  | n + 1, mk, h => sweep_mark hc n _ (by
      split
      · rename_i hm
        split
        · rename_i o ho
          exact fold_mark md _ _ h (fun e he hb => hc n o ho (h n hm) e (by simpa using he) hb)
        · exact h
      · exact h)
/-- Number m waits for all ahead of it, if by others. -/
def waitB (md : Region.Mode) (ops : Array Oper) (m : Nat) : Bool :=
  let mk := sweep md ops (m + 1) ((Array.replicate ops.size false).setIfInBounds m true)
  (List.range m).all fun i => mk.getD i false
theorem wait_of {l : Array Bool} {m i : Nat} (h : waitB md ops m = true) (hc : Closed md ops l) (hl : l.getD m false = true) (hi : i < m) : l.getD i false = true := by
  refine sweep_mark hc (m + 1) _ (fun j hj => ?_) i (List.all_eq_true.1 h i (List.mem_range.2 hi))
  by_cases hij : m = j
  · subst hij; exact hl
  · rw [getD_set_ne false hij, Array.getD_eq_getD_getElem?, Array.getElem?_replicate] at hj
    split at hj <;> cases hj
theorem late_ofN {i m : Nat} (h : afterB md ops m = true) (hb : waitB md ops m = true) (him : i < m) : ∀ l, Closed md ops l → l.getD i true = false → ∀ j ∈ Region.ready md ops l, j ≠ i → decide (m ≤ j) = false := by
  intro l hc hl j hj hji
  rw [decide_eq_false_iff_not]
  intro hm
  obtain ⟨hjl, o, ho, _⟩ := mem_ready.1 hj
  have hjs : j < l.size := by
    rcases Nat.lt_or_ge j l.size with h' | h'
    · exact h'
    · simp [Array.getElem?_eq_none h'] at hjl
  have hcl := closed_set hc hj
  have h1 : (l.setIfInBounds j true).getD j false = true := by simp [hjs]
  have h2 := after_m hcl h j hm (Array.getElem?_eq_some_iff.1 ho).1 h1
  have h3 := wait_of hb hcl h2 him
  rw [getD_set_ne false hji] at h3
  rcases Nat.lt_or_ge i l.size with h' | h'
  · simp [h'] at hl h3; rw [hl] at h3; cases h3
  · simp [Array.getElem?_eq_none h'] at h3
/-- Whatever order is picked among the first m. -/
def wpAnyM (P : Program) (md : Region.Mode) (ops : Array Oper) (C : World → Prop) (R : Act → Prop) (m : Nat) : Nat → Array Bool → Act → Prop
  | 0, listed, a => (∀ j, j < m → listed.getD j false = true) ∧ R a
  | fuel + 1, listed, a => Region.ready md ops listed ≠ [] ∧ ∀ i ∈ Region.ready md ops listed, i < m ∧ qOp P ops C i (wpAnyM P md ops C R m fuel (listed.setIfInBounds i true)) a
theorem false_of {l : Array Bool} {j : Nat} (h : l.getD j true = false) (h' : l.getD j false = true) : False := by
  rcases Nat.lt_or_ge j l.size with hj | hj
  · simp [hj] at h h'; rw [h] at h'; cases h'
  · simp [Array.getElem?_eq_none hj] at h'
theorem wpAnyM_first {R : Act → Prop} {m i : Nat} {oi : Oper} {v : Value} (hi : ops[i]? = some oi) (hsel : ∀ (j : Nat) (o : Oper) cs b, ops[j]? = some o → o.op ≠ .select cs b) (him : i < m)
    (hA : afterB md ops m = true) (hb : waitB md ops m = true) :
    ∀ (fuel : Nat) (listed : Array Bool) (a : Act), Closed md ops listed →
      (∀ j oj, ops[j]? = some oj → j ≠ i → listed.getD j true = false → (∀ e ∈ oj.after, Region.binds md e = true → e.on ≠ i) → oi.apart ops oj = true) →
      i ∈ Region.ready md ops listed → YieldsIn P ops C oi v a →
      wpAnyM P md ops C R m fuel (listed.setIfInBounds i true) (a.put oi.dst v) → wpAnyM P md ops C R m (fuel + 1) listed a := by
  intro fuel
  induction fuel with
  | zero =>
    intro listed a hc _ hr hy H
    refine ⟨fun h => (by rw [h] at hr; cases hr), fun j hj => ?_⟩
    by_cases hji : j = i
    · subst hji; exact ⟨him, hy.qOp hi H⟩
    · exfalso
      have hjm : ¬ m ≤ j := of_decide_eq_false (late_ofN hA hb him listed hc (mem_ready.1 hr).1 j hj hji)
      have := H.1 j (by omega)
      rw [getD_set_ne false (Ne.symm hji)] at this
      exact false_of (mem_ready.1 hj).1 this
  | succ fuel ih =>
    intro listed a hc hfree hr hy H
    refine ⟨fun h => (by rw [h] at hr; cases hr), fun j hj => ?_⟩
    by_cases hji : j = i
    · subst hji; exact ⟨him, hy.qOp hi H⟩
    · have hjm : ¬ m ≤ j := of_decide_eq_false (late_ofN hA hb him listed hc (mem_ready.1 hr).1 j hj hji)
      refine ⟨by omega, ?_⟩
      have h1 := (H.2 j (ready_mono hj hji)).2
      obtain ⟨hjun, oj, hoj, hall⟩ := mem_ready.1 hj
      have hnot : ∀ e ∈ oj.after, Region.binds md e = true → e.on ≠ i := fun e he hb heq => by
        have h1 := hall e he hb
        have h0 := (mem_ready.1 hr).1
        rw [heq] at h1
        exact false_of h0 h1
      have h2 := qOp_put hoj (hfree j oj hoj hji hjun hnot) (fun cs b => hsel i oi cs b hi) (fun cs b => hsel j oj cs b hoj) hy h1
      have hfree' : ∀ k ok, ops[k]? = some ok → k ≠ i → (listed.setIfInBounds j true).getD k true = false →
          (∀ e ∈ ok.after, Region.binds md e = true → e.on ≠ i) → oi.apart ops ok = true := fun k ok hk hki hun hno => by
        refine hfree k ok hk hki ?_ hno
        by_cases hjk : j = k
        · subst hjk; exact hjun
        · rw [getD_set_ne true hjk] at hun; exact hun
      refine qOp_mono (fun a' h3 => ih (listed.setIfInBounds j true) a' (closed_set hc hj) hfree' (ready_mono hr (Ne.symm hji)) h3.1 ?_) h2
      rw [Array.setIfInBounds_comm _ _ hji]
      exact h3.2
/-- The order of the text serves up to m. -/
def lexM (md : Region.Mode) (ops : Array Oper) (m : Nat) : Nat → Nat → Array Bool → Bool
  | 0, _, listed => (List.range m).all fun j => listed.getD j false
  | fuel + 1, k, listed => (Region.ready md ops listed).contains k && Region.free md ops listed k && decide (k < m) && lexM md ops m fuel (k + 1) (listed.setIfInBounds k true)
theorem wpAnyM_lex {R : Act → Prop} {m : Nat} (hs : Region.noSelect ops = true) (hA : afterB md ops m = true) (hb : waitB md ops m = true) : ∀ (l : List Oper) (k : Nat) (listed : Array Bool) (a : Act), Closed md ops listed → (∀ j, j < l.length → l[j]? = ops[k + j]?) →
    lexM md ops m l.length k listed = true → wpQuiet P ops C R l a → wpAnyM P md ops C R m l.length listed a
  | [], _, _, _, _, _, hB, h => ⟨fun j hj => List.all_eq_true.1 hB j (List.mem_range.2 hj), h⟩
  | o :: l, k, listed, a, hc, hl, hB, h => by
    have h0 : ops[k]? = some o := by simpa using (hl 0 (by simp)).symm
    simp only [List.length_cons, lexM, Bool.and_eq_true, decide_eq_true_eq] at hB
    obtain ⟨⟨⟨hr, hf⟩, hk⟩, hB'⟩ := hB
    have hst : qOp P ops C k (wpQuiet P ops C R l) a := by unfold qOp; simp only [h0]; exact h
    obtain ⟨v, hy, hK⟩ := yieldsIn_of_qOp h0 hst
    exact wpAnyM_first h0 (Region.noSelect_spec hs) hk hA hb l.length listed a hc (Region.free_spec h0 hf) (by simpa using hr) hy
      (wpAnyM_lex hs hA hb l (k + 1) _ _ (closed_set hc (by simpa using hr)) (fun j hj => by have := hl (j + 1) (by simpa using hj); simpa [Nat.add_assoc, Nat.add_comm 1 j] using this) hB' hK)
/-- What is listed when all of the first m are, and no other. -/
def upToM (N m : Nat) : Array Bool := Array.ofFn (n := N) fun i => decide (i.1 < m)
theorem upToM_of {l : Array Bool} {N m : Nat} (hn : l.size = N) (h1 : ∀ j, j < m → l.getD j false = true) (h2 : ∀ j, m ≤ j → l.getD j false = false) : l = upToM N m := by
  apply Array.ext
  · simp [upToM, hn]
  · intro i hi _
    have hi' : i < l.size := hi
    simp only [upToM, Array.getElem_ofFn]
    by_cases h : i < m
    · have := h1 i h
      simp [hi'] at this
      rw [this, decide_eq_true h]
    · have := h2 i (by omega)
      simp [hi'] at this
      rw [this, decide_eq_false h]
theorem wpAny_of_M {R : Act → Prop} {Q' : Exit → Act → World → Prop} {m N fuel2 : Nat} (hR : ∀ a w, C w → R a → wpAny P md ops Q' fuel2 (upToM N m) a w) : ∀ (fuel : Nat) (listed : Array Bool) (a : Act) (w : World), C w → listed.size = N → (∀ j, m ≤ j → listed.getD j false = false) →
    wpAnyM P md ops C R m fuel listed a → wpAny P md ops Q' (fuel + fuel2) listed a w
  | 0, listed, a, w, hw, hn, h2, h => by
    rw [Nat.zero_add, upToM_of hn h.1 h2]
    exact hR a w hw h.2
  | fuel + 1, listed, a, w, hw, hn, h2, h => by
    rw [show fuel + 1 + fuel2 = (fuel + fuel2) + 1 by omega]
    refine ⟨fun h0 => absurd h0 h.1, fun i hi => ?_⟩
    obtain ⟨him, hq⟩ := h.2 i hi
    refine wpOp_of_qOp hw (fun a' w' hw' h' => wpAny_of_M hR fuel _ a' w' hw' (by simpa using hn) (fun j hj => ?_) h') hq
    rw [getD_set_ne false (by omega)]
    exact h2 j hj
theorem rep_false (N j : Nat) : (Array.replicate N false).getD j false = false := by
  rw [Array.getD_eq_getD_getElem?, Array.getElem?_replicate]
  split <;> rfl
/-- **A region with one narrow place.** -/
theorem wp_region_narrow {id : Nat} {Q : Exit → Act → World → Prop} {a : Act} {w : World} {l : List Oper} (m : Nat) {o : Oper} (hm : P.follows .mixedOrders = true)
    (ho : l[m]? = some o)
    (hB : (Region.noSelect l.toArray && afterB .any l.toArray m && waitB .any l.toArray m && lexM .any l.toArray m (l.take m).length 0 (Array.replicate l.toArray.size false) && (Region.ready .any l.toArray (upToM l.toArray.size m) == [m]) && Region.lexFrom .any l.toArray (l.drop (m + 1)).length (m + 1) ((upToM l.toArray.size m).setIfInBounds m true)) = true)
    (h : wpQuiet P l.toArray (fun w' => ∃ n, w' = w.drewN n) (fun a1 => ∀ n, ∀ K : Act → World → Prop, Hid (∀ a2 w2, wpQuiet P l.toArray (fun w' => ∃ n, w' = w2.drewN n) (fun a' => ∀ w', (∃ n, w' = w2.drewN n) → Q .normal a' w') (l.drop (m + 1)) a2 → K a2 w2) → if Region.wanted o (yielded l.toArray a1.tmps) = true then Oper.wp P o a1 (w.drewN n) K Q else K (a1.put o.dst undef) (w.drewN n)) (l.take m) a) : (Code.region id l.toArray true).wp P Q a w := by
  simp only [Bool.and_eq_true, beq_iff_eq] at hB
  obtain ⟨⟨⟨⟨⟨hs, hA⟩, hb⟩, hL⟩, hr⟩, hF⟩ := hB
  have hml : m < l.length := (List.getElem?_eq_some_iff.1 ho).1
  have hM := wpAnyM_lex (C := fun w' => ∃ n, w' = w.drewN n) hs hA hb (l.take m) 0 (Array.replicate l.toArray.size false) a (closed_none _) (fun j hj => by
    simp at hj
    rw [List.getElem?_take, if_pos (by omega), Nat.zero_add, List.getElem?_toArray]) hL h
  have hlen : l.toArray.size = (l.take m).length + ((l.drop (m + 1)).length + 1) := by simp; omega
  refine wp_region_any hm ?_
  rw [hlen]
  refine wpAny_of_M (C := fun w' => ∃ n, w' = w.drewN n) (m := m) (N := l.toArray.size) ?_ _ _ a _ ⟨1, rfl⟩ (by simp; omega) (fun j hj => ?_) (by rw [← hlen]; exact hM)
  · intro a1 w1 hw1 hR
    obtain ⟨k, rfl⟩ := hw1
    refine ⟨fun h0 => (by rw [hr] at h0; cases h0), fun i hi => ?_⟩
    rw [hr] at hi
    obtain rfl : i = m := by simpa using hi
    refine wpOp_step (by simpa using ho) (fun K hK => hR k K ?_)
    intro a2 w2 hq
    refine hK a2 w2 ?_
    have := wpAnyQ_lex (md := .any) hs (l.drop (i + 1)) (i + 1) _ a2 (fun j => by rw [List.getElem?_drop, List.getElem?_toArray]) hF hq
    exact wpAny_of_quiet (C := fun w' => ∃ n, w' = w2.drewN n) (fun _ w' hw' h => h w' hw') _ _ _ w2 ⟨0, rfl⟩ this
  · exact rep_false _ j
end
end Go.Proofs.Ytpjpghigilbfaaa

/-
  A region that draws its order: a load may be taken first where only late operations write its cell (those that wait for it, if by others); and an invariant of whatever has come up. No program.
-/
import Derived.OrdersHeld
import Derived.WalkKit
namespace Go.Proofs.Ytlmfoieolomcfaa
section
variable {P : Program} {ops : Array Oper} {Q : Exit → Act → World → Prop} {md : Region.Mode} {S : World → Prop} {D : Nat → Bool}
/-- Whatever has come up has come up behind all that it waits for. -/
def Closed (md : Region.Mode) (ops : Array Oper) (listed : Array Bool) : Prop :=
  ∀ j o, ops[j]? = some o → listed.getD j false = true → ∀ e ∈ o.after, Region.binds md e = true → listed.getD e.on false = true
theorem closed_set {listed : Array Bool} {i : Nat} (hc : Closed md ops listed) (hi : i ∈ Region.ready md ops listed) : Closed md ops (listed.setIfInBounds i true) := by
  obtain ⟨_, o, ho, hall⟩ := mem_ready.1 hi
  intro j oj hj hl e he hb
  by_cases hij : i = j
  · subst hij
    rw [ho] at hj
    cases hj
    exact getD_set_true (hall e he hb)
  · rw [getD_set_ne false hij] at hl
    exact getD_set_true (hc j oj hj hl e he hb)
theorem closed_none (n : Nat) : Closed md ops (Array.replicate n false) := by
  intro j o _ hl
  exfalso
  simp only [Array.getD_eq_getD_getElem?] at hl
  rcases Nat.lt_or_ge j n with h | h
  · simp [h] at hl
  · rw [Array.getElem?_eq_none (by simpa using h)] at hl
    cases hl
/-- Whatever order is picked from here on, and S holds behind every operation that is carried out and is no late one. -/
def wpAnyD (P : Program) (md : Region.Mode) (ops : Array Oper) (Q : Exit → Act → World → Prop) (S : World → Prop) (D : Nat → Bool) : Nat → Array Bool → Act → World → Prop
  | 0, listed, a, w => Region.ready md ops listed = [] ∧ Q .normal a w
  | fuel + 1, listed, a, w =>
    (Region.ready md ops listed = [] → Q .normal a w) ∧
    ∀ i ∈ Region.ready md ops listed, wpOp P ops Q i (fun a' w' => (D i = false → S w') ∧ wpAnyD P md ops Q S D fuel (listed.setIfInBounds i true) a' w') a w
theorem wpAny_of_D : ∀ (fuel : Nat) (listed : Array Bool) (a : Act) (w : World), wpAnyD P md ops Q S D fuel listed a w → wpAny P md ops Q fuel listed a w
  | 0, _, _, _, h => h
  | fuel + 1, _, _, _, h => ⟨h.1, fun i hi => wpOp_mono (fun a' w' h' => wpAny_of_D fuel _ a' w' h'.2) (h.2 i hi)⟩
theorem wpAnyD_first {i : Nat} {oi : Oper} {v : Value} (hi : ops[i]? = some oi) (hsel : ∀ (j : Nat) (o : Oper) cs b, ops[j]? = some o → o.op ≠ .select cs b)
    (hQ : ∀ c a w, Q (.panic c) (a.put oi.dst v) w → Q (.panic c) a w)
    (hD : ∀ l, Closed md ops l → l.getD i true = false → ∀ j ∈ Region.ready md ops l, j ≠ i → D j = false) (hDi : D i = false) :
    ∀ (fuel : Nat) (listed : Array Bool) (a : Act) (w : World), Closed md ops listed →
      (∀ j oj, ops[j]? = some oj → j ≠ i → listed.getD j true = false → (∀ e ∈ oj.after, Region.binds md e = true → e.on ≠ i) → oi.apart ops oj = true) →
      i ∈ Region.ready md ops listed → YieldsIf P ops S oi v a → S w →
      wpAnyD P md ops Q S D fuel (listed.setIfInBounds i true) (a.put oi.dst v) w → wpAnyD P md ops Q S D (fuel + 1) listed a w := by
  intro fuel
  induction fuel with
  | zero =>
    intro listed a w _ _ hr hy hS H
    refine ⟨fun h => (by rw [h] at hr; cases hr), fun j hj => ?_⟩
    by_cases hji : j = i
    · subst hji; exact hy.wpOp hi hS ⟨fun _ => hS, H⟩
    · have := ready_mono hj hji
      rw [H.1] at this
      cases this
  | succ fuel ih =>
    intro listed a w hcl hfree hr hy hS H
    refine ⟨fun h => (by rw [h] at hr; cases hr), fun j hj => ?_⟩
    by_cases hji : j = i
    · subst hji; exact hy.wpOp hi hS ⟨fun _ => hS, H⟩
    · have hDj := hD listed hcl (mem_ready.1 hr).1 j hj hji
      have h1 := H.2 j (ready_mono hj hji)
      obtain ⟨hjun, oj, hoj, hall⟩ := mem_ready.1 hj
      have hnot : ∀ e ∈ oj.after, Region.binds md e = true → e.on ≠ i := fun e he hb heq => by
        have h1 := hall e he hb
        have h0 := (mem_ready.1 hr).1
        rw [heq] at h1
        rcases Nat.lt_or_ge i listed.size with h' | h'
        · simp [h'] at h0 h1; rw [h0] at h1; cases h1
        · simp [Array.getElem?_eq_none h'] at h1
      have h2 := wpOp_putIf hoj (hfree j oj hoj hji hjun hnot) (fun cs b => hsel i oi cs b hi) (fun cs b => hsel j oj cs b hoj) hQ hy h1
      have hfree' : ∀ k ok, ops[k]? = some ok → k ≠ i → (listed.setIfInBounds j true).getD k true = false →
          (∀ e ∈ ok.after, Region.binds md e = true → e.on ≠ i) → oi.apart ops ok = true := fun k ok hk hki hun hno => by
        refine hfree k ok hk hki ?_ hno
        by_cases hjk : j = k
        · subst hjk; exact hjun
        · rw [getD_set_ne true hjk] at hun; exact hun
      refine wpOp_mono (fun a' w' h3 => ⟨fun _ => h3.2.1 hDj, ih (listed.setIfInBounds j true) a' w' (closed_set hcl hj) hfree' (ready_mono hr (Ne.symm hji)) h3.1 (h3.2.1 hDj) ?_⟩) h2
      rw [Array.setIfInBounds_comm _ _ hji]
      exact h3.2.2
/-- All that waits for number i, if by others, as far as n steps go. -/
def behind (md : Region.Mode) (ops : Array Oper) (i : Nat) : Nat → Nat → Bool
  | 0, _ => false
  | n + 1, j => match ops[j]? with
    | some o => o.after.any fun e => Region.binds md e && (e.on == i || behind md ops i n e.on)
    | none => false
theorem behind_listed {l : Array Bool} (hc : Closed md ops l) {i : Nat} : ∀ (n j : Nat), behind md ops i n j = true → l.getD j false = true → l.getD i false = true := by
  intro n
  induction n with
  | zero => intro j h; cases h
  | succ n ih =>
    intro j h hl
    rw [behind] at h
    split at h
    · rename_i o ho
      rw [Array.any_eq_true] at h
      obtain ⟨k, hk, he⟩ := h
      rw [Bool.and_eq_true, Bool.or_eq_true] at he
      have hm := hc j o ho hl o.after[k] (Array.getElem_mem hk) he.1
      rcases he.2 with he | he
      · rw [beq_iff_eq] at he
        rw [he] at hm
        exact hm
      · exact ih _ he hm
    · cases h
/-- No late operation may come up before number i: all of them wait for it. -/
theorem late_of {i n : Nat} (h : ∀ j, D j = true → behind md ops i n j = true) : ∀ l, Closed md ops l → l.getD i true = false → ∀ j ∈ Region.ready md ops l, j ≠ i → D j = false := by
  intro l hc hl j hj _
  cases hd : D j with
  | false => rfl
  | true =>
    exfalso
    have hb := h j hd
    obtain ⟨_, o, ho, hall⟩ := mem_ready.1 hj
    have hcl := closed_set hc hj
    cases n with
    | zero => cases hb
    | succ n =>
      rw [behind, ho] at hb
      dsimp only at hb
      rw [Array.any_eq_true] at hb
      obtain ⟨k, hk, he⟩ := hb
      rw [Bool.and_eq_true, Bool.or_eq_true] at he
      have hm := hall o.after[k] (Array.getElem_mem hk) he.1
      have hli : l.getD i false = true := by
        rcases he.2 with he | he
        · rw [beq_iff_eq] at he
          rw [he] at hm
          exact hm
        · exact behind_listed hc _ _ he hm
      rcases Nat.lt_or_ge i l.size with h' | h'
      · simp [h'] at hl hli; rw [hl] at hli; cases hli
      · simp [Array.getElem?_eq_none h'] at hli
theorem wpAnyD_take {i : Nat} {oi : Oper} {v : Value} {fuel : Nat} {listed : Array Bool} {a : Act} {w : World} (ds : List Nat) (hds : ∀ j, D j = ds.contains j) (hi : ops[i]? = some oi) (hcl : Closed md ops listed)
    (n : Nat) (hlate : (ds.all fun j => behind md ops i n j) = true) (hDi : D i = false)
    (hs : Region.noSelect ops = true) (hf : Region.free md ops listed i = true) (hr : (Region.ready md ops listed).contains i = true)
    (hQ : ∀ c a w, Q (.panic c) (a.put oi.dst v) w → Q (.panic c) a w) (hy : YieldsIf P ops S oi v a) (hS : S w)
    (h : Closed md ops (listed.setIfInBounds i true) → wpAnyD P md ops Q S D fuel (listed.setIfInBounds i true) (a.put oi.dst v) w) : wpAnyD P md ops Q S D (fuel + 1) listed a w :=
  wpAnyD_first hi (Region.noSelect_spec hs) hQ (late_of (fun j hj => List.all_eq_true.1 hlate j (by rw [hds] at hj; simpa using hj))) hDi fuel listed a w hcl (Region.free_spec hi hf) (by simpa using hr) hy hS (h (closed_set hcl (by simpa using hr)))
theorem wpAnyD_all {rs : List Nat} {fuel : Nat} {listed : Array Bool} {a : Act} {w : World} (hr : Region.ready md ops listed = rs) (hne : rs ≠ [])
    (h : ∀ i ∈ rs, wpOp P ops Q i (fun a' w' => (D i = false → S w') ∧ wpAnyD P md ops Q S D fuel (listed.setIfInBounds i true) a' w') a w) : wpAnyD P md ops Q S D (fuel + 1) listed a w :=
  ⟨fun h0 => absurd (hr ▸ h0) hne, hr ▸ h⟩
/-- One alone may come up. -/
theorem wpAnyD_one {i : Nat} {o : Oper} {fuel : Nat} {listed : Array Bool} {a : Act} {w : World} (ho : ops[i]? = some o) (hr : Region.ready md ops listed = [i])
    (h : ∀ K' : Act → World → Prop, (∀ a w, (D i = false → S w) → wpAnyD P md ops Q S D fuel (listed.setIfInBounds i true) a w → K' a w) → if Region.wanted o (yielded ops a.tmps) = true then Oper.wp P o a w K' Q else K' (a.put o.dst undef) w) :
    wpAnyD P md ops Q S D (fuel + 1) listed a w :=
  wpAnyD_all hr (by simp) fun j hj => by
    obtain rfl : j = i := by simpa using hj
    exact wpOp_step ho (fun K' hK => h K' (fun a w hS hW => hK a w ⟨hS, hW⟩))
theorem wpAnyD_done {listed : Array Bool} {a : Act} {w : World} (hr : Region.ready md ops listed = []) (h : Q .normal a w) :
    ∀ fuel, wpAnyD P md ops Q S D fuel listed a w
  | 0 => ⟨hr, h⟩
  | _ + 1 => ⟨fun _ => h, by rw [hr]; simp⟩
/-- The beginning. -/
theorem wp_region_D {id : Nat} {a : Act} {w : World} (S : World → Prop) (D : Nat → Bool) (hm : P.follows .mixedOrders = true)
    (h : wpAnyD P .any ops Q S D ops.size (Array.replicate ops.size false) a w.drew) : (Code.region id ops true).wp P Q a w :=
  wp_region_any hm (wpAny_of_D _ _ _ _ h)
theorem count_set {l : Array Bool} {i : Nat} (h : l.getD i true = false) : (l.setIfInBounds i true).toList.count false + 1 = l.toList.count false := by
  have hi : i < l.size := by
    rcases Nat.lt_or_ge i l.size with h' | h'
    · exact h'
    · simp [Array.getElem?_eq_none h'] at h
  have hv : l.toList[i]'(by simpa using hi) = false := by simpa [hi] using h
  have hm : false ∈ l.toList := by
    have := List.getElem_mem (l := l.toList) (n := i) (by simpa using hi)
    rw [hv] at this
    exact this
  have hp := List.count_pos_iff.2 hm
  rw [Array.toList_setIfInBounds, List.count_set (by simpa using hi), hv, if_pos (by decide), if_neg (by decide)]
  omega
/-- An invariant of whatever has come up. -/
theorem wpAnyD_inv {R : Array Bool → Act → World → Prop} (hS : ∀ l a w, R l a w → S w)
    (hstep : ∀ l a w, Closed md ops l → R l a w → (Region.ready md ops l = [] → Q .normal a w) ∧ ∀ i ∈ Region.ready md ops l, wpOp P ops Q i (fun a' w' => R (l.setIfInBounds i true) a' w') a w) :
    ∀ (fuel : Nat) (l : Array Bool) (a : Act) (w : World), Closed md ops l → l.toList.count false ≤ fuel → R l a w → wpAnyD P md ops Q S D fuel l a w := by
  intro fuel
  induction fuel with
  | zero =>
    intro l a w hc hn hR
    have hr : Region.ready md ops l = [] := by
      cases hr : Region.ready md ops l with
      | nil => rfl
      | cons j js =>
        exfalso
        have hj : j ∈ Region.ready md ops l := by rw [hr]; exact List.mem_cons_self
        have := count_set (mem_ready.1 hj).1
        omega
    exact ⟨hr, (hstep l a w hc hR).1 hr⟩
  | succ fuel ih =>
    intro l a w hc hn hR
    refine ⟨(hstep l a w hc hR).1, fun i hi => wpOp_mono (fun a' w' h' => ⟨fun _ => hS _ _ _ h', ih _ a' w' (closed_set hc hi) ?_ h'⟩) ((hstep l a w hc hR).2 i hi)⟩
    have := count_set (mem_ready.1 hi).1
    omega
end
end Go.Proofs.Ytlmfoieolomcfaa

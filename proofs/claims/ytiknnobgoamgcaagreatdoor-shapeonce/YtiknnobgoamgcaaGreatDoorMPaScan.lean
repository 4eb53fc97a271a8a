/-
  The words of a text: how many, how long, the last one is the end (no program).
-/
import Derived.Test.YtiknnobgoamgcaaGreatDoorB22
import Derived.Test.YtiknnobgoamgcaaGreatDoorMPaSize
namespace Go.Proofs.YtiknnobgoamgcaaGreatDoor
set_option linter.unusedVariables false
set_option linter.unusedSimpArgs false
def TkG (s : ByteArray) (t : Tk) : Prop := 1 ≤ t.k ∧ t.k ≤ 6 ∧ t.s.size ≤ s.size + 1 ∧ 0 ≤ t.p
def LG (s : ByteArray) (x : Sc) : Prop := ∀ t ∈ x.l, TkG s t
theorem LG.semi {s : ByteArray} {x : Sc} (h : LG s x) : LG s x.semi := by
  unfold Sc.semi
  split
  · exact h
  · split
    · intro t ht
      rcases List.mem_append.1 ht with h1 | h1
      · exact h t h1
      · simp at h1
        subst h1
        exact ⟨(by show (1 : Int) ≤ 6; decide), (by show (6 : Int) ≤ 6; decide), by show (1 : Nat) ≤ _; omega, Int.natCast_nonneg _⟩
    · exact h
theorem LG.add {s : ByteArray} {x : Sc} (h : LG s x) (k : Int) (t : Nat) (h1 : 1 ≤ k) (h2 : k ≤ 6) : LG s (x.add s k t) := by
  intro u hu
  rcases List.mem_append.1 hu with h3 | h3
  · exact h u h3
  · simp at h3
    subst h3
    exact ⟨h1, h2, by show (s.extract x.p t).size ≤ _; rw [ByteArray.size_extract]; omega, Int.natCast_nonneg _⟩
theorem LG.one {s : ByteArray} {x : Sc} (h : LG s x) : LG s (x.one s).2 := by
  unfold Sc.one
  split
  · exact h
  split
  · exact h.semi
  split
  · exact h.add 6 _ (by decide) (by decide)
  split
  · show LG s (x.comment s)
    unfold Sc.comment
    split
    · exact h.semi
    · exact h
  split
  · show LG s (if _ then _ else _)
    split
    · exact h.add 3 _ (by decide) (by decide)
    · exact h
  split
  · show LG s (if _ then _ else _)
    split
    · exact h.add 2 _ (by decide) (by decide)
    · exact h
  split
  · show LG s (if _ then _ else _)
    split
    · split
      · exact h.add 5 _ (by decide) (by decide)
      · exact h.add 1 _ (by decide) (by decide)
    · exact h
  · show LG s (if _ then _ else _)
    split
    · exact h.add 4 _ (by decide) (by decide)
    · exact h
theorem LG.scan {s : ByteArray} : ∀ (f : Nat) (x : Sc), LG s x → ScOk s x → (scanL s f x).1 = true → LG s (scanL s f x).2 ∧ ScOk s (scanL s f x).2
  | 0, x, h, hx, _ => ⟨h, hx⟩
  | f + 1, x, h, hx, ht => by
    by_cases hp : x.p < s.size
    · cases ho : (x.one s).1 with
      | true =>
        obtain ⟨h1, h2⟩ := hx.one hp ho
        rw [scanL_step hp ho] at ht ⊢
        exact LG.scan f _ h.one h1 ht
      | false =>
        rw [scanL_stop hp ho] at ht
        cases ht
    · rw [scanL_end (by omega)]
      exact ⟨h, hx⟩
/-- The words of a text that is cut into words: the end behind words that are none. -/
theorem scan_words (s : ByteArray) (h : ¬ 0 ≤ (scanA s).2.2) : ∃ (l : List Tk) (e : Tk), (scanA s).1 = l ++ [e] ∧ e.k = 7 ∧ e.s.size = 0 ∧ 0 ≤ e.p ∧ (∀ t ∈ l, TkG s t) ∧ l.length ≤ s.size + 1 := by
  unfold scanA scanR at h ⊢
  cases hb : (scanL s s.size sc0).1 with
  | false =>
    rw [hb] at h
    exfalso
    apply h
    simp only [Bool.false_eq_true, if_false]
    split
    · omega
    · omega
  | true =>
    rw [hb] at h
    simp only [if_true] at h ⊢
    obtain ⟨h1, h2⟩ := LG.scan s.size sc0 (fun t ht => by cases ht) (sc0_ok s) hb
    by_cases hf : 0 ≤ bigF s (flt s)
    · rw [if_pos hf] at h
      exact absurd hf h
    · rw [if_neg hf]
      refine ⟨_, _, rfl, rfl, rfl, Int.natCast_nonneg _, h1.semi, ?_⟩
      have := (semi_rest (scanL s s.size sc0).2).2.2.2
      have := h2.l
      have := h2.p
      omega
/-- The word behind one that isn't the end is one. -/
def Lend (L : List Tk) : Prop := 0 < L.length ∧ ∀ i, i < L.length → (tkA L i).k ≠ 7 → i + 1 < L.length
theorem scan_lend (s : ByteArray) (h : ¬ 0 ≤ (scanA s).2.2) : Lend (scanA s).1 := by
  obtain ⟨l, e, h1, h2, _⟩ := scan_words s h
  rw [h1]
  refine ⟨by simp, fun i hi hk => ?_⟩
  by_cases hl : i = l.length
  · subst hl
    exfalso
    apply hk
    simp [tkA, List.getD, h2]
  · simp at hi ⊢; omega
theorem scan_txt (s : ByteArray) (h : ¬ 0 ≤ (scanA s).2.2) : (∀ t ∈ (scanA s).1, t.s.size ≤ s.size + 1 ∧ 0 ≤ t.p) ∧ (scanA s).1.length ≤ s.size + 2 := by
  obtain ⟨l, e, h1, h2, h3, hp, h4, h5⟩ := scan_words s h
  rw [h1]
  refine ⟨fun t ht => ?_, by simp; omega⟩
  rcases List.mem_append.1 ht with h6 | h6
  · exact (h4 t h6).2.2
  · simp at h6; subst h6; exact ⟨by omega, hp⟩
/-! Where a piece ends, or stops, there is a word. -/
section
variable {L : List Tk} (hL : Lend L)
include hL
theorem knd_nx {i : Nat} {k : Int} (h : knd L i k = true) (h0 : k ≠ 0) (h7 : k ≠ 7) : i + 1 < L.length := hL.2 i (knd_in h0 h) (by
  unfold knd at h
  rw [of_decide_eq_true h]
  exact h7)
theorem opA_nx {i : Nat} {x : List UInt8} (h : opA L i x = true) : i + 1 < L.length := by
  unfold opA at h
  simp only [Bool.and_eq_true] at h
  exact knd_nx hL (k := 4) h.1 (by decide) (by decide)
theorem keyA_nx {i : Nat} {x : List UInt8} (h : keyA L i x = true) : i + 1 < L.length := by
  unfold keyA at h
  simp only [Bool.and_eq_true] at h
  exact knd_nx hL (k := 5) h.1 (by decide) (by decide)
theorem unA_nx {i : Nat} (h : unA L i = true) : i + 1 < L.length := by
  unfold unA at h
  simp only [Bool.and_eq_true] at h
  exact knd_nx hL (k := 4) h.1 (by decide) (by decide)
theorem rkA_nx {i : Nat} {low : Int} (h0 : 0 ≤ low) (h : ¬ rkA L i ≤ low) : i + 1 < L.length := by
  unfold rkA at h
  split at h
  · rename_i hk
    exact knd_nx hL hk (by decide) (by decide)
  · omega
theorem skF_in : ∀ (f i : Nat), i < L.length → skF L f i < L.length
  | 0, i, h => h
  | f + 1, i, h => by
    unfold skF
    split
    · rename_i hk
      exact skF_in f (i + 1) (knd_nx hL hk (by decide) (by decide))
    · exact h
theorem skN_in {i : Nat} (h : i < L.length) : skN L i < L.length := skF_in hL _ i h
end
def In {α : Type} (L : List Tk) (p : PR α) : Prop := (∀ v j, p = .ok v j → j < L.length) ∧ ∀ j, p = .bad j → j < L.length
section
variable {α β : Type} {L : List Tk}
theorem in_ok {v : α} {j : Nat} (h : j < L.length) : In L (.ok v j : PR α) := ⟨fun _ _ e => (by obtain ⟨_, rfl⟩ := ok_inj e; exact h), fun _ e => (by cases e)⟩
theorem in_bad {j : Nat} (h : j < L.length) : In L (.bad j : PR α) := ⟨fun _ _ e => (by cases e), fun _ e => (by injection e with e; omega)⟩
theorem in_out : In L (.out : PR α) := ⟨fun _ _ e => (by cases e), fun _ e => (by cases e)⟩
theorem In.bind {p : PR α} {g : α → Nat → PR β} (h : In L p) (hg : ∀ v j, p = .ok v j → j < L.length → In L (g v j)) : In L (p.bind g) := by
  cases p with
  | out => exact in_out
  | bad k => exact in_bad (h.2 k rfl)
  | ok v j => exact hg v j rfl (h.1 v j rfl)
theorem in_want {b : Bool} {i : Nat} {p : PR α} (hi : i < L.length) (h : b = true → In L p) : In L (wantA b i p) := by
  cases b with
  | false => exact in_bad hi
  | true => exact h rfl
end
section
variable {L : List Tk} (hL : Lend L)
include hL
theorem leaf_in (k t : Int) (h0 : t ≠ 0) (h7 : t ≠ 7) {i : Nat} (hi : i < L.length) : In L (leafA L k t i) := by
  unfold leafA
  split
  · rename_i hk
    exact in_ok (knd_nx hL hk h0 h7)
  · exact in_bad hi
theorem typ_in {i : Nat} (hi : i < L.length) : In L (typA L i) := by
  unfold typA
  refine (leaf_in hL _ _ (by decide) (by decide) hi).bind fun n j _ hj => ?_
  split
  · rename_i ho
    exact (leaf_in hL _ _ (by decide) (by decide) (opA_nx hL ho)).bind fun m l _ hl => in_ok hl
  · exact in_ok hj
theorem typed_in (k : Int) {i : Nat} (hi : i < L.length) : In L (typedA L k i) := by
  unfold typedA
  exact (leaf_in hL _ _ (by decide) (by decide) hi).bind fun n j _ hj => (typ_in hL hj).bind fun m l _ hl => in_ok hl
theorem exp_in : ∀ f : Nat, (∀ low i d, 0 ≤ low → i < L.length → In L (absA L f low i d)) ∧ (∀ low l i d, 0 ≤ low → i < L.length → In L (labA L f low l i d)) ∧ (∀ i d, i < L.length → In L (unrA L f i d)) ∧ (∀ i d, i < L.length → In L (prmA L f i d)) ∧ (∀ x i d, i < L.length → In L (lprA L f x i d)) ∧
    (∀ x i d, i < L.length → In L (calA L f x i d)) ∧ (∀ i d, i < L.length → In L (lstA L f i d)) ∧ (∀ l i d, i < L.length → In L (llsA L f l i d)) ∧ (∀ i d, i < L.length → In L (opdA L f i d)) ∧ (∀ i d, i < L.length → In L (parA L f i d))
  | 0 => by
    refine ⟨?_, ?_, ?_, ?_, ?_, ?_, ?_, ?_, ?_, ?_⟩ <;> intros <;> first | (unfold absA; exact in_out) | (unfold labA; exact in_out) | (unfold unrA; exact in_out) | (unfold prmA; exact in_out) | (unfold lprA; exact in_out) | (unfold calA; exact in_out) | (unfold lstA; exact in_out) | (unfold llsA; exact in_out) | (unfold opdA; exact in_out) | (unfold parA; exact in_out)
  | f + 1 => by
    obtain ⟨ha, hl, hu, hp, hlp, hc, hls, hll, ho, hpa⟩ := exp_in f
    refine ⟨?_, ?_, ?_, ?_, ?_, ?_, ?_, ?_, ?_, ?_⟩
    · intro low i d h0 hi
      unfold absA
      exact (hu _ _ hi).bind fun v j _ hj => hl _ _ _ _ h0 hj
    · intro low l i d h0 hi
      unfold labA
      split
      · exact in_ok hi
      · rename_i hr
        exact (ha _ _ _ (by omega) (rkA_nx hL h0 hr)).bind fun v j _ hj => hl _ _ _ _ h0 hj
    · intro i d hi
      unfold unrA
      split
      · rename_i hun
        split
        · exact in_bad hi
        · exact (hu _ _ (unA_nx hL hun)).bind fun v j _ hj => in_ok hj
      · exact hp _ _ hi
    · intro i d hi
      unfold prmA
      exact (ho _ _ hi).bind fun v j _ hj => hlp _ _ _ hj
    · intro x i d hi
      unfold lprA
      split
      · exact (hc _ _ _ hi).bind fun v j _ hj => hlp _ _ _ hj
      · split
        · rename_i hop
          exact (leaf_in hL _ _ (by decide) (by decide) (opA_nx hL hop)).bind fun v j _ hj => hlp _ _ _ hj
        · exact in_ok hi
    · intro x i d hi
      unfold calA
      split
      · exact in_bad hi
      · exact in_want hi fun hb => (hls _ _ (opA_nx hL hb)).bind fun v j _ hj => in_ok hj
    · intro i d hi
      unfold lstA
      split
      · rename_i hop
        exact in_ok (opA_nx hL hop)
      · exact (ha _ _ _ (by omega) hi).bind fun v j _ hj => hll _ _ _ hj
    · intro l i d hi
      unfold llsA
      split
      · rename_i hop
        exact (ha _ _ _ (by omega) (opA_nx hL hop)).bind fun v j _ hj => hll _ _ _ hj
      · exact in_want hi fun hb => in_ok (opA_nx hL hb)
    · intro i d hi
      unfold opdA
      split
      · rename_i hk
        exact in_ok (knd_nx hL hk (by decide) (by decide))
      · split
        · rename_i hk
          exact in_ok (knd_nx hL hk (by decide) (by decide))
        · split
          · rename_i hk
            exact in_ok (knd_nx hL hk (by decide) (by decide))
          · exact hpa _ _ hi
    · intro i d hi
      unfold parA
      split
      · exact in_bad hi
      · exact in_want hi fun hb => (ha _ _ _ (by omega) (opA_nx hL hb)).bind fun v j _ hj => in_want hj fun hb2 => in_ok (opA_nx hL hb2)
theorem abs_in (f : Nat) {i : Nat} (d : Nat) (hi : i < L.length) : In L (absA L f 0 i d) := (exp_in hL f).1 0 i d (by omega) hi
theorem var_in (f d : Nat) {i : Nat} (hi : i < L.length) : In L (varA L f i d) := by
  unfold varA
  refine (typed_in hL _ hi).bind fun n j _ hj => ?_
  split
  · rename_i ho
    exact (abs_in hL f d (opA_nx hL ho)).bind fun x l _ hl => in_ok hl
  · exact in_ok hj
theorem con_in (f d : Nat) {i : Nat} (hi : i < L.length) : In L (conA L f i d) := by
  unfold conA
  exact (leaf_in hL _ _ (by decide) (by decide) hi).bind fun n j _ hj => in_want hj fun hb => (abs_in hL f d (opA_nx hL hb)).bind fun x l _ hl => in_ok hl
theorem ret_in (f d : Nat) {i : Nat} (hi : i + 1 < L.length) : In L (retA L f i d) := by
  unfold retA
  split
  · exact in_ok hi
  · exact (abs_in hL f d hi).bind fun x l _ hl => in_ok hl
theorem jmp_in (k : Int) {i : Nat} (hi : i + 1 < L.length) : In L (jmpA L k i) := by
  unfold jmpA
  split
  · rename_i hk
    exact in_ok (knd_nx hL hk (by decide) (by decide))
  · exact in_ok hi
theorem stm_in : ∀ f : Nat, (∀ i d, i < L.length → In L (blkA L f i d)) ∧ (∀ l i d, i < L.length → In L (brsA L f l i d)) ∧ (∀ i d, i < L.length → In L (stmA L f i d)) ∧ (∀ i d, i < L.length → In L (choA L f i d)) ∧ (∀ i d, i < L.length → In L (othA L f i d)) ∧ (∀ k x i d, i < L.length → In L (guaA L f k x i d)) ∧ (∀ i d, i < L.length → In L (simA L f i d))
  | 0 => by
    refine ⟨?_, ?_, ?_, ?_, ?_, ?_, ?_⟩ <;> intros <;> first | (unfold blkA; exact in_out) | (unfold brsA; exact in_out) | (unfold stmA; exact in_out) | (unfold choA; exact in_out) | (unfold othA; exact in_out) | (unfold guaA; exact in_out) | (unfold simA; exact in_out)
  | f + 1 => by
    obtain ⟨hb, hr, hs, hc, ho, hg, hm⟩ := stm_in f
    refine ⟨?_, ?_, ?_, ?_, ?_, ?_, ?_⟩
    · intro i d hi
      unfold blkA
      split
      · exact in_bad hi
      · exact in_want hi fun h => (hr _ _ _ (skN_in hL (opA_nx hL h))).bind fun v j _ hj => in_ok hj
    · intro l i d hi
      unfold brsA
      split
      · rename_i hop
        exact in_ok (opA_nx hL hop)
      · refine (hs _ _ hi).bind fun x j _ hj => ?_
        split
        · exact hr _ _ _ (skN_in hL hj)
        · exact in_want hj fun h => hr _ _ _ (skN_in hL (knd_nx hL h (by decide) (by decide)))
    · intro i d hi
      unfold stmA
      split
      · rename_i h
        exact var_in hL _ _ (keyA_nx hL h)
      · split
        · rename_i h
          exact con_in hL _ _ (keyA_nx hL h)
        · split
          · exact hb _ _ hi
          · split
            · exact hc _ _ hi
            · split
              · exact hg _ _ _ _ hi
              · split
                · rename_i h
                  exact ret_in hL _ _ (keyA_nx hL h)
                · split
                  · rename_i h
                    exact jmp_in hL _ (keyA_nx hL h)
                  · split
                    · rename_i h
                      exact jmp_in hL _ (keyA_nx hL h)
                    · exact hm _ _ hi
    · intro i d hi
      unfold choA
      refine (hg _ _ _ _ hi).bind fun n j _ hj => ?_
      split
      · rename_i h
        exact (ho _ _ (keyA_nx hL h)).bind fun x l _ hl => in_ok hl
      · exact in_ok hj
    · intro i d hi
      unfold othA
      split
      · split
        · exact in_bad hi
        · exact hc _ _ hi
      · exact hb _ _ hi
    · intro k x i d hi
      unfold guaA
      exact in_want hi fun h => (abs_in hL f d (keyA_nx hL h)).bind fun e j _ hj => (hb _ _ hj).bind fun b l _ hl => in_ok hl
    · intro i d hi
      unfold simA
      refine (abs_in hL f d hi).bind fun x j _ hj => ?_
      split
      · rename_i h
        simp only [Bool.and_eq_true] at h
        exact (abs_in hL f d (opA_nx hL h.2)).bind fun y l _ hl => in_ok hl
      · split
        · rename_i h
          simp only [Bool.and_eq_true] at h
          exact (hg _ _ _ _ (opA_nx hL h.2)).bind fun y l _ hl => in_ok hl
        · split
          · rename_i h
            exact (abs_in hL f d (opA_nx hL h)).bind fun y l _ hl => in_ok hl
          · exact in_ok hj
theorem fld_in : ∀ (f : Nat) (l : F) (i : Nat), i < L.length → In L (fldA L f l i)
  | 0, l, i, _ => by unfold fldA; exact in_out
  | f + 1, l, i, hi => by
    unfold fldA
    split
    · rename_i h
      exact in_ok (opA_nx hL h)
    · refine (typed_in hL _ hi).bind fun x j _ hj => ?_
      split
      · exact fld_in f _ _ (skN_in hL hj)
      · exact in_want hj fun h => fld_in f _ _ (skN_in hL (knd_nx hL h (by decide) (by decide)))
theorem prs_in : ∀ (f : Nat) (l : F) (i : Nat), i < L.length → In L (prsA L f l i)
  | 0, l, i, _ => by unfold prsA; exact in_out
  | f + 1, l, i, hi => by
    unfold prsA
    split
    · rename_i h
      exact (typed_in hL _ (opA_nx hL h)).bind fun x j _ hj => prs_in f _ _ hj
    · exact in_want hi fun h => in_ok (opA_nx hL h)
theorem pls_in (f : Nat) {i : Nat} (hi : i < L.length) : In L (plsA L f i) := by
  unfold plsA
  split
  · rename_i h
    exact in_ok (opA_nx hL h)
  · exact (typed_in hL _ hi).bind fun x j _ hj => prs_in hL f _ _ hj
theorem str_in (f : Nat) {i : Nat} (hi : i < L.length) : In L (strA L f i) := by
  unfold strA
  exact (leaf_in hL _ _ (by decide) (by decide) hi).bind fun n j _ hj => in_want hj fun h => in_want (keyA_nx hL h) fun h2 => (fld_in hL f _ _ (skN_in hL (opA_nx hL h2))).bind fun l k _ hk => in_ok hk
theorem fun_in (f : Nat) {i : Nat} (hi : i < L.length) : In L (funA L f i) := by
  unfold funA
  refine (leaf_in hL _ _ (by decide) (by decide) hi).bind fun n j _ hj => in_want hj fun h => (pls_in hL f (opA_nx hL h)).bind fun l k _ hk => ?_
  refine In.bind (p := if knd L k 1 = true then _ else _) ?_ fun l' m _ hm => ((stm_in hL f).1 _ _ hm).bind fun b o _ ho => in_ok ho
  split
  · exact (typ_in hL hk).bind fun t m _ hm => in_ok hm
  · exact in_ok hk
theorem dec_in (f : Nat) {i : Nat} (hi : i < L.length) : In L (decA L f i) := by
  unfold decA
  split
  · rename_i h
    exact var_in hL _ _ (keyA_nx hL h)
  · split
    · rename_i h
      exact con_in hL _ _ (keyA_nx hL h)
    · split
      · rename_i h
        exact str_in hL _ (keyA_nx hL h)
      · exact in_want hi fun h => fun_in hL _ (keyA_nx hL h)
theorem end_in {i : Nat} (hi : i < L.length) : In L (endA L i) := by
  unfold endA
  exact in_want hi fun h => in_ok (skN_in hL (knd_nx hL h (by decide) (by decide)))
theorem imp_in : ∀ (f : Nat) (l : F) (i : Nat), i < L.length → In L (impA L f l i)
  | 0, l, i, _ => by unfold impA; exact in_out
  | f + 1, l, i, hi => by
    unfold impA
    split
    · rename_i h
      exact (leaf_in hL _ _ (by decide) (by decide) (keyA_nx hL h)).bind fun n j _ hj => (end_in hL hj).bind fun _ k _ hk => imp_in f _ _ hk
    · exact in_ok hi
theorem dcs_in : ∀ (f : Nat) (l : F) (i : Nat), i < L.length → In L (dcsA L f l i)
  | 0, l, i, _ => by unfold dcsA; exact in_out
  | f + 1, l, i, hi => by
    unfold dcsA
    split
    · exact in_ok hi
    · exact (dec_in hL f hi).bind fun n j _ hj => (end_in hL hj).bind fun _ k _ hk => dcs_in f _ _ hk
/-- Where a file stops, there is a word. -/
theorem fil_bad (f j : Nat) (h : filA L f = .bad j) : j < L.length := by
  unfold filA at h
  cases hk : keyA L 0 [112, 97, 99, 107, 97, 103, 101] with
  | false =>
    rw [hk] at h
    injection h with h
    have := hL.1
    omega
  | true =>
    rw [hk] at h
    simp only [wantA, if_true] at h
    have h0 := keyA_nx hL hk
    have key : ∀ (p : PR Nd), (∀ q, p = .bad q → q < L.length) → p = .bad j → j < L.length := fun p hp e => hp j e
    cases h1 : leafA L 2 1 1 with
    | out => rw [h1] at h; cases h
    | bad q =>
      rw [h1] at h
      injection h with h
      have := (leaf_in hL 2 1 (by decide) (by decide) h0).2 q h1
      omega
    | ok n j1 =>
      have hj1 := (leaf_in hL 2 1 (by decide) (by decide) h0).1 n j1 h1
      rw [h1] at h
      simp only [PR.bind] at h
      cases h2 : endA L j1 with
      | out => rw [h2] at h; cases h
      | bad q =>
        rw [h2] at h
        injection h with h
        have := (end_in hL hj1).2 q h2
        omega
      | ok u j2 =>
        have hj2 := (end_in hL hj1).1 u j2 h2
        rw [h2] at h
        simp only [] at h
        cases h3 : impA L f (one n) j2 with
        | out => rw [h3] at h; cases h
        | bad q =>
          rw [h3] at h
          injection h with h
          have := (imp_in hL f _ _ hj2).2 q h3
          omega
        | ok l j3 =>
          have hj3 := (imp_in hL f _ _ hj2).1 l j3 h3
          rw [h3] at h
          simp only [] at h
          cases h4 : dcsA L f l j3 with
          | out => rw [h4] at h; cases h
          | bad q =>
            rw [h4] at h
            injection h with h
            have := (dcs_in hL f _ _ hj3).2 q h4
            omega
          | ok l' o =>
            rw [h4] at h
            simp only [] at h
            by_cases hl : L.length ≤ o + 1
            · rw [decide_eq_true hl] at h
              cases h
            · rw [decide_eq_false hl] at h
              injection h with h
              omega
end
end Go.Proofs.YtiknnobgoamgcaaGreatDoor

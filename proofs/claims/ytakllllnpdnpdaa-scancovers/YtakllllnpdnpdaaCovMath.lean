/-
  What tokens and comments cover: a text gone through by them, and that what is cut covers it. No program.
-/
import Derived.Test.YtakllllnpdnpdaaScMath
namespace Go.Proofs.Ytakllllnpdnpdaa
open Go.RowKit
/-- Blanks, tabs, newlines alone. -/
def Blk (s : ByteArray) (a b : Nat) : Prop := ∀ i, a ≤ i → i < b → byteAt s i = 32 ∨ byteAt s i = 9 ∨ byteAt s i = 10
def nlsF (s : ByteArray) (a : Nat) : Nat → Nat
  | 0 => 0
  | n + 1 => nlsF s a n + (if byteAt s (a + n) = 10 then 1 else 0)
/-- How many newlines. -/
def nls (s : ByteArray) (a b : Nat) : Nat := nlsF s a (b - a)
theorem nls_self (s : ByteArray) (a : Nat) : nls s a a = 0 := by rw [nls, Nat.sub_self]; rfl
theorem nls_nl {s : ByteArray} {a b : Nat} (h : a ≤ b) (hb : byteAt s b = 10) : nls s a (b + 1) = nls s a b + 1 := by
  rw [nls, nls, show b + 1 - a = (b - a) + 1 by omega, nlsF, show a + (b - a) = b by omega, if_pos hb]
theorem nls_no {s : ByteArray} {a b : Nat} (h : a ≤ b) (hb : ¬ byteAt s b = 10) : nls s a (b + 1) = nls s a b := by
  rw [nls, nls, show b + 1 - a = (b - a) + 1 by omega, nlsF, show a + (b - a) = b by omega, if_neg hb]; rfl
theorem nls_le (s : ByteArray) (a : Nat) : ∀ n, nlsF s a n ≤ n
  | 0 => Nat.le_refl _
  | n + 1 => by
    have := nls_le s a n
    rw [nlsF]; split <;> omega
theorem blk_self (s : ByteArray) (a : Nat) : Blk s a a := fun i h1 h2 => by omega
theorem blk_snoc {s : ByteArray} {a b : Nat} (h : Blk s a b) (hb : byteAt s b = 32 ∨ byteAt s b = 9 ∨ byteAt s b = 10) : Blk s a (b + 1) := fun i h1 h2 => by
  rcases Nat.lt_or_ge i b with h3 | h3
  · exact h i h1 h3
  · obtain rfl : i = b := by omega
    exact hb
/-- From token i, comment k, place a, line ln on all is covered. -/
inductive Cov (s : ByteArray) (L : List Tk) (C : List Cm) : Nat → Nat → Nat → Nat → Prop
  | com (i k a ln q : Nat) (c : Cm) : i < L.length → C[k]? = some c → c.n = i → c.p = q → a ≤ q → Blk s a q → c.l = ((ln + nls s a q : Nat) : Int) → q + c.s.size ≤ s.size → s.extract q (q + c.s.size) = c.s →
      Cov s L C i (k + 1) (q + c.s.size) (ln + nls s a q) → Cov s L C i k a ln
  | auto (i k a ln : Nat) (t u : Tk) : (∀ c, C[k]? = some c → ¬ c.n = i) → L[i]? = some t → t.q = true → t.k = 6 → t.s = ⟨#[59]⟩ → (a : Int) ≤ t.p → 0 < i → L[i - 1]? = some u → endB u = true → Cov s L C (i + 1) k a ln → Cov s L C i k a ln
  | tok (i k a ln q : Nat) (t : Tk) : (∀ c, C[k]? = some c → ¬ c.n = i) → L[i]? = some t → t.q = false → t.p = q → a ≤ q → Blk s a q → t.l = ((ln + nls s a q : Nat) : Int) → q + t.s.size ≤ s.size → s.extract q (q + t.s.size) = t.s →
      Cov s L C (i + 1) k (q + t.s.size) (ln + nls s a q) → Cov s L C i k a ln
  | done (i k a ln : Nat) (t : Tk) : i = L.length → k = C.length → a = s.size → 0 < i → L[i - 1]? = some t → t.k = 7 → Cov s L C i k a ln
theorem cov_com {s : ByteArray} {L : List Tk} {C : List Cm} {i k a ln : Nat} (h : Cov s L C i k a ln) {c : Cm} (hc : C[k]? = some c) (hn : c.n = i) (hi : i < L.length) :
    ∃ q : Nat, c.p = q ∧ a ≤ q ∧ Blk s a q ∧ c.l = ((ln + nls s a q : Nat) : Int) ∧ q + c.s.size ≤ s.size ∧ s.extract q (q + c.s.size) = c.s ∧ Cov s L C i (k + 1) (q + c.s.size) (ln + nls s a q) := by
  cases h with
  | com _ _ _ _ q c' h1 h2 h3 h4 h5 h6 h7 h8 h9 h10 =>
    rw [hc] at h2
    cases h2
    exact ⟨q, h4, h5, h6, h7, h8, h9, h10⟩
  | auto _ _ _ _ t u h1 => exact absurd hn (h1 c hc)
  | tok _ _ _ _ q t h1 => exact absurd hn (h1 c hc)
  | done _ _ _ _ t h1 => omega
theorem cov_tok {s : ByteArray} {L : List Tk} {C : List Cm} {i k a ln : Nat} (h : Cov s L C i k a ln) (hno : ∀ c, C[k]? = some c → ¬ c.n = i) (hi : i < L.length) :
    ∃ t, L[i]? = some t ∧ ((t.q = true ∧ t.k = 6 ∧ t.s = ⟨#[59]⟩ ∧ (a : Int) ≤ t.p ∧ 0 < i ∧ ∃ u, L[i - 1]? = some u ∧ endB u = true ∧ Cov s L C (i + 1) k a ln) ∨
      (t.q = false ∧ ∃ q : Nat, t.p = q ∧ a ≤ q ∧ Blk s a q ∧ t.l = ((ln + nls s a q : Nat) : Int) ∧ q + t.s.size ≤ s.size ∧ s.extract q (q + t.s.size) = t.s ∧ Cov s L C (i + 1) k (q + t.s.size) (ln + nls s a q))) := by
  cases h with
  | com _ _ _ _ q c' h1 h2 h3 => exact absurd h3 (hno _ h2)
  | auto _ _ _ _ t u h1 h2 h3 h4 h5 h6 h7 h8 h9 h10 => exact ⟨t, h2, .inl ⟨h3, h4, h5, h6, h7, u, h8, h9, h10⟩⟩
  | tok _ _ _ _ q t h1 h2 h3 h4 h5 h6 h7 h8 h9 h10 => exact ⟨t, h2, .inr ⟨h3, q, h4, h5, h6, h7, h8, h9, h10⟩⟩
  | done _ _ _ _ t h1 => omega
theorem cov_done {s : ByteArray} {L : List Tk} {C : List Cm} {i k a ln : Nat} (h : Cov s L C i k a ln) (hi : ¬ i < L.length) : k = C.length ∧ a = s.size ∧ 0 < L.length ∧ ∃ t, L[L.length - 1]? = some t ∧ t.k = 7 := by
  cases h with
  | com _ _ _ _ q c' h1 => exact absurd h1 hi
  | auto _ _ _ _ t u h1 h2 => exact absurd (List.getElem?_eq_some_iff.1 h2).1 hi
  | tok _ _ _ _ q t h1 h2 => exact absurd (List.getElem?_eq_some_iff.1 h2).1 hi
  | done _ _ _ _ t h1 h2 h3 h4 h5 h6 => subst h1; exact ⟨h2, h3, h4, t, h5, h6⟩
/-- What a scanner has made covers all up to where it stands, but for blanks. -/
def Inv (s : ByteArray) (x : Sc) : Prop :=
  ∃ a ln, a ≤ x.p ∧ Blk s a x.p ∧ x.line = ln + nls s a x.p ∧ ∀ L' C', L' ≠ [] → (∀ c ∈ C', (x.l.length : Int) ≤ c.n) → Cov s (x.l ++ L') (x.c ++ C') x.l.length x.c.length a ln → Cov s (x.l ++ L') (x.c ++ C') 0 0 0 1
theorem inv_sc0 (s : ByteArray) : Inv s sc0 := ⟨0, 1, Nat.le_refl _, blk_self s 0, by rw [show sc0.p = 0 from rfl, nls_self]; rfl, fun _ _ _ _ h => h⟩
theorem at_len {α : Type} (l : List α) (t : α) (r : List α) : (l ++ t :: r)[l.length]? = some t := by simp
theorem no_com {C C' : List Cm} {n : Nat} (h : ∀ c ∈ C', ((n + 1 : Nat) : Int) ≤ c.n) : ∀ c, (C ++ C')[C.length]? = some c → ¬ c.n = n := by
  intro c hc
  rw [List.getElem?_append_right (Nat.le_refl _), Nat.sub_self] at hc
  have := h c (List.mem_of_getElem? hc)
  omega
theorem inv_semi {s : ByteArray} {x : Sc} (h : Inv s x) : Inv s x.semi := by
  rcases hg : x.l.getLast? with _ | t
  · have : x.semi = x := by rw [Sc.semi, hg]
    rw [this]; exact h
  · cases he : endB t with
    | false =>
      have : x.semi = x := by rw [Sc.semi, hg]; simp [he]
      rw [this]; exact h
    | true =>
      have hs : x.semi = ⟨x.p, x.line, x.l ++ [⟨6, ⟨#[59]⟩, x.p, x.line, true⟩], x.c⟩ := by rw [Sc.semi, hg]; simp [he]
      rw [hs]
      obtain ⟨a, ln, h1, h2, h3, h4⟩ := h
      refine ⟨a, ln, h1, h2, h3, fun L' C' hL hC hcov => ?_⟩
      dsimp only at hC hcov ⊢
      rw [List.length_append, List.length_singleton] at hC hcov
      rw [List.append_assoc, List.singleton_append] at hcov ⊢
      have hx : x.l ≠ [] := by intro e; rw [e] at hg; cases hg
      have hpos : 0 < x.l.length := List.length_pos_iff.2 hx
      refine h4 _ C' (by simp) (fun c hc => by have := hC c hc; omega) ?_
      refine Cov.auto _ _ _ _ ⟨6, ⟨#[59]⟩, x.p, x.line, true⟩ t (no_com hC) (at_len _ _ _) rfl rfl rfl (by show (a : Int) ≤ (x.p : Int); omega) hpos ?_ he hcov
      rw [List.getElem?_append_left (by omega), ← hg, List.getLast?_eq_getElem?]
theorem inv_blank {s : ByteArray} {x : Sc} (h : Inv s x) (hb : byteAt s x.p = 32 ∨ byteAt s x.p = 9) : Inv s ⟨x.p + 1, x.line, x.l, x.c⟩ := by
  obtain ⟨a, ln, h1, h2, h3, h4⟩ := h
  exact ⟨a, ln, by show a ≤ x.p + 1; omega, blk_snoc h2 (by rcases hb with h | h; exact .inl h; exact .inr (.inl h)), by show x.line = ln + nls s a (x.p + 1); rw [nls_no h1 (by omega)]; exact h3, h4⟩
theorem inv_nl {s : ByteArray} {x : Sc} (h : Inv s x) (hb : byteAt s x.p = 10) : Inv s ⟨x.p + 1, x.line + 1, x.l, x.c⟩ := by
  obtain ⟨a, ln, h1, h2, h3, h4⟩ := h
  exact ⟨a, ln, by show a ≤ x.p + 1; omega, blk_snoc h2 (.inr (.inr hb)), by show x.line + 1 = ln + nls s a (x.p + 1); rw [nls_nl h1 hb, h3]; omega, h4⟩
theorem ext_size {s : ByteArray} {p t : Nat} (h1 : p ≤ t) (h2 : t ≤ s.size) : (s.extract p t).size = t - p := by rw [ByteArray.size_extract]; omega
theorem inv_add {s : ByteArray} {x : Sc} (h : Inv s x) (k : Int) {t : Nat} (h1 : x.p ≤ t) (h2 : t ≤ s.size) : Inv s (x.add s k t) := by
  obtain ⟨a, ln, g1, g2, g3, g4⟩ := h
  have hz := ext_size h1 h2
  refine ⟨t, x.line, Nat.le_refl _, blk_self s t, by show x.line = x.line + nls s t t; rw [nls_self]; rfl, fun L' C' hL hC hcov => ?_⟩
  dsimp only [Sc.add] at hC hcov ⊢
  rw [List.length_append, List.length_singleton] at hC hcov
  rw [List.append_assoc, List.singleton_append] at hcov ⊢
  refine g4 _ C' (by simp) (fun c hc => by have := hC c hc; omega) ?_
  refine Cov.tok _ _ _ _ x.p ⟨k, s.extract x.p t, x.p, x.line, false⟩ (no_com hC) (at_len _ _ _) rfl rfl g1 g2 (by rw [← g3]) (by dsimp only; rw [hz]; omega) (by dsimp only; rw [hz, show x.p + (t - x.p) = t by omega]) ?_
  dsimp only
  rw [hz, show x.p + (t - x.p) = t by omega, ← g3]
  exact hcov
theorem inv_com {s : ByteArray} {x : Sc} (h : Inv s x) (hp : x.p ≤ s.size) : Inv s (x.com s) := by
  obtain ⟨a, ln, g1, g2, g3, g4⟩ := inv_semi h
  obtain ⟨e1, e2, e3, _⟩ := semi_rest x
  rw [e1] at g1 g2 g3
  rw [e2] at g3
  rw [e3] at g4
  have hn := nlN_range hp
  have hz := ext_size hn.1 hn.2
  refine ⟨nlN s x.p, x.line, Nat.le_refl _, blk_self s _, by show x.line = x.line + nls s (nlN s x.p) (nlN s x.p); rw [nls_self]; rfl, fun L' C' hL hC hcov => ?_⟩
  dsimp only [Sc.com] at hC hcov ⊢
  rw [List.length_append, List.length_singleton] at hcov
  rw [List.append_assoc, List.singleton_append] at hcov ⊢
  refine g4 L' _ hL (fun c hc => ?_) ?_
  · rcases List.mem_cons.1 hc with rfl | hc
    · exact Int.le_refl _
    · exact hC c hc
  · refine Cov.com _ _ _ _ x.p ⟨s.extract x.p (nlN s x.p), x.p, x.line, x.semi.l.length⟩ ?_ (at_len _ _ _) rfl rfl g1 g2 (by rw [← g3]) (by dsimp only; rw [hz]; omega) (by dsimp only; rw [hz, show x.p + (nlN s x.p - x.p) = nlN s x.p by omega]) ?_
    · rw [List.length_append]
      have := List.length_pos_iff.2 hL
      omega
    · dsimp only
      rw [hz, show x.p + (nlN s x.p - x.p) = nlN s x.p by omega, ← g3]
      exact hcov
theorem inv_one {s : ByteArray} {x : Sc} (h : Inv s x) (hp : x.p < s.size) (ho : (x.one s).1 = true) : Inv s (x.one s).2 := by
  obtain ⟨go1, go2, _⟩ := one_goes s x hp ho
  revert ho go1 go2
  unfold Sc.one
  split
  · rename_i hb
    intro _ _ _; exact inv_blank h hb
  split
  · rename_i hb
    intro _ _ _
    obtain ⟨e1, e2, e3, _⟩ := semi_rest x
    have := inv_nl (inv_semi h) (by rw [e1]; exact hb)
    rw [e1, e2, e3] at this
    exact this
  split
  · intro _ _ _; exact inv_add h 6 (by omega) (by omega)
  split
  · intro ho _ _
    dsimp only at ho ⊢
    rw [Sc.comment, if_pos ho]
    exact inv_com h (by omega)
  split
  · intro ho g1 g2
    dsimp only at ho g1 g2 ⊢
    rw [if_pos ho] at g1 g2 ⊢
    exact inv_add h 3 (Nat.le_of_lt g1) g2
  split
  · intro ho g1 g2
    dsimp only at ho g1 g2 ⊢
    rw [if_pos ho] at g1 g2 ⊢
    exact inv_add h 2 (Nat.le_of_lt g1) g2
  split
  · intro ho g1 g2
    dsimp only at ho g1 g2 ⊢
    have ho := of_decide_eq_true ho
    rw [if_pos ho] at g1 g2 ⊢
    exact inv_add h _ (Nat.le_of_lt g1) g2
  · intro ho g1 g2
    dsimp only at ho g1 g2 ⊢
    have ho := of_decide_eq_true ho
    rw [if_pos ho] at g1 g2 ⊢
    exact inv_add h 4 (Nat.le_of_lt g1) g2
theorem inv_scan {s : ByteArray} : ∀ (f : Nat) (x y : Sc), Inv s x → ScOk s x → s.size - x.p ≤ f → scanL s f x = (true, y) → Inv s y ∧ y.p = s.size := by
  intro f
  induction f with
  | zero =>
    intro x y hi hx hf h
    rw [scanL] at h
    cases h
    exact ⟨hi, by have := hx.p; omega⟩
  | succ f ih =>
    intro x y hi hx hf h
    by_cases hp : x.p < s.size
    · cases ho : (x.one s).1 with
      | true =>
        obtain ⟨h1, h2⟩ := hx.one hp ho
        rw [scanL_step hp ho] at h
        exact ih _ y (inv_one hi hp ho) h1 (by omega) h
      | false =>
        rw [scanL_stop hp ho] at h
        cases h
    · rw [scanL_end (by omega)] at h
      cases h
      exact ⟨hi, by have := hx.p; omega⟩
/-- What a text is cut into covers it. -/
theorem cov_scan {s : ByteArray} {fl : Int} (h : (scanR s fl).2.2 = -1) (hfl : fl = -1 ∨ 0 ≤ fl) : Cov s (scanR s fl).1 (scanR s fl).2.1 0 0 0 1 := by
  rcases hx : scanL s s.size sc0 with ⟨_ | _, x⟩
  · rw [scanR_stop hx] at h
    dsimp only at h
    split at h <;> omega
  · rcases hfl with rfl | hfl
    · rw [scanR_ok hx (by omega)]
      dsimp only
      obtain ⟨hi, hp⟩ := inv_scan _ _ _ (inv_sc0 s) (sc0_ok s) (by show s.size - 0 ≤ s.size; omega) hx
      obtain ⟨a, ln, g1, g2, g3, g4⟩ := inv_semi hi
      obtain ⟨e1, e2, e3, _⟩ := semi_rest x
      rw [e1, hp] at g1 g2 g3
      rw [e2] at g3
      rw [e3] at g4
      have := g4 [⟨7, ⟨#[]⟩, s.size, x.line, false⟩] [] (by simp) (by simp)
      rw [List.append_nil] at this
      refine this ?_
      have hz : (⟨#[]⟩ : ByteArray).size = 0 := rfl
      refine Cov.tok _ _ _ _ s.size ⟨7, ⟨#[]⟩, s.size, x.line, false⟩ (by simp) (at_len _ _ _) rfl rfl g1 g2 (by rw [← g3]) (by dsimp only; rw [hz]; omega) (by dsimp only; rw [hz, Nat.add_zero]; apply ByteArray.ext; simp) ?_
      refine Cov.done _ _ _ _ ⟨7, ⟨#[]⟩, s.size, x.line, false⟩ (by simp) rfl (by dsimp only; rw [hz]; rfl) (by omega) (by simp) rfl
    · rw [scanR_bad hx hfl] at h
      dsimp only at h
      omega
theorem scan_bad {s : ByteArray} {fl : Int} (hfl : fl = -1 ∨ 0 ≤ fl) : ((scanR s fl).2.2 = -1) ∨ (0 ≤ (scanR s fl).2.2 ∧ (scanR s fl).1 = [] ∧ (scanR s fl).2.1 = []) := by
  rcases hx : scanL s s.size sc0 with ⟨_ | _, x⟩
  · rw [scanR_stop hx]
    refine .inr ⟨?_, rfl, rfl⟩
    dsimp only
    split <;> omega
  · rcases hfl with rfl | hfl
    · rw [scanR_ok hx (by omega)]; exact .inl rfl
    · rw [scanR_bad hx hfl]; exact .inr ⟨hfl, rfl, rfl⟩
end Go.Proofs.Ytakllllnpdnpdaa

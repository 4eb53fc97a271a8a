/-
  Calls and fields behind one another: their words, their tree. No program.
-/
import Derived.Test.YtdjjbdmnjegfjaaMPcChain
import Derived.KernelRfl
namespace Go.Proofs.Ytdjjbdmnjegfjaa
open Go.RowKit
set_option linter.unusedSimpArgs false
set_option linter.unusedVariables false
def tlP (b : Bool) : List Pc := if b then [.op [46], .wd [98]] else [.op [40], .nm [49], .op [41]]
def tlK (b : Bool) : List KS := if b then [(4, bs [46]), (1, bs [98])] else [(4, bs [40]), (2, bs [49]), (4, bs [41])]
def tlsP : List Bool → List Pc
  | [] => []
  | b :: l => tlP b ++ tlsP l
def tlsK : List Bool → List KS
  | [] => []
  | b :: l => tlK b ++ tlsK l
theorem tlsP_kps : ∀ l : List Bool, kps (tlsP l) = tlsK l
  | [] => rfl
  | b :: l => by
    rw [tlsP, kps_app, tlsP_kps l, tlsK]
    cases b <;> rfl
theorem tlsP_snoc (b : Bool) : ∀ l : List Bool, tlsP (l ++ [b]) = tlsP l ++ tlP b
  | [] => by simp [tlsP]
  | a :: l => by rw [List.cons_append, tlsP, tlsP_snoc b l, tlsP, List.append_assoc]
theorem tlsP_noNl : ∀ l : List Bool, noNl (tlsP l) = true
  | [] => rfl
  | b :: l => noNl_app _ _ (by cases b <;> rfl) (tlsP_noNl l)
theorem tlsP_plain : ∀ l : List Bool, (tlsP l).all Pc.plain = true
  | [] => rfl
  | b :: l => by
    rw [tlsP, List.all_append, tlsP_plain l]
    cases b <;> rfl
theorem tlsP_len : ∀ l : List Bool, (txts (tlsP l)).length ≤ 3 * l.length
  | [] => by simp [tlsP, txts]
  | b :: l => by
    have := tlsP_len l
    have h : (txts (tlP b)).length ≤ 3 := by cases b <;> decide
    rw [tlsP, txts_app, List.length_append, List.length_cons]
    omega
/-- What follows a tail begins so. -/
theorem tls_head (l : List Bool) : ∃ q, txts (tlsP l) ++ [10] = 46 :: q ∨ txts (tlsP l) ++ [10] = 40 :: q ∨ txts (tlsP l) ++ [10] = 10 :: q := by
  cases l with
  | nil => exact ⟨[], .inr (.inr rfl)⟩
  | cons b l =>
    cases b with
    | true => exact ⟨_, .inl rfl⟩
    | false => exact ⟨_, .inr (.inl rfl)⟩
theorem tlsP_ok : ∀ l : List Bool, okR [10] (tlsP l) = true
  | [] => rfl
  | b :: l => by
    have h1 : ∀ q, okR (46 :: q) (tlP b) = true := fun q => by cases b <;> kernel_rfl
    have h2 : ∀ q, okR (40 :: q) (tlP b) = true := fun q => by cases b <;> kernel_rfl
    have h3 : ∀ q, okR (10 :: q) (tlP b) = true := fun q => by cases b <;> kernel_rfl
    rw [tlsP, okR_app, tlsP_ok l, Bool.and_true]
    obtain ⟨q, h | h | h⟩ := tls_head l <;> rw [h]
    · exact h1 q
    · exact h2 q
    · exact h3 q
/-- The outermost first: a call or a field, and what is beneath it. -/
def tlC : List Bool → Int → F → Prop
  | [], k, _ => k = 20
  | b :: r, k, c => k = (if b then 27 else 26) ∧ ∃ k1 t1 c1 x, c = .cons k1 t1 c1 x ∧ tlC r k1 c1
theorem tail_stop (l : List Bool) : ∃ t K, tlsK l ++ semE = t :: K := by
  cases l with
  | nil => exact ⟨_, _, rfl⟩
  | cons b l => cases b <;> exact ⟨_, _, rfl⟩
theorem tail_lpr : ∀ (l : List Bool) (L : List Tk) (i d f : Nat) (x : Nd) (r : List Bool), At L i (tlsK l ++ semE) → tlC r x.k x.c → d < 40 → l.length + 9 ≤ f → ∃ y, lprA L f x i d = .ok y (i + (tlsK l).length) ∧ tlC (l.reverse ++ r) y.k y.c
  | [], L, i, d, f, x, r, h, hC, hd, hf => by
    obtain ⟨f', rfl⟩ : ∃ f', f = f' + 1 := ⟨f - 1, by omega⟩
    exact ⟨x, lpr_stop (low := 0) (t := semT) (K := [(7, ⟨#[]⟩)]) h (by decide), hC⟩
  | b :: l, L, i, d, f, x, r, h, hC, hd, hf => by
    obtain ⟨f', rfl⟩ : ∃ f', f = f' + 1 := ⟨f - 1, by omega⟩
    cases b with
    | true =>
      have h0 : At L i ((4, bs [46]) :: (1, bs [98]) :: (tlsK l ++ semE)) := h
      have e1 : opA L i [40] = false := by rw [opA_at h0]; rfl
      have e2 : opA L i [46] = true := by rw [opA_at h0]; rfl
      have e3 : knd L (i + 1) 1 = true := by rw [knd_at h0.next]; rfl
      obtain ⟨y, hy, hyC⟩ := tail_lpr l L (i + 1 + 1) d f' ⟨27, (i + 1 : Nat), one x⟩ (true :: r) h0.next.next ⟨rfl, _, _, _, _, rfl, hC⟩ hd (by simp only [List.length_cons] at hf; omega)
      refine ⟨y, ?_, ?_⟩
      · rw [lprA, e1, e2, if_neg (by decide), if_pos rfl, leafA, e3, if_pos rfl]
        simp only [PR.bind]
        rw [hy]
        congr 1
        simp only [tlsK, tlK, if_true, List.length_append, List.length_cons, List.length_nil]
        omega
      · rw [List.reverse_cons, List.append_assoc]
        exact hyC
    | false =>
      have h0 : At L i ((4, bs [40]) :: (2, bs [49]) :: (4, bs [41]) :: (tlsK l ++ semE)) := h
      have e1 : opA L i [40] = true := by rw [opA_at h0]; rfl
      have e2 : opA L (i + 1) [41] = false := by rw [opA_at h0.next]; rfl
      obtain ⟨g, rfl⟩ : ∃ g, f' = g + 6 := ⟨f' - 6, by simp only [List.length_cons] at hf; omega⟩
      have e3 : absA L (g + 4) 0 (i + 1) (d + 1) = .ok ⟨21, (i + 1 : Nat), .nil⟩ (i + 1 + 1) := abs_int (t := (4, bs [41])) h0.next (by decide)
      have e4 : opA L (i + 1 + 1) [44] = false := by rw [opA_at h0.next.next]; rfl
      have e5 : opA L (i + 1 + 1) [41] = true := by rw [opA_at h0.next.next]; rfl
      have e6 : llsA L (g + 4) (one ⟨21, (i + 1 : Nat), .nil⟩) (i + 1 + 1) (d + 1) = .ok (one ⟨21, (i + 1 : Nat), .nil⟩) (i + 1 + 1 + 1) := by
        rw [llsA, e4, e5]
        rfl
      have e7 : lstA L (g + 5) (i + 1) (d + 1) = .ok (one ⟨21, (i + 1 : Nat), .nil⟩) (i + 1 + 1 + 1) := by
        rw [lstA, e2, if_neg (by decide), e3]
        exact e6
      have e8 : calA L (g + 6) x i d = .ok ⟨26, i, (one x).app (one ⟨21, (i + 1 : Nat), .nil⟩)⟩ (i + 1 + 1 + 1) := by
        rw [calA, if_neg (by omega), e1]
        simp only [wantA, if_true]
        rw [e7]
        rfl
      obtain ⟨y, hy, hyC⟩ := tail_lpr l L (i + 1 + 1 + 1) d (g + 6) ⟨26, i, (one x).app (one ⟨21, (i + 1 : Nat), .nil⟩)⟩ (false :: r) h0.next.next.next ⟨rfl, _, _, _, _, rfl, hC⟩ hd (by simp only [List.length_cons] at hf; omega)
      refine ⟨y, ?_, ?_⟩
      · rw [lprA, e1, if_pos rfl, e8]
        simp only [PR.bind]
        rw [hy]
        congr 1
        simp only [tlsK, tlK, Bool.false_eq_true, if_false, List.length_append, List.length_cons, List.length_nil]
        omega
      · rw [List.reverse_cons, List.append_assoc]
        exact hyC
theorem tail_unr (l : List Bool) (L : List Tk) (i d f : Nat) (h : At L i ((1, bs [97]) :: (tlsK l ++ semE))) (hd : d < 40) (hf : l.length + 12 ≤ f) : ∃ y, unrA L f i d = .ok y (i + 1 + (tlsK l).length) ∧ tlC l.reverse y.k y.c := by
  obtain ⟨f', rfl⟩ : ∃ f', f = f' + 3 := ⟨f - 3, by omega⟩
  obtain ⟨y, hy, hC⟩ := tail_lpr l L (i + 1) d (f' + 1) ⟨20, i, .nil⟩ [] h.next rfl hd (by omega)
  refine ⟨y, ?_, by simpa using hC⟩
  rw [unr_name h]
  exact hy
def tlX (un : Bool) (l : List Bool) (k : Int) (f : F) : Prop := if un then k = 23 ∧ ∃ k1 t1 c1, f = .cons k1 t1 c1 .nil ∧ tlC l.reverse k1 c1 else tlC l.reverse k f
def unK (un : Bool) : List KS := if un then [(4, bs [45])] else []
theorem tail_abs (un : Bool) (l : List Bool) (L : List Tk) (i f : Nat) (h : At L i (unK un ++ (1, bs [97]) :: (tlsK l ++ semE))) (hf : l.length + 20 ≤ f) : ∃ y, absA L f 0 i 0 = .ok y (i + (unK un).length + 1 + (tlsK l).length) ∧ tlX un l y.k y.c := by
  obtain ⟨f', rfl⟩ : ∃ f', f = f' + 3 := ⟨f - 3, by omega⟩
  have hend : At L (i + (unK un).length + 1 + (tlsK l).length) semE := ((h.skip (A := unK un)).next).skip
  cases un with
  | false =>
    obtain ⟨y, hy, hC⟩ := tail_unr l L i 0 (f' + 2) h (by omega) (by omega)
    refine ⟨y, ?_, hC⟩
    rw [absA, hy]
    exact lab_stop (low := 0) (t := semT) (K := [(7, ⟨#[]⟩)]) hend (by decide)
  | true =>
    have h0 : At L i ((4, bs [45]) :: (1, bs [97]) :: (tlsK l ++ semE)) := h
    obtain ⟨y, hy, hC⟩ := tail_unr l L (i + 1) 1 (f' + 1) h0.next (by omega) (by omega)
    have hu : unrA L (f' + 2) i 0 = .ok ⟨23, i, one y⟩ (i + 1 + 1 + (tlsK l).length) := by
      rw [unrA, unA_at h0, if_pos (by decide), if_neg (by decide), hy]
      rfl
    refine ⟨⟨23, i, one y⟩, ?_, rfl, _, _, _, rfl, hC⟩
    rw [absA, hu]
    exact lab_stop (low := 0) (t := semT) (K := [(7, ⟨#[]⟩)]) hend (by decide)
end Go.Proofs.Ytdjjbdmnjegfjaa

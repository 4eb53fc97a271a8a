/-
  The tree of a list of words, by kinds and spellings. No program.
-/
import Derived.Test.YtiknnobgoamgcaaGreatDoorMPcScan
import Derived.Test.YtiknnobgoamgcaaGreatDoorB01
import Derived.Test.YtiknnobgoamgcaaGreatDoorB23
namespace Go.Proofs.YtiknnobgoamgcaaGreatDoor
open Go.RowKit
set_option linter.unusedSimpArgs false
set_option linter.unusedVariables false
/-- From the i-th word on these words stand. -/
def At (L : List Tk) (i : Nat) (K : List KS) : Prop := (L.map kap).drop i = K
section
variable {L : List Tk} {i : Nat} {t : KS} {K : List KS}
theorem At.tk (h : At L i (t :: K)) : (tkA L i).k = t.1 ∧ (tkA L i).s = t.2 := by
  unfold At at h
  have h0 : (L.map kap)[i]? = some t := by
    have := congrArg (fun l => l[0]?) h
    simpa [List.getElem?_drop] using this
  rw [List.getElem?_map] at h0
  cases hl : L[i]? with
  | none => rw [hl] at h0; cases h0
  | some u =>
    rw [hl] at h0
    injection h0 with h0
    subst h0
    simp [tkA, List.getD, hl, kap]
theorem At.next (h : At L i (t :: K)) : At L (i + 1) K := by
  unfold At at *
  rw [← List.drop_drop, h]
  rfl
theorem At.skip {A : List KS} (h : At L i (A ++ K)) : At L (i + A.length) K := by
  unfold At at *
  rw [← List.drop_drop, h, List.drop_left]
theorem At.len (h : At L i K) (hi : i ≤ L.length) : L.length = i + K.length := by
  unfold At at h
  have := congrArg List.length h
  rw [List.length_drop, List.length_map] at this
  omega
theorem At.lt (h : At L i (t :: K)) : i < L.length := by
  unfold At at h
  have := congrArg List.length h
  rw [List.length_drop, List.length_map, List.length_cons] at this
  omega
theorem knd_at (h : At L i (t :: K)) (k : Int) : knd L i k = decide (t.1 = k) := by rw [knd, h.tk.1]
theorem opA_at (h : At L i (t :: K)) (x : List UInt8) : opA L i x = (decide (t.1 = 4) && eqT t.2 x) := by rw [opA, h.tk.1, h.tk.2]
theorem keyA_at (h : At L i (t :: K)) (x : List UInt8) : keyA L i x = (decide (t.1 = 5) && eqT t.2 x) := by rw [keyA, h.tk.1, h.tk.2]
theorem rkA_at (h : At L i (t :: K)) : rkA L i = if t.1 = 4 then rankN t.2 else 0 := by
  rw [rkA, knd_at h, h.tk.2]
  by_cases e : t.1 = 4
  · rw [decide_eq_true e, if_pos e, if_pos rfl]
  · rw [decide_eq_false e, if_neg e, if_neg (by decide)]
theorem unA_at (h : At L i (t :: K)) : unA L i = (decide (t.1 = 4) && isUn t.2) := by rw [unA, knd_at h, h.tk.2]
/-- No semicolon: none is passed. -/
theorem skN_at (h : At L i (t :: K)) (ht : t.1 ≠ 6) : skN L i = i := by
  unfold skN
  have := h.lt
  obtain ⟨d, hd⟩ : ∃ d, L.length - i = d + 1 := ⟨L.length - i - 1, by omega⟩
  rw [hd, skF, knd_at h, decide_eq_false ht]
  rfl
/-- One is. -/
theorem skN_semi (h : At L i (t :: K)) (ht : t.1 = 6) : skN L i = skN L (i + 1) := by
  unfold skN
  have := h.lt
  obtain ⟨d, hd⟩ : ∃ d, L.length - i = d + 1 := ⟨L.length - i - 1, by omega⟩
  rw [hd, skF, knd_at h, decide_eq_true ht, show L.length - (i + 1) = d by omega]
  rfl
end
theorem eqT_bs (l x : List UInt8) : eqT (bs l) x = (l == x) := by simp [eqT, bs]
/-- What stands behind an operand and does not go on with it: its rank. -/
def stopT (low : Int) (t : KS) : Bool := !(decide (t.1 = 4) && (eqT t.2 [40] || eqT t.2 [46])) && decide ((if t.1 = 4 then rankN t.2 else 0) ≤ low)
theorem stopT_facts {L : List Tk} {i : Nat} {t : KS} {K : List KS} {low : Int} (h : At L i (t :: K)) (hs : stopT low t = true) : opA L i [40] = false ∧ opA L i [46] = false ∧ rkA L i ≤ low := by
  simp only [stopT, Bool.and_eq_true, Bool.not_eq_true', decide_eq_true_eq] at hs
  rw [opA_at h, opA_at h, rkA_at h]
  obtain ⟨h1, h2⟩ := hs
  refine ⟨?_, ?_, h2⟩
  · cases hd : decide (t.1 = 4) with
    | false => rfl
    | true => rw [hd, Bool.true_and, Bool.or_eq_false_iff] at h1; rw [h1.1]; rfl
  · cases hd : decide (t.1 = 4) with
    | false => rfl
    | true => rw [hd, Bool.true_and, Bool.or_eq_false_iff] at h1; rw [h1.2]; rfl
theorem lpr_stop {L : List Tk} {i d f : Nat} {x : Nd} {t : KS} {K : List KS} {low : Int} (h : At L i (t :: K)) (hs : stopT low t = true) : lprA L (f + 1) x i d = .ok x i := by
  obtain ⟨h1, h2, _⟩ := stopT_facts h hs
  rw [lprA, h1, h2]
  rfl
theorem lab_stop {L : List Tk} {i d f : Nat} {x : Nd} {t : KS} {K : List KS} {low : Int} (h : At L i (t :: K)) (hs : stopT low t = true) : labA L (f + 1) low x i d = .ok x i := by
  obtain ⟨_, _, h3⟩ := stopT_facts h hs
  rw [labA, if_pos h3]
/-- A name, a number as an operand. -/
theorem opd_name {L : List Tk} {i d f : Nat} {s : ByteArray} {K : List KS} (h : At L i ((1, s) :: K)) : opdA L (f + 1) i d = .ok ⟨20, i, .nil⟩ (i + 1) := by
  rw [opdA, knd_at h]
  rfl
theorem opd_int {L : List Tk} {i d f : Nat} {s : ByteArray} {K : List KS} (h : At L i ((2, s) :: K)) : opdA L (f + 1) i d = .ok ⟨21, i, .nil⟩ (i + 1) := by
  rw [opdA, knd_at h, knd_at h]
  rfl
theorem prm_name {L : List Tk} {i d f : Nat} {s : ByteArray} {K : List KS} (h : At L i ((1, s) :: K)) : prmA L (f + 2) i d = lprA L (f + 1) ⟨20, i, .nil⟩ (i + 1) d := by
  rw [prmA, opd_name h]
  rfl
theorem unr_name {L : List Tk} {i d f : Nat} {s : ByteArray} {K : List KS} (h : At L i ((1, s) :: K)) : unrA L (f + 3) i d = lprA L (f + 1) ⟨20, i, .nil⟩ (i + 1) d := by
  rw [unrA, unA_at h]
  exact prm_name h
theorem abs_name {L : List Tk} {i d f : Nat} {s : ByteArray} {t : KS} {K : List KS} {low : Int} (h : At L i ((1, s) :: t :: K)) (hs : stopT low t = true) : absA L (f + 4) low i d = .ok ⟨20, i, .nil⟩ (i + 1) := by
  rw [absA, unr_name h, lpr_stop h.next hs]
  exact lab_stop h.next hs
theorem abs_int {L : List Tk} {i d f : Nat} {s : ByteArray} {t : KS} {K : List KS} {low : Int} (h : At L i ((2, s) :: t :: K)) (hs : stopT low t = true) : absA L (f + 4) low i d = .ok ⟨21, i, .nil⟩ (i + 1) := by
  rw [absA, unrA, unA_at h, if_neg (by simp), prmA, opd_int h]
  simp only [PR.bind]
  rw [lpr_stop h.next hs]
  exact lab_stop h.next hs
def kPackage : ByteArray := bs [112, 97, 99, 107, 97, 103, 101]
def kVar : ByteArray := bs [118, 97, 114]
/-- The words ahead of the expression. -/
def headE : List KS := [(5, kPackage), (1, bs [112]), semT, (5, kVar), (1, bs [120]), (1, bs [105, 110, 116]), (4, bs [61])]
/-- A file of one var. -/
theorem file_expr {L : List Tk} {K : List KS} {f j : Nat} {x : Nd} (h : At L 0 (headE ++ K)) (hx : absA L (f + 1) 0 7 0 = .ok x j) (hj : At L j [semT, (7, ⟨#[]⟩)]) : filU L (f + 2) 0 = .ok (exF x) (j + 2) := by
  have a0 := h
  have a1 := a0.next
  have a2 := a1.next
  have a3 := a2.next
  have a4 := a3.next
  have a5 := a4.next
  have a6 := a5.next
  have b1 := hj.next
  have hl := hj.len (Nat.le_of_lt hj.lt)
  have e0 : keyA L 0 [112, 97, 99, 107, 97, 103, 101] = true := by rw [keyA_at a0]; rfl
  have e1 : knd L 1 1 = true := by rw [show (1 : Nat) = 0 + 1 from rfl, knd_at a1]; rfl
  have e2 : knd L 2 6 = true := by rw [show (2 : Nat) = 0 + 1 + 1 from rfl, knd_at a2]; rfl
  have e3 : skN L 3 = 3 := skN_at (i := 3) a3 (by decide)
  have e4 : keyA L 3 [105, 109, 112, 111, 114, 116] = false := by rw [keyA_at (i := 3) a3]; rfl
  have e5 : knd L 3 7 = false := by rw [knd_at (i := 3) a3]; rfl
  have e6 : keyA L 3 [118, 97, 114] = true := by rw [keyA_at (i := 3) a3]; rfl
  have e7 : knd L 4 1 = true := by rw [knd_at (i := 4) a4]; rfl
  have e8 : knd L 5 1 = true := by rw [knd_at (i := 5) a5]; rfl
  have e9 : opA L 6 [46] = false := by rw [opA_at (i := 6) a6]; rfl
  have e10 : opA L 6 [61] = true := by rw [opA_at (i := 6) a6]; rfl
  have c0 : knd L j 6 = true := by rw [knd_at hj]; rfl
  have c1 : skN L (j + 1) = j + 1 := skN_at b1 (by decide)
  have c2 : knd L (j + 1) 7 = true := by rw [knd_at b1]; rfl
  have c3 : decide (L.length ≤ j + 1 + 1) = true := decide_eq_true (by rw [hl]; simp)
  simp only [filU, e0, wantA, if_true, leafA, e1, PR.bind, endA, e2, e3, impA, e4, Bool.false_eq_true, if_false, dcsA, e5, decA, e6, varA, typedA, e7, typA, e8, e9, e10, hx, c0, c1, c2, c3, Nat.zero_add, Nat.reduceAdd]
  rfl
end Go.Proofs.YtiknnobgoamgcaaGreatDoor

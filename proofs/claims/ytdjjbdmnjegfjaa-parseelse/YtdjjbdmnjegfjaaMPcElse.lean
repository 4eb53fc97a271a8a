/-
  Ifs behind one another's elses: their words, their tree. No program.
-/
import Derived.Test.YtdjjbdmnjegfjaaMPcChain
import Derived.KernelRfl
namespace Go.Proofs.Ytdjjbdmnjegfjaa
open Go.RowKit
set_option linter.unusedSimpArgs false
set_option linter.unusedVariables false
def kIfB : ByteArray := bs [105, 102]
def kElse : ByteArray := bs [101, 108, 115, 101]
def kFunc : ByteArray := bs [102, 117, 110, 99]
def oL : KS := (4, bs [123])
def oR : KS := (4, bs [125])
/-- The words of an if, behind its name. -/
def elU : List KS := [(5, kElse), (5, kIfB), (1, bs [98]), oL, oR]
def elX (last : Bool) : List KS := if last then [(5, kElse), oL, oR] else []
/-- So many more ifs stand behind one another's elses; the last one has an else, or none. -/
def elC (last : Bool) : Nat → Int → F → Prop
  | 0, k, c => k = 14 ∧ (if last then ∃ k1 t1 c1 k2 t2 c2 t3 c3, c = .cons k1 t1 c1 (.cons k2 t2 c2 (.cons 10 t3 c3 .nil)) else c.len = 2)
  | i + 1, k, c => k = 14 ∧ ∃ k1 t1 c1 k2 t2 c2 k3 t3 c3, c = .cons k1 t1 c1 (.cons k2 t2 c2 (.cons k3 t3 c3 .nil)) ∧ elC last i k3 c3
/-- An empty block. -/
theorem blk_empty {L : List Tk} {i d f : Nat} {K : List KS} (h : At L i (oL :: oR :: K)) (hd : d ≠ 40) : blkA L (f + 2) i d = .ok ⟨10, i, .nil⟩ (i + 2) := by
  have e1 : opA L i [123] = true := by rw [opA_at h]; rfl
  have e2 : skN L (i + 1) = i + 1 := skN_at h.next (by decide)
  have e3 : opA L (i + 1) [125] = true := by rw [opA_at h.next]; rfl
  simp only [blkA, if_neg hd, e1, wantA, if_true, e2, brsA, e3, PR.bind]
theorem gua_if {L : List Tk} {i d f : Nat} {s : ByteArray} {K : List KS} (h : At L i ((5, kIfB) :: (1, s) :: oL :: oR :: K)) (hd : d ≠ 40) : guaA L (f + 5) 14 kIf i d = .ok ⟨14, i, .cons 20 (i + 1 : Nat) .nil (.cons 10 (i + 2 : Nat) .nil .nil)⟩ (i + 4) := by
  have e1 : keyA L i kIf = true := by rw [keyA_at h]; rfl
  have e2 : absA L (f + 4) 0 (i + 1) d = .ok ⟨20, (i + 1 : Nat), .nil⟩ (i + 1 + 1) := abs_name (t := oL) h.next (by decide)
  have e3 : blkA L (f + 2 + 2) (i + 1 + 1) d = .ok ⟨10, (i + 1 + 1 : Nat), .nil⟩ (i + 1 + 1 + 2) := blk_empty h.next.next hd
  simp only [guaA, e1, wantA, if_true, e2, PR.bind]
  rw [show f + 4 = f + 2 + 2 from rfl, e3]
  rfl
def lenX (last : Bool) : Nat := if last then 3 else 0
theorem cho_chain (last : Bool) (K : List KS) : ∀ (m : Nat) (L : List Tk) (i d f : Nat) (s : ByteArray), At L i ((5, kIfB) :: (1, s) :: oL :: oR :: (repK elU m ++ (elX last ++ oR :: K))) → d + m < 40 → 2 * m + 8 ≤ f →
    ∃ t c, choA L f i d = .ok ⟨14, t, c⟩ (i + 4 + 5 * m + lenX last) ∧ elC last m 14 c
  | 0, L, i, d, f, s, h, hd, hf => by
    obtain ⟨f', rfl⟩ : ∃ f', f = f' + 6 := ⟨f - 6, by omega⟩
    have hg := gua_if (f := f') (d := d) h (by omega)
    have h4 : At L (i + 4) (elX last ++ oR :: K) := h.next.next.next.next
    cases last with
    | false =>
      have e1 : keyA L (i + 4) [101, 108, 115, 101] = false := by rw [keyA_at (t := oR) (K := K) h4]; rfl
      have hch : choA L (f' + 6) i d = .ok ⟨14, i, .cons 20 (i + 1 : Nat) .nil (.cons 10 (i + 2 : Nat) .nil .nil)⟩ (i + 4 + 5 * 0 + lenX false) := by
        rw [choA, hg]
        simp only [PR.bind, e1, Bool.false_eq_true, if_false, lenX, Nat.mul_zero, Nat.add_zero]
      exact ⟨_, _, hch, rfl, rfl⟩
    | true =>
      have e1 : keyA L (i + 4) [101, 108, 115, 101] = true := by rw [keyA_at (t := (5, kElse)) (K := oL :: oR :: oR :: K) h4]; rfl
      have h5 : At L (i + 4 + 1) (oL :: oR :: oR :: K) := At.next (t := (5, kElse)) h4
      have e2 : keyA L (i + 4 + 1) kIf = false := by rw [keyA_at h5]; rfl
      have e3 := blk_empty (f := f' + 2) h5 (show d ≠ 40 by omega)
      have e4 : othA L (f' + 5) (i + 4 + 1) d = .ok ⟨10, (i + 4 + 1 : Nat), .nil⟩ (i + 4 + 1 + 2) := by
        rw [othA, e2, if_neg (by decide)]
        exact e3
      have hch : choA L (f' + 6) i d = .ok ⟨14, i, .cons 20 (i + 1 : Nat) .nil (.cons 10 (i + 2 : Nat) .nil (.cons 10 (i + 4 + 1 : Nat) .nil .nil))⟩ (i + 4 + 5 * 0 + lenX true) := by
        rw [choA, hg]
        simp only [PR.bind, e1, if_true, e4, lenX]
        rfl
      exact ⟨_, _, hch, rfl, _, _, _, _, _, _, _, _, rfl⟩
  | m + 1, L, i, d, f, s, h, hd, hf => by
    obtain ⟨f', rfl⟩ : ∃ f', f = f' + 6 := ⟨f - 6, by omega⟩
    have hg := gua_if (f := f') (d := d) h (by omega)
    have h4 : At L (i + 4) ((5, kElse) :: (5, kIfB) :: (1, bs [98]) :: oL :: oR :: (repK elU m ++ (elX last ++ oR :: K))) := h.next.next.next.next
    have e1 : keyA L (i + 4) [101, 108, 115, 101] = true := by rw [keyA_at h4]; rfl
    have e2 : keyA L (i + 4 + 1) kIf = true := by rw [keyA_at h4.next]; rfl
    obtain ⟨t, c, hc, hC⟩ := cho_chain last K m L (i + 4 + 1) (d + 1) (f' + 4) (bs [98]) h4.next (by omega) (by omega)
    have e4 : othA L (f' + 5) (i + 4 + 1) d = .ok ⟨14, t, c⟩ (i + 4 + 1 + 4 + 5 * m + lenX last) := by
      rw [othA, e2, if_pos rfl, if_neg (by omega)]
      exact hc
    have hch : choA L (f' + 6) i d = .ok ⟨14, i, .cons 20 (i + 1 : Nat) .nil (.cons 10 (i + 2 : Nat) .nil (.cons 14 t c .nil))⟩ (i + 4 + 5 * (m + 1) + lenX last) := by
      rw [choA, hg]
      simp only [PR.bind, e1, if_true, e4]
      rw [show i + 4 + 1 + 4 + 5 * m + lenX last = i + 4 + 5 * (m + 1) + lenX last by omega]
      rfl
    exact ⟨_, _, hch, rfl, _, _, _, _, _, _, _, _, _, rfl, hC⟩
def headU : List KS := [(5, kPackage), (1, bs [112]), semT, (5, kFunc), (1, bs [102]), (4, bs [40]), (4, bs [41])]
/-- A file of one func. -/
theorem file_func {L : List Tk} {K : List KS} {f j : Nat} {x : Nd} (h : At L 0 (headU ++ oL :: K)) (hx : blkA L (f + 1) 7 0 = .ok x j) (hj : At L j semE) : filU L (f + 2) 0 = .ok (.cons 2 1 .nil (.cons 8 4 (.cons x.k x.t x.c .nil) .nil)) (j + 2) := by
  have a0 := h
  have a1 := a0.next
  have a2 := a1.next
  have a3 := a2.next
  have a4 := a3.next
  have a5 := a4.next
  have a6 := a5.next
  have a7 := a6.next
  have b1 := hj.next
  have hl := hj.len (Nat.le_of_lt hj.lt)
  have e0 : keyA L 0 [112, 97, 99, 107, 97, 103, 101] = true := by rw [keyA_at a0]; rfl
  have e1 : knd L 1 1 = true := by rw [knd_at (i := 1) a1]; rfl
  have e2 : knd L 2 6 = true := by rw [knd_at (i := 2) a2]; rfl
  have e3 : skN L 3 = 3 := skN_at (i := 3) a3 (by decide)
  have e4 : keyA L 3 [105, 109, 112, 111, 114, 116] = false := by rw [keyA_at (i := 3) a3]; rfl
  have e5 : knd L 3 7 = false := by rw [knd_at (i := 3) a3]; rfl
  have e6 : keyA L 3 [118, 97, 114] = false := by rw [keyA_at (i := 3) a3]; rfl
  have e61 : keyA L 3 [99, 111, 110, 115, 116] = false := by rw [keyA_at (i := 3) a3]; rfl
  have e62 : keyA L 3 [116, 121, 112, 101] = false := by rw [keyA_at (i := 3) a3]; rfl
  have e63 : keyA L 3 [102, 117, 110, 99] = true := by rw [keyA_at (i := 3) a3]; rfl
  have e7 : knd L 4 1 = true := by rw [knd_at (i := 4) a4]; rfl
  have e8 : opA L 5 [40] = true := by rw [opA_at (i := 5) a5]; rfl
  have e9 : opA L 6 [41] = true := by rw [opA_at (i := 6) a6]; rfl
  have e10 : knd L 7 1 = false := by rw [knd_at (i := 7) a7]; rfl
  have c0 : knd L j 6 = true := by rw [knd_at hj]; rfl
  have c1 : skN L (j + 1) = j + 1 := skN_at b1 (by decide)
  have c2 : knd L (j + 1) 7 = true := by rw [knd_at b1]; rfl
  have c3 : decide (L.length ≤ j + 1 + 1) = true := decide_eq_true (by rw [hl]; simp [semE])
  simp only [filU, e0, wantA, if_true, leafA, e1, PR.bind, endA, e2, e3, impA, e4, Bool.false_eq_true, if_false, dcsA, e5, decA, e6, e61, e62, e63, funA, e7, e8, plsA, e9, e10, hx, c0, c1, c2, c3, Nat.zero_add, Nat.reduceAdd]
  rfl
/-- A block of one if. -/
theorem blk_if {L : List Tk} {i j f : Nat} {k t : Int} {c : F} {K K' : List KS} (h : At L i (oL :: (5, kIfB) :: K)) (hx : choA L f (i + 1) 1 = .ok ⟨k, t, c⟩ j) (hj : At L j (oR :: K')) (hf : 0 < f) : blkA L (f + 3) i 0 = .ok ⟨10, i, .cons k t c .nil⟩ (j + 1) := by
  have a1 := h.next
  have e1 : opA L i [123] = true := by rw [opA_at h]; rfl
  have e2 : skN L (i + 1) = i + 1 := skN_at a1 (by decide)
  have e3 : opA L (i + 1) [125] = false := by rw [opA_at a1]; rfl
  have e4 : keyA L (i + 1) [118, 97, 114] = false := by rw [keyA_at a1]; rfl
  have e5 : keyA L (i + 1) [99, 111, 110, 115, 116] = false := by rw [keyA_at a1]; rfl
  have e6 : opA L (i + 1) [123] = false := by rw [opA_at a1]; rfl
  have e7 : keyA L (i + 1) kIf = true := by rw [keyA_at a1]; rfl
  have e8 : opA L j [125] = true := by rw [opA_at hj]; rfl
  have e9 : skN L j = j := skN_at hj (by decide)
  have e10 : brsA L (f + 1) (.cons k t c .nil) j 1 = .ok (.cons k t c .nil) (j + 1) := by rw [brsA, e8]; rfl
  have e11 : stmA L (f + 1) (i + 1) 1 = .ok ⟨k, t, c⟩ j := by
    rw [stmA, e4, e5, e6, e7]
    exact hx
  have e12 : brsA L (f + 2) .nil (i + 1) 1 = .ok (.cons k t c .nil) (j + 1) := by
    rw [brsA, e3, if_neg (by decide), e11]
    simp only [PR.bind, e8, if_true, e9]
    exact e10
  rw [blkA, if_neg (by decide), e1]
  simp only [wantA, if_true, e2]
  rw [e12]
  rfl
end Go.Proofs.Ytdjjbdmnjegfjaa

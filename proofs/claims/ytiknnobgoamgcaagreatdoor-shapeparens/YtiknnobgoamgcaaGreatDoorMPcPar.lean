/-
  A number in so many parentheses: its words, its tree, how it is written. No program.
-/
import Derived.Test.YtiknnobgoamgcaaGreatDoorMPcChain
import Derived.Test.YtiknnobgoamgcaaGreatDoorMShMath
import Derived.KernelRfl
namespace Go.Proofs.YtiknnobgoamgcaaGreatDoor
open Go.RowKit
set_option linter.unusedSimpArgs false
set_option linter.unusedVariables false
def oP : KS := (4, bs [40])
def cP : KS := (4, bs [41])
def onK : KS := (2, bs [49])
def parK (n : Nat) : List KS := repK [oP] n ++ onK :: repK [cP] n
theorem repK_snoc (k : List KS) : ∀ n : Nat, repK k (n + 1) = repK k n ++ k
  | 0 => by simp [repK]
  | n + 1 => by
    show k ++ repK k (n + 1) = k ++ repK k n ++ k
    rw [repK_snoc k n, List.append_assoc]
theorem repK_len (k : List KS) : ∀ n : Nat, (repK k n).length = n * k.length
  | 0 => by simp [repK]
  | n + 1 => by rw [repK, List.length_append, repK_len k n, Nat.succ_mul, Nat.add_comm]
def prT : Nat → Nat → Nd
  | 0, i => ⟨21, i, .nil⟩
  | n + 1, i => ⟨25, i, one (prT n (i + 1))⟩
theorem abs_par : ∀ (n : Nat) (L : List Tk) (i d f : Nat) (low : Int) (t : KS) (K : List KS), At L i (parK n ++ t :: K) → stopT low t = true → d + n ≤ 40 → 5 * n + 6 ≤ f → absA L f low i d = .ok (prT n i) (i + 2 * n + 1)
  | 0, L, i, d, f, low, t, K, h, ht, hd, hf => by
    obtain ⟨f', rfl⟩ : ∃ f', f = f' + 4 := ⟨f - 4, by omega⟩
    exact abs_int (t := t) (K := K) h ht
  | n + 1, L, i, d, f, low, t, K, h, ht, hd, hf => by
    obtain ⟨f', rfl⟩ : ∃ f', f = f' + 6 := ⟨f - 6, by omega⟩
    have h0 : At L i (oP :: (parK n ++ cP :: (t :: K))) := by
      have e : parK (n + 1) ++ t :: K = oP :: (parK n ++ cP :: (t :: K)) := by
        rw [parK, parK, repK_snoc [cP]]
        simp only [repK, List.append_assoc, List.cons_append, List.nil_append]
      rw [← e]
      exact h
    have ih := abs_par n L (i + 1) (d + 1) (f' + 1) 0 cP (t :: K) h0.next (by decide) (by omega) (by omega)
    have hend : At L (i + 1 + 2 * n + 1) (cP :: (t :: K)) := by
      have := h0.next.skip (A := parK n)
      have hl : (parK n).length = 2 * n + 1 := by rw [parK, List.length_append, List.length_cons, repK_len, repK_len]; simp; omega
      rw [hl] at this
      exact this
    have e0 : opA L i [40] = true := by rw [opA_at h0]; rfl
    have e1 : opA L (i + 1 + 2 * n + 1) [41] = true := by rw [opA_at hend]; rfl
    have k1 : knd L i 1 = false := by rw [knd_at h0]; rfl
    have k2 : knd L i 2 = false := by rw [knd_at h0]; rfl
    have k3 : knd L i 3 = false := by rw [knd_at h0]; rfl
    have hu : unA L i = false := by rw [unA_at h0]; rfl
    have hp : parA L (f' + 2) i d = .ok ⟨25, i, one (prT n (i + 1))⟩ (i + 1 + 2 * n + 1 + 1) := by
      rw [parA, if_neg (by omega), e0]
      simp only [wantA, if_true]
      rw [ih]
      simp only [PR.bind, e1, if_true]
    have ho : opdA L (f' + 3) i d = .ok ⟨25, i, one (prT n (i + 1))⟩ (i + 1 + 2 * n + 1 + 1) := by
      rw [opdA, k1, k2, k3]
      exact hp
    have hr : prmA L (f' + 4) i d = .ok ⟨25, i, one (prT n (i + 1))⟩ (i + 1 + 2 * n + 1 + 1) := by
      rw [prmA, ho]
      exact lpr_stop hend.next ht
    have hn : unrA L (f' + 5) i d = .ok ⟨25, i, one (prT n (i + 1))⟩ (i + 1 + 2 * n + 1 + 1) := by
      rw [unrA, hu]
      exact hr
    rw [absA, hn]
    rw [show i + 2 * (n + 1) + 1 = i + 1 + 2 * n + 1 + 1 by omega]
    exact lab_stop hend.next ht
/-- How it is written. -/
def parE : Nat → List UInt8
  | 0 => [32, 40, 105, 110, 116, 32, 49, 41]
  | n + 1 => [32, 40, 112, 97, 114, 101, 110] ++ parE n ++ [41]
theorem parE_len : ∀ n : Nat, (parE n).length = 8 + 8 * n
  | 0 => rfl
  | n + 1 => by simp only [parE, List.length_append, List.length_cons, List.length_nil, parE_len n]; omega
theorem txtT_at {L : List Tk} {i : Nat} {t : KS} {K : List KS} (h : At L i (t :: K)) : txtT L i = t.2.data.toList := by
  have := h.lt
  rw [txtT, if_pos ⟨by omega, by omega⟩]
  show (tkA L i).s.data.toList = _
  rw [h.tk.2]
theorem par_shape : ∀ (n : Nat) (L : List Tk) (i : Nat) (K : List KS), At L i (repK [oP] n ++ onK :: K) → shF L (one (prT n i)) = parE n
  | 0, L, i, K, h => by
    have e := txtT_at (t := onK) (K := K) h
    show [32] ++ ([40] ++ (nameK 21).data.toList ++ (if bareB 21 then [] else [32] ++ txtT L i)) ++ [] ++ [41] ++ [] = _
    rw [e]
    rfl
  | n + 1, L, i, K, h => by
    have ih := par_shape n L (i + 1) K (At.next (t := oP) h)
    show [32] ++ ([40] ++ (nameK 25).data.toList ++ (if bareB 25 then [] else [32] ++ txtT L i)) ++ shF L (one (prT n (i + 1))) ++ [41] ++ [] = _
    rw [ih, parE]
    simp only [List.append_nil]
    rfl
def preS : List UInt8 := [40, 102, 105, 108, 101, 32, 40, 112, 97, 99, 107, 97, 103, 101, 32, 112, 41, 32, 40, 118, 97, 114, 32, 120, 32, 40, 116, 121, 112, 101, 32, 105, 110, 116, 41]
theorem file_shape {L : List Tk} {K : List KS} (h : At L 0 (headE ++ K)) (x : Nd) : shN L ⟨1, 0, exF x⟩ = preS ++ shF L (one x) ++ [41, 41] := by
  have a1 := At.next (t := (5, kPackage)) h
  have a4 := a1.next.next.next
  have a5 := a4.next
  have e1 := txtT_at a1
  have e4 := txtT_at a4
  have e5 := txtT_at a5
  have hx : shF L (.cons x.k x.t x.c .nil) = shF L (one x) := rfl
  show ([40] ++ (nameK 1).data.toList ++ (if bareB 1 then [] else [32] ++ txtT L 0)) ++ ([32] ++ ([40] ++ (nameK 2).data.toList ++ (if bareB 2 then [] else [32] ++ txtT L 1)) ++ [] ++ [41] ++ ([32] ++ ([40] ++ (nameK 4).data.toList ++ (if bareB 4 then [] else [32] ++ txtT L 4)) ++ ([32] ++ ([40] ++ (nameK 28).data.toList ++ (if bareB 28 then [] else [32] ++ txtT L 5)) ++ [] ++ [41] ++ shF L (.cons x.k x.t x.c .nil)) ++ [41] ++ [])) ++ [41] = _
  rw [hx]
  generalize shF L (one x) = X
  rw [show txtT L 1 = [112] from e1, show txtT L 4 = [120] from e4, show txtT L 5 = [105, 110, 116] from e5]
  rw [show nameK 1 = bs [102, 105, 108, 101] from rfl, show nameK 2 = bs [112, 97, 99, 107, 97, 103, 101] from rfl, show nameK 4 = bs [118, 97, 114] from rfl, show nameK 28 = bs [116, 121, 112, 101] from rfl]
  simp [bs, bareB, preS]
end Go.Proofs.YtiknnobgoamgcaaGreatDoor

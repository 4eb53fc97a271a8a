/-
  Plain facts about the numbers of package num: a number's bytes (seven bits each), back again; the bits that the program turns. No program is named here.
-/
import Derived.Test.YtafchnieimhlbaaBts
import Derived.WalkKit
namespace Go.Proofs.Ytafchnieimhlbaa
open Go.RowKit

/-- 2 n, or -2 n - 1 of n below 0. -/
def zz (n : Int) : Nat := if n < 0 then (-2 * n - 1).toNat else (2 * n).toNat
/-- Back again. -/
def uz (u : Nat) : Int := if u % 2 = 1 then -((u / 2 : Nat) : Int) - 1 else ((u / 2 : Nat) : Int)
/-- Seven bits a byte, the lowest first, 128 more in each but the last one; at most f + 1 bytes. -/
def digsF : Nat → Nat → List Int
  | 0, u => [(u : Int)]
  | f + 1, u => if u < 128 then [(u : Int)] else ((u % 128 + 128 : Nat) : Int) :: digsF f (u / 128)
def digs (u : Nat) : List Int := digsF 9 u
/-- The number at the beginning of some bytes: what it is, how many bytes, which error; i bytes are read, they make u. -/
def getF : List Int → Nat → Nat → Int × Int × Int
  | [], _, _ => (0, 0, 2)
  | c :: r, i, u =>
    if i = 9 ∧ 1 < c then (0, 0, 1)
    else if 128 ≤ c then getF r (i + 1) (u + c.toNat % 128 * 128 ^ i)
    else if c = 0 ∧ 0 < i then (0, 0, 1)
    else (uz (u + c.toNat * 128 ^ i), ((i + 1 : Nat) : Int), 0)
def getM (xs : List Int) : Int × Int × Int := getF xs 0 0

theorem zz_lt (n : Int) (h0 : -9223372036854775808 ≤ n) (h1 : n ≤ 9223372036854775807) : zz n < 18446744073709551616 := by
  unfold zz; split <;> omega
theorem uz_zz (n : Int) : uz (zz n) = n := by
  unfold uz zz; split <;> split <;> omega
theorem uz_range (u : Nat) (h : u < 18446744073709551616) : -9223372036854775808 ≤ uz u ∧ uz u ≤ 9223372036854775807 := by
  unfold uz; split <;> omega

theorem xor_max (x : Int) (h0 : 0 ≤ x) (h1 : x ≤ 18446744073709551615) : bits BinOp.xor IntKind.u64 IntKind.u64.max x = 18446744073709551615 - x := by
  have e : IntKind.u64.max = 18446744073709551615 := by decide
  obtain ⟨n, rfl⟩ := Int.eq_ofNat_of_zero_le h0
  have hn : n < 18446744073709551616 := by omega
  have e2 : BitVec.ofInt 64 (18446744073709551615 : Int) = BitVec.allOnes 64 := by decide
  rw [e]
  show IntKind.u64.wrap ((BitVec.ofInt 64 (18446744073709551615 : Int) ^^^ BitVec.ofInt 64 (n : Int)).toNat : Int) = _
  rw [e2, BitVec.allOnes_xor, BitVec.toNat_not, ofInt_u64 n hn, IntKind.wrap_u64]
  omega
theorem xor_m1 (x : Int) (h0 : 0 ≤ x) (h1 : x ≤ 9223372036854775807) : bits BinOp.xor IntKind.i64 (-1) x = -x - 1 := by
  obtain ⟨n, rfl⟩ := Int.eq_ofNat_of_zero_le h0
  have hn : n < 18446744073709551616 := by omega
  have e2 : BitVec.ofInt 64 (-1 : Int) = BitVec.allOnes 64 := by decide
  show IntKind.i64.wrap ((BitVec.ofInt 64 (-1 : Int) ^^^ BitVec.ofInt 64 (n : Int)).toNat : Int) = _
  rw [e2, BitVec.allOnes_xor, BitVec.toNat_not, ofInt_u64 n hn, IntKind.wrap_i64]
  omega
theorem and1u64 (x : Int) (h0 : 0 ≤ x) (h1 : x ≤ 18446744073709551615) : bits BinOp.and IntKind.u64 x 1 = x % 2 := by
  rw [u64_and _ _ h0 (by omega) (by omega) (by omega)]
  have := nat_mask1 x.toNat
  rw [show (1 : Int).toNat = 1 from rfl, this]; omega
theorem and127u64 (x : Int) (h0 : 0 ≤ x) (h1 : x ≤ 18446744073709551615) : bits BinOp.and IntKind.u64 x 127 = x % 128 := by
  rw [u64_and _ _ h0 (by omega) (by omega) (by omega)]
  have := nat_mask7 x.toNat
  rw [show (127 : Int).toNat = 127 from rfl, this]; omega
theorem and127u8 (x : Int) (h0 : 0 ≤ x) (h1 : x ≤ 255) : bits BinOp.and IntKind.u8 x 127 = x % 128 := by
  rw [u8_and _ _ h0 (by omega) (by omega) (by omega)]
  have := nat_mask7 x.toNat
  rw [show (127 : Int).toNat = 127 from rfl, this]; omega
theorem or_add (u s k : Nat) (h : u < 2 ^ k) (hs : u + s * 2 ^ k < 18446744073709551616) : bits BinOp.or IntKind.u64 (u : Int) ((s * 2 ^ k : Nat) : Int) = ((u + s * 2 ^ k : Nat) : Int) := by
  rw [u64_or_nat _ _ (by omega) (by omega)]
  rw [Nat.or_comm, nat_join k _ _ (by simp) h, Nat.add_comm]

theorem pow128 (k : Nat) : 128 ^ k = 2 ^ (7 * k) := by
  rw [show 128 = 2 ^ 7 from rfl, Nat.pow_mul]
theorem pow128_le (k : Nat) (h : k ≤ 9) : 128 ^ k ≤ 9223372036854775808 := by
  have := Nat.pow_le_pow_right (n := 128) (by omega) h
  omega

/-- One step of the reading: what is read so far and seven bits more. -/
theorem step_or (u c k : Nat) (hk : k ≤ 9) (hu : u < 128 ^ k) (hc : c < 128) (h9 : k = 9 → c ≤ 1) :
    bits BinOp.or IntKind.u64 (u : Int) (IntKind.u64.wrap ((c : Int) * 2 ^ (7 * k))) = ((u + c * 128 ^ k : Nat) : Int) ∧ u + c * 128 ^ k < 18446744073709551616 ∧ (k < 9 → u + c * 128 ^ k < 128 ^ (k + 1)) := by
  have hb : u + c * 128 ^ k < 18446744073709551616 := by
    by_cases h : k = 9
    · have := h9 h
      subst h
      have : c * 128 ^ 9 ≤ 1 * 128 ^ 9 := Nat.mul_le_mul_right _ this
      omega
    · have hk8 : k ≤ 8 := by omega
      have h1 := Nat.pow_le_pow_right (n := 128) (by omega) hk8
      have h2 : c * 128 ^ k ≤ 127 * 128 ^ k := Nat.mul_le_mul_right _ (by omega)
      omega
  refine ⟨?_, hb, fun h => ?_⟩
  · have e : IntKind.u64.wrap ((c : Int) * 2 ^ (7 * k)) = ((c * 2 ^ (7 * k) : Nat) : Int) := by
      rw [IntKind.wrap_u64]
      have : ((c : Int) * 2 ^ (7 * k)) = ((c * 2 ^ (7 * k) : Nat) : Int) := by simp
      rw [this]
      rw [pow128] at hb
      omega
    rw [e, or_add _ _ _ (by rw [← pow128]; exact hu) (by rw [← pow128]; exact hb), pow128]
  · rw [Nat.pow_succ]
    have h2 : c * 128 ^ k ≤ 127 * 128 ^ k := Nat.mul_le_mul_right _ (by omega)
    omega

theorem digsF_len : ∀ f u, 1 ≤ (digsF f u).length ∧ (digsF f u).length ≤ f + 1
  | 0, u => by simp [digsF]
  | f + 1, u => by
    unfold digsF
    split
    · simp
    · have := digsF_len f (u / 128)
      simp only [List.length_cons]
      omega
theorem digs_len (u : Nat) : 1 ≤ (digs u).length ∧ (digs u).length ≤ 10 := digsF_len 9 u
theorem digsF_byt : ∀ f u, u < 2 * 128 ^ f → Byt (digsF f u)
  | 0, u, h => by
    intro x hx
    simp [digsF] at hx
    simp at h
    omega
  | f + 1, u, h => by
    intro x hx
    unfold digsF at hx
    split at hx
    · simp at hx; omega
    · rcases List.mem_cons.1 hx with rfl | hx
      · omega
      · refine digsF_byt f (u / 128) ?_ x hx
        rw [Nat.pow_succ] at h
        omega
theorem digs_byt (u : Nat) (h : u < 18446744073709551616) : Byt (digs u) := digsF_byt 9 u (by omega)

/-- The bytes of a number, read: that number, all of them. -/
theorem getF_digsF (rest : List Int) : ∀ f u i v, i + f = 9 → u < 2 * 128 ^ f → (0 < i → 0 < u) →
    getF (digsF f u ++ rest) i v = (uz (v + u * 128 ^ i), ((i + (digsF f u).length : Nat) : Int), 0)
  | 0, u, i, v, hi, hu, hp => by
    simp at hu
    simp only [digsF, List.cons_append, List.nil_append, getF]
    rw [if_neg (by omega), if_neg (by omega), if_neg (by omega)]
    simp
  | f + 1, u, i, v, hi, hu, hp => by
    unfold digsF
    by_cases h : u < 128
    · rw [if_pos h]
      simp only [List.cons_append, List.nil_append, getF]
      rw [if_neg (by omega), if_neg (by omega), if_neg (by omega)]
      simp
    · rw [if_neg h]
      simp only [List.cons_append, getF]
      rw [if_neg (by omega), if_pos (by omega)]
      have hlt : u / 128 < 2 * 128 ^ f := by rw [Nat.pow_succ] at hu; omega
      rw [getF_digsF rest f (u / 128) (i + 1) _ (by omega) hlt (by omega)]
      have e : v + ((((u % 128 + 128 : Nat) : Int)).toNat % 128) * 128 ^ i + u / 128 * 128 ^ (i + 1) = v + u * 128 ^ i := by
        rw [Int.toNat_natCast, Nat.pow_succ]
        have h1 : (u % 128 + 128) % 128 = u % 128 := by omega
        have h2 : u / 128 * (128 ^ i * 128) = (128 * (u / 128)) * 128 ^ i := by
          rw [Nat.mul_comm (128 ^ i) 128, ← Nat.mul_assoc, Nat.mul_comm (u / 128) 128]
        rw [h1, h2, Nat.add_assoc, ← Nat.add_mul]
        have h3 : u % 128 + 128 * (u / 128) = u := by omega
        rw [h3]
      rw [e]
      simp only [List.length_cons, Prod.mk.injEq, true_and, and_true]
      omega
theorem getM_digs (u : Nat) (rest : List Int) (h : u < 18446744073709551616) : getM (digs u ++ rest) = (uz u, ((digs u).length : Int), 0) := by
  have := getF_digsF rest 9 u 0 0 (by omega) (by omega) (by omega)
  simpa [getM, digs] using this
/-- Cut off anywhere it is not all there. -/
theorem getF_cut : ∀ f u i v k, i + f = 9 → u < 2 * 128 ^ f → k < (digsF f u).length → getF ((digsF f u).take k) i v = (0, 0, 2)
  | _, _, _, _, 0, _, _, _ => by simp [getF]
  | 0, u, i, v, k + 1, hi, hu, hk => by simp [digsF] at hk
  | f + 1, u, i, v, k + 1, hi, hu, hk => by
    unfold digsF at hk ⊢
    by_cases h : u < 128
    · rw [if_pos h] at hk; simp at hk
    · rw [if_neg h] at hk ⊢
      simp only [List.length_cons] at hk
      simp only [List.take_succ_cons, getF]
      rw [if_neg (by omega), if_pos (by omega)]
      exact getF_cut f (u / 128) (i + 1) _ k (by omega) (by rw [Nat.pow_succ] at hu; omega) (by omega)
theorem getM_cut (u k : Nat) (h : u < 18446744073709551616) (hk : k < (digs u).length) : getM ((digs u).take k) = (0, 0, 2) :=
  getF_cut 9 u 0 0 k (by omega) (by omega) hk
end Go.Proofs.Ytafchnieimhlbaa

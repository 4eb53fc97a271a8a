/-
  Plain facts about the sums of package crc: one bit at a time; that it goes over exclusive ors; half a byte at a time; bursts. No program is named here.
-/
import Derived.Test.YtjnempfjoebojaaDoorBts
import Derived.WalkKit
namespace Go.Proofs.YtjnempfjoebojaaDoor
open Go.RowKit

/-- One bit leaves the register. -/
def st (c : Nat) : Nat := if c % 2 = 1 then (c / 2) ^^^ 3988292384 else c / 2
/-- So many bits leave it. -/
def sts : Nat → Nat → Nat
  | 0, c => c
  | n + 1, c => sts n (st c)
/-- What four bits leave behind. -/
def tabL : List Nat := [0, 498536548, 997073096, 651767980, 1994146192, 1802195444, 1303535960, 1342533948, 3988292384, 4027552580, 3604390888, 3412177804, 2607071920, 2262029012, 2685067896, 3183342108]
/-- The register behind some bytes. -/
def crcF : Nat → List Int → Nat
  | r, [] => r
  | r, c :: t => crcF (sts 8 (r ^^^ c.toNat)) t
def sumM (xs : List Int) : Nat := crcF 4294967295 xs ^^^ 4294967295
def moreM (s : Nat) (xs : List Int) : Nat := crcF (s ^^^ 4294967295) xs ^^^ 4294967295
def xorL (xs ys : List Int) : List Int := List.zipWith (fun a b => ((a.toNat ^^^ b.toNat : Nat) : Int)) xs ys
/-- Bytes as one number, the first one lowest. -/
def numL : List Int → Nat
  | [] => 0
  | c :: t => c.toNat ^^^ (numL t * 256)

theorem crcF_cons (r : Nat) (c : Int) (t : List Int) : crcF r (c :: t) = crcF (sts 8 (r ^^^ c.toNat)) t := rfl
theorem xor_div2 (a b : Nat) : (a ^^^ b) / 2 = (a / 2) ^^^ (b / 2) := by
  have := Nat.shiftRight_xor_distrib (a := a) (b := b) (i := 1)
  simpa [Nat.shiftRight_eq_div_pow] using this
theorem xor_mod2 (a b : Nat) : (a ^^^ b) % 2 = (a + b) % 2 := by
  have h := Nat.testBit_xor a b 0
  simp only [Nat.testBit_zero] at h
  rcases Nat.mod_two_eq_zero_or_one a with ha | ha <;> rcases Nat.mod_two_eq_zero_or_one b with hb | hb <;> rcases Nat.mod_two_eq_zero_or_one (a ^^^ b) with hc | hc <;> simp [ha, hb, hc] at h <;> omega
theorem xor_self_mid (a b p : Nat) : (a ^^^ p) ^^^ (b ^^^ p) = a ^^^ b := by
  rw [Nat.xor_comm b p, Nat.xor_assoc, ← Nat.xor_assoc p p b, Nat.xor_self, Nat.zero_xor]
theorem st_xor (a b : Nat) : st (a ^^^ b) = st a ^^^ st b := by
  unfold st
  rw [xor_div2, xor_mod2]
  by_cases ha : a % 2 = 1 <;> by_cases hb : b % 2 = 1
  · rw [if_pos ha, if_pos hb, if_neg (by omega), xor_self_mid]
  · rw [if_pos ha, if_neg hb, if_pos (by omega), Nat.xor_assoc, Nat.xor_comm (b / 2), Nat.xor_assoc]
  · rw [if_neg ha, if_pos hb, if_pos (by omega), Nat.xor_assoc]
  · rw [if_neg ha, if_neg hb, if_neg (by omega)]
theorem sts_xor : ∀ (n a b : Nat), sts n (a ^^^ b) = sts n a ^^^ sts n b
  | 0, _, _ => rfl
  | n + 1, a, b => by unfold sts; rw [st_xor, sts_xor n]
theorem sts_add : ∀ (m n c : Nat), sts (m + n) c = sts n (sts m c)
  | 0, n, c => by rw [Nat.zero_add]; rfl
  | m + 1, n, c => by rw [Nat.succ_add]; show sts (m + n) (st c) = sts n (sts m (st c)); exact sts_add m n _
theorem sts_shift : ∀ (n v : Nat), sts n (v * 2 ^ n) = v
  | 0, v => by simp [sts]
  | n + 1, v => by
    unfold sts
    have h : v * 2 ^ (n + 1) = 2 * (v * 2 ^ n) := by rw [Nat.pow_succ, ← Nat.mul_assoc, Nat.mul_comm]
    have : st (v * 2 ^ (n + 1)) = v * 2 ^ n := by
      unfold st
      rw [h, if_neg (by omega)]
      omega
    rw [this, sts_shift n]
theorem split16 (r : Nat) : r = (r % 16) ^^^ (r / 16 * 2 ^ 4) := by
  apply Nat.eq_of_testBit_eq
  intro i
  rw [Nat.testBit_xor, Nat.mul_comm, show (16 : Nat) = 2 ^ 4 from rfl, Nat.testBit_mod_two_pow, Nat.testBit_two_pow_mul, Nat.testBit_div_two_pow]
  by_cases h : i < 4
  · simp [h, show ¬ (4 ≤ i) by omega]
  · simp [h, show 4 ≤ i by omega]
theorem tab16 : ∀ i, i < 16 → sts 4 i = tabL.getD i 0 := by decide
theorem half_is (r : Nat) : tabL.getD (r % 16) 0 ^^^ (r / 16) = sts 4 r := by
  conv => rhs; rw [split16 r]
  rw [sts_xor, sts_shift, tab16 _ (by omega)]
theorem half_half (r : Nat) : sts 4 (sts 4 r) = sts 8 r := (sts_add 4 4 r).symm

theorem xor_lt32 {a b : Nat} (ha : a < 4294967296) (hb : b < 4294967296) : a ^^^ b < 4294967296 := Nat.xor_lt_two_pow (n := 32) ha hb
theorem st_lt (c : Nat) (h : c < 4294967296) : st c < 4294967296 := by
  unfold st
  split
  · exact xor_lt32 (by omega) (by omega)
  · omega
theorem sts_lt : ∀ (n c : Nat), c < 4294967296 → sts n c < 4294967296
  | 0, _, h => h
  | n + 1, c, h => sts_lt n _ (st_lt c h)
theorem tab_lt (i : Nat) : tabL.getD i 0 < 4294967296 := by
  rcases Nat.lt_or_ge i 16 with h | h
  · rw [← tab16 i h]; exact sts_lt _ _ (by omega)
  · rw [List.getD_eq_getElem?_getD, List.getElem?_eq_none (by show 16 ≤ i; exact h)]; decide
theorem xor_zero_iff {a b : Nat} (h : a ^^^ b = 0) : a = b := by
  have := congrArg (· ^^^ b) h
  simp only [Nat.xor_assoc, Nat.xor_self, Nat.xor_zero, Nat.zero_xor] at this
  exact this
theorem st_zero (c : Nat) (h : c < 4294967296) (h0 : st c = 0) : c = 0 := by
  unfold st at h0
  split at h0
  · have := xor_zero_iff h0
    omega
  · omega
theorem sts_zero : ∀ (n c : Nat), c < 4294967296 → sts n c = 0 → c = 0
  | 0, _, _, h0 => h0
  | n + 1, c, h, h0 => st_zero c h (sts_zero n _ (st_lt c h) h0)

theorem byt_toNat {c : Int} (h : 0 ≤ c ∧ c ≤ 255) : c.toNat < 256 := by omega
theorem byt_cons {c : Int} {t : List Int} (h : Byt (c :: t)) : (0 ≤ c ∧ c ≤ 255) ∧ Byt t := ⟨h c (by simp), fun x hx => h x (by simp [hx])⟩
theorem crcF_lt : ∀ (xs : List Int) (r : Nat), r < 4294967296 → Byt xs → crcF r xs < 4294967296
  | [], _, h, _ => h
  | c :: t, r, h, hb => by
    unfold crcF
    obtain ⟨hc, ht⟩ := byt_cons hb
    exact crcF_lt t _ (sts_lt _ _ (xor_lt32 h (by omega))) ht
theorem sumM_lt (xs : List Int) (h : Byt xs) : sumM xs < 4294967296 := xor_lt32 (crcF_lt xs _ (by omega) h) (by omega)
theorem moreM_lt (s : Nat) (xs : List Int) (hs : s < 4294967296) (h : Byt xs) : moreM s xs < 4294967296 := xor_lt32 (crcF_lt xs _ (xor_lt32 hs (by omega)) h) (by omega)
theorem crcF_append : ∀ (xs ys : List Int) (r : Nat), crcF r (xs ++ ys) = crcF (crcF r xs) ys
  | [], _, _ => rfl
  | c :: t, ys, r => by rw [List.cons_append]; show crcF (sts 8 (r ^^^ c.toNat)) (t ++ ys) = crcF (crcF (sts 8 (r ^^^ c.toNat)) t) ys; exact crcF_append t ys _
theorem more_zero (xs : List Int) : moreM 0 xs = sumM xs := by unfold moreM sumM; rw [Nat.zero_xor]
theorem xor_back (a m : Nat) : (a ^^^ m) ^^^ m = a := by rw [Nat.xor_assoc, Nat.xor_self, Nat.xor_zero]
theorem more_sum (a b : List Int) : moreM (sumM a) b = sumM (a ++ b) := by
  unfold moreM sumM
  rw [xor_back, crcF_append]
theorem more_more (s : Nat) (a b : List Int) : moreM (moreM s a) b = moreM s (a ++ b) := by
  unfold moreM
  rw [xor_back, crcF_append]
theorem xor4 (a b c d : Nat) : (a ^^^ b) ^^^ (c ^^^ d) = (a ^^^ c) ^^^ (b ^^^ d) := by
  rw [Nat.xor_assoc, Nat.xor_assoc, ← Nat.xor_assoc b c d, Nat.xor_comm b c, Nat.xor_assoc c b d]
theorem crcF_xor : ∀ (xs ys : List Int) (r s : Nat), xs.length = ys.length → crcF (r ^^^ s) (xorL xs ys) = crcF r xs ^^^ crcF s ys
  | [], [], _, _, _ => rfl
  | a :: xs, b :: ys, r, s, h => by
    have e : xorL (a :: xs) (b :: ys) = ((a.toNat ^^^ b.toNat : Nat) : Int) :: xorL xs ys := rfl
    rw [e]
    unfold crcF
    rw [Int.toNat_natCast, xor4, sts_xor]
    exact crcF_xor xs ys _ _ (by simpa using h)
  | [], _ :: _, _, _, h => by simp at h
  | _ :: _, [], _, _, h => by simp at h
theorem xorL_length (xs ys : List Int) (h : xs.length = ys.length) : (xorL xs ys).length = xs.length := by
  unfold xorL; rw [List.length_zipWith]; omega
theorem xorL_getD (xs ys : List Int) (k : Nat) (h1 : k < xs.length) (h2 : k < ys.length) : (xorL xs ys).getD k 0 = (((xs.getD k 0).toNat ^^^ (ys.getD k 0).toNat : Nat) : Int) := by
  unfold xorL
  simp [List.getD, h1, h2, List.getElem?_zipWith]
theorem xorL_byt (xs ys : List Int) (hx : Byt xs) (hy : Byt ys) : Byt (xorL xs ys) := by
  intro z hz
  unfold xorL at hz
  obtain ⟨i, hi, rfl⟩ := List.mem_iff_getElem.1 hz
  rw [List.length_zipWith] at hi
  rw [List.getElem_zipWith]
  have i1 : i < xs.length := by omega
  have i2 : i < ys.length := by omega
  have h1 := hx _ (List.getElem_mem i1)
  have h2 := hy _ (List.getElem_mem i2)
  have := Nat.xor_lt_two_pow (n := 8) (x := xs[i].toNat) (y := ys[i].toNat) (by omega) (by omega)
  omega
theorem three (a b c : List Int) (hab : a.length = b.length) (hac : a.length = c.length) : sumM (xorL (xorL a b) c) = (sumM a ^^^ sumM b) ^^^ sumM c := by
  unfold sumM
  have h1 := crcF_xor (xorL a b) c (4294967295 ^^^ 4294967295) 4294967295 (by rw [xorL_length a b hab]; exact hac)
  rw [crcF_xor a b _ _ hab, Nat.xor_self, Nat.zero_xor] at h1
  rw [h1, xor_self_mid, Nat.xor_assoc]
theorem crcF_num : ∀ (xs : List Int) (r : Nat), crcF r xs = sts (8 * xs.length) (r ^^^ numL xs)
  | [], r => by
    show r = r ^^^ 0
    rw [Nat.xor_zero]
  | c :: t, r => by
    unfold crcF numL
    rw [crcF_num t, List.length_cons, show 8 * (t.length + 1) = 8 + 8 * t.length by omega, sts_add]
    conv => lhs; rw [← sts_shift 8 (numL t)]
    rw [← sts_xor, Nat.xor_assoc]
theorem numL_lt : ∀ (xs : List Int), Byt xs → numL xs < 2 ^ (8 * xs.length)
  | [], _ => by simp [numL]
  | c :: t, h => by
    obtain ⟨hc, ht⟩ := byt_cons h
    have ih := numL_lt t ht
    unfold numL
    rw [List.length_cons, show 8 * (t.length + 1) = 8 * t.length + 8 by omega]
    have hp := Nat.one_le_two_pow (n := 8 * t.length)
    apply Nat.xor_lt_two_pow
    · rw [Nat.pow_add]; omega
    · rw [Nat.pow_add]; omega
theorem numL_zero : ∀ (xs : List Int), Byt xs → numL xs = 0 → ∀ x ∈ xs, x = 0
  | [], _, _, x, hx => by cases hx
  | c :: t, h, h0, x, hx => by
    obtain ⟨hc, ht⟩ := byt_cons h
    unfold numL at h0
    have e := xor_zero_iff h0
    have hn : numL t = 0 := by omega
    rcases List.mem_cons.1 hx with rfl | hx
    · omega
    · exact numL_zero t ht hn x hx
/-- Of bytes of which up to four behind one another are changed the sum is another one. -/
theorem burst (pre mid post x : List Int) (hx : Byt x) (hl : mid.length = x.length) (h4 : x.length ≤ 4) (hs : ∃ y ∈ x, y ≠ 0) :
    sumM (pre ++ (mid ++ post)) ≠ sumM (pre ++ (xorL mid x ++ post)) := by
  intro h
  unfold sumM at h
  have h := congrArg (· ^^^ 4294967295) h
  simp only [xor_back, crcF_append] at h
  generalize crcF 4294967295 pre = q at h
  have h1 := crcF_xor mid x q 0 hl
  rw [Nat.xor_zero] at h1
  rw [h1] at h
  generalize crcF q mid = A at h
  have hD : crcF 0 x ≠ 0 ∧ crcF 0 x < 4294967296 := by
    refine ⟨fun h0 => ?_, crcF_lt x 0 (by omega) hx⟩
    rw [crcF_num, Nat.zero_xor] at h0
    have hlt := numL_lt x hx
    have hle : 2 ^ (8 * x.length) ≤ 2 ^ 32 := Nat.pow_le_pow_right (by omega) (by omega)
    have hz := numL_zero x hx (sts_zero _ _ (by omega) h0)
    obtain ⟨y, hy, hy0⟩ := hs
    exact hy0 (hz y hy)
  obtain ⟨hD0, hDl⟩ := hD
  generalize crcF 0 x = D at *
  rw [crcF_num post A, crcF_num post (A ^^^ D), Nat.xor_assoc, Nat.xor_comm D, ← Nat.xor_assoc, sts_xor _ _ D] at h
  generalize sts (8 * post.length) (A ^^^ numL post) = B at h
  have h2 : sts (8 * post.length) D = 0 := by
    have := congrArg (B ^^^ ·) h
    simp only [← Nat.xor_assoc, Nat.xor_self, Nat.zero_xor] at this
    exact this.symm
  exact hD0 (sts_zero _ _ hDl h2)
/-- The bytes from place t on are changed, k of them. -/
def burstN (A : List Int) (t : Nat) (X : List Int) : Nat → List Int
  | 0 => A
  | k + 1 => (burstN A t X k).set (t + k) (((A.getD (t + k) 0).toNat ^^^ (X.getD k 0).toNat : Nat) : Int)
theorem burstN_length (A : List Int) (t : Nat) (X : List Int) : ∀ k, (burstN A t X k).length = A.length
  | 0 => rfl
  | k + 1 => by unfold burstN; rw [List.length_set, burstN_length A t X k]
theorem burstN_at (A : List Int) (t : Nat) (X : List Int) : ∀ (k j : Nat), (burstN A t X k)[j]? = if t ≤ j ∧ j < t + k ∧ j < A.length then some (((A.getD j 0).toNat ^^^ (X.getD (j - t) 0).toNat : Nat) : Int) else A[j]?
  | 0, j => by rw [if_neg (by omega)]; rfl
  | k + 1, j => by
    unfold burstN
    rw [List.getElem?_set, burstN_length, burstN_at A t X k j]
    by_cases h : t + k = j
    · subst h
      by_cases hl : t + k < A.length
      · rw [if_pos rfl, if_pos hl, if_pos (by omega), Nat.add_sub_cancel_left]
      · rw [if_pos rfl, if_neg hl, if_neg (by omega), List.getElem?_eq_none (by omega)]
    · rw [if_neg h]
      by_cases h2 : t ≤ j ∧ j < t + k ∧ j < A.length
      · rw [if_pos h2, if_pos (by omega)]
      · rw [if_neg h2, if_neg (by omega)]
theorem burstN_next (A : List Int) (t : Nat) (X : List Int) (k : Nat) : (burstN A t X k).getD (t + k) 0 = A.getD (t + k) 0 := by
  rw [List.getD_eq_getElem?_getD, burstN_at, if_neg (by omega), ← List.getD_eq_getElem?_getD]
theorem burstN_is (A : List Int) (t : Nat) (X : List Int) (h : t + X.length ≤ A.length) : burstN A t X X.length = A.take t ++ (xorL ((A.drop t).take X.length) X ++ A.drop (t + X.length)) := by
  have hl1 : (A.take t).length = t := by rw [List.length_take]; omega
  have hlm : ((A.drop t).take X.length).length = X.length := by rw [List.length_take, List.length_drop]; omega
  have hl2 : (xorL ((A.drop t).take X.length) X).length = X.length := by rw [xorL_length _ _ hlm, hlm]
  apply List.ext_getElem?
  intro j
  rw [burstN_at, List.getElem?_append, List.getElem?_append, hl1, hl2]
  by_cases h1 : j < t
  · rw [if_neg (by omega), if_pos h1, List.getElem?_take, if_pos h1]
  · rw [if_neg h1]
    by_cases h2 : j - t < X.length
    · rw [if_pos (by omega), if_pos h2]
      have := xorL_getD ((A.drop t).take X.length) X (j - t) (by omega) h2
      have e : ((A.drop t).take X.length).getD (j - t) 0 = A.getD j 0 := by
        rw [List.getD_eq_getElem?_getD, List.getElem?_take, if_pos h2, List.getElem?_drop, Nat.add_sub_cancel' (by omega), ← List.getD_eq_getElem?_getD]
      rw [e] at this
      rw [← this]
      simp [List.getD, show j - t < (xorL ((A.drop t).take X.length) X).length by omega]
    · rw [if_neg (by omega), if_neg h2, List.getElem?_drop]
      congr 1
      omega
theorem burstN_sum (A : List Int) (t : Nat) (X : List Int) (h : t + X.length ≤ A.length) (hx : Byt X) (h4 : X.length ≤ 4) (hs : X.any (· != 0) = true) : sumM A ≠ sumM (burstN A t X X.length) := by
  have hlm : ((A.drop t).take X.length).length = X.length := by rw [List.length_take, List.length_drop]; omega
  have hA : A = A.take t ++ ((A.drop t).take X.length ++ A.drop (t + X.length)) := by
    rw [← List.drop_drop, List.take_append_drop, List.take_append_drop]
  have hb := burst (A.take t) ((A.drop t).take X.length) (A.drop (t + X.length)) X hx hlm h4 (by
    obtain ⟨y, hy, hy0⟩ := List.any_eq_true.1 hs
    exact ⟨y, hy, by simpa using hy0⟩)
  rw [← hA, ← burstN_is A t X h] at hb
  exact hb
theorem burstN_byt (A : List Int) (t : Nat) (X : List Int) (hA : Byt A) (hX : Byt X) : ∀ k, Byt (burstN A t X k)
  | 0 => hA
  | k + 1 => by
    intro z hz
    unfold burstN at hz
    rcases List.mem_or_eq_of_mem_set hz with h | rfl
    · exact burstN_byt A t X hA hX k z h
    · have g : ∀ (l : List Int), Byt l → ∀ i, (l.getD i 0).toNat < 256 := by
        intro l hl i
        rcases Nat.lt_or_ge i l.length with h | h
        · have := byt_getD hl i h; omega
        · rw [List.getD_eq_getElem?_getD, List.getElem?_eq_none h]; decide
      have := Nat.xor_lt_two_pow (n := 8) (g A hA (t + k)) (g X hX k)
      omega
theorem any_next (X : List Int) (k : Nat) (h : k < X.length) : (X.take (k + 1)).any (· != 0) = ((X.take k).any (· != 0) || (X.getD k 0 != 0)) := by
  rw [List.take_add_one, List.any_append]
  simp [List.getD, h]
end Go.Proofs.YtjnempfjoebojaaDoor

/-
  UTF-8 at a place of a text: how many bytes, whether it is one; the first fault, the number of runes; of two texts one behind the other. No program.
-/
import Derived.Lib.DecodeN
import Derived.WalkKit
import Derived.Test.YtakllllnpdnpdaaByte
set_option linter.unusedVariables false
namespace Go.Proofs.Ytakllllnpdnpdaa
open Go.Lib

/-! ### Four bytes -/
theorem dN_ge (n b0 b1 b2 b3 : Nat) : 1 ≤ (decodeN n b0 b1 b2 b3).2 := by
  unfold decodeN
  repeat' split
  all_goals simp
theorem dN_le (n b0 b1 b2 b3 : Nat) (hn : 1 ≤ n) : (decodeN n b0 b1 b2 b3).2 ≤ n := by
  unfold decodeN
  repeat' split
  all_goals (dsimp only; omega)
theorem dN_le4 (n b0 b1 b2 b3 : Nat) : (decodeN n b0 b1 b2 b3).2 ≤ 4 := by
  unfold decodeN
  repeat' split
  all_goals simp
theorem dN_rune (n b0 b1 b2 b3 : Nat) (h0 : b0 < 256) : (decodeN n b0 b1 b2 b3).1 ≤ 1114111 := by
  unfold decodeN
  repeat' split
  all_goals (dsimp only; omega)
/-- What no text may hold, by its number. -/
def ctl (r : Nat) : Bool := (decide (r < 32) && (decide (r ≠ 9) && decide (r ≠ 10))) || decide (r = 127)
/-- The first byte is no UTF-8. -/
def errN (n b0 b1 b2 b3 : Nat) : Bool := decide ((decodeN n b0 b1 b2 b3).2 = 1) && decide (128 ≤ b0)
def repN (n b0 b1 b2 : Nat) : Bool := decide (3 ≤ n ∧ b0 = 239 ∧ b1 = 191 ∧ b2 = 189)
set_option maxHeartbeats 2000000 in
theorem dN_shape (n b0 b1 b2 b3 : Nat) (h1 : b1 < 256) (h2 : b2 < 256) :
    (b0 < 128 ∧ (decodeN n b0 b1 b2 b3).1 = b0 ∧ (decodeN n b0 b1 b2 b3).2 = 1) ∨
    (128 ≤ b0 ∧ (decodeN n b0 b1 b2 b3).1 = 65533 ∧ (decodeN n b0 b1 b2 b3).2 = 1 ∧ ¬ (3 ≤ n ∧ b0 = 239 ∧ b1 = 191 ∧ b2 = 189)) ∨
    (128 ≤ b0 ∧ 128 ≤ (decodeN n b0 b1 b2 b3).1 ∧ (decodeN n b0 b1 b2 b3).2 ≠ 1 ∧ ((decodeN n b0 b1 b2 b3).1 = 65533 ↔ 3 ≤ n ∧ b0 = 239 ∧ b1 = 191 ∧ b2 = 189)) := by
  unfold decodeN
  repeat' split
  all_goals (dsimp only; omega)
theorem ctl_high (r : Nat) (h : 128 ≤ r) : ctl r = false := by
  have a1 : ¬ r < 32 := by omega
  have a2 : ¬ r = 127 := by omega
  simp [ctl, a1, a2]
theorem ctl_rune (n b0 b1 b2 b3 : Nat) (h1 : b1 < 256) (h2 : b2 < 256) : ctl (decodeN n b0 b1 b2 b3).1 = ctl b0 := by
  rcases dN_shape n b0 b1 b2 b3 h1 h2 with ⟨_, h, _⟩ | ⟨h, h', _⟩ | ⟨h, h', _⟩
  · rw [h]
  · rw [ctl_high b0 h, h']; rfl
  · rw [ctl_high b0 h, ctl_high _ h']
theorem err_rune (n b0 b1 b2 b3 : Nat) (h1 : b1 < 256) (h2 : b2 < 256) (h : (decodeN n b0 b1 b2 b3).1 ≠ 65533) : errN n b0 b1 b2 b3 = false := by
  unfold errN
  rcases dN_shape n b0 b1 b2 b3 h1 h2 with ⟨h', _⟩ | ⟨_, h', _⟩ | ⟨_, _, h', _⟩
  · rw [decide_eq_false (show ¬ 128 ≤ b0 by omega), Bool.and_false]
  · exact absurd h' h
  · rw [decide_eq_false h']; rfl
theorem err_rep (n b0 b1 b2 b3 : Nat) (h1 : b1 < 256) (h2 : b2 < 256) (h : (decodeN n b0 b1 b2 b3).1 = 65533) (h0 : b0 < 256) : errN n b0 b1 b2 b3 = !repN n b0 b1 b2 := by
  unfold errN repN
  rcases dN_shape n b0 b1 b2 b3 h1 h2 with ⟨h', h'', _⟩ | ⟨h3, _, h4, h5⟩ | ⟨_, _, h', h5⟩
  · omega
  · rw [decide_eq_true h3, decide_eq_true h4, decide_eq_false h5]; rfl
  · rw [decide_eq_false h', decide_eq_true (h5.1 h)]; rfl
/-- What the reference tells. -/
def refN (n b0 b1 b2 b3 : Nat) : Nat × Bool :=
  if b0 < 128 then (1, true)
  else if 192 ≤ b0 ∧ b0 < 224 then
    if n < 2 then (1, false) else if b1 < 128 ∨ 191 < b1 then (1, false)
    else if (b0 - 192) * 64 + b1 - 128 < 128 then (1, false) else (2, true)
  else if 224 ≤ b0 ∧ b0 < 240 then
    if n < 3 then (1, false) else if b1 < 128 ∨ 191 < b1 then (1, false) else if b2 < 128 ∨ 191 < b2 then (1, false)
    else if ((b0 - 224) * 64 + b1 - 128) * 64 + b2 - 128 < 2048 ∨ (55296 ≤ ((b0 - 224) * 64 + b1 - 128) * 64 + b2 - 128 ∧ ((b0 - 224) * 64 + b1 - 128) * 64 + b2 - 128 < 57344) then (1, false) else (3, true)
  else if 240 ≤ b0 ∧ b0 < 248 then
    if n < 4 then (1, false) else if b1 < 128 ∨ 191 < b1 then (1, false) else if b2 < 128 ∨ 191 < b2 then (1, false) else if b3 < 128 ∨ 191 < b3 then (1, false)
    else if (((b0 - 240) * 64 + b1 - 128) * 64 + b2 - 128) * 64 + b3 - 128 < 65536 ∨ 1114111 < (((b0 - 240) * 64 + b1 - 128) * 64 + b2 - 128) * 64 + b3 - 128 then (1, false) else (4, true)
  else (1, false)
set_option maxHeartbeats 8000000 in
set_option maxRecDepth 100000 in
theorem refN_eq (n b0 b1 b2 b3 : Nat) (hn : 1 ≤ n) (h0 : b0 < 256) (h1 : b1 < 256) (h2 : b2 < 256) (h3 : b3 < 256) : refN n b0 b1 b2 b3 = ((decodeN n b0 b1 b2 b3).2, !errN n b0 b1 b2 b3) := by
  by_cases c0 : b0 < 128
  · simp [refN, errN, decodeN, c0]
  · have he : errN n b0 b1 b2 b3 = decide ((decodeN n b0 b1 b2 b3).2 = 1) := by rw [errN, decide_eq_true (show 128 ≤ b0 by omega), Bool.and_true]
    rw [he]
    unfold refN decodeN
    rw [if_neg c0, if_neg c0]
    repeat' split
    all_goals first | rfl | (exfalso; omega)
/-- A rune that is there in a text is there with more behind it. -/
theorem dN_more (n n' b0 b1 b2 b3 c1 c2 c3 : Nat) (hn : 1 ≤ n) (hnn : n ≤ n') (e1 : 1 < n → c1 = b1) (e2 : 2 < n → c2 = b2) (e3 : 3 < n → c3 = b3) (h : errN n b0 b1 b2 b3 = false) :
    decodeN n' b0 c1 c2 c3 = decodeN n b0 b1 b2 b3 := by
  have h' : (decodeN n b0 b1 b2 b3).2 ≠ 1 ∨ b0 < 128 := by
    simp only [errN, Bool.and_eq_false_iff, decide_eq_false_iff_not] at h
    omega
  clear h
  by_cases c0 : b0 < 128
  · simp [decodeN, c0]
  · have h1 : 1 < n := by
      have := dN_le n b0 b1 b2 b3 hn
      have := dN_ge n b0 b1 b2 b3
      omega
    have h1' : 1 < n' := by omega
    rw [e1 h1]
    by_cases c2 : b0 / 32 = 6
    · have c3 : ¬ b0 / 16 = 14 := by omega
      have c4 : ¬ b0 / 8 = 30 := by omega
      unfold decodeN
      simp only [c0, c2, c3, c4, h1, h1', if_false, true_and, false_and]
    · by_cases c3 : b0 / 16 = 14
      · have c4 : ¬ b0 / 8 = 30 := by omega
        have h2 : 2 < n := by
          refine Decidable.byContradiction fun h2 => ?_
          have : (decodeN n b0 b1 b2 b3).2 = 1 := by
            unfold decodeN
            simp only [c0, c2, c3, c4, h1, h2, if_false, true_and, false_and, and_false]
          omega
        have h2' : 2 < n' := by omega
        rw [e2 h2]
        unfold decodeN
        simp only [c0, c2, c3, c4, h1, h1', h2, h2', if_false, true_and, false_and]
      · by_cases c4 : b0 / 8 = 30
        · have h3 : 3 < n := by
            refine Decidable.byContradiction fun h3 => ?_
            have : (decodeN n b0 b1 b2 b3).2 = 1 := by
              unfold decodeN
              simp only [c0, c2, c3, c4, h1, h3, if_false, true_and, false_and, and_false]
            omega
          have h2 : 2 < n := by omega
          have h2' : 2 < n' := by omega
          have h3' : 3 < n' := by omega
          rw [e2 h2, e3 h3]
          unfold decodeN
          simp only [c0, c2, c3, c4, h1, h1', h2, h2', h3, h3', if_false, true_and, false_and]
        · unfold decodeN
          simp only [c0, c2, c3, c4, if_false, false_and]

/-! ### Places of a text -/
def wid (s : ByteArray) (i : Nat) : Nat := (Utf8.decode s i).2
theorem dec_at (s : ByteArray) (i : Nat) : Utf8.decode s i = decodeN (s.size - i) (byteAt s i) (byteAt s (i + 1)) (byteAt s (i + 2)) (byteAt s (i + 3)) := decode_at s i
def err (s : ByteArray) (i : Nat) : Bool := errN (s.size - i) (byteAt s i) (byteAt s (i + 1)) (byteAt s (i + 2)) (byteAt s (i + 3))
theorem wid_ge (s : ByteArray) (i : Nat) : 1 ≤ wid s i := by unfold wid; rw [dec_at]; exact dN_ge _ _ _ _ _
theorem wid_le4 (s : ByteArray) (i : Nat) : wid s i ≤ 4 := by unfold wid; rw [dec_at]; exact dN_le4 _ _ _ _ _
theorem wid_le (s : ByteArray) (i : Nat) (h : i < s.size) : i + wid s i ≤ s.size := by
  unfold wid; rw [dec_at]
  have := dN_le (s.size - i) (byteAt s i) (byteAt s (i + 1)) (byteAt s (i + 2)) (byteAt s (i + 3)) (by omega)
  omega
theorem dec_extract (s : ByteArray) (a : Nat) (h : a ≤ s.size) : Utf8.decode (s.extract a s.size) 0 = Utf8.decode s a := by
  rw [dec_at, dec_at]
  simp only [byteAt_extract, Nat.add_zero, Nat.zero_add, ByteArray.size_extract, Nat.sub_zero, Nat.min_self]
theorem err_extract (s : ByteArray) (a : Nat) (h : a ≤ s.size) : err (s.extract a s.size) 0 = err s a := by
  unfold err
  simp only [byteAt_extract, Nat.add_zero, Nat.zero_add, ByteArray.size_extract, Nat.sub_zero, Nat.min_self]
theorem dec_right (a b : ByteArray) (i : Nat) : Utf8.decode (a ++ b) (a.size + i) = Utf8.decode b i ∧ err (a ++ b) (a.size + i) = err b i := by
  rw [dec_at, dec_at]
  unfold err
  simp only [Nat.add_assoc, byteAt_right, ByteArray.size_append, show a.size + b.size - (a.size + i) = b.size - i by omega, and_self]
theorem dec_left (a b : ByteArray) (i : Nat) (h : i < a.size) (he : err a i = false) : Utf8.decode (a ++ b) i = Utf8.decode a i ∧ err (a ++ b) i = false := by
  have hd : Utf8.decode (a ++ b) i = Utf8.decode a i := by
    rw [dec_at, dec_at, byteAt_left a b i h]
    exact dN_more _ _ _ _ _ _ _ _ _ (by omega) (by rw [ByteArray.size_append]; omega) (fun h => byteAt_left a b _ (by omega)) (fun h => byteAt_left a b _ (by omega)) (fun h => byteAt_left a b _ (by omega)) he
  refine ⟨hd, ?_⟩
  unfold err errN at *
  rw [dec_at, dec_at] at hd
  rw [hd, byteAt_left a b i h]
  exact he

/-! ### The first fault, how many runes -/
def bad (s : ByteArray) (i : Nat) : Bool := ctl (byteAt s i) || err s i
def fltF (s : ByteArray) : Nat → Nat → Int
  | 0, _ => -1
  | f + 1, pos => if pos < s.size then (if bad s pos then (pos : Int) else fltF s f (pos + wid s pos)) else -1
def flt (s : ByteArray) : Int := fltF s s.size 0
def cntF (s : ByteArray) : Nat → Nat → Nat
  | 0, _ => 0
  | f + 1, pos => if pos < s.size then cntF s f (pos + wid s pos) + 1 else 0
def cnt (s : ByteArray) : Nat := cntF s s.size 0
theorem fltF_end (s : ByteArray) (f pos : Nat) (h : ¬ pos < s.size) : fltF s f pos = -1 := by
  cases f with
  | zero => rfl
  | succ f => simp [fltF, h]
theorem cntF_end (s : ByteArray) (f pos : Nat) (h : ¬ pos < s.size) : cntF s f pos = 0 := by
  cases f with
  | zero => rfl
  | succ f => simp [cntF, h]
theorem fltF_fuel (s : ByteArray) : ∀ (f g pos : Nat), s.size ≤ pos + f → s.size ≤ pos + g → fltF s f pos = fltF s g pos
  | 0, g, pos, h, _ => by rw [fltF_end s 0 pos (by omega), fltF_end s g pos (by omega)]
  | f + 1, 0, pos, _, h => by rw [fltF_end s 0 pos (by omega), fltF_end s (f + 1) pos (by omega)]
  | f + 1, g + 1, pos, h1, h2 => by
    have := wid_ge s pos
    simp only [fltF]
    rw [fltF_fuel s f g (pos + wid s pos) (by omega) (by omega)]
theorem cntF_fuel (s : ByteArray) : ∀ (f g pos : Nat), s.size ≤ pos + f → s.size ≤ pos + g → cntF s f pos = cntF s g pos
  | 0, g, pos, h, _ => by rw [cntF_end s 0 pos (by omega), cntF_end s g pos (by omega)]
  | f + 1, 0, pos, _, h => by rw [cntF_end s 0 pos (by omega), cntF_end s (f + 1) pos (by omega)]
  | f + 1, g + 1, pos, h1, h2 => by
    have := wid_ge s pos
    simp only [cntF]
    rw [cntF_fuel s f g (pos + wid s pos) (by omega) (by omega)]
theorem fltF_range (s : ByteArray) : ∀ (f pos : Nat), fltF s f pos = -1 ∨ ((pos : Int) ≤ fltF s f pos ∧ fltF s f pos < s.size)
  | 0, _ => .inl rfl
  | f + 1, pos => by
    unfold fltF
    split
    · split
      · exact .inr ⟨Int.le_refl _, by omega⟩
      · rcases fltF_range s f (pos + wid s pos) with h | h
        · exact .inl h
        · exact .inr ⟨by omega, h.2⟩
    · exact .inl rfl
theorem flt_range (s : ByteArray) : flt s = -1 ∨ (0 ≤ flt s ∧ flt s < s.size) := by
  have := fltF_range s s.size 0
  unfold flt
  omega
theorem cntF_le (s : ByteArray) : ∀ (f pos : Nat), cntF s f pos ≤ s.size - pos
  | 0, _ => Nat.zero_le _
  | f + 1, pos => by
    unfold cntF
    split
    · have := cntF_le s f (pos + wid s pos)
      have := wid_le s pos (by assumption)
      have := wid_ge s pos
      omega
    · omega
theorem cnt_le (s : ByteArray) : cnt s ≤ s.size := by
  have := cntF_le s s.size 0
  unfold cnt
  omega
theorem bad_right (a b : ByteArray) (i : Nat) : bad (a ++ b) (a.size + i) = bad b i := by
  unfold bad
  rw [byteAt_right, (dec_right a b i).2]
theorem wid_right (a b : ByteArray) (i : Nat) : wid (a ++ b) (a.size + i) = wid b i := by
  unfold wid
  rw [(dec_right a b i).1]
/-- A fault of the second of two texts, told of both. -/
def moved (n : Nat) (f : Int) : Int := if 0 ≤ f then f + n else f
theorem fltF_right (a b : ByteArray) : ∀ (f i : Nat), fltF (a ++ b) f (a.size + i) = moved a.size (fltF b f i)
  | 0, i => rfl
  | f + 1, i => by
    simp only [fltF, bad_right, wid_right, ByteArray.size_append]
    rw [Nat.add_assoc, fltF_right a b f]
    by_cases h : i < b.size
    · simp only [h, show a.size + i < a.size + b.size by omega, if_true]
      split
      · unfold moved
        rw [if_pos (by omega)]
        omega
      · rfl
    · simp only [h, show ¬ a.size + i < a.size + b.size by omega, if_false]
      rfl
theorem cntF_right (a b : ByteArray) : ∀ (f i : Nat), cntF (a ++ b) f (a.size + i) = cntF b f i
  | 0, i => rfl
  | f + 1, i => by
    simp only [cntF, wid_right, ByteArray.size_append]
    rw [Nat.add_assoc, cntF_right a b f]
    by_cases h : i < b.size
    · simp only [h, show a.size + i < a.size + b.size by omega, if_true]
    · simp only [h, show ¬ a.size + i < a.size + b.size by omega, if_false]
theorem join_left (a b : ByteArray) : ∀ (f g pos : Nat), a.size ≤ pos + f → a.size + b.size ≤ pos + g → pos ≤ a.size → fltF a f pos = -1 →
    fltF (a ++ b) g pos = moved a.size (flt b) ∧ cntF (a ++ b) g pos = cntF a f pos + cnt b := by
  intro f
  induction f with
  | zero =>
    intro g pos h1 h2 h3 _
    obtain rfl : pos = a.size := by omega
    have e1 := fltF_right a b g 0
    have e2 := cntF_right a b g 0
    rw [Nat.add_zero] at e1 e2
    rw [e1, e2, fltF_fuel b g b.size 0 (by omega) (by omega), cntF_fuel b g b.size 0 (by omega) (by omega), cntF_end a 0 a.size (by omega), Nat.zero_add]
    exact ⟨rfl, rfl⟩
  | succ f ih =>
    intro g pos h1 h2 h3 h4
    rcases Nat.lt_or_ge pos a.size with h | h
    · simp only [fltF, h, if_true] at h4
      have hb : bad a pos = false := by
        cases hb : bad a pos with
        | false => rfl
        | true => rw [hb] at h4; simp at h4
      rw [hb] at h4
      simp only [Bool.false_eq_true, if_false] at h4
      obtain ⟨hc, he⟩ : ctl (byteAt a pos) = false ∧ err a pos = false := by simpa [bad] using hb
      have hl := dec_left a b pos h he
      have hbl : bad (a ++ b) pos = false := by unfold bad; rw [byteAt_left a b pos h, hc, hl.2]; rfl
      have hw : wid (a ++ b) pos = wid a pos := by unfold wid; rw [hl.1]
      have hg := wid_ge a pos
      have hle := wid_le a pos h
      cases g with
      | zero => omega
      | succ g =>
        have := ih g (pos + wid a pos) (by omega) (by omega) (by omega) h4
        simp only [fltF, cntF, hbl, hw, ByteArray.size_append, show pos < a.size + b.size by omega, h, if_true, Bool.false_eq_true, if_false, this.1, this.2, true_and]
        omega
    · obtain rfl : pos = a.size := by omega
      have e1 := fltF_right a b g 0
      have e2 := cntF_right a b g 0
      rw [Nat.add_zero] at e1 e2
      rw [e1, e2, fltF_fuel b g b.size 0 (by omega) (by omega), cntF_fuel b g b.size 0 (by omega) (by omega), cntF_end a _ a.size (by omega), Nat.zero_add]
      exact ⟨rfl, rfl⟩
theorem join (a b : ByteArray) (h : flt a = -1) : flt (a ++ b) = moved a.size (flt b) ∧ cnt (a ++ b) = cnt a + cnt b :=
  join_left a b a.size (a ++ b).size 0 (by omega) (by rw [ByteArray.size_append]; omega) (by omega) h
/-- Letters alone. -/
theorem fltF_letters (s : ByteArray) (hs : ∀ i, i < s.size → byteAt s i = 97) : ∀ (f pos : Nat), fltF s f pos = -1
  | 0, _ => rfl
  | f + 1, pos => by
    unfold fltF
    split
    · rename_i h
      have : bad s pos = false := by
        unfold bad err
        rw [hs pos h]
        simp [ctl, errN]
      rw [this, fltF_letters s hs f]
      rfl
    · rfl
end Go.Proofs.Ytakllllnpdnpdaa

/-
  3 texts in one.
-/
import Derived.Test.YtiknnobgoamgcaaGreatDoorB20
import Derived.Test.YtiknnobgoamgcaaGreatDoorB19
import Derived.Test.YtiknnobgoamgcaaGreatDoorB01
import Derived.Laws.OwnMore
/-
  The walks of package scan: quoted, measure; the program's cutter.word.
-/
namespace Go.Proofs.YtiknnobgoamgcaaGreatDoor
open Go.RowKit
set_option linter.unusedSimpArgs false
set_option linter.unusedVariables false
theorem qF_extract (s : ByteArray) (a : Nat) (ha : a ≤ s.size) : ∀ (f k : Nat), qF (s.extract a s.size) f k + a = qF s f (a + k) := by
 intro f
 induction f with
 | zero => intro k; simp only [qF]; omega
 | succ f ih =>
  intro k
  rw [qF, qF, byteAt_extract, ByteArray.size_extract]
  by_cases h : a + k < s.size ∧ byteAt s (a + k) ≠ 34 ∧ byteAt s (a + k) ≠ 10
  ·
   rw [if_pos ⟨by omega, h.2⟩, if_pos h, ih (k + 1)]
   rfl
  ·
   rw [if_neg (fun h' => h ⟨by omega, h'.2⟩), if_neg h]
   omega
theorem qN_extract (s : ByteArray) (a k : Nat) (ha : a + k ≤ s.size) : qN (s.extract a s.size) k + a = qN s (a + k) := by
 have := qF_extract s a (by omega) ((s.extract a s.size).size - k) k
 unfold qN
 rw [this, ByteArray.size_extract, Nat.min_self, Nat.sub_sub]
theorem toF_extract (s : ByteArray) (wd : Bool) (a : Nat) (ha : a ≤ s.size) : ∀ (f k : Nat), toF (s.extract a s.size) wd f k + a = toF s wd f (a + k) := by
 intro f
 induction f with
 | zero => intro k; simp only [toF]; omega
 | succ f ih =>
  intro k
  rw [toF, toF, byteAt_extract, ByteArray.size_extract]
  by_cases h : a + k < s.size ∧ clsB wd (byteAt s (a + k)) = true
  ·
   rw [if_pos ⟨by omega, h.2⟩, if_pos h, ih (k + 1)]
   rfl
  ·
   rw [if_neg (fun h' => h ⟨by omega, h'.2⟩), if_neg h]
   omega
theorem toN_extract (s : ByteArray) (wd : Bool) (a : Nat) (ha : a ≤ s.size) : toN (s.extract a s.size) wd 0 + a = toN s wd a := by
 have := toF_extract s wd a ha ((s.extract a s.size).size - 0) 0
 unfold toN
 rw [this, ByteArray.size_extract, Nat.min_self, Nat.sub_zero, Nat.add_zero]
/-- The token that begins at a place: its length (nought: none may be), its kind. -/
def mN (s : ByteArray) (p : Nat) : Nat :=
 if letB (byteAt s p) then (if toN s true p - p ≤ 24 then toN s true p - p else 0)
 else if digB (byteAt s p) then (if numB s p then toN s false p - p else 0)
 else if byteAt s p = 34 then (if strB s p then qN s (p + 1) + 1 - p else 0)
 else if byteAt s p = 59 then 1 else opN s p
def mK (s : ByteArray) (p : Nat) : Int :=
 if letB (byteAt s p) then (if toN s true p - p ≤ 24 then (if isKey (s.extract p (toN s true p)) then 5 else 1) else 1)
 else if digB (byteAt s p) then 2 else if byteAt s p = 34 then 3 else if byteAt s p = 59 then 6 else 4
theorem opN_extract (s : ByteArray) (p : Nat) (hp : p < s.size) : opN (s.extract p s.size) 0 = opN s p := by
 unfold opN
 rw [ByteArray.size_extract, Nat.min_self, extract_pre s p (0 + 1) (by omega)]
 by_cases h2 : p + 2 ≤ s.size
 ·
  rw [extract_pre s p (0 + 2) (by omega), decide_eq_true (show 0 + 2 ≤ s.size - p by omega), decide_eq_true h2]
 ·
  rw [decide_eq_false (show ¬ 0 + 2 ≤ s.size - p by omega), decide_eq_false h2, Bool.false_and, Bool.false_and]
theorem strB_extract (s : ByteArray) (p : Nat) (hp : p < s.size) : strB (s.extract p s.size) 0 = strB s p := by
 have h := qN_extract s p 1 (by omega)
 unfold strB
 rw [byteAt_extract, ByteArray.size_extract, Nat.min_self, ← h, Nat.zero_add]
 congr 1
 ·
  rw [decide_eq_decide]; omega
 ·
  rw [Nat.add_comm p]
theorem numB_extract (s : ByteArray) (p : Nat) (hp : p < s.size) : numB (s.extract p s.size) 0 = numB s p := by
 have h := toN_extract s false p (by omega)
 unfold numB
 rw [byteAt_extract, byteAt_extract, ByteArray.size_extract, Nat.min_self, ← h, Nat.add_zero, Nat.sub_zero, Nat.add_sub_cancel, Nat.add_comm p]
 congr 3
 rw [decide_eq_decide]; omega
theorem mN_extract (s : ByteArray) (p : Nat) (hp : p < s.size) : mN (s.extract p s.size) 0 = mN s p := by
 have h1 := toN_extract s true p (by omega)
 have h2 := toN_extract s false p (by omega)
 have h3 := qN_extract s p 1 (by omega)
 unfold mN
 rw [byteAt_extract, opN_extract s p hp, strB_extract s p hp, numB_extract s p hp, ← h1, ← h2, ← h3, Nat.add_zero, Nat.sub_zero, Nat.sub_zero, Nat.add_sub_cancel, Nat.add_sub_cancel, Nat.zero_add, Nat.sub_zero, Nat.add_right_comm, Nat.add_sub_cancel]
theorem mK_extract (s : ByteArray) (p : Nat) (hp : p < s.size) : mK (s.extract p s.size) 0 = mK s p := by
 have h1 := toN_extract s true p (by omega)
 have h2 := (toN_range (s := s) (wd := true) (a := p) (by omega)).2
 unfold mK
 rw [byteAt_extract, extract_pre s p _ (by omega), ← h1, Nat.add_zero, Nat.sub_zero, Nat.add_sub_cancel, Nat.add_comm p]
theorem mN_le (s : ByteArray) (p : Nat) (hp : p < s.size) : p + mN s p ≤ s.size := by
 have h1 := toN_range (s := s) (wd := true) (a := p) (by omega)
 have h2 := toN_range (s := s) (wd := false) (a := p) (by omega)
 unfold mN
 split
 ·
  split <;> omega
 split
 ·
  split <;> omega
 split
 ·
  split
  ·
   rename_i h
   rw [strB, Bool.and_eq_true, decide_eq_true_eq] at h
   have := qN_ge s (p + 1)
   omega
  ·
   omega
 split
 ·
  omega
 ·
  unfold opN
  split
  ·
   rename_i h; rw [Bool.and_eq_true, decide_eq_true_eq] at h; omega
  ·
   split <;> omega
theorem opD_op (r : ByteArray) (h0 : 0 < r.size) : opD r (min 2 r.size) = opN r 0 := by
 unfold opN
 by_cases h2 : 2 ≤ r.size
 ·
  rw [Nat.min_eq_left h2, opD, opD, opD, decide_eq_true (show 0 + 2 ≤ r.size by omega), Bool.true_and]
 ·
  rw [show min 2 r.size = 1 by omega, opD, opD, decide_eq_false (show ¬ 0 + 2 ≤ r.size by omega), Bool.false_and]
  rfl
theorem num_iff (r : ByteArray) : numB r 0 = true ↔ ¬ (12 < toN r false 0 ∨ (byteAt r 0 = 48 ∧ 1 < toN r false 0) ∨ (toN r false 0 < r.size ∧ letB (byteAt r (toN r false 0)) = true)) := by
 unfold numB
 rw [Nat.sub_zero]
 generalize letB (byteAt r (toN r false 0)) = y
 generalize toN r false 0 = t
 cases y <;> simp <;> omega
set_option maxHeartbeats 1000000 in
set_option maxRecDepth 100000 in
theorem scQuoted_any (r : ByteArray) (w : World) (h0 : 0 < r.size) (hs : r.size ≤ 1000000) :
  Calls Tryz.prog 122 #[.string r] w fun e w' => e = .returned (.int .i64 ((if strB r 0 then qN r (0 + 1) + 1 - 0 else 0 : Nat) : Int)) ∧ Below w.heap.size w w' := by
 have HA := sIndexAny_any (r.extract 1 r.size) w (by rw [ByteArray.size_extract]; omega)
 have hq : qN (r.extract 1 r.size) 0 + 1 = qN r 1 := qN_extract r 1 0 (by omega)
 have hsb : strB r 0 = (decide (qN r 1 < r.size) && decide (byteAt r (qN r 1) = 34)) := rfl
 have hge := qN_ge r 1
 have hch := qN_char r 1 (by omega)
 have hch := hch.2.2
 have han : anyN (r.extract 1 r.size) = if qN r 1 < r.size then ((qN r 1 : Int) - 1) else -1 := by
  unfold anyN
  rw [ByteArray.size_extract, Nat.min_self]
  by_cases h : qN r 1 < r.size
  ·
   rw [if_pos h, if_pos (by omega)]; omega
  ·
   rw [if_neg h, if_neg (by omega)]
 rw [han] at HA
 rw [hsb, Nat.zero_add, Nat.sub_zero]
 clear han hsb hq
 generalize qN r 1 = k at *
 by_cases hk : k < r.size
 ·
  rw [if_pos hk] at HA
  rw [decide_eq_true hk, Bool.true_and]
  obtain ⟨m, rfl⟩ : ∃ m, k = m + 1 := ⟨k - 1, by omega⟩
  have hik : ∀ h, (r[m + 1]'h).toNat = byteAt r (m + 1) := fun h => byteAt_idx r (m + 1) h
  rw [show ((m + 1 : Nat) : Int) - 1 = m by omega] at HA
  have hch := hch hk
  have hw1 : IntKind.i64.wrap (1 + (m : Int)) = ((m + 1 : Nat) : Int) := by rw [wrapI _ (by omega) (by omega)]; omega
  have hw2 : IntKind.i64.wrap ((m : Int) + 2) = ((m + 1 + 1 : Nat) : Int) := by rw [wrapI _ (by omega) (by omega)]; omega
  have hbl := byteAt_lt r (m + 1)
  replace HA := zH HA
  by_cases h34 : byteAt r (m + 1) = 34
  ·
   rw [decide_eq_true h34, if_pos rfl]
   rw [h34] at hik
   clear hch h34 hbl
   go_enter Tryz.func122, Tryz.ntmps122
   go_wp2_with fail
   refine (uH HA).mono ?_
   rintro e W ⟨rfl, hb⟩
   go_wp2
   go_ret
   exact ⟨rfl, hb⟩
  ·
   rw [decide_eq_false h34, if_neg (by decide)]
   have h10 : byteAt r (m + 1) = 10 := by omega
   rw [h10] at hik
   clear hch h34 h10 hbl
   go_enter Tryz.func122, Tryz.ntmps122
   go_wp2_with fail
   refine (uH HA).mono ?_
   rintro e W ⟨rfl, hb⟩
   go_wp2
   go_ret
   exact ⟨rfl, hb⟩
 ·
  rw [if_neg hk] at HA
  rw [decide_eq_false hk, Bool.false_and, if_neg (by decide)]
  replace HA := zH HA
  go_enter Tryz.func122, Tryz.ntmps122
  go_wp2_with fail
  refine (uH HA).mono ?_
  rintro e W ⟨rfl, hb⟩
  go_wp2
  go_ret
  exact ⟨rfl, hb⟩
set_option maxHeartbeats 1000000 in
set_option maxRecDepth 100000 in
theorem scMeasure_any (r : ByteArray) (w : World) (h0 : 0 < r.size) (hs : r.size ≤ 1000000) :
  Calls Tryz.prog 99 #[.string r] w fun e w' => e = .returned (.tuple #[.int .i64 (mK r 0), .int .i64 (mN r 0)]) ∧ Below w.heap.size w w' := by
 have hi0 : ∀ h, (r[0]'h).toNat = byteAt r 0 := fun h => byteAt_idx r 0 h
 have hm : r.size ≤ maxLen := by unfold maxLen; omega
 have HL := fun w => scLetter_any (byteAt r 0) w (byteAt_lt r 0)
 have HD := fun w => scDigit_any (byteAt r 0) w (byteAt_lt r 0)
 have hbl := byteAt_lt r 0
 cases hl : letB (byteAt r 0) with
 | true =>
  have HN := fun w => scNamed_any r w h0 hm
  have e1 : namK r = mK r 0 := by
   simp only [namK, mK, hl, if_true, Nat.sub_zero]
   by_cases h : 24 < toN r true 0
   ·
    rw [if_pos h, if_neg (show ¬ toN r true 0 ≤ 24 by omega)]
   ·
    rw [if_neg h, if_pos (show toN r true 0 ≤ 24 by omega)]
  have e2 : namZ r = mN r 0 := by
   simp only [namZ, mN, hl, if_true, Nat.sub_zero]
   by_cases h : 24 < toN r true 0
   ·
    rw [if_pos h, if_neg (show ¬ toN r true 0 ≤ 24 by omega)]
   ·
    rw [if_neg h, if_pos (show toN r true 0 ≤ 24 by omega)]
  rw [hl] at HL
  rw [e1, e2] at HN
  generalize mK r 0 = a at *
  generalize mN r 0 = b at *
  replace HL := zH HL
  replace HN := zH HN
  clear e1 e2 hl
  go_enter Tryz.func99, Tryz.ntmps99
  go_wp2_with fail
  refine (uH HL _).mono ?_
  rintro e W ⟨rfl, rfl⟩
  go_wp2_with fail
  refine (uH HN _).mono ?_
  rintro e W ⟨rfl, rfl⟩
  go_wp2
  go_ret2
  exact ⟨rfl, Below.refl _ _⟩
 | false =>
  rw [hl] at HL
  replace HL := zH HL
  cases hd : digB (byteAt r 0) with
  | true =>
   have HN := fun w => scNumber_any r w h0 hm
   have e1 : mK r 0 = 2 := by
    unfold mK
    rw [hl, if_neg (by decide), hd, if_pos rfl]
   have e2 : numZ r = mN r 0 := by
    have hn := num_iff r
    simp only [numZ, mN, hl, hd, if_true, Bool.false_eq_true, if_false, Nat.sub_zero]
    by_cases hc : 12 < toN r false 0 ∨ (byteAt r 0 = 48 ∧ 1 < toN r false 0) ∨ (toN r false 0 < r.size ∧ letB (byteAt r (toN r false 0)) = true)
    ·
     rw [if_pos hc, if_neg (fun h => hn.1 h hc)]
    ·
     rw [if_neg hc, if_pos (hn.2 hc)]
   rw [hd] at HD
   rw [e1]
   rw [e2] at HN
   generalize mN r 0 = b at *
   replace HD := zH HD
   replace HN := zH HN
   clear e1 e2 hl hd
   go_enter Tryz.func99, Tryz.ntmps99
   go_wp2_with fail
   refine (uH HL _).mono ?_
   rintro e W ⟨rfl, rfl⟩
   go_wp2_with fail
   refine (uH HD _).mono ?_
   rintro e W ⟨rfl, rfl⟩
   go_wp2_with fail
   refine (uH HN _).mono ?_
   rintro e W ⟨rfl, rfl⟩
   go_wp2
   go_ret2
   exact ⟨rfl, Below.refl _ _⟩
  | false =>
   rw [hd] at HD
   replace HD := zH HD
   by_cases h34 : byteAt r 0 = 34
   ·
    have HN := fun w => scQuoted_any r w h0 hs
    have e1 : mK r 0 = 3 := by
     unfold mK
     rw [hl, if_neg (by decide), hd, if_neg (by decide), if_pos h34]
    have e2 : mN r 0 = (if strB r 0 then qN r (0 + 1) + 1 - 0 else 0) := by
     unfold mN
     rw [hl, if_neg (by decide), hd, if_neg (by decide), if_pos h34]
    rw [e1]
    rw [← e2] at HN
    rw [h34] at HL HD hi0
    generalize mN r 0 = b at *
    replace HN := zH HN
    clear e1 e2 hl hd h34 hbl
    go_enter Tryz.func99, Tryz.ntmps99
    go_wp2_with fail
    refine (uH HL _).mono ?_
    rintro e W ⟨rfl, rfl⟩
    go_wp2_with fail
    refine (uH HD _).mono ?_
    rintro e W ⟨rfl, rfl⟩
    go_wp2_with fail
    refine (uH HN _).mono ?_
    rintro e W2 ⟨rfl, hb⟩
    go_wp2
    go_ret2
    exact ⟨rfl, hb⟩
   ·
    by_cases h59 : byteAt r 0 = 59
    ·
     have e1 : mK r 0 = 6 := by
      unfold mK
      rw [hl, if_neg (by decide), hd, if_neg (by decide), if_neg h34, if_pos h59]
     have e2 : mN r 0 = 1 := by
      unfold mN
      rw [hl, if_neg (by decide), hd, if_neg (by decide), if_neg h34, if_pos h59]
     rw [e1, e2]
     rw [h59] at HL HD hi0
     clear e1 e2 hl hd h34 h59 hbl
     go_enter Tryz.func99, Tryz.ntmps99
     go_wp2_with fail
     refine (uH HL _).mono ?_
     rintro e W ⟨rfl, rfl⟩
     go_wp2_with fail
     refine (uH HD _).mono ?_
     rintro e W ⟨rfl, rfl⟩
     go_wp2
     go_ret2
     exact ⟨rfl, Below.refl _ _⟩
    ·
     have HN := fun w => scSign_any r w h0 hm
     have e1 : mK r 0 = 4 := by
      unfold mK
      rw [hl, if_neg (by decide), hd, if_neg (by decide), if_neg h34, if_neg h59]
     have e2 : mN r 0 = opN r 0 := by
      unfold mN
      rw [hl, if_neg (by decide), hd, if_neg (by decide), if_neg h34, if_neg h59]
     rw [e1]
     rw [opD_op r h0, ← e2] at HN
     generalize mN r 0 = b at *
     have n34 : ¬ ((byteAt r 0 : Nat) : Int) = 34 := by omega
     have n59 : ¬ ((byteAt r 0 : Nat) : Int) = 59 := by omega
     replace HN := zH HN
     clear e1 e2 hl hd h34 h59
     go_enter Tryz.func99, Tryz.ntmps99
     go_wp2_with fail
     refine (uH HL _).mono ?_
     rintro e W ⟨rfl, rfl⟩
     go_wp2_with fail
     refine (uH HD _).mono ?_
     rintro e W ⟨rfl, rfl⟩
     go_wp2_with fail
     refine (uH HN _).mono ?_
     rintro e W ⟨rfl, rfl⟩
     go_wp2
     go_ret2
     exact ⟨rfl, Below.refl _ _⟩
end Go.Proofs.YtiknnobgoamgcaaGreatDoor
namespace Go.Proofs.YtiknnobgoamgcaaGreatDoor
open Go.RowKit
set_option linter.unusedSimpArgs false
set_option maxHeartbeats 4000000 in
set_option maxRecDepth 100000 in
theorem cuWord_any (w : World) (base g : Nat) (s : ByteArray) (x : Sc) (hx : CuSt w base g s x) (hp : x.p < s.size) (hs : s.size ≤ 1000000) (hl : x.l.length ≤ 900000) :
  Calls Tryz.prog 81 #[.pointer (some ⟨g, 0, none⟩), .string (s.extract x.p s.size)] w fun e w' => e = .returned (.bool (decide (mN s x.p ≠ 0))) ∧ CuSt w' base g s (if mN s x.p ≠ 0 then x.add s (mK s x.p) (x.p + mN s x.p) else x) ∧ Below base w w' := by
 have hrs : (s.extract x.p s.size).size = s.size - x.p := by rw [ByteArray.size_extract, Nat.min_self]
 have HM := scMeasure_any (s.extract x.p s.size) w (by omega) (by omega)
 rw [mK_extract s x.p hp, mN_extract s x.p hp] at HM
 have hle := mN_le s x.p hp
 have hpe := extract_pre s x.p (mN s x.p) hle
 have hadd : x.add s (mK s x.p) (x.p + mN s x.p) = ⟨x.p + mN s x.p, x.line, x.l ++ [⟨mK s x.p, s.extract x.p (x.p + mN s x.p), x.p, x.line, false⟩], x.c⟩ := rfl
 generalize x.add s (mK s x.p) (x.p + mN s x.p) = z at *
 generalize s.extract x.p (x.p + mN s x.p) = t at *
 generalize mK s x.p = k at *
 generalize mN s x.p = n at *
 generalize s.extract x.p s.size = rest at *
 replace HM := zH HM
 have hg0 : g < w.heap.size := hx.lt
 have hbg : base ≤ w.heap.size := by obtain ⟨_, _, _, _, _, h⟩ := id hx; omega
 by_cases hn : n = 0
 ·
  rw [if_neg (by omega), decide_eq_false (by omega)]
  subst hn
  go_enter Tryz.func81, Tryz.ntmps81
  go_wp2_with fail
  refine (uH HM).mono ?_
  rintro e W ⟨rfl, hb⟩
  go_wp2
  go_ret
  exact ⟨rfl, hx.below hb, hb.mono hbg⟩
 ·
  rw [if_pos hn, decide_eq_true hn]
  have hn' : ¬ (n : Int) = 0 := by omega
  have hrn : n ≤ rest.size := by omega
  clear hrs
  replace hadd := zH hadd
  go_enter Tryz.func81, Tryz.ntmps81
  go_wp2_with fail
  refine (uH HM).mono ?_
  rintro e W0 ⟨rfl, hb⟩
  have hst := hx.below hb
  have hw := hb.mono hbg
  clear HM hx hb hg0 hbg
  obtain ⟨vl, vc, hS, h1, h2, h3⟩ := hst
  obtain ⟨p, line, l, c⟩ := x
  dsimp only at *
  obtain ⟨al, cl, rfl, hal1, hal2⟩ := own_shape h1
  obtain ⟨ac, cc, rfl, hac1, hac2⟩ := own_shape h2
  have hg : g < W0.heap.size := (Array.getElem?_eq_some_iff.1 hS).1
  obtain ⟨nl, hnl⟩ : ∃ nl, l.length = nl := ⟨_, rfl⟩
  obtain ⟨nc, hnc⟩ : ∃ nc, c.length = nc := ⟨_, rfl⟩
  rw [hnl] at hS h1 hal1 hl
  rw [hnc] at hS h2 hac1
  replace hS := zH hS
  replace h1 := zH h1
  replace h2 := zH h2
  replace hw := zH hw
  go_upto_region 4 with fail
  replace hS := uH hS
  replace h1 := uH h1
  replace h2 := uH h2
  replace hw := uH hw
  refine wp_region_D (fun w' => w'.heap[g]? = some (cuObj s p line (.slice al nl cl) (.slice ac nc cc))) (fun j => [22].contains j) (by kernel_rfl) ?_
  replace hS : W0.drew.heap[g]? = some (cuObj s p line (.slice al nl cl) (.slice ac nc cc)) := hS
  replace h1 : OwnT W0.drew base (.slice al nl cl) l := h1
  replace h2 : OwnC W0.drew base (.slice ac nc cc) c := h2
  replace hw : Below base w W0.drew := hw.drew
  replace hg : g < W0.drew.heap.size := hg
  generalize World.drew W0 = W at h1 h2 hS hw hg ⊢
  refine wpAnyD_takeC (i := 0) (v := .pointer (some ⟨g, 0, none⟩)) [22] (fun _ => rfl) rfl (by kernel_rfl) 2 (by kernel_rfl) rfl (by kernel_rfl) (by kernel_rfl) (by kernel_rfl) (fun _ _ _ h => h) (Or.inl ⟨by kernel_rfl, ?_⟩) hS ?_
  ·
   intro w hSw; go_simp
  try simp only [List.getElem_toArray, List.getElem_cons_succ, List.getElem_cons_zero, Act.put, List.setIfInBounds_toArray, List.set_cons_zero, List.set_cons_succ]
  refine wpAnyD_takeC (i := 1) (v := .pointer (some ⟨g, 0, none⟩)) [22] (fun _ => rfl) rfl (by kernel_rfl) 2 (by kernel_rfl) rfl (by kernel_rfl) (by kernel_rfl) (by kernel_rfl) (fun _ _ _ h => h) (Or.inl ⟨by kernel_rfl, ?_⟩) hS ?_
  ·
   intro w hSw; go_simp
  try simp only [List.getElem_toArray, List.getElem_cons_succ, List.getElem_cons_zero, Act.put, List.setIfInBounds_toArray, List.set_cons_zero, List.set_cons_succ]
  refine wpAnyD_takeC (i := 2) (v := .pointer (some ⟨g, 0, none⟩)) [22] (fun _ => rfl) rfl (by kernel_rfl) 2 (by kernel_rfl) rfl (by kernel_rfl) (by kernel_rfl) (by kernel_rfl) (fun _ _ _ h => h) (Or.inl ⟨by kernel_rfl, ?_⟩) hS ?_
  ·
   intro w hSw; go_simp
  try simp only [List.getElem_toArray, List.getElem_cons_succ, List.getElem_cons_zero, Act.put, List.setIfInBounds_toArray, List.set_cons_zero, List.set_cons_succ]
  refine wpAnyD_takeC (i := 3) (v := .pointer (some ⟨g, 3, none⟩)) [22] (fun _ => rfl) rfl (by kernel_rfl) 2 (by kernel_rfl) rfl (by kernel_rfl) (by kernel_rfl) (by kernel_rfl) (fun _ _ _ h => h) (Or.inl ⟨by kernel_rfl, ?_⟩) hS ?_
  ·
   intro w hSw; go_simp
  try simp only [List.getElem_toArray, List.getElem_cons_succ, List.getElem_cons_zero, Act.put, List.setIfInBounds_toArray, List.set_cons_zero, List.set_cons_succ]
  refine wpAnyD_takeC (i := 4) (v := .slice al nl cl) [22] (fun _ => rfl) rfl (by kernel_rfl) 2 (by kernel_rfl) rfl (by kernel_rfl) (by kernel_rfl) (by kernel_rfl) (fun _ _ _ h => h) (Or.inl ⟨by kernel_rfl, ?_⟩) hS ?_
  ·
   intro w hSw; obtain ⟨x0, x1, x2, x3, x4⟩ := cuCells hSw; go_simp
  try simp only [List.getElem_toArray, List.getElem_cons_succ, List.getElem_cons_zero, Act.put, List.setIfInBounds_toArray, List.set_cons_zero, List.set_cons_succ]
  refine wpAnyD_takeC (i := 5) (v := .int .i64 k) [22] (fun _ => rfl) rfl (by kernel_rfl) 2 (by kernel_rfl) rfl (by kernel_rfl) (by kernel_rfl) (by kernel_rfl) (fun _ _ _ h => h) (Or.inl ⟨by kernel_rfl, ?_⟩) hS ?_
  ·
   intro w hSw; go_simp
  try simp only [List.getElem_toArray, List.getElem_cons_succ, List.getElem_cons_zero, Act.put, List.setIfInBounds_toArray, List.set_cons_zero, List.set_cons_succ]
  refine wpAnyD_takeC (i := 6) (v := .string rest) [22] (fun _ => rfl) rfl (by kernel_rfl) 2 (by kernel_rfl) rfl (by kernel_rfl) (by kernel_rfl) (by kernel_rfl) (fun _ _ _ h => h) (Or.inl ⟨by kernel_rfl, ?_⟩) hS ?_
  ·
   intro w hSw; go_simp
  try simp only [List.getElem_toArray, List.getElem_cons_succ, List.getElem_cons_zero, Act.put, List.setIfInBounds_toArray, List.set_cons_zero, List.set_cons_succ]
  refine wpAnyD_takeC (i := 7) (v := .int .i64 n) [22] (fun _ => rfl) rfl (by kernel_rfl) 2 (by kernel_rfl) rfl (by kernel_rfl) (by kernel_rfl) (by kernel_rfl) (fun _ _ _ h => h) (Or.inl ⟨by kernel_rfl, ?_⟩) hS ?_
  ·
   intro w hSw; go_simp
  try simp only [List.getElem_toArray, List.getElem_cons_succ, List.getElem_cons_zero, Act.put, List.setIfInBounds_toArray, List.set_cons_zero, List.set_cons_succ]
  refine wpAnyD_takeC (i := 8) (v := .string t) [22] (fun _ => rfl) rfl (by kernel_rfl) 2 (by kernel_rfl) rfl (by kernel_rfl) (by kernel_rfl) (by kernel_rfl) (fun _ _ _ h => h) (Or.inl ⟨by kernel_rfl, ?_⟩) hS ?_
  ·
   intro w hSw; go_simp
  try simp only [List.getElem_toArray, List.getElem_cons_succ, List.getElem_cons_zero, Act.put, List.setIfInBounds_toArray, List.set_cons_zero, List.set_cons_succ]
  refine wpAnyD_takeC (i := 9) (v := .pointer (some ⟨g, 0, none⟩)) [22] (fun _ => rfl) rfl (by kernel_rfl) 2 (by kernel_rfl) rfl (by kernel_rfl) (by kernel_rfl) (by kernel_rfl) (fun _ _ _ h => h) (Or.inl ⟨by kernel_rfl, ?_⟩) hS ?_
  ·
   intro w hSw; go_simp
  try simp only [List.getElem_toArray, List.getElem_cons_succ, List.getElem_cons_zero, Act.put, List.setIfInBounds_toArray, List.set_cons_zero, List.set_cons_succ]
  refine wpAnyD_takeC (i := 10) (v := .pointer (some ⟨g, 0, none⟩)) [22] (fun _ => rfl) rfl (by kernel_rfl) 2 (by kernel_rfl) rfl (by kernel_rfl) (by kernel_rfl) (by kernel_rfl) (fun _ _ _ h => h) (Or.inl ⟨by kernel_rfl, ?_⟩) hS ?_
  ·
   intro w hSw; go_simp
  try simp only [List.getElem_toArray, List.getElem_cons_succ, List.getElem_cons_zero, Act.put, List.setIfInBounds_toArray, List.set_cons_zero, List.set_cons_succ]
  refine wpAnyD_takeC (i := 11) (v := .pointer (some ⟨g, 1, none⟩)) [22] (fun _ => rfl) rfl (by kernel_rfl) 2 (by kernel_rfl) rfl (by kernel_rfl) (by kernel_rfl) (by kernel_rfl) (fun _ _ _ h => h) (Or.inl ⟨by kernel_rfl, ?_⟩) hS ?_
  ·
   intro w hSw; go_simp
  try simp only [List.getElem_toArray, List.getElem_cons_succ, List.getElem_cons_zero, Act.put, List.setIfInBounds_toArray, List.set_cons_zero, List.set_cons_succ]
  refine wpAnyD_takeC (i := 12) (v := .int .i64 p) [22] (fun _ => rfl) rfl (by kernel_rfl) 2 (by kernel_rfl) rfl (by kernel_rfl) (by kernel_rfl) (by kernel_rfl) (fun _ _ _ h => h) (Or.inl ⟨by kernel_rfl, ?_⟩) hS ?_
  ·
   intro w hSw; obtain ⟨x0, x1, x2, x3, x4⟩ := cuCells hSw; go_simp
  try simp only [List.getElem_toArray, List.getElem_cons_succ, List.getElem_cons_zero, Act.put, List.setIfInBounds_toArray, List.set_cons_zero, List.set_cons_succ]
  refine wpAnyD_takeC (i := 13) (v := .pointer (some ⟨g, 0, none⟩)) [22] (fun _ => rfl) rfl (by kernel_rfl) 2 (by kernel_rfl) rfl (by kernel_rfl) (by kernel_rfl) (by kernel_rfl) (fun _ _ _ h => h) (Or.inl ⟨by kernel_rfl, ?_⟩) hS ?_
  ·
   intro w hSw; go_simp
  try simp only [List.getElem_toArray, List.getElem_cons_succ, List.getElem_cons_zero, Act.put, List.setIfInBounds_toArray, List.set_cons_zero, List.set_cons_succ]
  refine wpAnyD_takeC (i := 14) (v := .pointer (some ⟨g, 0, none⟩)) [22] (fun _ => rfl) rfl (by kernel_rfl) 2 (by kernel_rfl) rfl (by kernel_rfl) (by kernel_rfl) (by kernel_rfl) (fun _ _ _ h => h) (Or.inl ⟨by kernel_rfl, ?_⟩) hS ?_
  ·
   intro w hSw; go_simp
  try simp only [List.getElem_toArray, List.getElem_cons_succ, List.getElem_cons_zero, Act.put, List.setIfInBounds_toArray, List.set_cons_zero, List.set_cons_succ]
  refine wpAnyD_takeC (i := 15) (v := .pointer (some ⟨g, 2, none⟩)) [22] (fun _ => rfl) rfl (by kernel_rfl) 2 (by kernel_rfl) rfl (by kernel_rfl) (by kernel_rfl) (by kernel_rfl) (fun _ _ _ h => h) (Or.inl ⟨by kernel_rfl, ?_⟩) hS ?_
  ·
   intro w hSw; go_simp
  try simp only [List.getElem_toArray, List.getElem_cons_succ, List.getElem_cons_zero, Act.put, List.setIfInBounds_toArray, List.set_cons_zero, List.set_cons_succ]
  refine wpAnyD_takeC (i := 16) (v := .int .i64 line) [22] (fun _ => rfl) rfl (by kernel_rfl) 2 (by kernel_rfl) rfl (by kernel_rfl) (by kernel_rfl) (by kernel_rfl) (fun _ _ _ h => h) (Or.inl ⟨by kernel_rfl, ?_⟩) hS ?_
  ·
   intro w hSw; obtain ⟨x0, x1, x2, x3, x4⟩ := cuCells hSw; go_simp
  try simp only [List.getElem_toArray, List.getElem_cons_succ, List.getElem_cons_zero, Act.put, List.setIfInBounds_toArray, List.set_cons_zero, List.set_cons_succ]
  refine wpAnyD_takeC (i := 17) (v := (.agg #[.int .i64 k, .string t, .int .i64 p, .int .i64 line, .bool false])) [22] (fun _ => rfl) rfl (by kernel_rfl) 2 (by kernel_rfl) rfl (by kernel_rfl) (by kernel_rfl) (by kernel_rfl) (fun _ _ _ h => h) (Or.inl ⟨by kernel_rfl, ?_⟩) hS ?_
  ·
   intro w hSw; go_simp
  try simp only [List.getElem_toArray, List.getElem_cons_succ, List.getElem_cons_zero, Act.put, List.setIfInBounds_toArray, List.set_cons_zero, List.set_cons_succ]
  replace h1 := zH h1
  replace h2 := zH h2
  replace hS := zH hS
  replace hw := zH hw
  refine wpAnyD_one (i := 18) rfl (by kernel_rfl) (fun K hK => ?_)
  replace hK := zH hK
  go_simp
  have hS2 : (W.alloc (.cells #[.int .i64 k, .string t, .int .i64 p, .int .i64 line, .bool false] 50)).heap[g]? = some (cuObj s p line (.slice al nl cl) (.slice ac nc cc)) := (Below.heap_alloc _ _ _ hg).trans (uH hS)
  have h1a := own_alloc (uH h1) (.cells #[.int .i64 k, .string t, .int .i64 p, .int .i64 line, .bool false] 50)
  have h2a := own_alloc (uH h2) (.cells #[.int .i64 k, .string t, .int .i64 p, .int .i64 line, .bool false] 50)
  have hn := new_tok W ⟨k, t, p, line, false⟩ (0, 0)
  have hwa := (uH hw).alloc (by omega) (.cells #[.int .i64 k, .string t, .int .i64 p, .int .i64 line, .bool false] 50)
  have hga : g < (W.alloc (.cells #[.int .i64 k, .string t, .int .i64 p, .int .i64 line, .bool false] 50)).heap.size := (Array.getElem?_eq_some_iff.1 hS2).1
  refine uH hK _ _ (fun _ => hS2) ?_
  clear hK K h1 h2 hS hw
  dsimp only at hn
  generalize World.alloc W _ = W2 at *
  generalize W.heap.size = gn at *
  try simp only [List.getElem_toArray, List.getElem_cons_succ, List.getElem_cons_zero, Act.put, List.setIfInBounds_toArray, List.set_cons_zero, List.set_cons_succ]
  refine wpAnyD_one (i := 19) rfl (by kernel_rfl) (fun K hK => ?_)
  rw [if_pos (by kernel_rfl)]
  refine wp_append_tok (v := .slice al nl cl) (.tmp 18) (.tmp 32) rfl ⟨k, t, p, line, false⟩ rfl h1a ⟨gn, 0, none⟩ rfl hn (by omega) (by omega) ?_
  intro v' W3 hown hgrow
  obtain ⟨hst, hS3⟩ := cu_stored hS2 h1a h2a h3 hown hgrow
  have hwb : Below base w W3 := hwa.grown hgrow (by omega) (fun k hk => by
   rcases h1a.2 with ⟨e, _⟩ | ⟨g', cap, cur, e, hb, _⟩
   ·
    rw [e] at hk; cases hk
   ·
    rw [e] at hk
    obtain rfl : g' = k := by simpa [Value.ownBlock] using hk
    exact hb)
  obtain ⟨al', cl', hv, _, _⟩ := own_shape hown
  obtain rfl : v' = .slice al' (nl + 1) cl' := by rw [hv, List.length_append, hnl]; rfl
  clear hv
  refine hK _ _ (fun _ => hS3) ?_
  clear hK K hown hgrow h1a h2a hn hwa hS2 hga
  have hS := hS3
  clear hS3
  replace hst := zH hst
  replace hwb := zH hwb
  try simp only [List.getElem_toArray, List.getElem_cons_succ, List.getElem_cons_zero, Act.put, List.setIfInBounds_toArray, List.set_cons_zero, List.set_cons_succ]
  refine wpAnyD_takeC (i := 20) (v := .pointer (some ⟨g, 0, none⟩)) [22] (fun _ => rfl) rfl (by kernel_rfl) 2 (by kernel_rfl) rfl (by kernel_rfl) (by kernel_rfl) (by kernel_rfl) (fun _ _ _ h => h) (Or.inl ⟨by kernel_rfl, ?_⟩) hS ?_
  ·
   intro w hSw; go_simp
  try simp only [List.getElem_toArray, List.getElem_cons_succ, List.getElem_cons_zero, Act.put, List.setIfInBounds_toArray, List.set_cons_zero, List.set_cons_succ]
  refine wpAnyD_takeC (i := 21) (v := .pointer (some ⟨g, 3, none⟩)) [22] (fun _ => rfl) rfl (by kernel_rfl) 2 (by kernel_rfl) rfl (by kernel_rfl) (by kernel_rfl) (by kernel_rfl) (fun _ _ _ h => h) (Or.inl ⟨by kernel_rfl, ?_⟩) hS ?_
  ·
   intro w hSw; go_simp
  try simp only [List.getElem_toArray, List.getElem_cons_succ, List.getElem_cons_zero, Act.put, List.setIfInBounds_toArray, List.set_cons_zero, List.set_cons_succ]
  obtain ⟨x0, x1, x2, x3, x4⟩ := cuCells hS
  have hf := cuFrozen hS
  refine wpAnyD_one (i := 22) rfl (by kernel_rfl) (fun K hK => ?_)
  replace hK := zH hK
  go_simp
  refine uH hK _ _ (fun h => by cases h) ?_
  clear hK K x0 x1 x2 x3 x4 hf hS
  replace hst := uH hst
  have hwc := (uH hwb).setCell (p := ⟨g, 3, none⟩) h3 (.slice al' (nl + 1) cl')
  clear hwb
  generalize World.setCell _ _ _ = W4 at *
  refine wpAnyD_done (by kernel_rfl) ?_ _
  obtain ⟨hm, _⟩ := cu_moved hst (p + n)
  obtain ⟨vl2, vc2, h0, _, _, _⟩ := hst
  obtain ⟨x0, x1, x2, x3, x4⟩ := cuCells h0
  have hf := cuFrozen h0
  have hwd := hwc.setCell (p := ⟨g, 1, none⟩) h3 (.int .i64 ((p + n : Nat) : Int))
  have hadd2 : IntKind.i64.wrap ((p : Int) + (n : Int)) = ((p + n : Nat) : Int) := by rw [wrapI _ (by omega) (by omega)]; omega
  clear h0 hwc
  generalize hpn : p + n = q at *
  replace hm := zH hm
  replace hwd := zH hwd
  go_wp2
  go_ret
  refine ⟨rfl, ?_, uH hwd⟩
  rw [uH hadd]
  exact uH hm
end Go.Proofs.YtiknnobgoamgcaaGreatDoor
/-
  The program's cutter.close.
-/
namespace Go.Proofs.YtiknnobgoamgcaaGreatDoor
open Go.RowKit
set_option linter.unusedSimpArgs false
set_option maxHeartbeats 4000000 in
set_option maxRecDepth 100000 in
theorem cuClose_any (w : World) (base g : Nat) (s : ByteArray) (x : Sc) (hx : CuSt w base g s x) (hl : x.l.length ≤ 1000000) :
  Calls Tryz.prog 62 #[.pointer (some ⟨g, 0, none⟩)] w fun e w' => e = .returned (.tuple #[]) ∧ CuSt w' base g s x.semi ∧ Below base w w' := by
 have hx0 := zH hx
 obtain ⟨vl, vc, h0, h1, h2, h3⟩ := hx
 obtain ⟨p, line, l, c⟩ := x
 dsimp only at *
 have hg : g < w.heap.size := (Array.getElem?_eq_some_iff.1 h0).1
 rcases List.eq_nil_or_concat l with rfl | ⟨l0, t, rfl⟩
 ·
  rw [semi_nil]
  obtain ⟨al, cl, rfl, hcl, hcm⟩ := own_shape h1
  clear h1 h2
  dsimp only [List.length_nil] at *
  obtain ⟨x0, x1, x2, x3, x4⟩ := cuCells h0
  clear h0
  go_enter Tryz.func62, Tryz.ntmps62
  go_wp2
  go_end0
  exact ⟨rfl, uH hx0, Below.refl _ _⟩
 ·
  obtain ⟨a1, cl, e1, hcl, hcm⟩ := own_shape h1
  rw [List.concat_eq_append] at *
  have HE := fun w => tEnds_any t w
  have hlen : (l0 ++ [t]).length = l0.length + 1 := by simp
  rw [hlen] at hcl hl e1
  obtain ⟨gl, rfl⟩ : ∃ gl, a1 = some ⟨gl, 0, none⟩ := by
   rcases h1.2 with ⟨_, hz⟩ | ⟨gl, cap, cur, e, _⟩
   ·
    rw [hlen] at hz; omega
   ·
    rw [e1] at e
    simp only [Value.slice.injEq] at e
    exact ⟨gl, e.1⟩
  subst e1
  obtain ⟨ac, cc, rfl, hcc, hcn⟩ := own_shape h2
  have hT : ∀ w', OwnT w' base (.slice (some ⟨gl, 0, none⟩) (l0.length + 1) cl) (l0 ++ [t]) → w'.cell? ⟨gl, l0.length * 5, none⟩ = some (.int .i64 t.k) ∧ w'.cell? ⟨gl, l0.length * 5 + 1, none⟩ = some (.string t.s) ∧ w'.cell? ⟨gl, l0.length * 5 + 2, none⟩ = some (.int .i64 t.p) ∧ w'.cell? ⟨gl, l0.length * 5 + 3, none⟩ = some (.int .i64 t.l) ∧ w'.cell? ⟨gl, l0.length * 5 + 4, none⟩ = some (.bool t.q) := fun w' h => ⟨last_tok h 0 (by omega), last_tok h 1 (by omega), last_tok h 2 (by omega), last_tok h 3 (by omega), last_tok h 4 (by omega)⟩
  have hoff := semi_off p line l0 t c
  have hon := semi_on p line l0 t c
  generalize hll : l0 ++ [t] = l at *
  generalize l0.length = m at *
  have hnc : c.length = c.length := rfl
  generalize hnc' : c.length = nc at *
  clear hnc
  have hnc := hnc'
  clear hnc' hll
  have hnl : l.length = m + 1 := hlen
  clear hlen
  simp only [Tk.val] at HE
  replace HE := zH HE
  replace hT := zH hT
  replace hoff := zH hoff
  replace hon := zH hon
  clear hx0
  obtain ⟨x0, x1, x2, x3, x4⟩ := cuCells h0
  have hT0 := uH hT w h1
  obtain ⟨t0, t1, t2, t3, t4⟩ := hT0
  have hm1 : IntKind.i64.wrap ((m + 1 : Nat) - 1 : Int) = m := by rw [wrapI _ (by omega) (by omega)]; omega
  replace h0 := zH h0
  replace h1 := zH h1
  replace h2 := zH h2
  cases he : endB t with
  | false =>
   rw [he] at HE
   go_enter Tryz.func62, Tryz.ntmps62
   go_wp2_with fail
   refine (uH HE _).mono ?_
   rintro e W2 ⟨rfl, hb⟩
   have hz : CuSt W2 base g s ⟨p, line, l, c⟩ := CuSt.below ⟨_, _, uH h0, uH h1, uH h2, h3⟩ hb
   replace hz := zH hz
   have hbb : Below base w W2 := hb.mono (by omega)
   go_wp2
   go_end0
   exact ⟨rfl, (uH hoff he).symm ▸ uH hz, hbb⟩
  | true =>
   rw [he] at HE
   go_enter Tryz.func62, Tryz.ntmps62
   go_wp2_with fail
   refine (uH HE _).mono ?_
   rintro e W0 ⟨rfl, hb⟩
   clear x0 x1 x2 x3 x4 t0 t1 t2 t3 t4 hm1
   have hw : Below base w W0 := hb.mono (by omega)
   have hk : ∀ k o, w.heap[k]? = some o → W0.heap[k]? = w.heap[k]? := fun k o hk => hb.block k (Array.getElem?_eq_some_iff.1 hk).1
   have hS := (hk _ _ (uH h0)).trans (uH h0)
   replace h1 : OwnT W0 base _ l := own_other (uH h1) (fun k cur hc => hk k _ hc)
   replace h2 : OwnC W0 base _ c := own_other (uH h2) (fun k cur hc => hk k _ hc)
   clear h0 hb hk hg
   have hg : g < W0.heap.size := (Array.getElem?_eq_some_iff.1 hS).1
   obtain ⟨nl, hnl'⟩ : ∃ nl, m + 1 = nl := ⟨_, rfl⟩
   obtain ⟨al, hal⟩ : ∃ al : Option Addr, some ⟨gl, 0, none⟩ = al := ⟨_, rfl⟩
   rw [hnl', hal] at hS h1
   rw [hnl'] at hnl hl
   replace hal := zH hal
   replace hnl' := zH hnl'
   replace hS := zH hS
   replace h1 := zH h1
   replace h2 := zH h2
   replace hw := zH hw
   go_upto_region 2 with fail
   replace hS := uH hS
   replace h1 := uH h1
   replace h2 := uH h2
   replace hw := uH hw
   refine wp_region_D (fun w' => w'.heap[g]? = some (cuObj s p line (.slice al nl cl) (.slice ac nc cc))) (fun j => [18].contains j) (by kernel_rfl) ?_
   replace hS : W0.drew.heap[g]? = some (cuObj s p line (.slice al nl cl) (.slice ac nc cc)) := hS
   replace h1 : OwnT W0.drew base (.slice al nl cl) l := h1
   replace h2 : OwnC W0.drew base (.slice ac nc cc) c := h2
   replace hw : Below base w W0.drew := hw.drew
   replace hg : g < W0.drew.heap.size := hg
   generalize World.drew W0 = W at h1 h2 hS hw hg ⊢
   refine wpAnyD_takeC (i := 0) (v := .pointer (some ⟨g, 0, none⟩)) [18] (fun _ => rfl) rfl (by kernel_rfl) 2 (by kernel_rfl) rfl (by kernel_rfl) (by kernel_rfl) (by kernel_rfl) (fun _ _ _ h => h) (Or.inl ⟨by kernel_rfl, ?_⟩) hS ?_
   ·
    intro w hSw; go_simp
   try simp only [List.getElem_toArray, List.getElem_cons_succ, List.getElem_cons_zero, Act.put, List.setIfInBounds_toArray, List.set_cons_zero, List.set_cons_succ]
   refine wpAnyD_takeC (i := 1) (v := .pointer (some ⟨g, 0, none⟩)) [18] (fun _ => rfl) rfl (by kernel_rfl) 2 (by kernel_rfl) rfl (by kernel_rfl) (by kernel_rfl) (by kernel_rfl) (fun _ _ _ h => h) (Or.inl ⟨by kernel_rfl, ?_⟩) hS ?_
   ·
    intro w hSw; go_simp
   try simp only [List.getElem_toArray, List.getElem_cons_succ, List.getElem_cons_zero, Act.put, List.setIfInBounds_toArray, List.set_cons_zero, List.set_cons_succ]
   refine wpAnyD_takeC (i := 2) (v := .pointer (some ⟨g, 0, none⟩)) [18] (fun _ => rfl) rfl (by kernel_rfl) 2 (by kernel_rfl) rfl (by kernel_rfl) (by kernel_rfl) (by kernel_rfl) (fun _ _ _ h => h) (Or.inl ⟨by kernel_rfl, ?_⟩) hS ?_
   ·
    intro w hSw; go_simp
   try simp only [List.getElem_toArray, List.getElem_cons_succ, List.getElem_cons_zero, Act.put, List.setIfInBounds_toArray, List.set_cons_zero, List.set_cons_succ]
   refine wpAnyD_takeC (i := 3) (v := .pointer (some ⟨g, 3, none⟩)) [18] (fun _ => rfl) rfl (by kernel_rfl) 2 (by kernel_rfl) rfl (by kernel_rfl) (by kernel_rfl) (by kernel_rfl) (fun _ _ _ h => h) (Or.inl ⟨by kernel_rfl, ?_⟩) hS ?_
   ·
    intro w hSw; go_simp
   try simp only [List.getElem_toArray, List.getElem_cons_succ, List.getElem_cons_zero, Act.put, List.setIfInBounds_toArray, List.set_cons_zero, List.set_cons_succ]
   refine wpAnyD_takeC (i := 4) (v := .slice al nl cl) [18] (fun _ => rfl) rfl (by kernel_rfl) 2 (by kernel_rfl) rfl (by kernel_rfl) (by kernel_rfl) (by kernel_rfl) (fun _ _ _ h => h) (Or.inl ⟨by kernel_rfl, ?_⟩) hS ?_
   ·
    intro w hSw; obtain ⟨x0, x1, x2, x3, x4⟩ := cuCells hSw; go_simp
   try simp only [List.getElem_toArray, List.getElem_cons_succ, List.getElem_cons_zero, Act.put, List.setIfInBounds_toArray, List.set_cons_zero, List.set_cons_succ]
   refine wpAnyD_takeC (i := 5) (v := .pointer (some ⟨g, 0, none⟩)) [18] (fun _ => rfl) rfl (by kernel_rfl) 2 (by kernel_rfl) rfl (by kernel_rfl) (by kernel_rfl) (by kernel_rfl) (fun _ _ _ h => h) (Or.inl ⟨by kernel_rfl, ?_⟩) hS ?_
   ·
    intro w hSw; go_simp
   try simp only [List.getElem_toArray, List.getElem_cons_succ, List.getElem_cons_zero, Act.put, List.setIfInBounds_toArray, List.set_cons_zero, List.set_cons_succ]
   refine wpAnyD_takeC (i := 6) (v := .pointer (some ⟨g, 0, none⟩)) [18] (fun _ => rfl) rfl (by kernel_rfl) 2 (by kernel_rfl) rfl (by kernel_rfl) (by kernel_rfl) (by kernel_rfl) (fun _ _ _ h => h) (Or.inl ⟨by kernel_rfl, ?_⟩) hS ?_
   ·
    intro w hSw; go_simp
   try simp only [List.getElem_toArray, List.getElem_cons_succ, List.getElem_cons_zero, Act.put, List.setIfInBounds_toArray, List.set_cons_zero, List.set_cons_succ]
   refine wpAnyD_takeC (i := 7) (v := .pointer (some ⟨g, 1, none⟩)) [18] (fun _ => rfl) rfl (by kernel_rfl) 2 (by kernel_rfl) rfl (by kernel_rfl) (by kernel_rfl) (by kernel_rfl) (fun _ _ _ h => h) (Or.inl ⟨by kernel_rfl, ?_⟩) hS ?_
   ·
    intro w hSw; go_simp
   try simp only [List.getElem_toArray, List.getElem_cons_succ, List.getElem_cons_zero, Act.put, List.setIfInBounds_toArray, List.set_cons_zero, List.set_cons_succ]
   refine wpAnyD_takeC (i := 8) (v := .int .i64 p) [18] (fun _ => rfl) rfl (by kernel_rfl) 2 (by kernel_rfl) rfl (by kernel_rfl) (by kernel_rfl) (by kernel_rfl) (fun _ _ _ h => h) (Or.inl ⟨by kernel_rfl, ?_⟩) hS ?_
   ·
    intro w hSw; obtain ⟨x0, x1, x2, x3, x4⟩ := cuCells hSw; go_simp
   try simp only [List.getElem_toArray, List.getElem_cons_succ, List.getElem_cons_zero, Act.put, List.setIfInBounds_toArray, List.set_cons_zero, List.set_cons_succ]
   refine wpAnyD_takeC (i := 9) (v := .pointer (some ⟨g, 0, none⟩)) [18] (fun _ => rfl) rfl (by kernel_rfl) 2 (by kernel_rfl) rfl (by kernel_rfl) (by kernel_rfl) (by kernel_rfl) (fun _ _ _ h => h) (Or.inl ⟨by kernel_rfl, ?_⟩) hS ?_
   ·
    intro w hSw; go_simp
   try simp only [List.getElem_toArray, List.getElem_cons_succ, List.getElem_cons_zero, Act.put, List.setIfInBounds_toArray, List.set_cons_zero, List.set_cons_succ]
   refine wpAnyD_takeC (i := 10) (v := .pointer (some ⟨g, 0, none⟩)) [18] (fun _ => rfl) rfl (by kernel_rfl) 2 (by kernel_rfl) rfl (by kernel_rfl) (by kernel_rfl) (by kernel_rfl) (fun _ _ _ h => h) (Or.inl ⟨by kernel_rfl, ?_⟩) hS ?_
   ·
    intro w hSw; go_simp
   try simp only [List.getElem_toArray, List.getElem_cons_succ, List.getElem_cons_zero, Act.put, List.setIfInBounds_toArray, List.set_cons_zero, List.set_cons_succ]
   refine wpAnyD_takeC (i := 11) (v := .pointer (some ⟨g, 2, none⟩)) [18] (fun _ => rfl) rfl (by kernel_rfl) 2 (by kernel_rfl) rfl (by kernel_rfl) (by kernel_rfl) (by kernel_rfl) (fun _ _ _ h => h) (Or.inl ⟨by kernel_rfl, ?_⟩) hS ?_
   ·
    intro w hSw; go_simp
   try simp only [List.getElem_toArray, List.getElem_cons_succ, List.getElem_cons_zero, Act.put, List.setIfInBounds_toArray, List.set_cons_zero, List.set_cons_succ]
   refine wpAnyD_takeC (i := 12) (v := .int .i64 line) [18] (fun _ => rfl) rfl (by kernel_rfl) 2 (by kernel_rfl) rfl (by kernel_rfl) (by kernel_rfl) (by kernel_rfl) (fun _ _ _ h => h) (Or.inl ⟨by kernel_rfl, ?_⟩) hS ?_
   ·
    intro w hSw; obtain ⟨x0, x1, x2, x3, x4⟩ := cuCells hSw; go_simp
   try simp only [List.getElem_toArray, List.getElem_cons_succ, List.getElem_cons_zero, Act.put, List.setIfInBounds_toArray, List.set_cons_zero, List.set_cons_succ]
   refine wpAnyD_takeC (i := 13) (v := .agg #[.int .i64 6, .string ⟨#[59]⟩, .int .i64 p, .int .i64 line, .bool true]) [18] (fun _ => rfl) rfl (by kernel_rfl) 2 (by kernel_rfl) rfl (by kernel_rfl) (by kernel_rfl) (by kernel_rfl) (fun _ _ _ h => h) (Or.inl ⟨by kernel_rfl, ?_⟩) hS ?_
   ·
    intro w hSw; go_simp
   try simp only [List.getElem_toArray, List.getElem_cons_succ, List.getElem_cons_zero, Act.put, List.setIfInBounds_toArray, List.set_cons_zero, List.set_cons_succ]
   replace h1 := zH h1
   replace h2 := zH h2
   replace hS := zH hS
   replace hw := zH hw
   refine wpAnyD_one (i := 14) rfl (by kernel_rfl) (fun K hK => ?_)
   replace hK := zH hK
   go_simp
   have hS2 : (W.alloc (.cells #[.int .i64 6, .string ⟨#[59]⟩, .int .i64 p, .int .i64 line, .bool true] 50)).heap[g]? = some (cuObj s p line (.slice al nl cl) (.slice ac nc cc)) := (Below.heap_alloc _ _ _ hg).trans (uH hS)
   have h1a := own_alloc (uH h1) (.cells #[.int .i64 6, .string ⟨#[59]⟩, .int .i64 p, .int .i64 line, .bool true] 50)
   have h2a := own_alloc (uH h2) (.cells #[.int .i64 6, .string ⟨#[59]⟩, .int .i64 p, .int .i64 line, .bool true] 50)
   have hn := new_tok W ⟨6, ⟨#[59]⟩, p, line, true⟩ (0, 0)
   have hwa := (uH hw).alloc (by omega) (.cells #[.int .i64 6, .string ⟨#[59]⟩, .int .i64 p, .int .i64 line, .bool true] 50)
   have hga : g < (W.alloc (.cells #[.int .i64 6, .string ⟨#[59]⟩, .int .i64 p, .int .i64 line, .bool true] 50)).heap.size := (Array.getElem?_eq_some_iff.1 hS2).1
   refine uH hK _ _ (fun _ => hS2) ?_
   clear hK K h1 h2 hS hw
   dsimp only at hn
   generalize World.alloc W _ = W2 at *
   generalize W.heap.size = gn at *
   try simp only [List.getElem_toArray, List.getElem_cons_succ, List.getElem_cons_zero, Act.put, List.setIfInBounds_toArray, List.set_cons_zero, List.set_cons_succ]
   refine wpAnyD_one (i := 15) rfl (by kernel_rfl) (fun K hK => ?_)
   rw [if_pos (by kernel_rfl)]
   refine wp_append_tok (v := .slice al nl cl) (.tmp 25) (.tmp 35) rfl ⟨6, ⟨#[59]⟩, p, line, true⟩ rfl h1a ⟨gn, 0, none⟩ rfl hn (by omega) (by omega) ?_
   intro v' W3 hown hgrow
   obtain ⟨hst, hS3⟩ := cu_stored hS2 h1a h2a h3 hown hgrow
   have hwb : Below base w W3 := hwa.grown hgrow (by omega) (fun k hk => by
    rcases h1a.2 with ⟨e, _⟩ | ⟨g', cap, cur, e, hb, _⟩
    ·
     rw [e] at hk; cases hk
    ·
     rw [e] at hk
     obtain rfl : g' = k := by simpa [Value.ownBlock] using hk
     exact hb)
   obtain ⟨al', cl', hv, _, _⟩ := own_shape hown
   obtain rfl : v' = .slice al' (nl + 1) cl' := by rw [hv, List.length_append, hnl]; rfl
   clear hv
   refine hK _ _ (fun _ => hS3) ?_
   clear hK K hown hgrow h1a h2a hn hwa hS2 hga
   have hS := hS3
   clear hS3
   replace hst := zH hst
   replace hwb := zH hwb
   try simp only [List.getElem_toArray, List.getElem_cons_succ, List.getElem_cons_zero, Act.put, List.setIfInBounds_toArray, List.set_cons_zero, List.set_cons_succ]
   refine wpAnyD_takeC (i := 16) (v := .pointer (some ⟨g, 0, none⟩)) [18] (fun _ => rfl) rfl (by kernel_rfl) 2 (by kernel_rfl) rfl (by kernel_rfl) (by kernel_rfl) (by kernel_rfl) (fun _ _ _ h => h) (Or.inl ⟨by kernel_rfl, ?_⟩) hS ?_
   ·
    intro w hSw; go_simp
   try simp only [List.getElem_toArray, List.getElem_cons_succ, List.getElem_cons_zero, Act.put, List.setIfInBounds_toArray, List.set_cons_zero, List.set_cons_succ]
   refine wpAnyD_takeC (i := 17) (v := .pointer (some ⟨g, 3, none⟩)) [18] (fun _ => rfl) rfl (by kernel_rfl) 2 (by kernel_rfl) rfl (by kernel_rfl) (by kernel_rfl) (by kernel_rfl) (fun _ _ _ h => h) (Or.inl ⟨by kernel_rfl, ?_⟩) hS ?_
   ·
    intro w hSw; go_simp
   try simp only [List.getElem_toArray, List.getElem_cons_succ, List.getElem_cons_zero, Act.put, List.setIfInBounds_toArray, List.set_cons_zero, List.set_cons_succ]
   obtain ⟨x0, x1, x2, x3, x4⟩ := cuCells hS
   have hf := cuFrozen hS
   refine wpAnyD_one (i := 18) rfl (by kernel_rfl) (fun K hK => ?_)
   replace hK := zH hK
   go_simp
   refine uH hK _ _ (fun h => by cases h) ?_
   clear hK K x0 x1 x2 x3 x4 hf hS
   replace hst := uH hst
   have hwc := (uH hwb).setCell (p := ⟨g, 3, none⟩) h3 (.slice al' (nl + 1) cl')
   clear hwb
   generalize World.setCell _ _ _ = W4 at *
   refine wpAnyD_done (by kernel_rfl) ?_ _
   replace hst := zH hst
   replace hwc := zH hwc
   go_wp2
   go_end0
   exact ⟨rfl, (uH hon he).symm ▸ uH hst, uH hwc⟩
end Go.Proofs.YtiknnobgoamgcaaGreatDoor
/-
  What begins at a place, by its first bytes; the program's cutter.step.
-/
namespace Go.Proofs.YtiknnobgoamgcaaGreatDoor
open Go.RowKit
set_option linter.unusedSimpArgs false
set_option linter.unusedVariables false
/-- A text begins with two slashes. -/
def slaB (s : ByteArray) : Bool := decide (2 ≤ s.size ∧ byteAt s 0 = 47 ∧ byteAt s 1 = 47)
theorem sla_of (s : ByteArray) (h : 2 ≤ s.size) : ((s.extract 0 2).toList == [47, 47]) = slaB s := by
 rw [Lib.extract_toList]
 obtain ⟨⟨l⟩⟩ := s
 match l, h with
 | a :: b :: r, h =>
  have h' : 2 ≤ (⟨⟨a :: b :: r⟩⟩ : ByteArray).size := h
  show ([a, b] == [47, 47]) = decide (_ ∧ a.toNat = 47 ∧ b.toNat = 47)
  rw [Bool.eq_iff_iff]
  simp only [h', true_and, beq_iff_eq, List.cons.injEq, and_true, decide_eq_true_eq, ← UInt8.toNat_inj]
  exact Iff.rfl
set_option maxHeartbeats 400000 in
set_option maxRecDepth 100000 in
theorem slaPrefix_any (s : ByteArray) (w : World) (hs : s.size ≤ 1000000) :
  Calls Tryz.prog 79 #[.string s, .string ⟨#[47, 47]⟩] w fun e w' => e = .returned (.bool (slaB s)) ∧ w' = w := by
 have h1 : ∀ w, Calls Tryz.prog 97 #[.string s, .string ⟨#[47, 47]⟩] w fun e w' => e = .returned (.bool (slaB s)) ∧ w' = w := fun w => by
  by_cases h3 : s.size < 2
  ·
   go_enter Tryz.func97, Tryz.ntmps97
   go_wp2
   go_ret
   refine ⟨ret_bool ?_, rfl⟩
   rw [slaB, decide_eq_false (by omega)]
  ·
   go_enter Tryz.func97, Tryz.ntmps97
   go_wp2
   go_ret
   exact ⟨ret_bool (sla_of s (by omega)), rfl⟩
 go_enter Tryz.func79, Tryz.ntmps79
 go_wp2_with fail
 refine (h1 w).mono ?_
 rintro e W ⟨rfl, rfl⟩
 go_wp2
 go_ret
 exact ⟨rfl, rfl⟩
theorem no_sla (t : ByteArray) (h : byteAt t 0 = 47) : isOp t = false := by
 cases hb : isOp t with
 | false => rfl
 | true =>
  exfalso
  have hm := inB_mem hb
  simp only [opsB, List.mem_cons, List.not_mem_nil, or_false] at hm
  rcases hm with rfl | rfl | rfl | rfl | rfl | rfl | rfl | rfl | rfl | rfl | rfl | rfl | rfl | rfl | rfl | rfl | rfl | rfl
  all_goals exact absurd h (by decide)
theorem byteAt_sub (s : ByteArray) (a b : Nat) (ha : a < b) (hb : b ≤ s.size) : byteAt (s.extract a b) 0 = byteAt s a := by
 rw [byteAt_eq, byteAt_eq, ByteArray.data_extract, Array.getElem?_extract]
 have e : s.size = s.data.size := rfl
 rw [if_pos (by omega), Nat.add_zero]
theorem opN_sla (s : ByteArray) (p : Nat) (hp : p < s.size) (h : byteAt s p = 47) : opN s p = 0 := by
 unfold opN
 rw [no_sla (s.extract p (p + 1)) (by rw [byteAt_sub s _ _ (by omega) (by omega)]; exact h)]
 by_cases h2 : p + 2 ≤ s.size
 ·
  rw [no_sla (s.extract p (p + 2)) (by rw [byteAt_sub s _ _ (by omega) (by omega)]; exact h), Bool.and_false]
  rfl
 ·
  rw [decide_eq_false h2, Bool.false_and]
  rfl
/-- What begins that is no blank, no newline, no comment. -/
theorem one_mark (s : ByteArray) (x : Sc) (hp : x.p < s.size) (h1 : byteAt s x.p ≠ 32) (h2 : byteAt s x.p ≠ 9) (h3 : byteAt s x.p ≠ 10) (h4 : byteAt s x.p = 47 → x.isCom s = false) :
  x.one s = (decide (mN s x.p ≠ 0), if mN s x.p ≠ 0 then x.add s (mK s x.p) (x.p + mN s x.p) else x) := by
 have ht := toN_range (s := s) (wd := false) (a := x.p) (by omega)
 have hu := toN_range (s := s) (wd := true) (a := x.p) (by omega)
 unfold Sc.one mN mK
 rw [if_neg (by omega), if_neg h3]
 by_cases h59 : byteAt s x.p = 59
 ·
  have hl : letB (byteAt s x.p) = false := by rw [h59]; rfl
  have hd : digB (byteAt s x.p) = false := by rw [h59]; rfl
  simp [h59, hl, hd, show letB 59 = false from rfl, show digB 59 = false from rfl]
 by_cases h47 : byteAt s x.p = 47
 ·
  have hc := h4 h47
  have ho := opN_sla s x.p hp h47
  rw [if_neg h59, if_pos h47]
  simp [h47, hc, ho, Sc.comment, show letB 47 = false from rfl, show digB 47 = false from rfl]
 by_cases h34 : byteAt s x.p = 34
 ·
  rw [if_neg h59, if_neg h47, if_pos h34]
  have hq := qN_ge s (x.p + 1)
  cases hb : strB s x.p with
  | false => simp [h34, hb, show letB 34 = false from rfl, show digB 34 = false from rfl]
  | true =>
   have e1 : qN s (x.p + 1) + 1 - x.p ≠ 0 := by omega
   have e2 : x.p + (qN s (x.p + 1) + 1 - x.p) = qN s (x.p + 1) + 1 := by omega
   simp [h34, hb, e1, e2, show letB 34 = false from rfl, show digB 34 = false from rfl]
 rw [if_neg h59, if_neg h47, if_neg h34, if_neg h34, if_neg h59, if_neg h34, if_neg h59]
 cases hd : digB (byteAt s x.p) with
 | true =>
  have hl : letB (byteAt s x.p) = false := by
   have := (dig_iff _).1 hd
   exact is_false (let_iff _) (by omega)
  have h5 : x.p < toN s false x.p := by
   have e1 : toN s false x.p = toN s false (x.p + 1) := toN_step hp (by rw [clsB, hd]; rfl)
   have e2 := (toN_range (s := s) (wd := false) (a := x.p + 1) (by omega)).1
   omega
  cases hb : numB s x.p with
  | false => simp [hl]
  | true =>
   have e1 : toN s false x.p - x.p ≠ 0 := by omega
   have e2 : x.p + (toN s false x.p - x.p) = toN s false x.p := by omega
   simp [hl, e1, e2]
 | false =>
  rw [if_neg (by decide)]
  cases hl : letB (byteAt s x.p) with
  | true =>
   have h5 : x.p < toN s true x.p := by
    have e1 : toN s true x.p = toN s true (x.p + 1) := toN_step hp (by rw [clsB, hl]; simp)
    have e2 := (toN_range (s := s) (wd := true) (a := x.p + 1) (by omega)).1
    omega
   rw [if_pos rfl, if_pos rfl, if_pos rfl]
   by_cases hb : toN s true x.p - x.p ≤ 24
   ·
    have e1 : toN s true x.p - x.p ≠ 0 := by omega
    have e2 : x.p + (toN s true x.p - x.p) = toN s true x.p := by omega
    rw [if_pos hb, if_pos hb, if_pos hb, decide_eq_true hb, if_pos e1, decide_eq_true e1, e2]
   ·
    rw [if_neg hb, if_neg hb, decide_eq_false hb, if_neg (by simp)]
    rfl
  | false =>
   simp
end Go.Proofs.YtiknnobgoamgcaaGreatDoor
namespace Go.Proofs.YtiknnobgoamgcaaGreatDoor
open Go.RowKit
set_option linter.unusedSimpArgs false
set_option linter.unusedVariables false
theorem note_com (s : ByteArray) (x : Sc) : x.semi.note s = x.com s := by
 obtain ⟨h1, h2, h3, _⟩ := semi_rest x
 rw [Sc.note, Sc.com, h1, h2, h3]
set_option maxHeartbeats 4000000 in
set_option maxRecDepth 100000 in
theorem cuStep_any (w : World) (base g : Nat) (s : ByteArray) (x : Sc) (hx : CuSt w base g s x) (hp : x.p < s.size) (hs : s.size ≤ 1000000) (hl : x.l.length ≤ 800000) (hcl : x.c.length ≤ 800000) (hln : x.line ≤ 1000000) :
  Calls Tryz.prog 61 #[.pointer (some ⟨g, 0, none⟩)] w fun e w' => e = .returned (.bool (x.one s).1) ∧ CuSt w' base g s (x.one s).2 ∧ Below base w w' := by
 have HCl := fun (w : World) (h : CuSt w base g s x) => cuClose_any w base g s x h (by omega)
 have hsr := semi_rest x
 have HCm := fun (w : World) (h : CuSt w base g s x.semi) => cuComment_any w base g s x.semi h (by omega) hs (by omega) (by rw [hsr.2.2.1]; omega)
 rw [hsr.1, note_com] at HCm
 have HWd := fun (w : World) (h : CuSt w base g s x) => cuWord_any w base g s x h hp hs (by omega)
 have HP := fun w => slaPrefix_any (s.extract x.p s.size) w (by rw [ByteArray.size_extract]; omega)
 have hsl : slaB (s.extract x.p s.size) = (decide (byteAt s x.p = 47) && x.isCom s) := by
  unfold slaB Sc.isCom
  rw [ByteArray.size_extract, Nat.min_self, byteAt_extract, byteAt_extract, Nat.add_zero, ← Bool.decide_and, ← Bool.decide_and, decide_eq_decide]
  omega
 rw [hsl] at HP
 have hm := one_mark s x hp
 have hi0 : ∀ h, ((s.extract x.p s.size)[0]'h).toNat = byteAt s x.p := fun h => by rw [byteAt_idx, byteAt_extract, Nat.add_zero]
 have hr0 : 0 < (s.extract x.p s.size).size := by rw [ByteArray.size_extract]; omega
 have hbl := byteAt_lt s x.p
 have hone : x.one s = _ := rfl
 generalize hre : s.extract x.p s.size = rest at *
 obtain ⟨vl, vc, h0, h1, h2, h3⟩ := id hx
 have hS : w.drew.heap[g]? = some (cuObj s x.p x.line vl vc) := h0
 have hw : Below base w w.drew := (Below.refl _ _).drew
 have hx1 : CuSt w.drew base g s x := hx
 replace HCl := zH HCl
 replace HCm := zH HCm
 replace HWd := zH HWd
 replace HP := zH HP
 replace hx1 := zH hx1
 replace hm := zH hm
 have hpr : ¬ s.size < x.p := by omega
 clear hx h0 h1 h2 hsl hone
 go_enter Tryz.func61, Tryz.ntmps61
 go_upto_region 1 with fail
 refine wp_region_held_drew (S := fun w' => w'.heap[g]? = some (cuObj s x.p x.line vl vc)) (by kernel_rfl) hS (fun _ => ?_)
 generalize World.drew w = W at hS hw hx1 ⊢
 refine wpAnyH_take (i := 0) (v := .pointer (some ⟨g, 0, none⟩)) rfl (by kernel_rfl) (by kernel_rfl) (by kernel_rfl) (fun _ _ _ h => h) (Or.inl ⟨by kernel_rfl, ?_⟩) hS ?_
 ·
  intro w hSw; go_simp
 try simp only [List.getElem_toArray, List.getElem_cons_succ, List.getElem_cons_zero, Act.put, List.setIfInBounds_toArray, List.set_cons_zero, List.set_cons_succ]
 refine wpAnyH_take (i := 1) (v := .pointer (some ⟨g, 0, none⟩)) rfl (by kernel_rfl) (by kernel_rfl) (by kernel_rfl) (fun _ _ _ h => h) (Or.inl ⟨by kernel_rfl, ?_⟩) hS ?_
 ·
  intro w hSw; go_simp
 try simp only [List.getElem_toArray, List.getElem_cons_succ, List.getElem_cons_zero, Act.put, List.setIfInBounds_toArray, List.set_cons_zero, List.set_cons_succ]
 refine wpAnyH_take (i := 2) (v := .pointer (some ⟨g, 0, none⟩)) rfl (by kernel_rfl) (by kernel_rfl) (by kernel_rfl) (fun _ _ _ h => h) (Or.inl ⟨by kernel_rfl, ?_⟩) hS ?_
 ·
  intro w hSw; go_simp
 try simp only [List.getElem_toArray, List.getElem_cons_succ, List.getElem_cons_zero, Act.put, List.setIfInBounds_toArray, List.set_cons_zero, List.set_cons_succ]
 refine wpAnyH_take (i := 3) (v := .string s) rfl (by kernel_rfl) (by kernel_rfl) (by kernel_rfl) (fun _ _ _ h => h) (Or.inl ⟨by kernel_rfl, ?_⟩) hS ?_
 ·
  intro w hSw; obtain ⟨x0, x1, x2, x3, x4⟩ := cuCells hSw; go_simp
 try simp only [List.getElem_toArray, List.getElem_cons_succ, List.getElem_cons_zero, Act.put, List.setIfInBounds_toArray, List.set_cons_zero, List.set_cons_succ]
 refine wpAnyH_take (i := 4) (v := .pointer (some ⟨g, 0, none⟩)) rfl (by kernel_rfl) (by kernel_rfl) (by kernel_rfl) (fun _ _ _ h => h) (Or.inl ⟨by kernel_rfl, ?_⟩) hS ?_
 ·
  intro w hSw; go_simp
 try simp only [List.getElem_toArray, List.getElem_cons_succ, List.getElem_cons_zero, Act.put, List.setIfInBounds_toArray, List.set_cons_zero, List.set_cons_succ]
 refine wpAnyH_take (i := 5) (v := .pointer (some ⟨g, 0, none⟩)) rfl (by kernel_rfl) (by kernel_rfl) (by kernel_rfl) (fun _ _ _ h => h) (Or.inl ⟨by kernel_rfl, ?_⟩) hS ?_
 ·
  intro w hSw; go_simp
 try simp only [List.getElem_toArray, List.getElem_cons_succ, List.getElem_cons_zero, Act.put, List.setIfInBounds_toArray, List.set_cons_zero, List.set_cons_succ]
 refine wpAnyH_take (i := 6) (v := .pointer (some ⟨g, 1, none⟩)) rfl (by kernel_rfl) (by kernel_rfl) (by kernel_rfl) (fun _ _ _ h => h) (Or.inl ⟨by kernel_rfl, ?_⟩) hS ?_
 ·
  intro w hSw; go_simp
 try simp only [List.getElem_toArray, List.getElem_cons_succ, List.getElem_cons_zero, Act.put, List.setIfInBounds_toArray, List.set_cons_zero, List.set_cons_succ]
 refine wpAnyH_take (i := 7) (v := .int .i64 x.p) rfl (by kernel_rfl) (by kernel_rfl) (by kernel_rfl) (fun _ _ _ h => h) (Or.inl ⟨by kernel_rfl, ?_⟩) hS ?_
 ·
  intro w hSw; obtain ⟨x0, x1, x2, x3, x4⟩ := cuCells hSw; go_simp
 try simp only [List.getElem_toArray, List.getElem_cons_succ, List.getElem_cons_zero, Act.put, List.setIfInBounds_toArray, List.set_cons_zero, List.set_cons_succ]
 refine wpAnyH_take (i := 8) (v := .string rest) rfl (by kernel_rfl) (by kernel_rfl) (by kernel_rfl) (fun _ _ _ h => h) (Or.inl ⟨by kernel_rfl, ?_⟩) hS ?_
 ·
  intro w hSw; go_simp
 try simp only [List.getElem_toArray, List.getElem_cons_succ, List.getElem_cons_zero, Act.put, List.setIfInBounds_toArray, List.set_cons_zero, List.set_cons_succ]
 refine wpAnyH_take (i := 9) (v := .string rest) rfl (by kernel_rfl) (by kernel_rfl) (by kernel_rfl) (fun _ _ _ h => h) (Or.inl ⟨by kernel_rfl, ?_⟩) hS ?_
 ·
  intro w hSw; go_simp
 try simp only [List.getElem_toArray, List.getElem_cons_succ, List.getElem_cons_zero, Act.put, List.setIfInBounds_toArray, List.set_cons_zero, List.set_cons_succ]
 refine wpAnyH_done (by kernel_rfl) ?_ _
 by_cases h32 : byteAt s x.p = 32 ∨ byteAt s x.p = 9
 ·
  have e : x.one s = (true, ⟨x.p + 1, x.line, x.l, x.c⟩) := by rw [Sc.one, if_pos h32]
  have hmv := (cu_moved (uH hx1) (x.p + 1)).1
  have hwd := hw.setCell (p := ⟨g, 1, none⟩) h3 (.int .i64 ((x.p + 1 : Nat) : Int))
  obtain ⟨x0, x1, x2, x3, x4⟩ := cuCells hS
  have hf := cuFrozen hS
  have hadd : IntKind.i64.wrap ((x.p : Int) + 1) = ((x.p + 1 : Nat) : Int) := by rw [wrapI _ (by omega) (by omega)]; omega
  generalize x.p + 1 = q at *
  replace e := zH e
  replace hmv := zH hmv
  replace hwd := zH hwd
  clear hm hS hw hx1 HCl HCm HWd HP hbl
  rcases h32 with h32 | h32
  ·
   rw [h32] at hi0
   clear h32
   go_wp2
   go_ret
   exact ⟨by rw [uH e]; rfl, by rw [uH e]; exact uH hmv, uH hwd⟩
  ·
   rw [h32] at hi0
   clear h32
   go_wp2
   go_ret
   exact ⟨by rw [uH e]; rfl, by rw [uH e]; exact uH hmv, uH hwd⟩
 ·
  have n32 : ¬ ((byteAt s x.p : Nat) : Int) = 32 := by omega
  have n9 : ¬ ((byteAt s x.p : Nat) : Int) = 9 := by omega
  have m32 : (((byteAt s x.p : Nat) : Int) == 32) = false := beq_eq_false_iff_ne.2 n32
  have m9 : (((byteAt s x.p : Nat) : Int) == 9) = false := beq_eq_false_iff_ne.2 n9
  by_cases h10 : byteAt s x.p = 10
  ·
   have e : x.one s = (true, ⟨x.p + 1, x.line + 1, x.semi.l, x.c⟩) := by rw [Sc.one, if_neg h32, if_pos h10]
   rw [h10] at hi0
   replace e := zH e
   clear hm hS HCm HWd HP hbl n32 n9 h32 h10 m32 m9
   go_wp2_with fail
   refine (uH HCl _ (uH hx1)).mono ?_
   rintro e W1 ⟨rfl, hst, hw1⟩
   replace hw := hw.trans hw1
   clear hw1 hx1 HCl
   obtain ⟨hr1, hr2, hr3, hr4⟩ := hsr
   have hm1 := (cu_moved hst (x.p + 1)).1
   have hm2 := (cu_moved hm1 (x.line + 1)).2
   obtain ⟨vl2, vc2, hS2, _, _, _⟩ := hst
   rw [hr1, hr2] at hS2
   obtain ⟨x0, x1, x2, x3, x4⟩ := cuCells hS2
   have hf := cuFrozen hS2
   have hS3 := Joins.block_setCell (i := 1) hS2 (.int .i64 ((x.p + 1 : Nat) : Int))
   obtain ⟨y0, y1, y2, y3, y4⟩ := cuCells (p := x.p + 1) hS3
   have hf3 := cuFrozen (p := x.p + 1) hS3
   have hwd := (hw.setCell (p := ⟨g, 1, none⟩) h3 (.int .i64 ((x.p + 1 : Nat) : Int))).setCell (p := ⟨g, 2, none⟩) h3 (.int .i64 ((x.line + 1 : Nat) : Int))
   have hadd : IntKind.i64.wrap ((x.p : Int) + 1) = ((x.p + 1 : Nat) : Int) := by rw [wrapI _ (by omega) (by omega)]; omega
   have hadl : IntKind.i64.wrap ((x.line : Int) + 1) = ((x.line + 1 : Nat) : Int) := by rw [wrapI _ (by omega) (by omega)]; omega
   clear hS2 hS3 hm1 hw
   generalize x.p + 1 = q at *
   generalize x.line + 1 = ql at *
   replace hm2 := zH hm2
   replace hwd := zH hwd
   go_wp2
   go_ret
   refine ⟨by rw [uH e]; rfl, ?_, uH hwd⟩
   rw [uH e, ← hr3]
   exact uH hm2
  ·
   have n10 : ¬ ((byteAt s x.p : Nat) : Int) = 10 := by omega
   have m10 : (((byteAt s x.p : Nat) : Int) == 10) = false := beq_eq_false_iff_ne.2 n10
   have hm := uH hm (by omega) (by omega) h10
   cases hc : (decide (byteAt s x.p = 47) && x.isCom s) with
   | true =>
    rw [Bool.and_eq_true, decide_eq_true_eq] at hc
    have e : x.one s = (true, x.com s) := by rw [Sc.one, if_neg h32, if_neg h10, if_neg (by omega), if_pos hc.1, hc.2, Sc.comment, if_pos hc.2]
    rw [hc.1, hc.2] at HP
    replace HP := zH (uH HP)
    rw [hc.1] at hi0
    replace e := zH e
    generalize x.com s = y at *
    clear hm hS HWd hbl n32 n9 h32 h10 n10 m32 m9 m10 hc
    go_wp2_with fail
    refine (uH HP _).mono ?_
    rintro e W1 ⟨rfl, rfl⟩
    go_wp2_with fail
    refine (uH HCl _ (uH hx1)).mono ?_
    rintro e W2 ⟨rfl, hst, hw1⟩
    replace hw := hw.trans hw1
    clear hw1 hx1 HCl
    go_wp2_with fail
    refine (uH HCm _ hst).mono ?_
    rintro e W3 ⟨rfl, hst, hw1⟩
    replace hw := hw.trans hw1
    go_wp2
    go_ret
    refine ⟨by rw [uH e]; rfl, ?_, hw⟩
    rw [uH e]
    exact hst
   | false =>
    have hm := hm (fun h => by rw [h] at hc; simpa using hc)
    rw [hc] at HP
    generalize (if mN s x.p ≠ 0 then x.add s (mK s x.p) (x.p + mN s x.p) else x) = z at *
    generalize decide (mN s x.p ≠ 0) = zb at *
    replace hm := zH hm
    clear hS hbl h32 h10 hc HCl HCm
    go_wp2_with fail
    refine (uH HP _).mono ?_
    rintro e W1 ⟨rfl, rfl⟩
    go_wp2_with fail
    refine (uH HWd _ (uH hx1)).mono ?_
    rintro e W2 ⟨rfl, hst, hw1⟩
    go_wp2
    go_ret
    refine ⟨by rw [uH hm]; rfl, ?_, hw.trans hw1⟩
    rw [uH hm]
    exact hst
end Go.Proofs.YtiknnobgoamgcaaGreatDoor

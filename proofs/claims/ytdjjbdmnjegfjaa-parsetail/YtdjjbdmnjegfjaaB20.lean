/-
  4 texts in one.
-/
import Derived.Test.YtdjjbdmnjegfjaaB19
import Derived.LoopTactic
import Derived.Test.YtdjjbdmnjegfjaaB01
import Derived.Test.YtdjjbdmnjegfjaaB07
import Derived.Test.YtdjjbdmnjegfjaaB02
import Derived.Deep.DeepCutAuto
import Derived.Deep.RegionHeld
import Derived.Deep.LoopGhost
/-
  The walks of package scan: letter, digit, span, sign, number, named.
-/
namespace Go.Proofs.Ytdjjbdmnjegfjaa
open Go.RowKit
set_option linter.unusedSimpArgs false
set_option maxHeartbeats 400000 in
set_option maxRecDepth 100000 in
theorem scLetter_any (c : Nat) (w : World) (hc : c < 256) :
    Calls Try.prog 64 #[.int .u8 c] w fun e w' => e = .returned (.bool (letB c)) ∧ w' = w := by
  go_enter Try.func64, Try.ntmps64
  go_wp2
  all_goals
    go_ret
    refine ⟨ret_bool ?_, rfl⟩
    rw [Bool.eq_iff_iff]
    simp only [let_iff, Bool.or_eq_true, Bool.and_eq_true, decide_eq_true_eq, beq_iff_eq, Bool.false_eq_true, ne_eq, true_iff, false_iff]
    omega
set_option maxHeartbeats 400000 in
set_option maxRecDepth 100000 in
theorem scDigit_any (c : Nat) (w : World) (hc : c < 256) :
    Calls Try.prog 66 #[.int .u8 c] w fun e w' => e = .returned (.bool (digB c)) ∧ w' = w := by
  go_enter Try.func66, Try.ntmps66
  go_wp2
  all_goals
    go_ret
    refine ⟨ret_bool ?_, rfl⟩
    rw [Bool.eq_iff_iff]
    simp only [digB, Bool.or_eq_true, Bool.and_eq_true, decide_eq_true_eq, beq_iff_eq, Bool.false_eq_true, ne_eq, true_iff, false_iff]
    omega
set_option maxHeartbeats 400000 in
set_option maxRecDepth 100000 in
theorem scNamed1_any (c : Nat) (w : World) (hc : c < 256) :
    Calls Try.prog 75 #[.int .u8 c] w fun e w' => e = .returned (.bool (clsB true c)) ∧ w' = w := by
  have HL := fun w => scLetter_any c w hc
  have HD := fun w => scDigit_any c w hc
  have he : clsB true c = (letB c || digB c) := by rw [clsB, Bool.true_and, Bool.or_comm]
  rw [he]
  clear he
  generalize letB c = x at *
  generalize digB c = y at *
  replace HL := hide HL
  replace HD := hide HD
  go_enter Try.func75, Try.ntmps75
  go_wp2_with fail
  refine (unhide HL _).mono ?_
  rintro e W ⟨rfl, rfl⟩
  cases x with
  | true =>
    go_wp2
    go_ret
    exact ⟨rfl, rfl⟩
  | false =>
    go_wp2_with fail
    refine (unhide HD _).mono ?_
    rintro e W ⟨rfl, rfl⟩
    go_wp2
    go_ret
    exact ⟨rfl, rfl⟩
set_option maxHeartbeats 1000000 in
set_option maxRecDepth 100000 in
theorem scSpan_dig (s : ByteArray) (w : World) (hs : s.size ≤ maxLen) :
    Calls Try.prog 74 #[.string s, .func (.func 66) #[] #[]] w fun e w' => e = .returned (.int .i64 (toN s false 0)) ∧ w' = w := by
  unfold maxLen at hs
  go_enter Try.func74, Try.ntmps74
  go_wp2
  go_loopw [5] (fun ks wr => ∃ k : Nat, k ≤ s.size ∧ ks = .int .i64 k ∧ wr = w ∧ toN s false k = toN s false 0) (fun ks _ => s.size - (intOf ks).toNat)
  case atStart => exact ⟨0, Nat.zero_le _, rfl, rfl, rfl⟩
  case round =>
    obtain ⟨i, hi, rfl, rfl, hall⟩ := hrel
    by_cases hlt : i < s.size
    · have hik : ∀ h, (s[i]'h).toNat = byteAt s i := fun h => byteAt_idx s i h
      have HD := scDigit_any (byteAt s i) wr (byteAt_lt s i)
      rw [show digB (byteAt s i) = clsB false (byteAt s i) by simp [clsB]] at HD
      cases hd : clsB false (byteAt s i) with
      | true =>
        have hst := toN_step (wd := false) hlt hd
        rw [hst] at hall
        rw [hd] at HD
        replace HD := hide HD
        replace hall := hide hall
        clear hst hd
        go_wp2_with fail
        refine (unhide HD).mono ?_
        rintro e W ⟨rfl, rfl⟩
        go_wp2
        go_roundw
        case rel => exact ⟨i + 1, by omega, by go_num, by trivial, unhide hall⟩
        case measure => simp [intOf]; omega
      | false =>
        rw [toN_stop hd] at hall
        rw [hd] at HD
        replace HD := hide HD
        replace hall := hide hall
        clear hd
        go_wp2_with fail
        refine (unhide HD).mono ?_
        rintro e W ⟨rfl, rfl⟩
        go_wp2
        go_ret
        exact ⟨ret_int (unhide hall ▸ rfl), rfl⟩
    · rw [toN_end (by omega)] at hall
      replace hall := hide hall
      go_wp2
      go_ret
      exact ⟨ret_int (unhide hall ▸ rfl), rfl⟩
set_option maxHeartbeats 1000000 in
set_option maxRecDepth 100000 in
theorem scSpan_word (s : ByteArray) (w : World) (hs : s.size ≤ maxLen) :
    Calls Try.prog 74 #[.string s, .func (.func 75) #[] #[]] w fun e w' => e = .returned (.int .i64 (toN s true 0)) ∧ w' = w := by
  unfold maxLen at hs
  go_enter Try.func74, Try.ntmps74
  go_wp2
  go_loopw [5] (fun ks wr => ∃ k : Nat, k ≤ s.size ∧ ks = .int .i64 k ∧ wr = w ∧ toN s true k = toN s true 0) (fun ks _ => s.size - (intOf ks).toNat)
  case atStart => exact ⟨0, Nat.zero_le _, rfl, rfl, rfl⟩
  case round =>
    obtain ⟨i, hi, rfl, rfl, hall⟩ := hrel
    by_cases hlt : i < s.size
    · have hik : ∀ h, (s[i]'h).toNat = byteAt s i := fun h => byteAt_idx s i h
      have HD := scNamed1_any (byteAt s i) wr (byteAt_lt s i)
      cases hd : clsB true (byteAt s i) with
      | true =>
        have hst := toN_step (wd := true) hlt hd
        rw [hst] at hall
        rw [hd] at HD
        replace HD := hide HD
        replace hall := hide hall
        clear hst hd
        go_wp2_with fail
        refine (unhide HD).mono ?_
        rintro e W ⟨rfl, rfl⟩
        go_wp2
        go_roundw
        case rel => exact ⟨i + 1, by omega, by go_num, by trivial, unhide hall⟩
        case measure => simp [intOf]; omega
      | false =>
        rw [toN_stop hd] at hall
        rw [hd] at HD
        replace HD := hide HD
        replace hall := hide hall
        clear hd
        go_wp2_with fail
        refine (unhide HD).mono ?_
        rintro e W ⟨rfl, rfl⟩
        go_wp2
        go_ret
        exact ⟨ret_int (unhide hall ▸ rfl), rfl⟩
    · rw [toN_end (by omega)] at hall
      replace hall := hide hall
      go_wp2
      go_ret
      exact ⟨ret_int (unhide hall ▸ rfl), rfl⟩
/-- How long an operator begins, of at most so many bytes. -/
def opD (s : ByteArray) : Nat → Nat
  | 0 => 0
  | n + 1 => if isOp (s.extract 0 (n + 1)) then n + 1 else opD s n
theorem opD_le (s : ByteArray) : ∀ n, opD s n ≤ n := by
  intro n
  induction n with
  | zero => exact Nat.le_refl _
  | succ n ih => rw [opD]; split <;> omega
set_option maxHeartbeats 1000000 in
set_option maxRecDepth 100000 in
theorem scSign_any (s : ByteArray) (w : World) (h0 : 0 < s.size) (hs : s.size ≤ maxLen) :
    Calls Try.prog 69 #[.string s] w fun e w' => e = .returned (.int .i64 (opD s (min 2 s.size))) ∧ w' = w := by
  unfold maxLen at hs
  have HO := fun n w => tOp_any (s.extract 0 n) w
  replace HO := hide HO
  obtain ⟨m, hm⟩ : ∃ m, min 2 s.size = m := ⟨_, rfl⟩
  have hm1 : m ≤ 2 := by omega
  have hm2 : m ≤ s.size := by omega
  have hm3 : min 2 (s.size : Int) = m := by omega
  rw [hm]
  by_cases h2 : (2 : Int) ≤ s.size
  all_goals
    go_enter Try.func69, Try.ntmps69
    go_wp2
    go_loopw [3] (fun ks wr => ∃ n : Nat, ks = .int .i64 n ∧ wr = w ∧ n ≤ m ∧ opD s n = opD s m) (fun ks _ => (intOf ks).toNat)
    case atStart =>
      exact ⟨m, by first | rfl | (congr 1; omega), rfl, by omega, rfl⟩
    case round =>
      obtain ⟨n, rfl, rfl, hn, hall⟩ := hrel
      by_cases h3 : n = 0
      · subst h3
        rw [opD] at hall
        replace hall := hide hall
        go_wp2
        go_ret
        exact ⟨ret_int (by rw [← unhide hall]; rfl), rfl⟩
      · obtain ⟨n', rfl⟩ : ∃ n', n = n' + 1 := ⟨n - 1, by omega⟩
        rw [opD] at hall
        have H := unhide HO (n' + 1) wr
        cases hb : isOp (s.extract 0 (n' + 1)) with
        | true =>
          rw [hb] at H hall
          rw [if_pos rfl] at hall
          replace hall := hide hall
          replace H := hide H
          clear HO hb
          go_wp2_with fail
          refine (unhide H).mono ?_
          rintro e W ⟨rfl, rfl⟩
          go_wp2
          go_ret
          exact ⟨ret_int (by rw [← unhide hall]; rfl), rfl⟩
        | false =>
          rw [hb] at H hall
          rw [if_neg (by decide)] at hall
          replace hall := hide hall
          replace H := hide H
          clear HO hb
          go_wp2_with fail
          refine (unhide H).mono ?_
          rintro e W ⟨rfl, rfl⟩
          go_wp2
          go_roundw
          case rel => exact ⟨n', by go_num, by trivial, by omega, unhide hall⟩
          case measure => simp [intOf]
/-- What a number's length is; nought: none may be. -/
def numZ (s : ByteArray) : Nat := if 12 < toN s false 0 ∨ (byteAt s 0 = 48 ∧ 1 < toN s false 0) ∨ (toN s false 0 < s.size ∧ letB (byteAt s (toN s false 0)) = true) then 0 else toN s false 0
set_option maxHeartbeats 1000000 in
set_option maxRecDepth 100000 in
theorem scNumber_any (s : ByteArray) (w : World) (h0 : 0 < s.size) (hs : s.size ≤ maxLen) :
    Calls Try.prog 67 #[.string s] w fun e w' => e = .returned (.int .i64 (numZ s)) ∧ w' = w := by
  have HS := scSpan_dig s w hs
  have hr := toN_range (s := s) (wd := false) (a := 0) (by omega)
  have hz : numZ s = if 12 < toN s false 0 ∨ (byteAt s 0 = 48 ∧ 1 < toN s false 0) ∨ (toN s false 0 < s.size ∧ letB (byteAt s (toN s false 0)) = true) then 0 else toN s false 0 := rfl
  generalize numZ s = z at *
  generalize toN s false 0 = t at *
  unfold maxLen at hs
  have hi0 : ∀ h, (s[0]'h).toNat = byteAt s 0 := fun h => byteAt_idx s 0 h
  have hit : ∀ h, (s[t]'h).toNat = byteAt s t := fun h => byteAt_idx s t h
  have HL := fun w => scLetter_any (byteAt s t) w (byteAt_lt s t)
  have hb0 := byteAt_lt s 0
  have hbt := byteAt_lt s t
  generalize letB (byteAt s t) = y at *
  generalize byteAt s 0 = b at *
  generalize byteAt s t = c at *
  replace HS := hide HS
  replace HL := hide HL
  replace hz := hide hz
  by_cases h1 : (b : Int) = 48
  all_goals
    by_cases h2 : t < s.size
    · go_enter Try.func67, Try.ntmps67
      go_wp2_with fail
      refine (unhide HS).mono ?_
      rintro e W ⟨rfl, rfl⟩
      go_wp2_with fail
      refine (unhide HL _).mono ?_
      rintro e W ⟨rfl, rfl⟩
      cases y
      all_goals go_wp2
      all_goals
        go_ret
        refine ⟨ret_int ?_, rfl⟩
        have hz := unhide hz
        first
          | (rw [if_pos (by first | omega | (simp; omega))] at hz; rw [hz]; rfl)
          | (rw [if_neg (by first | omega | (simp; omega))] at hz; rw [hz])
    · go_enter Try.func67, Try.ntmps67
      go_wp2_with fail
      refine (unhide HS).mono ?_
      rintro e W ⟨rfl, rfl⟩
      go_wp2
      all_goals
        go_ret
        refine ⟨ret_int ?_, rfl⟩
        have hz := unhide hz
        first
          | (rw [if_pos (by first | omega | (simp; omega))] at hz; rw [hz]; rfl)
          | (rw [if_neg (by first | omega | (simp; omega))] at hz; rw [hz])
def namZ (s : ByteArray) : Nat := if 24 < toN s true 0 then 0 else toN s true 0
def namK (s : ByteArray) : Int := if 24 < toN s true 0 then 1 else if isKey (s.extract 0 (toN s true 0)) then 5 else 1
set_option maxHeartbeats 1000000 in
set_option maxRecDepth 100000 in
theorem scNamed_any (s : ByteArray) (w : World) (h0 : 0 < s.size) (hs : s.size ≤ maxLen) :
    Calls Try.prog 65 #[.string s] w fun e w' => e = .returned (.tuple #[.int .i64 (namK s), .int .i64 (namZ s)]) ∧ w' = w := by
  have HS := scSpan_word s w hs
  have hr := toN_range (s := s) (wd := true) (a := 0) (by omega)
  have HK := fun w => nKey_any (s.extract 0 (toN s true 0)) w
  unfold namZ namK
  generalize isKey (s.extract 0 (toN s true 0)) = k at *
  generalize toN s true 0 = t at *
  unfold maxLen at hs
  replace HS := hide HS
  replace HK := hide HK
  by_cases h1 : 24 < t
  · rw [if_pos h1, if_pos h1]
    clear HK
    go_enter Try.func65, Try.ntmps65
    go_wp2_with fail
    refine (unhide HS).mono ?_
    rintro e W ⟨rfl, rfl⟩
    go_wp2
    go_ret2
    exact ⟨rfl, rfl⟩
  · rw [if_neg h1, if_neg h1]
    go_enter Try.func65, Try.ntmps65
    go_wp2_with fail
    refine (unhide HS).mono ?_
    rintro e W ⟨rfl, rfl⟩
    go_wp2_with fail
    refine (unhide HK _).mono ?_
    rintro e W ⟨rfl, rfl⟩
    cases k
    all_goals go_wp2
    all_goals
      go_ret2
      exact ⟨rfl, rfl⟩
end Go.Proofs.Ytdjjbdmnjegfjaa
/-
  The program's cutter behind its pointer: as the reference's scanner.
-/
namespace Go.Proofs.Ytdjjbdmnjegfjaa
open Go.RowKit
/-- The scanner's block. -/
def cuObj (s : ByteArray) (p line : Nat) (vl vc : Value) : Obj := .cells #[.string s, .int .i64 p, .int .i64 line, vl, vc] 47 (0, 0)
def CuSt (w : World) (base g : Nat) (s : ByteArray) (x : Sc) : Prop :=
  ∃ vl vc, w.heap[g]? = some (cuObj s x.p x.line vl vc) ∧ OwnT w base vl x.l ∧ OwnC w base vc x.c ∧ base ≤ g
theorem CuSt.lt {w : World} {base g : Nat} {s : ByteArray} {x : Sc} (h : CuSt w base g s x) : g < w.heap.size := by
  obtain ⟨_, _, h, _⟩ := h
  exact (Array.getElem?_eq_some_iff.1 h).1
/-- A call that makes blocks alone. -/
theorem CuSt.below {w w' : World} {base g : Nat} {s : ByteArray} {x : Sc} (h : CuSt w base g s x) (hb : Below w.heap.size w w') : CuSt w' base g s x := by
  obtain ⟨vl, vc, h1, h2, h3, h4⟩ := h
  have hk : ∀ k o, w.heap[k]? = some o → w'.heap[k]? = w.heap[k]? := fun k o hk => hb.block k (Array.getElem?_eq_some_iff.1 hk).1
  exact ⟨vl, vc, (hk _ _ h1).trans h1, own_other h2 (fun k cur hc => hk k _ hc), own_other h3 (fun k cur hc => hk k _ hc), h4⟩
theorem cuCells {w : World} {g : Nat} {s : ByteArray} {p line : Nat} {vl vc : Value} (h : w.heap[g]? = some (cuObj s p line vl vc)) : w.cell? ⟨g, 0, none⟩ = some (.string s) ∧ w.cell? ⟨g, 1, none⟩ = some (.int .i64 p) ∧ w.cell? ⟨g, 2, none⟩ = some (.int .i64 line) ∧ w.cell? ⟨g, 3, none⟩ = some vl ∧ w.cell? ⟨g, 4, none⟩ = some vc :=
  ⟨Joins.cell_of_block h 0, Joins.cell_of_block h 1, Joins.cell_of_block h 2, Joins.cell_of_block h 3, Joins.cell_of_block h 4⟩
theorem cuFrozen {w : World} {g : Nat} {s : ByteArray} {p line : Nat} {vl vc : Value} (h : w.heap[g]? = some (cuObj s p line vl vc)) (i : Nat) : w.frozen? ⟨g, i, none⟩ = false := Joins.unfrozen_of_block h i
/-- A scanner whose tokens were appended to, and stored. -/
theorem cu_stored {w w' : World} {base g : Nat} {s : ByteArray} {p line : Nat} {vl vc v' : Value} {l l' : List Tk} {c : List Cm} (h0 : w.heap[g]? = some (cuObj s p line vl vc)) (h1 : OwnT w base vl l) (h2 : OwnC w base vc c) (h3 : base ≤ g)
    (hown : OwnT w' base v' l') (hg : w.grownBy w' vl.ownBlock) : CuSt (w'.setCell ⟨g, 3, none⟩ v') base g s ⟨p, line, l', c⟩ ∧ w'.heap[g]? = some (cuObj s p line vl vc) := by
  have hb : w'.heap[g]? = some (cuObj s p line vl vc) := (hg.block g (Array.getElem?_eq_some_iff.1 h0).1 (fun e => own_apart h1 (show 32 ≠ 47 by decide) g e.symm _ h0)).trans h0
  have hc : OwnC w' base vc c := own_grown h2 hg (own_apart h1 (show 32 ≠ 70 by decide))
  have hn : ∀ (e : Nat), e ≠ 47 → ∀ cur, w'.heap[(⟨g, 3, none⟩ : Addr).block]? ≠ some (Obj.cells cur e (0, 0)) := fun e he cur hk => by
    rw [show w'.heap[(⟨g, 3, none⟩ : Addr).block]? = some (cuObj s p line vl vc) from hb] at hk
    simp only [cuObj, Option.some.injEq, Obj.cells.injEq] at hk
    exact he hk.2.1.symm
  exact ⟨⟨v', vc, Joins.block_setCell (i := 3) hb v', own_set hown _ _ (hn _ (by decide)), own_set hc _ _ (hn _ (by decide)), h3⟩, hb⟩
theorem cu_stored_com {w w' : World} {base g : Nat} {s : ByteArray} {p line : Nat} {vl vc v' : Value} {l : List Tk} {c c' : List Cm} (h0 : w.heap[g]? = some (cuObj s p line vl vc)) (h1 : OwnT w base vl l) (h2 : OwnC w base vc c) (h3 : base ≤ g)
    (hown : OwnC w' base v' c') (hg : w.grownBy w' vc.ownBlock) : CuSt (w'.setCell ⟨g, 4, none⟩ v') base g s ⟨p, line, l, c'⟩ ∧ w'.heap[g]? = some (cuObj s p line vl vc) := by
  have hb : w'.heap[g]? = some (cuObj s p line vl vc) := (hg.block g (Array.getElem?_eq_some_iff.1 h0).1 (fun e => own_apart h2 (show 70 ≠ 47 by decide) g e.symm _ h0)).trans h0
  have hc : OwnT w' base vl l := own_grown h1 hg (own_apart h2 (show 70 ≠ 32 by decide))
  have hn : ∀ (e : Nat), e ≠ 47 → ∀ cur, w'.heap[(⟨g, 4, none⟩ : Addr).block]? ≠ some (Obj.cells cur e (0, 0)) := fun e he cur hk => by
    rw [show w'.heap[(⟨g, 4, none⟩ : Addr).block]? = some (cuObj s p line vl vc) from hb] at hk
    simp only [cuObj, Option.some.injEq, Obj.cells.injEq] at hk
    exact he hk.2.1.symm
  exact ⟨⟨vl, v', Joins.block_setCell (i := 4) hb v', own_set hc _ _ (hn _ (by decide)), own_set hown _ _ (hn _ (by decide)), h3⟩, hb⟩
/-- A scanner's place, or its line, stored. -/
theorem cu_moved {w : World} {base g : Nat} {s : ByteArray} {x : Sc} (h : CuSt w base g s x) (q : Nat) : CuSt (w.setCell ⟨g, 1, none⟩ (.int .i64 q)) base g s ⟨q, x.line, x.l, x.c⟩ ∧ CuSt (w.setCell ⟨g, 2, none⟩ (.int .i64 q)) base g s ⟨x.p, q, x.l, x.c⟩ := by
  obtain ⟨vl, vc, h0, h1, h2, h3⟩ := h
  have hn : ∀ (i e : Nat), e ≠ 47 → ∀ cur, w.heap[(⟨g, i, none⟩ : Addr).block]? ≠ some (Obj.cells cur e (0, 0)) := fun i e he cur hk => by
    rw [show w.heap[(⟨g, i, none⟩ : Addr).block]? = some (cuObj s x.p x.line vl vc) from h0] at hk
    simp only [cuObj, Option.some.injEq, Obj.cells.injEq] at hk
    exact he hk.2.1.symm
  exact ⟨⟨vl, vc, Joins.block_setCell (i := 1) h0 _, own_set h1 _ _ (hn _ _ (by decide)), own_set h2 _ _ (hn _ _ (by decide)), h3⟩, ⟨vl, vc, Joins.block_setCell (i := 2) h0 _, own_set h1 _ _ (hn _ _ (by decide)), own_set h2 _ _ (hn _ _ (by decide)), h3⟩⟩
theorem cu0_st (w : World) (s : ByteArray) : CuSt (w.alloc (.cells #[.string s, .int .i64 0, .int .i64 1, .slice none 0 0, .slice none 0 0] 47)) w.heap.size w.heap.size s sc0 :=
  ⟨.slice none 0 0, .slice none 0 0, by show (w.heap.push _)[w.heap.size]? = _; simp [cuObj, sc0], own_none _ _ _ _, own_none _ _ _ _, Nat.le_refl _⟩
end Go.Proofs.Ytdjjbdmnjegfjaa
/-
  The program's cutter.comment.
-/
namespace Go.Proofs.Ytdjjbdmnjegfjaa
open Go.RowKit
set_option linter.unusedSimpArgs false
theorem nlF_extract (s : ByteArray) (a : Nat) (ha : a ≤ s.size) : ∀ (f k : Nat), nlF (s.extract a s.size) f k + a = nlF s f (a + k) := by
  intro f
  induction f with
  | zero => intro k; simp only [nlF]; omega
  | succ f ih =>
    intro k
    rw [nlF, nlF, byteAt_extract, ByteArray.size_extract]
    by_cases h : a + k < s.size ∧ byteAt s (a + k) ≠ 10
    · rw [if_pos ⟨by omega, h.2⟩, if_pos h, ih (k + 1)]
      rfl
    · rw [if_neg (fun h' => h ⟨by omega, h'.2⟩), if_neg h]
      omega
theorem nlN_extract (s : ByteArray) (a : Nat) (ha : a ≤ s.size) : nlN (s.extract a s.size) 0 + a = nlN s a := by
  have := nlF_extract s a ha ((s.extract a s.size).size - 0) 0
  unfold nlN
  rw [this, ByteArray.size_extract, Nat.min_self, Nat.sub_zero, Nat.add_zero]
theorem extract_pre (s : ByteArray) (a k : Nat) (hk : a + k ≤ s.size) : (s.extract a s.size).extract 0 k = s.extract a (a + k) := by
  rw [ByteArray.extract_extract, Nat.add_zero, Nat.min_eq_left hk]
/-- A comment from where it stands: as it is taken. -/
def Sc.note (s : ByteArray) (x : Sc) : Sc := ⟨nlN s x.p, x.line, x.l, x.c ++ [⟨s.extract x.p (nlN s x.p), x.p, x.line, x.l.length⟩]⟩
set_option maxHeartbeats 4000000 in
set_option maxRecDepth 100000 in
theorem cuComment_any (w : World) (base g : Nat) (s : ByteArray) (x : Sc) (hx : CuSt w base g s x) (hp : x.p ≤ s.size) (hs : s.size ≤ 1000000) (hl : x.l.length ≤ 900000) (hcl : x.c.length ≤ 900000) :
    Calls Try.prog 34 #[.pointer (some ⟨g, 0, none⟩), .string (s.extract x.p s.size)] w fun e w' => e = .returned (.tuple #[]) ∧ CuSt w' base g s (x.note s) ∧ Below base w w' := by
  obtain ⟨vl, vc, h0, h1, h2, h3⟩ := hx
  have hnr := nlN_range (s := s) (a := x.p) hp
  have hne := nlN_extract s x.p hp
  have HC := sCut_any (s.extract x.p s.size) w (by rw [ByteArray.size_extract]; omega)
  have hpe : (s.extract x.p s.size).extract 0 (nlN (s.extract x.p s.size) 0) = s.extract x.p (nlN s x.p) := by
    rw [extract_pre s _ _ (by omega)]
    congr 1
    omega
  rw [hpe] at HC
  have hnote : x.note s = ⟨nlN s x.p, x.line, x.l, x.c ++ [⟨s.extract x.p (nlN s x.p), x.p, x.line, x.l.length⟩]⟩ := rfl
  have hts : (s.extract x.p (nlN s x.p)).size = nlN s x.p - x.p := by rw [ByteArray.size_extract]; omega
  generalize x.note s = z at *
  generalize nlN (s.extract x.p s.size) 0 = q at *
  generalize nlN s x.p = k at *
  generalize s.extract x.p s.size = rest at *
  obtain ⟨p, line, l, c⟩ := x
  dsimp only at *
  generalize s.extract p k = t at *
  clear hpe hne
  have hg0 : g < w.heap.size := (Array.getElem?_eq_some_iff.1 h0).1
  obtain ⟨al, cl, rfl, hal1, hal2⟩ := own_shape h1
  obtain ⟨ac, cc, rfl, hac1, hac2⟩ := own_shape h2
  obtain ⟨nl, hnl⟩ : ∃ nl, l.length = nl := ⟨_, rfl⟩
  obtain ⟨nc, hnc⟩ : ∃ nc, c.length = nc := ⟨_, rfl⟩
  rw [hnl] at h0 h1 hal1 hl hnote
  rw [hnc] at h0 h2 hac1 hcl
  replace HC := hide HC
  replace hnote := hide hnote
  replace hts := hide hts
  go_enter Try.func34, Try.ntmps34
  go_wp2_with fail
  refine (unhide HC).mono ?_
  rintro e W0 ⟨sa, sf, rfl, hb⟩
  clear HC
  have hw : Below base w W0 := hb.mono (by omega)
  have hk : ∀ k o, w.heap[k]? = some o → W0.heap[k]? = w.heap[k]? := fun k o hk => hb.block k (Array.getElem?_eq_some_iff.1 hk).1
  have hS := (hk _ _ h0).trans h0
  replace h1 : OwnT W0 base _ l := own_other h1 (fun k cur hc => hk k _ hc)
  replace h2 : OwnC W0 base _ c := own_other h2 (fun k cur hc => hk k _ hc)
  clear h0 hb hk hg0
  have hg : g < W0.heap.size := (Array.getElem?_eq_some_iff.1 hS).1
  replace hS := hide hS
  replace h1 := hide h1
  replace h2 := hide h2
  replace hw := hide hw
  go_upto_region 1 with fail
  replace hS := unhide hS
  replace h1 := unhide h1
  replace h2 := unhide h2
  replace hw := unhide hw
  refine wp_region_D (fun w' => w'.heap[g]? = some (cuObj s p line (.slice al nl cl) (.slice ac nc cc))) (fun j => [24].contains j) (by kernel_rfl) ?_
  replace hS : W0.drew.heap[g]? = some (cuObj s p line (.slice al nl cl) (.slice ac nc cc)) := hS
  replace h1 : OwnT W0.drew base (.slice al nl cl) l := h1
  replace h2 : OwnC W0.drew base (.slice ac nc cc) c := h2
  replace hw : Below base w W0.drew := hw.drew
  replace hg : g < W0.drew.heap.size := hg
  generalize World.drew W0 = W at h1 h2 hS hw hg ⊢
  refine wpAnyD_takeC (i := 0) (v := .pointer (some ⟨g, 0, none⟩)) [24] (fun _ => rfl) rfl (by kernel_rfl) 2 (by kernel_rfl) rfl (by kernel_rfl) (by kernel_rfl) (by kernel_rfl) (fun _ _ _ h => h) (Or.inl ⟨by kernel_rfl, ?_⟩) hS ?_
  · intro w hSw; go_simp
  try simp only [List.getElem_toArray, List.getElem_cons_succ, List.getElem_cons_zero, Act.put, List.setIfInBounds_toArray, List.set_cons_zero, List.set_cons_succ]
  refine wpAnyD_takeC (i := 1) (v := .pointer (some ⟨g, 0, none⟩)) [24] (fun _ => rfl) rfl (by kernel_rfl) 2 (by kernel_rfl) rfl (by kernel_rfl) (by kernel_rfl) (by kernel_rfl) (fun _ _ _ h => h) (Or.inl ⟨by kernel_rfl, ?_⟩) hS ?_
  · intro w hSw; go_simp
  try simp only [List.getElem_toArray, List.getElem_cons_succ, List.getElem_cons_zero, Act.put, List.setIfInBounds_toArray, List.set_cons_zero, List.set_cons_succ]
  refine wpAnyD_takeC (i := 2) (v := .pointer (some ⟨g, 0, none⟩)) [24] (fun _ => rfl) rfl (by kernel_rfl) 2 (by kernel_rfl) rfl (by kernel_rfl) (by kernel_rfl) (by kernel_rfl) (fun _ _ _ h => h) (Or.inl ⟨by kernel_rfl, ?_⟩) hS ?_
  · intro w hSw; go_simp
  try simp only [List.getElem_toArray, List.getElem_cons_succ, List.getElem_cons_zero, Act.put, List.setIfInBounds_toArray, List.set_cons_zero, List.set_cons_succ]
  refine wpAnyD_takeC (i := 3) (v := .pointer (some ⟨g, 4, none⟩)) [24] (fun _ => rfl) rfl (by kernel_rfl) 2 (by kernel_rfl) rfl (by kernel_rfl) (by kernel_rfl) (by kernel_rfl) (fun _ _ _ h => h) (Or.inl ⟨by kernel_rfl, ?_⟩) hS ?_
  · intro w hSw; go_simp
  try simp only [List.getElem_toArray, List.getElem_cons_succ, List.getElem_cons_zero, Act.put, List.setIfInBounds_toArray, List.set_cons_zero, List.set_cons_succ]
  refine wpAnyD_takeC (i := 4) (v := .slice ac nc cc) [24] (fun _ => rfl) rfl (by kernel_rfl) 2 (by kernel_rfl) rfl (by kernel_rfl) (by kernel_rfl) (by kernel_rfl) (fun _ _ _ h => h) (Or.inl ⟨by kernel_rfl, ?_⟩) hS ?_
  · intro w hSw; obtain ⟨x0, x1, x2, x3, x4⟩ := cuCells hSw; go_simp
  try simp only [List.getElem_toArray, List.getElem_cons_succ, List.getElem_cons_zero, Act.put, List.setIfInBounds_toArray, List.set_cons_zero, List.set_cons_succ]
  refine wpAnyD_takeC (i := 5) (v := .string t) [24] (fun _ => rfl) rfl (by kernel_rfl) 2 (by kernel_rfl) rfl (by kernel_rfl) (by kernel_rfl) (by kernel_rfl) (fun _ _ _ h => h) (Or.inl ⟨by kernel_rfl, ?_⟩) hS ?_
  · intro w hSw; go_simp
  try simp only [List.getElem_toArray, List.getElem_cons_succ, List.getElem_cons_zero, Act.put, List.setIfInBounds_toArray, List.set_cons_zero, List.set_cons_succ]
  refine wpAnyD_takeC (i := 6) (v := .pointer (some ⟨g, 0, none⟩)) [24] (fun _ => rfl) rfl (by kernel_rfl) 2 (by kernel_rfl) rfl (by kernel_rfl) (by kernel_rfl) (by kernel_rfl) (fun _ _ _ h => h) (Or.inl ⟨by kernel_rfl, ?_⟩) hS ?_
  · intro w hSw; go_simp
  try simp only [List.getElem_toArray, List.getElem_cons_succ, List.getElem_cons_zero, Act.put, List.setIfInBounds_toArray, List.set_cons_zero, List.set_cons_succ]
  refine wpAnyD_takeC (i := 7) (v := .pointer (some ⟨g, 0, none⟩)) [24] (fun _ => rfl) rfl (by kernel_rfl) 2 (by kernel_rfl) rfl (by kernel_rfl) (by kernel_rfl) (by kernel_rfl) (fun _ _ _ h => h) (Or.inl ⟨by kernel_rfl, ?_⟩) hS ?_
  · intro w hSw; go_simp
  try simp only [List.getElem_toArray, List.getElem_cons_succ, List.getElem_cons_zero, Act.put, List.setIfInBounds_toArray, List.set_cons_zero, List.set_cons_succ]
  refine wpAnyD_takeC (i := 8) (v := .pointer (some ⟨g, 1, none⟩)) [24] (fun _ => rfl) rfl (by kernel_rfl) 2 (by kernel_rfl) rfl (by kernel_rfl) (by kernel_rfl) (by kernel_rfl) (fun _ _ _ h => h) (Or.inl ⟨by kernel_rfl, ?_⟩) hS ?_
  · intro w hSw; go_simp
  try simp only [List.getElem_toArray, List.getElem_cons_succ, List.getElem_cons_zero, Act.put, List.setIfInBounds_toArray, List.set_cons_zero, List.set_cons_succ]
  refine wpAnyD_takeC (i := 9) (v := .int .i64 p) [24] (fun _ => rfl) rfl (by kernel_rfl) 2 (by kernel_rfl) rfl (by kernel_rfl) (by kernel_rfl) (by kernel_rfl) (fun _ _ _ h => h) (Or.inl ⟨by kernel_rfl, ?_⟩) hS ?_
  · intro w hSw; obtain ⟨x0, x1, x2, x3, x4⟩ := cuCells hSw; go_simp
  try simp only [List.getElem_toArray, List.getElem_cons_succ, List.getElem_cons_zero, Act.put, List.setIfInBounds_toArray, List.set_cons_zero, List.set_cons_succ]
  refine wpAnyD_takeC (i := 10) (v := .pointer (some ⟨g, 0, none⟩)) [24] (fun _ => rfl) rfl (by kernel_rfl) 2 (by kernel_rfl) rfl (by kernel_rfl) (by kernel_rfl) (by kernel_rfl) (fun _ _ _ h => h) (Or.inl ⟨by kernel_rfl, ?_⟩) hS ?_
  · intro w hSw; go_simp
  try simp only [List.getElem_toArray, List.getElem_cons_succ, List.getElem_cons_zero, Act.put, List.setIfInBounds_toArray, List.set_cons_zero, List.set_cons_succ]
  refine wpAnyD_takeC (i := 11) (v := .pointer (some ⟨g, 0, none⟩)) [24] (fun _ => rfl) rfl (by kernel_rfl) 2 (by kernel_rfl) rfl (by kernel_rfl) (by kernel_rfl) (by kernel_rfl) (fun _ _ _ h => h) (Or.inl ⟨by kernel_rfl, ?_⟩) hS ?_
  · intro w hSw; go_simp
  try simp only [List.getElem_toArray, List.getElem_cons_succ, List.getElem_cons_zero, Act.put, List.setIfInBounds_toArray, List.set_cons_zero, List.set_cons_succ]
  refine wpAnyD_takeC (i := 12) (v := .pointer (some ⟨g, 2, none⟩)) [24] (fun _ => rfl) rfl (by kernel_rfl) 2 (by kernel_rfl) rfl (by kernel_rfl) (by kernel_rfl) (by kernel_rfl) (fun _ _ _ h => h) (Or.inl ⟨by kernel_rfl, ?_⟩) hS ?_
  · intro w hSw; go_simp
  try simp only [List.getElem_toArray, List.getElem_cons_succ, List.getElem_cons_zero, Act.put, List.setIfInBounds_toArray, List.set_cons_zero, List.set_cons_succ]
  refine wpAnyD_takeC (i := 13) (v := .int .i64 line) [24] (fun _ => rfl) rfl (by kernel_rfl) 2 (by kernel_rfl) rfl (by kernel_rfl) (by kernel_rfl) (by kernel_rfl) (fun _ _ _ h => h) (Or.inl ⟨by kernel_rfl, ?_⟩) hS ?_
  · intro w hSw; obtain ⟨x0, x1, x2, x3, x4⟩ := cuCells hSw; go_simp
  try simp only [List.getElem_toArray, List.getElem_cons_succ, List.getElem_cons_zero, Act.put, List.setIfInBounds_toArray, List.set_cons_zero, List.set_cons_succ]
  refine wpAnyD_takeC (i := 14) (v := .pointer (some ⟨g, 0, none⟩)) [24] (fun _ => rfl) rfl (by kernel_rfl) 2 (by kernel_rfl) rfl (by kernel_rfl) (by kernel_rfl) (by kernel_rfl) (fun _ _ _ h => h) (Or.inl ⟨by kernel_rfl, ?_⟩) hS ?_
  · intro w hSw; go_simp
  try simp only [List.getElem_toArray, List.getElem_cons_succ, List.getElem_cons_zero, Act.put, List.setIfInBounds_toArray, List.set_cons_zero, List.set_cons_succ]
  refine wpAnyD_takeC (i := 15) (v := .pointer (some ⟨g, 0, none⟩)) [24] (fun _ => rfl) rfl (by kernel_rfl) 2 (by kernel_rfl) rfl (by kernel_rfl) (by kernel_rfl) (by kernel_rfl) (fun _ _ _ h => h) (Or.inl ⟨by kernel_rfl, ?_⟩) hS ?_
  · intro w hSw; go_simp
  try simp only [List.getElem_toArray, List.getElem_cons_succ, List.getElem_cons_zero, Act.put, List.setIfInBounds_toArray, List.set_cons_zero, List.set_cons_succ]
  refine wpAnyD_takeC (i := 16) (v := .pointer (some ⟨g, 3, none⟩)) [24] (fun _ => rfl) rfl (by kernel_rfl) 2 (by kernel_rfl) rfl (by kernel_rfl) (by kernel_rfl) (by kernel_rfl) (fun _ _ _ h => h) (Or.inl ⟨by kernel_rfl, ?_⟩) hS ?_
  · intro w hSw; go_simp
  try simp only [List.getElem_toArray, List.getElem_cons_succ, List.getElem_cons_zero, Act.put, List.setIfInBounds_toArray, List.set_cons_zero, List.set_cons_succ]
  refine wpAnyD_takeC (i := 17) (v := .slice al nl cl) [24] (fun _ => rfl) rfl (by kernel_rfl) 2 (by kernel_rfl) rfl (by kernel_rfl) (by kernel_rfl) (by kernel_rfl) (fun _ _ _ h => h) (Or.inl ⟨by kernel_rfl, ?_⟩) hS ?_
  · intro w hSw; obtain ⟨x0, x1, x2, x3, x4⟩ := cuCells hSw; go_simp
  try simp only [List.getElem_toArray, List.getElem_cons_succ, List.getElem_cons_zero, Act.put, List.setIfInBounds_toArray, List.set_cons_zero, List.set_cons_succ]
  refine wpAnyD_takeC (i := 18) (v := .int .i64 nl) [24] (fun _ => rfl) rfl (by kernel_rfl) 2 (by kernel_rfl) rfl (by kernel_rfl) (by kernel_rfl) (by kernel_rfl) (fun _ _ _ h => h) (Or.inl ⟨by kernel_rfl, ?_⟩) hS ?_
  · intro w hSw; go_simp
  try simp only [List.getElem_toArray, List.getElem_cons_succ, List.getElem_cons_zero, Act.put, List.setIfInBounds_toArray, List.set_cons_zero, List.set_cons_succ]
  refine wpAnyD_takeC (i := 19) (v := (.agg #[.string t, .int .i64 p, .int .i64 line, .int .i64 nl])) [24] (fun _ => rfl) rfl (by kernel_rfl) 2 (by kernel_rfl) rfl (by kernel_rfl) (by kernel_rfl) (by kernel_rfl) (fun _ _ _ h => h) (Or.inl ⟨by kernel_rfl, ?_⟩) hS ?_
  · intro w hSw; go_simp
  try simp only [List.getElem_toArray, List.getElem_cons_succ, List.getElem_cons_zero, Act.put, List.setIfInBounds_toArray, List.set_cons_zero, List.set_cons_succ]
  replace h1 := hide h1
  replace h2 := hide h2
  replace hS := hide hS
  replace hw := hide hw
  refine wpAnyD_one (i := 20) rfl (by kernel_rfl) (fun K hK => ?_)
  replace hK := hide hK
  go_simp
  have hS2 : (W.alloc (.cells #[.string t, .int .i64 p, .int .i64 line, .int .i64 nl] 70)).heap[g]? = some (cuObj s p line (.slice al nl cl) (.slice ac nc cc)) := (Below.heap_alloc _ _ _ hg).trans (unhide hS)
  have h1a := own_alloc (unhide h1) (.cells #[.string t, .int .i64 p, .int .i64 line, .int .i64 nl] 70)
  have h2a := own_alloc (unhide h2) (.cells #[.string t, .int .i64 p, .int .i64 line, .int .i64 nl] 70)
  have hn := new_com W ⟨t, p, line, nl⟩ (0, 0)
  have hwa := (unhide hw).alloc (by omega) (.cells #[.string t, .int .i64 p, .int .i64 line, .int .i64 nl] 70)
  have hga : g < (W.alloc (.cells #[.string t, .int .i64 p, .int .i64 line, .int .i64 nl] 70)).heap.size := (Array.getElem?_eq_some_iff.1 hS2).1
  refine unhide hK _ _ (fun _ => hS2) ?_
  clear hK K h1 h2 hS hw
  dsimp only at hn
  generalize World.alloc W _ = W2 at *
  generalize W.heap.size = gn at *
  try simp only [List.getElem_toArray, List.getElem_cons_succ, List.getElem_cons_zero, Act.put, List.setIfInBounds_toArray, List.set_cons_zero, List.set_cons_succ]
  refine wpAnyD_one (i := 21) rfl (by kernel_rfl) (fun K hK => ?_)
  rw [if_pos (by kernel_rfl)]
  refine wp_append_com (v := .slice ac nc cc) (.tmp 17) (.tmp 33) rfl ⟨t, p, line, nl⟩ rfl h2a ⟨gn, 0, none⟩ rfl hn (by omega) (by omega) ?_
  intro v' W3 hown hgrow
  obtain ⟨hst, hS3⟩ := cu_stored_com hS2 h1a h2a h3 hown hgrow
  have hwb : Below base w W3 := hwa.grown hgrow (by omega) (fun k hk => by
    rcases h2a.2 with ⟨e, _⟩ | ⟨g', cap, cur, e, hb, _⟩
    · rw [e] at hk; cases hk
    · rw [e] at hk
      obtain rfl : g' = k := by simpa [Value.ownBlock] using hk
      exact hb)
  obtain ⟨al', cl', hv, _, _⟩ := own_shape hown
  obtain rfl : v' = .slice al' (nc + 1) cl' := by rw [hv, List.length_append, hnc]; rfl
  clear hv
  refine hK _ _ (fun _ => hS3) ?_
  clear hK K hown hgrow h1a h2a hn hwa hS2 hga
  have hS := hS3
  clear hS3
  replace hst := hide hst
  replace hwb := hide hwb
  try simp only [List.getElem_toArray, List.getElem_cons_succ, List.getElem_cons_zero, Act.put, List.setIfInBounds_toArray, List.set_cons_zero, List.set_cons_succ]
  refine wpAnyD_takeC (i := 22) (v := .pointer (some ⟨g, 0, none⟩)) [24] (fun _ => rfl) rfl (by kernel_rfl) 2 (by kernel_rfl) rfl (by kernel_rfl) (by kernel_rfl) (by kernel_rfl) (fun _ _ _ h => h) (Or.inl ⟨by kernel_rfl, ?_⟩) hS ?_
  · intro w hSw; go_simp
  try simp only [List.getElem_toArray, List.getElem_cons_succ, List.getElem_cons_zero, Act.put, List.setIfInBounds_toArray, List.set_cons_zero, List.set_cons_succ]
  refine wpAnyD_takeC (i := 23) (v := .pointer (some ⟨g, 4, none⟩)) [24] (fun _ => rfl) rfl (by kernel_rfl) 2 (by kernel_rfl) rfl (by kernel_rfl) (by kernel_rfl) (by kernel_rfl) (fun _ _ _ h => h) (Or.inl ⟨by kernel_rfl, ?_⟩) hS ?_
  · intro w hSw; go_simp
  try simp only [List.getElem_toArray, List.getElem_cons_succ, List.getElem_cons_zero, Act.put, List.setIfInBounds_toArray, List.set_cons_zero, List.set_cons_succ]
  obtain ⟨x0, x1, x2, x3, x4⟩ := cuCells hS
  have hf := cuFrozen hS
  refine wpAnyD_one (i := 24) rfl (by kernel_rfl) (fun K hK => ?_)
  replace hK := hide hK
  go_simp
  refine unhide hK _ _ (fun h => by cases h) ?_
  clear hK K x0 x1 x2 x3 x4 hf hS
  replace hst := unhide hst
  have hwc := (unhide hwb).setCell (p := ⟨g, 4, none⟩) h3 (.slice al' (nc + 1) cl')
  clear hwb
  generalize World.setCell _ _ _ = W4 at *
  refine wpAnyD_done (by kernel_rfl) ?_ _
  obtain ⟨hm, _⟩ := cu_moved hst k
  obtain ⟨vl2, vc2, h0, _, _, _⟩ := hst
  obtain ⟨x0, x1, x2, x3, x4⟩ := cuCells h0
  have hf := cuFrozen h0
  have hwd := hwc.setCell (p := ⟨g, 1, none⟩) h3 (.int .i64 k)
  have hadd : IntKind.i64.wrap ((p : Int) + (t.size : Nat)) = k := by rw [unhide hts, wrapI _ (by omega) (by omega)]; omega
  clear h0 hwc
  replace hm := hide hm
  replace hwd := hide hwd
  go_wp2
  go_end0
  refine ⟨rfl, ?_, unhide hwd⟩
  rw [unhide hnote]
  exact unhide hm
end Go.Proofs.Ytdjjbdmnjegfjaa
/-
  The walks of package scan: quoted, measure; the program's cutter.word.
-/
namespace Go.Proofs.Ytdjjbdmnjegfjaa
open Go.RowKit
set_option linter.unusedSimpArgs false
set_option linter.unusedVariables false
theorem qF_extract (s : ByteArray) (a : Nat) (ha : a ≤ s.size) : ∀ (f k : Nat), qF (s.extract a s.size) f k + a = qF s f (a + k) := by
  intro f
  induction f with
  | zero => intro k; simp only [qF]; omega
  | succ f ih =>
    intro k
    rw [qF, qF, byteAt_extract, ByteArray.size_extract]
    by_cases h : a + k < s.size ∧ byteAt s (a + k) ≠ 34 ∧ byteAt s (a + k) ≠ 10
    · rw [if_pos ⟨by omega, h.2⟩, if_pos h, ih (k + 1)]
      rfl
    · rw [if_neg (fun h' => h ⟨by omega, h'.2⟩), if_neg h]
      omega
theorem qN_extract (s : ByteArray) (a k : Nat) (ha : a + k ≤ s.size) : qN (s.extract a s.size) k + a = qN s (a + k) := by
  have := qF_extract s a (by omega) ((s.extract a s.size).size - k) k
  unfold qN
  rw [this, ByteArray.size_extract, Nat.min_self, Nat.sub_sub]
theorem toF_extract (s : ByteArray) (wd : Bool) (a : Nat) (ha : a ≤ s.size) : ∀ (f k : Nat), toF (s.extract a s.size) wd f k + a = toF s wd f (a + k) := by
  intro f
  induction f with
  | zero => intro k; simp only [toF]; omega
  | succ f ih =>
    intro k
    rw [toF, toF, byteAt_extract, ByteArray.size_extract]
    by_cases h : a + k < s.size ∧ clsB wd (byteAt s (a + k)) = true
    · rw [if_pos ⟨by omega, h.2⟩, if_pos h, ih (k + 1)]
      rfl
    · rw [if_neg (fun h' => h ⟨by omega, h'.2⟩), if_neg h]
      omega
theorem toN_extract (s : ByteArray) (wd : Bool) (a : Nat) (ha : a ≤ s.size) : toN (s.extract a s.size) wd 0 + a = toN s wd a := by
  have := toF_extract s wd a ha ((s.extract a s.size).size - 0) 0
  unfold toN
  rw [this, ByteArray.size_extract, Nat.min_self, Nat.sub_zero, Nat.add_zero]
/-- The token that begins at a place: its length (nought: none may be), its kind. -/
def mN (s : ByteArray) (p : Nat) : Nat :=
  if letB (byteAt s p) then (if toN s true p - p ≤ 24 then toN s true p - p else 0)
  else if digB (byteAt s p) then (if numB s p then toN s false p - p else 0)
  else if byteAt s p = 34 then (if strB s p then qN s (p + 1) + 1 - p else 0)
  else if byteAt s p = 59 then 1 else opN s p
def mK (s : ByteArray) (p : Nat) : Int :=
  if letB (byteAt s p) then (if toN s true p - p ≤ 24 then (if isKey (s.extract p (toN s true p)) then 5 else 1) else 1)
  else if digB (byteAt s p) then 2 else if byteAt s p = 34 then 3 else if byteAt s p = 59 then 6 else 4
theorem opN_extract (s : ByteArray) (p : Nat) (hp : p < s.size) : opN (s.extract p s.size) 0 = opN s p := by
  unfold opN
  rw [ByteArray.size_extract, Nat.min_self, extract_pre s p (0 + 1) (by omega)]
  by_cases h2 : p + 2 ≤ s.size
  · rw [extract_pre s p (0 + 2) (by omega), decide_eq_true (show 0 + 2 ≤ s.size - p by omega), decide_eq_true h2]
  · rw [decide_eq_false (show ¬ 0 + 2 ≤ s.size - p by omega), decide_eq_false h2, Bool.false_and, Bool.false_and]
theorem strB_extract (s : ByteArray) (p : Nat) (hp : p < s.size) : strB (s.extract p s.size) 0 = strB s p := by
  have h := qN_extract s p 1 (by omega)
  unfold strB
  rw [byteAt_extract, ByteArray.size_extract, Nat.min_self, ← h, Nat.zero_add]
  congr 1
  · rw [decide_eq_decide]; omega
  · rw [Nat.add_comm p]
theorem numB_extract (s : ByteArray) (p : Nat) (hp : p < s.size) : numB (s.extract p s.size) 0 = numB s p := by
  have h := toN_extract s false p (by omega)
  unfold numB
  rw [byteAt_extract, byteAt_extract, ByteArray.size_extract, Nat.min_self, ← h, Nat.add_zero, Nat.sub_zero, Nat.add_sub_cancel, Nat.add_comm p]
  congr 3
  rw [decide_eq_decide]; omega
theorem mN_extract (s : ByteArray) (p : Nat) (hp : p < s.size) : mN (s.extract p s.size) 0 = mN s p := by
  have h1 := toN_extract s true p (by omega)
  have h2 := toN_extract s false p (by omega)
  have h3 := qN_extract s p 1 (by omega)
  unfold mN
  rw [byteAt_extract, opN_extract s p hp, strB_extract s p hp, numB_extract s p hp, ← h1, ← h2, ← h3, Nat.add_zero, Nat.sub_zero, Nat.sub_zero, Nat.add_sub_cancel, Nat.add_sub_cancel, Nat.zero_add, Nat.sub_zero, Nat.add_right_comm, Nat.add_sub_cancel]
theorem mK_extract (s : ByteArray) (p : Nat) (hp : p < s.size) : mK (s.extract p s.size) 0 = mK s p := by
  have h1 := toN_extract s true p (by omega)
  have h2 := (toN_range (s := s) (wd := true) (a := p) (by omega)).2
  unfold mK
  rw [byteAt_extract, extract_pre s p _ (by omega), ← h1, Nat.add_zero, Nat.sub_zero, Nat.add_sub_cancel, Nat.add_comm p]
theorem mN_le (s : ByteArray) (p : Nat) (hp : p < s.size) : p + mN s p ≤ s.size := by
  have h1 := toN_range (s := s) (wd := true) (a := p) (by omega)
  have h2 := toN_range (s := s) (wd := false) (a := p) (by omega)
  unfold mN
  split
  · split <;> omega
  split
  · split <;> omega
  split
  · split
    · rename_i h
      rw [strB, Bool.and_eq_true, decide_eq_true_eq] at h
      have := qN_ge s (p + 1)
      omega
    · omega
  split
  · omega
  · unfold opN
    split
    · rename_i h; rw [Bool.and_eq_true, decide_eq_true_eq] at h; omega
    · split <;> omega
theorem opD_op (r : ByteArray) (h0 : 0 < r.size) : opD r (min 2 r.size) = opN r 0 := by
  unfold opN
  by_cases h2 : 2 ≤ r.size
  · rw [Nat.min_eq_left h2, opD, opD, opD, decide_eq_true (show 0 + 2 ≤ r.size by omega), Bool.true_and]
  · rw [show min 2 r.size = 1 by omega, opD, opD, decide_eq_false (show ¬ 0 + 2 ≤ r.size by omega), Bool.false_and]
    rfl
theorem num_iff (r : ByteArray) : numB r 0 = true ↔ ¬ (12 < toN r false 0 ∨ (byteAt r 0 = 48 ∧ 1 < toN r false 0) ∨ (toN r false 0 < r.size ∧ letB (byteAt r (toN r false 0)) = true)) := by
  unfold numB
  rw [Nat.sub_zero]
  generalize letB (byteAt r (toN r false 0)) = y
  generalize toN r false 0 = t
  cases y <;> simp <;> omega
set_option maxHeartbeats 1000000 in
set_option maxRecDepth 100000 in
theorem scQuoted_any (r : ByteArray) (w : World) (h0 : 0 < r.size) (hs : r.size ≤ 1000000) :
    Calls Try.prog 68 #[.string r] w fun e w' => e = .returned (.int .i64 ((if strB r 0 then qN r (0 + 1) + 1 - 0 else 0 : Nat) : Int)) ∧ Below w.heap.size w w' := by
  have HA := sIndexAny_any (r.extract 1 r.size) w (by rw [ByteArray.size_extract]; omega)
  have hq : qN (r.extract 1 r.size) 0 + 1 = qN r 1 := qN_extract r 1 0 (by omega)
  have hsb : strB r 0 = (decide (qN r 1 < r.size) && decide (byteAt r (qN r 1) = 34)) := rfl
  have hge := qN_ge r 1
  have hch := qN_char r 1 (by omega)
  have hch := hch.2.2
  have han : anyN (r.extract 1 r.size) = if qN r 1 < r.size then ((qN r 1 : Int) - 1) else -1 := by
    unfold anyN
    rw [ByteArray.size_extract, Nat.min_self]
    by_cases h : qN r 1 < r.size
    · rw [if_pos h, if_pos (by omega)]; omega
    · rw [if_neg h, if_neg (by omega)]
  rw [han] at HA
  rw [hsb, Nat.zero_add, Nat.sub_zero]
  clear han hsb hq
  generalize qN r 1 = k at *
  by_cases hk : k < r.size
  · rw [if_pos hk] at HA
    rw [decide_eq_true hk, Bool.true_and]
    obtain ⟨m, rfl⟩ : ∃ m, k = m + 1 := ⟨k - 1, by omega⟩
    have hik : ∀ h, (r[m + 1]'h).toNat = byteAt r (m + 1) := fun h => byteAt_idx r (m + 1) h
    rw [show ((m + 1 : Nat) : Int) - 1 = m by omega] at HA
    have hch := hch hk
    have hw1 : IntKind.i64.wrap (1 + (m : Int)) = ((m + 1 : Nat) : Int) := by rw [wrapI _ (by omega) (by omega)]; omega
    have hw2 : IntKind.i64.wrap ((m : Int) + 2) = ((m + 1 + 1 : Nat) : Int) := by rw [wrapI _ (by omega) (by omega)]; omega
    have hbl := byteAt_lt r (m + 1)
    replace HA := hide HA
    by_cases h34 : byteAt r (m + 1) = 34
    · rw [decide_eq_true h34, if_pos rfl]
      rw [h34] at hik
      clear hch h34 hbl
      go_enter Try.func68, Try.ntmps68
      go_wp2_with fail
      refine (unhide HA).mono ?_
      rintro e W ⟨rfl, hb⟩
      go_wp2
      go_ret
      exact ⟨rfl, hb⟩
    · rw [decide_eq_false h34, if_neg (by decide)]
      have h10 : byteAt r (m + 1) = 10 := by omega
      rw [h10] at hik
      clear hch h34 h10 hbl
      go_enter Try.func68, Try.ntmps68
      go_wp2_with fail
      refine (unhide HA).mono ?_
      rintro e W ⟨rfl, hb⟩
      go_wp2
      go_ret
      exact ⟨rfl, hb⟩
  · rw [if_neg hk] at HA
    rw [decide_eq_false hk, Bool.false_and, if_neg (by decide)]
    replace HA := hide HA
    go_enter Try.func68, Try.ntmps68
    go_wp2_with fail
    refine (unhide HA).mono ?_
    rintro e W ⟨rfl, hb⟩
    go_wp2
    go_ret
    exact ⟨rfl, hb⟩
set_option maxHeartbeats 1000000 in
set_option maxRecDepth 100000 in
theorem scMeasure_any (r : ByteArray) (w : World) (h0 : 0 < r.size) (hs : r.size ≤ 1000000) :
    Calls Try.prog 48 #[.string r] w fun e w' => e = .returned (.tuple #[.int .i64 (mK r 0), .int .i64 (mN r 0)]) ∧ Below w.heap.size w w' := by
  have hi0 : ∀ h, (r[0]'h).toNat = byteAt r 0 := fun h => byteAt_idx r 0 h
  have hm : r.size ≤ maxLen := by unfold maxLen; omega
  have HL := fun w => scLetter_any (byteAt r 0) w (byteAt_lt r 0)
  have HD := fun w => scDigit_any (byteAt r 0) w (byteAt_lt r 0)
  have hbl := byteAt_lt r 0
  cases hl : letB (byteAt r 0) with
  | true =>
    have HN := fun w => scNamed_any r w h0 hm
    have e1 : namK r = mK r 0 := by
      simp only [namK, mK, hl, if_true, Nat.sub_zero]
      by_cases h : 24 < toN r true 0
      · rw [if_pos h, if_neg (show ¬ toN r true 0 ≤ 24 by omega)]
      · rw [if_neg h, if_pos (show toN r true 0 ≤ 24 by omega)]
    have e2 : namZ r = mN r 0 := by
      simp only [namZ, mN, hl, if_true, Nat.sub_zero]
      by_cases h : 24 < toN r true 0
      · rw [if_pos h, if_neg (show ¬ toN r true 0 ≤ 24 by omega)]
      · rw [if_neg h, if_pos (show toN r true 0 ≤ 24 by omega)]
    rw [hl] at HL
    rw [e1, e2] at HN
    generalize mK r 0 = a at *
    generalize mN r 0 = b at *
    replace HL := hide HL
    replace HN := hide HN
    clear e1 e2 hl
    go_enter Try.func48, Try.ntmps48
    go_wp2_with fail
    refine (unhide HL _).mono ?_
    rintro e W ⟨rfl, rfl⟩
    go_wp2_with fail
    refine (unhide HN _).mono ?_
    rintro e W ⟨rfl, rfl⟩
    go_wp2
    go_ret2
    exact ⟨rfl, Below.refl _ _⟩
  | false =>
    rw [hl] at HL
    replace HL := hide HL
    cases hd : digB (byteAt r 0) with
    | true =>
      have HN := fun w => scNumber_any r w h0 hm
      have e1 : mK r 0 = 2 := by
        unfold mK
        rw [hl, if_neg (by decide), hd, if_pos rfl]
      have e2 : numZ r = mN r 0 := by
        have hn := num_iff r
        simp only [numZ, mN, hl, hd, if_true, Bool.false_eq_true, if_false, Nat.sub_zero]
        by_cases hc : 12 < toN r false 0 ∨ (byteAt r 0 = 48 ∧ 1 < toN r false 0) ∨ (toN r false 0 < r.size ∧ letB (byteAt r (toN r false 0)) = true)
        · rw [if_pos hc, if_neg (fun h => hn.1 h hc)]
        · rw [if_neg hc, if_pos (hn.2 hc)]
      rw [hd] at HD
      rw [e1]
      rw [e2] at HN
      generalize mN r 0 = b at *
      replace HD := hide HD
      replace HN := hide HN
      clear e1 e2 hl hd
      go_enter Try.func48, Try.ntmps48
      go_wp2_with fail
      refine (unhide HL _).mono ?_
      rintro e W ⟨rfl, rfl⟩
      go_wp2_with fail
      refine (unhide HD _).mono ?_
      rintro e W ⟨rfl, rfl⟩
      go_wp2_with fail
      refine (unhide HN _).mono ?_
      rintro e W ⟨rfl, rfl⟩
      go_wp2
      go_ret2
      exact ⟨rfl, Below.refl _ _⟩
    | false =>
      rw [hd] at HD
      replace HD := hide HD
      by_cases h34 : byteAt r 0 = 34
      · have HN := fun w => scQuoted_any r w h0 hs
        have e1 : mK r 0 = 3 := by
          unfold mK
          rw [hl, if_neg (by decide), hd, if_neg (by decide), if_pos h34]
        have e2 : mN r 0 = (if strB r 0 then qN r (0 + 1) + 1 - 0 else 0) := by
          unfold mN
          rw [hl, if_neg (by decide), hd, if_neg (by decide), if_pos h34]
        rw [e1]
        rw [← e2] at HN
        rw [h34] at HL HD hi0
        generalize mN r 0 = b at *
        replace HN := hide HN
        clear e1 e2 hl hd h34 hbl
        go_enter Try.func48, Try.ntmps48
        go_wp2_with fail
        refine (unhide HL _).mono ?_
        rintro e W ⟨rfl, rfl⟩
        go_wp2_with fail
        refine (unhide HD _).mono ?_
        rintro e W ⟨rfl, rfl⟩
        go_wp2_with fail
        refine (unhide HN _).mono ?_
        rintro e W2 ⟨rfl, hb⟩
        go_wp2
        go_ret2
        exact ⟨rfl, hb⟩
      · by_cases h59 : byteAt r 0 = 59
        · have e1 : mK r 0 = 6 := by
            unfold mK
            rw [hl, if_neg (by decide), hd, if_neg (by decide), if_neg h34, if_pos h59]
          have e2 : mN r 0 = 1 := by
            unfold mN
            rw [hl, if_neg (by decide), hd, if_neg (by decide), if_neg h34, if_pos h59]
          rw [e1, e2]
          rw [h59] at HL HD hi0
          clear e1 e2 hl hd h34 h59 hbl
          go_enter Try.func48, Try.ntmps48
          go_wp2_with fail
          refine (unhide HL _).mono ?_
          rintro e W ⟨rfl, rfl⟩
          go_wp2_with fail
          refine (unhide HD _).mono ?_
          rintro e W ⟨rfl, rfl⟩
          go_wp2
          go_ret2
          exact ⟨rfl, Below.refl _ _⟩
        · have HN := fun w => scSign_any r w h0 hm
          have e1 : mK r 0 = 4 := by
            unfold mK
            rw [hl, if_neg (by decide), hd, if_neg (by decide), if_neg h34, if_neg h59]
          have e2 : mN r 0 = opN r 0 := by
            unfold mN
            rw [hl, if_neg (by decide), hd, if_neg (by decide), if_neg h34, if_neg h59]
          rw [e1]
          rw [opD_op r h0, ← e2] at HN
          generalize mN r 0 = b at *
          have n34 : ¬ ((byteAt r 0 : Nat) : Int) = 34 := by omega
          have n59 : ¬ ((byteAt r 0 : Nat) : Int) = 59 := by omega
          replace HN := hide HN
          clear e1 e2 hl hd h34 h59
          go_enter Try.func48, Try.ntmps48
          go_wp2_with fail
          refine (unhide HL _).mono ?_
          rintro e W ⟨rfl, rfl⟩
          go_wp2_with fail
          refine (unhide HD _).mono ?_
          rintro e W ⟨rfl, rfl⟩
          go_wp2_with fail
          refine (unhide HN _).mono ?_
          rintro e W ⟨rfl, rfl⟩
          go_wp2
          go_ret2
          exact ⟨rfl, Below.refl _ _⟩
end Go.Proofs.Ytdjjbdmnjegfjaa
namespace Go.Proofs.Ytdjjbdmnjegfjaa
open Go.RowKit
set_option linter.unusedSimpArgs false
set_option maxHeartbeats 4000000 in
set_option maxRecDepth 100000 in
theorem cuWord_any (w : World) (base g : Nat) (s : ByteArray) (x : Sc) (hx : CuSt w base g s x) (hp : x.p < s.size) (hs : s.size ≤ 1000000) (hl : x.l.length ≤ 900000) :
    Calls Try.prog 35 #[.pointer (some ⟨g, 0, none⟩), .string (s.extract x.p s.size)] w fun e w' => e = .returned (.bool (decide (mN s x.p ≠ 0))) ∧ CuSt w' base g s (if mN s x.p ≠ 0 then x.add s (mK s x.p) (x.p + mN s x.p) else x) ∧ Below base w w' := by
  have hrs : (s.extract x.p s.size).size = s.size - x.p := by rw [ByteArray.size_extract, Nat.min_self]
  have HM := scMeasure_any (s.extract x.p s.size) w (by omega) (by omega)
  rw [mK_extract s x.p hp, mN_extract s x.p hp] at HM
  have hle := mN_le s x.p hp
  have hpe := extract_pre s x.p (mN s x.p) hle
  have hadd : x.add s (mK s x.p) (x.p + mN s x.p) = ⟨x.p + mN s x.p, x.line, x.l ++ [⟨mK s x.p, s.extract x.p (x.p + mN s x.p), x.p, x.line, false⟩], x.c⟩ := rfl
  generalize x.add s (mK s x.p) (x.p + mN s x.p) = z at *
  generalize s.extract x.p (x.p + mN s x.p) = t at *
  generalize mK s x.p = k at *
  generalize mN s x.p = n at *
  generalize s.extract x.p s.size = rest at *
  replace HM := hide HM
  have hg0 : g < w.heap.size := hx.lt
  have hbg : base ≤ w.heap.size := by obtain ⟨_, _, _, _, _, h⟩ := id hx; omega
  by_cases hn : n = 0
  · rw [if_neg (by omega), decide_eq_false (by omega)]
    subst hn
    go_enter Try.func35, Try.ntmps35
    go_wp2_with fail
    refine (unhide HM).mono ?_
    rintro e W ⟨rfl, hb⟩
    go_wp2
    go_ret
    exact ⟨rfl, hx.below hb, hb.mono hbg⟩
  · rw [if_pos hn, decide_eq_true hn]
    have hn' : ¬ (n : Int) = 0 := by omega
    have hrn : n ≤ rest.size := by omega
    clear hrs
    replace hadd := hide hadd
    go_enter Try.func35, Try.ntmps35
    go_wp2_with fail
    refine (unhide HM).mono ?_
    rintro e W0 ⟨rfl, hb⟩
    have hst := hx.below hb
    have hw := hb.mono hbg
    clear HM hx hb hg0 hbg
    obtain ⟨vl, vc, hS, h1, h2, h3⟩ := hst
    obtain ⟨p, line, l, c⟩ := x
    dsimp only at *
    obtain ⟨al, cl, rfl, hal1, hal2⟩ := own_shape h1
    obtain ⟨ac, cc, rfl, hac1, hac2⟩ := own_shape h2
    have hg : g < W0.heap.size := (Array.getElem?_eq_some_iff.1 hS).1
    obtain ⟨nl, hnl⟩ : ∃ nl, l.length = nl := ⟨_, rfl⟩
    obtain ⟨nc, hnc⟩ : ∃ nc, c.length = nc := ⟨_, rfl⟩
    rw [hnl] at hS h1 hal1 hl
    rw [hnc] at hS h2 hac1
    replace hS := hide hS
    replace h1 := hide h1
    replace h2 := hide h2
    replace hw := hide hw
    go_upto_region 4 with fail
    replace hS := unhide hS
    replace h1 := unhide h1
    replace h2 := unhide h2
    replace hw := unhide hw
    refine wp_region_D (fun w' => w'.heap[g]? = some (cuObj s p line (.slice al nl cl) (.slice ac nc cc))) (fun j => [22].contains j) (by kernel_rfl) ?_
    replace hS : W0.drew.heap[g]? = some (cuObj s p line (.slice al nl cl) (.slice ac nc cc)) := hS
    replace h1 : OwnT W0.drew base (.slice al nl cl) l := h1
    replace h2 : OwnC W0.drew base (.slice ac nc cc) c := h2
    replace hw : Below base w W0.drew := hw.drew
    replace hg : g < W0.drew.heap.size := hg
    generalize World.drew W0 = W at h1 h2 hS hw hg ⊢
    refine wpAnyD_takeC (i := 0) (v := .pointer (some ⟨g, 0, none⟩)) [22] (fun _ => rfl) rfl (by kernel_rfl) 2 (by kernel_rfl) rfl (by kernel_rfl) (by kernel_rfl) (by kernel_rfl) (fun _ _ _ h => h) (Or.inl ⟨by kernel_rfl, ?_⟩) hS ?_
    · intro w hSw; go_simp
    try simp only [List.getElem_toArray, List.getElem_cons_succ, List.getElem_cons_zero, Act.put, List.setIfInBounds_toArray, List.set_cons_zero, List.set_cons_succ]
    refine wpAnyD_takeC (i := 1) (v := .pointer (some ⟨g, 0, none⟩)) [22] (fun _ => rfl) rfl (by kernel_rfl) 2 (by kernel_rfl) rfl (by kernel_rfl) (by kernel_rfl) (by kernel_rfl) (fun _ _ _ h => h) (Or.inl ⟨by kernel_rfl, ?_⟩) hS ?_
    · intro w hSw; go_simp
    try simp only [List.getElem_toArray, List.getElem_cons_succ, List.getElem_cons_zero, Act.put, List.setIfInBounds_toArray, List.set_cons_zero, List.set_cons_succ]
    refine wpAnyD_takeC (i := 2) (v := .pointer (some ⟨g, 0, none⟩)) [22] (fun _ => rfl) rfl (by kernel_rfl) 2 (by kernel_rfl) rfl (by kernel_rfl) (by kernel_rfl) (by kernel_rfl) (fun _ _ _ h => h) (Or.inl ⟨by kernel_rfl, ?_⟩) hS ?_
    · intro w hSw; go_simp
    try simp only [List.getElem_toArray, List.getElem_cons_succ, List.getElem_cons_zero, Act.put, List.setIfInBounds_toArray, List.set_cons_zero, List.set_cons_succ]
    refine wpAnyD_takeC (i := 3) (v := .pointer (some ⟨g, 3, none⟩)) [22] (fun _ => rfl) rfl (by kernel_rfl) 2 (by kernel_rfl) rfl (by kernel_rfl) (by kernel_rfl) (by kernel_rfl) (fun _ _ _ h => h) (Or.inl ⟨by kernel_rfl, ?_⟩) hS ?_
    · intro w hSw; go_simp
    try simp only [List.getElem_toArray, List.getElem_cons_succ, List.getElem_cons_zero, Act.put, List.setIfInBounds_toArray, List.set_cons_zero, List.set_cons_succ]
    refine wpAnyD_takeC (i := 4) (v := .slice al nl cl) [22] (fun _ => rfl) rfl (by kernel_rfl) 2 (by kernel_rfl) rfl (by kernel_rfl) (by kernel_rfl) (by kernel_rfl) (fun _ _ _ h => h) (Or.inl ⟨by kernel_rfl, ?_⟩) hS ?_
    · intro w hSw; obtain ⟨x0, x1, x2, x3, x4⟩ := cuCells hSw; go_simp
    try simp only [List.getElem_toArray, List.getElem_cons_succ, List.getElem_cons_zero, Act.put, List.setIfInBounds_toArray, List.set_cons_zero, List.set_cons_succ]
    refine wpAnyD_takeC (i := 5) (v := .int .i64 k) [22] (fun _ => rfl) rfl (by kernel_rfl) 2 (by kernel_rfl) rfl (by kernel_rfl) (by kernel_rfl) (by kernel_rfl) (fun _ _ _ h => h) (Or.inl ⟨by kernel_rfl, ?_⟩) hS ?_
    · intro w hSw; go_simp
    try simp only [List.getElem_toArray, List.getElem_cons_succ, List.getElem_cons_zero, Act.put, List.setIfInBounds_toArray, List.set_cons_zero, List.set_cons_succ]
    refine wpAnyD_takeC (i := 6) (v := .string rest) [22] (fun _ => rfl) rfl (by kernel_rfl) 2 (by kernel_rfl) rfl (by kernel_rfl) (by kernel_rfl) (by kernel_rfl) (fun _ _ _ h => h) (Or.inl ⟨by kernel_rfl, ?_⟩) hS ?_
    · intro w hSw; go_simp
    try simp only [List.getElem_toArray, List.getElem_cons_succ, List.getElem_cons_zero, Act.put, List.setIfInBounds_toArray, List.set_cons_zero, List.set_cons_succ]
    refine wpAnyD_takeC (i := 7) (v := .int .i64 n) [22] (fun _ => rfl) rfl (by kernel_rfl) 2 (by kernel_rfl) rfl (by kernel_rfl) (by kernel_rfl) (by kernel_rfl) (fun _ _ _ h => h) (Or.inl ⟨by kernel_rfl, ?_⟩) hS ?_
    · intro w hSw; go_simp
    try simp only [List.getElem_toArray, List.getElem_cons_succ, List.getElem_cons_zero, Act.put, List.setIfInBounds_toArray, List.set_cons_zero, List.set_cons_succ]
    refine wpAnyD_takeC (i := 8) (v := .string t) [22] (fun _ => rfl) rfl (by kernel_rfl) 2 (by kernel_rfl) rfl (by kernel_rfl) (by kernel_rfl) (by kernel_rfl) (fun _ _ _ h => h) (Or.inl ⟨by kernel_rfl, ?_⟩) hS ?_
    · intro w hSw; go_simp
    try simp only [List.getElem_toArray, List.getElem_cons_succ, List.getElem_cons_zero, Act.put, List.setIfInBounds_toArray, List.set_cons_zero, List.set_cons_succ]
    refine wpAnyD_takeC (i := 9) (v := .pointer (some ⟨g, 0, none⟩)) [22] (fun _ => rfl) rfl (by kernel_rfl) 2 (by kernel_rfl) rfl (by kernel_rfl) (by kernel_rfl) (by kernel_rfl) (fun _ _ _ h => h) (Or.inl ⟨by kernel_rfl, ?_⟩) hS ?_
    · intro w hSw; go_simp
    try simp only [List.getElem_toArray, List.getElem_cons_succ, List.getElem_cons_zero, Act.put, List.setIfInBounds_toArray, List.set_cons_zero, List.set_cons_succ]
    refine wpAnyD_takeC (i := 10) (v := .pointer (some ⟨g, 0, none⟩)) [22] (fun _ => rfl) rfl (by kernel_rfl) 2 (by kernel_rfl) rfl (by kernel_rfl) (by kernel_rfl) (by kernel_rfl) (fun _ _ _ h => h) (Or.inl ⟨by kernel_rfl, ?_⟩) hS ?_
    · intro w hSw; go_simp
    try simp only [List.getElem_toArray, List.getElem_cons_succ, List.getElem_cons_zero, Act.put, List.setIfInBounds_toArray, List.set_cons_zero, List.set_cons_succ]
    refine wpAnyD_takeC (i := 11) (v := .pointer (some ⟨g, 1, none⟩)) [22] (fun _ => rfl) rfl (by kernel_rfl) 2 (by kernel_rfl) rfl (by kernel_rfl) (by kernel_rfl) (by kernel_rfl) (fun _ _ _ h => h) (Or.inl ⟨by kernel_rfl, ?_⟩) hS ?_
    · intro w hSw; go_simp
    try simp only [List.getElem_toArray, List.getElem_cons_succ, List.getElem_cons_zero, Act.put, List.setIfInBounds_toArray, List.set_cons_zero, List.set_cons_succ]
    refine wpAnyD_takeC (i := 12) (v := .int .i64 p) [22] (fun _ => rfl) rfl (by kernel_rfl) 2 (by kernel_rfl) rfl (by kernel_rfl) (by kernel_rfl) (by kernel_rfl) (fun _ _ _ h => h) (Or.inl ⟨by kernel_rfl, ?_⟩) hS ?_
    · intro w hSw; obtain ⟨x0, x1, x2, x3, x4⟩ := cuCells hSw; go_simp
    try simp only [List.getElem_toArray, List.getElem_cons_succ, List.getElem_cons_zero, Act.put, List.setIfInBounds_toArray, List.set_cons_zero, List.set_cons_succ]
    refine wpAnyD_takeC (i := 13) (v := .pointer (some ⟨g, 0, none⟩)) [22] (fun _ => rfl) rfl (by kernel_rfl) 2 (by kernel_rfl) rfl (by kernel_rfl) (by kernel_rfl) (by kernel_rfl) (fun _ _ _ h => h) (Or.inl ⟨by kernel_rfl, ?_⟩) hS ?_
    · intro w hSw; go_simp
    try simp only [List.getElem_toArray, List.getElem_cons_succ, List.getElem_cons_zero, Act.put, List.setIfInBounds_toArray, List.set_cons_zero, List.set_cons_succ]
    refine wpAnyD_takeC (i := 14) (v := .pointer (some ⟨g, 0, none⟩)) [22] (fun _ => rfl) rfl (by kernel_rfl) 2 (by kernel_rfl) rfl (by kernel_rfl) (by kernel_rfl) (by kernel_rfl) (fun _ _ _ h => h) (Or.inl ⟨by kernel_rfl, ?_⟩) hS ?_
    · intro w hSw; go_simp
    try simp only [List.getElem_toArray, List.getElem_cons_succ, List.getElem_cons_zero, Act.put, List.setIfInBounds_toArray, List.set_cons_zero, List.set_cons_succ]
    refine wpAnyD_takeC (i := 15) (v := .pointer (some ⟨g, 2, none⟩)) [22] (fun _ => rfl) rfl (by kernel_rfl) 2 (by kernel_rfl) rfl (by kernel_rfl) (by kernel_rfl) (by kernel_rfl) (fun _ _ _ h => h) (Or.inl ⟨by kernel_rfl, ?_⟩) hS ?_
    · intro w hSw; go_simp
    try simp only [List.getElem_toArray, List.getElem_cons_succ, List.getElem_cons_zero, Act.put, List.setIfInBounds_toArray, List.set_cons_zero, List.set_cons_succ]
    refine wpAnyD_takeC (i := 16) (v := .int .i64 line) [22] (fun _ => rfl) rfl (by kernel_rfl) 2 (by kernel_rfl) rfl (by kernel_rfl) (by kernel_rfl) (by kernel_rfl) (fun _ _ _ h => h) (Or.inl ⟨by kernel_rfl, ?_⟩) hS ?_
    · intro w hSw; obtain ⟨x0, x1, x2, x3, x4⟩ := cuCells hSw; go_simp
    try simp only [List.getElem_toArray, List.getElem_cons_succ, List.getElem_cons_zero, Act.put, List.setIfInBounds_toArray, List.set_cons_zero, List.set_cons_succ]
    refine wpAnyD_takeC (i := 17) (v := (.agg #[.int .i64 k, .string t, .int .i64 p, .int .i64 line, .bool false])) [22] (fun _ => rfl) rfl (by kernel_rfl) 2 (by kernel_rfl) rfl (by kernel_rfl) (by kernel_rfl) (by kernel_rfl) (fun _ _ _ h => h) (Or.inl ⟨by kernel_rfl, ?_⟩) hS ?_
    · intro w hSw; go_simp
    try simp only [List.getElem_toArray, List.getElem_cons_succ, List.getElem_cons_zero, Act.put, List.setIfInBounds_toArray, List.set_cons_zero, List.set_cons_succ]
    replace h1 := hide h1
    replace h2 := hide h2
    replace hS := hide hS
    replace hw := hide hw
    refine wpAnyD_one (i := 18) rfl (by kernel_rfl) (fun K hK => ?_)
    replace hK := hide hK
    go_simp
    have hS2 : (W.alloc (.cells #[.int .i64 k, .string t, .int .i64 p, .int .i64 line, .bool false] 32)).heap[g]? = some (cuObj s p line (.slice al nl cl) (.slice ac nc cc)) := (Below.heap_alloc _ _ _ hg).trans (unhide hS)
    have h1a := own_alloc (unhide h1) (.cells #[.int .i64 k, .string t, .int .i64 p, .int .i64 line, .bool false] 32)
    have h2a := own_alloc (unhide h2) (.cells #[.int .i64 k, .string t, .int .i64 p, .int .i64 line, .bool false] 32)
    have hn := new_tok W ⟨k, t, p, line, false⟩ (0, 0)
    have hwa := (unhide hw).alloc (by omega) (.cells #[.int .i64 k, .string t, .int .i64 p, .int .i64 line, .bool false] 32)
    have hga : g < (W.alloc (.cells #[.int .i64 k, .string t, .int .i64 p, .int .i64 line, .bool false] 32)).heap.size := (Array.getElem?_eq_some_iff.1 hS2).1
    refine unhide hK _ _ (fun _ => hS2) ?_
    clear hK K h1 h2 hS hw
    dsimp only at hn
    generalize World.alloc W _ = W2 at *
    generalize W.heap.size = gn at *
    try simp only [List.getElem_toArray, List.getElem_cons_succ, List.getElem_cons_zero, Act.put, List.setIfInBounds_toArray, List.set_cons_zero, List.set_cons_succ]
    refine wpAnyD_one (i := 19) rfl (by kernel_rfl) (fun K hK => ?_)
    rw [if_pos (by kernel_rfl)]
    refine wp_append_tok (v := .slice al nl cl) (.tmp 18) (.tmp 32) rfl ⟨k, t, p, line, false⟩ rfl h1a ⟨gn, 0, none⟩ rfl hn (by omega) (by omega) ?_
    intro v' W3 hown hgrow
    obtain ⟨hst, hS3⟩ := cu_stored hS2 h1a h2a h3 hown hgrow
    have hwb : Below base w W3 := hwa.grown hgrow (by omega) (fun k hk => by
      rcases h1a.2 with ⟨e, _⟩ | ⟨g', cap, cur, e, hb, _⟩
      · rw [e] at hk; cases hk
      · rw [e] at hk
        obtain rfl : g' = k := by simpa [Value.ownBlock] using hk
        exact hb)
    obtain ⟨al', cl', hv, _, _⟩ := own_shape hown
    obtain rfl : v' = .slice al' (nl + 1) cl' := by rw [hv, List.length_append, hnl]; rfl
    clear hv
    refine hK _ _ (fun _ => hS3) ?_
    clear hK K hown hgrow h1a h2a hn hwa hS2 hga
    have hS := hS3
    clear hS3
    replace hst := hide hst
    replace hwb := hide hwb
    try simp only [List.getElem_toArray, List.getElem_cons_succ, List.getElem_cons_zero, Act.put, List.setIfInBounds_toArray, List.set_cons_zero, List.set_cons_succ]
    refine wpAnyD_takeC (i := 20) (v := .pointer (some ⟨g, 0, none⟩)) [22] (fun _ => rfl) rfl (by kernel_rfl) 2 (by kernel_rfl) rfl (by kernel_rfl) (by kernel_rfl) (by kernel_rfl) (fun _ _ _ h => h) (Or.inl ⟨by kernel_rfl, ?_⟩) hS ?_
    · intro w hSw; go_simp
    try simp only [List.getElem_toArray, List.getElem_cons_succ, List.getElem_cons_zero, Act.put, List.setIfInBounds_toArray, List.set_cons_zero, List.set_cons_succ]
    refine wpAnyD_takeC (i := 21) (v := .pointer (some ⟨g, 3, none⟩)) [22] (fun _ => rfl) rfl (by kernel_rfl) 2 (by kernel_rfl) rfl (by kernel_rfl) (by kernel_rfl) (by kernel_rfl) (fun _ _ _ h => h) (Or.inl ⟨by kernel_rfl, ?_⟩) hS ?_
    · intro w hSw; go_simp
    try simp only [List.getElem_toArray, List.getElem_cons_succ, List.getElem_cons_zero, Act.put, List.setIfInBounds_toArray, List.set_cons_zero, List.set_cons_succ]
    obtain ⟨x0, x1, x2, x3, x4⟩ := cuCells hS
    have hf := cuFrozen hS
    refine wpAnyD_one (i := 22) rfl (by kernel_rfl) (fun K hK => ?_)
    replace hK := hide hK
    go_simp
    refine unhide hK _ _ (fun h => by cases h) ?_
    clear hK K x0 x1 x2 x3 x4 hf hS
    replace hst := unhide hst
    have hwc := (unhide hwb).setCell (p := ⟨g, 3, none⟩) h3 (.slice al' (nl + 1) cl')
    clear hwb
    generalize World.setCell _ _ _ = W4 at *
    refine wpAnyD_done (by kernel_rfl) ?_ _
    obtain ⟨hm, _⟩ := cu_moved hst (p + n)
    obtain ⟨vl2, vc2, h0, _, _, _⟩ := hst
    obtain ⟨x0, x1, x2, x3, x4⟩ := cuCells h0
    have hf := cuFrozen h0
    have hwd := hwc.setCell (p := ⟨g, 1, none⟩) h3 (.int .i64 ((p + n : Nat) : Int))
    have hadd2 : IntKind.i64.wrap ((p : Int) + (n : Int)) = ((p + n : Nat) : Int) := by rw [wrapI _ (by omega) (by omega)]; omega
    clear h0 hwc
    generalize hpn : p + n = q at *
    replace hm := hide hm
    replace hwd := hide hwd
    go_wp2
    go_ret
    refine ⟨rfl, ?_, unhide hwd⟩
    rw [unhide hadd]
    exact unhide hm
end Go.Proofs.Ytdjjbdmnjegfjaa

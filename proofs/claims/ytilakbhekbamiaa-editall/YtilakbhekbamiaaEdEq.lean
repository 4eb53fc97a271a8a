/-
  The program's Eq.
-/
import Derived.Test.YtilakbhekbamiaaOwnEd
import Derived.Deep.LoopGhost
import Derived.BigQuiet
import Derived.WalkSmall
import Derived.Laws.StructEq
namespace Go.Proofs.Ytilakbhekbamiaa
open Go.RowKit
set_option linter.unusedSimpArgs false
set_option linter.unusedVariables false
/-- Two edits are the same. -/
def eqE (d e : Ed) : Bool := d.p == e.p && (d.n == e.n && d.s.data.toList == e.s.data.toList)
/-- The first k are. -/
def eqK (A B : List Ed) : Nat → Bool
  | 0 => true
  | k + 1 => eqK A B k && eqE (A.getD k ed0) (B.getD k ed0)
def eqB (A B : List Ed) : Bool := A.length == B.length && eqK A B A.length
theorem eqE_iff {d e : Ed} : eqE d e = true ↔ d = e := by
  obtain ⟨p, n, s⟩ := d
  obtain ⟨q, m, t⟩ := e
  simp only [eqE, Bool.and_eq_true, beq_iff_eq, Ed.mk.injEq]
  refine and_congr Iff.rfl (and_congr Iff.rfl ⟨fun h => ?_, fun h => by rw [h]⟩)
  apply ByteArray.ext
  exact Array.ext' h
theorem eqK_le {A B : List Ed} : ∀ {k m : Nat}, k ≤ m → eqK A B m = true → eqK A B k = true
  | k, 0, h, hm => by obtain rfl : k = 0 := by omega
                      exact hm
  | k, m + 1, h, hm => by
    rcases Nat.lt_or_ge k (m + 1) with h1 | h1
    · rw [eqK, Bool.and_eq_true] at hm
      exact eqK_le (by omega) hm.1
    · obtain rfl : k = m + 1 := by omega
      exact hm
theorem eqK_not {A B : List Ed} {k m : Nat} (h : k < m) (hk : eqE (A.getD k ed0) (B.getD k ed0) = false) : eqK A B m = false := by
  cases hm : eqK A B m with
  | false => rfl
  | true =>
    have := eqK_le (show k + 1 ≤ m from h) hm
    rw [eqK, hk, Bool.and_false] at this
    cases this
theorem eqB_iff {A B : List Ed} : eqB A B = true ↔ A = B := by
  rw [eqB, Bool.and_eq_true, beq_iff_eq]
  constructor
  · rintro ⟨h1, h2⟩
    apply List.ext_getElem h1
    intro k ha hb
    have := eqK_le (show k + 1 ≤ A.length from ha) h2
    rw [eqK, Bool.and_eq_true, eqE_iff] at this
    simpa [List.getD, ha, hb] using this.2
  · rintro rfl
    refine ⟨rfl, ?_⟩
    suffices ∀ k, eqK A A k = true from this _
    intro k
    induction k with
    | zero => rfl
    | succ k ih => rw [eqK, ih, eqE_iff.2 rfl]; rfl
/-- The model's own comparison of two edits. -/
theorem neq_ed (d e : Ed) (w : World) : (binOp .neq 31 (.agg #[.int .i64 d.p, .int .i64 d.n, .string d.s]) (.agg #[.int .i64 e.p, .int .i64 e.n, .string e.s])).run Try.prog w = .ok (.bool (!eqE d e)) w := by
  have u1 := Try.underlying3
  have u2 := Try.underlying9
  have hS : Try.prog.underlying 31 = some (.struct (Try.prog.fieldsOf 31)) := by kernel_rfl
  have hp : Try.prog.stoodInHeld 31 = false := by kernel_rfl
  rw [run_neq_struct, show (10000 : Nat) = 9999 + 1 from rfl, run_equalIn_agg w 9999 31 _ _ hS hp]
  simp only [Program.fieldsOf, Try.underlying31]
  go_simp
  simp only [eqE, ByteArray.toList_eq]
  by_cases h1 : d.p = e.p <;> by_cases h2 : d.n = e.n <;> by_cases h3 : d.s.data = e.s.data <;> simp [h1, h2, h3]
theorem guard_ed (op : BinOp) (x y : Operand) (xs ys : Array Value) (w : World) : (eqGuard op 31 x y (.agg xs) (.agg ys)).run Try.prog w = .ok () w := run_eqGuard_agg w op 31 x y xs ys (by kernel_rfl)
set_option maxHeartbeats 8000000 in
set_option maxRecDepth 100000 in
theorem eqEdits_any (u v : Value) (A B : List Ed) (w : World) (ha : Eds w u A) (hb : Eds w v B) (hl : A.length ≤ 1000000) (hl2 : B.length ≤ 1000000) :
    Calls Try.prog 17 #[u, v] w fun e w' => e = .returned (.bool (eqB A B)) ∧ Below w.heap.size w w' := by
  obtain ⟨a, c, rfl, h1, h2, h3⟩ := ha
  obtain ⟨b, c', rfl, k1, k2, k3⟩ := hb
  unfold maxLen at h2 k2
  obtain ⟨n, hn⟩ : ∃ n, A.length = n := ⟨_, rfl⟩
  obtain ⟨m, hm⟩ : ∃ m, B.length = m := ⟨_, rfl⟩
  have hq : Hid (eqB A B = (n == m && eqK A B n)) := hide (by rw [eqB, hn, hm])
  rw [hn] at hl h1 h3 ⊢
  rw [hm] at hl2 k1 k3 ⊢
  replace h3 := hide h3
  replace k3 := hide k3
  by_cases hnm : n = m
  · subst hnm
    rw [beq_self_eq_true, Bool.true_and] at hq
    go_enter Try.func17, Try.ntmps17
    go_wp2
    go_loopg [5, 13] n (fun gf s5 s13 wx => ∃ i : Nat, s13 = .int .i64 i ∧ i + gf = n ∧ eqK A B i = true ∧ Below w.heap.size w wx)
    case atStart => exact ⟨0, rfl, by omega, rfl, Below.refl _ _⟩
    case round =>
      obtain ⟨i, rfl, hi, hek, hbw⟩ := hrel
      by_cases hlt : i < n
      · have hlz : (i : Int) < n := by omega
        obtain ⟨g', rfl⟩ : ∃ g', gk = g' + 1 := ⟨gk - 1, by omega⟩
        obtain ⟨g, off, rfl, hg, hc⟩ := unhide h3 (by omega)
        obtain ⟨j, off', rfl, hj, hd⟩ := unhide k3 (by omega)
        have hno := hide (fun (h : eqE (A.getD i ed0) (B.getD i ed0) = false) => eqK_not hlt h)
        have hst : Hid (eqK A B (i + 1) = (eqK A B i && eqE (A.getD i ed0) (B.getD i ed0))) := hide rfl
        obtain ⟨x0, x1, x2⟩ := (hc i hlt).below hg hbw
        obtain ⟨y0, y1, y2⟩ := (hd i hlt).below hj hbw
        clear hc hd
        generalize A.getD i ed0 = E at *
        generalize B.getD i ed0 = F at *
        obtain ⟨ep, en, es⟩ := E
        obtain ⟨fp, fn, fs⟩ := F
        dsimp only at *
        replace hek := hide hek
        have hne := fun W => neq_ed ⟨ep, en, es⟩ ⟨fp, fn, fs⟩ W
        dsimp only at hne
        have hgd := guard_ed
        cases hb : eqE ⟨ep, en, es⟩ ⟨fp, fn, fs⟩ with
        | false =>
          simp only [hb] at hne
          have hf := hide (unhide hno hb)
          replace hb := hide hb
          go_wp2
          go_quiet (fail)
          go_wp2
          go_ret
          exact ⟨ret_bool (by rw [unhide hq, unhide hf]), below_drewN hbw _⟩
        | true =>
          simp only [hb] at hne
          have hf := hide (show eqK A B (i + 1) = true by rw [unhide hst, unhide hek, hb]; rfl)
          replace hb := hide hb
          go_wp2
          go_quiet (fail)
          go_wp2
          go_roundg g'
          case measure => omega
          case rel => exact ⟨i + 1, by go_num, by omega, unhide hf, below_drewN hbw _⟩
      · have hlz : ¬ (i : Int) < n := by omega
        obtain rfl : i = n := by omega
        replace hek := hide hek
        go_wp2
        go_ret
        exact ⟨ret_bool (by rw [unhide hq, unhide hek]), hbw⟩
  · have hf : Hid (eqB A B = false) := hide (by rw [unhide hq, beq_false_of_ne hnm]; rfl)
    have hnz : ¬ (n : Int) = m := by omega
    go_enter Try.func17, Try.ntmps17
    go_wp2
    go_ret
    exact ⟨ret_bool (by rw [unhide hf]), Below.refl _ _⟩
set_option maxHeartbeats 8000000 in
set_option maxRecDepth 100000 in
theorem pEq_any (u v : Value) (A B : List Ed) (w : World) (ha : Eds w u A) (hb : Eds w v B) (hl : A.length ≤ 1000000) (hl2 : B.length ≤ 1000000) :
    Calls Try.prog 13 #[u, v] w fun e w' => e = .returned (.bool (eqB A B)) ∧ Below w.heap.size w w' := by
  have h := hide (eqEdits_any u v A B w ha hb hl hl2)
  replace ha := hide ha
  replace hb := hide hb
  go_enter Try.func13, Try.ntmps13
  go_wp2_with fail
  refine (unhide h).mono ?_
  rintro e W1 ⟨rfl, hb⟩
  go_wp2
  go_ret
  exact ⟨rfl, hb⟩
end Go.Proofs.Ytilakbhekbamiaa

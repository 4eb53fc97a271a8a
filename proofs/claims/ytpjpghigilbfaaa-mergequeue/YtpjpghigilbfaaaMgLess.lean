/-
  The law's own less.
-/
import Derived.Test.YtpjpghigilbfaaaOwnEd
import Derived.Test.YtpjpghigilbfaaaMgMath
import Derived.WalkSmall
import Derived.Sort.Grow
namespace Go.Proofs.Ytpjpghigilbfaaa
open Go.RowKit Go.Lib Go.Sort
set_option linter.unusedSimpArgs false
set_option linter.unusedVariables false
theorem bytesLess_cmp : ∀ a b : List UInt8, Op.bytesLess a b = decide (compareBytes a b < 0)
  | [], [] => by simp [Op.bytesLess, compareBytes]
  | _ :: _, [] => by simp [Op.bytesLess, compareBytes]
  | [], _ :: _ => by simp [Op.bytesLess, compareBytes]
  | x :: a, y :: b => by
    rw [Op.bytesLess, bytesLess_cmp a b, compareBytes]
    by_cases h1 : x < y
    · simp [h1]
    · by_cases h2 : y < x
      · have h3 : ¬ x = y := by rintro rfl; exact h1 h2
        simp [h1, h2, h3]
      · have h3 : x = y := UInt8.le_antisymm (UInt8.not_lt.1 h2) (UInt8.not_lt.1 h1)
        simp [h1, h2, h3]
set_option maxHeartbeats 2000000 in
set_option maxRecDepth 100000 in
theorem less_any (d e : Ed) (w : World) : Calls Try.prog 19 #[.agg #[.int .i64 d.p, .int .i64 d.n, .string d.s], .agg #[.int .i64 e.p, .int .i64 e.n, .string e.s]] w fun x w' => x = .returned (.bool (ltE d e)) ∧ ∃ q os, w' = grow (w.drewN q) os := by
  obtain ⟨dp, dn, ds⟩ := d
  obtain ⟨ep, en, es⟩ := e
  have hW : Hid (∃ q os, (w.alloc (.cells #[.int .i64 dp, .int .i64 dn, .string ds] 29 (0, 0))).alloc (.cells #[.int .i64 ep, .int .i64 en, .string es] 29 (0, 0)) = grow (w.drewN q) os) := hide ⟨0, _, by rw [alloc_eq_grow, alloc_eq_grow, grow_grow]; rfl⟩
  have hlt : Hid (ltE ⟨dp, dn, ds⟩ ⟨ep, en, es⟩ = true ↔ dp < ep ∨ (dp = ep ∧ (dn < en ∨ (dn = en ∧ compareBytes ds.data.toList es.data.toList < 0)))) := hide ltE_iff
  have hbl := bytesLess_cmp ds.data.toList es.data.toList
  rw [← ByteArray.toList_eq, ← ByteArray.toList_eq] at hbl hlt
  generalize ltE ⟨dp, dn, ds⟩ ⟨ep, en, es⟩ = R at *
  replace hbl := hide hbl
  go_enter Try.func19, Try.ntmps19
  go_wp2
  all_goals (go_ret; refine ⟨ret_bool ?_, unhide hW⟩)
  all_goals
    have hb := unhide hbl
    have hl := unhide hlt
    clear hbl hlt hW
    rw [Bool.eq_iff_iff, hl]
    (try simp only [hb, decide_eq_true_eq])
    (try simp only [bne_iff_ne, ne_eq, bne_eq_false_iff_eq] at *)
    omega
end Go.Proofs.Ytpjpghigilbfaaa

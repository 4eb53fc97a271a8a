/-
  What the laws of edit share: edits that were cut; how long texts come to be.
-/
import Derived.Test.YtilakbhekbamiaaEdArg
import Derived.Test.YtilakbhekbamiaaEdMore
import Derived.Test.YtilakbhekbamiaaEdCut
import Derived.Test.YtilakbhekbamiaaEdApply
namespace Go.Proofs.Ytilakbhekbamiaa
open Go.RowKit
theorem cutE_len (L : List Ed) : (cutE L).length ≤ 12 := by rw [cutE, cutL_len]; omega
theorem cutE_of {L : List Ed} (h : ∀ e ∈ L, e.wf) : Rng (cutE L) ∧ ∀ e ∈ cutE L, e.s.size ≤ 10 := by
  have hx : ∀ e ∈ cutE L, ∃ d ∈ L, e = cutOne d := fun e he => by
    obtain ⟨d, hd, rfl⟩ := List.mem_map.1 he
    exact ⟨d, List.mem_of_mem_take hd, rfl⟩
  constructor
  · intro e he
    obtain ⟨d, hd, rfl⟩ := hx e he
    exact ⟨bounds_i64 (h d hd).1, bounds_i64 (h d hd).2.1⟩
  · intro e he
    obtain ⟨d, hd, rfl⟩ := hx e he
    exact cutS_le _ _
section
variable {s : ByteArray} {l : List Ed} (hm : mayB l s.size = true) (hl : l.length ≤ 12) (hs : s.size ≤ 100) (hB : ∀ e ∈ l, e.s.size ≤ 10)
include hm hl hs hB
theorem app_lim : (appS s l).size ≤ 1420 := by
  rw [appS, ByteArray.size_append]
  have h1 := outK_size hB (Nat.le_refl _) hm
  have h2 : l.length * (s.size + 10) ≤ 12 * 110 := Nat.mul_le_mul hl (by omega)
  have h3 : (s.extract (atK l l.length) s.size).size ≤ 100 := by rw [ByteArray.size_extract]; omega
  omega
theorem la_lim {k : Nat} (h : k ≤ l.length) : (laK s l k).size ≤ 1520 := by
  have h1 := app_lim hm hl hs hB
  rw [app_re s l (l.length - k) k (by omega), ByteArray.size_append] at h1
  rw [laK, ByteArray.size_append]
  have h3 : (s.extract 0 (atK l k)).size ≤ 100 := by rw [ByteArray.size_extract]; omega
  omega
end
theorem getD_mem {l : List Ed} {k : Nat} (h : k < l.length) : l.getD k ed0 ∈ l := by simp [List.getD, h]
end Go.Proofs.Ytilakbhekbamiaa

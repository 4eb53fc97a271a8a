/-
  A text of one byte.
-/
import Derived.Test.YtmhkmmcicfpakabScanSym
import Derived.Test.YtmhkmmcicfpakabConv
namespace Go.Proofs.Ytmhkmmcicfpakab
open Go.RowKit
/-- A text of one byte. -/
theorem conv1 (w : World) (v : Int) (h0 : 0 ≤ v) (h1 : v ≤ 255) : (convert 23 9 (.slice (some ⟨w.heap.size, 0, none⟩) 1 1)).run Try.prog (w.alloc (.cells #[.int .u8 v] 5)) = .ok (.string (bs [UInt8.ofNat v.toNat])) (w.alloc (.cells #[.int .u8 v] 5)) :=
  (bts_alloc w [v] (0, 0) (by intro z hz; simp only [List.mem_cons, List.not_mem_nil, or_false] at hz; omega) (by simp)).conv
end Go.Proofs.Ytmhkmmcicfpakab

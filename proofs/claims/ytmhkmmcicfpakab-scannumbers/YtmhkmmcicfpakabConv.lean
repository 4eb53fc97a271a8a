/-
  A slice of bytes as a text: string(v).
-/
import Derived.Test.YtmhkmmcicfpakabMem
namespace Go.Proofs.Ytmhkmmcicfpakab
open Go.RowKit
theorem Bts.conv {w : World} {v : Value} {xs : List Int} (h : Bts w v xs) : (convert 23 9 v).run Try.prog w = .ok (.string (strOfNums xs)) w := by
  obtain ⟨hx, hl, ⟨rfl, ao, cap, rfl, _⟩ | ⟨b, off, cap, rfl, h0, h1, h2, h3, h4⟩⟩ := h
  · cases ao with
    | none => exact run_convert_bytes_nil w 23 5 Try.underlying23 Try.underlying5 0 cap 9 Try.underlying9
    | some a =>
      rw [run_convert_bytes_string w 23 9 5 _ 0 cap Try.underlying23 Try.underlying5 Try.underlying9]
      exact run_bytesToString w a 0 cap [] (by simp [loadCells, loadCellsFrom])
  · exact run_convert_bytes_arg w 23 5 Try.underlying23 Try.underlying5 b off xs.length cap xs rfl h4 9 Try.underlying9
end Go.Proofs.Ytmhkmmcicfpakab

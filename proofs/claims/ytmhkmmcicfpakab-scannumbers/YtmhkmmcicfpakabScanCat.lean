/-
  A byte, so many times; a text with one more behind it. No program.
-/
import Derived.Test.YtmhkmmcicfpakabCutScan
namespace Go.Proofs.Ytmhkmmcicfpakab
/-- So many bytes c. -/
def reps (c : UInt8) (n : Nat) : ByteArray := ⟨(List.replicate n c).toArray⟩
theorem reps_size (c : UInt8) (n : Nat) : (reps c n).size = n := by
  show (List.replicate n c).toArray.size = n
  simp
theorem reps_zero (c : UInt8) (s : ByteArray) : s ++ reps c 0 = s := by
  apply ByteArray.ext
  rw [ByteArray.data_append]
  show s.data ++ (List.replicate 0 c).toArray = s.data
  simp
theorem reps_succ (c : UInt8) (n : Nat) (s : ByteArray) : s ++ reps c n ++ ⟨#[c]⟩ = s ++ reps c (n + 1) := by
  apply ByteArray.ext
  rw [ByteArray.data_append, ByteArray.data_append, ByteArray.data_append]
  show s.data ++ (List.replicate n c).toArray ++ #[c] = s.data ++ (List.replicate (n + 1) c).toArray
  rw [Array.append_assoc]
  congr 1
  apply Array.ext'
  simp [← List.replicate_succ']
/-- What the program answers at a text. -/
def scanS (s : ByteArray) : List Tk × List Cm × Int := scanR s (bigF s (flt s))
end Go.Proofs.Ytmhkmmcicfpakab

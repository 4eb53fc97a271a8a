/-
  NameKeys' walk.
-/
import Derived.Test.YtbnfnajfllkjeaaNameBegun
namespace Go.Proofs.Ytbnfnajfllkjeaa
open Go.RowKit
theorem append_size (a b : ByteArray) : (a ++ b).size = a.size + b.size := ByteArray.size_append
set_option maxHeartbeats 2000000 in
set_option maxRecDepth 100000 in
theorem nameKeys_shell (a0 : ByteArray) (w0 : a0.size ≤ maxLen) (w : World) :
    Calls Try.prog 6 #[.string a0] w fun e w' => e = .returned (.bool true) ∧ Below w.heap.size w w' := by
  have hl := cutS_le a0 30
  have HC := hide (fun w => cut_any a0 30 w w0 (by omega))
  generalize cutS a0 30 = t at *
  have ht : t.size ≤ maxLen := by unfold maxLen; omega
  have hx : (t ++ ⟨#[120]⟩).size = t.size + 1 := append_size _ _
  have HI := fun w => nIs_any t w ht
  have HK := fun w => nKey_any t w
  have HW := fun w => nWorld_any t w
  have HJ := fun w => nIs_any (t ++ ⟨#[120]⟩) w (by unfold maxLen; omega)
  have HL := fun w => nKey_any (t ++ ⟨#[120]⟩) w
  have hwr := worldN_range t
  have hkf := key_facts t
  have hwf := world_facts t
  generalize isN t = b1 at *
  generalize hb2 : isKey t = b2 at *
  generalize worldN t = n at *
  generalize isN (t ++ ⟨#[120]⟩) = b3 at *
  generalize isKey (t ++ ⟨#[120]⟩) = b4 at *
  clear hb2
  by_cases hn : 0 ≤ n
  · obtain ⟨rfl, rfl⟩ := hwf hn
    have HI := hide HI
    have HK := hide HK
    have HW := hide HW
    clear hkf hwf HJ HL
    go_enter Try.func6, Try.ntmps6
    go_wp2_with fail
    refine (begun_any _).mono ?_
    rintro e W1 ⟨rfl, rfl⟩
    go_wp2_with fail
    refine (unhide HC _).mono ?_
    rintro e W1' ⟨rfl, rfl⟩
    go_wp2_with fail
    refine (unhide HW _).mono ?_
    rintro e W1'' ⟨rfl, rfl⟩
    go_wp2_with fail
    refine (unhide HI _).mono ?_
    rintro e W2 ⟨rfl, rfl⟩
    go_wp2_with fail
    refine (unhide HK _).mono ?_
    rintro e W2' ⟨rfl, rfl⟩
    go_wp2_with fail
    refine (unhide HK _).mono ?_
    rintro e W3 ⟨rfl, rfl⟩
    go_wp2
    go_ret
    exact ⟨rfl, Below.refl _ _⟩
  · clear hwf
    cases b2 with
    | false =>
      have HK := hide HK
      have HW := hide HW
      clear hkf HI HJ HL
      go_enter Try.func6, Try.ntmps6
      go_wp2_with fail
      refine (begun_any _).mono ?_
      rintro e W1 ⟨rfl, rfl⟩
      go_wp2_with fail
      refine (unhide HC _).mono ?_
      rintro e W1' ⟨rfl, rfl⟩
      go_wp2_with fail
      refine (unhide HW _).mono ?_
      rintro e W1'' ⟨rfl, rfl⟩
      go_wp2_with fail
      refine (unhide HK _).mono ?_
      rintro e W2' ⟨rfl, rfl⟩
      go_wp2
      go_ret
      exact ⟨rfl, Below.refl _ _⟩
    | true =>
      obtain ⟨rfl, rfl, rfl⟩ := hkf rfl
      have HI := hide HI
      have HK := hide HK
      have HW := hide HW
      have HJ := hide HJ
      have HL := hide HL
      go_enter Try.func6, Try.ntmps6
      go_wp2_with fail
      refine (begun_any _).mono ?_
      rintro e W1 ⟨rfl, rfl⟩
      go_wp2_with fail
      refine (unhide HC _).mono ?_
      rintro e W1' ⟨rfl, rfl⟩
      go_wp2_with fail
      refine (unhide HW _).mono ?_
      rintro e W1'' ⟨rfl, rfl⟩
      go_wp2_with fail
      refine (unhide HK _).mono ?_
      rintro e W2 ⟨rfl, rfl⟩
      go_wp2_with fail
      refine (unhide HI _).mono ?_
      rintro e W2' ⟨rfl, rfl⟩
      go_wp2_with fail
      refine (unhide HJ _).mono ?_
      rintro e W3 ⟨rfl, rfl⟩
      go_wp2_with fail
      refine (unhide HL _).mono ?_
      rintro e W3' ⟨rfl, rfl⟩
      go_wp2
      go_ret
      exact ⟨rfl, Below.refl _ _⟩
end Go.Proofs.Ytbnfnajfllkjeaa

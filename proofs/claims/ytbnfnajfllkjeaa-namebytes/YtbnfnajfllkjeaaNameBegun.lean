/-
  What each law of name begins with: begun.
-/
import Derived.Test.YtbnfnajfllkjeaaNameRefIs
namespace Go.Proofs.Ytbnfnajfllkjeaa
open Go.RowKit
set_option maxHeartbeats 2000000 in
set_option maxRecDepth 100000 in
theorem begun_any (w : World) : Calls Try.prog 7 #[] w fun e w' => e = .returned (.bool true) ∧ w' = w := by
  have h0 := nIs_any ⟨#[97, 49, 95]⟩ w (by decide)
  rw [show isN ⟨#[97, 49, 95]⟩ = true by kernel_rfl] at h0
  have h1 := nIs_any ⟨#[49, 97]⟩ w (by decide)
  rw [show isN ⟨#[49, 97]⟩ = false by kernel_rfl] at h1
  have h2 := nIs_any ⟨#[102, 111, 114]⟩ w (by decide)
  rw [show isN ⟨#[102, 111, 114]⟩ = false by kernel_rfl] at h2
  have h3 := nKey_any ⟨#[115, 116, 114, 117, 99, 116]⟩ w
  rw [show isKey ⟨#[115, 116, 114, 117, 99, 116]⟩ = true by kernel_rfl] at h3
  have h4 := nKey_any ⟨#[97]⟩ w
  rw [show isKey ⟨#[97]⟩ = false by kernel_rfl] at h4
  have h5 := nWorld_any ⟨#[116, 114, 117, 101]⟩ w
  rw [show worldN ⟨#[116, 114, 117, 101]⟩ = 3 by kernel_rfl] at h5
  have h6 := nWorld_any ⟨#[120]⟩ w
  rw [show worldN ⟨#[120]⟩ = -1 by kernel_rfl] at h6
  have h7 := nFile_any ⟨#[97, 46, 109, 103]⟩ w (by decide)
  rw [show fileN ⟨#[97, 46, 109, 103]⟩ = true by kernel_rfl] at h7
  have h8 := nFile_any ⟨#[46, 97]⟩ w (by decide)
  rw [show fileN ⟨#[46, 97]⟩ = false by kernel_rfl] at h8
  have H0 := hide h0
  have H1 := hide h1
  have H2 := hide h2
  have H3 := hide h3
  have H4 := hide h4
  have H5 := hide h5
  have H6 := hide h6
  have H7 := hide h7
  have H8 := hide h8
  clear h0 h1 h2 h3 h4 h5 h6 h7 h8
  go_enter Try.func7, Try.ntmps7
  go_wp2_with fail
  refine (unhide H0).mono ?_
  rintro e w0 ⟨rfl, rfl⟩
  go_wp2_with fail
  refine (unhide H1).mono ?_
  rintro e w1 ⟨rfl, rfl⟩
  go_wp2_with fail
  refine (unhide H2).mono ?_
  rintro e w2 ⟨rfl, rfl⟩
  go_wp2_with fail
  refine (unhide H3).mono ?_
  rintro e w3 ⟨rfl, rfl⟩
  go_wp2_with fail
  refine (unhide H4).mono ?_
  rintro e w4 ⟨rfl, rfl⟩
  go_wp2_with fail
  refine (unhide H5).mono ?_
  rintro e w5 ⟨rfl, rfl⟩
  go_wp2_with fail
  refine (unhide H6).mono ?_
  rintro e w6 ⟨rfl, rfl⟩
  go_wp2_with fail
  refine (unhide H7).mono ?_
  rintro e w7 ⟨rfl, rfl⟩
  go_wp2_with fail
  refine (unhide H8).mono ?_
  rintro e w8 ⟨rfl, rfl⟩
  go_wp2
  go_ret
  exact ⟨rfl, rfl⟩
end Go.Proofs.Ytbnfnajfllkjeaa

/-
  UtfJoin's walk.
-/
import Derived.Test.YtifmdlmbnejiiaaUtfBegun
namespace Go.Proofs.Ytifmdlmbnejiiaa
open Go.RowKit
set_option maxHeartbeats 2000000 in
set_option maxRecDepth 100000 in
theorem utfJoin_shell (a0 : ByteArray) (a1 : ByteArray) (w0 : a0.size ≤ maxLen) (w1 : a1.size ≤ maxLen) (w : World) :
    Calls Try.prog 6 #[.string a0, .string a1] w fun e w' => e = .returned (.bool true) ∧ Below w.heap.size w w' := by
  have hla := cutS_le a0 60
  have HCa := hide (fun w => cut_any a0 60 w w0 (by omega))
  have hlb := cutS_le a1 60
  have HCb := hide (fun w => cut_any a1 60 w w1 (by omega))
  generalize cutS a0 60 = a at *
  generalize cutS a1 60 = b at *
  have hal : a.size ≤ maxLen := by unfold maxLen; omega
  have hbl : b.size ≤ maxLen := by unfold maxLen; omega
  have hsz : (a ++ b).size = a.size + b.size := ByteArray.size_append
  have HFa := hide (fun w => uFault_any a w hal)
  have HFb := hide (fun w => uFault_any b w hbl)
  have HF := hide (fun w => uFault_any (a ++ b) w (by unfold maxLen; omega))
  have HNa := hide (fun w => uCount_any a w hal)
  have HNb := hide (fun w => uCount_any b w hbl)
  have HN := hide (fun w => uCount_any (a ++ b) w (by unfold maxLen; omega))
  have hfa := flt_range a
  have hfb := flt_range b
  have hca := cnt_le a
  have hcb := cnt_le b
  have hj := join a b
  unfold moved at hj
  generalize flt a = fa at *
  generalize flt b = fb at *
  generalize cnt a = ca at *
  generalize cnt b = cb at *
  by_cases ha : 0 ≤ fa
  · clear hj HF HN
    go_enter Try.func6, Try.ntmps6
    go_wp2_with fail
    refine (begun_any _).mono ?_
    rintro e w1 ⟨rfl, hb1⟩
    go_wp2_with fail
    refine (unhide HCa _).mono ?_
    rintro e w1' ⟨rfl, rfl⟩
    go_wp2_with fail
    refine (unhide HCb _).mono ?_
    rintro e w1' ⟨rfl, rfl⟩
    go_wp2_with fail
    refine (unhide HFa _).mono ?_
    rintro e w2 ⟨rfl, hb2⟩
    go_wp2
    go_ret
    exact ⟨rfl, below3 hb1 hb2⟩
  obtain ⟨hj1, hj2⟩ := hj (by omega)
  rw [hj1] at HF
  rw [hj2] at HN
  clear hj hj1 hj2
  by_cases hb : 0 ≤ fb
  · rw [if_pos hb] at HF
    go_enter Try.func6, Try.ntmps6
    go_wp2_with fail
    refine (begun_any _).mono ?_
    rintro e w1 ⟨rfl, hb1⟩
    go_wp2_with fail
    refine (unhide HCa _).mono ?_
    rintro e w1' ⟨rfl, rfl⟩
    go_wp2_with fail
    refine (unhide HCb _).mono ?_
    rintro e w1' ⟨rfl, rfl⟩
    go_wp2_with fail
    refine (unhide HFa _).mono ?_
    rintro e w2 ⟨rfl, hb2⟩
    go_wp2_with fail
    refine (unhide HFb _).mono ?_
    rintro e w3 ⟨rfl, hb3⟩
    go_wp2_with fail
    refine (unhide HF _).mono ?_
    rintro e w4 ⟨rfl, hb4⟩
    go_wp2_with fail
    refine (unhide HN _).mono ?_
    rintro e w5 ⟨rfl, hb5⟩
    go_wp2_with fail
    refine (unhide HNa _).mono ?_
    rintro e w6 ⟨rfl, hb6⟩
    go_wp2_with fail
    refine (unhide HNb _).mono ?_
    rintro e w7 ⟨rfl, hb7⟩
    go_wp2
    go_ret
    exact ⟨rfl, below3 (below3 (below3 (below3 (below3 (below3 hb1 hb2) hb3) hb4) hb5) hb6) hb7⟩
  · rw [if_neg hb] at HF
    go_enter Try.func6, Try.ntmps6
    go_wp2_with fail
    refine (begun_any _).mono ?_
    rintro e w1 ⟨rfl, hb1⟩
    go_wp2_with fail
    refine (unhide HCa _).mono ?_
    rintro e w1' ⟨rfl, rfl⟩
    go_wp2_with fail
    refine (unhide HCb _).mono ?_
    rintro e w1' ⟨rfl, rfl⟩
    go_wp2_with fail
    refine (unhide HFa _).mono ?_
    rintro e w2 ⟨rfl, hb2⟩
    go_wp2_with fail
    refine (unhide HFb _).mono ?_
    rintro e w3 ⟨rfl, hb3⟩
    go_wp2_with fail
    refine (unhide HF _).mono ?_
    rintro e w4 ⟨rfl, hb4⟩
    go_wp2_with fail
    refine (unhide HN _).mono ?_
    rintro e w5 ⟨rfl, hb5⟩
    go_wp2_with fail
    refine (unhide HNa _).mono ?_
    rintro e w6 ⟨rfl, hb6⟩
    go_wp2_with fail
    refine (unhide HNb _).mono ?_
    rintro e w7 ⟨rfl, hb7⟩
    go_wp2
    go_ret
    exact ⟨rfl, below3 (below3 (below3 (below3 (below3 (below3 hb1 hb2) hb3) hb4) hb5) hb6) hb7⟩
end Go.Proofs.Ytifmdlmbnejiiaa

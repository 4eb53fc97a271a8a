/-
  NameLong's walk.
-/
import Derived.Test.YtbnfnajfllkjeaaNameBegun
import Derived.Test.YtbnfnajfllkjeaaConv
import Derived.Test.YtbnfnajfllkjeaaOwn
import Derived.BigRegion
namespace Go.Proofs.Ytbnfnajfllkjeaa
open Go.RowKit
def qs (n : Nat) : ByteArray := strOfNums (List.replicate n 113)
theorem qs_size (n : Nat) : (qs n).size = n := by rw [qs, strOfNums_size, List.length_replicate]
theorem qs_data (n : Nat) : (qs n).data.toList = List.replicate n 113 := by
  rw [qs, strOfNums_data, List.map_replicate]
  rfl
theorem qs_at (n i : Nat) (hi : i < n) : byteAt (qs n) i = 113 := by
  rw [byteAt_eq, ← Array.getElem?_toList, qs_data]
  simp [hi]
theorem qs_key (n : Nat) : isKey (qs n) = false := by
  rw [isKey, inB, List.any_eq_false]
  intro k hk
  rw [qs_data]
  intro he
  rw [beq_iff_eq] at he
  have hm : ∀ k ∈ keysB, k.data.toList.head? ≠ none ∧ k.data.toList.head? ≠ some 113 := by
    unfold keysB
    simp
  have hk' := hm k hk
  rw [← he] at hk'
  cases n with
  | zero => exact hk'.1 rfl
  | succ n => exact hk'.2 rfl
theorem qs_isN (n : Nat) : isN (qs n) = (decide (1 ≤ n) && decide (n ≤ 24)) := by
  rw [isN, qs_size, qs_key, allB_true (fun i hi => by rw [qs_size] at hi; rw [qs_at n i hi]; rfl)]
  by_cases h : 1 ≤ n
  · rw [qs_at n 0 (by omega), show digB 113 = false from rfl]
    simp
  · simp [h]
theorem qs_fileN (n : Nat) : fileN (qs n) = (decide (1 ≤ n) && decide (n ≤ 16)) := by
  rw [fileN, qs_size, allB_true (fun i hi => by rw [qs_size] at hi; rw [qs_at n i hi]; rfl)]
  by_cases h : 1 ≤ n
  · rw [qs_at n 0 (by omega)]
    simp
  · simp [h]
set_option maxHeartbeats 2000000 in
set_option maxRecDepth 100000 in
theorem nameLong_walk (a0 : Int) (w0 : -9223372036854775808 ≤ a0 ∧ a0 ≤ 9223372036854775807) (w : World) :
    Calls Try.prog 5 #[.int .i64 a0] w fun e w' => e = .returned (.bool true) ∧ Below w.heap.size w w' := by
  obtain ⟨hn1, hn2⟩ := w0
  go_enter Try.func5, Try.ntmps5
  go_wp2_with fail
  refine (begun_any _).mono ?_
  rintro e W1 ⟨rfl, rfl⟩
  by_cases h1 : a0 < 0
  · go_wp2
    go_ret
    exact ⟨rfl, Below.refl _ _⟩
  by_cases h2 : 40 < a0
  · go_wp2
    go_ret
    exact ⟨rfl, Below.refl _ _⟩
  obtain ⟨n, rfl⟩ := Int.eq_ofNat_of_zero_le (show 0 ≤ a0 by omega)
  obtain ⟨i0, hi, hz0, hz1, hz2⟩ := info_parts Try.info5
  have HG := hide (fun k (hk : k < n) => set_next (List.replicate n 113) n k hk (by simp))
  have hbX := hide (show Byt (List.replicate n 113) from fun x hx => by rw [List.eq_of_mem_replicate hx]; omega)
  go_wp2_with (at_make; refine wpList_make_full _ rfl _ _ 26 rfl W1.heap.size 5 i0 (.int .u8 0) 1 Try.underlying26 hi hz0 hz1 .i64 .i64 _ _ n rfl rfl rfl rfl (by rw [hz2]; omega) (by unfold maxLen; omega) (Nat.le_refl _) ?_)
  intro W2 hown hgrow
  have hb2 : Below W1.heap.size W1 W2 := (Below.refl _ _).grown hgrow (Nat.le_refl _) (fun k hk => by simp at hk)
  rw [made_zeros] at hown
  have hO := OwnB.made hown
  clear hown hgrow
  generalize hg : W1.heap.size = g at *
  go_wp2
  go_loopw [19] (fun ks wr => ∃ k : Nat, k ≤ n ∧ ks = .int .i64 k ∧ OwnB wr g ((List.replicate n 113).take k ++ List.replicate (n - k) 0) ∧ Below g W1 wr) (fun ks _ => n - (intOf ks).toNat)
  case atStart => exact ⟨0, by omega, rfl, by simpa using hO, hb2⟩
  case round =>
    obtain ⟨k, hk, rfl, hOk, hbk⟩ := hrel
    clear hO hb2
    by_cases hlt : k < n
    · have hOc := hOk.cell k (by simp; omega)
      have hOf := hOk.frozen k
      have HS := hOk.set k ((List.replicate n 113).getD k 0)
      rw [unhide HG k hlt] at HS
      rw [show (List.replicate n (113 : Int)).getD k 0 = 113 by simp [List.getD, hlt]] at HS
      have HS := hide HS
      clear hOk
      go_wp2
      go_roundw
      case rel => exact ⟨k + 1, by omega, by go_num, unhide HS, hbk.setCell (by exact Nat.le_refl g) _⟩
      case measure => simp [intOf]; omega
    · obtain rfl : k = n := by omega
      rw [Nat.sub_self, List.replicate_zero, List.append_nil, List.take_of_length_le (by simp)] at hOk
      have hD := hOk.bts (unhide hbX) (by simp; omega)
      rw [List.length_replicate] at hD
      have hcv := hD.conv
      clear hD hOk
      have hq := qs_isN k
      have hf := qs_fileN k
      have hs := qs_size k
      unfold qs at hq hf hs
      generalize strOfNums (List.replicate k 113) = u at *
      have hu : u.size ≤ maxLen := by unfold maxLen; omega
      have HI := nIs_any u wr hu
      have HF := nFile_any u wr hu
      rcases (show k < 1 ∨ 24 < k ∨ (1 ≤ k ∧ k ≤ 16) ∨ (16 < k ∧ k ≤ 24) by omega) with hc | hc | hc | hc
      · rw [hq, show (decide (1 ≤ k) && decide (k ≤ 24)) = false by simp; omega] at HI
        rw [hf, show (decide (1 ≤ k) && decide (k ≤ 16)) = false by simp; omega] at HF
        have HI := hide HI
        have HF := hide HF
        clear hq hf
        go_wp2_with fail
        refine (unhide HI).mono ?_
        rintro e W3 ⟨rfl, rfl⟩
        go_wp2_with fail
        refine (unhide HF).mono ?_
        rintro e W4 ⟨rfl, rfl⟩
        go_wp2
        go_ret
        exact ⟨ret_bool (by first | rfl | (simp; omega)), hg ▸ hbk⟩
      · rw [hq, show (decide (1 ≤ k) && decide (k ≤ 24)) = false by simp; omega] at HI
        rw [hf, show (decide (1 ≤ k) && decide (k ≤ 16)) = false by simp; omega] at HF
        have HI := hide HI
        have HF := hide HF
        clear hq hf
        go_wp2_with fail
        refine (unhide HI).mono ?_
        rintro e W3 ⟨rfl, rfl⟩
        go_wp2_with fail
        refine (unhide HF).mono ?_
        rintro e W4 ⟨rfl, rfl⟩
        go_wp2
        go_ret
        exact ⟨ret_bool (by first | rfl | (simp; omega)), hg ▸ hbk⟩
      · rw [hq, show (decide (1 ≤ k) && decide (k ≤ 24)) = true by simp; omega] at HI
        rw [hf, show (decide (1 ≤ k) && decide (k ≤ 16)) = true by simp; omega] at HF
        have HI := hide HI
        have HF := hide HF
        clear hq hf
        go_wp2_with fail
        refine (unhide HI).mono ?_
        rintro e W3 ⟨rfl, rfl⟩
        go_wp2_with fail
        refine (unhide HF).mono ?_
        rintro e W4 ⟨rfl, rfl⟩
        go_wp2
        go_ret
        exact ⟨ret_bool (by first | rfl | (simp; omega)), hg ▸ hbk⟩
      · rw [hq, show (decide (1 ≤ k) && decide (k ≤ 24)) = true by simp; omega] at HI
        rw [hf, show (decide (1 ≤ k) && decide (k ≤ 16)) = false by simp; omega] at HF
        have HI := hide HI
        have HF := hide HF
        clear hq hf
        go_wp2_with fail
        refine (unhide HI).mono ?_
        rintro e W3 ⟨rfl, rfl⟩
        go_wp2_with fail
        refine (unhide HF).mono ?_
        rintro e W4 ⟨rfl, rfl⟩
        go_wp2
        go_ret
        exact ⟨ret_bool (by first | rfl | (simp; omega)), hg ▸ hbk⟩
theorem nameLong_shell (a0 : Int) (w0 : (Lit.int .i64 a0).wf = true) (w : World) :
    Calls Try.prog 5 #[.int .i64 a0] w fun e w' => e = .returned (.bool true) ∧ Below w.heap.size w w' :=
  nameLong_walk a0 (bounds_i64 w0) w
end Go.Proofs.Ytbnfnajfllkjeaa

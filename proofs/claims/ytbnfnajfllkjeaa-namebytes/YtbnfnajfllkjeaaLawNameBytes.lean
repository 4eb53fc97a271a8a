/-
  NameBytes' walk.
-/
import Derived.Test.YtbnfnajfllkjeaaNameBegun
import Derived.Test.YtbnfnajfllkjeaaConv
namespace Go.Proofs.Ytbnfnajfllkjeaa
open Go.RowKit
set_option maxHeartbeats 2000000 in
set_option maxRecDepth 100000 in
theorem nameBytes_shell (a0 : Int) (a1 : Int) (w0 : (Lit.int .u8 a0).wf = true) (w1 : (Lit.int .u8 a1).wf = true) (w : World) :
    Calls Try.prog 4 #[.int .u8 a0, .int .u8 a1] w fun e w' => e = .returned (.bool true) ∧ Below w.heap.size w w' := by
  have hx0 := bounds_u8 w0
  have hx1 := bounds_u8 w1
  have hx : Byt [a0] := by
    intro z hz
    simp only [List.mem_cons, List.not_mem_nil, or_false] at hz
    omega
  have hy : Byt [a0, a1] := by
    intro z hz
    simp only [List.mem_cons, List.not_mem_nil, or_false] at hz
    omega
  have HV := fun w => (bts_alloc w [a0] (0, 0) hx (by simp)).conv
  have HU := fun w => (bts_alloc w [a0, a1] (0, 0) hy (by simp)).conv
  have hs1 : (strOfNums [a0]).size = 1 := by rw [strOfNums_size]; rfl
  have hs2 : (strOfNums [a0, a1]).size = 2 := by rw [strOfNums_size]; rfl
  generalize strOfNums [a0] = t at *
  generalize strOfNums [a0, a1] = u at *
  simp only [List.map_cons, List.map_nil, List.length_cons, List.length_nil, Nat.reduceAdd] at HV HU
  go_enter Try.func4, Try.ntmps4
  go_wp2_with fail
  refine (begun_any _).mono ?_
  rintro e W1 ⟨rfl, rfl⟩
  have hc1 := HV W1
  have hc2 := HU (W1.alloc (.cells #[.int .u8 a0] 5))
  have hc3 := HU ((W1.alloc (.cells #[.int .u8 a0] 5)).alloc (.cells #[.int .u8 a0, .int .u8 a1] 5))
  have hz1 : ∀ (w : World) (o : Obj), (w.alloc o).heap.size = w.heap.size + 1 := fun w o => by simp
  rw [hz1] at hc2
  rw [hz1, hz1] at hc3
  clear HV HU hz1
  have hb1 := below_alloc W1 (.cells #[.int .u8 a0] 5)
  obtain ⟨W2, hW2⟩ : ∃ W2, W1.alloc (.cells #[.int .u8 a0] 5) = W2 := ⟨_, rfl⟩
  have hb2 := below_alloc W2 (.cells #[.int .u8 a0, .int .u8 a1] 5)
  obtain ⟨W3, hW3⟩ : ∃ W3, W2.alloc (.cells #[.int .u8 a0, .int .u8 a1] 5) = W3 := ⟨_, rfl⟩
  have hb3 := below_alloc W3 (.cells #[.int .u8 a0, .int .u8 a1] 5)
  obtain ⟨W4, hW4⟩ : ∃ W4, W3.alloc (.cells #[.int .u8 a0, .int .u8 a1] 5) = W4 := ⟨_, rfl⟩
  have hL := lst_alloc W4 ([t, u, ⟨#[120]⟩ ++ u].map Value.string) 9 (0, 0) (by simp)
  have hb4 := below_alloc W4 (.cells ([t, u, ⟨#[120]⟩ ++ u].map Value.string).toArray 9 (0, 0))
  have hg4 : W4.heap.size = W1.heap.size + 1 + 1 + 1 := by rw [← hW4, ← hW3, ← hW2]; simp
  rw [hg4] at hL
  rw [hW2] at hb1
  rw [hW3] at hb2
  rw [hW4] at hb3
  have hB := below3 (below3 (below3 hb1 hb2) hb3) hb4
  rw [← hW4, ← hW3, ← hW2] at hL hB
  clear hb1 hb2 hb3 hb4 hg4 hW2 hW3 hW4
  have hxs : (⟨#[120]⟩ ++ u : ByteArray).size = 3 := by rw [ByteArray.size_append, hs2]; rfl
  generalize hx : (⟨#[120]⟩ ++ u : ByteArray) = x at *
  obtain ⟨b, off, cap, he, h1, h2, h3, h4⟩ := hL
  simp only [List.map_cons, List.map_nil, List.length_cons, List.length_nil, Nat.reduceAdd, Value.slice.injEq, Option.some.injEq, Addr.mk.injEq, true_and, and_true] at he
  obtain ⟨⟨rfl, rfl⟩, rfl⟩ := he
  simp only [List.map_cons, List.map_nil] at h3 h4 hB
  have H4 := hide h4
  clear h4
  go_wp2
  clear hc1 hc2 hc3
  generalize World.alloc (World.alloc (World.alloc (World.alloc W1 _) _) _) _ = W5 at *
  generalize W1.heap.size + 1 + 1 + 1 = g at *
  go_loopw [25] (fun ks wr => ∃ k : Nat, k ≤ 3 ∧ ks = .int .i64 k ∧ Below W5.heap.size W5 wr) (fun ks _ => 3 - (intOf ks).toNat)
  case atStart => exact ⟨0, by omega, rfl, Below.refl _ _⟩
  case round =>
    obtain ⟨k, hk, rfl, hbk⟩ := hrel
    by_cases hlt : k < 3
    · have hcell := unhide H4 k hlt
      rw [← hbk.cell (show (⟨g, 0 + k, none⟩ : Addr).block < W5.heap.size from h3)] at hcell
      obtain ⟨y, hy1, hy2⟩ : ∃ y, [Value.string t, Value.string u, Value.string x].getD k undef = .string y ∧ y.size ≤ 3 := by
        rcases (show k = 0 ∨ k = 1 ∨ k = 2 by omega) with rfl | rfl | rfl
        · exact ⟨t, rfl, by omega⟩
        · exact ⟨u, rfl, by omega⟩
        · exact ⟨x, rfl, by omega⟩
      rw [hy1, Nat.zero_add] at hcell
      clear H4 hy1
      have hyl : y.size ≤ maxLen := by unfold maxLen; omega
      have HI := hide (fun w => nIs_any y w hyl)
      have HJ := hide (fun w => rIs_any y w hyl)
      have HF := hide (fun w => nFile_any y w hyl)
      have HG := hide (fun w => rFileName_any y w hyl)
      generalize isN y = b1 at *
      generalize fileN y = b3 at *
      have hb1 : (b1 != b1) = false := by cases b1 <;> rfl
      have hb3 : (b3 != b3) = false := by cases b3 <;> rfl
      go_wp2_with fail
      refine (unhide HI _).mono ?_
      rintro e W6 ⟨rfl, rfl⟩
      go_wp2_with fail
      refine (unhide HJ _).mono ?_
      rintro e W7 ⟨rfl, hw7⟩
      go_wp2_with fail
      refine (unhide HF _).mono ?_
      rintro e W7' ⟨rfl, rfl⟩
      go_wp2_with fail
      refine (unhide HG _).mono ?_
      rintro e W7'' ⟨rfl, rfl⟩
      go_wp2
      go_roundw
      case rel => exact ⟨k + 1, by omega, by go_num, below3 hbk hw7⟩
      case measure => simp [intOf]; omega
    · obtain rfl : k = 3 := by omega
      clear H4
      go_wp2
      go_ret
      exact ⟨rfl, below3 hB hbk⟩
end Go.Proofs.Ytbnfnajfllkjeaa

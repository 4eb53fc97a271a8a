/-
  The pile's Pop; container/heap's Push and Pop.
-/
import Derived.Test.YtpjpghigilbfaaaHpQueue
namespace Go.Proofs.Ytpjpghigilbfaaa
open Go.RowKit Go.Lib Go.Sort
set_option linter.unusedSimpArgs false
set_option linter.unusedVariables false
theorem Kept.alloc {w w1 : World} {b : Nat} {r : Option Nat} (h : Kept w w1 b r) (o : Obj) : Kept w (w1.alloc o) b r :=
  ⟨h.os, h.tape, h.output, by simp; exact Nat.le_succ_of_le h.size, fun k hk hb hr => by rw [Below.heap_alloc _ _ _ (Nat.lt_of_lt_of_le hk h.size)]; exact h.block k hk hb hr⟩
theorem Kept.more {w w1 w2 : World} {b g : Nat} {r : Option Nat} (h : Kept w w1 b r) (k : w1.grownBy w2 (some g)) (hr : r = some g ∨ w.heap.size ≤ g) : Kept w w2 b r :=
  ⟨k.os.trans h.os, k.tape.trans h.tape, k.output.trans h.output, Nat.le_trans h.size k.size, fun i hi hb hne => by
    rw [k.block i (Nat.lt_of_lt_of_le hi h.size) (fun e => by
      injection e with e
      rcases hr with hr | hr
      · exact hne (by rw [hr, e])
      · omega)]
    exact h.block i hi hb hne⟩
theorem Kept.trans {w w1 w2 : World} {b : Nat} {r : Option Nat} (h : Kept w w1 b r) (k : Kept w1 w2 b r) : Kept w w2 b r :=
  ⟨k.os.trans h.os, k.tape.trans h.tape, k.output.trans h.output, Nat.le_trans h.size k.size, fun i hi hb hne => (k.block i (Nat.lt_of_lt_of_le hi h.size) hb hne).trans (h.block i hi hb hne)⟩
theorem Kept.pre {w w1 w2 : World} {b : Nat} {r : Option Nat} (h : w.grownBy w1 none) (k : Kept w1 w2 b r) : Kept w w2 b r :=
  ⟨k.os.trans h.os, k.tape.trans h.tape, k.output.trans h.output, Nat.le_trans h.size k.size, fun i hi hb hne => (k.block i (Nat.lt_of_lt_of_le hi h.size) hb hne).trans (h.block i hi (by simp))⟩
set_option maxHeartbeats 2000000 in
set_option maxRecDepth 100000 in
theorem pop_any (b g cap n : Nat) (H : List Ed) (w : World) (hp : PileAt w b (.slice (some ⟨g, 0, none⟩) (n + 1) cap)) (hr : RowE w g cap H) (hbg : b ≠ g) (hl : H.length = n + 1) (hn : n ≤ 1000) :
    Calls Try.prog 73 #[.pointer (some ⟨b, 0, none⟩)] w fun x w' => ∃ y, x = .returned y ∧ PileAt w' b (.slice (some ⟨g, 0, none⟩) n cap) ∧ RowE w' g cap (H.take n) ∧ Kept w w' b (some g) := by
  have hpc := hp.cell
  have hpf : w.frozen? ⟨b, 0, none⟩ = false := Joins.unfrozen_of_block hp 0
  obtain ⟨x0, x1, x2⟩ := hr.at n (by omega)
  have f0 := hr.frozen (n * 3)
  have f1 := hr.frozen (n * 3 + 1)
  have f2 := hr.frozen (n * 3 + 2)
  have hroom := hr.room
  rw [hl] at hroom
  unfold maxLen at hroom
  have hlt := hr.lt
  have hbl := hp.lt
  generalize H.getD n ed0 = E at *
  obtain ⟨ep, en, es⟩ := E
  dsimp only at *
  have hr' := hide hr
  have hp' := hide hp
  clear hr hp
  have hgb : ¬ g = b := fun h => hbg h.symm
  go_enter Try.func73, Try.ntmps73
  have hX : Hid (RowE (((w.setCell ⟨g, n * 3, none⟩ (.int .i64 0)).setCell ⟨g, n * 3 + 1, none⟩ (.int .i64 0)).setCell ⟨g, n * 3 + 2, none⟩ (.string ⟨#[]⟩)) g cap (H.set n ed0) ∧ w.grownBy (((w.setCell ⟨g, n * 3, none⟩ (.int .i64 0)).setCell ⟨g, n * 3 + 1, none⟩ (.int .i64 0)).setCell ⟨g, n * 3 + 2, none⟩ (.string ⟨#[]⟩)) (some g)) := hide ⟨by
    have := (unhide hr').set n ed0 (by omega)
    simp only [Ed.cells, World.setCells, ed0, Nat.add_assoc, Nat.reduceAdd] at this
    exact this, ((grown_set w g _ _).trans1 (grown_set _ g _ _)).trans1 (grown_set _ g _ _)⟩
  go_wp2
  go_ret
  generalize ((w.setCell ⟨g, n * 3, none⟩ (.int .i64 0)).setCell ⟨g, n * 3 + 1, none⟩ (.int .i64 0)).setCell ⟨g, n * 3 + 2, none⟩ (.string ⟨#[]⟩) = X at *
  obtain ⟨hX1, hX2⟩ := unhide hX
  have hpX := (unhide hp').kept hX2 hbg
  refine ⟨_, rfl, ?_, ?_, ?_⟩
  · refine PileAt.kept0 (w := X.setCell ⟨b, 0, none⟩ (.slice (some ⟨g, 0, none⟩) n cap)) ?_ (grown_alloc _ _ none) (by simp)
    have := Joins.block_setCell (i := 0) hpX (.slice (some ⟨g, 0, none⟩) n cap)
    exact this
  · have h1 := (hX1.other hgb (.slice (some ⟨g, 0, none⟩) n cap)).take n
    rw [List.take_set_of_le (Nat.le_refl n)] at h1
    exact h1.below ((Below.refl _ _).alloc (Nat.le_refl _) _)
  · exact ((kept_of (b := b) hX2).set 0 _).alloc _
set_option maxHeartbeats 2000000 in
set_option maxRecDepth 100000 in
theorem heapPush_any (b : Nat) (v : Value) (H : List Ed) (e : Ed) (w : World) (h : Que w b v H) (hl : H.length ≤ 900) :
    Calls Try.prog 18 #[.iface 48 (.pointer (some ⟨b, 0, none⟩)), .iface 29 (.agg #[.int .i64 e.p, .int .i64 e.n, .string e.s])] w fun x w' => x = .returned (.tuple #[]) ∧ ∃ (v' : Value) (H' : List Ed), Que w' b v' H' ∧ H'.Perm (e :: H) ∧ Kept w w' b v.ownBlock ∧ (v'.ownBlock = v.ownBlock ∨ ∀ k, v'.ownBlock = some k → w.heap.size ≤ k) := by
  have hP := hide (push_any b v H e w h hl)
  have hm := meth_push b w
  have hh := hide h.2.2
  replace h := hide h
  go_enter Try.func18, Try.ntmps18
  go_wp2_with fail
  refine (unhide hP).mono ?_
  rintro x W1 ⟨rfl, g, cap, hp1, hr1, hbg, hk1, hat⟩
  have hll : (H ++ [e]).length = H.length + 1 := by simp
  have hm1 := meth_len b _ _ _ _ hp1.cell
  have hL := hide (pileLen_any (some ⟨g, 0, none⟩) (H.length + 1) cap W1)
  have hU := hide (up_any b g cap H.length (H ++ [e]) W1 (by rw [hll]; exact hp1) hr1 (by omega) (by rw [hll]; omega) (by rw [hll]; omega) (up_start (unhide hh) e))
  replace hr1 := hide hr1
  replace hk1 := hide hk1
  replace hp1 := hide hp1
  clear hm
  go_wp2_with fail
  refine (unhide hL).mono ?_
  rintro x W2 ⟨rfl, rfl⟩
  go_wp2_with fail
  refine (unhide hU).mono ?_
  rintro x W3 ⟨rfl, H', hpm, hhp, hr3, hg3⟩
  go_wp2
  go_end0
  have hl3 : H'.length = H.length + 1 := by rw [hpm.length_eq, hll]
  refine ⟨rfl, .slice (some ⟨g, 0, none⟩) (H.length + 1) cap, H', ⟨(unhide hp1).kept hg3 (by omega), ?_, hhp⟩, hpm.trans (List.perm_append_comm (l₁ := H) (l₂ := [e])), ?_, ?_⟩
  · have := hr3.own (base := b + 1) hbg
    rwa [hl3] at this
  · exact (unhide hk1).more hg3 hat
  · rcases hat with h | h
    · left; rw [h]; rfl
    · right
      intro k hk
      obtain rfl : g = k := by simpa [Value.ownBlock] using hk
      exact h
theorem take_last {H : List Ed} {n : Nat} (hl : H.length = n + 1) : (at0 H n :: H.take n).Perm H := by
  have e : H = H.take n ++ [at0 H n] := by
    conv => lhs; rw [← List.take_append_drop n H]
    congr 1
    rw [List.drop_eq_getElem_cons (by omega), List.drop_eq_nil_of_le (by omega)]
    simp [at0, List.getD, show n < H.length by omega]
  conv => rhs; rw [e]
  exact (List.perm_append_comm (l₁ := H.take n) (l₂ := [at0 H n])).symm
set_option maxHeartbeats 2000000 in
set_option maxRecDepth 100000 in
theorem heapPop_any (b n : Nat) (v : Value) (H : List Ed) (w : World) (h : Que w b v H) (hl : H.length = n + 1) (hn : n ≤ 900) :
    Calls Try.prog 20 #[.iface 48 (.pointer (some ⟨b, 0, none⟩))] w fun x w' => ∃ y, x = .returned y ∧ ∃ (v' : Value) (H' : List Ed), Que w' b v' H' ∧ (at0 H 0 :: H').Perm H ∧ Kept w w' b v.ownBlock ∧ v'.ownBlock = v.ownBlock := by
  obtain ⟨hp, ho, hh⟩ := h
  rw [hl] at hh
  obtain ⟨g, cap, rfl, hbg, hr⟩ : ∃ g cap, v = .slice (some ⟨g, 0, none⟩) (n + 1) cap ∧ b + 1 ≤ g ∧ RowE w g cap H := by
    rcases ho.forms with ⟨_, h0⟩ | ⟨g, cap, h1, h2, h3⟩
    · rw [h0] at hl; simp at hl
    · exact ⟨g, cap, by rw [h1, hl], h2, h3⟩
  have hm1 := meth_len b _ _ _ _ hp.cell
  have hm2 := meth_swap b _ _ _ _ hp.cell
  have hL := hide (pileLen_any (some ⟨g, 0, none⟩) (n + 1) cap w)
  have hS := hide (pileSwap_any g cap 0 n H w hr (by omega) (by omega))
  rw [hl] at hS
  replace hr := hide hr
  replace ho := hide ho
  go_enter Try.func20, Try.ntmps20
  go_wp2_with fail
  refine (unhide hL).mono ?_
  rintro x W0 ⟨rfl, rfl⟩
  go_wp2_with fail
  refine (unhide hS).mono ?_
  rintro x W1 ⟨rfl, hr1, hg1⟩
  have hp1 := hp.kept hg1 (by omega)
  have hl1 : (swpL H 0 n).length = n + 1 := by rw [swpL_len, hl]
  have hD := hide (down_any b g cap n (swpL H 0 n) W1 (by rw [hl1]; exact hp1) hr1 (by omega) (by omega) (by omega) (dn_start hh hl))
  replace hr1 := hide hr1
  replace hp1 := hide hp1
  replace hp := hide hp
  clear hm1 hm2
  go_wp2_with fail
  refine (unhide hD).mono ?_
  rintro x W2 ⟨z, rfl, H2, hl2, hpm2, hh2, hk2, hr2, hg2⟩
  rw [hl1] at hl2
  have hp2 := (unhide hp1).kept hg2 (by omega)
  have hP := hide (pop_any b g cap n H2 W2 hp2 hr2 (by omega) hl2 (by omega))
  have hm3 := meth_pop b W2
  replace hr2 := hide hr2
  replace hp2 := hide hp2
  go_wp2_with fail
  refine (unhide hP).mono ?_
  rintro x W3 ⟨y, rfl, hp3, hr3, hk3⟩
  go_wp2
  go_ret
  have hlt : (H2.take n).length = n := by simp; omega
  refine ⟨_, rfl, .slice (some ⟨g, 0, none⟩) n cap, H2.take n, ⟨hp3, ?_, ?_⟩, ?_, ?_, rfl⟩
  · have := hr3.own (base := b + 1) hbg
    rwa [hlt] at this
  · rw [hlt]; exact heap_take hh2 (Nat.le_refl n)
  · have h0 : at0 H2 n = at0 H 0 := by
      rw [hk2 n (Nat.le_refl n), at0_swp H 0 n n (by omega) (by omega), if_pos rfl]
    rw [← h0]
    exact (take_last hl2).trans (hpm2.trans (swp_perm H 0 n (by omega) (by omega)))
  · exact ((kept_of (b := b) hg1).trans (kept_of hg2)).trans hk3
end Go.Proofs.Ytpjpghigilbfaaa

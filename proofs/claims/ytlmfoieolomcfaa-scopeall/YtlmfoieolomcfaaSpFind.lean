/-
  Scopes: Find, Here.
-/
import Derived.Test.YtlmfoieolomcfaaSpRead
import Derived.WalkSmall
namespace Go.Proofs.Ytlmfoieolomcfaa
open Go.RowKit Go.Maps Go.Lib Go.WideMaps
set_option linter.unusedSimpArgs false
set_option linter.unusedVariables false
theorem ownsRow_keep {w w' : World} {B : Nat} {e : TypeId} {sz : Nat} {v : Value} {n : Nat} {xs : List Value} (h : w.ownsRow B e sz v n xs) (hb : ∀ k, v.ownBlock = some k → w'.heap[k]? = w.heap[k]?) : w'.ownsRow B e sz v n xs := by
  refine ⟨h.1, ?_⟩
  rcases h.2 with h1 | ⟨g, cap, cur, rfl, h1, h2, h3⟩
  · exact .inl h1
  · exact .inr ⟨g, cap, cur, rfl, h1, (hb g rfl).trans h2, h3⟩
/-- The scopes' own blocks stay: the scopes stay. -/
theorem ScW.keep {w w' : World} {g : Nat} {S : Nat → Prop} {es : List En} {bs : List Nat} {ve vb : Value} {mo : Option Nat} {q : Nat} (h : ScW w g S es bs ve vb mo q) (hs : w.heap.size ≤ w'.heap.size) (hb : ∀ k, S k → w'.heap[k]? = w.heap[k]?) : ScW w' g S es bs ve vb mo q where
  blk := (hb g h.sg).trans h.blk
  ens := ownsRow_keep h.ens fun k hk => hb k (h.se k hk)
  bgs := ownsRow_keep h.bgs fun k hk => hb k (h.sb k hk)
  map := by
    have hm := h.map
    have hsm := h.sm
    cases mo with
    | none =>
      simp only [MapOk] at hm ⊢
      exact hm
    | some b =>
      simp only [MapOk] at hm ⊢
      obtain ⟨h1, m, h2, h3⟩ := hm
      exact ⟨h1, m, h2.kept (hb b (hsm b rfl)), h3⟩
  sg := h.sg
  se := h.se
  sb := h.sb
  sm := h.sm
  lt := fun k hk => Nat.lt_of_lt_of_le (h.lt k hk) hs
  inv := h.inv
  few := h.few
  nm := h.nm
theorem ScW.below {w w' : World} {g : Nat} {S : Nat → Prop} {es : List En} {bs : List Nat} {ve vb : Value} {mo : Option Nat} {q : Nat} (h : ScW w g S es bs ve vb mo q) (hb : Below w.heap.size w w') : ScW w' g S es bs ve vb mo q :=
  h.keep hb.size fun k hk => hb.block k (h.lt k hk)
def DBlk (w : World) (b : Nat) (f t k : Int) : Prop := w.heap[b]? = some (.cells #[.int .i64 f, .int .i64 t, .int .i64 k] 34 (0, 0))
theorem DBlk.cells {w : World} {b : Nat} {f t k : Int} (h : DBlk w b f t k) : w.cell? ⟨b, 0, none⟩ = some (.int .i64 f) ∧ w.cell? ⟨b, 1, none⟩ = some (.int .i64 t) ∧ w.cell? ⟨b, 2, none⟩ = some (.int .i64 k) := by
  unfold DBlk at h
  refine ⟨?_, ?_, ?_⟩ <;> simp [World.cell?, h]
theorem DBlk.fr {w : World} {b : Nat} {f t k : Int} (h : DBlk w b f t k) (o : Nat) : w.frozen? ⟨b, o, none⟩ = false := Joins.unfrozen_of_block h o
theorem DBlk.set3 {w : World} {b : Nat} {f t k : Int} (h : DBlk w b f t k) (f' t' k' : Int) : DBlk (((w.setCell ⟨b, 0, none⟩ (.int .i64 f')).setCell ⟨b, 1, none⟩ (.int .i64 t')).setCell ⟨b, 2, none⟩ (.int .i64 k')) b f' t' k' := by
  have := Joins.block_setCell (i := 2) (Joins.block_setCell (i := 1) (Joins.block_setCell (i := 0) h (.int .i64 f')) (.int .i64 t')) (.int .i64 k')
  exact this
theorem below_set3d {B x : Nat} {a w : World} {f' t' k' : Int} (h : Below B a w) (hx : B ≤ x) : Below B a (((w.setCell ⟨x, 0, none⟩ (.int .i64 f')).setCell ⟨x, 1, none⟩ (.int .i64 t')).setCell ⟨x, 2, none⟩ (.int .i64 k')) :=
  ((h.setCell (p := ⟨x, 0, none⟩) hx _).setCell (p := ⟨x, 1, none⟩) hx _).setCell (p := ⟨x, 2, none⟩) hx _
theorem fnd_some {s : ByteArray} {es : List En} {lo : Int} (h0 : 0 ≤ plc s es) (h1 : lo ≤ plc s es) : ∃ (i : Nat) (hi : i < es.length), plc s es = i ∧ fnd s es lo = some es[i] := by
  have hp := plc_lt s es
  refine ⟨(plc s es).toNat, by omega, by omega, ?_⟩
  unfold fnd
  rw [if_pos ⟨h0, h1⟩, List.getElem?_eq_getElem]
theorem fnd_none {s : ByteArray} {es : List En} {lo : Int} (h0 : ¬ (0 ≤ plc s es ∧ lo ≤ plc s es)) : fnd s es lo = none := if_neg h0
set_option maxHeartbeats 1000000 in
theorem find_any {w : World} {g : Nat} {S : Nat → Prop} {es : List En} {bs : List Nat} {ve vb : Value} {mo : Option Nat} {q : Nat} (h : ScW w g S es bs ve vb mo q) (s : ByteArray) (hs : s.size ≤ 1000) (hq : q ≤ 1000) :
    Calls Try.prog 13 #[.pointer (some ⟨g, 0, none⟩), .string s] w fun e w' => e = .returned (fndV (fnd s es 0)) ∧ Below w.heap.size w w' := by
  have hb0 := below_alloc w (.cells #[.int .i64 0, .int .i64 0, .int .i64 0] 34 (0, 0))
  have hD : DBlk (w.alloc (.cells #[.int .i64 0, .int .i64 0, .int .i64 0] 34 (0, 0))) w.heap.size 0 0 0 := heap_alloc_new w _
  have h1 := h.below hb0
  have hP := place_any h1 s hs
  have h2 := h1.c0
  have hl := h.few.1
  obtain ⟨hd0, hd1, hd2⟩ := hD.cells
  have hf := hD.fr
  have hfin := fun f t k => (hD.set3 f t k).cells
  have hbf := fun f t k => below_set3d (f' := f) (t' := t) (k' := k) hb0 (Nat.le_refl _)
  by_cases h0 : 0 ≤ plc s es
  · obtain ⟨i, hi, hpi, hfi⟩ := fnd_some h0 h0
    rw [hpi] at hP
    have hfi0 : fnd s es 0 = some es[i] := by
      obtain ⟨j, hj, hpj, hfj⟩ := fnd_some h0 h0
      unfold fnd at hfi ⊢
      rw [if_pos ⟨h0, h0⟩] at hfi
      rw [if_pos ⟨h0, h0⟩]
      exact hfi
    rw [hfi0]
    obtain ⟨z, c, rfl, hz1, hz2, hz3, hz4, e0, e1, e2, e3, e4⟩ := En.at h1.ens i hi
    generalize es[i] = E at *
    obtain ⟨en, ef, et, ek, eo⟩ := E
    dsimp only [fndV] at *
    unfold maxLen at hz4
    generalize hq_W : w.alloc (.cells #[.int .i64 0, .int .i64 0, .int .i64 0] 34 (0, 0)) = W at *
    have f0 := hf 0
    have f1 := hf 1
    have f2 := hf 2
    replace hP := hide hP
    replace hfin := hide hfin
    replace hbf := hide hbf
    clear h h1 hD hf hpi hfi hfi0 hb0 h0
    go_enter Try.func13, Try.ntmps13
    go_wp2_with fail
    refine (unhide hP).mono ?_
    rintro e w1 ⟨rfl, rfl⟩
    have hlz : (i : Int) < es.length := by omega
    go_wp2
    obtain ⟨u0, u1, u2⟩ := unhide hfin ef et ek
    refine bodyPost_ret (v := .tuple #[.agg #[.int .i64 ef, .int .i64 et, .int .i64 ek], .bool true]) (by simp [results, Try.results13, go_sem, u0, u1, u2]) rfl ⟨rfl, unhide hbf _ _ _⟩
  · rw [fnd_none (by omega)]
    dsimp only [fndV] at *
    generalize hq_W : w.alloc (.cells #[.int .i64 0, .int .i64 0, .int .i64 0] 34 (0, 0)) = W at *
    have f0 := hf 0
    have f1 := hf 1
    have f2 := hf 2
    have hlz : plc s es < 0 := by omega
    generalize plc s es = P at *
    replace hP := hide hP
    replace hfin := hide hfin
    replace hbf := hide hbf
    clear h h1 hD hf hb0 h0
    go_enter Try.func13, Try.ntmps13
    go_wp2_with fail
    refine (unhide hP).mono ?_
    rintro e w1 ⟨rfl, rfl⟩
    go_wp2
    obtain ⟨u0, u1, u2⟩ := unhide hfin 0 0 0
    refine bodyPost_ret (v := .tuple #[.agg #[.int .i64 0, .int .i64 0, .int .i64 0], .bool false]) (by simp [results, Try.results13, go_sem, u0, u1, u2]) rfl ⟨rfl, unhide hbf _ _ _⟩
set_option maxHeartbeats 1000000 in
theorem here_any {w : World} {g : Nat} {S : Nat → Prop} {es : List En} {bs : List Nat} {ve vb : Value} {mo : Option Nat} {q : Nat} (h : ScW w g S es bs ve vb mo q) (s : ByteArray) (hs : s.size ≤ 1000) (hq : q ≤ 1000) :
    Calls Try.prog 14 #[.pointer (some ⟨g, 0, none⟩), .string s] w fun e w' => e = .returned (fndV (fnd s es (beg bs))) ∧ Below w.heap.size w w' := by
  have hb0 := below_alloc w (.cells #[.int .i64 0, .int .i64 0, .int .i64 0] 34 (0, 0))
  have hD : DBlk (w.alloc (.cells #[.int .i64 0, .int .i64 0, .int .i64 0] 34 (0, 0))) w.heap.size 0 0 0 := heap_alloc_new w _
  have h1 := h.below hb0
  have hP := place_any h1 s hs
  have hG := begin_any h1 hq
  have h2 := h1.c0
  have hl := h.few.1
  obtain ⟨hd0, hd1, hd2⟩ := hD.cells
  have hf := hD.fr
  have hfin : ∀ n f t k, _ := fun n f t k => (DBlk.set3 (w := (w.alloc (.cells #[.int .i64 0, .int .i64 0, .int .i64 0] 34 (0, 0))).drewN n) hD f t k).cells
  have hbf : ∀ n f t k, _ := fun n f t k => below_set3d (f' := f) (t' := t) (k' := k) (below_drewN hb0 n) (Nat.le_refl _)
  have hfin0 := fun f t k => (hD.set3 f t k).cells
  have hbf0 := fun f t k => below_set3d (f' := f) (t' := t) (k' := k) hb0 (Nat.le_refl _)
  by_cases h0 : 0 ≤ plc s es
  · obtain ⟨i, hi, hpi, _⟩ := fnd_some h0 h0
    by_cases h3 : (beg bs : Int) ≤ plc s es
    · obtain ⟨j, hj, hpj, hfj⟩ := fnd_some h0 h3
      have hji : j = i := by omega
      subst hji
      rw [hfj]
      rw [hpi] at hP
      obtain ⟨z, c, rfl, hz1, hz2, hz3, hz4, e0, e1, e2, e3, e4⟩ := En.at h1.ens j hi
      generalize es[j] = E at *
      obtain ⟨en, ef, et, ek, eo⟩ := E
      dsimp only [fndV] at *
      unfold maxLen at hz4
      generalize hq_W : w.alloc (.cells #[.int .i64 0, .int .i64 0, .int .i64 0] 34 (0, 0)) = W at *
      have f0 := hf 0
      have f1 := hf 1
      have f2 := hf 2
      have hlz : (j : Int) < es.length := by omega
      have hlb : ¬ (j : Int) < beg bs := by omega
      replace hP := hide hP
      replace hG := hide hG
      replace hfin := hide hfin
      replace hbf := hide hbf
      clear hfin0 hbf0 h h1 hD hf hpi hpj hfj hb0 h0 h3
      go_enter Try.func14, Try.ntmps14
      go_wp2_with fail
      refine (unhide hP).mono ?_
      rintro e w1 ⟨rfl, rfl⟩
      go_wp2_with fail
      refine (unhide hG).mono ?_
      rintro e w2 ⟨rfl, n, rfl⟩
      go_wp2
      obtain ⟨u0, u1, u2⟩ := unhide hfin n ef et ek
      refine bodyPost_ret (v := .tuple #[.agg #[.int .i64 ef, .int .i64 et, .int .i64 ek], .bool true]) (by simp [results, Try.results14, go_sem, u0, u1, u2]) rfl ⟨rfl, unhide hbf _ _ _ _⟩
    · rw [fnd_none (by omega)]
      dsimp only [fndV] at *
      generalize hq_W : w.alloc (.cells #[.int .i64 0, .int .i64 0, .int .i64 0] 34 (0, 0)) = W at *
      have f0 := hf 0
      have f1 := hf 1
      have f2 := hf 2
      have hlz : ¬ plc s es < 0 := by omega
      have hlb : plc s es < beg bs := by omega
      generalize plc s es = P at *
      replace hP := hide hP
      replace hG := hide hG
      replace hfin := hide hfin
      replace hbf := hide hbf
      clear hfin0 hbf0 h h1 hD hf hb0 h0 h3 hpi
      go_enter Try.func14, Try.ntmps14
      go_wp2_with fail
      refine (unhide hP).mono ?_
      rintro e w1 ⟨rfl, rfl⟩
      go_wp2_with fail
      refine (unhide hG).mono ?_
      rintro e w2 ⟨rfl, n, rfl⟩
      go_wp2
      obtain ⟨u0, u1, u2⟩ := unhide hfin n 0 0 0
      refine bodyPost_ret (v := .tuple #[.agg #[.int .i64 0, .int .i64 0, .int .i64 0], .bool false]) (by simp [results, Try.results14, go_sem, u0, u1, u2]) rfl ⟨rfl, unhide hbf _ _ _ _⟩
  · rw [fnd_none (by omega)]
    dsimp only [fndV] at *
    generalize hq_W : w.alloc (.cells #[.int .i64 0, .int .i64 0, .int .i64 0] 34 (0, 0)) = W at *
    have f0 := hf 0
    have f1 := hf 1
    have f2 := hf 2
    have hlz : plc s es < 0 := by omega
    generalize plc s es = P at *
    replace hP := hide hP
    replace hfin := hide hfin0
    replace hbf := hide hbf0
    clear h h1 hD hf hb0 h0 hG hfin0 hbf0
    go_enter Try.func14, Try.ntmps14
    go_wp2_with fail
    refine (unhide hP).mono ?_
    rintro e w1 ⟨rfl, rfl⟩
    go_wp2
    obtain ⟨u0, u1, u2⟩ := unhide hfin 0 0 0
    refine bodyPost_ret (v := .tuple #[.agg #[.int .i64 0, .int .i64 0, .int .i64 0], .bool false]) (by simp [results, Try.results14, go_sem, u0, u1, u2]) rfl ⟨rfl, unhide hbf _ _ _⟩
end Go.Proofs.Ytlmfoieolomcfaa

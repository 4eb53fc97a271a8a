/-
  Scopes: the map turned; Add.
-/
import Derived.Test.YtlmfoieolomcfaaSpPush
namespace Go.Proofs.Ytlmfoieolomcfaa
open Go.RowKit Go.Maps Go.Lib Go.WideMaps
set_option linter.unusedSimpArgs false
set_option linter.unusedVariables false
theorem wf_i (n : Int) (h0 : -1 ≤ n) (h1 : n ≤ 1000000) : (Lit.int .i64 n).wf = true := WalkArith.wf_i64 (by omega)
theorem MapF.put {w : World} {b m : Nat} {f : ByteArray → Int} (h : MapF w b m f) (s : ByteArray) (hs : s.size ≤ 1000) (n : Int) (h0 : 0 ≤ n) (h1 : n ≤ 1000000) (hm : m ≤ 1000000) :
    ∃ w', (Instr.mapUpdate 46 (.map (some b)) (.string s) (.int .i64 n)).run Try.prog w = .ok () w' ∧ MapF w' b (m + 1) (fun t => if s = t then n else f t) ∧ w.grownBy w' (some b) := by
  obtain ⟨D, hD, hf⟩ := h
  have hkey : keyOf Try.prog 9 (.string s) = some (keyL s) := keyOf_string_mk Try.underlying9 (by unfold maxLen; omega)
  obtain ⟨w', r1, r2, r3⟩ := hD.update sp_law Try.underlying46 (by unfold maxLen; omega) hkey (plainElem_int Try.underlying3 (wf_i n (by omega) h1))
  obtain ⟨F, hF⟩ : ∃ F : ByteArray → Int, F = fun t => if s = t then n else f t := ⟨_, rfl⟩
  rw [← hF]
  refine ⟨w', r1, ⟨_, r2, fun t ht => ?_⟩, r3⟩
  by_cases he : s = t
  · subst he
    have e : F s = n := by rw [hF]; simp
    rw [e]
    exact ⟨by rw [has_put_same hD.isMap (keyL_is s)]; simp [h0], fun _ z => atKey_put_same hD.isMap (keyL_is s) _ z⟩
  · have e : F t = f t := by rw [hF]; simp [he]
    rw [e]
    have hne : keyL t ≠ keyL s := keyL_ne (fun e => he e.symm)
    obtain ⟨g1, g2⟩ := hf t ht
    exact ⟨by rw [has_put_other hne]; exact g1, fun h2 z => by rw [atKey_put_other hne]; exact g2 h2 z⟩
theorem MapF.del {w : World} {b m : Nat} {f : ByteArray → Int} (h : MapF w b m f) (s : ByteArray) (hs : s.size ≤ 1000) (n : Int) (h0 : n < 0) (ty : TypeId) :
    ∃ w', (Builtin.delete_ #[46, 9] ty #[.map (some b), .string s]).run Try.prog w = .ok (.tuple #[]) w' ∧ MapF w' b (m + 1) (fun t => if s = t then n else f t) ∧ w.grownBy w' (some b) := by
  obtain ⟨D, hD, hf⟩ := h
  have hkey : keyOf Try.prog 9 (.string s) = some (keyL s) := keyOf_string_mk Try.underlying9 (by unfold maxLen; omega)
  obtain ⟨w', r1, r2, r3⟩ := hD.drop sp_law Try.underlying46 hkey ty
  obtain ⟨F, hF⟩ : ∃ F : ByteArray → Int, F = fun t => if s = t then n else f t := ⟨_, rfl⟩
  rw [← hF]
  refine ⟨w', r1, ⟨_, r2.mono (Nat.le_succ m), fun t ht => ?_⟩, r3.grown⟩
  by_cases he : s = t
  · subst he
    have e : F s = n := by rw [hF]; simp
    rw [e]
    exact ⟨by rw [has_del_same]; simp; omega, fun h2 => by omega⟩
  · have e : F t = f t := by rw [hF]; simp [he]
    rw [e]
    have hne : keyL t ≠ keyL s := keyL_ne (fun e => he e.symm)
    obtain ⟨g1, g2⟩ := hf t ht
    exact ⟨by rw [has_del_other hne]; exact g1, fun h2 z => by rw [atKey_del_other hne]; exact g2 h2 z⟩
theorem wp_mapPut {w : World} {o : Oper} {a : Act} {K : Act → World → Prop} {Q : Exit → Act → World → Prop} {b m : Nat} {f : ByteArray → Int} (x y v : Operand) (ho : o.op = Op.mapUpdate 46 x y v)
    (hx : a.eval x = .map (some b)) (s : ByteArray) (hy : a.eval y = .string s) (n : Int) (hv : a.eval v = .int .i64 n) (h : MapF w b m f) (hs : s.size ≤ 1000) (h0 : 0 ≤ n) (h1 : n ≤ 1000000) (hm : m ≤ 1000000)
    (hK : ∀ w', MapF w' b (m + 1) (fun t => if s = t then n else f t) → w.grownBy w' (some b) → K (a.put o.dst undef) w') : o.wp Try.prog a w K Q := by
  obtain ⟨w', r1, r2, r3⟩ := h.put s hs n h0 h1 hm
  unfold Oper.wp
  simp [execOp, ho, hx, hy, hv, r1, Result.andThen]
  exact hK w' r2 r3
theorem wp_mapDel {w : World} {o : Oper} {a : Act} {K : Act → World → Prop} {Q : Exit → Act → World → Prop} {b m : Nat} {f : ByteArray → Int} (x y : Operand) (ho : o.op = Op.call { callee := Callee.builtin Builtin.delete, args := #[x, y], argTypes := #[46, 9] })
    (hx : a.eval x = .map (some b)) (s : ByteArray) (hy : a.eval y = .string s) (n : Int) (h : MapF w b m f) (hs : s.size ≤ 1000) (h0 : n < 0)
    (hK : ∀ w', MapF w' b (m + 1) (fun t => if s = t then n else f t) → w.grownBy w' (some b) → K (a.put o.dst (.tuple #[])) w') : o.wp Try.prog a w K Q := by
  obtain ⟨w', r1, r2, r3⟩ := h.del (m := m) s hs n h0 o.type
  unfold Oper.wp
  simp [execOp, ho, resolve, invoke, builtin, hx, hy, r1, Result.andThen]
  exact hK w' r2 r3
/-- The scopes turned: what they are made of lies in the blocks they had, or in new ones. -/
theorem ScW.turn {w w2 : World} {g : Nat} {S : Nat → Prop} {es es' : List En} {bs bs' : List Nat} {ve vb ve' vb' : Value} {mo mo' : Option Nat} {q q' : Nat} (h : ScW w g S es bs ve vb mo q) (hs : w.heap.size ≤ w2.heap.size) (hb : Blk3 w2 g ve' vb' mo') (he : OwnEn w2 (g + 1) ve' es') (hg : OwnB w2 (g + 1) vb' bs')
    (hm : MapOk w2 g mo' es' q')
    (i1 : ∀ k, ve'.ownBlock = some k → S k ∨ w.heap.size ≤ k) (i2 : ∀ k, vb'.ownBlock = some k → S k ∨ w.heap.size ≤ k) (i3 : ∀ k, mo' = some k → S k ∨ w.heap.size ≤ k) (hi : Inv es' bs') (hf : es'.length ≤ q' ∧ bs'.length ≤ q') (hn : ∀ e ∈ es', e.n.size ≤ 1000) :
    ∃ S', ScW w2 g S' es' bs' ve' vb' mo' q' ∧ (∀ x, S' x → S x ∨ w.heap.size ≤ x) := by
  refine ⟨fun x => (S x ∨ ve'.ownBlock = some x ∨ vb'.ownBlock = some x ∨ mo' = some x) ∧ x < w2.heap.size, ⟨hb, he, hg, hm, ⟨.inl h.sg, hb.lt⟩, fun k hk => ⟨.inr (.inl hk), ?_⟩, fun k hk => ⟨.inr (.inr (.inl hk)), ?_⟩, fun k hk => ⟨.inr (.inr (.inr hk)), ?_⟩, fun k hk => hk.2, hi, hf, hn⟩, fun x hx => ?_⟩
  · obtain ⟨_, cur, e1⟩ := own_blk he hk
    exact (Array.getElem?_eq_some_iff.1 e1).1
  · obtain ⟨_, cur, e1⟩ := own_blk hg hk
    exact (Array.getElem?_eq_some_iff.1 e1).1
  · subst hk
    simp only [MapOk] at hm
    obtain ⟨_, m, h2, _⟩ := hm
    exact h2.lt
  · rcases hx.1 with h1 | h1 | h1 | h1
    · exact .inl h1
    · exact i1 x h1
    · exact i2 x h1
    · exact i3 x h1
end Go.Proofs.Ytlmfoieolomcfaa

/-
  append of edits, and where what comes of it lies; append of one list to a list of lists; a parameter [][]api.Edit.
-/
import Derived.Test.YtpjpghigilbfaaaEdRow
import Derived.Test.YtpjpghigilbfaaaEdArg
import Derived.Test.YtpjpghigilbfaaaMgConcat
import Derived.Deep.AppendLies
namespace Go.Proofs.Ytpjpghigilbfaaa
open Go.ChangeShapes Go.WideShapes Go.ChangeAt Go.RowKit Go.Deep
set_option linter.unusedSimpArgs false
set_option linter.unusedVariables false
theorem wpList_append_eds_at (w : World) {ops : Array Oper} {rest : List Oper} {o : Oper} {a : Act} {Q : Exit → Act → World → Prop} (hgd : o.guard = none) (s x : Operand)
    (ho : o.op = .call { callee := .builtin .append, args := #[s, x], argTypes := #[22, 22] })
    (base : Nat) (v : Value) (L : List Ed) (hs : a.eval s = v) (hown : OwnE w base v L)
    (vx : Value) (M : List Ed) (hx : a.eval x = vx) (hB : Eds w vx M) (hN : ∀ c, vx = .slice none 0 c → c = 0)
    (h47 : L.length + M.length ≤ 1000000) (hbase : base ≤ w.heap.size)
    (h : ∀ v' w', OwnE w' base v' (L ++ M) → w.grownBy w' v.ownBlock → (v'.ownBlock = v.ownBlock ∨ v'.ownBlock = some w.heap.size) → wpList Try.prog ops Q rest (a.put o.dst v') w') : wpList Try.prog ops Q (o :: rest) a w := by
  refine wpList_plain hgd fun K hK => ?_
  obtain ⟨v', w', hr, h2, h3, h4⟩ : ∃ v' w', (Builtin.append_ #[22, 22] o.type #[v, vx]).run Try.prog w = .ok v' w' ∧ OwnE w' base v' (L ++ M) ∧ w.grownBy w' v.ownBlock ∧ (v'.ownBlock = v.ownBlock ∨ v'.ownBlock = some w.heap.size) := by
    obtain ⟨i0, hi, hz0, hz1, hz2⟩ := info_parts Try.info29
    obtain ⟨ax, c, rfl, h1, h2, h3⟩ := hB
    cases M with
    | nil =>
      cases ax with
      | none =>
        obtain rfl := hN c rfl
        exact ⟨v, w, run_append_owned_none w base 22 o.type 29 i0 3 Try.underlying22 hi v L.length (edsC L) hown, by simpa using hown, grown_refl w _, .inl rfl⟩
      | some ax =>
        obtain ⟨v', w', hr, h2, h3, _, h5⟩ := run_append_own_at (P := Try.prog) w base 22 o.type 29 i0 _ 3 32 Try.underlying22 hi hz0 hz1 hz2 rfl (by decide) v L.length (edsC L) hown ax 0 c [] rfl (fun j u hj => by simp at hj) (fun u hu => by simp at hu) (by unfold maxLen; omega) (by omega) hbase
        exact ⟨v', w', hr, by simpa [OwnE] using h2, h3, h5⟩
    | cons e M =>
      obtain ⟨g, off, rfl, hg, hc⟩ := h3 (by simp)
      have c1 : ∀ j u, (edsC (e :: M))[j]? = some u → w.cell? (Addr.add ⟨g, off, none⟩ j) = some u := by
        intro j u hj
        have hj' : j < (e :: M).length * 3 := by rw [← edsC_len]; exact (List.getElem?_eq_some_iff.1 hj).1
        obtain ⟨q, r, rfl, hr⟩ : ∃ q r, j = q * 3 + r ∧ r < 3 := ⟨j / 3, j % 3, by omega, by omega⟩
        have hq : q < (e :: M).length := by omega
        rw [edsC_at _ q r hr, List.getElem?_eq_getElem hq, Option.bind_some] at hj
        have hE : (e :: M).getD q ed0 = (e :: M)[q] := by rw [List.getD, List.getElem?_eq_getElem hq]; rfl
        obtain ⟨x0, x1, x2⟩ := hc q hq
        rw [hE] at x0 x1 x2
        rw [show Addr.add ⟨g, off, none⟩ (q * 3 + r) = ⟨g, off + q * 3 + r, none⟩ by simp [Addr.add, Nat.add_assoc]]
        rw [← hj]
        match r, hr with
        | 0, _ => exact x0
        | 1, _ => exact x1
        | 2, _ => exact x2
      have c2 : ∀ u ∈ edsC (e :: M), u.oneCell' = true := by
        intro u hu
        obtain ⟨d, _, hd⟩ := List.mem_flatMap.1 hu
        exact one_ed d u hd
      obtain ⟨v', w', hr, h2, h3, _, h5⟩ := run_append_own_at (P := Try.prog) w base 22 o.type 29 i0 _ 3 32 Try.underlying22 hi hz0 hz1 hz2 rfl (by decide) v L.length (edsC L) hown ⟨g, off, none⟩ (e :: M).length c (edsC (e :: M)) (edsC_len _) c1 c2 (by unfold maxLen; omega) (by omega) hbase
      refine ⟨v', w', hr, ?_, h3, h5⟩
      unfold OwnE
      rw [List.length_append, show edsC (L ++ e :: M) = edsC L ++ edsC (e :: M) by simp [edsC]]
      exact h2
  unfold Oper.wp execOp
  simp only [ho, resolve, invoke, builtin, Sem.run_bind, Sem.run_pure, Result.andThen_ok, List.map_toArray, List.map_cons, List.map_nil, hs, hx, hr]
  exact hK _ _ (h v' w' h2 h3 h4)
theorem Try.info22 : (Try.prog.info? 22).map (fun i => (i.zero, i.size, i.bytes)) = some (some (.slice none 0 0), 1, 24) := by kernel_rfl
/-- The call's own row of slices. -/
def OwnS (w : World) (base : Nat) (v : Value) (us : List Value) : Prop := w.ownsRow base 22 1 v us.length us
theorem ownS_nil (w : World) (base : Nat) : OwnS w base (.slice none 0 0) [] := World.ownsRow_nil _ _ _ _
/-- One slice more. -/
theorem wpList_append_slice (w : World) {ops : Array Oper} {rest : List Oper} {o : Oper} {a : Act} {Q : Exit → Act → World → Prop} (hgd : o.guard = none) (s x : Operand)
    (ho : o.op = .call { callee := .builtin .append, args := #[s, x], argTypes := #[37, 37] })
    (base : Nat) (v : Value) (us : List Value) (hown : OwnS w base v us) (hs : a.eval s = v) (p : Option Addr) (n c : Nat) (hb : base ≤ w.heap.size) (hl : us.length ≤ 1000)
    (hx : a.eval x = .slice (some ⟨w.heap.size, 0, none⟩) 1 1)
    (K : ∀ v' w', OwnS w' base v' (us ++ [.slice p n c]) → (w.alloc (.cells #[.slice p n c] 22)).grownBy w' v.ownBlock → wpList Try.prog ops Q rest (a.put o.dst v') w') :
    wpList Try.prog ops Q (o :: rest) a (w.alloc (.cells #[.slice p n c] 22)) := by
  obtain ⟨i0, hi, hz0, hz1, hz2⟩ := info_parts Try.info22
  refine wpList_append_own _ hgd _ _ 37 ho base 22 i0 (.slice none 0 0) 1 24 Try.underlying37 hi hz0 hz1 hz2 rfl (by decide) _ _ _ hs (World.ownsRow.alloc hown _) ⟨w.heap.size, 0, none⟩ 1 1 [.slice p n c] hx rfl ?c1 ?c2 ?c3 ?c4 ?c5 ?_
  case c1 =>
    intro j u hj
    match j, hj with
    | 0, hj => simp at hj; subst hj; simp [Addr.add]
  case c2 => intro u hu; simp at hu; subst hu; rfl
  case c3 => unfold maxLen; omega
  case c4 => omega
  case c5 => simp; omega
  intro v' w1 hown' hgrow _
  refine K v' w1 ?_ hgrow
  unfold OwnS
  simpa using hown'
/-- Rows of edits and rows of slices are not the same. -/
theorem own_apart {w : World} {b1 b2 : Nat} {u v : Value} {us : List Value} {L : List Ed} (h : OwnS w b1 u us) (k : OwnE w b2 v L) : v.ownBlock = none ∨ v.ownBlock ≠ u.ownBlock := by
  rcases k.forms with ⟨rfl, _⟩ | ⟨g, cap, rfl, _, cur, hg, _⟩
  · exact .inl rfl
  · right
    rcases h.2 with ⟨rfl, _⟩ | ⟨g', cap', cur', rfl, _, hg', _⟩
    · simp [Value.ownBlock]
    · intro e
      obtain rfl : g = g' := by simpa [Value.ownBlock] using e
      rw [hg] at hg'
      simp only [Option.some.injEq, Obj.cells.injEq] at hg'
      exact absurd hg'.2.1 (by decide)
theorem own_apart' {w : World} {b1 b2 : Nat} {u v : Value} {us : List Value} {L : List Ed} (h : OwnS w b1 u us) (k : OwnE w b2 v L) : u.ownBlock = none ∨ u.ownBlock ≠ v.ownBlock := by
  cases hu : u.ownBlock with
  | none => exact .inl rfl
  | some g =>
    right
    rcases own_apart h k with h1 | h1
    · rw [h1]; simp
    · rw [hu] at h1; exact fun e => h1 e.symm
section
variable {H : Type} {enc : TypeId × Value → H} {w : World} {base : Nat} {sp : Nat → Bool} {held : Bool}
theorem Try.cells22 : Try.prog.cellsOf 22 = 1 := by kernel_rfl
theorem edss_in {a : Option Addr} {len cap : Nat} {d : DataW H} {p : List MemPlace}
    (h : DataW.Trod enc Try.prog w base sp held 37 (.slice a len cap) d p) : ∃ Ls, Edss w (.slice a len cap) Ls ∧ ∀ L ∈ Ls, ∀ e ∈ L, e.wf := by
  obtain ⟨fuel, hf⟩ := h
  rcases open_slice Try.underlying37 hf with ⟨hcs, _⟩ | ⟨x, l, c, m, k, D, Pl, hcs, _, hl, hm, hmm, _, hx⟩
  · simp [Value.cells] at hcs
    obtain ⟨rfl, rfl, rfl⟩ := hcs
    exact ⟨[], ⟨none, 0, rfl, Nat.le_refl _, Nat.zero_le _, fun h => by simp at h⟩, fun e he => by simp at he⟩
  · simp [Value.cells] at hcs
    obtain ⟨rfl, rfl, rfl⟩ := hcs
    have hlm : len ≤ m := by rw [hmm]; split <;> omega
    have each : ∀ i, i < len → ∃ L : List Ed, (∃ u, w.cell? (x.add i) = some u ∧ Eds w u L ∧ ∀ c, u = .slice none 0 c → c = 0) ∧ ∀ e ∈ L, e.wf := by
      intro i hi
      obtain ⟨cs', h1, h2⟩ := hx i (by omega)
      rw [Try.cells22] at h1
      obtain ⟨_, hlen, hcell⟩ := World.cells?_some h1
      have hc0 := hcell 0 (by omega)
      rw [add_add, Nat.mul_one, Nat.add_zero] at hc0
      rcases open_eds h2 with ⟨hcs', _⟩ | ⟨y, l', c', m', E, hcs', _, hl', hm', hmm', _, hE⟩
      · subst hcs'
        exact ⟨[], ⟨_, hc0.trans rfl, ⟨none, 0, rfl, Nat.le_refl _, Nat.zero_le _, fun h => by simp at h⟩, fun c h => by injection h with _ _ h; exact h.symm⟩, fun e he => by simp at he⟩
      · subst hcs'
        obtain ⟨k1, k2⟩ := eds_of (w := w) (by rw [hmm']; split <;> omega) hl' hm' hE
        exact ⟨_, ⟨_, hc0.trans rfl, k1, fun c h => by injection h with h; cases h⟩, k2⟩
    obtain ⟨F, hF⟩ := choose_lt (α := List Ed) each
    have hln : ((List.range len).map F).length = len := by simp
    refine ⟨(List.range len).map F, ⟨some x, cap, by rw [hln], by rw [hln]; exact hl, hm, fun h0 => ?_⟩, fun L hL => ?_⟩
    · rw [hln] at h0
      obtain ⟨b, off, spot⟩ := x
      obtain ⟨u0, hu0, _⟩ := (hF 0 h0).1
      have hspot : spot = none := by simpa [Addr.add] using World.cell?_spot hu0
      subst hspot
      have hat : ∀ i, (⟨b, off, none⟩ : Addr).add i = ⟨b, off + i, none⟩ := fun i => by simp [Addr.add]
      refine ⟨b, off, rfl, World.block_lt_of_cell? w ⟨b, off + 0, none⟩ (by rw [← hat 0]; exact hu0), fun i hi => ?_⟩
      rw [hln] at hi
      obtain ⟨u, hu, hE, hn⟩ := (hF i hi).1
      rw [hat] at hu
      exact ⟨u, hu, by rw [show ((List.range len).map F).getD i [] = F i by simp [List.getD, hi]]; exact hE, hn⟩
    · obtain ⟨i, hi, rfl⟩ := List.mem_map.1 hL
      exact (hF i (List.mem_range.1 hi)).2
end
end Go.Proofs.Ytpjpghigilbfaaa

/-
  Scopes beside a law's own slice of numbers.
-/
import Derived.Test.YtlmfoieolomcfaaSpLaw
namespace Go.Proofs.Ytlmfoieolomcfaa
open Go.RowKit Go.Maps Go.Lib Go.WideMaps
set_option linter.unusedSimpArgs false
set_option linter.unusedVariables false
def OwnL (w : World) (B : Nat) (v : Value) (xs : List Int) : Prop := w.ownsRow B 3 1 v xs.length (xs.map (Value.int .i64))
theorem ownL_nil (w : World) (B : Nat) : OwnL w B (.slice none 0 0) [] := World.ownsRow_nil _ _ _ _
theorem OwnL.same {w w' : World} {B : Nat} {v : Value} {xs : List Int} {M : List Nat} (h : OwnL w B v xs) (hm : ∀ k, v.ownBlock = some k → k ∈ M) (hs : SameM M w w') : OwnL w' B v xs := ownsRow_keep h fun k hk => hs.2 k (hm k hk)
theorem mem_blk {v : Value} : ∀ k, v.ownBlock = some k → k ∈ v.ownBlock.toList := fun k hk => by rw [hk]; simp
/-- The law's own slice goes on elsewhere or in place. -/
theorem LS.app {w0 w w' : World} {g : Nat} {es : List En} {bs : List Nat} {q : Nat} {v v' : Value} {o : Obj} {e : TypeId} {sz n n' : Nat} {xs ys : List Value} (h : LS w0 w g v.ownBlock.toList es bs q) (ho : w.ownsRow w0.heap.size e sz v n xs)
    (hg : (w.alloc o).grownBy w' v.ownBlock) (hv : ∀ k, v'.ownBlock = some k → v.ownBlock = some k ∨ w.heap.size ≤ k) (ho' : w'.ownsRow w0.heap.size e sz v' n' ys) : LS w0 w' g v'.ownBlock.toList es bs q := by
  obtain ⟨h1, h2, S, h3, h4⟩ := h
  have hb := below_alloc w o
  have hsz : w.heap.size ≤ w'.heap.size := Nat.le_trans hb.size hg.size
  refine ⟨⟨hg.os.trans (hb.os.trans h1.os), hg.tape.trans (hb.tape.trans h1.tape), hg.output.trans (hb.output.trans h1.output), Nat.le_trans h1.size hsz, fun k hk => ?_⟩, fun k hk => ?_, S, h3.keep hsz fun k hk => ?_, fun x hx => ⟨(h4 x hx).1, fun hm => ?_⟩⟩
  · have hkw : k < w.heap.size := Nat.lt_of_lt_of_le hk h1.size
    rw [hg.block k (Nat.lt_of_lt_of_le hkw hb.size) (fun e => by have := (own_blk ho e.symm).1; omega), hb.block k hkw]
    exact h1.block k hk
  · obtain ⟨_, cur, e1⟩ := own_blk ho' (Option.mem_toList.1 hk)
    exact (Array.getElem?_eq_some_iff.1 e1).1
  · have hkw := h3.lt k hk
    rw [hg.block k (Nat.lt_of_lt_of_le hkw hb.size) (fun e => (h4 k hk).2 (mem_blk k e.symm)), hb.block k hkw]
  · rcases hv x (Option.mem_toList.1 hm) with h5 | h5
    · exact (h4 x hx).2 (mem_blk x h5)
    · have := h3.lt x hx
      omega
theorem LS.base {w0 w1 w : World} {g : Nat} {M : List Nat} {es : List En} {bs : List Nat} {q : Nat} (h : LS w1 w g M es bs q) (hb : Below w0.heap.size w0 w1) : LS w0 w g M es bs q := by
  obtain ⟨h1, h2, S, h3, h4⟩ := h
  exact ⟨hb.trans (h1.mono hb.size), h2, S, h3, fun x hx => ⟨Nat.le_trans hb.size (h4 x hx).1, (h4 x hx).2⟩⟩
theorem LS.sub {w0 w : World} {g : Nat} {M M' : List Nat} {es : List En} {bs : List Nat} {q : Nat} (h : LS w0 w g M es bs q) (hm : ∀ k ∈ M', k ∈ M) : LS w0 w g M' es bs q := by
  obtain ⟨h1, h2, S, h3, h4⟩ := h
  exact ⟨h1, fun k hk => h2 k (hm k hk), S, h3, fun x hx => ⟨(h4 x hx).1, fun h5 => (h4 x hx).2 (hm x h5)⟩⟩
theorem LS.q {w0 w : World} {g : Nat} {M : List Nat} {es : List En} {bs : List Nat} {q q' : Nat} (h : LS w0 w g M es bs q) (hq : q ≤ q') : LS w0 w g M es bs q' := by
  obtain ⟨h1, h2, S, ⟨ve, vb, mo, h3⟩, h4⟩ := h
  refine ⟨h1, h2, S, ⟨ve, vb, mo, ⟨h3.blk, h3.ens, h3.bgs, ?_, h3.sg, h3.se, h3.sb, h3.sm, h3.lt, h3.inv, ⟨Nat.le_trans h3.few.1 hq, Nat.le_trans h3.few.2 hq⟩, h3.nm⟩⟩, h4⟩
  have hm := h3.map
  cases mo with
  | none => exact hm
  | some b =>
    obtain ⟨k1, m, k2, k3⟩ := hm
    exact ⟨k1, m, k2, Nat.le_trans k3 hq⟩
theorem wpList_app_int {w0 w : World} {ops : Array Oper} {rest : List Oper} {o : Oper} {a : Act} {Q : Exit → Act → World → Prop} (hgd : o.guard = none) (s x : Operand)
    (ho : o.op = .call { callee := .builtin .append, args := #[s, x], argTypes := #[43, 43] })
    {g : Nat} {es : List En} {bs : List Nat} {q : Nat} (v : Value) (xs : List Int) (n : Int) (hown : OwnL w w0.heap.size v xs) (hL : LS w0 w g v.ownBlock.toList es bs q) (hs : a.eval s = v) (hl : xs.length ≤ 1000)
    (hx : a.eval x = .slice (some ⟨w.heap.size, 0, none⟩) 1 1)
    (K : ∀ v' w', OwnL w' w0.heap.size v' (xs ++ [n]) → LS w0 w' g v'.ownBlock.toList es bs q → wpList Try.prog ops Q rest (a.put o.dst v') w') :
    wpList Try.prog ops Q (o :: rest) a (w.alloc (.cells #[.int .i64 n] 3)) := by
  obtain ⟨i0, hi, hz0, hz1, hz2⟩ := info_parts Try.info3
  refine wpList_append_lies (w.alloc (.cells #[.int .i64 n] 3)) hgd _ _ 43 ho w0.heap.size 3 i0 (.int .i64 0) 1 8 Try.underlying43 hi hz0 hz1 hz2 rfl (by decide) v xs.length _ hs (World.ownsRow.alloc hown _) ⟨w.heap.size, 0, none⟩ 1 1 [.int .i64 n] hx rfl (new_int w n (0, 0)) (by simp [Value.oneCell']) (by omega) (by unfold maxLen; omega) (by omega) (by have := hL.1.size; simp; omega) _ rfl ?_
  intro gn cap w' h1 h2 h3 h4
  have hown' : OwnL w' w0.heap.size (.slice (some ⟨gn, 0, none⟩) (xs.length + 1) cap) (xs ++ [n]) := by
    unfold OwnL
    simpa using h1
  refine K _ w' hown' (hL.app hown h2 (fun k hk => ?_) hown')
  have e1 : gn = k := by simpa [Value.ownBlock] using hk
  subst e1
  rcases h3 with h3 | h3
  · exact .inl h3
  · exact .inr (by rw [h3]; simp)
end Go.Proofs.Ytlmfoieolomcfaa

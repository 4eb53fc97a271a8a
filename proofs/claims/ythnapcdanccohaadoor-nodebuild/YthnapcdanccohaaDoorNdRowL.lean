/-
  A list of trees in a slice of one's own; append of another one.
-/
import Derived.Test.YthnapcdanccohaaDoorNdFindW
import Derived.Test.YthnapcdanccohaaDoorNdLw
namespace Go.Proofs.YthnapcdanccohaaDoor
open Go.RowKit Go.Lib Go.Sort
set_option linter.unusedSimpArgs false
set_option linter.unusedVariables false
theorem run_append_nodesL (w : World) (base : Nat) (ty : TypeId) (v : Value) (xs : List NV) (hown : OwnN w base v xs) (a : Option Addr) (n cap : Nat) (ys : List NV) (hB : HoldsC w a n ys) (hN : a = none → cap = 0)
    (h47 : xs.length + n ≤ 3000000) (hbase : base ≤ w.heap.size) :
    ∃ v' w', (Builtin.append_ #[24, 24] ty #[v, .slice a n cap]).run Tryd.prog w = .ok v' w' ∧ OwnN w' base v' (xs ++ ys) ∧ w.grownBy w' v.ownBlock ∧ (v'.ownBlock = v.ownBlock ∨ v'.ownBlock = some w.heap.size) := by
  obtain ⟨i0, hi, hz0, hz1, hz2⟩ := info_parts Tryd.info26
  obtain ⟨hl, h3⟩ := hB
  rcases Nat.eq_zero_or_pos n with h0 | hp
  · subst h0
    obtain rfl := List.eq_nil_of_length_eq_zero hl
    cases a with
    | none =>
      obtain rfl := hN rfl
      exact ⟨v, w, run_append_owned_none w base 24 ty 26 i0 3 Tryd.underlying24 hi v xs.length (nvC xs) hown, by simpa using hown, ⟨rfl, rfl, rfl, Nat.le_refl _, fun _ _ _ => rfl⟩, .inl rfl⟩
    | some a =>
      obtain ⟨v', w', hr, h2, h3, _, h5⟩ := run_append_own_at (P := Tryd.prog) w base 24 ty 26 i0 _ 3 40 Tryd.underlying24 hi hz0 hz1 hz2 rfl (by decide) v xs.length (nvC xs) hown a 0 cap [] rfl (fun j u hj => by simp at hj) (fun u hu => by simp at hu) (by unfold maxLen; omega) (by omega) hbase
      exact ⟨v', w', hr, by simpa [OwnN] using h2, h3, h5⟩
  · obtain ⟨g, o, rfl, ht, hcells⟩ := h3 hp
    obtain ⟨v', w', hrun, h2, h3, _, h5⟩ := run_append_own_at (P := Tryd.prog) w base 24 ty 26 i0 _ 3 40 Tryd.underlying24 hi hz0 hz1 hz2 rfl (by decide) v xs.length (nvC xs) hown ⟨g, o, none⟩ n cap (nvC ys) (by rw [nvC_len, hl]) (fun j u hj => by
      rw [show Addr.add ⟨g, o, none⟩ j = ⟨g, o + j, none⟩ by simp [Addr.add]]
      exact hcells j u hj) (one_nv ys) (by unfold maxLen; omega) (by omega) hbase
    refine ⟨v', w', hrun, ?_, h3, h5⟩
    unfold OwnN
    rw [List.length_append, nvC_app, hl]
    exact h2
/-- A slice of one's own holds these trees; they lie elsewhere. -/
def RowL (w : World) (B : Nat) (v : Value) (L : List Nd) : Prop := ∃ xs, OwnN w B v xs ∧ Reads (fun g => v.ownBlock ≠ some g ∧ g < w.heap.size) w xs (F.ofL L)
theorem RowL.lt {w : World} {B : Nat} {v : Value} {L : List Nd} (h : RowL w B v L) (g : Nat) (hg : v.ownBlock = some g) : B ≤ g ∧ g < w.heap.size := by
  obtain ⟨xs, h1, _⟩ := h
  exact World.ownsRow.lt h1 g hg
theorem RowL.below {w w' : World} {B : Nat} {v : Value} {L : List Nd} (h : RowL w B v L) (hb : Below w.heap.size w w') : RowL w' B v L := by
  obtain ⟨xs, h1, h2⟩ := h
  exact ⟨xs, rowN_kept h1 (fun g hg => hb.block g (World.ownsRow.lt h1 g hg).2), (h2.keep (keep_below hb)).mono (fun g hg => ⟨hg.1.1, Nat.lt_of_lt_of_le hg.1.2 hb.size⟩)⟩
/-- What one's own slice holds, whoever reads it. -/
theorem RowL.sl {w : World} {B : Nat} {v : Value} {L : List Nd} (h : RowL w B v L) : ∃ a cap, v = .slice a L.length cap ∧ Sl w a L.length cap (F.ofL L) := by
  obtain ⟨xs, h1, h2⟩ := h
  obtain ⟨a, cap, e, hs, _⟩ := OwnN.sl (P := fun _ => True) h1 (h2.mono (fun _ _ => trivial)) (fun _ _ => trivial)
  have hl : xs.length = L.length := by rw [h2.len, ofL_len]
  rw [hl] at e hs
  exact ⟨a, cap, e, hs⟩
theorem rowL_nil (w : World) (B : Nat) : RowL w B (.slice none 0 0) [] := ⟨[], ownN_nil _ _, trivial⟩
/-- A literal of one tree. -/
theorem rowL_one (w : World) (B : Nat) (hB : B ≤ w.heap.size) (k t : Int) (a : Option Addr) (n cap : Nat) (c : F) (h : Sl w a n cap c) :
    RowL (w.alloc (.cells #[.int .i64 k, .int .i64 t, .slice a n cap] 26 (0, 0))) B (.slice (some ⟨w.heap.size, 0, none⟩) 1 1) [⟨k, t, c⟩] := by
  refine ⟨[⟨k, t, a, n, cap⟩], ⟨by simp [nvC, NV.cells], .inr ⟨w.heap.size, 1, #[.int .i64 k, .int .i64 t, .slice a n cap], rfl, hB, heap_alloc_new w _, Nat.le_refl _, by unfold maxLen; omega, rfl, rfl⟩⟩, rfl, rfl, ?_, trivial⟩
  exact ((h.mono (P' := fun g => g < w.heap.size) (fun g hg => hg.lt)).below (below_alloc _ _)).mono (fun g hg => ⟨fun e => by
    have e : w.heap.size = g := by simpa [Value.ownBlock] using e
    have := hg.1; omega, hg.lt⟩)
theorem own_append {w : World} {B : Nat} {v : Value} {L : List Nd} (hR : RowL w B v L) (ty : TypeId) {a : Option Addr} {cap : Nat} {M : List Nd} (hM : SlQ (fun g => v.ownBlock ≠ some g ∧ g < w.heap.size) w a M.length cap (F.ofL M))
    (hl : L.length + M.length ≤ 3000000) (hB : B ≤ w.heap.size) :
    ∃ v' w', (Builtin.append_ #[24, 24] ty #[v, .slice a M.length cap]).run Tryd.prog w = .ok v' w' ∧ RowL w' B v' (L ++ M) ∧ Below B w w' ∧ w.grownBy w' v.ownBlock ∧ (v'.ownBlock = v.ownBlock ∨ v'.ownBlock = some w.heap.size) := by
  obtain ⟨xs, h1, h2⟩ := hR
  obtain ⟨ys, hr, hh⟩ := hM.holds
  have hxl : xs.length = L.length := by rw [h2.len, ofL_len]
  obtain ⟨v', w', hrun, hown, hg, hlies⟩ := run_append_nodesL w B ty v xs h1 a M.length cap ys hh hM.nn (by omega) hB
  have hlt := hg.size
  refine ⟨v', w', hrun, ⟨xs ++ ys, hown, ?_⟩, ?_, hg, hlies⟩
  · rw [ofL_app]
    have k1 := h2.app hr
    have k2 := k1.keep (w' := w') (keep_grown hg (fun g hv hh => hh.1.1 hv))
    refine k2.mono (fun g hx => ⟨fun e => ?_, by have := hx.1.2; omega⟩)
    rcases hlies with hh | hh
    · exact hx.1.1 (hh ▸ e)
    · rw [hh] at e
      have := hx.1.2
      injection e with e
      omega
  · exact (Below.refl B w).grown hg hB (fun g hv => (World.ownsRow.lt h1 g hv).1)
theorem oper_append_rowL {o : Oper} {act : Act} {w : World} {K : Act → World → Prop} {Q : Exit → Act → World → Prop} (s x : Operand)
    (ho : o.op = .call { callee := .builtin .append, args := #[s, x], argTypes := #[24, 24] })
    {B : Nat} {v : Value} {L : List Nd} (hs : act.eval s = v) (hR : RowL w B v L) {a : Option Addr} {cap : Nat} {M : List Nd} (hx : act.eval x = .slice a M.length cap)
    (hM : SlQ (fun g => v.ownBlock ≠ some g ∧ g < w.heap.size) w a M.length cap (F.ofL M)) (hl : L.length + M.length ≤ 3000000) (hB : B ≤ w.heap.size)
    (h : ∀ v' w', RowL w' B v' (L ++ M) → Below B w w' → w.grownBy w' v.ownBlock → (v'.ownBlock = v.ownBlock ∨ v'.ownBlock = some w.heap.size) → K (act.put o.dst v') w') : o.wp Tryd.prog act w K Q := by
  obtain ⟨v', w', hr, h2, h3, h4, h5⟩ := own_append hR o.type hM hl hB
  unfold Oper.wp execOp
  simp only [ho, resolve, invoke, builtin, Sem.run_bind, Sem.run_pure, Result.andThen_ok, List.map_toArray, List.map_cons, List.map_nil, hs, hx, hr]
  exact h v' w' h2 h3 h4 h5
theorem wpList_append_rowL {ops : Array Oper} {rest : List Oper} {o : Oper} {act : Act} {w : World} {Q : Exit → Act → World → Prop} (hgd : o.guard = none) (s x : Operand)
    (ho : o.op = .call { callee := .builtin .append, args := #[s, x], argTypes := #[24, 24] })
    {B : Nat} {v : Value} {L : List Nd} (hs : act.eval s = v) (hR : RowL w B v L) {a : Option Addr} {cap : Nat} {M : List Nd} (hx : act.eval x = .slice a M.length cap)
    (hM : SlQ (fun g => v.ownBlock ≠ some g ∧ g < w.heap.size) w a M.length cap (F.ofL M)) (hl : L.length + M.length ≤ 3000000) (hB : B ≤ w.heap.size)
    (h : ∀ v' w', RowL w' B v' (L ++ M) → Below B w w' → w.grownBy w' v.ownBlock → (v'.ownBlock = v.ownBlock ∨ v'.ownBlock = some w.heap.size) → wpList Tryd.prog ops Q rest (act.put o.dst v') w') : wpList Tryd.prog ops Q (o :: rest) act w :=
  wpList_plain hgd fun K hK => oper_append_rowL s x ho hs hR hx hM hl hB (fun v' w' h1 h2 h3 h4 => hK _ _ (h v' w' h1 h2 h3 h4))
end Go.Proofs.YthnapcdanccohaaDoor

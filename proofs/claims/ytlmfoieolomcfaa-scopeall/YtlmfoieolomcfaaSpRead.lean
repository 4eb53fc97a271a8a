/-
  Scopes: place, begin, Deep, Find, Here; those of a nil one; New.
-/
import Derived.Test.YtlmfoieolomcfaaSpOwn
import Derived.Test.YtlmfoieolomcfaaMem
import Derived.WalkKit
import Derived.BigQuiet
import Derived.BigRegion
namespace Go.Proofs.Ytlmfoieolomcfaa
open Go.RowKit Go.Maps Go.Lib Go.WideMaps
set_option linter.unusedSimpArgs false
set_option linter.unusedVariables false
section
variable {w : World} {g : Nat} {S : Nat → Prop} {es : List En} {bs : List Nat} {ve vb : Value} {mo : Option Nat} {q : Nat}
theorem ScW.c0 (h : ScW w g S es bs ve vb mo q) : w.cell? ⟨g, 0, none⟩ = some ve := by simp [World.cell?, h.blk]
theorem ScW.c1 (h : ScW w g S es bs ve vb mo q) : w.cell? ⟨g, 1, none⟩ = some vb := by simp [World.cell?, h.blk]
theorem ScW.c2 (h : ScW w g S es bs ve vb mo q) : w.cell? ⟨g, 2, none⟩ = some (.map mo) := by simp [World.cell?, h.blk]
theorem ScW.fr (h : ScW w g S es bs ve vb mo q) (i : Nat) : w.frozen? ⟨g, i, none⟩ = false := Joins.unfrozen_of_block h.blk i
end
theorem own_form {w : World} {B : Nat} {e : TypeId} {sz : Nat} {v : Value} {n : Nat} {xs : List Value} (h : w.ownsRow B e sz v n xs) : ∃ a c, v = .slice a n c ∧ n ≤ c ∧ c ≤ maxLen := by
  rcases h.2 with ⟨rfl, rfl⟩ | ⟨g, cap, cur, rfl, _, _, h1, h2, _⟩
  · exact ⟨_, _, rfl, Nat.le_refl _, Nat.zero_le _⟩
  · exact ⟨_, _, rfl, h1, h2⟩
theorem own_cell {w : World} {B : Nat} {e : TypeId} {sz : Nat} {v : Value} {n : Nat} {xs : List Value} (h : w.ownsRow B e sz v n xs) (h0 : 0 < n) : ∃ z c, v = .slice (some ⟨z, 0, none⟩) n c ∧ B ≤ z ∧ z < w.heap.size ∧ n ≤ c ∧ c ≤ maxLen ∧ ∀ j, j < n * sz → w.cell? ⟨z, j, none⟩ = xs[j]? := by
  rcases h.2 with ⟨rfl, rfl⟩ | ⟨z, cap, cur, rfl, h1, h2, h3, h4, h5⟩
  · omega
  · exact ⟨z, cap, rfl, h1, (Array.getElem?_eq_some_iff.1 h2).1, h3, h4, fun j hj => World.ownsRow.cellAt h j hj⟩
theorem MapF.look {w : World} {b n : Nat} {f : ByteArray → Int} (h : MapF w b n f) (s : ByteArray) (hs : s.size ≤ 1000) :
    (Instr.lookup 46 (.map (some b)) (.string s) true).run Try.prog w = .ok (.tuple #[.int .i64 (if 0 ≤ f s then f s else 0), .bool (decide (0 ≤ f s))]) w := by
  obtain ⟨D, hD, hf⟩ := h
  have hkey : keyOf Try.prog 9 (.string s) = some (keyL s) := keyOf_string_mk Try.underlying9 (by unfold maxLen; omega)
  obtain ⟨hf1, hf2⟩ := hf s (by unfold maxLen; omega)
  obtain ⟨v, ps, hrun, hv⟩ := hD.look_ok sp_law Try.underlying46 (sp_zero w) (zd := .lit (.int .i64 0)) (plainElem_int Try.underlying3 (by decide)) hkey
  obtain ⟨c, rfl, hc, hwc⟩ := plainElem_int_inv Try.underlying3 hv
  rw [hrun, hf1]
  by_cases h0 : 0 ≤ f s
  · have e := (congrArg Prod.fst hc).symm.trans (hf2 h0 _)
    injection e with e
    injection e with _ e
    rw [if_pos h0, e]
  · rw [if_neg h0]
    have e := (congrArg Prod.fst hc).symm.trans (atKey_of_not_has (by rw [hf1]; exact decide_eq_false h0) _)
    injection e with e
    injection e with _ e
    rw [e]
set_option maxHeartbeats 1000000 in
theorem place_any {w : World} {g : Nat} {S : Nat → Prop} {es : List En} {bs : List Nat} {ve vb : Value} {mo : Option Nat} {q : Nat} (h : ScW w g S es bs ve vb mo q) (s : ByteArray) (hs : s.size ≤ 1000) :
    Calls Try.prog 18 #[.pointer (some ⟨g, 0, none⟩), .string s] w fun e w' => e = .returned (.int .i64 (plc s es)) ∧ w' = w := by
  have c2 := h.c2
  have hm := h.map
  cases mo with
  | none =>
    simp only [MapOk] at hm
    subst hm
    have hl : ∀ (w : World), (Instr.lookup 46 (.map none) (.string s) true).run Try.prog w = .ok (.tuple #[.int .i64 0, .bool false]) w := fun w => Maps.look_nil true sp_law Try.underlying46 (sp_zero w) (keyOf_string_mk Try.underlying9 (by unfold maxLen; omega))
    clear h
    go_enter Try.func18, Try.ntmps18
    go_wp2
    go_ret
    exact ⟨rfl, rfl⟩
  | some b =>
    simp only [MapOk] at hm
    obtain ⟨_, m, hM, _⟩ := hm
    have hl := hM.look s hs
    clear h hM
    have hp := (plc_lt s es).2
    by_cases h0 : 0 ≤ plc s es
    · rw [if_pos h0, decide_eq_true h0] at hl
      clear h0 hp
      generalize plc s es = P at *
      go_enter Try.func18, Try.ntmps18
      go_wp2
      go_ret
      exact ⟨rfl, rfl⟩
    · have hE : plc s es = -1 := by omega
      rw [if_neg h0, decide_eq_false h0] at hl
      clear h0 hp
      replace hE := hide hE
      go_enter Try.func18, Try.ntmps18
      go_wp2
      go_ret
      exact ⟨by rw [unhide hE]; rfl, rfl⟩
theorem beg_last (bs : List Nat) (h : 0 < bs.length) : beg bs = bs[bs.length - 1] := by
  unfold beg
  rw [List.getLast?_eq_getElem?, List.getElem?_eq_getElem (by omega)]
  rfl
set_option maxHeartbeats 1000000 in
theorem begin_any {w : World} {g : Nat} {S : Nat → Prop} {es : List En} {bs : List Nat} {ve vb : Value} {mo : Option Nat} {q : Nat} (h : ScW w g S es bs ve vb mo q) (hq : q ≤ 1000) :
    Calls Try.prog 16 #[.pointer (some ⟨g, 0, none⟩)] w fun e w' => e = .returned (.int .i64 (beg bs)) ∧ ∃ n, w' = w.drewN n := by
  have c1 := h.c1
  have hl := h.few.2
  by_cases h0 : bs.length = 0
  · obtain ⟨a, c, rfl, _⟩ := own_form h.bgs
    have : bs = [] := List.length_eq_zero_iff.1 h0
    subst this
    simp only [List.length_nil] at c1
    clear h
    go_enter Try.func16, Try.ntmps16
    go_wp2
    go_ret
    exact ⟨rfl, 0, rfl⟩
  · obtain ⟨z, c, rfl, hz, hzl, hc1, hc2, hc⟩ := own_cell h.bgs (by omega)
    have hx := hc (bs.length - 1) (by omega)
    have hx2 : (begC bs)[bs.length - 1]? = some (.int .i64 (beg bs)) := by
      unfold begC
      rw [List.getElem?_map, List.getElem?_eq_getElem (by omega), beg_last bs (by omega)]
      rfl
    rw [hx2] at hx
    clear h hc hx2
    generalize beg bs = P at *
    unfold maxLen at hc2
    generalize bs.length = L at *
    obtain ⟨n, rfl⟩ : ∃ n, L = n + 1 := ⟨L - 1, by omega⟩
    simp only [Nat.add_sub_cancel] at hx
    clear h0
    go_enter Try.func16, Try.ntmps16
    go_wp2
    go_quiet (fail)
    go_wp2
    go_ret
    exact ⟨rfl, _, rfl⟩
set_option maxHeartbeats 1000000 in
theorem deep_any {w : World} {g : Nat} {S : Nat → Prop} {es : List En} {bs : List Nat} {ve vb : Value} {mo : Option Nat} {q : Nat} (h : ScW w g S es bs ve vb mo q) (hq : q ≤ 1000) :
    Calls Try.prog 15 #[.pointer (some ⟨g, 0, none⟩)] w fun e w' => e = .returned (.int .i64 (bs.length + 1)) ∧ w' = w := by
  have c1 := h.c1
  have hl := h.few.2
  obtain ⟨a, c, rfl, _⟩ := own_form h.bgs
  clear h
  go_enter Try.func15, Try.ntmps15
  go_wp2
  go_ret
  exact ⟨rfl, rfl⟩
theorem En.at {w : World} {B : Nat} {v : Value} {es : List En} (h : OwnEn w B v es) (i : Nat) (hi : i < es.length) : ∃ z c, v = .slice (some ⟨z, 0, none⟩) es.length c ∧ B ≤ z ∧ z < w.heap.size ∧ es.length ≤ c ∧ c ≤ maxLen ∧ w.cell? ⟨z, i * 5, none⟩ = some (.string es[i].n) ∧ w.cell? ⟨z, i * 5 + 1, none⟩ = some (.int .i64 es[i].f) ∧ w.cell? ⟨z, i * 5 + 2, none⟩ = some (.int .i64 es[i].t) ∧ w.cell? ⟨z, i * 5 + 3, none⟩ = some (.int .i64 es[i].k) ∧ w.cell? ⟨z, i * 5 + 4, none⟩ = some (.int .i64 es[i].o) := by
  obtain ⟨z, c, h1, h2, h3, h4, h5, h6⟩ := own_cell h (by omega)
  have hc : ∀ j, j < 5 → w.cell? ⟨z, i * 5 + j, none⟩ = es[i].cells[j]? := fun j hj => by
    rw [h6 (i * 5 + j) (by omega), ensC_at es i j hj, List.getElem?_eq_getElem hi]; rfl
  exact ⟨z, c, h1, h2, h3, h4, h5, hc 0 (by omega), hc 1 (by omega), hc 2 (by omega), hc 3 (by omega), hc 4 (by omega)⟩
/-- What is found: the entry's three numbers, or noughts. -/
def fnd (s : ByteArray) (es : List En) (lo : Int) : Option En := if 0 ≤ plc s es ∧ lo ≤ plc s es then es[(plc s es).toNat]? else none
def fndV : Option En → Value
  | none => .tuple #[.agg #[.int .i64 0, .int .i64 0, .int .i64 0], .bool false]
  | some e => .tuple #[.agg #[.int .i64 e.f, .int .i64 e.t, .int .i64 e.k], .bool true]
end Go.Proofs.Ytlmfoieolomcfaa

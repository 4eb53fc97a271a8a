/-
  Tokens and comments that a slice holds; EqTokens of the same ones.
-/
import Derived.Test.YtmhkmmcicfpakaaScanSemi
import Derived.Test.YtmhkmmcicfpakaaTokBox
import Derived.Deep.LoopGhost
import Derived.BigQuiet
namespace Go.Proofs.Ytmhkmmcicfpakaa
open Go.RowKit
set_option linter.unusedSimpArgs false
set_option linter.unusedVariables false
theorem toksC_at : ∀ (L : List Tk) (i j : Nat), j < 5 → (toksC L)[i * 5 + j]? = (L[i]?).bind fun t => t.cells[j]? := by
  intro L
  induction L with
  | nil => intro i j _; simp [toksC]
  | cons t L ih =>
    intro i j hj
    have hl : t.cells.length = 5 := rfl
    show (t.cells ++ toksC L)[i * 5 + j]? = _
    cases i with
    | zero => rw [List.getElem?_append_left (by omega)]; simp
    | succ i =>
      rw [List.getElem?_append_right (by omega), hl, show (i + 1) * 5 + j - 5 = i * 5 + j by omega, ih i j hj]
      simp
theorem comsC_at : ∀ (L : List Cm) (i j : Nat), j < 4 → (comsC L)[i * 4 + j]? = (L[i]?).bind fun t => t.cells[j]? := by
  intro L
  induction L with
  | nil => intro i j _; simp [comsC]
  | cons t L ih =>
    intro i j hj
    have hl : t.cells.length = 4 := rfl
    show (t.cells ++ comsC L)[i * 4 + j]? = _
    cases i with
    | zero => rw [List.getElem?_append_left (by omega)]; simp
    | succ i =>
      rw [List.getElem?_append_right (by omega), hl, show (i + 1) * 4 + j - 4 = i * 4 + j by omega, ih i j hj]
      simp
/-- The cells at a place are a token's. -/
def TkAt (w : World) (g o : Nat) (t : Tk) : Prop :=
  w.cell? ⟨g, o, none⟩ = some (.int .i64 t.k) ∧ w.cell? ⟨g, o + 1, none⟩ = some (.string t.s) ∧ w.cell? ⟨g, o + 2, none⟩ = some (.int .i64 t.p) ∧ w.cell? ⟨g, o + 3, none⟩ = some (.int .i64 t.l) ∧ w.cell? ⟨g, o + 4, none⟩ = some (.bool t.q)
def CmAt (w : World) (g o : Nat) (t : Cm) : Prop :=
  w.cell? ⟨g, o, none⟩ = some (.string t.s) ∧ w.cell? ⟨g, o + 1, none⟩ = some (.int .i64 t.p) ∧ w.cell? ⟨g, o + 2, none⟩ = some (.int .i64 t.l) ∧ w.cell? ⟨g, o + 3, none⟩ = some (.int .i64 t.n)
/-- A slice holds these tokens. -/
def Toks (w : World) (v : Value) (L : List Tk) : Prop :=
  ∃ a c, v = .slice a L.length c ∧ L.length ≤ c ∧ c ≤ maxLen ∧ (0 < L.length → ∃ g, a = some ⟨g, 0, none⟩ ∧ g < w.heap.size ∧ ∀ i t, L[i]? = some t → TkAt w g (i * 5) t)
def Coms (w : World) (v : Value) (L : List Cm) : Prop :=
  ∃ a c, v = .slice a L.length c ∧ L.length ≤ c ∧ c ≤ maxLen ∧ (0 < L.length → ∃ g, a = some ⟨g, 0, none⟩ ∧ g < w.heap.size ∧ ∀ i t, L[i]? = some t → CmAt w g (i * 4) t)
theorem own_toks {w : World} {base : Nat} {v : Value} {L : List Tk} (h : OwnT w base v L) : Toks w v L := by
  obtain ⟨a, c, rfl, h1, h2⟩ := own_shape h
  refine ⟨a, c, rfl, h1, h2, fun h0 => ?_⟩
  rcases h.2 with ⟨_, hz⟩ | ⟨g, cap, cur, e, _, hg, _⟩
  · omega
  · simp only [Value.slice.injEq] at e
    obtain ⟨rfl, _, rfl⟩ := e
    refine ⟨g, rfl, (Array.getElem?_eq_some_iff.1 hg).1, fun i t hi => ?_⟩
    have hlt : i < L.length := (List.getElem?_eq_some_iff.1 hi).1
    have hc : ∀ j, j < 5 → w.cell? ⟨g, i * 5 + j, none⟩ = t.cells[j]? := fun j hj => by
      rw [World.ownsRow.cellAt h _ (by omega), toksC_at L i j hj, hi]; rfl
    exact ⟨hc 0 (by omega), hc 1 (by omega), hc 2 (by omega), hc 3 (by omega), hc 4 (by omega)⟩
theorem own_coms {w : World} {base : Nat} {v : Value} {L : List Cm} (h : OwnC w base v L) : Coms w v L := by
  obtain ⟨a, c, rfl, h1, h2⟩ := own_shape h
  refine ⟨a, c, rfl, h1, h2, fun h0 => ?_⟩
  rcases h.2 with ⟨_, hz⟩ | ⟨g, cap, cur, e, _, hg, _⟩
  · omega
  · simp only [Value.slice.injEq] at e
    obtain ⟨rfl, _, rfl⟩ := e
    refine ⟨g, rfl, (Array.getElem?_eq_some_iff.1 hg).1, fun i t hi => ?_⟩
    have hlt : i < L.length := (List.getElem?_eq_some_iff.1 hi).1
    have hc : ∀ j, j < 4 → w.cell? ⟨g, i * 4 + j, none⟩ = t.cells[j]? := fun j hj => by
      rw [World.ownsRow.cellAt h _ (by omega), comsC_at L i j hj, hi]; rfl
    exact ⟨hc 0 (by omega), hc 1 (by omega), hc 2 (by omega), hc 3 (by omega)⟩
theorem TkAt.below {w w' : World} {g o : Nat} {t : Tk} (h : TkAt w g o t) (hg : g < w.heap.size) (hb : Below w.heap.size w w') : TkAt w' g o t := by
  obtain ⟨h0, h1, h2, h3, h4⟩ := h
  exact ⟨by rw [hb.cell hg]; exact h0, by rw [hb.cell hg]; exact h1, by rw [hb.cell hg]; exact h2, by rw [hb.cell hg]; exact h3, by rw [hb.cell hg]; exact h4⟩
theorem CmAt.below {w w' : World} {g o : Nat} {t : Cm} (h : CmAt w g o t) (hg : g < w.heap.size) (hb : Below w.heap.size w w') : CmAt w' g o t := by
  obtain ⟨h0, h1, h2, h3⟩ := h
  exact ⟨by rw [hb.cell hg]; exact h0, by rw [hb.cell hg]; exact h1, by rw [hb.cell hg]; exact h2, by rw [hb.cell hg]; exact h3⟩
theorem Toks.below {w w' : World} {v : Value} {L : List Tk} (h : Toks w v L) (hb : Below w.heap.size w w') : Toks w' v L := by
  obtain ⟨a, c, h1, h2, h3, h4⟩ := h
  refine ⟨a, c, h1, h2, h3, fun h0 => ?_⟩
  obtain ⟨g, e, hg, hc⟩ := h4 h0
  exact ⟨g, e, Nat.lt_of_lt_of_le hg hb.size, fun i t hi => (hc i t hi).below hg hb⟩
theorem Coms.below {w w' : World} {v : Value} {L : List Cm} (h : Coms w v L) (hb : Below w.heap.size w w') : Coms w' v L := by
  obtain ⟨a, c, h1, h2, h3, h4⟩ := h
  refine ⟨a, c, h1, h2, h3, fun h0 => ?_⟩
  obtain ⟨g, e, hg, hc⟩ := h4 h0
  exact ⟨g, e, Nat.lt_of_lt_of_le hg hb.size, fun i t hi => (hc i t hi).below hg hb⟩
set_option maxHeartbeats 2000000 in
set_option maxRecDepth 100000 in
theorem eqTokens_same (va vb : Value) (L : List Tk) (w : World) (ha : Toks w va L) (hb : Toks w vb L) (hl : L.length ≤ 1000000) :
    Calls Try.prog 16 #[va, vb] w fun e w' => e = .returned (.bool true) ∧ Below w.heap.size w w' := by
  obtain ⟨a, ca, rfl, ha1, ha2, ha3⟩ := ha
  obtain ⟨b, cb, rfl, hb1, hb2, hb3⟩ := hb
  by_cases h0 : 0 < L.length
  · obtain ⟨ga, rfl, hga, hca⟩ := ha3 h0
    obtain ⟨gb, rfl, hgb, hcb⟩ := hb3 h0
    obtain ⟨n, hn⟩ : ∃ n, L.length = n := ⟨_, rfl⟩
    rw [hn]
    rw [hn] at hl h0 ha1 hb1
    clear ha3 hb3
    replace hca := hide hca
    replace hcb := hide hcb
    go_enter Try.func16, Try.ntmps16
    go_wp2
    go_loopg [5] n (fun gf s5 wx => ∃ i : Nat, s5 = .int .i64 i ∧ i + gf = n ∧ Below w.heap.size w wx)
    case atStart => exact ⟨0, rfl, by omega, Below.refl _ _⟩
    case round =>
      obtain ⟨i, rfl, hi, hbw⟩ := hrel
      by_cases hlt : i < n
      · obtain ⟨g', rfl⟩ : ∃ g', gk = g' + 1 := ⟨gk - 1, by omega⟩
        obtain ⟨t, ht⟩ : ∃ t, L[i]? = some t := ⟨L[i]'(by omega), List.getElem?_eq_getElem _⟩
        obtain ⟨a0, a1, a2, a3, a4⟩ := (unhide hca i t ht).below hga hbw
        obtain ⟨b0, b1, b2, b3, b4⟩ := (unhide hcb i t ht).below hgb hbw
        have hq1 : (t.k != t.k) = false := by simp
        have hq2 : (t.s.toList != t.s.toList) = false := by simp
        have hq3 : (t.p != t.p) = false := by simp
        have hq4 : (t.l != t.l) = false := by simp
        have hq5 : (t.q != t.q) = false := by simp
        have hlz : (i : Int) < n := by omega
        go_wp2
        go_quiet (fail)
        go_wp2
        go_roundg g'
        case measure => omega
        case rel => exact ⟨i + 1, by go_num, by omega, below_drewN hbw _⟩
      · have hlz : ¬ (i : Int) < n := by omega
        go_wp2
        go_ret
        exact ⟨rfl, hbw⟩
  · obtain rfl : L = [] := List.eq_nil_of_length_eq_zero (by omega)
    clear ha3 hb3
    go_enter Try.func16, Try.ntmps16
    go_wp2
    go_loopg [5] 0 (fun gf s5 wx => s5 = .int .i64 0 ∧ wx = w)
    case atStart => exact ⟨rfl, rfl⟩
    case round =>
      obtain ⟨rfl, rfl⟩ := hrel
      go_wp2
      go_ret
      exact ⟨rfl, Below.refl _ _⟩
end Go.Proofs.Ytmhkmmcicfpakaa

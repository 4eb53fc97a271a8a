/-
  The program's All.
-/
import Derived.Test.YtpjpghigilbfaaaMgSort
import Derived.Test.YtpjpghigilbfaaaMgConcat
import Derived.Test.YtpjpghigilbfaaaMgCompact
import Derived.Test.YtpjpghigilbfaaaEdMay
namespace Go.Proofs.Ytpjpghigilbfaaa
open Go.RowKit Go.Lib
set_option linter.unusedSimpArgs false
set_option linter.unusedVariables false
/-- slices.Compact of one's own slice, nil or not. -/
theorem compact_nil (w : World) : Calls Try.prog 25 #[.slice none 0 0] w fun e w' => e = .returned (.slice none 0 0) ∧ w' = w := by
  go_enter Try.func25, Try.ntmps25
  go_wp2
  go_ret
  exact ⟨rfl, rfl⟩
theorem compact_own (v : Value) (base : Nat) (L : List Ed) (w : World) (h : OwnE w base v L) (hl : L.length ≤ 1000000) (hb : base ≤ w.heap.size) :
    Calls Try.prog 25 #[v] w fun e w' => ∃ v', e = .returned v' ∧ OwnE w' base v' (compact L) ∧ Below base w w' := by
  rcases h.forms with ⟨rfl, rfl⟩ | ⟨g, cap, rfl, hg, hr⟩
  · refine (compact_nil w).mono ?_
    rintro e w' ⟨rfl, rfl⟩
    exact ⟨_, rfl, ownE_nil _ _, Below.refl _ _⟩
  · refine (compact_any g cap base L w hr hl hg hb).mono ?_
    rintro e w' ⟨rfl, hr', hb'⟩
    exact ⟨_, rfl, hr'.own hg, hb'⟩
def I64 (e : Ed) : Prop := (-9223372036854775808 ≤ e.p ∧ e.p ≤ 9223372036854775807) ∧ (-9223372036854775808 ≤ e.n ∧ e.n ≤ 9223372036854775807)
def maxI : Int := 9223372036854775807
set_option maxHeartbeats 4000000 in
set_option maxRecDepth 100000 in
theorem pAll_any (v : Value) (Ls : List (List Ed)) (w : World) (h : Edss w v Ls) (hl : Ls.flatten.length ≤ 1000000) (hk : Ls.length ≤ 1000000) (hr : ∀ e ∈ Ls.flatten, I64 e) :
    Calls Try.prog 15 #[v] w fun e w' => ∃ v', e = .returned (.tuple #[v', .bool (mayB (once Ls.flatten) maxI)]) ∧ OwnE w' w.heap.size v' (if mayB (once Ls.flatten) maxI then once Ls.flatten else []) ∧ Below w.heap.size w w' := by
  have H1 := hide (concat_any v Ls w h hl hk)
  have hle := once_len Ls.flatten
  have hmem : ∀ e ∈ once Ls.flatten, I64 e := fun e he => hr e ((once_mem _ _).1 he)
  have hon : Hid (compact (srt Ls.flatten) = once Ls.flatten) := hide rfl
  have hsl := srt_len Ls.flatten
  generalize Ls.flatten = F at *
  obtain ⟨M, hM⟩ : ∃ M, mayB (once F) maxI = M := ⟨_, rfl⟩
  rw [hM]
  replace hM := hide hM
  replace h := hide h
  go_enter Try.func15, Try.ntmps15
  go_wp2_with fail
  refine (unhide H1).mono ?_
  rintro e W1 ⟨v1, rfl, ho1, hb1⟩
  have H2 := hide (sortFunc_own v1 w.heap.size F W1 ho1 hl hb1.size)
  replace ho1 := hide ho1
  go_wp2_with fail
  refine (unhide H2).mono ?_
  rintro e W2 ⟨rfl, ho2, hb2⟩
  replace hb2 := hb1.trans hb2
  have H3 := hide (compact_own v1 w.heap.size (srt F) W2 ho2 (by omega) hb2.size)
  rw [unhide hon] at H3
  replace ho2 := hide ho2
  clear hb1 H1 H2
  go_wp2_with fail
  refine (unhide H3).mono ?_
  rintro e W3 ⟨v3, rfl, ho3, hb3⟩
  replace hb3 := hb2.trans hb3
  have H4 := hide (pMay_any v3 (once F) 9223372036854775807 W3 (own_eds ho3) (by omega) ⟨by omega, by omega⟩ hmem)
  rw [show mayB (once F) 9223372036854775807 = M from unhide hM] at H4
  replace ho3 := hide ho3
  replace hmem := hide hmem
  clear hb2 H3
  go_wp2_with fail
  refine (unhide H4).mono ?_
  rintro e W4 ⟨rfl, hb4⟩
  have ho4 : Hid (OwnE W4 w.heap.size v3 (once F)) := hide (by
    have := unhide ho3
    rcases this.forms with ⟨rfl, hF⟩ | ⟨g, cap, rfl, hg, hr⟩
    · rw [hF]; exact ownE_nil _ _
    · exact (hr.below hb4).own hg)
  replace hb4 := hb3.trans (hb4.mono hb3.size)
  clear hb3 H4
  cases M with
  | true =>
    go_wp2
    go_ret2
    exact ⟨v3, rfl, unhide ho4, hb4⟩
  | false =>
    go_wp2
    go_ret2
    exact ⟨_, rfl, ownE_nil _ _, hb4⟩
end Go.Proofs.Ytpjpghigilbfaaa

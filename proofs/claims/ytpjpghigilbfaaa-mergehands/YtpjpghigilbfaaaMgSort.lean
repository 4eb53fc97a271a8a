/-
  The program's Sort: slices.Clone, slices.SortFunc.
-/
import Derived.Test.YtpjpghigilbfaaaShelf
import Derived.Test.YtpjpghigilbfaaaEdRow
import Derived.Test.YtpjpghigilbfaaaMgOrd
import Derived.Lib.SliceRun
namespace Go.Proofs.Ytpjpghigilbfaaa
open Go.RowKit Go.Sort Go.Lib
set_option linter.unusedSimpArgs false
set_option linter.unusedVariables false
theorem swoC : SWO (ltOf cmpE) := swoE
theorem sortFunc_any (g cap : Nat) (L : List Ed) (w : World) (h : RowE w g cap L) (hl : L.length ≤ 1000000) :
    Calls Try.prog 22 #[.slice (some ⟨g, 0, none⟩) L.length cap, .func (.func 23) #[] #[]] w fun e w' => e = .returned (.tuple #[]) ∧ RowE w' g cap (srt L) ∧ w.grownBy w' (some g) := by
  have eg : ∀ args w, (callFunc 23 args).run Try.prog w = .ok (.enter 23 args) w := enters_of Try.func23 (by kernel_rfl) rfl
  have hcon := AnyQ.slices_SortFunc (α := Ed) Try.laysSort 3 Try.isAgg29 Try.sizeOf29 Ed.cells (fun _ => rfl) (fun x => one_ed x) cmpE swoC 23 #[] g 0 cap L.toArray w eg (fun _ _ _ _ x y => order_any x y _) h.holds h.lt (by simp; omega)
  change Calls Try.prog 22 _ _ _ at hcon
  simp only [List.size_toArray] at hcon
  refine hcon.mono ?_
  rintro e w' ⟨rfl, d', n, os, hp, hs, rfl⟩
  obtain ⟨hp1, _, hp2⟩ := hp
  simp only [List.size_toArray] at hp1
  have hx1 : d'.extract 0 L.length = d' := by rw [← hp1]; exact Array.extract_size
  have hx2 : L.toArray.extract 0 L.length = L.toArray := by have : L.length = L.toArray.size := by simp
                                                            rw [this]; exact Array.extract_size
  rw [hx1, hx2] at hp2
  have hsr : Srt d'.toList := by
    refine List.pairwise_iff_getElem.2 fun i j hi hj hij => ?_
    have := hs i j (Nat.zero_le _) hij (by simp at hj; omega)
    simp at hi hj
    rw [getElem!_pos d' i hi, getElem!_pos d' j hj] at this
    have this' : ltE d'[j] d'[i] = false := this
    simpa using this'
  have e1 : srt L = d'.toList := srt_of (by simpa using hp2) hsr
  have e2 : d' = (srt L).toArray := by rw [e1]
  rw [e2]
  exact ⟨rfl, h.sortWorld (srt_len L) n os, grown_sortWorld _ n os⟩
theorem sortFunc_none (p : Option Addr) (cap : Nat) (w : World) :
    Calls Try.prog 22 #[.slice p 0 cap, .func (.func 23) #[] #[]] w fun e w' => e = .returned (.tuple #[]) ∧ w' = w :=
  AnyF.slices_SortFunc_none Try.laysSort p cap _ w
/-- Either way. -/
theorem sortFunc_own (v : Value) (base : Nat) (L : List Ed) (w : World) (h : OwnE w base v L) (hl : L.length ≤ 1000000) (hb : base ≤ w.heap.size) :
    Calls Try.prog 22 #[v, .func (.func 23) #[] #[]] w fun e w' => e = .returned (.tuple #[]) ∧ OwnE w' base v (srt L) ∧ Below base w w' := by
  rcases h.forms with ⟨rfl, rfl⟩ | ⟨g, cap, rfl, hg, hr⟩
  · refine (sortFunc_none none 0 w).mono ?_
    rintro e w' ⟨rfl, rfl⟩
    exact ⟨rfl, h, Below.refl _ _⟩
  · refine (sortFunc_any g cap L w hr hl).mono ?_
    rintro e w' ⟨rfl, hr', hg'⟩
    refine ⟨rfl, ?_, (Below.refl _ _).grown hg' hb (fun k hk => by injection hk with hk; omega)⟩
    have := hr'.own hg
    rw [srt_len] at this
    exact this
set_option maxHeartbeats 2000000 in
set_option maxRecDepth 100000 in
theorem clone_any (v : Value) (L : List Ed) (w : World) (h : Eds w v L) (hN : ∀ c, v = .slice none 0 c → c = 0) (hl : L.length ≤ 1000000) :
    Calls Try.prog 21 #[v] w fun e w' => ∃ v', e = .returned v' ∧ OwnE w' w.heap.size v' L ∧ Below w.heap.size w w' := by
  have h' := hide h
  have qn : ∀ (w : World) (a : Option Addr) (n c n' c' : Nat), (binOp .eql 22 (.slice a n c) (.slice none n' c')).run Try.prog w = .ok (.bool a.isNone) w := fun w a n c n' c' => Lib.run_eql_slice_nil w _ _ a n c n' c' Try.underlying22
  obtain ⟨a, c, rfl, h1, h2, h3⟩ := h
  cases a with
  | none =>
    have h0 : L = [] := by
      rcases Nat.eq_zero_or_pos L.length with h | h
      · exact List.eq_nil_of_length_eq_zero h
      · obtain ⟨g, off, e, _⟩ := h3 h; cases e
    subst h0
    replace hN := hide hN
    go_enter Try.func21, Try.ntmps21
    go_wp2
    go_ret
    exact ⟨_, rfl, ownE_nil _ _, Below.refl _ _⟩
  | some a =>
    replace hN := hide hN
    clear h3
    obtain ⟨n, hn⟩ : ∃ n, L.length = n := ⟨_, rfl⟩
    rw [hn] at h' h1 hl ⊢
    go_enter Try.func21, Try.ntmps21
    go_wp2_with (at_builtin; refine wpList_append_eds _ rfl _ _ rfl w.heap.size _ [] rfl ?q1 _ L rfl ?q2 (fun c h => by injection h with h; cases h) ?q3 ?q4 ?_)
    case q1 => exact World.ownsRow_made w #[] 0 (Nat.le_refl _) (Nat.zero_le _) (by simp)
    case q2 => exact (unhide h').below ((Below.refl _ _).alloc (Nat.le_refl _) _)
    case q3 => simp; omega
    case q4 => simp
    intro v' w1 hown hgrow
    go_wp2
    go_ret
    exact ⟨v', rfl, by simpa using hown, ((Below.refl _ w).alloc (Nat.le_refl _) _).grown hgrow (by simp) (by intro k hk; simp [Value.ownBlock] at hk; omega)⟩
set_option maxHeartbeats 2000000 in
set_option maxRecDepth 100000 in
theorem pSort_any (v : Value) (L : List Ed) (w : World) (h : Eds w v L) (hN : ∀ c, v = .slice none 0 c → c = 0) (hl : L.length ≤ 1000000) :
    Calls Try.prog 14 #[v] w fun e w' => ∃ v', e = .returned v' ∧ OwnE w' w.heap.size v' (srt L) ∧ Below w.heap.size w w' := by
  have H1 := hide (clone_any v L w h hN hl)
  replace h := hide h
  replace hN := hide hN
  go_enter Try.func14, Try.ntmps14
  go_wp2_with fail
  refine (unhide H1).mono ?_
  rintro e W1 ⟨v', rfl, ho, hb⟩
  have H2 := hide (sortFunc_own v' w.heap.size L W1 ho hl hb.size)
  replace ho := hide ho
  go_wp2_with fail
  refine (unhide H2).mono ?_
  rintro e W2 ⟨rfl, ho2, hb2⟩
  go_wp2
  go_ret
  exact ⟨v', rfl, ho2, hb.trans hb2⟩
end Go.Proofs.Ytpjpghigilbfaaa

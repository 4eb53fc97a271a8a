/-
  The law MergeAll.
-/
import Derived.Test.YtpjpghigilbfaaaMgBegun
import Derived.Test.YtpjpghigilbfaaaMgSorted
import Derived.Test.YtpjpghigilbfaaaMgEq
import Derived.Test.YtpjpghigilbfaaaEdApp
import Derived.Test.YtpjpghigilbfaaaEdCut
import Derived.Deep.DeepCutAuto
namespace Go.Proofs.Ytpjpghigilbfaaa
open Go.RowKit Go.Lib Go.Sort
set_option linter.unusedSimpArgs false
set_option linter.unusedVariables false
def cutsL (Ls : List (List Ed)) (k : Nat) : List (List Ed) := (Ls.take k).map cutE
theorem cuts_next {Ls : List (List Ed)} {k : Nat} (h : k < Ls.length) : cutsL Ls (k + 1) = cutsL Ls k ++ [cutE (Ls.getD k [])] := by
  rw [cutsL, cutsL, List.take_succ_eq_append_getElem h, List.map_append]
  simp [List.getD, h]
theorem cutE_le (L : List Ed) : (cutE L).length ≤ 12 := by rw [cutE, cutL_len]; omega
theorem cuts_len (Ls : List (List Ed)) (k : Nat) : (cutsL Ls k).length ≤ k := by simp [cutsL]; omega
theorem flat_le (Ls : List (List Ed)) : ((Ls.map cutE).flatten).length ≤ 12 * Ls.length := by
  induction Ls with
  | nil => simp
  | cons L Ls ih =>
    have := cutE_le L
    simp only [List.map_cons, List.flatten_cons, List.length_append, List.length_cons]
    omega
theorem cuts_flat (Ls : List (List Ed)) (k : Nat) : (cutsL Ls k).flatten.length ≤ 12 * k := by
  have h1 := flat_le (Ls.take k)
  have h2 : (Ls.take k).length ≤ k := by simp; omega
  rw [cutsL]
  omega
theorem cuts_i64 {Ls : List (List Ed)} (h : ∀ L ∈ Ls, ∀ e ∈ L, e.wf) (k : Nat) : ∀ e ∈ (cutsL Ls k).flatten, I64 e := by
  intro e he
  obtain ⟨C, hC, he⟩ := List.mem_flatten.1 he
  obtain ⟨L, hL, rfl⟩ := List.mem_map.1 hC
  obtain ⟨d, hd, rfl⟩ := List.mem_map.1 he
  have hw := h L (List.mem_of_mem_take hL) d (List.mem_of_mem_take hd)
  exact ⟨bounds_i64 hw.1, bounds_i64 hw.2.1⟩
/-- The slices of one's own row, each with its own edits. -/
def InS (w : World) (base : Nat) (v v5 : Value) (us : List Value) (Cs : List (List Ed)) : Prop :=
  OwnS w base v us ∧ us.length = Cs.length ∧ ∀ j, j < Cs.length → OwnE w base (us.getD j undef) (Cs.getD j []) ∧ ((us.getD j undef).ownBlock = none ∨ (us.getD j undef).ownBlock ≠ v5.ownBlock)
theorem rowB_kept {w w' : World} {base size n : Nat} {e : TypeId} {v : Value} {xs : List Value} (h : w.ownsRow base e size v n xs) (hb : Below w.heap.size w w') : w'.ownsRow base e size v n xs := by
  refine ⟨h.1, ?_⟩
  rcases h.2 with h1 | ⟨g, cap, cur, hv, hg, hh, h2⟩
  · exact .inl h1
  · exact .inr ⟨g, cap, cur, hv, hg, by rw [hb.block g (Array.getElem?_eq_some_iff.1 hh).1]; exact hh, h2⟩
theorem InS.step {wr W1 W2 W3 : World} {base : Nat} {s4 s5 v4 v5 : Value} {us : List Value} {Cs : List (List Ed)} {C : List Ed} {p : Option Addr} {n7 c7 : Nat} {F : List Ed}
    (h : InS wr base s4 s5 us Cs) (h5 : OwnE wr base s5 F) (hb1 : Below wr.heap.size wr W1) (h7 : OwnE W1 wr.heap.size (.slice p n7 c7) C) (hbase : base ≤ wr.heap.size)
    (hS : OwnS W2 base v4 (us ++ [.slice p n7 c7])) (hg2 : (W1.alloc (.cells #[.slice p n7 c7] 22)).grownBy W2 s4.ownBlock)
    (hg3 : W2.grownBy W3 s5.ownBlock) (hat : v5.ownBlock = s5.ownBlock ∨ v5.ownBlock = some W2.heap.size) : InS W3 base v4 v5 (us ++ [.slice p n7 c7]) (Cs ++ [C]) := by
  obtain ⟨h1, h2, h3⟩ := h
  have hA : Below W1.heap.size W1 (W1.alloc (.cells #[.slice p n7 c7] 22)) := (Below.refl _ _).alloc (Nat.le_refl _) _
  have hSW : OwnS (W1.alloc (.cells #[.slice p n7 c7] 22)) base s4 us := rowB_kept (rowB_kept h1 hb1) hA
  have h5W2 : OwnE W2 base s5 F := World.ownsRow.kept (rowB_kept (rowB_kept h5 hb1) hA) hg2 (own_apart hSW (rowB_kept (rowB_kept h5 hb1) hA))
  have fresh : ∀ (u : Value) (B : Nat) (L : List Ed), OwnE W2 B u L → (u.ownBlock = none ∨ u.ownBlock ≠ s5.ownBlock) → u.ownBlock = none ∨ u.ownBlock ≠ v5.ownBlock := by
    intro u B L hu hne
    cases hk : u.ownBlock with
    | none => exact .inl rfl
    | some k =>
      right
      rcases hat with hat | hat
      · rcases hne with hne | hne
        · rw [hne] at hk; cases hk
        · rw [hat, ← hk]; exact hne
      · rw [hat]
        have := (World.ownsRow.lt hu k hk).2
        simp; omega
  refine ⟨World.ownsRow.kept hS hg3 (own_apart' hS h5W2), by simp [h2], fun j hj => ?_⟩
  simp at hj
  by_cases c : j < Cs.length
  · obtain ⟨k1, k2⟩ := h3 j c
    have e1 : (us ++ [Value.slice p n7 c7]).getD j undef = us.getD j undef := by simp [List.getD, List.getElem?_append_left (show j < us.length by omega)]
    have e2 : (Cs ++ [C]).getD j [] = Cs.getD j [] := by simp [List.getD, List.getElem?_append_left c]
    rw [e1, e2]
    have k3 := rowB_kept (rowB_kept k1 hb1) hA
    have k4 : OwnE W2 base (us.getD j undef) (Cs.getD j []) := World.ownsRow.kept k3 hg2 (own_apart hSW k3)
    exact ⟨World.ownsRow.kept k4 hg3 k2, fresh _ _ _ k4 k2⟩
  · obtain rfl : j = Cs.length := by omega
    have e1 : (us ++ [Value.slice p n7 c7]).getD Cs.length undef = .slice p n7 c7 := by rw [← h2]; simp [List.getD]
    have e2 : (Cs ++ [C]).getD Cs.length [] = C := by simp [List.getD]
    rw [e1, e2]
    have k3 := rowB_kept h7 hA
    have k4 : OwnE W2 wr.heap.size (.slice p n7 c7) C := World.ownsRow.kept k3 hg2 (own_apart hSW k3)
    have k5 : (Value.slice p n7 c7).ownBlock = none ∨ (Value.slice p n7 c7).ownBlock ≠ s5.ownBlock := by
      cases hk : (Value.slice p n7 c7).ownBlock with
      | none => exact .inl rfl
      | some k =>
        right
        intro e
        have a1 := (World.ownsRow.lt k4 k hk).1
        have a2 := (World.ownsRow.lt h5 k e.symm).2
        omega
    have k6 : OwnE W3 wr.heap.size (.slice p n7 c7) C := World.ownsRow.kept k4 hg3 k5
    exact ⟨Joins.ownsRow_le k6 hbase, fresh _ _ _ k4 k5⟩
theorem InS.edss {w : World} {base : Nat} {v v5 : Value} {us : List Value} {Cs : List (List Ed)} (h : InS w base v v5 us Cs) : Edss w v Cs := by
  obtain ⟨h1, h2, h3⟩ := h
  rcases h1.2 with ⟨rfl, h0⟩ | ⟨g, cap, cur, hv, hb, hg, hnc, hcm, hcs, ht⟩
  · have : Cs.length = 0 := by omega
    exact ⟨none, 0, by rw [this], by omega, Nat.zero_le _, fun h => by omega⟩
  · refine ⟨_, cap, by rw [hv, h2], by omega, hcm, fun _ => ⟨g, 0, rfl, (Array.getElem?_eq_some_iff.1 hg).1, fun i hi => ?_⟩⟩
    obtain ⟨k1, _⟩ := h3 i hi
    refine ⟨us.getD i undef, ?_, own_eds k1, k1.notNil⟩
    subst hv
    rw [Nat.zero_add, World.ownsRow.cellAt h1 i (by omega)]
    simp [List.getD, show i < us.length by omega]
theorem Edss.below {w w' : World} {v : Value} {Ls : List (List Ed)} (h : Edss w v Ls) (hb : Below w.heap.size w w') : Edss w' v Ls := by
  obtain ⟨a, c, h1, h2, h3, h4⟩ := h
  refine ⟨a, c, h1, h2, h3, fun h0 => ?_⟩
  obtain ⟨b, off, e, hg, hc⟩ := h4 h0
  refine ⟨b, off, e, Nat.lt_of_lt_of_le hg hb.size, fun i hi => ?_⟩
  obtain ⟨u, k1, k2, k3⟩ := hc i hi
  exact ⟨u, by rw [hb.cell (by exact hg)]; exact k1, k2.below hb, k3⟩
theorem RowE.sub {w : World} {g cap : Nat} {L : List Ed} (h : RowE w g cap L) (i c : Nat) (hi : i < L.length) (hc : 1 ≤ c) (hc2 : c ≤ maxLen := by unfold maxLen; omega) : Eds w (.slice (some ⟨g, i * 3, none⟩) 1 c) [L.getD i ed0] :=
  ⟨_, c, rfl, hc, hc2, fun _ => ⟨g, i * 3, rfl, h.lt, fun j hj => by
    obtain rfl : j = 0 := by simp at hj; omega
    exact h.at i hi⟩⟩
set_option maxHeartbeats 8000000 in
set_option maxRecDepth 100000 in
theorem mergeAll_shell (a0 : Value) (L0 : List (List Ed)) (w : World) (w0 : Edss w a0 L0 ∧ ∀ L ∈ L0, ∀ e ∈ L, e.wf) :
    Calls Try.prog 4 #[a0] w fun e w' => e = .returned (.bool true) ∧ Below w.heap.size w w' := by
  obtain ⟨hE, hwf⟩ := w0
  have HB := hide (begun_any w)
  have hI := hide (cuts_i64 hwf)
  have hsz : Hid (∀ L ∈ L0, ∀ e ∈ L, e.s.size ≤ maxLen) := hide (fun L hL e he => (hwf L hL e he).2.2)
  clear hwf
  obtain ⟨a, c, rfl, h1, h2, h3⟩ := hE
  unfold maxLen at h2
  obtain ⟨n, hn⟩ : ∃ n, L0.length = n := ⟨_, rfl⟩
  rw [hn] at h1 h3 ⊢
  replace h3 := hide h3
  go_enter Try.func4, Try.ntmps4
  go_wp2_with fail
  refine (unhide HB).mono ?_
  rintro e W0 ⟨rfl, hb0⟩
  clear HB
  go_upto_region 6 with fail
  iterate 7 go_step
  go_cut [4, 5] (fun s4 s5 wx => ∃ (i : Nat) (us : List Value), InS wx w.heap.size s4 s5 us (cutsL L0 i) ∧ i ≤ 5 ∧ OwnE wx w.heap.size s5 (cutsL L0 i).flatten ∧ Below w.heap.size w wx)
  case first =>
    go_wp2
    go_loopg [4, 5, 6, 7] 5 (fun gf s4 s5 s6 s7 wx => ∃ (i : Nat) (us : List Value), s6 = .int .i64 i ∧ i + gf = 5 ∧ i ≤ n ∧ InS wx w.heap.size s4 s5 us (cutsL L0 i) ∧ OwnE wx w.heap.size s5 (cutsL L0 i).flatten ∧ Below w.heap.size w wx)
    case atStart => exact ⟨0, [], rfl, by omega, by omega, ⟨ownS_nil _ _, rfl, fun j hj => absurd hj (by simp [cutsL])⟩, ownE_nil _ _, hb0⟩
    case round =>
      obtain ⟨i, us, rfl, hi, hin, hInS, hown, hbw⟩ := hrel
      by_cases hlt : i < n ∧ i < 5
      · obtain ⟨hlt, hl5⟩ := hlt
        have hlz : (i : Int) < n := by omega
        have hlw : (i : Int) < 5 := by omega
        obtain ⟨g', rfl⟩ : ∃ g', gk = g' + 1 := ⟨gk - 1, by omega⟩
        obtain ⟨b, off, rfl, hb, hc⟩ := unhide h3 (by omega)
        obtain ⟨u, hu, hE, hN⟩ := hc i hlt
        rw [← hbw.cell (by exact hb)] at hu
        have hmem : L0.getD i [] ∈ L0 := by simp [List.getD, show i < L0.length by omega]
        have hCut := hide (edCut_any u _ wr (hE.below hbw) (unhide hsz _ hmem))
        have hnx := hide (cuts_next (Ls := L0) (k := i) (by omega))
        have hcl := cutE_le (L0.getD i [])
        have hfl := cuts_flat L0 i
        have hul : us.length ≤ 5 := by have := hInS.2.1; have := cuts_len L0 i; omega
        generalize cutE (L0.getD i []) = C at *
        have hbs := hbw.size
        replace hInS := hide hInS
        replace hown := hide hown
        replace hbw := hide hbw
        clear hc hmem
        have hus : Hid (∃ ua uc, u = .slice ua (L0.getD i []).length uc) := hide (by obtain ⟨ua, uc, h, _⟩ := hE; exact ⟨ua, uc, h⟩)
        clear hE
        replace hN := hide hN
        obtain ⟨ua, un, uc, rfl⟩ : ∃ ua un uc, u = .slice ua un uc := by obtain ⟨ua, uc, h⟩ := unhide hus; exact ⟨ua, _, uc, h⟩
        go_wp2_with fail
        refine (unhide hCut).mono ?_
        rintro e W1 ⟨v7, rfl, ho7, hb1⟩
        obtain ⟨p7, n7, c7, rfl⟩ : ∃ p7 n7 c7, v7 = .slice p7 n7 c7 := by
          rcases ho7.forms with ⟨rfl, _⟩ | ⟨g, cap, rfl, _⟩ <;> exact ⟨_, _, _, rfl⟩
        have hbw1 : Below w.heap.size w W1 := (unhide hbw).trans (hb1.mono hbs)
        have hs1 := hbw1.size
        have hSW1 := hide (rowB_kept (unhide hInS).1 hb1)
        replace ho7 := hide ho7
        replace hb1 := hide hb1
        clear hCut
        go_wp2_with (at_builtin; refine wpList_append_slice W1 rfl _ _ rfl w.heap.size _ us (unhide hSW1) rfl p7 n7 c7 hs1 (by omega) rfl ?_)
        intro v4 W2 hS2 hg2
        have hA : Below W1.heap.size W1 (W1.alloc (.cells #[.slice p7 n7 c7] 22)) := (Below.refl _ _).alloc (Nat.le_refl _) _
        have h5A := rowB_kept (rowB_kept (unhide hown) (unhide hb1)) hA
        have h52 : Hid (OwnE W2 w.heap.size _ (cutsL L0 i).flatten) := hide (World.ownsRow.kept h5A hg2 (own_apart (rowB_kept (unhide hSW1) hA) h5A))
        have h7A := rowB_kept (unhide ho7) hA
        have h72 := hide (own_eds (show OwnE W2 wr.heap.size _ C from World.ownsRow.kept h7A hg2 (own_apart (rowB_kept (unhide hSW1) hA) h7A)))
        have hN7 := hide (unhide ho7).notNil
        have hbw2 : Below w.heap.size w W2 := (hbw1.trans (hA.mono hs1)).grown hg2 (by simp; omega) (fun k hk => (World.ownsRow.lt (unhide hSW1) k hk).1)
        have hs2 := hbw2.size
        replace hS2 := hide hS2
        replace hg2 := hide hg2
        clear h5A h7A hA
        replace hbw1 := hide hbw1
        go_wp2_with (at_builtin; refine wpList_append_eds_at W2 rfl _ _ rfl w.heap.size _ _ rfl (unhide h52) _ C rfl (unhide h72) (unhide hN7) (by omega) hs2 ?_)
        intro v5 W3 ho3 hg3 hat
        have hst := hide (InS.step (unhide hInS) (unhide hown) (unhide hb1) (unhide ho7) hbs (unhide hS2) (unhide hg2) hg3 hat)
        have hbw3 := hide (hbw2.grown hg3 hs2 (fun k hk => (World.ownsRow.lt (unhide h52) k hk).1))
        rw [show (cutsL L0 i).flatten ++ C = (cutsL L0 (i + 1)).flatten by rw [unhide hnx, List.flatten_append]; simp] at ho3
        rw [← unhide hnx] at hst
        replace ho3 := hide ho3
        replace hg3 := hide hg3
        go_wp2
        go_roundg g'
        case measure => omega
        case rel => exact ⟨i + 1, _, by go_num, by omega, by omega, unhide hst, unhide ho3, unhide hbw3⟩
      · have hx : (i < n ∧ i = 5) ∨ ¬ i < n := by omega
        rcases hx with ⟨hx1, hx2⟩ | hx
        · have hlz : (i : Int) < n := by omega
          have hlw : ¬ (i : Int) < 5 := by omega
          go_wp2
          go_meet
          case rel => exact ⟨i, us, hInS, by omega, hown, hbw⟩
        · have hlz : ¬ (i : Int) < n := by omega
          go_wp2
          go_meet
          case rel => exact ⟨i, us, hInS, by omega, hown, hbw⟩
  case rest =>
    obtain ⟨i, us, hInS, hi5, hown, hbw⟩ := hcut
    generalize wc = wr at *
    have hfl := cuts_flat L0 i
    have hcl := cuts_len L0 i
    have hI' := hide (unhide hI i)
    have hEd := hide (InS.edss hInS)
    generalize cutsL L0 i = Cs at *
    have hfl60 : Cs.flatten.length ≤ 60 := by omega
    obtain ⟨F, hF⟩ : ∃ F, Cs.flatten = F := ⟨_, rfl⟩
    have hF' := hide hF
    rw [hF] at hfl60 hown hI' hfl
    clear hF
    have hbs := hbw.size
    have hSo := hide (sorted_any _ F wr (own_eds hown) (by omega))
    replace hInS := hide hInS
    replace hown := hide hown
    replace hbw := hide hbw
    clear hfl
    go_wp2_with fail
    refine (unhide hSo).mono ?_
    rintro e W1 ⟨v8, rfl, ho8, hb1⟩
    have hown1 := rowB_kept (unhide hown) hb1
    have hPs := hide (pSort_any _ F W1 (own_eds hown1) (OwnE.notNil hown1) (by omega))
    replace hown1 := hide hown1
    replace ho8 := hide ho8
    have hs1 := hb1.size
    replace hb1 := hide hb1
    clear hSo
    go_wp2_with fail
    refine (unhide hPs).mono ?_
    rintro e W2 ⟨vS, rfl, hoS, hb2⟩
    have ho82 : OwnE W2 wr.heap.size v8 (srt F) := rowB_kept (unhide ho8) hb2
    have hSl := srt_len F
    have hEq := hide (mlEq_any vS v8 (srt F) (srt F) W2 (own_eds hoS) (own_eds ho82) (by omega) (by omega))
    rw [show decide (srt F = srt F) = true by simp] at hEq
    obtain ⟨m, hm⟩ : ∃ m, F.length = m := ⟨_, rfl⟩
    rw [hm] at hSl hfl60
    obtain ⟨p8, c8, rfl, hr8⟩ : ∃ p8 c8, v8 = .slice p8 m c8 ∧ (0 < m → ∃ g8, p8 = some ⟨g8, 0, none⟩ ∧ RowE W2 g8 c8 (srt F)) := by
      rcases ho82.forms with ⟨rfl, h0⟩ | ⟨g8, c8, rfl, _, h3⟩
      · rw [h0] at hSl; exact ⟨none, 0, by rw [← hSl]; rfl, fun h => by rw [← hSl] at h; simp at h⟩
      · exact ⟨_, c8, by rw [hSl], fun _ => ⟨g8, rfl, h3⟩⟩
    have hs2 := hb2.size
    have hbw2 : Below w.heap.size w W2 := ((unhide hbw).trans ((unhide hb1).mono hbs)).trans (hb2.mono (by omega))
    have hEd2 := hide ((Edss.below (unhide hEd) (unhide hb1)).below hb2)
    have hon : Hid (compactUpTo (srt F).toArray m = once F) := hide (by rw [once, compact, hSl])
    have hgd : Hid (∀ k, (srt F).getD k ed0 = (srt F).toArray[k]!) := hide (fun k => getD_arr (srt F).toArray k)
    generalize srt F = S at *
    replace hr8 := hide hr8
    replace hoS := hide hoS
    replace ho82 := hide ho82
    replace hb2 := hide hb2
    replace hbw2 := hide hbw2
    clear hPs
    go_wp2_with fail
    refine (unhide hEq).mono ?_
    rintro e W3 ⟨rfl, q3, rfl⟩
    clear hEq
    go_upto_region 16 with fail
    iterate 7 go_step
    go_cut [9] (fun s9 wx => OwnE wx W2.heap.size s9 (compactUpTo S.toArray m) ∧ Below W2.heap.size W2 wx)
    case first =>
      go_wp2
      go_loopg [9, 10] m (fun gf s9 s10 wx => ∃ i : Nat, s10 = .int .i64 i ∧ i + gf = m ∧ OwnE wx W2.heap.size s9 (compactUpTo S.toArray i) ∧ Below W2.heap.size W2 wx)
      case atStart => exact ⟨0, rfl, by omega, ownE_nil _ _, below_drewN (Below.refl _ _) _⟩
      case round =>
        obtain ⟨i, rfl, hig, ho9, hb9⟩ := hrel
        by_cases hlt : i < m
        · have hlz : (i : Int) < m := by omega
          obtain ⟨g', rfl⟩ : ∃ g', gk = g' + 1 := ⟨gk - 1, by omega⟩
          obtain ⟨g8, rfl, hrow⟩ := unhide hr8 (by omega)
          replace hrow := hrow.below hb9
          obtain ⟨x0, x1, x2⟩ := hrow.at i (by omega)
          have hroom := hrow.room
          rw [hSl] at hroom
          unfold maxLen at hroom
          have hck : ¬ c8 = i := by omega
          have hsx := hide (compactUpTo_succ S.toArray i)
          have hX : Hid (S.toArray[i]! = S.getD i ed0) := hide (unhide hgd i).symm
          have hcle : Hid ((compactUpTo S.toArray i).length ≤ i) := hide (by rw [compactUpTo, List.length_map]; exact Nat.le_trans (List.length_filter_le _ _) (by rw [List.length_range]; exact Nat.le_refl _))
          replace ho9 := hide ho9
          have hwp1 : IntKind.i64.wrap ((i : Int) + 1) = ((i + 1 : Nat) : Int) := by rw [wrapI _ (by omega) (by omega)]; omega
          by_cases h0 : i = 0
          · have hz : ((i : Int) == 0) = true := by simp [h0]
            have hkp := hide (keeps_lt_one S.toArray i (by omega))
            replace h0 := hide h0
            generalize S.getD i ed0 = X at *
            obtain ⟨xp, xn, xs⟩ := X
            dsimp only at *
            replace hrow := hide hrow
            go_wp2
            go_quiet (fail)
            have hb4 : Below W2.heap.size W2 (wr.drewN nq) := below_drewN hb9 nq
            have ho4 : Hid (OwnE (wr.drewN nq) W2.heap.size _ (compactUpTo S.toArray i)) := hide (unhide ho9)
            have y0 : (wr.drewN nq).cell? ⟨g8, i * 3, none⟩ = some (.int .i64 xp) := x0
            have y1 : (wr.drewN nq).cell? ⟨g8, i * 3 + 1, none⟩ = some (.int .i64 xn) := x1
            have y2 : (wr.drewN nq).cell? ⟨g8, i * 3 + 2, none⟩ = some (.string xs) := x2
            have hs4 := hb4.size
            clear x0 x1 x2
            generalize wr.drewN nq = W4 at *
            go_wp2_with (at_builtin; refine wpList_append_eds _ rfl _ _ rfl W2.heap.size _ (compactUpTo S.toArray i) rfl (World.ownsRow.alloc (unhide ho4) _) _ [⟨xp, xn, xs⟩] rfl (eds_one W4 ⟨xp, xn, xs⟩ (0, 0)) (fun c h => by injection h with h; cases h) (by have := unhide hcle; simp; omega) (by simp; omega) ?_)
            intro v9 W5 ho5 hg5
            have hb5 := hide ((hb4.alloc hs4 (.cells #[.int .i64 xp, .int .i64 xn, .string xs] 29 (0, 0))).grown hg5 (by simp; omega) (fun k hk => (World.ownsRow.lt (unhide ho4) k hk).1))
            rw [show compactUpTo S.toArray i ++ [⟨xp, xn, xs⟩] = compactUpTo S.toArray (i + 1) by rw [unhide hsx, unhide hkp, if_pos rfl, unhide hX]] at ho5
            replace ho5 := hide ho5
            replace hg5 := hide hg5
            go_wp2
            go_roundg g'
            case measure => omega
            case rel => exact ⟨i + 1, by go_num, by omega, unhide ho5, unhide hb5⟩
          · have hz : ((i : Int) == 0) = false := by simpa using h0
            have hwp2 : IntKind.i64.wrap ((i : Int) - 1) = ((i - 1 : Nat) : Int) := by rw [wrapI _ (by omega) (by omega)]; omega
            have hck2 : ¬ c8 = i - 1 := by omega
            have hY : Hid (S.toArray[i - 1]! = S.getD (i - 1) ed0) := hide (unhide hgd (i - 1)).symm
            have hE1 := hrow.sub i (c8 - i) (by omega) (by omega)
            have hE2 := hrow.sub (i - 1) (c8 - (i - 1)) (by omega) (by omega)
            obtain ⟨q, hq⟩ : ∃ q, decide (S.getD i ed0 = S.getD (i - 1) ed0) = q := ⟨_, rfl⟩
            have hEqq : Hid (∀ k, Calls Try.prog 12 #[.slice (some ⟨g8, i * 3, none⟩) 1 (c8 - i), .slice (some ⟨g8, (i - 1) * 3, none⟩) (i - (i - 1)) (c8 - (i - 1))] (wr.drewN k) fun e w'' => e = .returned (.bool q) ∧ ∃ mm, w'' = wr.drewN mm) := hide (fun k => by
              rw [show i - (i - 1) = 1 by omega]
              exact (mlEq_any _ _ [S.getD i ed0] [S.getD (i - 1) ed0] (wr.drewN k) (hE1.below (below_drewN (Below.refl _ _) k)) (hE2.below (below_drewN (Below.refl _ _) k)) (by simp) (by simp)).mono fun e w'' ⟨he, q', hw⟩ => ⟨by rw [he, ← hq]; simp, k + q', by rw [hw, World.drewN_drewN]⟩)
            clear hE1 hE2
            replace hrow := hide hrow
            have hi1 : i + 1 ≤ m := by omega
            cases q with
            | true =>
              have hkp := hide (keeps_neg (d := S.toArray) (m := i) (by omega) (by rw [unhide hX, unhide hY]; simpa using hq))
              replace hq := hide hq
              replace h0 := hide h0
              go_wp2
              go_quiet (first | (go_at_call 12; exact unhide hEqq _))
              go_wp2
              go_roundg g'
              case measure => omega
              case rel => exact ⟨i + 1, by go_num, by omega, by rw [unhide hsx, unhide hkp, if_neg (by simp), List.append_nil]; exact unhide ho9, below_drewN hb9 _⟩
            | false =>
              have hkp := hide (keeps_pos (d := S.toArray) (m := i) (by rw [unhide hX, unhide hY]; simpa using hq))
              replace hq := hide hq
              replace h0 := hide h0
              generalize S.getD i ed0 = X at *
              obtain ⟨xp, xn, xs⟩ := X
              dsimp only at *
              go_wp2
              go_quiet (first | (go_at_call 12; exact unhide hEqq _))
              have hb4 : Below W2.heap.size W2 (wr.drewN nq) := below_drewN hb9 nq
              have ho4 : Hid (OwnE (wr.drewN nq) W2.heap.size _ (compactUpTo S.toArray i)) := hide (unhide ho9)
              have y0 : (wr.drewN nq).cell? ⟨g8, i * 3, none⟩ = some (.int .i64 xp) := x0
              have y1 : (wr.drewN nq).cell? ⟨g8, i * 3 + 1, none⟩ = some (.int .i64 xn) := x1
              have y2 : (wr.drewN nq).cell? ⟨g8, i * 3 + 2, none⟩ = some (.string xs) := x2
              have hs4 := hb4.size
              clear x0 x1 x2
              generalize wr.drewN nq = W4 at *
              go_wp2_with (at_builtin; refine wpList_append_eds _ rfl _ _ rfl W2.heap.size _ (compactUpTo S.toArray i) rfl (World.ownsRow.alloc (unhide ho4) _) _ [⟨xp, xn, xs⟩] rfl (eds_one W4 ⟨xp, xn, xs⟩ (0, 0)) (fun c h => by injection h with h; cases h) (by have := unhide hcle; simp; omega) (by simp; omega) ?_)
              intro v9 W5 ho5 hg5
              have hb5 := hide ((hb4.alloc hs4 (.cells #[.int .i64 xp, .int .i64 xn, .string xs] 29 (0, 0))).grown hg5 (by simp; omega) (fun k hk => (World.ownsRow.lt (unhide ho4) k hk).1))
              rw [show compactUpTo S.toArray i ++ [⟨xp, xn, xs⟩] = compactUpTo S.toArray (i + 1) by rw [unhide hsx, unhide hkp, if_pos rfl, unhide hX]] at ho5
              replace ho5 := hide ho5
              replace hg5 := hide hg5
              go_wp2
              go_roundg g'
              case measure => omega
              case rel => exact ⟨i + 1, by go_num, by omega, unhide ho5, unhide hb5⟩
        · have hlz : ¬ (i : Int) < m := by omega
          obtain rfl : i = m := by omega
          go_wp2
          go_meet
          case rel => exact ⟨ho9, hb9⟩
    case rest =>
      obtain ⟨ho9, hb9⟩ := hcut
      rw [unhide hon] at ho9
      have hO := once_len F
      have hIO : ∀ e ∈ once F, I64 e := fun e he => unhide hI' e ((once_mem F e).1 he)
      have hAll := hide (pAll_any u4 Cs wc ((unhide hEd2).below hb9) (by rw [unhide hF']; omega) (by omega) (by rw [unhide hF']; exact unhide hI'))
      rw [unhide hF'] at hAll
      clear hon hI' hgd
      have hFO : Hid (Hid True) := hide (hide trivial)
      generalize once F = O at *
      obtain ⟨M, hM⟩ : ∃ M, mayB O maxI = M := ⟨_, rfl⟩
      rw [hM] at hAll
      obtain ⟨k, hk⟩ : ∃ k, O.length = k := ⟨_, rfl⟩
      have hmay : Hid (M = mayK O maxI k) := hide (by rw [← hM, mayB, hk])
      replace hIO := hide hIO
      clear hM
      have hbs9 := hb9.size
      replace ho9 := hide ho9
      replace hb9 := hide hb9
      rw [hm] at hO
      rw [hk] at hO
      go_wp2_with fail
      refine (unhide hAll).mono ?_
      rintro e W4 ⟨v11, rfl, ho11, hb4⟩
      clear hAll
      have hbw4 : Hid (Below w.heap.size w W4) := hide (((unhide hbw2).trans ((unhide hb9).mono (by have := (unhide hbw2).size; omega))).trans (hb4.mono (by have := (unhide hbw2).size; omega)))
      have ho94 : OwnE W4 W2.heap.size u9 O := rowB_kept (unhide ho9) hb4
      obtain ⟨p9, c9, rfl, hr9⟩ : ∃ p9 c9, u9 = .slice p9 k c9 ∧ (0 < k → ∃ g9, p9 = some ⟨g9, 0, none⟩ ∧ RowE W4 g9 c9 O) := by
        rcases ho94.forms with ⟨rfl, h0⟩ | ⟨g9, c9, rfl, _, h3⟩
        · rw [h0] at hk; exact ⟨none, 0, by rw [← hk]; rfl, fun h => by rw [← hk] at h; simp at h⟩
        · exact ⟨_, c9, by rw [hk], fun _ => ⟨g9, rfl, h3⟩⟩
      obtain ⟨p11, n11, c11, rfl, hn11⟩ : ∃ p11 n11 c11, v11 = .slice p11 n11 c11 ∧ (M = false → n11 = 0) := by
        rcases ho11.forms with ⟨rfl, h0⟩ | ⟨g, cap, rfl, _, _⟩
        · exact ⟨none, 0, 0, rfl, fun _ => rfl⟩
        · exact ⟨_, _, cap, rfl, fun h => by rw [h]; rfl⟩
      have hEq := hide (fun (h : M = true) (W : World) (hW : Below W4.heap.size W4 W) => mlEq_any (.slice p11 n11 c11) (.slice p9 k c9) O O W ((own_eds (by rw [h] at ho11; exact ho11)).below hW) ((own_eds ho94).below hW) (by omega) (by omega))
      replace hr9 := hide hr9
      replace ho94 := hide ho94
      replace ho11 := hide ho11
      replace hn11 := hide hn11
      have hs4 := hb4.size
      replace hb4 := hide hb4
      go_upto_region 22 with fail
      iterate 7 go_step
      go_wp2
      go_loopg [13] k (fun gf s13 wx => ∃ i : Nat, s13 = .int .i64 i ∧ i + gf = k ∧ mayK O maxI i = true ∧ Below W4.heap.size W4 wx)
      case atStart => exact ⟨0, rfl, by omega, rfl, Below.refl _ _⟩
      case round =>
        obtain ⟨i, rfl, hig, hmi, hbi⟩ := hrel
        by_cases hlt : i < k
        · have hlz : (i : Int) < k := by omega
          obtain ⟨g', rfl⟩ : ∃ g', gk = g' + 1 := ⟨gk - 1, by omega⟩
          obtain ⟨g9, rfl, hrow0⟩ := unhide hr9 (by omega)
          have hrow := hrow0.below hbi
          have hgl : g9 < wr.heap.size := hrow.lt
          obtain ⟨x0, x1, x2⟩ := hrow.at i (by omega)
          have hmem : O.getD i ed0 ∈ O := by simp [List.getD, show i < O.length by omega]
          have hri := unhide hIO _ hmem
          have hstep : Hid (mayK O maxI (i + 1) = (mayK O maxI i && okE maxI (O.getD i ed0) && (i == 0 || gapE (O.getD (i - 1) ed0) (O.getD i ed0)))) := hide rfl
          have hno : Hid (mayK O maxI (i + 1) = false → M = false) := hide (fun h => by rw [unhide hmay]; exact mayK_not (by omega) h)
          have hprev : Hid (0 < i → okE maxI (O.getD (i - 1) ed0) = true ∧ EdAt wr g9 ((i - 1) * 3) (O.getD (i - 1) ed0)) := hide (fun h => ⟨(mayK_at (show i - 1 < i by omega) hmi).1, hrow.at (i - 1) (by omega)⟩)
          have hroom := hrow.room
          rw [hk] at hroom
          unfold maxLen at hroom
          clear hrow hrow0 hmem
          obtain ⟨E, hE⟩ : ∃ E, O.getD i ed0 = E := ⟨_, rfl⟩
          rw [hE] at x0 x1 x2 hri hstep
          replace hE := hide hE
          obtain ⟨ep, en, es⟩ := E
          dsimp only at x0 x1 x2
          obtain ⟨⟨r1, r2⟩, r3, r4⟩ := hri
          dsimp only at r1 r2 r3 r4
          go_upto_region 26 with fail
          have hba : Below W4.heap.size W4 (wr.alloc (.cells #[.int .i64 ep, .int .i64 en, .string es] 29 (0, 0))) := hbi.alloc hbi.size _
          obtain ⟨W5, hW5⟩ : ∃ W5, wr.alloc (.cells #[.int .i64 ep, .int .i64 en, .string es] 29 (0, 0)) = W5 := ⟨_, rfl⟩
          obtain ⟨gb, hgb⟩ : ∃ gb, wr.heap.size = gb := ⟨_, rfl⟩
          have b0 : W5.cell? ⟨gb, 0, none⟩ = some (.int .i64 ep) := by rw [← hW5, ← hgb]; exact cell_alloc_at wr #[.int .i64 ep, .int .i64 en, .string es] 29 0 (by simp)
          have b1 : W5.cell? ⟨gb, 1, none⟩ = some (.int .i64 en) := by rw [← hW5, ← hgb]; exact cell_alloc_at wr #[.int .i64 ep, .int .i64 en, .string es] 29 1 (by simp)
          have hold : Hid (∀ o, W5.cell? ⟨g9, o, none⟩ = wr.cell? ⟨g9, o, none⟩) := hide (fun o => by rw [← hW5]; exact ((Below.refl _ _).alloc (Nat.le_refl _) _ : Below wr.heap.size wr _).cell (p := ⟨g9, o, none⟩) (by exact hgl))
          rw [hW5] at hba ⊢
          rw [hgb] at ⊢
          replace hW5 := hide hW5
          replace hgb := hide hgb
          clear x0 x1 x2 hgl
          by_cases q1 : ep < 0
          · have hd1 : decide (ep < 0) = true := decide_eq_true q1
            have hM := unhide hno (by
              rw [unhide hstep]
              have hk0 : okE maxI ⟨ep, en, es⟩ = false := by
                cases h : okE maxI ⟨ep, en, es⟩ with
                | false => rfl
                | true => have := okE_iff.1 h; unfold maxI at this; dsimp only at this; omega
              rw [hk0]; simp)
            subst hM
            obtain rfl := unhide hn11 rfl
            clear hstep hno hprev
            go_quiet (fail)
            go_wp2
            go_ret
            exact ⟨rfl, (unhide hbw4).trans ((below_drewN hba _).mono (by have := (unhide hbw4).size; omega))⟩
          have hd1 : decide (ep < 0) = false := decide_eq_false q1
          by_cases q2 : en < 0
          · have hd2 : decide (en < 0) = true := decide_eq_true q2
            have hM := unhide hno (by
              rw [unhide hstep]
              have hk0 : okE maxI ⟨ep, en, es⟩ = false := by
                cases h : okE maxI ⟨ep, en, es⟩ with
                | false => rfl
                | true => have := okE_iff.1 h; unfold maxI at this; dsimp only at this; omega
              rw [hk0]; simp)
            subst hM
            obtain rfl := unhide hn11 rfl
            clear hstep hno hprev
            go_quiet (fail)
            go_wp2
            go_ret
            exact ⟨rfl, (unhide hbw4).trans ((below_drewN hba _).mono (by have := (unhide hbw4).size; omega))⟩
          have hd2 : decide (en < 0) = false := decide_eq_false q2
          have hsub : IntKind.i64.wrap (9223372036854775807 - ep) = 9223372036854775807 - ep := wrapI _ (by omega) (by omega)
          by_cases q3 : 9223372036854775807 - ep < en
          · have hd3 : decide (9223372036854775807 - ep < en) = true := decide_eq_true q3
            have hM := unhide hno (by
              rw [unhide hstep]
              have hk0 : okE maxI ⟨ep, en, es⟩ = false := by
                cases h : okE maxI ⟨ep, en, es⟩ with
                | false => rfl
                | true => have := okE_iff.1 h; unfold maxI at this; dsimp only at this; omega
              rw [hk0]; simp)
            subst hM
            obtain rfl := unhide hn11 rfl
            clear hstep hno hprev
            go_quiet (fail)
            go_wp2
            go_ret
            exact ⟨rfl, (unhide hbw4).trans ((below_drewN hba _).mono (by have := (unhide hbw4).size; omega))⟩
          have hd3 : decide (9223372036854775807 - ep < en) = false := decide_eq_false q3
          have hok : Hid (okE maxI ⟨ep, en, es⟩ = true) := hide (okE_iff.2 ⟨by dsimp only; omega, by dsimp only; omega, by unfold maxI; dsimp only; omega, by unfold maxI; dsimp only; omega⟩)
          by_cases hi0 : i = 0
          · have hf : Hid (mayK O maxI (i + 1) = true) := hide (by rw [unhide hstep, hmi, unhide hok, hi0]; rfl)
            have hip : ¬ (0 : Int) < i := by omega
            have hd5 : decide ((0 : Int) < i) = false := decide_eq_false hip
            have hipn : ¬ 0 < i := by omega
            have hd5n : decide (0 < i) = false := decide_eq_false hipn
            clear hstep hno hprev
            replace hi0 := hide hi0
            go_quiet (fail)
            go_wp2
            go_roundg g'
            case measure => omega
            case rel => exact ⟨i + 1, by go_num, by omega, unhide hf, below_drewN hba _⟩
          have hip : 0 < i := by omega
          have hipz : (0 : Int) < i := by omega
          have hd5 : decide ((0 : Int) < i) = true := decide_eq_true hipz
          obtain ⟨hpo, hpr⟩ := unhide hprev hip
          obtain ⟨D, hD⟩ : ∃ D, O.getD (i - 1) ed0 = D := ⟨_, rfl⟩
          rw [hD] at hpo hpr hstep
          obtain ⟨dp, dn, ds⟩ := D
          obtain ⟨p1, p2, p3, p4⟩ := okE_iff.1 hpo
          unfold maxI at p3 p4
          dsimp only at p1 p2 p3 p4
          obtain ⟨y0, y1, y2⟩ := hpr
          dsimp only at y0 y1
          rw [← unhide hold] at y0 y1
          obtain ⟨i1, hi1⟩ : ∃ i1, i - 1 = i1 := ⟨_, rfl⟩
          rw [hi1] at y0 y1
          have hm1 : IntKind.i64.wrap ((i : Int) - 1) = (i1 : Int) := by rw [wrapI _ (by omega) (by omega)]; omega
          have hm2 : (i : Int) - 1 = (i1 : Int) := by omega
          have hi1z : (i1 : Int) < k := by omega
          have hsub2 : IntKind.i64.wrap (ep - dp) = ep - dp := wrapI _ (by omega) (by omega)
          clear hprev hpo y2 hD
          replace hi1 := hide hi1
          by_cases q5 : ep ≤ dp
          · have hd6 : decide (ep ≤ dp) = true := decide_eq_true q5
            have hM := unhide hno (by
              rw [unhide hstep]
              have hk0 : gapE ⟨dp, dn, ds⟩ ⟨ep, en, es⟩ = false := by
                cases h : gapE ⟨dp, dn, ds⟩ ⟨ep, en, es⟩ with
                | false => rfl
                | true => have := gapE_iff.1 h; dsimp only at this; omega
              rw [hk0, beq_false_of_ne hi0]; simp)
            subst hM
            obtain rfl := unhide hn11 rfl
            clear hstep hno
            go_quiet (fail)
            go_wp2
            go_ret
            exact ⟨rfl, (unhide hbw4).trans ((below_drewN hba _).mono (by have := (unhide hbw4).size; omega))⟩
          have hd6 : decide (ep ≤ dp) = false := decide_eq_false q5
          by_cases q6 : ep - dp ≤ dn
          · have hd7 : decide (ep - dp ≤ dn) = true := decide_eq_true q6
            have hM := unhide hno (by
              rw [unhide hstep]
              have hk0 : gapE ⟨dp, dn, ds⟩ ⟨ep, en, es⟩ = false := by
                cases h : gapE ⟨dp, dn, ds⟩ ⟨ep, en, es⟩ with
                | false => rfl
                | true => have := gapE_iff.1 h; dsimp only at this; omega
              rw [hk0, beq_false_of_ne hi0]; simp)
            subst hM
            obtain rfl := unhide hn11 rfl
            clear hstep hno
            go_quiet (fail)
            go_wp2
            go_ret
            exact ⟨rfl, (unhide hbw4).trans ((below_drewN hba _).mono (by have := (unhide hbw4).size; omega))⟩
          have hd7 : decide (ep - dp ≤ dn) = false := decide_eq_false q6
          have hf : Hid (mayK O maxI (i + 1) = true) := hide (by
            rw [unhide hstep, hmi, unhide hok, gapE_iff.2 ⟨by dsimp only; omega, by dsimp only; omega⟩]; simp)
          clear hstep hno
          replace hi0 := hide hi0
          go_quiet (fail)
          go_wp2
          go_roundg g'
          case measure => omega
          case rel => exact ⟨i + 1, by go_num, by omega, unhide hf, below_drewN hba _⟩
        · have hlz : ¬ (i : Int) < k := by omega
          obtain rfl : i = k := by omega
          have hM : M = true := by rw [unhide hmay]; exact hmi
          subst hM
          have hE : Hid (Calls Try.prog 12 #[.slice p11 n11 c11, .slice p9 i c9] wr fun e w' => e = .returned (.bool true) ∧ ∃ q, w' = wr.drewN q) := hide ((unhide hEq rfl wr hbi).mono fun e w' h => ⟨by rw [h.1]; simp, h.2⟩)
          clear hEq hmay
          replace hmi := hide hmi
          go_wp2_with fail
          refine (unhide hE).mono ?_
          rintro e W6 ⟨rfl, q6, rfl⟩
          go_wp2
          go_ret
          exact ⟨rfl, (unhide hbw4).trans ((below_drewN hbi _).mono (by have := (unhide hbw4).size; omega))⟩
end Go.Proofs.Ytpjpghigilbfaaa

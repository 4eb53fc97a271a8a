/-
  ScopeBack's walk.
-/
import Derived.Test.YtlmfoieolomcfaaSpIntL
import Derived.Test.YtlmfoieolomcfaaSpBegun
import Derived.Test.YtlmfoieolomcfaaStrArg
import Derived.Test.YtlmfoieolomcfaaCutS
import Derived.LoopTactic
import Derived.BigQuiet
import Derived.Deep.DeepCutAuto
import Derived.Deep.LoopGhost
namespace Go.Proofs.Ytlmfoieolomcfaa
open Go.RowKit Go.Maps Go.Lib Go.WideMaps
set_option linter.unusedSimpArgs false
set_option linter.unusedVariables false
theorem strs_ofS : ∀ L : List Value, (∀ x ∈ L, ∃ s : ByteArray, x = .string s ∧ s.size ≤ maxLen) → ∃ l : List ByteArray, L = l.map Value.string ∧ ∀ s ∈ l, s.size ≤ maxLen
  | [], _ => ⟨[], rfl, by simp⟩
  | x :: L, h => by
    obtain ⟨s, rfl, hs⟩ := h x (by simp)
    obtain ⟨l, rfl, hl⟩ := strs_ofS L (fun y hy => h y (by simp [hy]))
    exact ⟨s :: l, rfl, fun y hy => by
      rcases List.mem_cons.1 hy with rfl | h2
      · exact hs
      · exact hl y h2⟩
/-- An array of fifteen numbers, the first n of them told. -/
def Was (w : World) (z n : Nat) (f : Nat → Int) : Prop := ∃ cs t, w.heap[z]? = some (.cells cs t (0, 0)) ∧ cs.size = 15 ∧ ∀ j, j < n → cs[j]? = some (.int .i64 (f j))
theorem Was.cell {w : World} {z n : Nat} {f : Nat → Int} (h : Was w z n f) {j : Nat} (hj : j < n) : w.cell? ⟨z, j, none⟩ = some (.int .i64 (f j)) := by
  obtain ⟨cs, t, h1, h2, h3⟩ := h
  simp [World.cell?, h1, h3 j hj]
theorem Was.some {w : World} {z n : Nat} {f : Nat → Int} (h : Was w z n f) {j : Nat} (hj : j < 15) : (∃ x, w.cell? ⟨z, j, none⟩ = some x) ∧ w.frozen? ⟨z, j, none⟩ = false := by
  obtain ⟨cs, t, h1, h2, h3⟩ := h
  exact ⟨⟨cs[j], by simp [World.cell?, h1, h2, hj]⟩, Joins.unfrozen_of_block h1 j⟩
theorem Was.set {w : World} {z n : Nat} {f : Nat → Int} (h : Was w z n f) (hn : n < 15) : Was (w.setCell ⟨z, n, none⟩ (.int .i64 (f n))) z (n + 1) f := by
  obtain ⟨cs, t, h1, h2, h3⟩ := h
  refine ⟨_, t, Joins.block_setCell (i := n) h1 _, by simp [h2], fun j hj => ?_⟩
  rw [Array.getElem?_setIfInBounds]
  by_cases he : n = j
  · subst he; simp [h2, hn]
  · rw [if_neg he]; exact h3 j (by omega)
theorem Was.same {w w' : World} {z n : Nat} {f : Nat → Int} {M : List Nat} (h : Was w z n f) (hz : z ∈ M) (hs : SameM M w w') : Was w' z n f := by
  obtain ⟨cs, t, h1, h2, h3⟩ := h
  exact ⟨cs, t, (hs.2 z hz).trans h1, h2, h3⟩
theorem Was.drewN {w : World} {z n : Nat} {f : Nat → Int} (h : Was w z n f) (q : Nat) : Was (w.drewN q) z n f := h
def tkF (es : List En) (s : ByteArray) : Int := match fnd s es 0 with
  | some e => e.t
  | none => 0
theorem fnd_in {s : ByteArray} {es : List En} (h : 0 ≤ plc s es) : ∃ e, fnd s es 0 = some e ∧ e ∈ es ∧ tkF es s = e.t := by
  obtain ⟨i, hi, hp, hf⟩ := fnd_some h h
  have hf0 : fnd s es 0 = some es[i] := by
    unfold fnd at hf ⊢
    rw [if_pos ⟨h, h⟩] at hf
    rw [if_pos ⟨h, h⟩]
    exact hf
  exact ⟨_, hf0, List.getElem_mem _, by unfold tkF; rw [hf0]⟩
theorem fnd_tail {s : ByteArray} {es inn : List En} (h : (es.length : Int) ≤ plc s (es ++ inn)) : ∃ e, fnd s (es ++ inn) 0 = some e ∧ e ∈ inn := by
  have h0 : 0 ≤ plc s (es ++ inn) := by omega
  obtain ⟨i, hi, hp, hf⟩ := fnd_some h0 h0
  have hf0 : fnd s (es ++ inn) 0 = some (es ++ inn)[i] := by
    unfold fnd at hf ⊢
    rw [if_pos ⟨h0, h0⟩] at hf
    rw [if_pos ⟨h0, h0⟩]
    exact hf
  refine ⟨_, hf0, ?_⟩
  rw [List.getElem_append_right (by omega)]
  exact List.getElem_mem _
theorem plc_keep {s : ByteArray} {es : List En} (e : En) (h : 0 ≤ plc s es) : 0 ≤ plc s (es ++ [e]) := by
  rw [plc_snoc]
  split <;> omega
def nmB (l : List ByteArray) (i : Nat) : ByteArray := cutS (l.getD i ⟨#[]⟩) 10
theorem nmB_le (l : List ByteArray) (i : Nat) : (nmB l i).size ≤ 10 := cutS_le _ _
set_option maxHeartbeats 8000000 in
set_option maxRecDepth 100000 in
theorem scopeBack_shell (a0 : Value) (L0 : List Value) (a1 : Value) (L1 : List Value) (w : World) (w0 : Row1 w a0 L0 ∧ ∀ x ∈ L0, ∃ s : ByteArray, x = .string s ∧ s.size ≤ maxLen) (w1 : Row1 w a1 L1 ∧ ∀ x ∈ L1, ∃ s : ByteArray, x = .string s ∧ s.size ≤ maxLen) :
    Calls Try.prog 4 #[a0, a1] w fun e w' => e = .returned (.bool true) ∧ Below w.heap.size w w' := by
  obtain ⟨hrow, hall⟩ := w0
  obtain ⟨l0, rfl, hm0⟩ := strs_ofS L0 hall
  clear hall
  obtain ⟨al0, cl0, rfl, hc10, hc20, hc3⟩ := hrow
  rw [List.length_map] at hc10 hc3
  unfold maxLen at hc20
  have hcell0 : 0 < l0.length → ∃ b off, al0 = some ⟨b, off, none⟩ ∧ ∀ (W : World), Below w.heap.size w W → ∀ i, i < l0.length → W.cell? ⟨b, off + i, none⟩ = some (.string (l0.getD i ⟨#[]⟩)) := fun h0 => by
    obtain ⟨b, off, e, hb, hc⟩ := hc3 h0
    refine ⟨b, off, e, fun W hW i hi => ?_⟩
    rw [hW.cell (by exact hb), hc i hi]
    simp [List.getD, hi]
  clear hc3
  have hmz0 : ∀ i, i < l0.length → (l0.getD i ⟨#[]⟩).size ≤ maxLen := fun i hi => by
    rw [show l0.getD i ⟨#[]⟩ = l0[i] by simp [List.getD, hi]]
    exact hm0 _ (List.getElem_mem _)
  have hcut0 : ∀ i, i < l0.length → ∀ W, Calls Try.prog 9 #[.string (l0.getD i ⟨#[]⟩), .int .i64 10] W fun e w' => e = .returned (.string (nmB l0 i)) ∧ w' = W := fun i hi W => cut_any _ 10 W (hmz0 i hi) (by decide)
  have hnm0 := nmB_le l0
  obtain ⟨n0, hn0⟩ : ∃ n, min 15 l0.length = n := ⟨_, rfl⟩
  have hnl0 : n0 ≤ l0.length := by omega
  have hn150 : n0 ≤ 15 := by omega
  clear hm0 hmz0
  obtain ⟨len0, hlen0⟩ : ∃ len, l0.length = len := ⟨_, rfl⟩
  rw [hlen0] at hn0 hnl0 hcell0 hcut0 hc10
  replace hcell0 := hide hcell0
  replace hcut0 := hide hcut0
  replace hnm0 := hide hnm0
  obtain ⟨hrow, hall⟩ := w1
  obtain ⟨l1, rfl, hm1⟩ := strs_ofS L1 hall
  clear hall
  obtain ⟨al1, cl1, rfl, hc11, hc21, hc3⟩ := hrow
  rw [List.length_map] at hc11 hc3
  unfold maxLen at hc21
  have hcell1 : 0 < l1.length → ∃ b off, al1 = some ⟨b, off, none⟩ ∧ ∀ (W : World), Below w.heap.size w W → ∀ i, i < l1.length → W.cell? ⟨b, off + i, none⟩ = some (.string (l1.getD i ⟨#[]⟩)) := fun h0 => by
    obtain ⟨b, off, e, hb, hc⟩ := hc3 h0
    refine ⟨b, off, e, fun W hW i hi => ?_⟩
    rw [hW.cell (by exact hb), hc i hi]
    simp [List.getD, hi]
  clear hc3
  have hmz1 : ∀ i, i < l1.length → (l1.getD i ⟨#[]⟩).size ≤ maxLen := fun i hi => by
    rw [show l1.getD i ⟨#[]⟩ = l1[i] by simp [List.getD, hi]]
    exact hm1 _ (List.getElem_mem _)
  have hcut1 : ∀ i, i < l1.length → ∀ W, Calls Try.prog 9 #[.string (l1.getD i ⟨#[]⟩), .int .i64 10] W fun e w' => e = .returned (.string (nmB l1 i)) ∧ w' = W := fun i hi W => cut_any _ 10 W (hmz1 i hi) (by decide)
  have hnm1 := nmB_le l1
  obtain ⟨n1, hn1⟩ : ∃ n, min 15 l1.length = n := ⟨_, rfl⟩
  have hnl1 : n1 ≤ l1.length := by omega
  have hn151 : n1 ≤ 15 := by omega
  clear hm1 hmz1
  obtain ⟨len1, hlen1⟩ : ∃ len, l1.length = len := ⟨_, rfl⟩
  rw [hlen1] at hn1 hnl1 hcell1 hcut1 hc11
  replace hcell1 := hide hcell1
  replace hcut1 := hide hcut1
  replace hnm1 := hide hnm1
  rw [List.length_map, List.length_map, hlen0, hlen1]
  replace hlen0 := hide hlen0
  replace hlen1 := hide hlen1
  have HB := fun w => slScope_any w
  have HN := fun w => lsNew w
  replace HB := hide HB
  replace HN := hide HN
  go_enter Try.func4, Try.ntmps4
  go_wp2_with fail
  refine (unhide HB _).mono ?_
  rintro e W1 ⟨rfl, hb1⟩
  clear HB
  go_wp2_with fail
  refine (unhide HN _).mono ?_
  rintro e W2 ⟨rfl, hL, hb2⟩
  clear HN
  obtain ⟨g, hg⟩ : ∃ x, W1.heap.size = x := ⟨_, rfl⟩
  rw [hg] at hL
  replace hL := hL.base hb1
  clear hb1 hb2
  go_upto_region 5 with fail
  iterate 7 go_step
  go_cut [7] (fun s7 wx => ∃ es, LS w wx g [] es [] 30 ∧ Hid (∀ j, j < n0 → 0 ≤ plc (nmB l0 j) es) ∧ Hid (∀ e ∈ es, e.f = 1))
  case first =>
    go_wp2
    go_loopg [7] n0 (fun gf s7 wx => ∃ (i : Nat) (es : List En), s7 = .int .i64 i ∧ i + gf = n0 ∧ LS w wx g [] es [] (2 * i) ∧ Hid (∀ j, j < i → 0 ≤ plc (nmB l0 j) es) ∧ Hid (∀ e ∈ es, e.f = 1))
    case atStart => exact ⟨0, [], rfl, by omega, hL, hide (fun j hj => by omega), hide (fun e he => by cases he)⟩
    case round =>
      clear hL
      obtain ⟨i, es, rfl, hig, hL, hpl, hf⟩ := hrel
      by_cases hlt : i < n0
      · have hl1 : (i : Int) < len0 := by omega
        have hl2 : (i : Int) < 15 := by omega
        have hl0 : (0 : Int) ≤ i := by omega
        obtain ⟨g', rfl⟩ : ∃ g', gk = g' + 1 := ⟨gk - 1, by omega⟩
        obtain ⟨b, off, rfl, hcl⟩ := unhide hcell0 (by omega)
        have hcx := hcl _ hL.1 i (by omega)
        have hC := hide (unhide hcut0 i (by omega))
        have hz := unhide hnm0 i
        clear hcl
        generalize l0.getD i ⟨#[]⟩ = T at hcx hC
        have hA := lsAdd hL (by omega) (nmB l0 i) (by omega) 1 i 0
        rw [beg_nil] at hA
        by_cases hp : plc (nmB l0 i) es < ((0 : Nat) : Int)
        · simp only [hp, if_true] at hA
          have hpl' : Hid (∀ j, j < i + 1 → 0 ≤ plc (nmB l0 j) (es ++ [⟨nmB l0 i, 1, i, 0, plc (nmB l0 i) es⟩])) := hide (fun j hj => by
            by_cases hji : j = i
            · subst hji; rw [plc_snoc, if_pos rfl]; omega
            · exact plc_keep _ (unhide hpl j (by omega)))
          have hf' : Hid (∀ e ∈ es ++ [⟨nmB l0 i, 1, i, 0, plc (nmB l0 i) es⟩], e.f = 1) := hide (fun e he => by
            rcases List.mem_append.1 he with h1 | h1
            · exact unhide hf e h1
            · simp at h1; subst h1; rfl)
          replace hA := hide hA
          clear hL hp hpl hf
          go_wp2_with fail
          refine (unhide hC _).mono ?_
          rintro e W3 ⟨rfl, rfl⟩
          clear hC
          go_wp2_with fail
          refine (unhide hA).mono ?_
          rintro e W4 ⟨rfl, hL, _⟩
          replace hL := hide (hL.q (show 2 * i + 2 ≤ 2 * (i + 1) by omega))
          clear hA
          go_wp2
          go_roundg g'
          case measure => omega
          case rel => exact ⟨i + 1, _, by go_num, by omega, unhide hL, hpl', hf'⟩
        · simp only [hp, if_false] at hA
          have hpl' : Hid (∀ j, j < i + 1 → 0 ≤ plc (nmB l0 j) es) := hide (fun j hj => by
            by_cases hji : j = i
            · subst hji; omega
            · exact unhide hpl j (by omega))
          replace hA := hide hA
          clear hL hp hpl
          go_wp2_with fail
          refine (unhide hC _).mono ?_
          rintro e W3 ⟨rfl, rfl⟩
          clear hC
          go_wp2_with fail
          refine (unhide hA).mono ?_
          rintro e W4 ⟨rfl, hL, _⟩
          replace hL := hide (hL.q (show 2 * i ≤ 2 * (i + 1) by omega))
          clear hA
          go_wp2
          go_roundg g'
          case measure => omega
          case rel => exact ⟨i + 1, _, by go_num, by omega, unhide hL, hpl', hf⟩
      · obtain rfl : i = n0 := by omega
        have hx : (i : Int) < len0 → ¬ (i : Int) < 15 := fun h h' => by omega
        by_cases hl1 : (i : Int) < len0
        · have hl2 := hx hl1
          clear hx
          go_wp2
          go_meet
          case rel => exact ⟨es, hL.q (by omega), hpl, hf⟩
        · clear hx
          go_wp2
          go_meet
          case rel => exact ⟨es, hL.q (by omega), hpl, hf⟩
  case rest =>
    obtain ⟨es, hL, hpl, hf1⟩ := hcut
    have hWa : Was (wc.alloc (.cells #[.int .i64 0, .int .i64 0, .int .i64 0, .int .i64 0, .int .i64 0, .int .i64 0, .int .i64 0, .int .i64 0, .int .i64 0, .int .i64 0, .int .i64 0, .int .i64 0, .int .i64 0, .int .i64 0, .int .i64 0] 40 (0, 0))) wc.heap.size 0 (fun j => tkF es (nmB l0 j)) := ⟨_, _, heap_alloc_new wc _, rfl, fun j hj => by omega⟩
    have hwz := hL.1.size
    obtain ⟨hL, _⟩ := hL.more (.cells #[.int .i64 0, .int .i64 0, .int .i64 0, .int .i64 0, .int .i64 0, .int .i64 0, .int .i64 0, .int .i64 0, .int .i64 0, .int .i64 0, .int .i64 0, .int .i64 0, .int .i64 0, .int .i64 0, .int .i64 0] 40 (0, 0))
    obtain ⟨z, hz⟩ : ∃ x, wc.heap.size = x := ⟨_, rfl⟩
    rw [hz] at hL hWa
    have hzw : w.heap.size ≤ z := by rw [← hz]; exact hwz
    clear hwz
    go_upto_region 10 with fail
    iterate 7 go_step
    go_cut [9] (fun s9 wx => LS w wx g [z] es [] 30 ∧ Was wx z n0 (fun j => tkF es (nmB l0 j)))
    case first =>
      go_wp2
      go_loopg [9] n0 (fun gf s9 wx => ∃ i : Nat, s9 = .int .i64 i ∧ i + gf = n0 ∧ LS w wx g [z] es [] 30 ∧ Was wx z i (fun j => tkF es (nmB l0 j)))
      case atStart => exact ⟨0, rfl, by omega, hL, hWa⟩
      case round =>
        clear hL hWa
        obtain ⟨i, rfl, hig, hL, hWa⟩ := hrel
        by_cases hlt : i < n0
        · have hl1 : (i : Int) < len0 := by omega
          have hl2 : (i : Int) < 15 := by omega
          have hl0 : (0 : Int) ≤ i := by omega
          obtain ⟨g', rfl⟩ : ∃ g', gk = g' + 1 := ⟨gk - 1, by omega⟩
          obtain ⟨b, off, rfl, hcl⟩ := unhide hcell0 (by omega)
          have hcx := hcl _ hL.1 i (by omega)
          have hC := hide (unhide hcut0 i (by omega))
          have hz := unhide hnm0 i
          clear hcl
          generalize l0.getD i ⟨#[]⟩ = T at hcx hC
          obtain ⟨E, hfE, _, htE⟩ := fnd_in (unhide hpl i (by omega))
          have hF := lsFind hL (nmB l0 i) (by omega) (by decide)
          rw [hfE] at hF
          dsimp only [fndV] at hF
          replace hF := hide hF
          replace hWa := hide hWa
          replace htE := hide htE
          clear hL hfE
          go_wp2_with fail
          refine (unhide hC _).mono ?_
          rintro e W3 ⟨rfl, rfl⟩
          clear hC
          go_wp2_with fail
          refine (unhide hF).mono ?_
          rintro e W4 ⟨rfl, hL, hs⟩
          have hW4 := (unhide hWa).same (by simp) hs
          have hDd : DBlk (W4.alloc (.cells #[.int .i64 E.f, .int .i64 E.t, .int .i64 E.k] 34 (0, 0))) W4.heap.size E.f E.t E.k := heap_alloc_new W4 _
          obtain ⟨hL, hs4⟩ := hL.more (.cells #[.int .i64 E.f, .int .i64 E.t, .int .i64 E.k] 34 (0, 0))
          replace hW4 := hW4.same (by simp) hs4
          obtain ⟨d0, d1, d2⟩ := hDd.cells
          obtain ⟨⟨x, hx⟩, hfz⟩ := hW4.some (j := i) (by omega)
          have hL5 := (hL.sub (M' := [z]) (fun k hk => List.mem_cons_of_mem _ hk)).set (b := z) (by simp) hzw i (.int .i64 E.t)
          have hW5 := hW4.set (by omega)
          try simp only at hW5
          rw [unhide htE] at hW5
          replace hL5 := hide hL5
          replace hW5 := hide hW5
          clear hF hs hs4 hDd hL hW4 hWa htE
          go_wp2
          go_roundg g'
          case measure => omega
          case rel => exact ⟨i + 1, by go_num, by omega, unhide hL5, unhide hW5⟩
        · obtain rfl : i = n0 := by omega
          have hx : (i : Int) < len0 → ¬ (i : Int) < 15 := fun h h' => by omega
          by_cases hl1 : (i : Int) < len0
          · have hl2 := hx hl1
            clear hx
            go_wp2
            go_meet
            case rel => exact ⟨hL, hWa⟩
          · clear hx
            go_wp2
            go_meet
            case rel => exact ⟨hL, hWa⟩
    case rest =>
      obtain ⟨hL, hWa⟩ := hcut
      have hP := lsPush hL (by decide)
      simp only [List.nil_append] at hP
      replace hP := hide hP
      replace hWa := hide hWa
      clear hL
      go_wp2_with fail
      refine (unhide hP).mono ?_
      rintro e W6 ⟨rfl, hL, hs⟩
      replace hWa := (unhide hWa).same (by simp) hs
      clear hP hs
      go_upto_region 18 with fail
      iterate 7 go_step
      go_cut [12] (fun s12 wx => ∃ inn, LS w wx g [z] (es ++ inn) [es.length] 61 ∧ Was wx z n0 (fun j => tkF es (nmB l0 j)))
      case first =>
        go_wp2
        go_loopg [12] n1 (fun gf s12 wx => ∃ (i : Nat) (inn : List En), s12 = .int .i64 i ∧ i + gf = n1 ∧ LS w wx g [z] (es ++ inn) [es.length] (31 + 2 * i) ∧ Hid (∀ e ∈ inn, e.f = 2) ∧ Was wx z n0 (fun j => tkF es (nmB l0 j)))
        case atStart => exact ⟨0, [], rfl, by omega, by simpa using hL, hide (fun e he => by cases he), hWa⟩
        case round =>
          clear hL hWa
          obtain ⟨i, inn, rfl, hig, hL, hf2, hWa⟩ := hrel
          by_cases hlt : i < n1
          · have hl1 : (i : Int) < len1 := by omega
            have hl2 : (i : Int) < 15 := by omega
            have hl0 : (0 : Int) ≤ i := by omega
            obtain ⟨g', rfl⟩ : ∃ g', gk = g' + 1 := ⟨gk - 1, by omega⟩
            obtain ⟨b, off, rfl, hcl⟩ := unhide hcell1 (by omega)
            have hcx := hcl _ hL.1 i (by omega)
            have hC := hide (unhide hcut1 i (by omega))
            have hz := unhide hnm1 i
            clear hcl
            generalize l1.getD i ⟨#[]⟩ = T at hcx hC
            obtain ⟨inn', hA, hfi⟩ : ∃ inn', Calls Try.prog 12 #[.pointer (some ⟨g, 0, none⟩), .string (nmB l1 i), .agg #[.int .i64 2, .int .i64 i, .int .i64 0]] wr (fun e w' => (∃ b, e = .returned (.bool b)) ∧ LS w w' g [z] (es ++ inn') [es.length] (31 + 2 * (i + 1)) ∧ SameM [z] wr w') ∧ ((∀ e ∈ inn', e.f = 2) ∧ (es.length : Int) ≤ plc (nmB l1 i) (es ++ inn')) := by
              have hA := lsAdd hL (by omega) (nmB l1 i) (by omega) 2 i 0
              rw [show beg [es.length] = es.length from rfl] at hA
              by_cases hp : plc (nmB l1 i) (es ++ inn) < ((es.length : Nat) : Int)
              · simp only [hp, if_true] at hA
                refine ⟨inn ++ [⟨nmB l1 i, 2, i, 0, plc (nmB l1 i) (es ++ inn)⟩], hA.mono ?_, fun e he => ?_, ?_⟩
                · rintro e w' ⟨rfl, h1, h2⟩
                  rw [List.append_assoc] at h1
                  exact ⟨⟨_, rfl⟩, h1.q (by omega), h2⟩
                · rcases List.mem_append.1 he with h1 | h1
                  · exact unhide hf2 e h1
                  · simp at h1; subst h1; rfl
                · rw [← List.append_assoc, plc_snoc, if_pos rfl]
                  simp
                  omega
              · simp only [hp, if_false] at hA
                refine ⟨inn, hA.mono ?_, unhide hf2, by omega⟩
                rintro e w' ⟨rfl, h1, h2⟩
                exact ⟨⟨_, rfl⟩, h1.q (by omega), h2⟩
            obtain ⟨E, hfE, hEi⟩ := fnd_tail hfi.2
            have hE2 := hfi.1 E hEi
            have hf2' := hide hfi.1
            replace hA := hide hA
            replace hWa := hide hWa
            clear hL hfi hf2 hEi
            go_wp2_with fail
            refine (unhide hC _).mono ?_
            rintro e W3 ⟨rfl, rfl⟩
            clear hC
            go_wp2_with fail
            refine (unhide hA).mono ?_
            rintro e W4 ⟨⟨bb, rfl⟩, hL, hs⟩
            have hW4 := hide ((unhide hWa).same (by simp) hs)
            have hF := lsFind hL (nmB l1 i) (by omega) (by omega)
            rw [hfE] at hF
            dsimp only [fndV] at hF
            rw [hE2] at hF
            replace hF := hide hF
            clear hA hs hWa hL hfE
            go_wp2_with fail
            refine (unhide hF).mono ?_
            rintro e W5 ⟨rfl, hL, hs⟩
            have hW5 := (unhide hW4).same (by simp) hs
            have hDd : DBlk (W5.alloc (.cells #[.int .i64 2, .int .i64 E.t, .int .i64 E.k] 34 (0, 0))) W5.heap.size 2 E.t E.k := heap_alloc_new W5 _
            obtain ⟨hL, hs4⟩ := hL.more (.cells #[.int .i64 2, .int .i64 E.t, .int .i64 E.k] 34 (0, 0))
            replace hW5 := hide (hW5.same (by simp) hs4)
            obtain ⟨d0, d1, d2⟩ := hDd.cells
            have hL5 := hide (hL.sub (M' := [z]) (fun k hk => List.mem_cons_of_mem _ hk))
            clear hF hs hs4 hDd hL hW4
            go_wp2
            go_roundg g'
            case measure => omega
            case rel => exact ⟨i + 1, inn', by go_num, by omega, unhide hL5, hf2', unhide hW5⟩
          · obtain rfl : i = n1 := by omega
            have hx : (i : Int) < len1 → ¬ (i : Int) < 15 := fun h h' => by omega
            by_cases hl1 : (i : Int) < len1
            · have hl2 := hx hl1
              clear hx
              go_wp2
              go_meet
              case rel => exact ⟨inn, hL.q (by omega), hWa⟩
            · clear hx
              go_wp2
              go_meet
              case rel => exact ⟨inn, hL.q (by omega), hWa⟩
      case rest =>
        obtain ⟨inn, hL, hWa⟩ := hcut
        have hP := lsPop (b0 := es.length) (bs := []) hL (by decide)
        rw [List.take_append_of_le_length (Nat.le_refl _), List.take_of_length_le (Nat.le_refl _)] at hP
        replace hP := hide hP
        replace hWa := hide hWa
        clear hL
        go_wp2_with fail
        refine (unhide hP).mono ?_
        rintro e W6 ⟨rfl, hL, hs⟩
        replace hWa := (unhide hWa).same (by simp) hs
        clear hP hs
        go_wp2
        go_loopg [16] n0 (fun gf s16 wx => ∃ i : Nat, s16 = .int .i64 i ∧ i + gf = n0 ∧ LS w wx g [z] es [] 61 ∧ Was wx z n0 (fun j => tkF es (nmB l0 j)))
        case atStart => exact ⟨0, rfl, by omega, hL, hWa⟩
        case round =>
          clear hL hWa
          obtain ⟨i, rfl, hig, hL, hWa⟩ := hrel
          by_cases hlt : i < n0
          · have hl1 : (i : Int) < len0 := by omega
            have hl2 : (i : Int) < 15 := by omega
            have hl0 : (0 : Int) ≤ i := by omega
            obtain ⟨g', rfl⟩ : ∃ g', gk = g' + 1 := ⟨gk - 1, by omega⟩
            obtain ⟨b, off, rfl, hcl⟩ := unhide hcell0 (by omega)
            have hcx := hcl _ hL.1 i (by omega)
            have hC := hide (unhide hcut0 i (by omega))
            have hz := unhide hnm0 i
            clear hcl
            generalize l0.getD i ⟨#[]⟩ = T at hcx hC
            obtain ⟨E, hfE, hEm, htE⟩ := fnd_in (unhide hpl i (by omega))
            have hE1 := unhide hf1 E hEm
            have hF := lsFind hL (nmB l0 i) (by omega) (by decide)
            rw [hfE] at hF
            dsimp only [fndV] at hF
            rw [hE1] at hF
            replace hF := hide hF
            replace hWa := hide hWa
            replace htE := hide htE
            clear hL hfE hEm
            go_wp2_with fail
            refine (unhide hC _).mono ?_
            rintro e W3 ⟨rfl, rfl⟩
            clear hC
            go_wp2_with fail
            refine (unhide hF).mono ?_
            rintro e W4 ⟨rfl, hL, hs⟩
            have hW4 := (unhide hWa).same (by simp) hs
            have hDd : DBlk (W4.alloc (.cells #[.int .i64 1, .int .i64 E.t, .int .i64 E.k] 34 (0, 0))) W4.heap.size 1 E.t E.k := heap_alloc_new W4 _
            obtain ⟨hL, hs4⟩ := hL.more (.cells #[.int .i64 1, .int .i64 E.t, .int .i64 E.k] 34 (0, 0))
            replace hW4 := hW4.same (by simp) hs4
            obtain ⟨d0, d1, d2⟩ := hDd.cells
            have hx := hW4.cell (j := i) hlt
            try simp only at hx
            rw [unhide htE] at hx
            replace hW4 := hide hW4
            have hL5 := hide (hL.sub (M' := [z]) (fun k hk => List.mem_cons_of_mem _ hk))
            clear hF hs hs4 hDd hL hWa htE
            go_wp2
            go_quiet (fail)
            have hL6 := hide ((unhide hL5).drewN nq)
            have hW6 := hide ((unhide hW4).drewN nq)
            clear hL5 hW4
            go_wp2
            go_roundg g'
            case measure => omega
            case rel => exact ⟨i + 1, by go_num, by omega, unhide hL6, unhide hW6⟩
          · obtain rfl : i = n0 := by omega
            have hx : (i : Int) < len0 → ¬ (i : Int) < 15 := fun h h' => by omega
            have hb := hL.1
            clear hL hWa
            by_cases hl1 : (i : Int) < len0
            · have hl2 := hx hl1
              clear hx
              go_wp2
              go_ret
              exact ⟨rfl, hb⟩
            · clear hx
              go_wp2
              go_ret
              exact ⟨rfl, hb⟩
end Go.Proofs.Ytlmfoieolomcfaa

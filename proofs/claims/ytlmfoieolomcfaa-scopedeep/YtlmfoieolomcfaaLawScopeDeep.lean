/-
  ScopeDeep's walk.
-/
import Derived.Test.YtlmfoieolomcfaaSpDeepM
import Derived.Test.YtlmfoieolomcfaaSpIntL
import Derived.Test.YtlmfoieolomcfaaSpBegun
import Derived.Test.YtlmfoieolomcfaaBoolArg
import Derived.LoopTactic
import Derived.Deep.DeepCutAuto
import Derived.Deep.LoopGhost
namespace Go.Proofs.Ytlmfoieolomcfaa
open Go.RowKit Go.Maps Go.Lib Go.WideMaps
set_option linter.unusedSimpArgs false
set_option linter.unusedVariables false
theorem bools_ofS : ∀ L : List Value, (∀ x ∈ L, ∃ b, x = .bool b) → ∃ l : List Bool, L = l.map Value.bool
  | [], _ => ⟨[], rfl⟩
  | x :: L, h => by
    obtain ⟨b, rfl⟩ := h x (by simp)
    obtain ⟨l, rfl⟩ := bools_ofS L (fun y hy => h y (by simp [hy]))
    exact ⟨b :: l, rfl⟩
theorem dE_no (ow : Nat → Bool) (i : Nat) (h : ow i = false) : dE ow (i + 1) = dE ow i := by conv => lhs; unfold dE; rw [h]; simp
theorem dE_yes (ow : Nat → Bool) (i : Nat) (h : ow i = true) : dE ow (i + 1) = dE ow i ++ [⟨nx, i, 0, 0, plc nx (dE ow i)⟩] := by conv => lhs; unfold dE; rw [h]; simp
theorem dI_no (ow : Nat → Bool) (i : Nat) (h : ow i = false) : dI ow (i + 1) = dI ow i := by conv => lhs; unfold dI; rw [h]; simp
theorem dI_yes (ow : Nat → Bool) (i : Nat) (h : ow i = true) : dI ow (i + 1) = dI ow i ++ [(i : Int)] := by conv => lhs; unfold dI; rw [h]; simp
set_option maxHeartbeats 8000000 in
set_option maxRecDepth 100000 in
theorem scopeDeep_shell (a0 : Value) (L0 : List Value) (w : World) (w0 : Row1 w a0 L0 ∧ ∀ x ∈ L0, ∃ b, x = .bool b) :
    Calls Try.prog 6 #[a0] w fun e w' => e = .returned (.bool true) ∧ Below w.heap.size w w' := by
  obtain ⟨hrow, hall⟩ := w0
  obtain ⟨l, rfl⟩ := bools_ofS L0 hall
  clear hall
  obtain ⟨al, cl, rfl, hc1, hc2, hc3⟩ := hrow
  rw [List.length_map] at hc1 hc3 ⊢
  unfold maxLen at hc2
  have hcell : 0 < l.length → ∃ b off, al = some ⟨b, off, none⟩ ∧ ∀ (W : World), Below w.heap.size w W → ∀ i, i < l.length → W.cell? ⟨b, off + i, none⟩ = some (.bool (l.getD i false)) := fun h0 => by
    obtain ⟨b, off, e, hb, hc⟩ := hc3 h0
    refine ⟨b, off, e, fun W hW i hi => ?_⟩
    rw [hW.cell (by exact hb), hc i hi]
    simp [List.getD, hi]
  clear hc3
  have HB := fun w => slScope_any w
  have HN := fun w => lsNew w
  obtain ⟨n, hn⟩ : ∃ n, min 30 l.length = n := ⟨_, rfl⟩
  have hnl : n ≤ l.length := by omega
  have hn30 : n ≤ 30 := by omega
  obtain ⟨ow, how⟩ : ∃ ow : Nat → Bool, ow = fun i => decide (i < n) && l.getD i false := ⟨_, rfl⟩
  have how1 : ∀ i, i < n → ow i = l.getD i false := fun i hi => by rw [how]; simp [hi]
  have how2 : ow n = false := by rw [how]; simp
  clear how
  obtain ⟨len, hlen⟩ : ∃ len, l.length = len := ⟨_, rfl⟩
  rw [hlen] at hn hnl hcell hc1 ⊢
  replace HB := hide HB
  replace HN := hide HN
  replace hcell := hide hcell
  replace hlen := hide hlen
  go_enter Try.func6, Try.ntmps6
  go_wp2_with fail
  refine (unhide HB _).mono ?_
  rintro e W1 ⟨rfl, hb1⟩
  clear HB
  go_wp2_with fail
  refine (unhide HN _).mono ?_
  rintro e W2 ⟨rfl, hL, hb2⟩
  clear HN
  obtain ⟨g, hg⟩ : ∃ x, W1.heap.size = x := ⟨_, rfl⟩
  rw [hg] at hL
  replace hL := hL.base hb1
  clear hb1 hb2
  go_upto_region 6 with fail
  iterate 8 go_step
  go_cut [5, 6] (fun s5 s6 wx => s6 = .int .i64 n ∧ OwnL wx w.heap.size s5 (dI ow n) ∧ LS w wx g s5.ownBlock.toList (dE ow n) (dB ow n) 90)
  case first =>
    go_wp2
    go_loopg [5, 6] n (fun gf s5 s6 wx => ∃ i : Nat, s6 = .int .i64 i ∧ i + gf = n ∧ OwnL wx w.heap.size s5 (dI ow i) ∧ LS w wx g s5.ownBlock.toList (dE ow i) (dB ow i) (3 * i))
    case atStart => exact ⟨0, rfl, by omega, ownL_nil _ _, hL⟩
    case round =>
      clear hL
      obtain ⟨i, rfl, hig, hO, hL⟩ := hrel
      by_cases hlt : i < n
      · have hl1 : (i : Int) < len := by omega
        have hl2 : (i : Int) < 30 := by omega
        obtain ⟨g', rfl⟩ : ∃ g', gk = g' + 1 := ⟨gk - 1, by omega⟩
        obtain ⟨b, off, rfl, hcl⟩ := unhide hcell (by omega)
        have hcx := hcl _ hL.1 i (by omega)
        clear hcl
        cases hbi : l.getD i false with
        | true =>
          rw [hbi] at hcx
          have hoi := (how1 i hlt).trans hbi
          have hA := lsAdd hL (by omega) nx (by decide) i 0 0
          simp only [dE_plc, beg_dB, show (((dE ow i).length : Nat) : Int) - 1 < ((dE ow i).length : Nat) from by omega, if_true] at hA
          rw [← dE_plc ow i, ← dE_yes ow i hoi] at hA
          have hIy := hide (dI_yes ow i hoi)
          have hdl := dI_le ow i
          replace hA := hide hA
          replace hO := hide hO
          clear hbi hoi hL
          go_wp2_with fail
          refine (unhide hA).mono ?_
          rintro e W3 ⟨rfl, hL, hs⟩
          have hO3 := hide ((unhide hO).same mem_blk hs)
          replace hL := hide hL
          clear hs hA hO
          go_wp2_with (at_builtin; refine wpList_app_int rfl (.tmp 37) (.tmp 39) rfl _ _ (i : Int) (unhide hO3) (unhide hL) rfl (by omega) rfl ?_)
          intro v4 W4 hO4 hL4
          rw [← unhide hIy] at hO4
          have hP := hide (lsPush hL4 (by omega))
          replace hO4 := hide hO4
          clear hO3 hL hL4
          go_wp2_with fail
          refine (unhide hP).mono ?_
          rintro e W5 ⟨rfl, hL, hs⟩
          have hO5 := hide ((unhide hO4).same mem_blk hs)
          replace hL := hide (hL.q (show 3 * i + 2 + 1 ≤ 3 * (i + 1) by omega))
          clear hs hP hO4
          go_wp2
          go_roundg g'
          case measure => omega
          case rel => exact ⟨i + 1, by go_num, by omega, unhide hO5, unhide hL⟩
        | false =>
          rw [hbi] at hcx
          have hoi := (how1 i hlt).trans hbi
          have hP := lsPush hL (by omega)
          rw [← dE_no ow i hoi] at hP
          rw [← dI_no ow i hoi] at hO
          replace hP := hide hP
          replace hO := hide hO
          clear hbi hoi hL
          go_wp2_with fail
          refine (unhide hP).mono ?_
          rintro e W5 ⟨rfl, hL, hs⟩
          have hO5 := hide ((unhide hO).same mem_blk hs)
          replace hL := hide (hL.q (show 3 * i + 1 ≤ 3 * (i + 1) by omega))
          clear hs hP hO
          go_wp2
          go_roundg g'
          case measure => omega
          case rel => exact ⟨i + 1, by go_num, by omega, unhide hO5, unhide hL⟩
      · obtain rfl : i = n := by omega
        have hx : (i : Int) < len → ¬ (i : Int) < 30 := fun h h' => by omega
        by_cases hl1 : (i : Int) < len
        · have hl2 := hx hl1
          clear hx
          go_wp2
          go_meet
          case rel => exact ⟨rfl, hO, hL.q (by omega)⟩
        · clear hx
          go_wp2
          go_meet
          case rel => exact ⟨rfl, hO, hL.q (by omega)⟩
  case rest =>
    obtain ⟨rfl, hO, hL⟩ := hcut
    obtain ⟨ae, ce, rfl, hce, hce2⟩ := own_form hO
    rw [← dE_no ow n how2] at hL
    have hdl := dI_le ow n
    unfold maxLen at hce2
    go_wp2
    go_loopg [7] (n + 1) (fun gf s7 wx => ∃ (r : Nat) (z : Int), s7 = .int .i64 z ∧ z = (n : Int) - r ∧ r + gf = n + 1 ∧ OwnL wx w.heap.size (.slice ae (dI ow n).length ce) (dI ow n) ∧ LS w wx g (Value.slice ae (dI ow n).length ce).ownBlock.toList (dE ow (n - r + 1)) (dB ow (n - r)) 90)
    case atStart => exact ⟨0, n, rfl, by omega, by omega, hO, hL⟩
    case round =>
      clear hO hL
      obtain ⟨r, z, rfl, hz, hrg, hO, hL⟩ := hrel
      by_cases hlt : r ≤ n
      · obtain ⟨g', rfl⟩ : ∃ g', gk = g' + 1 := ⟨gk - 1, by omega⟩
        obtain ⟨i, hi⟩ : ∃ i : Nat, n - r = i := ⟨_, rfl⟩
        obtain rfl : z = (i : Int) := by omega
        clear hz
        rw [hi] at hL
        have hiz : (0 : Int) ≤ i := by omega
        go_upto_region 18 with fail
        iterate 7 go_step
        go_cut [8, 9] (fun s8 s9 wx => s8 = .int .i64 (kR (dI ow n) i (dI ow n).length) ∧ wr = wx)
        case first =>
          have hOc := fun h0 => own_cell hO h0
          simp only [Nat.mul_one] at hOc
          clear hO hL
          go_wp2
          go_loopg [8, 9] (dI ow n).length (fun gf s8 s9 wx => ∃ j : Nat, s8 = .int .i64 (kR (dI ow n) i j) ∧ s9 = .int .i64 j ∧ j + gf = (dI ow n).length ∧ wr = wx)
          case atStart => exact ⟨0, rfl, rfl, by omega, rfl⟩
          case round =>
            obtain ⟨j, rfl, rfl, hj, rfl⟩ := hrel
            by_cases hjl : j < (dI ow n).length
            · have hjz : (j : Int) < ((dI ow n).length : Nat) := by omega
              obtain ⟨h', rfl⟩ : ∃ h', gk = h' + 1 := ⟨gk - 1, by omega⟩
              obtain ⟨zz, c2, e2, _, _, _, _, hcell2⟩ := hOc (by omega)
              injection e2 with e2 e3 e4
              subst e2 e4
              have hx := hcell2 j hjl
              rw [List.getElem?_map, List.getElem?_eq_getElem hjl] at hx
              have hgd : (dI ow n)[j] = (dI ow n).getD j 0 := by simp [List.getD, hjl]
              rw [hgd] at hx
              simp only [Option.map_some] at hx
              have hk : kR (dI ow n) i (j + 1) = if (dI ow n).getD j 0 ≤ (i : Int) then (dI ow n).getD j 0 else kR (dI ow n) i j := rfl
              clear hcell2 hgd
              generalize (dI ow n).getD j 0 = X at *
              by_cases hX : X ≤ (i : Int)
              · rw [if_pos hX] at hk
                replace hk := hide hk
                go_wp2
                go_roundg h'
                case measure => omega
                case rel => exact ⟨j + 1, by rw [unhide hk], by go_num, by omega, rfl⟩
              · rw [if_neg hX] at hk
                replace hk := hide hk
                go_wp2
                go_roundg h'
                case measure => omega
                case rel => exact ⟨j + 1, by rw [unhide hk], by go_num, by omega, rfl⟩
            · obtain rfl : j = (dI ow n).length := by omega
              have hjz : ¬ ((dI ow n).length : Int) < ((dI ow n).length : Nat) := by omega
              clear hOc
              go_wp2
              go_meet
              case rel => exact ⟨rfl, rfl⟩
        case rest =>
          obtain ⟨rfl, rfl⟩ := hcut
          have hF := lsFind hL nx (by decide) (by decide)
          rw [deep_find] at hF
          have hkk : kR (dI ow n) i (dI ow n).length = lastI (dI ow (i + 1)) := by
            rw [kR_all]
            by_cases hin : i + 1 ≤ n
            · rw [Nat.min_eq_right hin]
            · have : i = n := by omega
              subst this
              rw [Nat.min_eq_left (by omega), dI_no ow i how2]
          have hlh := last_here ow i
          rw [hkk]
          generalize lastI (dI ow (i + 1)) = kk at *
          clear hkk
          replace hO := hide hO
          clear hL
          cases hoi : ow i with
          | true =>
            rw [hoi] at hlh
            obtain rfl : kk = (i : Int) := by simpa using hlh
            rw [if_pos hiz, decide_eq_true hiz] at hF
            replace hF := hide hF
            clear hlh
            go_wp2_with fail
            refine (unhide hF).mono ?_
            rintro e W4 ⟨rfl, hL, hs⟩
            have hO4 := (unhide hO).same mem_blk hs
            have hDd : DBlk (W4.alloc (.cells #[.int .i64 (i : Int), .int .i64 0, .int .i64 0] 34 (0, 0))) W4.heap.size (i : Int) 0 0 := heap_alloc_new W4 _
            obtain ⟨hL, hs4⟩ := hL.more (.cells #[.int .i64 (i : Int), .int .i64 0, .int .i64 0] 34 (0, 0))
            replace hO4 := hO4.same mem_blk hs4
            obtain ⟨z1, hz1⟩ : ∃ x, W4.heap.size = x := ⟨_, rfl⟩
            rw [hz1] at hL hDd
            have hH := lsHere hL nx (by decide) (by decide)
            rw [deep_here, hoi] at hH
            try simp only [Bool.false_eq_true, if_false, if_true] at hH
            replace hH := hide hH
            replace hO4 := hide hO4
            replace hDd := hide hDd
            clear hF hO hs hs4 hL
            go_wp2_with fail
            refine (unhide hH).mono ?_
            rintro e W5 ⟨rfl, hL, hs⟩
            have hO5 := (unhide hO4).same (fun k hk => List.mem_cons_of_mem _ (mem_blk k hk)) hs
            have hD5 := hs.d (List.mem_cons_self ..) (unhide hDd)
            obtain ⟨hL, hs5⟩ := hL.more (.cells #[.int .i64 (i : Int), .int .i64 0, .int .i64 0] 34 (0, 0))
            replace hO5 := hO5.same (fun k hk => List.mem_cons_of_mem _ (mem_blk k hk)) hs5
            replace hD5 := hs5.d (List.mem_cons_self ..) hD5
            obtain ⟨d0, d1, d2⟩ := hD5.cells
            have hL := hL.sub (M' := (Value.slice ae (dI ow n).length ce).ownBlock.toList) (fun k hk => List.mem_cons_of_mem _ (List.mem_cons_of_mem _ hk))
            have hP := lsDeep hL (by decide)
            rw [dB_len] at hP
            replace hP := hide hP
            replace hO5 := hide hO5
            replace hL := hide hL
            clear hH hO4 hDd hs hs5 hD5
            go_wp2_with fail
            refine (unhide hP).mono ?_
            rintro e W6 ⟨rfl, rfl⟩
            clear hP
            by_cases hi0 : 0 < i
            · obtain ⟨i', rfl⟩ : ∃ i', i = i' + 1 := ⟨i - 1, by omega⟩
              have hi0' : (0 : Int) < ((i' + 1 : Nat) : Int) := by omega
              have hQ := lsPop (b0 := (dE ow (i' + 1)).length) (bs := dB ow i') (unhide hL) (by decide)
              rw [dE_take] at hQ
              replace hQ := hide hQ
              clear hL
              go_wp2_with fail
              refine (unhide hQ).mono ?_
              rintro e W7 ⟨rfl, hL, hs⟩
              have hO7 := hide ((unhide hO5).same mem_blk hs)
              replace hL := hide hL
              clear hQ hO5 hs
              go_wp2
              go_roundg g'
              case measure => omega
              case rel => exact ⟨r + 1, _, rfl, by omega, by omega, unhide hO7, by rw [show n - (r + 1) = i' by omega]; exact unhide hL⟩
            · obtain rfl : i = 0 := by omega
              have hQ := hide (lsPop0 (unhide hL) (by decide))
              go_wp2_with fail
              refine (unhide hQ).mono ?_
              rintro e W7 ⟨rfl, rfl⟩
              clear hQ
              go_wp2
              go_roundg g'
              case measure => omega
              case rel => exact ⟨r + 1, _, rfl, by omega, by omega, unhide hO5, by rw [show n - (r + 1) = 0 by omega]; exact unhide hL⟩
          | false =>
            rw [hoi] at hlh
            have hne : ¬ kk = (i : Int) := by simpa using hlh
            clear hlh
            by_cases hk0 : 0 ≤ kk
            · rw [if_pos hk0, decide_eq_true hk0] at hF
              replace hF := hide hF
              go_wp2_with fail
              refine (unhide hF).mono ?_
              rintro e W4 ⟨rfl, hL, hs⟩
              have hO4 := (unhide hO).same mem_blk hs
              have hDd : DBlk (W4.alloc (.cells #[.int .i64 kk, .int .i64 0, .int .i64 0] 34 (0, 0))) W4.heap.size kk 0 0 := heap_alloc_new W4 _
              obtain ⟨hL, hs4⟩ := hL.more (.cells #[.int .i64 kk, .int .i64 0, .int .i64 0] 34 (0, 0))
              replace hO4 := hO4.same mem_blk hs4
              obtain ⟨z1, hz1⟩ : ∃ x, W4.heap.size = x := ⟨_, rfl⟩
              rw [hz1] at hL hDd
              have hH := lsHere hL nx (by decide) (by decide)
              rw [deep_here, hoi] at hH
              try simp only [Bool.false_eq_true, if_false, if_true] at hH
              replace hH := hide hH
              replace hO4 := hide hO4
              replace hDd := hide hDd
              clear hF hO hs hs4 hL
              go_wp2_with fail
              refine (unhide hH).mono ?_
              rintro e W5 ⟨rfl, hL, hs⟩
              have hO5 := (unhide hO4).same (fun k hk => List.mem_cons_of_mem _ (mem_blk k hk)) hs
              have hD5 := hs.d (List.mem_cons_self ..) (unhide hDd)
              obtain ⟨hL, hs5⟩ := hL.more (.cells #[.int .i64 0, .int .i64 0, .int .i64 0] 34 (0, 0))
              replace hO5 := hO5.same (fun k hk => List.mem_cons_of_mem _ (mem_blk k hk)) hs5
              replace hD5 := hs5.d (List.mem_cons_self ..) hD5
              obtain ⟨d0, d1, d2⟩ := hD5.cells
              have hL := hL.sub (M' := (Value.slice ae (dI ow n).length ce).ownBlock.toList) (fun k hk => List.mem_cons_of_mem _ (List.mem_cons_of_mem _ hk))
              have hP := lsDeep hL (by decide)
              rw [dB_len] at hP
              replace hP := hide hP
              replace hO5 := hide hO5
              replace hL := hide hL
              clear hH hO4 hDd hs hs5 hD5
              go_wp2_with fail
              refine (unhide hP).mono ?_
              rintro e W6 ⟨rfl, rfl⟩
              clear hP
              by_cases hi0 : 0 < i
              · obtain ⟨i', rfl⟩ : ∃ i', i = i' + 1 := ⟨i - 1, by omega⟩
                have hi0' : (0 : Int) < ((i' + 1 : Nat) : Int) := by omega
                have hQ := lsPop (b0 := (dE ow (i' + 1)).length) (bs := dB ow i') (unhide hL) (by decide)
                rw [dE_take] at hQ
                replace hQ := hide hQ
                clear hL
                go_wp2_with fail
                refine (unhide hQ).mono ?_
                rintro e W7 ⟨rfl, hL, hs⟩
                have hO7 := hide ((unhide hO5).same mem_blk hs)
                replace hL := hide hL
                clear hQ hO5 hs
                go_wp2
                go_roundg g'
                case measure => omega
                case rel => exact ⟨r + 1, _, rfl, by omega, by omega, unhide hO7, by rw [show n - (r + 1) = i' by omega]; exact unhide hL⟩
              · obtain rfl : i = 0 := by omega
                have hQ := hide (lsPop0 (unhide hL) (by decide))
                go_wp2_with fail
                refine (unhide hQ).mono ?_
                rintro e W7 ⟨rfl, rfl⟩
                clear hQ
                go_wp2
                go_roundg g'
                case measure => omega
                case rel => exact ⟨r + 1, _, rfl, by omega, by omega, unhide hO5, by rw [show n - (r + 1) = 0 by omega]; exact unhide hL⟩
            · rw [if_neg hk0, decide_eq_false hk0] at hF
              replace hF := hide hF
              have hkl : kk < 0 := by omega
              have hbe : (kk == (i : Int)) = false := by simpa using hne
              have hdk : decide (0 ≤ kk) = false := decide_eq_false hk0
              have hdi : decide (kk = (i : Int)) = false := decide_eq_false hne
              go_wp2_with fail
              refine (unhide hF).mono ?_
              rintro e W4 ⟨rfl, hL, hs⟩
              have hO4 := (unhide hO).same mem_blk hs
              have hDd : DBlk (W4.alloc (.cells #[.int .i64 0, .int .i64 0, .int .i64 0] 34 (0, 0))) W4.heap.size 0 0 0 := heap_alloc_new W4 _
              obtain ⟨hL, hs4⟩ := hL.more (.cells #[.int .i64 0, .int .i64 0, .int .i64 0] 34 (0, 0))
              replace hO4 := hO4.same mem_blk hs4
              obtain ⟨z1, hz1⟩ : ∃ x, W4.heap.size = x := ⟨_, rfl⟩
              rw [hz1] at hL hDd
              have hH := lsHere hL nx (by decide) (by decide)
              rw [deep_here, hoi] at hH
              try simp only [Bool.false_eq_true, if_false, if_true] at hH
              replace hH := hide hH
              replace hO4 := hide hO4
              replace hDd := hide hDd
              clear hF hO hs hs4 hL
              go_wp2_with fail
              refine (unhide hH).mono ?_
              rintro e W5 ⟨rfl, hL, hs⟩
              have hO5 := (unhide hO4).same (fun k hk => List.mem_cons_of_mem _ (mem_blk k hk)) hs
              have hD5 := hs.d (List.mem_cons_self ..) (unhide hDd)
              obtain ⟨hL, hs5⟩ := hL.more (.cells #[.int .i64 0, .int .i64 0, .int .i64 0] 34 (0, 0))
              replace hO5 := hO5.same (fun k hk => List.mem_cons_of_mem _ (mem_blk k hk)) hs5
              replace hD5 := hs5.d (List.mem_cons_self ..) hD5
              obtain ⟨d0, d1, d2⟩ := hD5.cells
              have hL := hL.sub (M' := (Value.slice ae (dI ow n).length ce).ownBlock.toList) (fun k hk => List.mem_cons_of_mem _ (List.mem_cons_of_mem _ hk))
              have hP := lsDeep hL (by decide)
              rw [dB_len] at hP
              replace hP := hide hP
              replace hO5 := hide hO5
              replace hL := hide hL
              clear hH hO4 hDd hs hs5 hD5
              go_wp2_with fail
              refine (unhide hP).mono ?_
              rintro e W6 ⟨rfl, rfl⟩
              clear hP
              by_cases hi0 : 0 < i
              · obtain ⟨i', rfl⟩ : ∃ i', i = i' + 1 := ⟨i - 1, by omega⟩
                have hi0' : (0 : Int) < ((i' + 1 : Nat) : Int) := by omega
                have hQ := lsPop (b0 := (dE ow (i' + 1)).length) (bs := dB ow i') (unhide hL) (by decide)
                rw [dE_take] at hQ
                replace hQ := hide hQ
                clear hL
                go_wp2_with fail
                refine (unhide hQ).mono ?_
                rintro e W7 ⟨rfl, hL, hs⟩
                have hO7 := hide ((unhide hO5).same mem_blk hs)
                replace hL := hide hL
                clear hQ hO5 hs
                go_wp2
                go_roundg g'
                case measure => omega
                case rel => exact ⟨r + 1, _, rfl, by omega, by omega, unhide hO7, by rw [show n - (r + 1) = i' by omega]; exact unhide hL⟩
              · obtain rfl : i = 0 := by omega
                have hQ := hide (lsPop0 (unhide hL) (by decide))
                go_wp2_with fail
                refine (unhide hQ).mono ?_
                rintro e W7 ⟨rfl, rfl⟩
                clear hQ
                go_wp2
                go_roundg g'
                case measure => omega
                case rel => exact ⟨r + 1, _, rfl, by omega, by omega, unhide hO5, by rw [show n - (r + 1) = 0 by omega]; exact unhide hL⟩
      · have hz0 : ¬ (0 : Int) ≤ z := by omega
        have hrn : n - r = 0 := by omega
        rw [hrn] at hL
        have hQ := lsDeep hL (by decide)
        replace hQ := hide hQ
        clear hO
        go_wp2_with fail
        refine (unhide hQ).mono ?_
        rintro e W7 ⟨rfl, rfl⟩
        go_wp2
        go_ret
        exact ⟨rfl, hL.1⟩
end Go.Proofs.Ytlmfoieolomcfaa

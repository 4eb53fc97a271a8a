/-
  ScopeAll's walk.
-/
import Derived.Test.YtlmfoieolomcfaaSpAllM
import Derived.Test.YtlmfoieolomcfaaSpBegun
import Derived.Test.YtlmfoieolomcfaaOpsArg
import Derived.Test.YtlmfoieolomcfaaCutS
import Derived.LoopTactic
import Derived.BigQuiet
import Derived.Deep.DeepCutAuto
import Derived.Deep.LoopGhost
namespace Go.Proofs.Ytlmfoieolomcfaa
open Go.RowKit Go.Maps Go.Lib Go.WideMaps
set_option linter.unusedSimpArgs false
set_option linter.unusedVariables false
/-- A block of one operation. -/
def OBlk (w : World) (z : Nat) (k : Int) (s : ByteArray) : Prop := w.heap[z]? = some (.cells #[.int .i64 k, .string s] 28 (0, 0))
theorem OBlk.cells {w : World} {z : Nat} {k : Int} {s : ByteArray} (h : OBlk w z k s) : w.cell? ⟨z, 0, none⟩ = some (.int .i64 k) ∧ w.cell? ⟨z, 1, none⟩ = some (.string s) := by
  unfold OBlk at h
  exact ⟨by simp [World.cell?, h], by simp [World.cell?, h]⟩
theorem OBlk.same {w w' : World} {z : Nat} {k : Int} {s : ByteArray} {M : List Nat} (h : OBlk w z k s) (hz : z ∈ M) (hs : SameM M w w') : OBlk w' z k s := by
  unfold OBlk at h ⊢
  rw [hs.2 z hz]
  exact h
theorem OBlk.drewN {w : World} {z : Nat} {k : Int} {s : ByteArray} (h : OBlk w z k s) (n : Nat) : OBlk (w.drewN n) z k s := h
theorem OBlk.set {w : World} {z : Nat} {k : Int} {s : ByteArray} (h : OBlk w z k s) (t : ByteArray) : OBlk (w.setCell ⟨z, 1, none⟩ (.string t)) z k t := Joins.block_setCell (i := 1) h _
theorem OBlk.fr {w : World} {z : Nat} {k : Int} {s : ByteArray} (h : OBlk w z k s) (i : Nat) : w.frozen? ⟨z, i, none⟩ = false := Joins.unfrozen_of_block h i
theorem OwnLE.drewN {w : World} {B : Nat} {v : Value} {l : List LE} (h : OwnLE w B v l) (n : Nat) : OwnLE (w.drewN n) B v l := h
theorem DBlk.drewN {w : World} {b : Nat} {f t k : Int} (h : DBlk w b f t k) (n : Nat) : DBlk (w.drewN n) b f t k := h
def blkA (a : Option Addr) : List Nat := (a.map (·.block)).toList
theorem blkA_own (a : Option Addr) (n c : Nat) : (Value.slice a n c).ownBlock.toList = blkA a := by cases a <;> rfl
theorem mem_blkA {a : Option Addr} {n c : Nat} : ∀ k, (Value.slice a n c).ownBlock = some k → k ∈ blkA a := fun k hk => by
  rw [← blkA_own a n c]
  exact mem_blk k hk
/-- What the program's scopes and the law's list are to each other. -/
def SA (w wx : World) (g : Nat) (a : Option Addr) (c : Nat) (es : List En) (bs : List Nat) (q : Nat) : Prop :=
  OwnLE wx w.heap.size (.slice a es.length c) (lOf es bs) ∧ LS w wx g (blkA a) es bs q ∧ ∀ e ∈ es, e.t = e.f + 1 ∧ e.k = 3 ∧ 0 ≤ e.f ∧ e.f ≤ 60
theorem bytes_beq (x y : ByteArray) : (x.toList == y.toList) = decide (x = y) := by
  by_cases h : x = y
  · subst h; simp
  · rw [decide_eq_false h]
    simp only [beq_eq_false_iff_ne, ne_eq]
    intro e
    apply h
    rw [ByteArray.toList_eq, ByteArray.toList_eq] at e
    have := Array.ext' e
    cases x; cases y; simp_all
theorem SameM.refl (M : List Nat) (w : World) : SameM M w w := ⟨Nat.le_refl _, fun _ _ => rfl⟩
theorem SameM.sub {M M' : List Nat} {w w' : World} (h : SameM M w w') (hm : ∀ k ∈ M', k ∈ M) : SameM M' w w' := ⟨h.1, fun k hk => h.2 k (hm k hk)⟩
theorem fnd_at {s : ByteArray} {es : List En} {lo : Int} (h0 : 0 ≤ plc s es) (h1 : lo ≤ plc s es) : ∃ (p : Nat) (hp : p < es.length), plc s es = p ∧ fnd s es lo = some es[p] := fnd_some h0 h1
theorem OwnLE.cell2 {w : World} {B z n c : Nat} {l : List LE} (h : OwnLE w B (.slice (some ⟨z, 0, none⟩) n c) l) (i : Nat) (hi : i < l.length) : w.cell? ⟨z, i * 3 + 2, none⟩ = some (.int .i64 l[i].t) := by
  obtain ⟨z', c', e, _, _, _, _, _, _, x2⟩ := h.at i hi
  injection e with e1 e2 e3
  injection e1 with e1
  injection e1 with e1
  subst e1
  exact x2
theorem own_take {w : World} {B : Nat} {a : Option Addr} {c : Nat} {l : List LE} {n : Nat} (h : OwnLE w B (.slice a n c) l) (hn : l.length = n) (k : Nat) (hk : k ≤ n) : OwnLE w B (.slice a k c) (l.take k) := by
  subst hn
  unfold OwnLE
  rw [List.length_take, Nat.min_eq_left hk, lesC_take]
  exact ownsRow_take h k hk
set_option maxHeartbeats 8000000 in
set_option maxRecDepth 100000 in
theorem scopeAll_shell (a0 : Value) (L0 : List Opn) (w : World) (w0 : Opns w a0 L0 ∧ ∀ e ∈ L0, e.wf) :
    Calls Try.prog 3 #[a0] w fun e w' => e = .returned (.bool true) ∧ Below w.heap.size w w' := by
  obtain ⟨⟨al, cl, rfl, hc1, hc2, hc3⟩, hwf⟩ := w0
  unfold maxLen at hc2
  have hcell : 0 < L0.length → ∃ b off, al = some ⟨b, off, none⟩ ∧ ∀ (W : World), Below w.heap.size w W → ∀ i, i < L0.length → W.cell? ⟨b, off + i * 2, none⟩ = some (.int .i64 (L0.getD i op0).k) ∧ W.cell? ⟨b, off + i * 2 + 1, none⟩ = some (.string (L0.getD i op0).n) := fun h0 => by
    obtain ⟨b, off, e, hb, hc⟩ := hc3 h0
    refine ⟨b, off, e, fun W hW i hi => ?_⟩
    rw [hW.cell (by exact hb), hW.cell (by exact hb)]
    exact hc i hi
  clear hc3
  have hcut : ∀ i, i < L0.length → ∀ W, Calls Try.prog 9 #[.string (L0.getD i op0).n, .int .i64 10] W fun e w' => e = .returned (.string (cutS (L0.getD i op0).n 10)) ∧ w' = W := fun i hi W => cut_any _ 10 W (by
    rw [show L0.getD i op0 = L0[i] by simp [List.getD, hi]]
    exact (hwf _ (List.getElem_mem _)).2) (by decide)
  obtain ⟨n, hn⟩ : ∃ n, min 60 L0.length = n := ⟨_, rfl⟩
  have hnl : n ≤ L0.length := by omega
  have hn60 : n ≤ 60 := by omega
  clear hwf
  obtain ⟨len, hlen⟩ : ∃ len, L0.length = len := ⟨_, rfl⟩
  rw [hlen] at hn hnl hcell hcut hc1 ⊢
  replace hlen := hide hlen
  replace hcell := hide hcell
  replace hcut := hide hcut
  have HB := fun w => slScope_any w
  have HN := fun w => lsNew w
  replace HB := hide HB
  replace HN := hide HN
  go_enter Try.func3, Try.ntmps3
  go_wp2_with fail
  refine (unhide HB _).mono ?_
  rintro e W1 ⟨rfl, hb1⟩
  clear HB
  go_wp2_with fail
  refine (unhide HN _).mono ?_
  rintro e W2 ⟨rfl, hL, hb2⟩
  clear HN
  obtain ⟨g, hg⟩ : ∃ x, W1.heap.size = x := ⟨_, rfl⟩
  rw [hg] at hL
  replace hL := hL.base hb1
  clear hb1 hb2
  have hSA0 : SA w W2 g none 0 [] [] 0 := ⟨ownLE_nil _ _, hL, fun e he => by cases he⟩
  clear hL
  go_wp2
  go_loopg [5, 6, 7] n (fun gf s5 s6 s7 wx => ∃ (i : Nat) (a5 : Option Addr) (c5 : Nat) (es : List En) (bs : List Nat), s5 = .slice a5 es.length c5 ∧ s6 = .int .i64 (bs.length + 1 : Nat) ∧ s7 = .int .i64 i ∧ i + gf = n ∧ SA w wx g a5 c5 es bs (2 * i))
  case atStart => exact ⟨0, none, 0, [], [], rfl, rfl, rfl, by omega, hSA0⟩
  case round =>
    clear hSA0
    obtain ⟨i, a5, c5, es, bs, rfl, rfl, rfl, hig, hSA⟩ := hrel
    by_cases hlt : i < n
    · have hl1 : (i : Int) < len := by omega
      have hl2 : (i : Int) < 60 := by omega
      have hl0 : (0 : Int) ≤ i := by omega
      obtain ⟨g', rfl⟩ : ∃ g', gk = g' + 1 := ⟨gk - 1, by omega⟩
      obtain ⟨b, off, rfl, hcl⟩ := unhide hcell (by omega)
      obtain ⟨hcx, hcy⟩ := hcl _ hSA.2.1.1 i (by omega)
      have hC := hide (unhide hcut i (by omega))
      clear hcl
      generalize L0.getD i op0 = O at hcx hcy hC
      obtain ⟨ok, on⟩ := O
      dsimp only at hcx hcy hC
      have hz : (cutS on 10).size ≤ 10 := cutS_le _ _
      generalize cutS on 10 = nm at *
      have hOb : OBlk (wr.alloc (.cells #[.int .i64 ok, .string nm] 28 (0, 0))) wr.heap.size ok nm := heap_alloc_new wr _
      obtain ⟨hO, hL, hft⟩ := hSA
      have hinv := hL.inv
      have hfew := hL.few
      have hbz := hL.1.size
      obtain ⟨hLc, hs⟩ := hL.more (.cells #[.int .i64 ok, .string nm] 28 (0, 0))
      have hOl := hO.same mem_blkA hs
      clear hs hL hO
      obtain ⟨zo, hzo⟩ : ∃ x, wr.heap.size = x := ⟨_, rfl⟩
      rw [hzo] at hLc hOb hbz
      have hOc := hOb
      replace hOc := hide hOc
      replace hLc := hide hLc
      replace hOl := hide hOl
      clear hOb
      go_wp2_with fail
      refine (unhide hC _).mono ?_
      rintro e W3 ⟨rfl, rfl⟩
      clear hC
      go_upto_region 13 with fail
      replace hOc := unhide hOc
      replace hLc := unhide hLc
      replace hOl := unhide hOl
      generalize wr.alloc (.cells #[.int .i64 ok, .string nm] 28 (0, 0)) = V at *
      iterate 7 go_step
      go_cut [9, 10, 11] (fun s9 s10 s11 wx => s9 = .int .i64 (hR es bs nm es.length) ∧ s10 = .int .i64 (plc nm es) ∧ ∃ nq : Nat, wx = V.drewN nq)
      case first =>
        as_aux_lemma =>
          have hOc9 := hOc
          have hOl9 := hOl
          clear hLc hOc
          go_wp2
          go_loopg [9, 10, 11] es.length (fun gf s9 s10 s11 wx => ∃ k mq : Nat, s9 = .int .i64 (hR es bs nm k) ∧ s10 = .int .i64 (plc nm (es.take k)) ∧ s11 = .int .i64 k ∧ k + gf = es.length ∧ wx = V.drewN mq)
          case atStart => exact ⟨0, 0, by simp [hR, plc_nil]; omega, by simp [plc_nil], rfl, by omega, rfl⟩
          case round =>
            obtain ⟨k, mq, rfl, rfl, rfl, hk, rfl⟩ := hrel
            obtain ⟨u0, u1⟩ := hOc9.cells
            by_cases hkl : k < es.length
            · have hkz : (k : Int) < es.length := by omega
              have hk0 : (0 : Int) ≤ k := by omega
              obtain ⟨h', rfl⟩ : ∃ h', gk = h' + 1 := ⟨gk - 1, by omega⟩
              obtain ⟨z5, c6, e5, _, _, _, _, x0, x1, x2⟩ := hOl9.at k (by rw [lOf_len]; exact hkl)
              rw [lOf_len] at e5
              injection e5 with e5 e6 e7
              subst e5 e7
              have hla : (lOf es bs)[k]'(by rw [lOf_len]; exact hkl) = ⟨es[k].n, dep bs k, es[k].f⟩ := by
                have := lOf_at es bs k hkl
                rw [List.getElem?_eq_getElem (by rw [lOf_len]; exact hkl)] at this
                exact Option.some.inj this
              rw [hla] at x0 x1 x2
              dsimp only at x0 x1 x2
              have hsr := sR_step es nm k hkl
              have hhr := hR_step hinv.up nm k hkl
              have hbq := bytes_beq es[k].n nm
              generalize es[k].n = E at *
              clear hla
              by_cases hE : E = nm
              · rw [if_pos hE] at hsr
                rw [decide_eq_true hE] at hbq
                simp only [hE, true_and] at hhr
                clear hE
                by_cases hd : ((dep bs k : Nat) : Int) = ((bs.length + 1 : Nat) : Int)
                · rw [if_pos hd] at hhr
                  have hdz : ((dep bs k : Nat) : Int) = (bs.length : Int) + 1 := by omega
                  rw [hdz] at x1
                  clear hd hdz
                  replace hsr := hide hsr
                  replace hhr := hide hhr
                  go_wp2
                  go_quiet (fail)
                  go_wp2
                  go_roundg h'
                  case measure => omega
                  case rel => exact ⟨k + 1, mq + nq, by rw [unhide hhr], by rw [unhide hsr], by go_num, by omega, by first | rfl | trivial⟩
                · rw [if_neg hd] at hhr
                  have hdz : ¬ ((dep bs k : Nat) : Int) = (bs.length : Int) + 1 := by omega
                  replace hsr := hide hsr
                  replace hhr := hide hhr
                  generalize ((dep bs k : Nat) : Int) = DD at *
                  clear hd
                  go_wp2
                  go_quiet (fail)
                  go_wp2
                  go_roundg h'
                  case measure => omega
                  case rel => exact ⟨k + 1, mq + nq, by rw [unhide hhr], by rw [unhide hsr], by go_num, by omega, by first | rfl | trivial⟩
              · rw [if_neg hE] at hsr
                rw [decide_eq_false hE] at hbq
                simp only [hE, false_and, if_false] at hhr
                clear hE
                replace hsr := hide hsr
                replace hhr := hide hhr
                go_wp2
                go_quiet (fail)
                go_wp2
                go_roundg h'
                case measure => omega
                case rel => exact ⟨k + 1, mq + nq, by rw [unhide hhr], by rw [unhide hsr], by go_num, by omega, by first | rfl | trivial⟩
            · obtain rfl : k = es.length := by omega
              have hkz : ¬ (es.length : Int) < (es.length : Int) := by omega
              clear u0 u1
              go_wp2
              go_meet
              case rel => exact ⟨rfl, by first | rfl | rw [List.take_of_length_le (Nat.le_refl _)], mq, rfl⟩
      case rest =>
        obtain ⟨rfl, rfl, nq, rfl⟩ := hcut
        replace hOc := hOc.drewN nq
        replace hLc := hLc.drewN nq
        replace hOl := hOl.drewN nq
        generalize V.drewN nq = V at *
        obtain ⟨u0, u1⟩ := hOc.cells
        have hhr := hR_end es bs nm
        have hpl := plc_lt nm es
        generalize hR es bs nm es.length = hv at *
        obtain ⟨sv, hsv⟩ : ∃ x, plc nm es = x := ⟨_, rfl⟩
        rw [hsv] at hhr hpl ⊢
        replace hsv := hide hsv
        replace hhr := hide hhr
        replace hpl := hide hpl
        go_upto_region 20 with fail
        iterate 10 go_step
        go_cut [5, 6] (fun s5 s6 wx => ∃ (a6 : Option Addr) (c6 : Nat) (es' : List En) (bs' : List Nat), s5 = .slice a6 es'.length c6 ∧ s6 = .int .i64 (bs'.length + 1 : Nat) ∧ SA w wx g a6 c6 es' bs' (2 * (i + 1)))
        case first =>
          by_cases h0 : ok = 0
          · as_aux_lemma =>
              subst h0
              have hP := hide (lsPush hLc (by omega))
              go_wp2_with fail
              refine (unhide hP).mono ?_
              rintro e W4 ⟨rfl, hL, hs⟩
              have hX : SA w W4 g a5 c5 es (bs ++ [es.length]) (2 * (i + 1)) := ⟨by rw [lOf_push]; exact hOl.same (fun k hk => List.mem_cons_of_mem _ (mem_blkA k hk)) hs, (hL.sub (M' := blkA a5) (fun k hk => List.mem_cons_of_mem _ hk)).q (by omega), hft⟩
              replace hX := hide hX
              clear hP hL hs hOl hLc hOc
              go_wp2
              go_meet
              case rel => exact ⟨a5, c5, es, bs ++ [es.length], rfl, by rw [List.length_append]; rfl, unhide hX⟩
          · by_cases h1 : ok = 1
            · as_aux_lemma =>
                subst h1
                by_cases hb : bs = []
                · subst hb
                  have hP := hide (lsPop0 hLc (by omega))
                  have hX : SA w V g a5 c5 es [] (2 * (i + 1)) := ⟨hOl, (hLc.sub (M' := blkA a5) (fun k hk => List.mem_cons_of_mem _ hk)).q (by omega), hft⟩
                  replace hX := hide hX
                  clear hOl hLc hOc
                  simp only [List.length_nil]
                  go_wp2_with fail
                  refine (unhide hP).mono ?_
                  rintro e W4 ⟨rfl, rfl⟩
                  clear hP
                  go_wp2
                  go_meet
                  case rel => exact ⟨a5, c5, es, [], rfl, rfl, unhide hX⟩
                · obtain ⟨bs0, b0, rfl⟩ : ∃ bs0 b0, bs = bs0 ++ [b0] := ⟨bs.dropLast, bs.getLast hb, (List.dropLast_concat_getLast hb).symm⟩
                  have hP := hide (lsPop hLc (by omega))
                  have hb0 : b0 ≤ es.length := hinv.le b0 (by simp)
                  have hdep : ∀ k, b0 ≤ k → dep (bs0 ++ [b0]) k = bs0.length + 1 + 1 := fun k hk => by
                    have := (dep_iff hinv.up k).2 (by rw [beg_snoc]; exact hk)
                    simpa using this
                  have hdep2 : ∀ k, k < b0 → ¬ dep (bs0 ++ [b0]) k = bs0.length + 1 + 1 := fun k hk e => by
                    have := (dep_iff hinv.up k).1 (by simpa using e)
                    rw [beg_snoc] at this
                    omega
                  have hlb : (bs0 ++ [b0]).length = bs0.length + 1 := by simp
                  simp only [hlb]
                  replace hdep := hide hdep
                  replace hdep2 := hide hdep2
                  clear hb hinv
                  have hd1 : (1 : Int) < (bs0.length : Int) + 1 + 1 := by omega
                  go_wp2_with fail
                  refine (unhide hP).mono ?_
                  rintro e W4 ⟨rfl, hL, hs⟩
                  have hO4 := hOl.same (fun k hk => List.mem_cons_of_mem _ (mem_blkA k hk)) hs
                  have hX : SA w W4 g a5 c5 (es.take b0) bs0 (2 * (i + 1)) := ⟨by
                    rw [lOf_pop _ _ _ hb0, List.length_take, Nat.min_eq_left hb0]
                    exact own_take hO4 (lOf_len _ _) b0 hb0, (hL.sub (M' := blkA a5) (fun k hk => List.mem_cons_of_mem _ hk)).q (by omega), fun e he => hft e (List.mem_of_mem_take he)⟩
                  replace hX := hide hX
                  clear hP hL hs hOl hLc hOc u0 u1
                  go_wp2
                  go_loopg [5] (es.length - b0) (fun gf s5 wx => ∃ k : Nat, s5 = .slice a5 k c5 ∧ b0 + gf = k ∧ k ≤ es.length ∧ wx = W4)
                  case atStart => exact ⟨es.length, rfl, by omega, Nat.le_refl _, rfl⟩
                  case round =>
                    obtain ⟨k, rfl, hk, hke, rfl⟩ := hrel
                    by_cases hkb : b0 < k
                    · obtain ⟨k', rfl⟩ : ∃ k', k = k' + 1 := ⟨k - 1, by omega⟩
                      obtain ⟨h', rfl⟩ : ∃ h', gk = h' + 1 := ⟨gk - 1, by omega⟩
                      obtain ⟨z5, c6, e5, _, _, hcc, hcm, x0, x1, x2⟩ := hO4.at k' (by rw [lOf_len]; omega)
                      rw [lOf_len] at e5 hcc
                      injection e5 with e5 e6 e7
                      subst e5 e7
                      unfold maxLen at hcm
                      have hla : (lOf es (bs0 ++ [b0]))[k']'(by rw [lOf_len]; omega) = ⟨(es[k']'(by omega)).n, dep (bs0 ++ [b0]) k', (es[k']'(by omega)).f⟩ := by
                        have := lOf_at es (bs0 ++ [b0]) k' (by omega)
                        rw [List.getElem?_eq_getElem (by rw [lOf_len]; omega)] at this
                        exact Option.some.inj this
                      rw [hla] at x1
                      dsimp only at x1
                      rw [unhide hdep k' (by omega)] at x1
                      clear hla x0 x2
                      have x1' : wr.cell? ⟨z5, k' * 3 + 1, none⟩ = some (.int .i64 ((bs0.length : Int) + 1 + 1)) := by rw [x1]; rfl
                      clear x1
                      have hkz : (0 : Int) < (k' : Int) + 1 := by omega
                      go_wp2
                      go_roundg h'
                      case measure => omega
                      case rel => exact ⟨k', rfl, by omega, by omega, rfl⟩
                    · obtain rfl : k = b0 := by omega
                      have hgl : List.length (es.take k) = k := by rw [List.length_take]; omega
                      by_cases hk0 : k = 0
                      · subst hk0
                        go_wp2
                        go_meet
                        case rel => exact ⟨a5, c5, es.take 0, bs0, rfl, by go_num, unhide hX⟩
                      · obtain ⟨k', rfl⟩ : ∃ k', k = k' + 1 := ⟨k - 1, by omega⟩
                        obtain ⟨z5, c6, e5, _, _, hcc, hcm, x0, x1, x2⟩ := hO4.at k' (by rw [lOf_len]; omega)
                        rw [lOf_len] at e5 hcc
                        injection e5 with e5 e6 e7
                        subst e5 e7
                        unfold maxLen at hcm
                        have hla : (lOf es (bs0 ++ [k' + 1]))[k']'(by rw [lOf_len]; omega) = ⟨(es[k']'(by omega)).n, dep (bs0 ++ [k' + 1]) k', (es[k']'(by omega)).f⟩ := by
                          have := lOf_at es (bs0 ++ [k' + 1]) k' (by omega)
                          rw [List.getElem?_eq_getElem (by rw [lOf_len]; omega)] at this
                          exact Option.some.inj this
                        rw [hla] at x1
                        dsimp only at x1
                        have hdn := unhide hdep2 k' (by omega)
                        clear hla x0 x2
                        have hdz : ¬ ((dep (bs0 ++ [k' + 1]) k' : Nat) : Int) = (bs0.length : Int) + 1 + 1 := by omega
                        clear hdn
                        generalize ((dep (bs0 ++ [k' + 1]) k' : Nat) : Int) = DD at *
                        have hkz : (0 : Int) < (k' : Int) + 1 := by omega
                        replace hgl := hide hgl
                        go_wp2
                        go_meet
                        case rel => exact ⟨_, c5, es.take (k' + 1), bs0, by rw [unhide hgl], by go_num, unhide hX⟩
            · by_cases h2 : ok = 2
              · as_aux_lemma =>
                  subst h2
                  replace hhr := unhide hhr
                  replace hpl := unhide hpl
                  have hA := lsAdd hLc (by omega) nm (by omega) i ((i : Int) + 1) 3
                  rw [unhide hsv] at hA
                  by_cases hp : sv < ((beg bs : Nat) : Int)
                  · simp only [hp, if_true] at hA
                    rw [if_neg (by omega)] at hhr
                    obtain rfl : hv = -1 := hhr
                    have hes : lOf (es ++ [⟨nm, i, (i : Int) + 1, 3, sv⟩]) bs = lOf es bs ++ [⟨nm, (bs.length : Int) + 1, i⟩] := by
                      rw [lOf_add es bs _ hinv.le]
                      rfl
                    have hft' : ∀ e ∈ es ++ [⟨nm, i, (i : Int) + 1, 3, sv⟩], e.t = e.f + 1 ∧ e.k = 3 ∧ 0 ≤ e.f ∧ e.f ≤ 60 := fun e he => by
                      rcases List.mem_append.1 he with h1 | h1
                      · exact hft e h1
                      · simp at h1; subst h1; exact ⟨rfl, rfl, hl0, by show (i : Int) ≤ 60; omega⟩
                    replace hA := hide hA
                    replace hes := hide hes
                    replace hft' := hide hft'
                    clear hp hft hpl
                    go_wp2_with fail
                    refine (unhide hA).mono ?_
                    rintro e W4 ⟨rfl, hL, hs⟩
                    have hO4 := hide (hOl.same (fun k hk => List.mem_cons_of_mem _ (mem_blkA k hk)) hs)
                    obtain ⟨v0, v1⟩ := (hOc.same (by simp) hs).cells
                    have hL4 := hL.sub (M' := (Value.slice a5 es.length c5).ownBlock.toList) (fun k hk => by rw [blkA_own] at hk; exact List.mem_cons_of_mem _ hk)
                    replace hL4 := hide hL4
                    clear hA hL hs hOl hLc hOc
                    go_wp2_with (at_builtin; refine wpList_app_le rfl (.tmp 180) (.tmp 186) rfl _ _ ⟨nm, (bs.length : Int) + 1, i⟩ (unhide hO4) (unhide hL4) rfl (by rw [lOf_len]; omega) rfl ?_)
                    intro v5 W5 hO5 hL5
                    rw [← unhide hes] at hO5
                    obtain ⟨a6, c6, hv5, _⟩ := own_form hO5
                    rw [lOf_len] at hv5
                    subst hv5
                    rw [blkA_own] at hL5
                    have hX : SA w W5 g a6 c6 (es ++ [⟨nm, i, (i : Int) + 1, 3, sv⟩]) bs (2 * (i + 1)) := ⟨hO5, hL5.q (by omega), unhide hft'⟩
                    replace hX := hide hX
                    clear hO5 hL5 hO4 hL4 hes
                    go_wp2
                    go_meet
                    case rel => exact ⟨a6, c6, _, bs, rfl, rfl, unhide hX⟩
                  · simp only [hp, if_false] at hA
                    rw [if_pos (by omega)] at hhr
                    subst hhr
                    have hp0 : ¬ hv < 0 := by omega
                    replace hA := hide hA
                    clear hp
                    go_wp2_with fail
                    refine (unhide hA).mono ?_
                    rintro e W4 ⟨rfl, hL, hs⟩
                    have hX : SA w W4 g a5 c5 es bs (2 * (i + 1)) := ⟨hOl.same (fun k hk => List.mem_cons_of_mem _ (mem_blkA k hk)) hs, (hL.sub (M' := blkA a5) (fun k hk => List.mem_cons_of_mem _ hk)).q (by omega), hft⟩
                    replace hX := hide hX
                    clear hA hL hs hOl hLc hOc
                    go_wp2
                    go_meet
                    case rel => exact ⟨a5, c5, es, bs, rfl, rfl, unhide hX⟩
              · replace hhr := unhide hhr
                replace hpl := unhide hpl
                have hF := lsFind hLc nm (by omega) (by omega)
                have hsv' := unhide hsv
                by_cases hp0 : 0 ≤ sv
                · obtain ⟨P, hP, hPe, hf0⟩ := fnd_at (s := nm) (es := es) (lo := 0) (by omega) (by omega)
                  have hFF := hft es[P] (List.getElem_mem _)
                  obtain ⟨F, hFe⟩ : ∃ F, es[P].f = F := ⟨_, rfl⟩
                  rw [hFe] at hFF
                  rw [hf0] at hF
                  simp only [fndV, hFe, hFF.1, hFF.2.1] at hF
                  obtain ⟨hF1, hF2⟩ := hFF.2.2
                  have hls : P < (lOf es bs).length := by rw [lOf_len]; exact hP
                  have hla : (lOf es bs)[P].t = es[P].f := by
                    have := lOf_at es bs P hP
                    rw [List.getElem?_eq_getElem hls] at this
                    rw [Option.some.inj this]
                  obtain ⟨z5, c6, e5, _, _, hcc, hcm, _⟩ := hOl.at P hls
                  rw [lOf_len] at e5 hcc
                  injection e5 with e5 e6 e7
                  subst e5 e7
                  unfold maxLen at hcm
                  replace hft := hide hft
                  by_cases hp1 : ((beg bs : Nat) : Int) ≤ sv
                  · obtain ⟨P2, hP2, hPe2, hfh⟩ := fnd_at (s := nm) (es := es) (lo := (beg bs : Nat)) (by omega) (by omega)
                    have hPP2 : P = P2 := by omega
                    subst hPP2
                    rw [if_pos hp1] at hhr
                    obtain rfl : sv = (P : Int) := by omega
                    subst hhr
                    clear hp0 hp1 hpl hPe hPe2 hf0 hsv'
                    as_aux_lemma =>
                      replace hF := hide hF
                      clear hLc
                      go_wp2_with fail
                      refine (unhide hF).mono ?_
                      rintro e W4 ⟨rfl, hL, hs⟩
                      have hO4 := hOl.same (fun k hk => List.mem_cons_of_mem _ (mem_blkA k hk)) hs
                      have hC4 := hOc.same (by simp) hs
                      have hD4 : DBlk (W4.alloc (.cells #[.int .i64 F, .int .i64 (F + 1), .int .i64 3] 34 (0, 0))) W4.heap.size F (F + 1) 3 := heap_alloc_new W4 _
                      obtain ⟨hL, hs4⟩ := hL.more (.cells #[.int .i64 F, .int .i64 (F + 1), .int .i64 3] 34 (0, 0))
                      replace hO4 := hO4.same (fun k hk => List.mem_cons_of_mem _ (mem_blkA k hk)) hs4
                      replace hC4 := hC4.same (by simp) hs4
                      obtain ⟨z1, hz1⟩ : ∃ x, W4.heap.size = x := ⟨_, rfl⟩
                      rw [hz1] at hL hD4
                      obtain ⟨v0, v1⟩ := hC4.cells
                      have hH := lsHere hL nm (by omega) (by omega)
                      rw [hfh] at hH
                      simp only [fndV, hFe, hFF.1, hFF.2.1] at hH
                      replace hH := hide hH
                      clear hF hs hs4 hL hOl hOc hC4 u0 u1
                      go_wp2_with fail
                      refine (unhide hH).mono ?_
                      rintro e W5 ⟨rfl, hL, hs⟩
                      replace hO4 := hO4.same (fun k hk => List.mem_cons_of_mem _ (List.mem_cons_of_mem _ (mem_blkA k hk))) hs
                      replace hD4 := hs.d (by simp) hD4
                      have hD5 : DBlk (W5.alloc (.cells #[.int .i64 F, .int .i64 (F + 1), .int .i64 3] 34 (0, 0))) W5.heap.size F (F + 1) 3 := heap_alloc_new W5 _
                      obtain ⟨hL, hs5⟩ := hL.more (.cells #[.int .i64 F, .int .i64 (F + 1), .int .i64 3] 34 (0, 0))
                      replace hO4 := hO4.same (fun k hk => List.mem_cons_of_mem _ (List.mem_cons_of_mem _ (mem_blkA k hk))) hs5
                      replace hD4 := hs5.d (by simp) hD4
                      obtain ⟨d0, d1, d2⟩ := hD4.cells
                      obtain ⟨k0, k1, k2⟩ := hD5.cells
                      have x2 := (hO4.cell2 P hls)
                      rw [hla, hFe] at x2
                      have hPz : (P : Int) < es.length := by omega
                      have hP0 : (0 : Int) ≤ P := by omega
                      have hX := hide (show ∀ m, SA w (World.drewN (W5.alloc (.cells #[.int .i64 F, .int .i64 (F + 1), .int .i64 3] 34 (0, 0))) m) g (some ⟨z5, 0, none⟩) c5 es bs (2 * (i + 1)) from fun m => ⟨hO4.drewN m, ((hL.sub (M' := blkA (some ⟨z5, 0, none⟩)) (fun k hk => List.mem_cons_of_mem _ (List.mem_cons_of_mem _ (List.mem_cons_of_mem _ hk)))).q (by omega)).drewN m, unhide hft⟩)
                      clear hH hL hs hs5 hD4 hD5 hO4 v0 v1
                      go_wp2
                      go_quiet (fail)
                      go_wp2
                      go_meet
                      case rel => exact ⟨(some ⟨z5, 0, none⟩), c5, es, bs, rfl, rfl, unhide hX _⟩
                  · have hfh : fnd nm es (beg bs) = none := fnd_none (by omega)
                    rw [if_neg hp1] at hhr
                    obtain rfl : sv = (P : Int) := by omega
                    obtain rfl : hv = -1 := hhr
                    clear hp0 hp1 hpl hPe hf0 hsv'
                    as_aux_lemma =>
                      replace hF := hide hF
                      clear hLc
                      go_wp2_with fail
                      refine (unhide hF).mono ?_
                      rintro e W4 ⟨rfl, hL, hs⟩
                      have hO4 := hOl.same (fun k hk => List.mem_cons_of_mem _ (mem_blkA k hk)) hs
                      have hC4 := hOc.same (by simp) hs
                      have hD4 : DBlk (W4.alloc (.cells #[.int .i64 F, .int .i64 (F + 1), .int .i64 3] 34 (0, 0))) W4.heap.size F (F + 1) 3 := heap_alloc_new W4 _
                      obtain ⟨hL, hs4⟩ := hL.more (.cells #[.int .i64 F, .int .i64 (F + 1), .int .i64 3] 34 (0, 0))
                      replace hO4 := hO4.same (fun k hk => List.mem_cons_of_mem _ (mem_blkA k hk)) hs4
                      replace hC4 := hC4.same (by simp) hs4
                      obtain ⟨z1, hz1⟩ : ∃ x, W4.heap.size = x := ⟨_, rfl⟩
                      rw [hz1] at hL hD4
                      obtain ⟨v0, v1⟩ := hC4.cells
                      have hH := lsHere hL nm (by omega) (by omega)
                      rw [hfh] at hH
                      simp only [fndV] at hH
                      replace hH := hide hH
                      clear hF hs hs4 hL hOl hOc hC4 u0 u1
                      go_wp2_with fail
                      refine (unhide hH).mono ?_
                      rintro e W5 ⟨rfl, hL, hs⟩
                      replace hO4 := hO4.same (fun k hk => List.mem_cons_of_mem _ (List.mem_cons_of_mem _ (mem_blkA k hk))) hs
                      replace hD4 := hs.d (by simp) hD4
                      have hD5 : DBlk (W5.alloc (.cells #[.int .i64 0, .int .i64 0, .int .i64 0] 34 (0, 0))) W5.heap.size 0 0 0 := heap_alloc_new W5 _
                      obtain ⟨hL, hs5⟩ := hL.more (.cells #[.int .i64 0, .int .i64 0, .int .i64 0] 34 (0, 0))
                      replace hO4 := hO4.same (fun k hk => List.mem_cons_of_mem _ (List.mem_cons_of_mem _ (mem_blkA k hk))) hs5
                      replace hD4 := hs5.d (by simp) hD4
                      obtain ⟨d0, d1, d2⟩ := hD4.cells
                      obtain ⟨k0, k1, k2⟩ := hD5.cells
                      have x2 := (hO4.cell2 P hls)
                      rw [hla, hFe] at x2
                      have hPz : (P : Int) < es.length := by omega
                      have hP0 : (0 : Int) ≤ P := by omega
                      have hX := hide (show ∀ m, SA w (World.drewN (W5.alloc (.cells #[.int .i64 0, .int .i64 0, .int .i64 0] 34 (0, 0))) m) g (some ⟨z5, 0, none⟩) c5 es bs (2 * (i + 1)) from fun m => ⟨hO4.drewN m, ((hL.sub (M' := blkA (some ⟨z5, 0, none⟩)) (fun k hk => List.mem_cons_of_mem _ (List.mem_cons_of_mem _ (List.mem_cons_of_mem _ hk)))).q (by omega)).drewN m, unhide hft⟩)
                      clear hH hL hs hs5 hD4 hD5 hO4 v0 v1
                      go_wp2
                      go_quiet (fail)
                      go_wp2
                      go_meet
                      case rel => exact ⟨(some ⟨z5, 0, none⟩), c5, es, bs, rfl, rfl, unhide hX _⟩
                · rw [fnd_none (by omega)] at hF
                  simp only [fndV] at hF
                  have hfh : fnd nm es (beg bs) = none := fnd_none (by omega)
                  rw [if_neg (by omega)] at hhr
                  obtain rfl : hv = -1 := hhr
                  obtain rfl : sv = -1 := by omega
                  replace hft := hide hft
                  clear hp0 hpl hsv'
                  as_aux_lemma =>
                    replace hF := hide hF
                    clear hLc
                    go_wp2_with fail
                    refine (unhide hF).mono ?_
                    rintro e W4 ⟨rfl, hL, hs⟩
                    have hO4 := hOl.same (fun k hk => List.mem_cons_of_mem _ (mem_blkA k hk)) hs
                    have hC4 := hOc.same (by simp) hs
                    have hD4 : DBlk (W4.alloc (.cells #[.int .i64 0, .int .i64 0, .int .i64 0] 34 (0, 0))) W4.heap.size 0 0 0 := heap_alloc_new W4 _
                    obtain ⟨hL, hs4⟩ := hL.more (.cells #[.int .i64 0, .int .i64 0, .int .i64 0] 34 (0, 0))
                    replace hO4 := hO4.same (fun k hk => List.mem_cons_of_mem _ (mem_blkA k hk)) hs4
                    replace hC4 := hC4.same (by simp) hs4
                    obtain ⟨z1, hz1⟩ : ∃ x, W4.heap.size = x := ⟨_, rfl⟩
                    rw [hz1] at hL hD4
                    obtain ⟨v0, v1⟩ := hC4.cells
                    have hH := lsHere hL nm (by omega) (by omega)
                    rw [hfh] at hH
                    simp only [fndV] at hH
                    replace hH := hide hH
                    clear hF hs hs4 hL hOl hOc hC4 u0 u1
                    go_wp2_with fail
                    refine (unhide hH).mono ?_
                    rintro e W5 ⟨rfl, hL, hs⟩
                    replace hO4 := hO4.same (fun k hk => List.mem_cons_of_mem _ (List.mem_cons_of_mem _ (mem_blkA k hk))) hs
                    replace hD4 := hs.d (by simp) hD4
                    have hD5 : DBlk (W5.alloc (.cells #[.int .i64 0, .int .i64 0, .int .i64 0] 34 (0, 0))) W5.heap.size 0 0 0 := heap_alloc_new W5 _
                    obtain ⟨hL, hs5⟩ := hL.more (.cells #[.int .i64 0, .int .i64 0, .int .i64 0] 34 (0, 0))
                    replace hO4 := hO4.same (fun k hk => List.mem_cons_of_mem _ (List.mem_cons_of_mem _ (mem_blkA k hk))) hs5
                    replace hD4 := hs5.d (by simp) hD4
                    obtain ⟨d0, d1, d2⟩ := hD4.cells
                    obtain ⟨k0, k1, k2⟩ := hD5.cells
                    have hX := hide (show ∀ m, SA w (World.drewN (W5.alloc (.cells #[.int .i64 0, .int .i64 0, .int .i64 0] 34 (0, 0))) m) g a5 c5 es bs (2 * (i + 1)) from fun m => ⟨hO4.drewN m, ((hL.sub (M' := blkA a5) (fun k hk => List.mem_cons_of_mem _ (List.mem_cons_of_mem _ (List.mem_cons_of_mem _ hk)))).q (by omega)).drewN m, unhide hft⟩)
                    clear hH hL hs hs5 hD4 hD5 hO4 v0 v1
                    go_wp2
                    go_quiet (fail)
                    go_wp2
                    go_meet
                    case rel => exact ⟨a5, c5, es, bs, rfl, rfl, unhide hX _⟩
        case rest =>
          obtain ⟨a6, c6, es', bs', rfl, rfl, hX⟩ := hcut
          have hP := hide (lsDeep hX.2.1 (by omega))
          replace hX := hide hX
          clear hOc hLc hOl u0 u1
          go_wp2_with fail
          refine (unhide hP).mono ?_
          rintro e W7 ⟨rfl, rfl⟩
          clear hP
          go_wp2
          go_roundg g'
          case measure => omega
          case rel => exact ⟨i + 1, a6, c6, es', bs', rfl, rfl, by go_num, by omega, unhide hX⟩
    · obtain rfl : i = n := by omega
      have hx : (i : Int) < len → ¬ (i : Int) < 60 := fun h h' => by omega
      have hb := hSA.2.1.1
      clear hSA
      by_cases hl1 : (i : Int) < len
      · have hl2 := hx hl1
        clear hx
        go_wp2
        go_ret
        exact ⟨rfl, hb⟩
      · clear hx
        go_wp2
        go_ret
        exact ⟨rfl, hb⟩
end Go.Proofs.Ytlmfoieolomcfaa

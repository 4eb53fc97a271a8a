/-
  The reference's Scan.
-/
import Derived.Test.YtmhkmmcicfpakaaScanLoop
import Derived.Deep.LoopGhost
namespace Go.Proofs.Ytmhkmmcicfpakaa
open Go.RowKit
set_option linter.unusedSimpArgs false
set_option linter.unusedVariables false
theorem own_none (w : World) (base e size : Nat) : w.ownsRow base e size (.slice none 0 0) 0 [] := ⟨by simp, .inl ⟨rfl, rfl⟩⟩
theorem sc0_st (w : World) (s : ByteArray) : ScSt (w.alloc (.cells #[.string s, .int .i64 0, .int .i64 1, .slice none 0 0, .slice none 0 0] 50)) w.heap.size w.heap.size s sc0 :=
  ⟨.slice none 0 0, .slice none 0 0, by show (w.heap.push _)[w.heap.size]? = _; simp [scObj, sc0], own_none _ _ _ _, own_none _ _ _ _, Nat.le_refl _⟩
/-- The first fault, as far as a text's length goes. -/
def bigF (s : ByteArray) (fl : Int) : Int := if 2000 < s.size ∧ (fl < 0 ∨ 2000 < fl) then 2000 else fl
/-- A row that holds these, whoever's. -/
theorem own_nil {w : World} {base : Nat} : OwnT w base (.slice none 0 0) [] ∧ OwnC w base (.slice none 0 0) [] := ⟨own_none _ _ _ _, own_none _ _ _ _⟩
theorem scanR_stop {s : ByteArray} {fb : Int} {x : Sc} (h : scanL s s.size sc0 = (false, x)) : scanR s fb = ([], [], if fb < 0 ∨ (x.p : Int) < fb then (x.p : Int) else fb) := by
  rw [scanR, h]; rfl
theorem scanR_bad {s : ByteArray} {fb : Int} {x : Sc} (h : scanL s s.size sc0 = (true, x)) (hf : 0 ≤ fb) : scanR s fb = ([], [], fb) := by
  rw [scanR, h, if_pos rfl, if_pos hf]
theorem scanR_ok {s : ByteArray} {fb : Int} {x : Sc} (h : scanL s s.size sc0 = (true, x)) (hf : ¬ 0 ≤ fb) : scanR s fb = (x.semi.l ++ [⟨7, ⟨#[]⟩, s.size, x.line, false⟩], x.c, -1) := by
  rw [scanR, h, if_pos rfl, if_neg hf]
/-- What is left when nothing begins: as it was. -/
theorem one_stays (s : ByteArray) (x : Sc) (h : (x.one s).1 = false) : (x.one s).2 = x := by
  revert h
  unfold Sc.one
  repeat' split
  all_goals
    intro h
    dsimp only at h ⊢ <;> first
      | (cases h; done)
      | (rw [Sc.comment, if_neg (by rw [h]; decide)]; done)
      | (exfalso; simp_all; done)
      | rfl
set_option maxHeartbeats 4000000 in
set_option maxRecDepth 100000 in
theorem rScan_any (s : ByteArray) (fl : Int) (w : World) (hs : s.size ≤ 800000) (hf0 : -1 ≤ fl) (hf1 : fl ≤ 1000000) (HF : ∀ w, Calls Try.prog 22 #[.string s] w fun e w' => e = .returned (.int .i64 fl) ∧ w' = w) :
    Calls Try.prog 15 #[.string s] w fun e w' => ∃ vl vc, e = .returned (.tuple #[vl, vc, .int .i64 (scanR s (bigF s fl)).2.2]) ∧ OwnT w' w.heap.size vl (scanR s (bigF s fl)).1 ∧ OwnC w' w.heap.size vc (scanR s (bigF s fl)).2.1 ∧ Below w.heap.size w w' := by
  have h0 := sc0_st w s
  have hw0 := below_alloc w (.cells #[.string s, .int .i64 0, .int .i64 1, .slice none 0 0, .slice none 0 0] 50)
  have hb0 : -1 ≤ bigF s fl ∧ bigF s fl ≤ 1000000 := by unfold bigF; split <;> omega
  obtain ⟨fb, hfb⟩ : ∃ fb, bigF s fl = fb := ⟨_, rfl⟩
  have hfd : fb = if 2000 < s.size ∧ (fl < 0 ∨ 2000 < fl) then 2000 else fl := by rw [← hfb]; rfl
  rw [hfb] at hb0 ⊢
  replace HF := hide HF
  replace h0 := hide h0
  replace hw0 := hide hw0
  replace hfd := hide hfd
  clear hfb
  go_enter Try.func15, Try.ntmps15
  go_wp2_with fail
  refine (unhide HF _).mono ?_
  rintro e W0 ⟨rfl, rfl⟩
  obtain ⟨m, hm⟩ : ∃ m, decide (2000 < s.size ∧ (fl < 0 ∨ 2000 < fl)) = m := ⟨_, rfl⟩
  replace hfd := hide (show fb = if m = true then 2000 else fl by rw [unhide hfd, ← hm]; simp only [decide_eq_true_eq])
  go_upto_region 3 with fail
  go_cut [22] (fun s22 wx => s22 = .bool m ∧ wx = w.alloc (.cells #[.string s, .int .i64 0, .int .i64 1, .slice none 0 0, .slice none 0 0] 50))
  case first =>
    by_cases h1 : (2000 : Int) < s.size
    all_goals by_cases h2 : fl < 0
    all_goals by_cases h3 : 2000 < fl
    all_goals first | (exfalso; omega; done) | skip
    all_goals first
      | (replace hm := hide (show true = m by rw [← hm, decide_eq_true (by omega)]))
      | (replace hm := hide (show false = m by rw [← hm, decide_eq_false (by omega)]))
    all_goals go_wp2
    all_goals go_meet
    all_goals
      case rel => rw [← unhide hm]; exact ⟨rfl, rfl⟩
  case rest =>
  obtain ⟨rfl, rfl⟩ := hcut
  clear hm
  go_upto_if 22 with fail
  go_cut [6] (fun s6 wx => s6 = .int .i64 fb ∧ wx = w.alloc (.cells #[.string s, .int .i64 0, .int .i64 1, .slice none 0 0, .slice none 0 0] 50))
  case first =>
    cases m with
    | true =>
      go_wp2
      go_meet
      case rel => rw [unhide hfd]; exact ⟨rfl, rfl⟩
    | false =>
      go_wp2
      go_meet
      case rel => rw [unhide hfd]; exact ⟨rfl, rfl⟩
  case rest =>
  obtain ⟨rfl, rfl⟩ := hcut
  clear hfd HF
  generalize w.alloc (.cells #[.string s, .int .i64 0, .int .i64 1, .slice none 0 0, .slice none 0 0] 50) = W1 at *
  replace h0 := unhide h0
  replace hw0 := unhide hw0
  go_wp2
  go_loopg [6] s.size (fun gf s6 wx => ∃ x, s6 = .int .i64 fb ∧ ScOk s x ∧ ScSt wx w.heap.size w.heap.size s x ∧ Below w.heap.size w wx ∧ scanL s gf x = scanL s s.size sc0 ∧ s.size ≤ x.p + gf)
  case atStart => exact ⟨sc0, rfl, sc0_ok s, h0, hw0, rfl, by simp [sc0]⟩
  case round =>
    clear h0 hw0
    obtain ⟨x, rfl, hok, hst, hw, hsc, hfu⟩ := hrel
    have hl1 := hok.l
    have hl2 := hok.c
    have hl3 := hok.line
    have hl4 := hok.p
    obtain ⟨vl, vc, hh, h1, h2, h3⟩ := id hst
    obtain ⟨x0, x1, x2, x3, x4⟩ := scCells hh
    clear hh h1 h2 h3
    by_cases hp : x.p < s.size
    · obtain ⟨g', rfl⟩ : ∃ g', gk = g' + 1 := ⟨gk - 1, by omega⟩
      have HO := hide (scOne_any wr w.heap.size w.heap.size s x hst hp (by omega) (by omega) (by omega) (by omega))
      cases ho : (x.one s).1 with
      | true =>
        obtain ⟨hok2, hgo⟩ := hok.one hp ho
        rw [scanL_step hp ho] at hsc
        replace HO := hide (ho ▸ unhide HO)
        replace hsc := hide hsc
        clear hok
        go_wp2_with fail
        refine (unhide HO).mono ?_
        rintro e W2 ⟨rfl, hst2, hw2⟩
        clear x0 x1 x2 x3 x4
        generalize (x.one s).2 = y at *
        go_wp2
        go_roundg g'
        case measure => omega
        case rel => exact ⟨y, rfl, hok2, hst2, hw.trans hw2, unhide hsc, by omega⟩
      | false =>
        have hsame := one_stays s x ho
        rw [scanL_stop hp ho, hsame] at hsc
        replace HO := hide (hsame ▸ ho ▸ unhide HO)
        have hR := hide (scanR_stop (fb := fb) hsc.symm)
        clear hok hsc ho hsame
        go_wp2_with fail
        refine (unhide HO).mono ?_
        rintro e W2 ⟨rfl, hst2, hw2⟩
        clear x0 x1 x2 x3 x4 HO
        obtain ⟨vl, vc, hh, h1, h2, h3⟩ := hst2
        obtain ⟨x0, x1, x2, x3, x4⟩ := scCells hh
        clear hh h1 h2 h3
        by_cases hf : fb < 0
        · replace hR := hide (if_pos (α := Int) (Or.inl hf) ▸ unhide hR)
          go_wp2
          go_ret3
          rw [unhide hR]
          exact ⟨_, _, rfl, own_nil.1, own_nil.2, hw.trans hw2⟩
        · by_cases hq : (x.p : Int) < fb
          · replace hR := hide (if_pos (α := Int) (Or.inr hq) ▸ unhide hR)
            go_wp2
            go_ret3
            rw [unhide hR]
            exact ⟨_, _, rfl, own_nil.1, own_nil.2, hw.trans hw2⟩
          · replace hR := hide (if_neg (α := Int) (show ¬ (fb < 0 ∨ (x.p : Int) < fb) by omega) ▸ unhide hR)
            go_wp2
            go_ret3
            rw [unhide hR]
            exact ⟨_, _, rfl, own_nil.1, own_nil.2, hw.trans hw2⟩
    · rw [scanL_end (by omega)] at hsc
      by_cases hf : 0 ≤ fb
      · have hR := hide (scanR_bad hsc.symm hf)
        clear hsc
        go_wp2
        go_ret3
        rw [unhide hR]
        exact ⟨_, _, rfl, own_nil.1, own_nil.2, hw⟩
      · have hR := hide (scanR_ok (fb := fb) hsc.symm hf)
        have hxp : x.p = s.size := by omega
        have HS := hide (scSemi_any wr w.heap.size w.heap.size s x hst (by omega))
        have hrest := hide (semi_rest x)
        clear hsc hok hst
        generalize x.semi = y at *
        go_wp2_with fail
        refine (unhide HS).mono ?_
        rintro e W0 ⟨rfl, hst, hw1⟩
        replace hw := hw.trans hw1
        obtain ⟨hr1, hr2, hr3, hr4⟩ := unhide hrest
        obtain ⟨p, line, l, c⟩ := y
        dsimp only at hr1 hr2 hr3 hr4 hst ⊢
        subst hr1 hr2 hr3
        clear hrest x0 x1 x2 x3 x4 HS hw1
        obtain ⟨vl, vc, hS, h1, h2, h3⟩ := hst
        dsimp only at hS h1 h2
        obtain ⟨al, cl, rfl, hal1, hal2⟩ := own_shape h1
        obtain ⟨ac, cc, rfl, hac1, hac2⟩ := own_shape h2
        have hg : w.heap.size < W0.heap.size := (Array.getElem?_eq_some_iff.1 hS).1
        generalize x.p = p at *
        generalize x.line = line at *
        generalize x.c = c at *
        generalize x.l = xl at *
        obtain ⟨nl, hnl⟩ : ∃ nl, l.length = nl := ⟨_, rfl⟩
        obtain ⟨nc, hnc⟩ : ∃ nc, c.length = nc := ⟨_, rfl⟩
        rw [hnl] at hS h1 hal1 hr4
        rw [hnc] at hS h2 hac1 hl2
        replace hS := hide hS
        replace h1 := hide h1
        replace h2 := hide h2
        replace hw := hide hw
        go_upto_region 13 with fail
        replace hS := unhide hS
        replace h1 := unhide h1
        replace h2 := unhide h2
        replace hw := unhide hw
        refine wp_region_D (fun w' => w'.heap[w.heap.size]? = some (scObj s p line (.slice al nl cl) (.slice ac nc cc))) (fun j => [16].contains j) (by kernel_rfl) ?_
        replace hS : W0.drew.heap[w.heap.size]? = some (scObj s p line (.slice al nl cl) (.slice ac nc cc)) := hS
        replace h1 : OwnT W0.drew w.heap.size (.slice al nl cl) l := h1
        replace h2 : OwnC W0.drew w.heap.size (.slice ac nc cc) c := h2
        replace hw : Below w.heap.size w W0.drew := hw.drew
        replace hg : w.heap.size < W0.drew.heap.size := hg
        generalize World.drew W0 = W at h1 h2 hS hw hg ⊢
        refine wpAnyD_takeC (i := 0) (v := .pointer (some ⟨w.heap.size, 0, none⟩)) [16] (fun _ => rfl) rfl (by kernel_rfl) 2 (by kernel_rfl) rfl (by kernel_rfl) (by kernel_rfl) (by kernel_rfl) (fun _ _ _ h => h) (Or.inl ⟨by kernel_rfl, ?_⟩) hS ?_
        · intro w hSw; go_simp
        try simp only [List.getElem_toArray, List.getElem_cons_succ, List.getElem_cons_zero, Act.put, List.setIfInBounds_toArray, List.set_cons_zero, List.set_cons_succ]
        refine wpAnyD_takeC (i := 1) (v := .pointer (some ⟨w.heap.size, 0, none⟩)) [16] (fun _ => rfl) rfl (by kernel_rfl) 2 (by kernel_rfl) rfl (by kernel_rfl) (by kernel_rfl) (by kernel_rfl) (fun _ _ _ h => h) (Or.inl ⟨by kernel_rfl, ?_⟩) hS ?_
        · intro w hSw; go_simp
        try simp only [List.getElem_toArray, List.getElem_cons_succ, List.getElem_cons_zero, Act.put, List.setIfInBounds_toArray, List.set_cons_zero, List.set_cons_succ]
        refine wpAnyD_takeC (i := 2) (v := .pointer (some ⟨w.heap.size, 0, none⟩)) [16] (fun _ => rfl) rfl (by kernel_rfl) 2 (by kernel_rfl) rfl (by kernel_rfl) (by kernel_rfl) (by kernel_rfl) (fun _ _ _ h => h) (Or.inl ⟨by kernel_rfl, ?_⟩) hS ?_
        · intro w hSw; go_simp
        try simp only [List.getElem_toArray, List.getElem_cons_succ, List.getElem_cons_zero, Act.put, List.setIfInBounds_toArray, List.set_cons_zero, List.set_cons_succ]
        refine wpAnyD_takeC (i := 3) (v := .pointer (some ⟨w.heap.size, 3, none⟩)) [16] (fun _ => rfl) rfl (by kernel_rfl) 2 (by kernel_rfl) rfl (by kernel_rfl) (by kernel_rfl) (by kernel_rfl) (fun _ _ _ h => h) (Or.inl ⟨by kernel_rfl, ?_⟩) hS ?_
        · intro w hSw; go_simp
        try simp only [List.getElem_toArray, List.getElem_cons_succ, List.getElem_cons_zero, Act.put, List.setIfInBounds_toArray, List.set_cons_zero, List.set_cons_succ]
        refine wpAnyD_takeC (i := 4) (v := .slice al nl cl) [16] (fun _ => rfl) rfl (by kernel_rfl) 2 (by kernel_rfl) rfl (by kernel_rfl) (by kernel_rfl) (by kernel_rfl) (fun _ _ _ h => h) (Or.inl ⟨by kernel_rfl, ?_⟩) hS ?_
        · intro w hSw; obtain ⟨x0, x1, x2, x3, x4⟩ := scCells hSw; go_simp
        try simp only [List.getElem_toArray, List.getElem_cons_succ, List.getElem_cons_zero, Act.put, List.setIfInBounds_toArray, List.set_cons_zero, List.set_cons_succ]
        refine wpAnyD_takeC (i := 5) (v := .string s) [16] (fun _ => rfl) rfl (by kernel_rfl) 2 (by kernel_rfl) rfl (by kernel_rfl) (by kernel_rfl) (by kernel_rfl) (fun _ _ _ h => h) (Or.inl ⟨by kernel_rfl, ?_⟩) hS ?_
        · intro w hSw; go_simp
        try simp only [List.getElem_toArray, List.getElem_cons_succ, List.getElem_cons_zero, Act.put, List.setIfInBounds_toArray, List.set_cons_zero, List.set_cons_succ]
        refine wpAnyD_takeC (i := 6) (v := .int .i64 s.size) [16] (fun _ => rfl) rfl (by kernel_rfl) 2 (by kernel_rfl) rfl (by kernel_rfl) (by kernel_rfl) (by kernel_rfl) (fun _ _ _ h => h) (Or.inl ⟨by kernel_rfl, ?_⟩) hS ?_
        · intro w hSw; go_simp
        try simp only [List.getElem_toArray, List.getElem_cons_succ, List.getElem_cons_zero, Act.put, List.setIfInBounds_toArray, List.set_cons_zero, List.set_cons_succ]
        refine wpAnyD_takeC (i := 7) (v := .pointer (some ⟨w.heap.size, 0, none⟩)) [16] (fun _ => rfl) rfl (by kernel_rfl) 2 (by kernel_rfl) rfl (by kernel_rfl) (by kernel_rfl) (by kernel_rfl) (fun _ _ _ h => h) (Or.inl ⟨by kernel_rfl, ?_⟩) hS ?_
        · intro w hSw; go_simp
        try simp only [List.getElem_toArray, List.getElem_cons_succ, List.getElem_cons_zero, Act.put, List.setIfInBounds_toArray, List.set_cons_zero, List.set_cons_succ]
        refine wpAnyD_takeC (i := 8) (v := .pointer (some ⟨w.heap.size, 0, none⟩)) [16] (fun _ => rfl) rfl (by kernel_rfl) 2 (by kernel_rfl) rfl (by kernel_rfl) (by kernel_rfl) (by kernel_rfl) (fun _ _ _ h => h) (Or.inl ⟨by kernel_rfl, ?_⟩) hS ?_
        · intro w hSw; go_simp
        try simp only [List.getElem_toArray, List.getElem_cons_succ, List.getElem_cons_zero, Act.put, List.setIfInBounds_toArray, List.set_cons_zero, List.set_cons_succ]
        refine wpAnyD_takeC (i := 9) (v := .pointer (some ⟨w.heap.size, 2, none⟩)) [16] (fun _ => rfl) rfl (by kernel_rfl) 2 (by kernel_rfl) rfl (by kernel_rfl) (by kernel_rfl) (by kernel_rfl) (fun _ _ _ h => h) (Or.inl ⟨by kernel_rfl, ?_⟩) hS ?_
        · intro w hSw; go_simp
        try simp only [List.getElem_toArray, List.getElem_cons_succ, List.getElem_cons_zero, Act.put, List.setIfInBounds_toArray, List.set_cons_zero, List.set_cons_succ]
        refine wpAnyD_takeC (i := 10) (v := .int .i64 line) [16] (fun _ => rfl) rfl (by kernel_rfl) 2 (by kernel_rfl) rfl (by kernel_rfl) (by kernel_rfl) (by kernel_rfl) (fun _ _ _ h => h) (Or.inl ⟨by kernel_rfl, ?_⟩) hS ?_
        · intro w hSw; obtain ⟨x0, x1, x2, x3, x4⟩ := scCells hSw; go_simp
        try simp only [List.getElem_toArray, List.getElem_cons_succ, List.getElem_cons_zero, Act.put, List.setIfInBounds_toArray, List.set_cons_zero, List.set_cons_succ]
        refine wpAnyD_takeC (i := 11) (v := .agg #[.int .i64 7, .string ⟨#[]⟩, .int .i64 s.size, .int .i64 line, .bool false]) [16] (fun _ => rfl) rfl (by kernel_rfl) 2 (by kernel_rfl) rfl (by kernel_rfl) (by kernel_rfl) (by kernel_rfl) (fun _ _ _ h => h) (Or.inl ⟨by kernel_rfl, ?_⟩) hS ?_
        · intro w hSw; go_simp
        try simp only [List.getElem_toArray, List.getElem_cons_succ, List.getElem_cons_zero, Act.put, List.setIfInBounds_toArray, List.set_cons_zero, List.set_cons_succ]
        replace h1 := hide h1
        replace h2 := hide h2
        replace hS := hide hS
        replace hw := hide hw
        refine wpAnyD_one (i := 12) rfl (by kernel_rfl) (fun K hK => ?_)
        replace hK := hide hK
        go_simp
        have hS2 : (W.alloc (.cells #[.int .i64 7, .string ⟨#[]⟩, .int .i64 s.size, .int .i64 line, .bool false] 36)).heap[w.heap.size]? = some (scObj s p line (.slice al nl cl) (.slice ac nc cc)) := (Below.heap_alloc _ _ _ hg).trans (unhide hS)
        have h1a := own_alloc (unhide h1) (.cells #[.int .i64 7, .string ⟨#[]⟩, .int .i64 s.size, .int .i64 line, .bool false] 36)
        have h2a := own_alloc (unhide h2) (.cells #[.int .i64 7, .string ⟨#[]⟩, .int .i64 s.size, .int .i64 line, .bool false] 36)
        have hn := new_tok W ⟨7, ⟨#[]⟩, s.size, line, false⟩ (0, 0)
        have hwa := (unhide hw).alloc (by omega) (.cells #[.int .i64 7, .string ⟨#[]⟩, .int .i64 s.size, .int .i64 line, .bool false] 36)
        have hga : w.heap.size < (W.alloc (.cells #[.int .i64 7, .string ⟨#[]⟩, .int .i64 s.size, .int .i64 line, .bool false] 36)).heap.size := (Array.getElem?_eq_some_iff.1 hS2).1
        refine unhide hK _ _ (fun _ => hS2) ?_
        clear hK K h1 h2 hS hw
        dsimp only at hn
        generalize World.alloc W _ = W2 at *
        generalize W.heap.size = gn at *
        try simp only [List.getElem_toArray, List.getElem_cons_succ, List.getElem_cons_zero, Act.put, List.setIfInBounds_toArray, List.set_cons_zero, List.set_cons_succ]
        refine wpAnyD_one (i := 13) rfl (by kernel_rfl) (fun K hK => ?_)
        rw [if_pos (by kernel_rfl)]
        refine wp_append_tok (v := .slice al nl cl) (.tmp 57) (.tmp 65) rfl ⟨7, ⟨#[]⟩, s.size, line, false⟩ rfl h1a ⟨gn, 0, none⟩ rfl hn (by omega) (by omega) ?_
        intro v' W3 hown hgrow
        obtain ⟨hst, hS3⟩ := sc_stored hS2 h1a h2a h3 hown hgrow
        have hwb : Below w.heap.size w W3 := hwa.grown hgrow (by omega) (fun k hk => by
          rcases h1a.2 with ⟨e, _⟩ | ⟨g', cap, cur, e, hb, _⟩
          · rw [e] at hk; cases hk
          · rw [e] at hk
            obtain rfl : g' = k := by simpa [Value.ownBlock] using hk
            exact hb)
        obtain ⟨al', cl', hv, _, _⟩ := own_shape hown
        obtain rfl : v' = .slice al' (nl + 1) cl' := by rw [hv, List.length_append, hnl]; rfl
        clear hv
        refine hK _ _ (fun _ => hS3) ?_
        clear hK K hown hgrow h1a h2a hn hwa hS2 hga
        have hS := hS3
        clear hS3
        replace hst := hide hst
        replace hwb := hide hwb
        try simp only [List.getElem_toArray, List.getElem_cons_succ, List.getElem_cons_zero, Act.put, List.setIfInBounds_toArray, List.set_cons_zero, List.set_cons_succ]
        refine wpAnyD_takeC (i := 14) (v := .pointer (some ⟨w.heap.size, 0, none⟩)) [16] (fun _ => rfl) rfl (by kernel_rfl) 2 (by kernel_rfl) rfl (by kernel_rfl) (by kernel_rfl) (by kernel_rfl) (fun _ _ _ h => h) (Or.inl ⟨by kernel_rfl, ?_⟩) hS ?_
        · intro w hSw; go_simp
        try simp only [List.getElem_toArray, List.getElem_cons_succ, List.getElem_cons_zero, Act.put, List.setIfInBounds_toArray, List.set_cons_zero, List.set_cons_succ]
        refine wpAnyD_takeC (i := 15) (v := .pointer (some ⟨w.heap.size, 3, none⟩)) [16] (fun _ => rfl) rfl (by kernel_rfl) 2 (by kernel_rfl) rfl (by kernel_rfl) (by kernel_rfl) (by kernel_rfl) (fun _ _ _ h => h) (Or.inl ⟨by kernel_rfl, ?_⟩) hS ?_
        · intro w hSw; go_simp
        try simp only [List.getElem_toArray, List.getElem_cons_succ, List.getElem_cons_zero, Act.put, List.setIfInBounds_toArray, List.set_cons_zero, List.set_cons_succ]
        obtain ⟨x0, x1, x2, x3, x4⟩ := scCells hS
        have hf := scFrozen hS
        refine wpAnyD_one (i := 16) rfl (by kernel_rfl) (fun K hK => ?_)
        replace hK := hide hK
        go_simp
        refine unhide hK _ _ (fun h => by cases h) ?_
        clear hK K x0 x1 x2 x3 x4 hf hS
        replace hst := unhide hst
        have hwc := (unhide hwb).setCell (p := ⟨w.heap.size, 3, none⟩) h3 (.slice al' (nl + 1) cl')
        clear hwb
        generalize World.setCell _ _ _ = W4 at *
        refine wpAnyD_done (by kernel_rfl) ?_ _
        replace hst := hide hst
        replace hwc := hide hwc
        go_upto_region 14 with fail
        obtain ⟨vl5, vc5, hS5, h15, h25, h35⟩ := unhide hst
        dsimp only at hS5 h15 h25
        have hS : W4.drew.heap[w.heap.size]? = some (scObj s p line vl5 vc5) := hS5
        have hT : OwnT W4.drew w.heap.size vl5 (l ++ [⟨7, ⟨#[]⟩, s.size, line, false⟩]) := h15
        have hC : OwnC W4.drew w.heap.size vc5 c := h25
        have hB : Below w.heap.size w W4.drew := (unhide hwc).drew
        clear hS5 h15 h25 hst hwc
        replace hT := hide hT
        replace hC := hide hC
        replace hB := hide hB
        refine wp_region_held_drew (S := fun w' => w'.heap[w.heap.size]? = some (scObj s p line vl5 vc5)) (by kernel_rfl) hS (fun _ => ?_)
        generalize World.drew W4 = W5 at hS hT hC hB ⊢
        refine wpAnyH_take (i := 0) (v := .pointer (some ⟨w.heap.size, 0, none⟩)) rfl (by kernel_rfl) (by kernel_rfl) (by kernel_rfl) (fun _ _ _ h => h) (Or.inl ⟨by kernel_rfl, ?_⟩) hS ?_
        · intro w hSw; go_simp
        try simp only [List.getElem_toArray, List.getElem_cons_succ, List.getElem_cons_zero, Act.put, List.setIfInBounds_toArray, List.set_cons_zero, List.set_cons_succ]
        refine wpAnyH_take (i := 1) (v := .pointer (some ⟨w.heap.size, 0, none⟩)) rfl (by kernel_rfl) (by kernel_rfl) (by kernel_rfl) (fun _ _ _ h => h) (Or.inl ⟨by kernel_rfl, ?_⟩) hS ?_
        · intro w hSw; go_simp
        try simp only [List.getElem_toArray, List.getElem_cons_succ, List.getElem_cons_zero, Act.put, List.setIfInBounds_toArray, List.set_cons_zero, List.set_cons_succ]
        refine wpAnyH_take (i := 2) (v := .pointer (some ⟨w.heap.size, 3, none⟩)) rfl (by kernel_rfl) (by kernel_rfl) (by kernel_rfl) (fun _ _ _ h => h) (Or.inl ⟨by kernel_rfl, ?_⟩) hS ?_
        · intro w hSw; go_simp
        try simp only [List.getElem_toArray, List.getElem_cons_succ, List.getElem_cons_zero, Act.put, List.setIfInBounds_toArray, List.set_cons_zero, List.set_cons_succ]
        refine wpAnyH_take (i := 3) (v := vl5) rfl (by kernel_rfl) (by kernel_rfl) (by kernel_rfl) (fun _ _ _ h => h) (Or.inl ⟨by kernel_rfl, ?_⟩) hS ?_
        · intro w hSw; obtain ⟨x0, x1, x2, x3, x4⟩ := scCells hSw; go_simp
        try simp only [List.getElem_toArray, List.getElem_cons_succ, List.getElem_cons_zero, Act.put, List.setIfInBounds_toArray, List.set_cons_zero, List.set_cons_succ]
        refine wpAnyH_take (i := 4) (v := .pointer (some ⟨w.heap.size, 0, none⟩)) rfl (by kernel_rfl) (by kernel_rfl) (by kernel_rfl) (fun _ _ _ h => h) (Or.inl ⟨by kernel_rfl, ?_⟩) hS ?_
        · intro w hSw; go_simp
        try simp only [List.getElem_toArray, List.getElem_cons_succ, List.getElem_cons_zero, Act.put, List.setIfInBounds_toArray, List.set_cons_zero, List.set_cons_succ]
        refine wpAnyH_take (i := 5) (v := .pointer (some ⟨w.heap.size, 0, none⟩)) rfl (by kernel_rfl) (by kernel_rfl) (by kernel_rfl) (fun _ _ _ h => h) (Or.inl ⟨by kernel_rfl, ?_⟩) hS ?_
        · intro w hSw; go_simp
        try simp only [List.getElem_toArray, List.getElem_cons_succ, List.getElem_cons_zero, Act.put, List.setIfInBounds_toArray, List.set_cons_zero, List.set_cons_succ]
        refine wpAnyH_take (i := 6) (v := .pointer (some ⟨w.heap.size, 4, none⟩)) rfl (by kernel_rfl) (by kernel_rfl) (by kernel_rfl) (fun _ _ _ h => h) (Or.inl ⟨by kernel_rfl, ?_⟩) hS ?_
        · intro w hSw; go_simp
        try simp only [List.getElem_toArray, List.getElem_cons_succ, List.getElem_cons_zero, Act.put, List.setIfInBounds_toArray, List.set_cons_zero, List.set_cons_succ]
        refine wpAnyH_take (i := 7) (v := vc5) rfl (by kernel_rfl) (by kernel_rfl) (by kernel_rfl) (fun _ _ _ h => h) (Or.inl ⟨by kernel_rfl, ?_⟩) hS ?_
        · intro w hSw; obtain ⟨x0, x1, x2, x3, x4⟩ := scCells hSw; go_simp
        try simp only [List.getElem_toArray, List.getElem_cons_succ, List.getElem_cons_zero, Act.put, List.setIfInBounds_toArray, List.set_cons_zero, List.set_cons_succ]
        refine wpAnyH_take (i := 8) (v := vl5) rfl (by kernel_rfl) (by kernel_rfl) (by kernel_rfl) (fun _ _ _ h => h) (Or.inl ⟨by kernel_rfl, ?_⟩) hS ?_
        · intro w hSw; go_simp
        try simp only [List.getElem_toArray, List.getElem_cons_succ, List.getElem_cons_zero, Act.put, List.setIfInBounds_toArray, List.set_cons_zero, List.set_cons_succ]
        refine wpAnyH_take (i := 9) (v := vc5) rfl (by kernel_rfl) (by kernel_rfl) (by kernel_rfl) (fun _ _ _ h => h) (Or.inl ⟨by kernel_rfl, ?_⟩) hS ?_
        · intro w hSw; go_simp
        try simp only [List.getElem_toArray, List.getElem_cons_succ, List.getElem_cons_zero, Act.put, List.setIfInBounds_toArray, List.set_cons_zero, List.set_cons_succ]
        refine wpAnyH_take (i := 10) (v := .int .i64 (-1)) rfl (by kernel_rfl) (by kernel_rfl) (by kernel_rfl) (fun _ _ _ h => h) (Or.inl ⟨by kernel_rfl, ?_⟩) hS ?_
        · intro w hSw; go_simp
        try simp only [List.getElem_toArray, List.getElem_cons_succ, List.getElem_cons_zero, Act.put, List.setIfInBounds_toArray, List.set_cons_zero, List.set_cons_succ]
        refine wpAnyH_done (by kernel_rfl) ?_ _
        clear hS
        go_wp2
        go_ret3
        rw [unhide hR]
        exact ⟨_, _, rfl, unhide hT, unhide hC, unhide hB⟩
end Go.Proofs.Ytmhkmmcicfpakaa

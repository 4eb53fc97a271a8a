/-
  The program's cutter.cut.
-/
import Derived.Test.YtakllllnpdnpdaaCutStep
namespace Go.Proofs.Ytakllllnpdnpdaa
open Go.RowKit
set_option linter.unusedSimpArgs false
set_option linter.unusedVariables false
/-- From x on, as often as f says, up to byte 2000. -/
def scanP (s : ByteArray) : Nat → Sc → Bool × Sc
  | 0, x => (true, x)
  | f + 1, x => if x.p < s.size ∧ x.p < 2000 then (if (x.one s).1 then scanP s f (x.one s).2 else (false, x)) else (true, x)
theorem scanP_step {s : ByteArray} {f : Nat} {x : Sc} (hp : x.p < s.size) (hq : x.p < 2000) (ho : (x.one s).1 = true) : scanP s (f + 1) x = scanP s f (x.one s).2 := by
  rw [scanP, if_pos ⟨hp, hq⟩, if_pos ho]
theorem scanP_stop {s : ByteArray} {f : Nat} {x : Sc} (hp : x.p < s.size) (hq : x.p < 2000) (ho : (x.one s).1 = false) : scanP s (f + 1) x = (false, x) := by
  rw [scanP, if_pos ⟨hp, hq⟩, if_neg (by rw [ho]; decide)]
theorem scanP_end {s : ByteArray} {f : Nat} {x : Sc} (hp : ¬ (x.p < s.size ∧ x.p < 2000)) : scanP s f x = (true, x) := by
  cases f with
  | zero => rfl
  | succ f => rw [scanP, if_neg hp]
/-- What cut answers, and what it leaves. -/
def cutF (s : ByteArray) : Int := if (scanP s s.size sc0).1 then (if 2000 < s.size then 2000 else -1) else ((scanP s s.size sc0).2.p : Int)
def cutL (s : ByteArray) : List Tk := (scanP s s.size sc0).2.semi.l ++ [⟨7, ⟨#[]⟩, (scanP s s.size sc0).2.p, (scanP s s.size sc0).2.line, false⟩]
theorem cutF_stop {s : ByteArray} {x : Sc} (h : scanP s s.size sc0 = (false, x)) : cutF s = x.p := by rw [cutF, h]; rfl
theorem cutF_big {s : ByteArray} {x : Sc} (h : scanP s s.size sc0 = (true, x)) (hs : 2000 < s.size) : cutF s = 2000 := by rw [cutF, h, if_pos rfl, if_pos hs]
theorem cutF_ok {s : ByteArray} {x : Sc} (h : scanP s s.size sc0 = (true, x)) (hs : ¬ 2000 < s.size) : cutF s = -1 := by rw [cutF, h, if_pos rfl, if_neg hs]
theorem cutL_ok {s : ByteArray} {x : Sc} (h : scanP s s.size sc0 = (true, x)) : cutL s = x.semi.l ++ [⟨7, ⟨#[]⟩, x.p, x.line, false⟩] ∧ (scanP s s.size sc0).2.c = x.c := by rw [cutL, h]; exact ⟨rfl, rfl⟩
set_option maxHeartbeats 4000000 in
set_option maxRecDepth 100000 in
theorem cuCut_any (w : World) (base g : Nat) (s : ByteArray) (h0 : CuSt w base g s sc0) (hs : s.size ≤ 700000) :
    Calls Try.prog 11 #[.pointer (some ⟨g, 0, none⟩)] w fun e w' => e = .returned (.int .i64 (cutF s)) ∧ Below base w w' ∧ ∃ y, CuSt w' base g s y ∧ (cutF s = -1 → y.l = cutL s ∧ y.c = (scanP s s.size sc0).2.c) := by
  go_enter Try.func11, Try.ntmps11
  go_wp2
  go_loopg [] s.size (fun gf wx => ∃ x, ScOk s x ∧ CuSt wx base g s x ∧ Below base w wx ∧ scanP s gf x = scanP s s.size sc0 ∧ s.size ≤ x.p + gf)
  case atStart => exact ⟨sc0, sc0_ok s, h0, Below.refl _ _, rfl, by simp [sc0]⟩
  case round =>
    clear h0
    obtain ⟨x, hok, hst, hw, hsc, hfu⟩ := hrel
    have hl1 := hok.l
    have hl2 := hok.c
    have hl3 := hok.line
    have hl4 := hok.p
    obtain ⟨vl, vc, hh, h1, h2, h3⟩ := id hst
    have hS : wr.drew.heap[g]? = some (cuObj s x.p x.line vl vc) := hh
    have hx1 : CuSt wr.drew base g s x := hst
    replace hw : Below base w wr.drew := hw.drew
    clear hh h1 h2 hst
    replace hx1 := hide hx1
    go_upto_region 1 with fail
    refine wp_region_held_drew (S := fun w' => w'.heap[g]? = some (cuObj s x.p x.line vl vc)) (by kernel_rfl) hS (fun _ => ?_)
    generalize World.drew wr = W at hS hw hx1 ⊢
    by_cases hp : x.p < s.size
    · by_cases hq : x.p < 2000
      · have hpz : (x.p : Int) < s.size := by omega
        have hqz : (x.p : Int) < 2000 := by omega
        refine wpAnyH_take (i := 0) (v := .pointer (some ⟨g, 0, none⟩)) rfl (by kernel_rfl) (by kernel_rfl) (by kernel_rfl) (fun _ _ _ h => h) (Or.inl ⟨by kernel_rfl, ?_⟩) hS ?_
        · intro w hSw; go_simp
        try simp only [List.getElem_toArray, List.getElem_cons_succ, List.getElem_cons_zero, Act.put, List.setIfInBounds_toArray, List.set_cons_zero, List.set_cons_succ]
        refine wpAnyH_take (i := 1) (v := .pointer (some ⟨g, 0, none⟩)) rfl (by kernel_rfl) (by kernel_rfl) (by kernel_rfl) (fun _ _ _ h => h) (Or.inl ⟨by kernel_rfl, ?_⟩) hS ?_
        · intro w hSw; go_simp
        try simp only [List.getElem_toArray, List.getElem_cons_succ, List.getElem_cons_zero, Act.put, List.setIfInBounds_toArray, List.set_cons_zero, List.set_cons_succ]
        refine wpAnyH_take (i := 2) (v := .pointer (some ⟨g, 1, none⟩)) rfl (by kernel_rfl) (by kernel_rfl) (by kernel_rfl) (fun _ _ _ h => h) (Or.inl ⟨by kernel_rfl, ?_⟩) hS ?_
        · intro w hSw; go_simp
        try simp only [List.getElem_toArray, List.getElem_cons_succ, List.getElem_cons_zero, Act.put, List.setIfInBounds_toArray, List.set_cons_zero, List.set_cons_succ]
        refine wpAnyH_take (i := 3) (v := .int .i64 x.p) rfl (by kernel_rfl) (by kernel_rfl) (by kernel_rfl) (fun _ _ _ h => h) (Or.inl ⟨by kernel_rfl, ?_⟩) hS ?_
        · intro w hSw; obtain ⟨x0, x1, x2, x3, x4⟩ := cuCells hSw; go_simp
        try simp only [List.getElem_toArray, List.getElem_cons_succ, List.getElem_cons_zero, Act.put, List.setIfInBounds_toArray, List.set_cons_zero, List.set_cons_succ]
        refine wpAnyH_take (i := 4) (v := .pointer (some ⟨g, 0, none⟩)) rfl (by kernel_rfl) (by kernel_rfl) (by kernel_rfl) (fun _ _ _ h => h) (Or.inl ⟨by kernel_rfl, ?_⟩) hS ?_
        · intro w hSw; go_simp
        try simp only [List.getElem_toArray, List.getElem_cons_succ, List.getElem_cons_zero, Act.put, List.setIfInBounds_toArray, List.set_cons_zero, List.set_cons_succ]
        refine wpAnyH_take (i := 5) (v := .pointer (some ⟨g, 0, none⟩)) rfl (by kernel_rfl) (by kernel_rfl) (by kernel_rfl) (fun _ _ _ h => h) (Or.inl ⟨by kernel_rfl, ?_⟩) hS ?_
        · intro w hSw; go_simp
        try simp only [List.getElem_toArray, List.getElem_cons_succ, List.getElem_cons_zero, Act.put, List.setIfInBounds_toArray, List.set_cons_zero, List.set_cons_succ]
        refine wpAnyH_take (i := 6) (v := .pointer (some ⟨g, 0, none⟩)) rfl (by kernel_rfl) (by kernel_rfl) (by kernel_rfl) (fun _ _ _ h => h) (Or.inl ⟨by kernel_rfl, ?_⟩) hS ?_
        · intro w hSw; go_simp
        try simp only [List.getElem_toArray, List.getElem_cons_succ, List.getElem_cons_zero, Act.put, List.setIfInBounds_toArray, List.set_cons_zero, List.set_cons_succ]
        refine wpAnyH_take (i := 7) (v := .string s) rfl (by kernel_rfl) (by kernel_rfl) (by kernel_rfl) (fun _ _ _ h => h) (Or.inl ⟨by kernel_rfl, ?_⟩) hS ?_
        · intro w hSw; obtain ⟨x0, x1, x2, x3, x4⟩ := cuCells hSw; go_simp
        try simp only [List.getElem_toArray, List.getElem_cons_succ, List.getElem_cons_zero, Act.put, List.setIfInBounds_toArray, List.set_cons_zero, List.set_cons_succ]
        refine wpAnyH_take (i := 8) (v := .int .i64 s.size) rfl (by kernel_rfl) (by kernel_rfl) (by kernel_rfl) (fun _ _ _ h => h) (Or.inl ⟨by kernel_rfl, ?_⟩) hS ?_
        · intro w hSw; go_simp
        try simp only [List.getElem_toArray, List.getElem_cons_succ, List.getElem_cons_zero, Act.put, List.setIfInBounds_toArray, List.set_cons_zero, List.set_cons_succ]
        refine wpAnyH_take (i := 9) (v := .bool true) rfl (by kernel_rfl) (by kernel_rfl) (by kernel_rfl) (fun _ _ _ h => h) (Or.inl ⟨by kernel_rfl, ?_⟩) hS ?_
        · intro w hSw; first | (go_simp; done) | (go_simp; omega)
        try simp only [List.getElem_toArray, List.getElem_cons_succ, List.getElem_cons_zero, Act.put, List.setIfInBounds_toArray, List.set_cons_zero, List.set_cons_succ]
        refine wpAnyH_take (i := 10) (v := .bool true) rfl (by kernel_rfl) (by kernel_rfl) (by kernel_rfl) (fun _ _ _ h => h) (Or.inl ⟨by kernel_rfl, ?_⟩) hS ?_
        · intro w hSw; go_simp
        try simp only [List.getElem_toArray, List.getElem_cons_succ, List.getElem_cons_zero, Act.put, List.setIfInBounds_toArray, List.set_cons_zero, List.set_cons_succ]
        refine wpAnyH_take (i := 11) (v := .pointer (some ⟨g, 0, none⟩)) rfl (by kernel_rfl) (by kernel_rfl) (by kernel_rfl) (fun _ _ _ h => h) (Or.inl ⟨by kernel_rfl, ?_⟩) hS ?_
        · intro w hSw; go_simp
        try simp only [List.getElem_toArray, List.getElem_cons_succ, List.getElem_cons_zero, Act.put, List.setIfInBounds_toArray, List.set_cons_zero, List.set_cons_succ]
        refine wpAnyH_take (i := 12) (v := .pointer (some ⟨g, 0, none⟩)) rfl (by kernel_rfl) (by kernel_rfl) (by kernel_rfl) (fun _ _ _ h => h) (Or.inl ⟨by kernel_rfl, ?_⟩) hS ?_
        · intro w hSw; go_simp
        try simp only [List.getElem_toArray, List.getElem_cons_succ, List.getElem_cons_zero, Act.put, List.setIfInBounds_toArray, List.set_cons_zero, List.set_cons_succ]
        refine wpAnyH_take (i := 13) (v := .pointer (some ⟨g, 1, none⟩)) rfl (by kernel_rfl) (by kernel_rfl) (by kernel_rfl) (fun _ _ _ h => h) (Or.inl ⟨by kernel_rfl, ?_⟩) hS ?_
        · intro w hSw; go_simp
        try simp only [List.getElem_toArray, List.getElem_cons_succ, List.getElem_cons_zero, Act.put, List.setIfInBounds_toArray, List.set_cons_zero, List.set_cons_succ]
        refine wpAnyH_take (i := 14) (v := .int .i64 x.p) rfl (by kernel_rfl) (by kernel_rfl) (by kernel_rfl) (fun _ _ _ h => h) (Or.inl ⟨by kernel_rfl, ?_⟩) hS ?_
        · intro w hSw; obtain ⟨x0, x1, x2, x3, x4⟩ := cuCells hSw; go_simp
        try simp only [List.getElem_toArray, List.getElem_cons_succ, List.getElem_cons_zero, Act.put, List.setIfInBounds_toArray, List.set_cons_zero, List.set_cons_succ]
        refine wpAnyH_take (i := 15) (v := .bool true) rfl (by kernel_rfl) (by kernel_rfl) (by kernel_rfl) (fun _ _ _ h => h) (Or.inl ⟨by kernel_rfl, ?_⟩) hS ?_
        · intro w hSw; first | (go_simp; done) | (go_simp; omega)
        try simp only [List.getElem_toArray, List.getElem_cons_succ, List.getElem_cons_zero, Act.put, List.setIfInBounds_toArray, List.set_cons_zero, List.set_cons_succ]
        refine wpAnyH_take (i := 16) (v := .bool true) rfl (by kernel_rfl) (by kernel_rfl) (by kernel_rfl) (fun _ _ _ h => h) (Or.inl ⟨by kernel_rfl, ?_⟩) hS ?_
        · intro w hSw; go_simp
        try simp only [List.getElem_toArray, List.getElem_cons_succ, List.getElem_cons_zero, Act.put, List.setIfInBounds_toArray, List.set_cons_zero, List.set_cons_succ]
        refine wpAnyH_done (by kernel_rfl) ?_ _
        obtain ⟨g', rfl⟩ : ∃ g', gk = g' + 1 := ⟨gk - 1, by omega⟩
        have HO := hide (cuStep_any W base g s x (unhide hx1) hp (by omega) (by omega) (by omega) (by omega))
        clear hS
        cases ho : (x.one s).1 with
        | true =>
          obtain ⟨hok2, hgo⟩ := hok.one hp ho
          rw [scanP_step hp hq ho] at hsc
          replace HO := hide (ho ▸ unhide HO)
          replace hsc := hide hsc
          clear hok
          go_wp2_with fail
          refine (unhide HO).mono ?_
          rintro e W2 ⟨rfl, hst2, hw2⟩
          generalize (x.one s).2 = y at *
          go_wp2
          go_roundg g'
          case measure => omega
          case rel => exact ⟨y, hok2, hst2, hw.trans hw2, unhide hsc, by omega⟩
        | false =>
          have hsame := one_stays s x ho
          rw [scanP_stop hp hq ho] at hsc
          replace HO := hide (hsame ▸ ho ▸ unhide HO)
          have hF := cutF_stop hsc.symm
          have hR := hide (show cutF s = -1 → x.l = cutL s ∧ x.c = (scanP s s.size sc0).2.c from fun h => by rw [hF] at h; omega)
          replace hF := hide hF
          clear hok hsc ho hsame
          go_wp2_with fail
          refine (unhide HO).mono ?_
          rintro e W2 ⟨rfl, hst2, hw2⟩
          obtain ⟨vl, vc, hh, h1, h2, h3⟩ := id hst2
          obtain ⟨x0, x1, x2, x3, x4⟩ := cuCells hh
          clear hh h1 h2 h3 HO
          go_wp2
          go_ret
          exact ⟨ret_int (unhide hF).symm, hw.trans hw2, x, hst2, unhide hR⟩
      · have hpz : (x.p : Int) < s.size := by omega
        have hqz : ¬ (x.p : Int) < 2000 := by omega
        refine wpAnyH_take (i := 0) (v := .pointer (some ⟨g, 0, none⟩)) rfl (by kernel_rfl) (by kernel_rfl) (by kernel_rfl) (fun _ _ _ h => h) (Or.inl ⟨by kernel_rfl, ?_⟩) hS ?_
        · intro w hSw; go_simp
        try simp only [List.getElem_toArray, List.getElem_cons_succ, List.getElem_cons_zero, Act.put, List.setIfInBounds_toArray, List.set_cons_zero, List.set_cons_succ]
        refine wpAnyH_take (i := 1) (v := .pointer (some ⟨g, 0, none⟩)) rfl (by kernel_rfl) (by kernel_rfl) (by kernel_rfl) (fun _ _ _ h => h) (Or.inl ⟨by kernel_rfl, ?_⟩) hS ?_
        · intro w hSw; go_simp
        try simp only [List.getElem_toArray, List.getElem_cons_succ, List.getElem_cons_zero, Act.put, List.setIfInBounds_toArray, List.set_cons_zero, List.set_cons_succ]
        refine wpAnyH_take (i := 2) (v := .pointer (some ⟨g, 1, none⟩)) rfl (by kernel_rfl) (by kernel_rfl) (by kernel_rfl) (fun _ _ _ h => h) (Or.inl ⟨by kernel_rfl, ?_⟩) hS ?_
        · intro w hSw; go_simp
        try simp only [List.getElem_toArray, List.getElem_cons_succ, List.getElem_cons_zero, Act.put, List.setIfInBounds_toArray, List.set_cons_zero, List.set_cons_succ]
        refine wpAnyH_take (i := 3) (v := .int .i64 x.p) rfl (by kernel_rfl) (by kernel_rfl) (by kernel_rfl) (fun _ _ _ h => h) (Or.inl ⟨by kernel_rfl, ?_⟩) hS ?_
        · intro w hSw; obtain ⟨x0, x1, x2, x3, x4⟩ := cuCells hSw; go_simp
        try simp only [List.getElem_toArray, List.getElem_cons_succ, List.getElem_cons_zero, Act.put, List.setIfInBounds_toArray, List.set_cons_zero, List.set_cons_succ]
        refine wpAnyH_take (i := 4) (v := .pointer (some ⟨g, 0, none⟩)) rfl (by kernel_rfl) (by kernel_rfl) (by kernel_rfl) (fun _ _ _ h => h) (Or.inl ⟨by kernel_rfl, ?_⟩) hS ?_
        · intro w hSw; go_simp
        try simp only [List.getElem_toArray, List.getElem_cons_succ, List.getElem_cons_zero, Act.put, List.setIfInBounds_toArray, List.set_cons_zero, List.set_cons_succ]
        refine wpAnyH_take (i := 5) (v := .pointer (some ⟨g, 0, none⟩)) rfl (by kernel_rfl) (by kernel_rfl) (by kernel_rfl) (fun _ _ _ h => h) (Or.inl ⟨by kernel_rfl, ?_⟩) hS ?_
        · intro w hSw; go_simp
        try simp only [List.getElem_toArray, List.getElem_cons_succ, List.getElem_cons_zero, Act.put, List.setIfInBounds_toArray, List.set_cons_zero, List.set_cons_succ]
        refine wpAnyH_take (i := 6) (v := .pointer (some ⟨g, 0, none⟩)) rfl (by kernel_rfl) (by kernel_rfl) (by kernel_rfl) (fun _ _ _ h => h) (Or.inl ⟨by kernel_rfl, ?_⟩) hS ?_
        · intro w hSw; go_simp
        try simp only [List.getElem_toArray, List.getElem_cons_succ, List.getElem_cons_zero, Act.put, List.setIfInBounds_toArray, List.set_cons_zero, List.set_cons_succ]
        refine wpAnyH_take (i := 7) (v := .string s) rfl (by kernel_rfl) (by kernel_rfl) (by kernel_rfl) (fun _ _ _ h => h) (Or.inl ⟨by kernel_rfl, ?_⟩) hS ?_
        · intro w hSw; obtain ⟨x0, x1, x2, x3, x4⟩ := cuCells hSw; go_simp
        try simp only [List.getElem_toArray, List.getElem_cons_succ, List.getElem_cons_zero, Act.put, List.setIfInBounds_toArray, List.set_cons_zero, List.set_cons_succ]
        refine wpAnyH_take (i := 8) (v := .int .i64 s.size) rfl (by kernel_rfl) (by kernel_rfl) (by kernel_rfl) (fun _ _ _ h => h) (Or.inl ⟨by kernel_rfl, ?_⟩) hS ?_
        · intro w hSw; go_simp
        try simp only [List.getElem_toArray, List.getElem_cons_succ, List.getElem_cons_zero, Act.put, List.setIfInBounds_toArray, List.set_cons_zero, List.set_cons_succ]
        refine wpAnyH_take (i := 9) (v := .bool true) rfl (by kernel_rfl) (by kernel_rfl) (by kernel_rfl) (fun _ _ _ h => h) (Or.inl ⟨by kernel_rfl, ?_⟩) hS ?_
        · intro w hSw; first | (go_simp; done) | (go_simp; omega)
        try simp only [List.getElem_toArray, List.getElem_cons_succ, List.getElem_cons_zero, Act.put, List.setIfInBounds_toArray, List.set_cons_zero, List.set_cons_succ]
        refine wpAnyH_take (i := 10) (v := .bool true) rfl (by kernel_rfl) (by kernel_rfl) (by kernel_rfl) (fun _ _ _ h => h) (Or.inl ⟨by kernel_rfl, ?_⟩) hS ?_
        · intro w hSw; go_simp
        try simp only [List.getElem_toArray, List.getElem_cons_succ, List.getElem_cons_zero, Act.put, List.setIfInBounds_toArray, List.set_cons_zero, List.set_cons_succ]
        refine wpAnyH_take (i := 11) (v := .pointer (some ⟨g, 0, none⟩)) rfl (by kernel_rfl) (by kernel_rfl) (by kernel_rfl) (fun _ _ _ h => h) (Or.inl ⟨by kernel_rfl, ?_⟩) hS ?_
        · intro w hSw; go_simp
        try simp only [List.getElem_toArray, List.getElem_cons_succ, List.getElem_cons_zero, Act.put, List.setIfInBounds_toArray, List.set_cons_zero, List.set_cons_succ]
        refine wpAnyH_take (i := 12) (v := .pointer (some ⟨g, 0, none⟩)) rfl (by kernel_rfl) (by kernel_rfl) (by kernel_rfl) (fun _ _ _ h => h) (Or.inl ⟨by kernel_rfl, ?_⟩) hS ?_
        · intro w hSw; go_simp
        try simp only [List.getElem_toArray, List.getElem_cons_succ, List.getElem_cons_zero, Act.put, List.setIfInBounds_toArray, List.set_cons_zero, List.set_cons_succ]
        refine wpAnyH_take (i := 13) (v := .pointer (some ⟨g, 1, none⟩)) rfl (by kernel_rfl) (by kernel_rfl) (by kernel_rfl) (fun _ _ _ h => h) (Or.inl ⟨by kernel_rfl, ?_⟩) hS ?_
        · intro w hSw; go_simp
        try simp only [List.getElem_toArray, List.getElem_cons_succ, List.getElem_cons_zero, Act.put, List.setIfInBounds_toArray, List.set_cons_zero, List.set_cons_succ]
        refine wpAnyH_take (i := 14) (v := .int .i64 x.p) rfl (by kernel_rfl) (by kernel_rfl) (by kernel_rfl) (fun _ _ _ h => h) (Or.inl ⟨by kernel_rfl, ?_⟩) hS ?_
        · intro w hSw; obtain ⟨x0, x1, x2, x3, x4⟩ := cuCells hSw; go_simp
        try simp only [List.getElem_toArray, List.getElem_cons_succ, List.getElem_cons_zero, Act.put, List.setIfInBounds_toArray, List.set_cons_zero, List.set_cons_succ]
        refine wpAnyH_take (i := 15) (v := .bool false) rfl (by kernel_rfl) (by kernel_rfl) (by kernel_rfl) (fun _ _ _ h => h) (Or.inl ⟨by kernel_rfl, ?_⟩) hS ?_
        · intro w hSw; first | (go_simp; done) | (go_simp; omega)
        try simp only [List.getElem_toArray, List.getElem_cons_succ, List.getElem_cons_zero, Act.put, List.setIfInBounds_toArray, List.set_cons_zero, List.set_cons_succ]
        refine wpAnyH_take (i := 16) (v := .bool false) rfl (by kernel_rfl) (by kernel_rfl) (by kernel_rfl) (fun _ _ _ h => h) (Or.inl ⟨by kernel_rfl, ?_⟩) hS ?_
        · intro w hSw; go_simp
        try simp only [List.getElem_toArray, List.getElem_cons_succ, List.getElem_cons_zero, Act.put, List.setIfInBounds_toArray, List.set_cons_zero, List.set_cons_succ]
        refine wpAnyH_done (by kernel_rfl) ?_ _
        rw [scanP_end (fun h => hq h.2)] at hsc
        have hF := hide (cutF_big hsc.symm (by omega))
        have hR := hide (show cutF s = -1 → x.l = cutL s ∧ x.c = (scanP s s.size sc0).2.c from fun h => by rw [unhide hF] at h; omega)
        obtain ⟨x0, x1, x2, x3, x4⟩ := cuCells hS
        have hbig : (2000 : Int) < s.size := by omega
        clear hS hsc hok
        go_wp2
        go_ret
        exact ⟨ret_int (unhide hF).symm, hw, x, unhide hx1, unhide hR⟩
    · have hpz : ¬ (x.p : Int) < s.size := by omega
      refine wpAnyH_take (i := 0) (v := .pointer (some ⟨g, 0, none⟩)) rfl (by kernel_rfl) (by kernel_rfl) (by kernel_rfl) (fun _ _ _ h => h) (Or.inl ⟨by kernel_rfl, ?_⟩) hS ?_
      · intro w hSw; go_simp
      try simp only [List.getElem_toArray, List.getElem_cons_succ, List.getElem_cons_zero, Act.put, List.setIfInBounds_toArray, List.set_cons_zero, List.set_cons_succ]
      refine wpAnyH_take (i := 1) (v := .pointer (some ⟨g, 0, none⟩)) rfl (by kernel_rfl) (by kernel_rfl) (by kernel_rfl) (fun _ _ _ h => h) (Or.inl ⟨by kernel_rfl, ?_⟩) hS ?_
      · intro w hSw; go_simp
      try simp only [List.getElem_toArray, List.getElem_cons_succ, List.getElem_cons_zero, Act.put, List.setIfInBounds_toArray, List.set_cons_zero, List.set_cons_succ]
      refine wpAnyH_take (i := 2) (v := .pointer (some ⟨g, 1, none⟩)) rfl (by kernel_rfl) (by kernel_rfl) (by kernel_rfl) (fun _ _ _ h => h) (Or.inl ⟨by kernel_rfl, ?_⟩) hS ?_
      · intro w hSw; go_simp
      try simp only [List.getElem_toArray, List.getElem_cons_succ, List.getElem_cons_zero, Act.put, List.setIfInBounds_toArray, List.set_cons_zero, List.set_cons_succ]
      refine wpAnyH_take (i := 3) (v := .int .i64 x.p) rfl (by kernel_rfl) (by kernel_rfl) (by kernel_rfl) (fun _ _ _ h => h) (Or.inl ⟨by kernel_rfl, ?_⟩) hS ?_
      · intro w hSw; obtain ⟨x0, x1, x2, x3, x4⟩ := cuCells hSw; go_simp
      try simp only [List.getElem_toArray, List.getElem_cons_succ, List.getElem_cons_zero, Act.put, List.setIfInBounds_toArray, List.set_cons_zero, List.set_cons_succ]
      refine wpAnyH_take (i := 4) (v := .pointer (some ⟨g, 0, none⟩)) rfl (by kernel_rfl) (by kernel_rfl) (by kernel_rfl) (fun _ _ _ h => h) (Or.inl ⟨by kernel_rfl, ?_⟩) hS ?_
      · intro w hSw; go_simp
      try simp only [List.getElem_toArray, List.getElem_cons_succ, List.getElem_cons_zero, Act.put, List.setIfInBounds_toArray, List.set_cons_zero, List.set_cons_succ]
      refine wpAnyH_take (i := 5) (v := .pointer (some ⟨g, 0, none⟩)) rfl (by kernel_rfl) (by kernel_rfl) (by kernel_rfl) (fun _ _ _ h => h) (Or.inl ⟨by kernel_rfl, ?_⟩) hS ?_
      · intro w hSw; go_simp
      try simp only [List.getElem_toArray, List.getElem_cons_succ, List.getElem_cons_zero, Act.put, List.setIfInBounds_toArray, List.set_cons_zero, List.set_cons_succ]
      refine wpAnyH_take (i := 6) (v := .pointer (some ⟨g, 0, none⟩)) rfl (by kernel_rfl) (by kernel_rfl) (by kernel_rfl) (fun _ _ _ h => h) (Or.inl ⟨by kernel_rfl, ?_⟩) hS ?_
      · intro w hSw; go_simp
      try simp only [List.getElem_toArray, List.getElem_cons_succ, List.getElem_cons_zero, Act.put, List.setIfInBounds_toArray, List.set_cons_zero, List.set_cons_succ]
      refine wpAnyH_take (i := 7) (v := .string s) rfl (by kernel_rfl) (by kernel_rfl) (by kernel_rfl) (fun _ _ _ h => h) (Or.inl ⟨by kernel_rfl, ?_⟩) hS ?_
      · intro w hSw; obtain ⟨x0, x1, x2, x3, x4⟩ := cuCells hSw; go_simp
      try simp only [List.getElem_toArray, List.getElem_cons_succ, List.getElem_cons_zero, Act.put, List.setIfInBounds_toArray, List.set_cons_zero, List.set_cons_succ]
      refine wpAnyH_take (i := 8) (v := .int .i64 s.size) rfl (by kernel_rfl) (by kernel_rfl) (by kernel_rfl) (fun _ _ _ h => h) (Or.inl ⟨by kernel_rfl, ?_⟩) hS ?_
      · intro w hSw; go_simp
      try simp only [List.getElem_toArray, List.getElem_cons_succ, List.getElem_cons_zero, Act.put, List.setIfInBounds_toArray, List.set_cons_zero, List.set_cons_succ]
      refine wpAnyH_take (i := 9) (v := .bool false) rfl (by kernel_rfl) (by kernel_rfl) (by kernel_rfl) (fun _ _ _ h => h) (Or.inl ⟨by kernel_rfl, ?_⟩) hS ?_
      · intro w hSw; first | (go_simp; done) | (go_simp; omega)
      try simp only [List.getElem_toArray, List.getElem_cons_succ, List.getElem_cons_zero, Act.put, List.setIfInBounds_toArray, List.set_cons_zero, List.set_cons_succ]
      refine wpAnyH_take (i := 10) (v := .bool false) rfl (by kernel_rfl) (by kernel_rfl) (by kernel_rfl) (fun _ _ _ h => h) (Or.inl ⟨by kernel_rfl, ?_⟩) hS ?_
      · intro w hSw; go_simp
      try simp only [List.getElem_toArray, List.getElem_cons_succ, List.getElem_cons_zero, Act.put, List.setIfInBounds_toArray, List.set_cons_zero, List.set_cons_succ]
      refine wpAnyH_take (i := 11) (v := undef) rfl (by kernel_rfl) (by kernel_rfl) (by kernel_rfl) (fun _ _ _ h => h) (Or.inr ⟨by kernel_rfl, rfl⟩) hS ?_
      try simp only [List.getElem_toArray, List.getElem_cons_succ, List.getElem_cons_zero, Act.put, List.setIfInBounds_toArray, List.set_cons_zero, List.set_cons_succ]
      refine wpAnyH_take (i := 12) (v := undef) rfl (by kernel_rfl) (by kernel_rfl) (by kernel_rfl) (fun _ _ _ h => h) (Or.inr ⟨by kernel_rfl, rfl⟩) hS ?_
      try simp only [List.getElem_toArray, List.getElem_cons_succ, List.getElem_cons_zero, Act.put, List.setIfInBounds_toArray, List.set_cons_zero, List.set_cons_succ]
      refine wpAnyH_take (i := 13) (v := undef) rfl (by kernel_rfl) (by kernel_rfl) (by kernel_rfl) (fun _ _ _ h => h) (Or.inr ⟨by kernel_rfl, rfl⟩) hS ?_
      try simp only [List.getElem_toArray, List.getElem_cons_succ, List.getElem_cons_zero, Act.put, List.setIfInBounds_toArray, List.set_cons_zero, List.set_cons_succ]
      refine wpAnyH_take (i := 14) (v := undef) rfl (by kernel_rfl) (by kernel_rfl) (by kernel_rfl) (fun _ _ _ h => h) (Or.inr ⟨by kernel_rfl, rfl⟩) hS ?_
      try simp only [List.getElem_toArray, List.getElem_cons_succ, List.getElem_cons_zero, Act.put, List.setIfInBounds_toArray, List.set_cons_zero, List.set_cons_succ]
      refine wpAnyH_take (i := 15) (v := undef) rfl (by kernel_rfl) (by kernel_rfl) (by kernel_rfl) (fun _ _ _ h => h) (Or.inr ⟨by kernel_rfl, rfl⟩) hS ?_
      try simp only [List.getElem_toArray, List.getElem_cons_succ, List.getElem_cons_zero, Act.put, List.setIfInBounds_toArray, List.set_cons_zero, List.set_cons_succ]
      refine wpAnyH_take (i := 16) (v := .bool false) rfl (by kernel_rfl) (by kernel_rfl) (by kernel_rfl) (fun _ _ _ h => h) (Or.inl ⟨by kernel_rfl, ?_⟩) hS ?_
      · intro w hSw; go_simp
      try simp only [List.getElem_toArray, List.getElem_cons_succ, List.getElem_cons_zero, Act.put, List.setIfInBounds_toArray, List.set_cons_zero, List.set_cons_succ]
      refine wpAnyH_done (by kernel_rfl) ?_ _
      rw [scanP_end (fun h => hp h.1)] at hsc
      by_cases hbig : (2000 : Int) < s.size
      · have hF := hide (cutF_big hsc.symm (by omega))
        have hR := hide (show cutF s = -1 → x.l = cutL s ∧ x.c = (scanP s s.size sc0).2.c from fun h => by rw [unhide hF] at h; omega)
        obtain ⟨x0, x1, x2, x3, x4⟩ := cuCells hS
        clear hS hsc hok
        go_wp2
        go_ret
        exact ⟨ret_int (unhide hF).symm, hw, x, unhide hx1, unhide hR⟩
      · have hF := hide (cutF_ok hsc.symm (by omega))
        have hL := hide (cutL_ok hsc.symm)
        have HS := hide (cuClose_any W base g s x (unhide hx1) (by omega))
        have hrest := hide (semi_rest x)
        obtain ⟨x0, x1, x2, x3, x4⟩ := cuCells hS
        clear hsc hok hx1 hS
        generalize x.semi = y at *
        go_wp2_with fail
        refine (unhide HS).mono ?_
        rintro e W0 ⟨rfl, hst, hw1⟩
        replace hw := hw.trans hw1
        obtain ⟨hr1, hr2, hr3, hr4⟩ := unhide hrest
        obtain ⟨p, line, l, c⟩ := y
        dsimp only at hr1 hr2 hr3 hr4 hst
        subst hr1 hr2 hr3
        clear hrest x0 x1 x2 x3 x4 HS hw1
        obtain ⟨vl, vc, hS, h1, h2, h3⟩ := hst
        dsimp only at hS h1 h2
        obtain ⟨al, cl, rfl, hal1, hal2⟩ := own_shape h1
        obtain ⟨ac, cc, rfl, hac1, hac2⟩ := own_shape h2
        have hg : g < W0.heap.size := (Array.getElem?_eq_some_iff.1 hS).1
        generalize x.p = p at *
        generalize x.line = line at *
        generalize x.c = c at *
        generalize x.l = xl at *
        obtain ⟨nl, hnl⟩ : ∃ nl, l.length = nl := ⟨_, rfl⟩
        obtain ⟨nc, hnc⟩ : ∃ nc, c.length = nc := ⟨_, rfl⟩
        rw [hnl] at hS h1 hal1 hr4
        rw [hnc] at hS h2 hac1 hl2
        replace hS := hide hS
        replace h1 := hide h1
        replace h2 := hide h2
        replace hw := hide hw
        go_upto_region 7 with fail
        replace hS := unhide hS
        replace h1 := unhide h1
        replace h2 := unhide h2
        replace hw := unhide hw
        refine wp_region_D (fun w' => w'.heap[g]? = some (cuObj s p line (.slice al nl cl) (.slice ac nc cc))) (fun j => [18].contains j) (by kernel_rfl) ?_
        replace hS : W0.drew.heap[g]? = some (cuObj s p line (.slice al nl cl) (.slice ac nc cc)) := hS
        replace h1 : OwnT W0.drew base (.slice al nl cl) l := h1
        replace h2 : OwnC W0.drew base (.slice ac nc cc) c := h2
        replace hw : Below base w W0.drew := hw.drew
        replace hg : g < W0.drew.heap.size := hg
        generalize World.drew W0 = W at h1 h2 hS hw hg ⊢
        refine wpAnyD_takeC (i := 0) (v := .pointer (some ⟨g, 0, none⟩)) [18] (fun _ => rfl) rfl (by kernel_rfl) 2 (by kernel_rfl) rfl (by kernel_rfl) (by kernel_rfl) (by kernel_rfl) (fun _ _ _ h => h) (Or.inl ⟨by kernel_rfl, ?_⟩) hS ?_
        · intro w hSw; go_simp
        try simp only [List.getElem_toArray, List.getElem_cons_succ, List.getElem_cons_zero, Act.put, List.setIfInBounds_toArray, List.set_cons_zero, List.set_cons_succ]
        refine wpAnyD_takeC (i := 1) (v := .pointer (some ⟨g, 0, none⟩)) [18] (fun _ => rfl) rfl (by kernel_rfl) 2 (by kernel_rfl) rfl (by kernel_rfl) (by kernel_rfl) (by kernel_rfl) (fun _ _ _ h => h) (Or.inl ⟨by kernel_rfl, ?_⟩) hS ?_
        · intro w hSw; go_simp
        try simp only [List.getElem_toArray, List.getElem_cons_succ, List.getElem_cons_zero, Act.put, List.setIfInBounds_toArray, List.set_cons_zero, List.set_cons_succ]
        refine wpAnyD_takeC (i := 2) (v := .pointer (some ⟨g, 0, none⟩)) [18] (fun _ => rfl) rfl (by kernel_rfl) 2 (by kernel_rfl) rfl (by kernel_rfl) (by kernel_rfl) (by kernel_rfl) (fun _ _ _ h => h) (Or.inl ⟨by kernel_rfl, ?_⟩) hS ?_
        · intro w hSw; go_simp
        try simp only [List.getElem_toArray, List.getElem_cons_succ, List.getElem_cons_zero, Act.put, List.setIfInBounds_toArray, List.set_cons_zero, List.set_cons_succ]
        refine wpAnyD_takeC (i := 3) (v := .pointer (some ⟨g, 3, none⟩)) [18] (fun _ => rfl) rfl (by kernel_rfl) 2 (by kernel_rfl) rfl (by kernel_rfl) (by kernel_rfl) (by kernel_rfl) (fun _ _ _ h => h) (Or.inl ⟨by kernel_rfl, ?_⟩) hS ?_
        · intro w hSw; go_simp
        try simp only [List.getElem_toArray, List.getElem_cons_succ, List.getElem_cons_zero, Act.put, List.setIfInBounds_toArray, List.set_cons_zero, List.set_cons_succ]
        refine wpAnyD_takeC (i := 4) (v := .slice al nl cl) [18] (fun _ => rfl) rfl (by kernel_rfl) 2 (by kernel_rfl) rfl (by kernel_rfl) (by kernel_rfl) (by kernel_rfl) (fun _ _ _ h => h) (Or.inl ⟨by kernel_rfl, ?_⟩) hS ?_
        · intro w hSw; obtain ⟨x0, x1, x2, x3, x4⟩ := cuCells hSw; go_simp
        try simp only [List.getElem_toArray, List.getElem_cons_succ, List.getElem_cons_zero, Act.put, List.setIfInBounds_toArray, List.set_cons_zero, List.set_cons_succ]
        refine wpAnyD_takeC (i := 5) (v := .pointer (some ⟨g, 0, none⟩)) [18] (fun _ => rfl) rfl (by kernel_rfl) 2 (by kernel_rfl) rfl (by kernel_rfl) (by kernel_rfl) (by kernel_rfl) (fun _ _ _ h => h) (Or.inl ⟨by kernel_rfl, ?_⟩) hS ?_
        · intro w hSw; go_simp
        try simp only [List.getElem_toArray, List.getElem_cons_succ, List.getElem_cons_zero, Act.put, List.setIfInBounds_toArray, List.set_cons_zero, List.set_cons_succ]
        refine wpAnyD_takeC (i := 6) (v := .pointer (some ⟨g, 0, none⟩)) [18] (fun _ => rfl) rfl (by kernel_rfl) 2 (by kernel_rfl) rfl (by kernel_rfl) (by kernel_rfl) (by kernel_rfl) (fun _ _ _ h => h) (Or.inl ⟨by kernel_rfl, ?_⟩) hS ?_
        · intro w hSw; go_simp
        try simp only [List.getElem_toArray, List.getElem_cons_succ, List.getElem_cons_zero, Act.put, List.setIfInBounds_toArray, List.set_cons_zero, List.set_cons_succ]
        refine wpAnyD_takeC (i := 7) (v := .pointer (some ⟨g, 1, none⟩)) [18] (fun _ => rfl) rfl (by kernel_rfl) 2 (by kernel_rfl) rfl (by kernel_rfl) (by kernel_rfl) (by kernel_rfl) (fun _ _ _ h => h) (Or.inl ⟨by kernel_rfl, ?_⟩) hS ?_
        · intro w hSw; go_simp
        try simp only [List.getElem_toArray, List.getElem_cons_succ, List.getElem_cons_zero, Act.put, List.setIfInBounds_toArray, List.set_cons_zero, List.set_cons_succ]
        refine wpAnyD_takeC (i := 8) (v := .int .i64 p) [18] (fun _ => rfl) rfl (by kernel_rfl) 2 (by kernel_rfl) rfl (by kernel_rfl) (by kernel_rfl) (by kernel_rfl) (fun _ _ _ h => h) (Or.inl ⟨by kernel_rfl, ?_⟩) hS ?_
        · intro w hSw; obtain ⟨x0, x1, x2, x3, x4⟩ := cuCells hSw; go_simp
        try simp only [List.getElem_toArray, List.getElem_cons_succ, List.getElem_cons_zero, Act.put, List.setIfInBounds_toArray, List.set_cons_zero, List.set_cons_succ]
        refine wpAnyD_takeC (i := 9) (v := .pointer (some ⟨g, 0, none⟩)) [18] (fun _ => rfl) rfl (by kernel_rfl) 2 (by kernel_rfl) rfl (by kernel_rfl) (by kernel_rfl) (by kernel_rfl) (fun _ _ _ h => h) (Or.inl ⟨by kernel_rfl, ?_⟩) hS ?_
        · intro w hSw; go_simp
        try simp only [List.getElem_toArray, List.getElem_cons_succ, List.getElem_cons_zero, Act.put, List.setIfInBounds_toArray, List.set_cons_zero, List.set_cons_succ]
        refine wpAnyD_takeC (i := 10) (v := .pointer (some ⟨g, 0, none⟩)) [18] (fun _ => rfl) rfl (by kernel_rfl) 2 (by kernel_rfl) rfl (by kernel_rfl) (by kernel_rfl) (by kernel_rfl) (fun _ _ _ h => h) (Or.inl ⟨by kernel_rfl, ?_⟩) hS ?_
        · intro w hSw; go_simp
        try simp only [List.getElem_toArray, List.getElem_cons_succ, List.getElem_cons_zero, Act.put, List.setIfInBounds_toArray, List.set_cons_zero, List.set_cons_succ]
        refine wpAnyD_takeC (i := 11) (v := .pointer (some ⟨g, 2, none⟩)) [18] (fun _ => rfl) rfl (by kernel_rfl) 2 (by kernel_rfl) rfl (by kernel_rfl) (by kernel_rfl) (by kernel_rfl) (fun _ _ _ h => h) (Or.inl ⟨by kernel_rfl, ?_⟩) hS ?_
        · intro w hSw; go_simp
        try simp only [List.getElem_toArray, List.getElem_cons_succ, List.getElem_cons_zero, Act.put, List.setIfInBounds_toArray, List.set_cons_zero, List.set_cons_succ]
        refine wpAnyD_takeC (i := 12) (v := .int .i64 line) [18] (fun _ => rfl) rfl (by kernel_rfl) 2 (by kernel_rfl) rfl (by kernel_rfl) (by kernel_rfl) (by kernel_rfl) (fun _ _ _ h => h) (Or.inl ⟨by kernel_rfl, ?_⟩) hS ?_
        · intro w hSw; obtain ⟨x0, x1, x2, x3, x4⟩ := cuCells hSw; go_simp
        try simp only [List.getElem_toArray, List.getElem_cons_succ, List.getElem_cons_zero, Act.put, List.setIfInBounds_toArray, List.set_cons_zero, List.set_cons_succ]
        refine wpAnyD_takeC (i := 13) (v := .agg #[.int .i64 7, .string ⟨#[]⟩, .int .i64 p, .int .i64 line, .bool false]) [18] (fun _ => rfl) rfl (by kernel_rfl) 2 (by kernel_rfl) rfl (by kernel_rfl) (by kernel_rfl) (by kernel_rfl) (fun _ _ _ h => h) (Or.inl ⟨by kernel_rfl, ?_⟩) hS ?_
        · intro w hSw; go_simp
        try simp only [List.getElem_toArray, List.getElem_cons_succ, List.getElem_cons_zero, Act.put, List.setIfInBounds_toArray, List.set_cons_zero, List.set_cons_succ]
        replace h1 := hide h1
        replace h2 := hide h2
        replace hS := hide hS
        replace hw := hide hw
        refine wpAnyD_one (i := 14) rfl (by kernel_rfl) (fun K hK => ?_)
        replace hK := hide hK
        go_simp
        have hS2 : (W.alloc (.cells #[.int .i64 7, .string ⟨#[]⟩, .int .i64 p, .int .i64 line, .bool false] 32)).heap[g]? = some (cuObj s p line (.slice al nl cl) (.slice ac nc cc)) := (Below.heap_alloc _ _ _ hg).trans (unhide hS)
        have h1a := own_alloc (unhide h1) (.cells #[.int .i64 7, .string ⟨#[]⟩, .int .i64 p, .int .i64 line, .bool false] 32)
        have h2a := own_alloc (unhide h2) (.cells #[.int .i64 7, .string ⟨#[]⟩, .int .i64 p, .int .i64 line, .bool false] 32)
        have hn := new_tok W ⟨7, ⟨#[]⟩, p, line, false⟩ (0, 0)
        have hwa := (unhide hw).alloc (by omega) (.cells #[.int .i64 7, .string ⟨#[]⟩, .int .i64 p, .int .i64 line, .bool false] 32)
        have hga : g < (W.alloc (.cells #[.int .i64 7, .string ⟨#[]⟩, .int .i64 p, .int .i64 line, .bool false] 32)).heap.size := (Array.getElem?_eq_some_iff.1 hS2).1
        refine unhide hK _ _ (fun _ => hS2) ?_
        clear hK K h1 h2 hS hw
        dsimp only at hn
        generalize World.alloc W _ = W2 at *
        generalize W.heap.size = gn at *
        try simp only [List.getElem_toArray, List.getElem_cons_succ, List.getElem_cons_zero, Act.put, List.setIfInBounds_toArray, List.set_cons_zero, List.set_cons_succ]
        refine wpAnyD_one (i := 15) rfl (by kernel_rfl) (fun K hK => ?_)
        rw [if_pos (by kernel_rfl)]
        refine wp_append_tok (v := .slice al nl cl) (.tmp 39) (.tmp 49) rfl ⟨7, ⟨#[]⟩, p, line, false⟩ rfl h1a ⟨gn, 0, none⟩ rfl hn (by omega) (by omega) ?_
        intro v' W3 hown hgrow
        obtain ⟨hst, hS3⟩ := cu_stored hS2 h1a h2a h3 hown hgrow
        have hwb : Below base w W3 := hwa.grown hgrow (by omega) (fun k hk => by
          rcases h1a.2 with ⟨e, _⟩ | ⟨g', cap, cur, e, hb, _⟩
          · rw [e] at hk; cases hk
          · rw [e] at hk
            obtain rfl : g' = k := by simpa [Value.ownBlock] using hk
            exact hb)
        obtain ⟨al', cl', hv, _, _⟩ := own_shape hown
        obtain rfl : v' = .slice al' (nl + 1) cl' := by rw [hv, List.length_append, hnl]; rfl
        clear hv
        refine hK _ _ (fun _ => hS3) ?_
        clear hK K hown hgrow h1a h2a hn hwa hS2 hga
        have hS := hS3
        clear hS3
        replace hst := hide hst
        replace hwb := hide hwb
        try simp only [List.getElem_toArray, List.getElem_cons_succ, List.getElem_cons_zero, Act.put, List.setIfInBounds_toArray, List.set_cons_zero, List.set_cons_succ]
        refine wpAnyD_takeC (i := 16) (v := .pointer (some ⟨g, 0, none⟩)) [18] (fun _ => rfl) rfl (by kernel_rfl) 2 (by kernel_rfl) rfl (by kernel_rfl) (by kernel_rfl) (by kernel_rfl) (fun _ _ _ h => h) (Or.inl ⟨by kernel_rfl, ?_⟩) hS ?_
        · intro w hSw; go_simp
        try simp only [List.getElem_toArray, List.getElem_cons_succ, List.getElem_cons_zero, Act.put, List.setIfInBounds_toArray, List.set_cons_zero, List.set_cons_succ]
        refine wpAnyD_takeC (i := 17) (v := .pointer (some ⟨g, 3, none⟩)) [18] (fun _ => rfl) rfl (by kernel_rfl) 2 (by kernel_rfl) rfl (by kernel_rfl) (by kernel_rfl) (by kernel_rfl) (fun _ _ _ h => h) (Or.inl ⟨by kernel_rfl, ?_⟩) hS ?_
        · intro w hSw; go_simp
        try simp only [List.getElem_toArray, List.getElem_cons_succ, List.getElem_cons_zero, Act.put, List.setIfInBounds_toArray, List.set_cons_zero, List.set_cons_succ]
        obtain ⟨x0, x1, x2, x3, x4⟩ := cuCells hS
        have hf := cuFrozen hS
        refine wpAnyD_one (i := 18) rfl (by kernel_rfl) (fun K hK => ?_)
        replace hK := hide hK
        go_simp
        refine unhide hK _ _ (fun h => by cases h) ?_
        clear hK K x0 x1 x2 x3 x4 hf hS
        replace hst := unhide hst
        have hwc := (unhide hwb).setCell (p := ⟨g, 3, none⟩) h3 (.slice al' (nl + 1) cl')
        clear hwb
        generalize World.setCell _ _ _ = W4 at *
        refine wpAnyD_done (by kernel_rfl) ?_ _
        replace hst := hide hst
        replace hwc := hide hwc
        go_wp2
        go_ret
        refine ⟨ret_int (unhide hF).symm, unhide hwc, _, unhide hst, fun _ => ?_⟩
        obtain ⟨e1, e2⟩ := unhide hL
        exact ⟨e1.symm, e2.symm⟩
end Go.Proofs.Ytakllllnpdnpdaa

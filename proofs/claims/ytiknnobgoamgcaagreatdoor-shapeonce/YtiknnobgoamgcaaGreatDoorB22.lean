/-
  4 texts in one.
-/
import Derived.Test.YtiknnobgoamgcaaGreatDoorB21
import Derived.Test.YtiknnobgoamgcaaGreatDoorB19
import Derived.Test.YtiknnobgoamgcaaGreatDoorB18
/-
  The program's cutter.cut.
-/
namespace Go.Proofs.YtiknnobgoamgcaaGreatDoor
open Go.RowKit
set_option linter.unusedSimpArgs false
set_option linter.unusedVariables false
/-- From x on, as often as f says, up to byte 2000. -/
def scanP (s : ByteArray) : Nat → Sc → Bool × Sc
 | 0, x => (true, x)
 | f + 1, x => if x.p < s.size ∧ x.p < 2000 then (if (x.one s).1 then scanP s f (x.one s).2 else (false, x)) else (true, x)
theorem scanP_step {s : ByteArray} {f : Nat} {x : Sc} (hp : x.p < s.size) (hq : x.p < 2000) (ho : (x.one s).1 = true) : scanP s (f + 1) x = scanP s f (x.one s).2 := by
 rw [scanP, if_pos ⟨hp, hq⟩, if_pos ho]
theorem scanP_stop {s : ByteArray} {f : Nat} {x : Sc} (hp : x.p < s.size) (hq : x.p < 2000) (ho : (x.one s).1 = false) : scanP s (f + 1) x = (false, x) := by
 rw [scanP, if_pos ⟨hp, hq⟩, if_neg (by rw [ho]; decide)]
theorem scanP_end {s : ByteArray} {f : Nat} {x : Sc} (hp : ¬ (x.p < s.size ∧ x.p < 2000)) : scanP s f x = (true, x) := by
 cases f with
 | zero => rfl
 | succ f => rw [scanP, if_neg hp]
/-- What cut answers, and what it leaves. -/
def cutF (s : ByteArray) : Int := if (scanP s s.size sc0).1 then (if 2000 < s.size then 2000 else -1) else ((scanP s s.size sc0).2.p : Int)
def cutL (s : ByteArray) : List Tk := (scanP s s.size sc0).2.semi.l ++ [⟨7, ⟨#[]⟩, (scanP s s.size sc0).2.p, (scanP s s.size sc0).2.line, false⟩]
theorem cutF_stop {s : ByteArray} {x : Sc} (h : scanP s s.size sc0 = (false, x)) : cutF s = x.p := by rw [cutF, h]; rfl
theorem cutF_big {s : ByteArray} {x : Sc} (h : scanP s s.size sc0 = (true, x)) (hs : 2000 < s.size) : cutF s = 2000 := by rw [cutF, h, if_pos rfl, if_pos hs]
theorem cutF_ok {s : ByteArray} {x : Sc} (h : scanP s s.size sc0 = (true, x)) (hs : ¬ 2000 < s.size) : cutF s = -1 := by rw [cutF, h, if_pos rfl, if_neg hs]
theorem cutL_ok {s : ByteArray} {x : Sc} (h : scanP s s.size sc0 = (true, x)) : cutL s = x.semi.l ++ [⟨7, ⟨#[]⟩, x.p, x.line, false⟩] ∧ (scanP s s.size sc0).2.c = x.c := by rw [cutL, h]; exact ⟨rfl, rfl⟩
set_option maxHeartbeats 4000000 in
set_option maxRecDepth 100000 in
theorem cuCut_any (w : World) (base g : Nat) (s : ByteArray) (h0 : CuSt w base g s sc0) (hs : s.size ≤ 700000) :
  Calls Tryz.prog 38 #[.pointer (some ⟨g, 0, none⟩)] w fun e w' => e = .returned (.int .i64 (cutF s)) ∧ Below base w w' ∧ ∃ y, CuSt w' base g s y ∧ (cutF s = -1 → y.l = cutL s ∧ y.c = (scanP s s.size sc0).2.c) := by
 go_enter Tryz.func38, Tryz.ntmps38
 go_wp2
 go_loopg [] s.size (fun gf wx => ∃ x, ScOk s x ∧ CuSt wx base g s x ∧ Below base w wx ∧ scanP s gf x = scanP s s.size sc0 ∧ s.size ≤ x.p + gf)
 case atStart => exact ⟨sc0, sc0_ok s, h0, Below.refl _ _, rfl, by simp [sc0]⟩
 case round =>
  clear h0
  obtain ⟨x, hok, hst, hw, hsc, hfu⟩ := hrel
  have hl1 := hok.l
  have hl2 := hok.c
  have hl3 := hok.line
  have hl4 := hok.p
  obtain ⟨vl, vc, hh, h1, h2, h3⟩ := id hst
  have hS : wr.drew.heap[g]? = some (cuObj s x.p x.line vl vc) := hh
  have hx1 : CuSt wr.drew base g s x := hst
  replace hw : Below base w wr.drew := hw.drew
  clear hh h1 h2 hst
  replace hx1 := zH hx1
  go_upto_region 1 with fail
  refine wp_region_held_drew (S := fun w' => w'.heap[g]? = some (cuObj s x.p x.line vl vc)) (by kernel_rfl) hS (fun _ => ?_)
  generalize World.drew wr = W at hS hw hx1 ⊢
  by_cases hp : x.p < s.size
  ·
   by_cases hq : x.p < 2000
   ·
    have hpz : (x.p : Int) < s.size := by omega
    have hqz : (x.p : Int) < 2000 := by omega
    refine wpAnyH_take (i := 0) (v := .pointer (some ⟨g, 0, none⟩)) rfl (by kernel_rfl) (by kernel_rfl) (by kernel_rfl) (fun _ _ _ h => h) (Or.inl ⟨by kernel_rfl, ?_⟩) hS ?_
    ·
     intro w hSw; go_simp
    try simp only [List.getElem_toArray, List.getElem_cons_succ, List.getElem_cons_zero, Act.put, List.setIfInBounds_toArray, List.set_cons_zero, List.set_cons_succ]
    refine wpAnyH_take (i := 1) (v := .pointer (some ⟨g, 0, none⟩)) rfl (by kernel_rfl) (by kernel_rfl) (by kernel_rfl) (fun _ _ _ h => h) (Or.inl ⟨by kernel_rfl, ?_⟩) hS ?_
    ·
     intro w hSw; go_simp
    try simp only [List.getElem_toArray, List.getElem_cons_succ, List.getElem_cons_zero, Act.put, List.setIfInBounds_toArray, List.set_cons_zero, List.set_cons_succ]
    refine wpAnyH_take (i := 2) (v := .pointer (some ⟨g, 1, none⟩)) rfl (by kernel_rfl) (by kernel_rfl) (by kernel_rfl) (fun _ _ _ h => h) (Or.inl ⟨by kernel_rfl, ?_⟩) hS ?_
    ·
     intro w hSw; go_simp
    try simp only [List.getElem_toArray, List.getElem_cons_succ, List.getElem_cons_zero, Act.put, List.setIfInBounds_toArray, List.set_cons_zero, List.set_cons_succ]
    refine wpAnyH_take (i := 3) (v := .int .i64 x.p) rfl (by kernel_rfl) (by kernel_rfl) (by kernel_rfl) (fun _ _ _ h => h) (Or.inl ⟨by kernel_rfl, ?_⟩) hS ?_
    ·
     intro w hSw; obtain ⟨x0, x1, x2, x3, x4⟩ := cuCells hSw; go_simp
    try simp only [List.getElem_toArray, List.getElem_cons_succ, List.getElem_cons_zero, Act.put, List.setIfInBounds_toArray, List.set_cons_zero, List.set_cons_succ]
    refine wpAnyH_take (i := 4) (v := .pointer (some ⟨g, 0, none⟩)) rfl (by kernel_rfl) (by kernel_rfl) (by kernel_rfl) (fun _ _ _ h => h) (Or.inl ⟨by kernel_rfl, ?_⟩) hS ?_
    ·
     intro w hSw; go_simp
    try simp only [List.getElem_toArray, List.getElem_cons_succ, List.getElem_cons_zero, Act.put, List.setIfInBounds_toArray, List.set_cons_zero, List.set_cons_succ]
    refine wpAnyH_take (i := 5) (v := .pointer (some ⟨g, 0, none⟩)) rfl (by kernel_rfl) (by kernel_rfl) (by kernel_rfl) (fun _ _ _ h => h) (Or.inl ⟨by kernel_rfl, ?_⟩) hS ?_
    ·
     intro w hSw; go_simp
    try simp only [List.getElem_toArray, List.getElem_cons_succ, List.getElem_cons_zero, Act.put, List.setIfInBounds_toArray, List.set_cons_zero, List.set_cons_succ]
    refine wpAnyH_take (i := 6) (v := .pointer (some ⟨g, 0, none⟩)) rfl (by kernel_rfl) (by kernel_rfl) (by kernel_rfl) (fun _ _ _ h => h) (Or.inl ⟨by kernel_rfl, ?_⟩) hS ?_
    ·
     intro w hSw; go_simp
    try simp only [List.getElem_toArray, List.getElem_cons_succ, List.getElem_cons_zero, Act.put, List.setIfInBounds_toArray, List.set_cons_zero, List.set_cons_succ]
    refine wpAnyH_take (i := 7) (v := .string s) rfl (by kernel_rfl) (by kernel_rfl) (by kernel_rfl) (fun _ _ _ h => h) (Or.inl ⟨by kernel_rfl, ?_⟩) hS ?_
    ·
     intro w hSw; obtain ⟨x0, x1, x2, x3, x4⟩ := cuCells hSw; go_simp
    try simp only [List.getElem_toArray, List.getElem_cons_succ, List.getElem_cons_zero, Act.put, List.setIfInBounds_toArray, List.set_cons_zero, List.set_cons_succ]
    refine wpAnyH_take (i := 8) (v := .int .i64 s.size) rfl (by kernel_rfl) (by kernel_rfl) (by kernel_rfl) (fun _ _ _ h => h) (Or.inl ⟨by kernel_rfl, ?_⟩) hS ?_
    ·
     intro w hSw; go_simp
    try simp only [List.getElem_toArray, List.getElem_cons_succ, List.getElem_cons_zero, Act.put, List.setIfInBounds_toArray, List.set_cons_zero, List.set_cons_succ]
    refine wpAnyH_take (i := 9) (v := .bool true) rfl (by kernel_rfl) (by kernel_rfl) (by kernel_rfl) (fun _ _ _ h => h) (Or.inl ⟨by kernel_rfl, ?_⟩) hS ?_
    ·
     intro w hSw; first | (go_simp; done) | (go_simp; omega)
    try simp only [List.getElem_toArray, List.getElem_cons_succ, List.getElem_cons_zero, Act.put, List.setIfInBounds_toArray, List.set_cons_zero, List.set_cons_succ]
    refine wpAnyH_take (i := 10) (v := .bool true) rfl (by kernel_rfl) (by kernel_rfl) (by kernel_rfl) (fun _ _ _ h => h) (Or.inl ⟨by kernel_rfl, ?_⟩) hS ?_
    ·
     intro w hSw; go_simp
    try simp only [List.getElem_toArray, List.getElem_cons_succ, List.getElem_cons_zero, Act.put, List.setIfInBounds_toArray, List.set_cons_zero, List.set_cons_succ]
    refine wpAnyH_take (i := 11) (v := .pointer (some ⟨g, 0, none⟩)) rfl (by kernel_rfl) (by kernel_rfl) (by kernel_rfl) (fun _ _ _ h => h) (Or.inl ⟨by kernel_rfl, ?_⟩) hS ?_
    ·
     intro w hSw; go_simp
    try simp only [List.getElem_toArray, List.getElem_cons_succ, List.getElem_cons_zero, Act.put, List.setIfInBounds_toArray, List.set_cons_zero, List.set_cons_succ]
    refine wpAnyH_take (i := 12) (v := .pointer (some ⟨g, 0, none⟩)) rfl (by kernel_rfl) (by kernel_rfl) (by kernel_rfl) (fun _ _ _ h => h) (Or.inl ⟨by kernel_rfl, ?_⟩) hS ?_
    ·
     intro w hSw; go_simp
    try simp only [List.getElem_toArray, List.getElem_cons_succ, List.getElem_cons_zero, Act.put, List.setIfInBounds_toArray, List.set_cons_zero, List.set_cons_succ]
    refine wpAnyH_take (i := 13) (v := .pointer (some ⟨g, 1, none⟩)) rfl (by kernel_rfl) (by kernel_rfl) (by kernel_rfl) (fun _ _ _ h => h) (Or.inl ⟨by kernel_rfl, ?_⟩) hS ?_
    ·
     intro w hSw; go_simp
    try simp only [List.getElem_toArray, List.getElem_cons_succ, List.getElem_cons_zero, Act.put, List.setIfInBounds_toArray, List.set_cons_zero, List.set_cons_succ]
    refine wpAnyH_take (i := 14) (v := .int .i64 x.p) rfl (by kernel_rfl) (by kernel_rfl) (by kernel_rfl) (fun _ _ _ h => h) (Or.inl ⟨by kernel_rfl, ?_⟩) hS ?_
    ·
     intro w hSw; obtain ⟨x0, x1, x2, x3, x4⟩ := cuCells hSw; go_simp
    try simp only [List.getElem_toArray, List.getElem_cons_succ, List.getElem_cons_zero, Act.put, List.setIfInBounds_toArray, List.set_cons_zero, List.set_cons_succ]
    refine wpAnyH_take (i := 15) (v := .bool true) rfl (by kernel_rfl) (by kernel_rfl) (by kernel_rfl) (fun _ _ _ h => h) (Or.inl ⟨by kernel_rfl, ?_⟩) hS ?_
    ·
     intro w hSw; first | (go_simp; done) | (go_simp; omega)
    try simp only [List.getElem_toArray, List.getElem_cons_succ, List.getElem_cons_zero, Act.put, List.setIfInBounds_toArray, List.set_cons_zero, List.set_cons_succ]
    refine wpAnyH_take (i := 16) (v := .bool true) rfl (by kernel_rfl) (by kernel_rfl) (by kernel_rfl) (fun _ _ _ h => h) (Or.inl ⟨by kernel_rfl, ?_⟩) hS ?_
    ·
     intro w hSw; go_simp
    try simp only [List.getElem_toArray, List.getElem_cons_succ, List.getElem_cons_zero, Act.put, List.setIfInBounds_toArray, List.set_cons_zero, List.set_cons_succ]
    refine wpAnyH_done (by kernel_rfl) ?_ _
    obtain ⟨g', rfl⟩ : ∃ g', gk = g' + 1 := ⟨gk - 1, by omega⟩
    have HO := zH (cuStep_any W base g s x (uH hx1) hp (by omega) (by omega) (by omega) (by omega))
    clear hS
    cases ho : (x.one s).1 with
    | true =>
     obtain ⟨hok2, hgo⟩ := hok.one hp ho
     rw [scanP_step hp hq ho] at hsc
     replace HO := zH (ho ▸ uH HO)
     replace hsc := zH hsc
     clear hok
     go_wp2_with fail
     refine (uH HO).mono ?_
     rintro e W2 ⟨rfl, hst2, hw2⟩
     generalize (x.one s).2 = y at *
     go_wp2
     go_roundg g'
     case measure => omega
     case rel => exact ⟨y, hok2, hst2, hw.trans hw2, uH hsc, by omega⟩
    | false =>
     have hsame := one_stays s x ho
     rw [scanP_stop hp hq ho] at hsc
     replace HO := zH (hsame ▸ ho ▸ uH HO)
     have hF := cutF_stop hsc.symm
     have hR := zH (show cutF s = -1 → x.l = cutL s ∧ x.c = (scanP s s.size sc0).2.c from fun h => by rw [hF] at h; omega)
     replace hF := zH hF
     clear hok hsc ho hsame
     go_wp2_with fail
     refine (uH HO).mono ?_
     rintro e W2 ⟨rfl, hst2, hw2⟩
     obtain ⟨vl, vc, hh, h1, h2, h3⟩ := id hst2
     obtain ⟨x0, x1, x2, x3, x4⟩ := cuCells hh
     clear hh h1 h2 h3 HO
     go_wp2
     go_ret
     exact ⟨ret_int (uH hF).symm, hw.trans hw2, x, hst2, uH hR⟩
   ·
    have hpz : (x.p : Int) < s.size := by omega
    have hqz : ¬ (x.p : Int) < 2000 := by omega
    refine wpAnyH_take (i := 0) (v := .pointer (some ⟨g, 0, none⟩)) rfl (by kernel_rfl) (by kernel_rfl) (by kernel_rfl) (fun _ _ _ h => h) (Or.inl ⟨by kernel_rfl, ?_⟩) hS ?_
    ·
     intro w hSw; go_simp
    try simp only [List.getElem_toArray, List.getElem_cons_succ, List.getElem_cons_zero, Act.put, List.setIfInBounds_toArray, List.set_cons_zero, List.set_cons_succ]
    refine wpAnyH_take (i := 1) (v := .pointer (some ⟨g, 0, none⟩)) rfl (by kernel_rfl) (by kernel_rfl) (by kernel_rfl) (fun _ _ _ h => h) (Or.inl ⟨by kernel_rfl, ?_⟩) hS ?_
    ·
     intro w hSw; go_simp
    try simp only [List.getElem_toArray, List.getElem_cons_succ, List.getElem_cons_zero, Act.put, List.setIfInBounds_toArray, List.set_cons_zero, List.set_cons_succ]
    refine wpAnyH_take (i := 2) (v := .pointer (some ⟨g, 1, none⟩)) rfl (by kernel_rfl) (by kernel_rfl) (by kernel_rfl) (fun _ _ _ h => h) (Or.inl ⟨by kernel_rfl, ?_⟩) hS ?_
    ·
     intro w hSw; go_simp
    try simp only [List.getElem_toArray, List.getElem_cons_succ, List.getElem_cons_zero, Act.put, List.setIfInBounds_toArray, List.set_cons_zero, List.set_cons_succ]
    refine wpAnyH_take (i := 3) (v := .int .i64 x.p) rfl (by kernel_rfl) (by kernel_rfl) (by kernel_rfl) (fun _ _ _ h => h) (Or.inl ⟨by kernel_rfl, ?_⟩) hS ?_
    ·
     intro w hSw; obtain ⟨x0, x1, x2, x3, x4⟩ := cuCells hSw; go_simp
    try simp only [List.getElem_toArray, List.getElem_cons_succ, List.getElem_cons_zero, Act.put, List.setIfInBounds_toArray, List.set_cons_zero, List.set_cons_succ]
    refine wpAnyH_take (i := 4) (v := .pointer (some ⟨g, 0, none⟩)) rfl (by kernel_rfl) (by kernel_rfl) (by kernel_rfl) (fun _ _ _ h => h) (Or.inl ⟨by kernel_rfl, ?_⟩) hS ?_
    ·
     intro w hSw; go_simp
    try simp only [List.getElem_toArray, List.getElem_cons_succ, List.getElem_cons_zero, Act.put, List.setIfInBounds_toArray, List.set_cons_zero, List.set_cons_succ]
    refine wpAnyH_take (i := 5) (v := .pointer (some ⟨g, 0, none⟩)) rfl (by kernel_rfl) (by kernel_rfl) (by kernel_rfl) (fun _ _ _ h => h) (Or.inl ⟨by kernel_rfl, ?_⟩) hS ?_
    ·
     intro w hSw; go_simp
    try simp only [List.getElem_toArray, List.getElem_cons_succ, List.getElem_cons_zero, Act.put, List.setIfInBounds_toArray, List.set_cons_zero, List.set_cons_succ]
    refine wpAnyH_take (i := 6) (v := .pointer (some ⟨g, 0, none⟩)) rfl (by kernel_rfl) (by kernel_rfl) (by kernel_rfl) (fun _ _ _ h => h) (Or.inl ⟨by kernel_rfl, ?_⟩) hS ?_
    ·
     intro w hSw; go_simp
    try simp only [List.getElem_toArray, List.getElem_cons_succ, List.getElem_cons_zero, Act.put, List.setIfInBounds_toArray, List.set_cons_zero, List.set_cons_succ]
    refine wpAnyH_take (i := 7) (v := .string s) rfl (by kernel_rfl) (by kernel_rfl) (by kernel_rfl) (fun _ _ _ h => h) (Or.inl ⟨by kernel_rfl, ?_⟩) hS ?_
    ·
     intro w hSw; obtain ⟨x0, x1, x2, x3, x4⟩ := cuCells hSw; go_simp
    try simp only [List.getElem_toArray, List.getElem_cons_succ, List.getElem_cons_zero, Act.put, List.setIfInBounds_toArray, List.set_cons_zero, List.set_cons_succ]
    refine wpAnyH_take (i := 8) (v := .int .i64 s.size) rfl (by kernel_rfl) (by kernel_rfl) (by kernel_rfl) (fun _ _ _ h => h) (Or.inl ⟨by kernel_rfl, ?_⟩) hS ?_
    ·
     intro w hSw; go_simp
    try simp only [List.getElem_toArray, List.getElem_cons_succ, List.getElem_cons_zero, Act.put, List.setIfInBounds_toArray, List.set_cons_zero, List.set_cons_succ]
    refine wpAnyH_take (i := 9) (v := .bool true) rfl (by kernel_rfl) (by kernel_rfl) (by kernel_rfl) (fun _ _ _ h => h) (Or.inl ⟨by kernel_rfl, ?_⟩) hS ?_
    ·
     intro w hSw; first | (go_simp; done) | (go_simp; omega)
    try simp only [List.getElem_toArray, List.getElem_cons_succ, List.getElem_cons_zero, Act.put, List.setIfInBounds_toArray, List.set_cons_zero, List.set_cons_succ]
    refine wpAnyH_take (i := 10) (v := .bool true) rfl (by kernel_rfl) (by kernel_rfl) (by kernel_rfl) (fun _ _ _ h => h) (Or.inl ⟨by kernel_rfl, ?_⟩) hS ?_
    ·
     intro w hSw; go_simp
    try simp only [List.getElem_toArray, List.getElem_cons_succ, List.getElem_cons_zero, Act.put, List.setIfInBounds_toArray, List.set_cons_zero, List.set_cons_succ]
    refine wpAnyH_take (i := 11) (v := .pointer (some ⟨g, 0, none⟩)) rfl (by kernel_rfl) (by kernel_rfl) (by kernel_rfl) (fun _ _ _ h => h) (Or.inl ⟨by kernel_rfl, ?_⟩) hS ?_
    ·
     intro w hSw; go_simp
    try simp only [List.getElem_toArray, List.getElem_cons_succ, List.getElem_cons_zero, Act.put, List.setIfInBounds_toArray, List.set_cons_zero, List.set_cons_succ]
    refine wpAnyH_take (i := 12) (v := .pointer (some ⟨g, 0, none⟩)) rfl (by kernel_rfl) (by kernel_rfl) (by kernel_rfl) (fun _ _ _ h => h) (Or.inl ⟨by kernel_rfl, ?_⟩) hS ?_
    ·
     intro w hSw; go_simp
    try simp only [List.getElem_toArray, List.getElem_cons_succ, List.getElem_cons_zero, Act.put, List.setIfInBounds_toArray, List.set_cons_zero, List.set_cons_succ]
    refine wpAnyH_take (i := 13) (v := .pointer (some ⟨g, 1, none⟩)) rfl (by kernel_rfl) (by kernel_rfl) (by kernel_rfl) (fun _ _ _ h => h) (Or.inl ⟨by kernel_rfl, ?_⟩) hS ?_
    ·
     intro w hSw; go_simp
    try simp only [List.getElem_toArray, List.getElem_cons_succ, List.getElem_cons_zero, Act.put, List.setIfInBounds_toArray, List.set_cons_zero, List.set_cons_succ]
    refine wpAnyH_take (i := 14) (v := .int .i64 x.p) rfl (by kernel_rfl) (by kernel_rfl) (by kernel_rfl) (fun _ _ _ h => h) (Or.inl ⟨by kernel_rfl, ?_⟩) hS ?_
    ·
     intro w hSw; obtain ⟨x0, x1, x2, x3, x4⟩ := cuCells hSw; go_simp
    try simp only [List.getElem_toArray, List.getElem_cons_succ, List.getElem_cons_zero, Act.put, List.setIfInBounds_toArray, List.set_cons_zero, List.set_cons_succ]
    refine wpAnyH_take (i := 15) (v := .bool false) rfl (by kernel_rfl) (by kernel_rfl) (by kernel_rfl) (fun _ _ _ h => h) (Or.inl ⟨by kernel_rfl, ?_⟩) hS ?_
    ·
     intro w hSw; first | (go_simp; done) | (go_simp; omega)
    try simp only [List.getElem_toArray, List.getElem_cons_succ, List.getElem_cons_zero, Act.put, List.setIfInBounds_toArray, List.set_cons_zero, List.set_cons_succ]
    refine wpAnyH_take (i := 16) (v := .bool false) rfl (by kernel_rfl) (by kernel_rfl) (by kernel_rfl) (fun _ _ _ h => h) (Or.inl ⟨by kernel_rfl, ?_⟩) hS ?_
    ·
     intro w hSw; go_simp
    try simp only [List.getElem_toArray, List.getElem_cons_succ, List.getElem_cons_zero, Act.put, List.setIfInBounds_toArray, List.set_cons_zero, List.set_cons_succ]
    refine wpAnyH_done (by kernel_rfl) ?_ _
    rw [scanP_end (fun h => hq h.2)] at hsc
    have hF := zH (cutF_big hsc.symm (by omega))
    have hR := zH (show cutF s = -1 → x.l = cutL s ∧ x.c = (scanP s s.size sc0).2.c from fun h => by rw [uH hF] at h; omega)
    obtain ⟨x0, x1, x2, x3, x4⟩ := cuCells hS
    have hbig : (2000 : Int) < s.size := by omega
    clear hS hsc hok
    go_wp2
    go_ret
    exact ⟨ret_int (uH hF).symm, hw, x, uH hx1, uH hR⟩
  ·
   have hpz : ¬ (x.p : Int) < s.size := by omega
   refine wpAnyH_take (i := 0) (v := .pointer (some ⟨g, 0, none⟩)) rfl (by kernel_rfl) (by kernel_rfl) (by kernel_rfl) (fun _ _ _ h => h) (Or.inl ⟨by kernel_rfl, ?_⟩) hS ?_
   ·
    intro w hSw; go_simp
   try simp only [List.getElem_toArray, List.getElem_cons_succ, List.getElem_cons_zero, Act.put, List.setIfInBounds_toArray, List.set_cons_zero, List.set_cons_succ]
   refine wpAnyH_take (i := 1) (v := .pointer (some ⟨g, 0, none⟩)) rfl (by kernel_rfl) (by kernel_rfl) (by kernel_rfl) (fun _ _ _ h => h) (Or.inl ⟨by kernel_rfl, ?_⟩) hS ?_
   ·
    intro w hSw; go_simp
   try simp only [List.getElem_toArray, List.getElem_cons_succ, List.getElem_cons_zero, Act.put, List.setIfInBounds_toArray, List.set_cons_zero, List.set_cons_succ]
   refine wpAnyH_take (i := 2) (v := .pointer (some ⟨g, 1, none⟩)) rfl (by kernel_rfl) (by kernel_rfl) (by kernel_rfl) (fun _ _ _ h => h) (Or.inl ⟨by kernel_rfl, ?_⟩) hS ?_
   ·
    intro w hSw; go_simp
   try simp only [List.getElem_toArray, List.getElem_cons_succ, List.getElem_cons_zero, Act.put, List.setIfInBounds_toArray, List.set_cons_zero, List.set_cons_succ]
   refine wpAnyH_take (i := 3) (v := .int .i64 x.p) rfl (by kernel_rfl) (by kernel_rfl) (by kernel_rfl) (fun _ _ _ h => h) (Or.inl ⟨by kernel_rfl, ?_⟩) hS ?_
   ·
    intro w hSw; obtain ⟨x0, x1, x2, x3, x4⟩ := cuCells hSw; go_simp
   try simp only [List.getElem_toArray, List.getElem_cons_succ, List.getElem_cons_zero, Act.put, List.setIfInBounds_toArray, List.set_cons_zero, List.set_cons_succ]
   refine wpAnyH_take (i := 4) (v := .pointer (some ⟨g, 0, none⟩)) rfl (by kernel_rfl) (by kernel_rfl) (by kernel_rfl) (fun _ _ _ h => h) (Or.inl ⟨by kernel_rfl, ?_⟩) hS ?_
   ·
    intro w hSw; go_simp
   try simp only [List.getElem_toArray, List.getElem_cons_succ, List.getElem_cons_zero, Act.put, List.setIfInBounds_toArray, List.set_cons_zero, List.set_cons_succ]
   refine wpAnyH_take (i := 5) (v := .pointer (some ⟨g, 0, none⟩)) rfl (by kernel_rfl) (by kernel_rfl) (by kernel_rfl) (fun _ _ _ h => h) (Or.inl ⟨by kernel_rfl, ?_⟩) hS ?_
   ·
    intro w hSw; go_simp
   try simp only [List.getElem_toArray, List.getElem_cons_succ, List.getElem_cons_zero, Act.put, List.setIfInBounds_toArray, List.set_cons_zero, List.set_cons_succ]
   refine wpAnyH_take (i := 6) (v := .pointer (some ⟨g, 0, none⟩)) rfl (by kernel_rfl) (by kernel_rfl) (by kernel_rfl) (fun _ _ _ h => h) (Or.inl ⟨by kernel_rfl, ?_⟩) hS ?_
   ·
    intro w hSw; go_simp
   try simp only [List.getElem_toArray, List.getElem_cons_succ, List.getElem_cons_zero, Act.put, List.setIfInBounds_toArray, List.set_cons_zero, List.set_cons_succ]
   refine wpAnyH_take (i := 7) (v := .string s) rfl (by kernel_rfl) (by kernel_rfl) (by kernel_rfl) (fun _ _ _ h => h) (Or.inl ⟨by kernel_rfl, ?_⟩) hS ?_
   ·
    intro w hSw; obtain ⟨x0, x1, x2, x3, x4⟩ := cuCells hSw; go_simp
   try simp only [List.getElem_toArray, List.getElem_cons_succ, List.getElem_cons_zero, Act.put, List.setIfInBounds_toArray, List.set_cons_zero, List.set_cons_succ]
   refine wpAnyH_take (i := 8) (v := .int .i64 s.size) rfl (by kernel_rfl) (by kernel_rfl) (by kernel_rfl) (fun _ _ _ h => h) (Or.inl ⟨by kernel_rfl, ?_⟩) hS ?_
   ·
    intro w hSw; go_simp
   try simp only [List.getElem_toArray, List.getElem_cons_succ, List.getElem_cons_zero, Act.put, List.setIfInBounds_toArray, List.set_cons_zero, List.set_cons_succ]
   refine wpAnyH_take (i := 9) (v := .bool false) rfl (by kernel_rfl) (by kernel_rfl) (by kernel_rfl) (fun _ _ _ h => h) (Or.inl ⟨by kernel_rfl, ?_⟩) hS ?_
   ·
    intro w hSw; first | (go_simp; done) | (go_simp; omega)
   try simp only [List.getElem_toArray, List.getElem_cons_succ, List.getElem_cons_zero, Act.put, List.setIfInBounds_toArray, List.set_cons_zero, List.set_cons_succ]
   refine wpAnyH_take (i := 10) (v := .bool false) rfl (by kernel_rfl) (by kernel_rfl) (by kernel_rfl) (fun _ _ _ h => h) (Or.inl ⟨by kernel_rfl, ?_⟩) hS ?_
   ·
    intro w hSw; go_simp
   try simp only [List.getElem_toArray, List.getElem_cons_succ, List.getElem_cons_zero, Act.put, List.setIfInBounds_toArray, List.set_cons_zero, List.set_cons_succ]
   refine wpAnyH_take (i := 11) (v := undef) rfl (by kernel_rfl) (by kernel_rfl) (by kernel_rfl) (fun _ _ _ h => h) (Or.inr ⟨by kernel_rfl, rfl⟩) hS ?_
   try simp only [List.getElem_toArray, List.getElem_cons_succ, List.getElem_cons_zero, Act.put, List.setIfInBounds_toArray, List.set_cons_zero, List.set_cons_succ]
   refine wpAnyH_take (i := 12) (v := undef) rfl (by kernel_rfl) (by kernel_rfl) (by kernel_rfl) (fun _ _ _ h => h) (Or.inr ⟨by kernel_rfl, rfl⟩) hS ?_
   try simp only [List.getElem_toArray, List.getElem_cons_succ, List.getElem_cons_zero, Act.put, List.setIfInBounds_toArray, List.set_cons_zero, List.set_cons_succ]
   refine wpAnyH_take (i := 13) (v := undef) rfl (by kernel_rfl) (by kernel_rfl) (by kernel_rfl) (fun _ _ _ h => h) (Or.inr ⟨by kernel_rfl, rfl⟩) hS ?_
   try simp only [List.getElem_toArray, List.getElem_cons_succ, List.getElem_cons_zero, Act.put, List.setIfInBounds_toArray, List.set_cons_zero, List.set_cons_succ]
   refine wpAnyH_take (i := 14) (v := undef) rfl (by kernel_rfl) (by kernel_rfl) (by kernel_rfl) (fun _ _ _ h => h) (Or.inr ⟨by kernel_rfl, rfl⟩) hS ?_
   try simp only [List.getElem_toArray, List.getElem_cons_succ, List.getElem_cons_zero, Act.put, List.setIfInBounds_toArray, List.set_cons_zero, List.set_cons_succ]
   refine wpAnyH_take (i := 15) (v := undef) rfl (by kernel_rfl) (by kernel_rfl) (by kernel_rfl) (fun _ _ _ h => h) (Or.inr ⟨by kernel_rfl, rfl⟩) hS ?_
   try simp only [List.getElem_toArray, List.getElem_cons_succ, List.getElem_cons_zero, Act.put, List.setIfInBounds_toArray, List.set_cons_zero, List.set_cons_succ]
   refine wpAnyH_take (i := 16) (v := .bool false) rfl (by kernel_rfl) (by kernel_rfl) (by kernel_rfl) (fun _ _ _ h => h) (Or.inl ⟨by kernel_rfl, ?_⟩) hS ?_
   ·
    intro w hSw; go_simp
   try simp only [List.getElem_toArray, List.getElem_cons_succ, List.getElem_cons_zero, Act.put, List.setIfInBounds_toArray, List.set_cons_zero, List.set_cons_succ]
   refine wpAnyH_done (by kernel_rfl) ?_ _
   rw [scanP_end (fun h => hp h.1)] at hsc
   by_cases hbig : (2000 : Int) < s.size
   ·
    have hF := zH (cutF_big hsc.symm (by omega))
    have hR := zH (show cutF s = -1 → x.l = cutL s ∧ x.c = (scanP s s.size sc0).2.c from fun h => by rw [uH hF] at h; omega)
    obtain ⟨x0, x1, x2, x3, x4⟩ := cuCells hS
    clear hS hsc hok
    go_wp2
    go_ret
    exact ⟨ret_int (uH hF).symm, hw, x, uH hx1, uH hR⟩
   ·
    have hF := zH (cutF_ok hsc.symm (by omega))
    have hL := zH (cutL_ok hsc.symm)
    have HS := zH (cuClose_any W base g s x (uH hx1) (by omega))
    have hrest := zH (semi_rest x)
    obtain ⟨x0, x1, x2, x3, x4⟩ := cuCells hS
    clear hsc hok hx1 hS
    generalize x.semi = y at *
    go_wp2_with fail
    refine (uH HS).mono ?_
    rintro e W0 ⟨rfl, hst, hw1⟩
    replace hw := hw.trans hw1
    obtain ⟨hr1, hr2, hr3, hr4⟩ := uH hrest
    obtain ⟨p, line, l, c⟩ := y
    dsimp only at hr1 hr2 hr3 hr4 hst
    subst hr1 hr2 hr3
    clear hrest x0 x1 x2 x3 x4 HS hw1
    obtain ⟨vl, vc, hS, h1, h2, h3⟩ := hst
    dsimp only at hS h1 h2
    obtain ⟨al, cl, rfl, hal1, hal2⟩ := own_shape h1
    obtain ⟨ac, cc, rfl, hac1, hac2⟩ := own_shape h2
    have hg : g < W0.heap.size := (Array.getElem?_eq_some_iff.1 hS).1
    generalize x.p = p at *
    generalize x.line = line at *
    generalize x.c = c at *
    generalize x.l = xl at *
    obtain ⟨nl, hnl⟩ : ∃ nl, l.length = nl := ⟨_, rfl⟩
    obtain ⟨nc, hnc⟩ : ∃ nc, c.length = nc := ⟨_, rfl⟩
    rw [hnl] at hS h1 hal1 hr4
    rw [hnc] at hS h2 hac1 hl2
    replace hS := zH hS
    replace h1 := zH h1
    replace h2 := zH h2
    replace hw := zH hw
    go_upto_region 7 with fail
    replace hS := uH hS
    replace h1 := uH h1
    replace h2 := uH h2
    replace hw := uH hw
    refine wp_region_D (fun w' => w'.heap[g]? = some (cuObj s p line (.slice al nl cl) (.slice ac nc cc))) (fun j => [18].contains j) (by kernel_rfl) ?_
    replace hS : W0.drew.heap[g]? = some (cuObj s p line (.slice al nl cl) (.slice ac nc cc)) := hS
    replace h1 : OwnT W0.drew base (.slice al nl cl) l := h1
    replace h2 : OwnC W0.drew base (.slice ac nc cc) c := h2
    replace hw : Below base w W0.drew := hw.drew
    replace hg : g < W0.drew.heap.size := hg
    generalize World.drew W0 = W at h1 h2 hS hw hg ⊢
    refine wpAnyD_takeC (i := 0) (v := .pointer (some ⟨g, 0, none⟩)) [18] (fun _ => rfl) rfl (by kernel_rfl) 2 (by kernel_rfl) rfl (by kernel_rfl) (by kernel_rfl) (by kernel_rfl) (fun _ _ _ h => h) (Or.inl ⟨by kernel_rfl, ?_⟩) hS ?_
    ·
     intro w hSw; go_simp
    try simp only [List.getElem_toArray, List.getElem_cons_succ, List.getElem_cons_zero, Act.put, List.setIfInBounds_toArray, List.set_cons_zero, List.set_cons_succ]
    refine wpAnyD_takeC (i := 1) (v := .pointer (some ⟨g, 0, none⟩)) [18] (fun _ => rfl) rfl (by kernel_rfl) 2 (by kernel_rfl) rfl (by kernel_rfl) (by kernel_rfl) (by kernel_rfl) (fun _ _ _ h => h) (Or.inl ⟨by kernel_rfl, ?_⟩) hS ?_
    ·
     intro w hSw; go_simp
    try simp only [List.getElem_toArray, List.getElem_cons_succ, List.getElem_cons_zero, Act.put, List.setIfInBounds_toArray, List.set_cons_zero, List.set_cons_succ]
    refine wpAnyD_takeC (i := 2) (v := .pointer (some ⟨g, 0, none⟩)) [18] (fun _ => rfl) rfl (by kernel_rfl) 2 (by kernel_rfl) rfl (by kernel_rfl) (by kernel_rfl) (by kernel_rfl) (fun _ _ _ h => h) (Or.inl ⟨by kernel_rfl, ?_⟩) hS ?_
    ·
     intro w hSw; go_simp
    try simp only [List.getElem_toArray, List.getElem_cons_succ, List.getElem_cons_zero, Act.put, List.setIfInBounds_toArray, List.set_cons_zero, List.set_cons_succ]
    refine wpAnyD_takeC (i := 3) (v := .pointer (some ⟨g, 3, none⟩)) [18] (fun _ => rfl) rfl (by kernel_rfl) 2 (by kernel_rfl) rfl (by kernel_rfl) (by kernel_rfl) (by kernel_rfl) (fun _ _ _ h => h) (Or.inl ⟨by kernel_rfl, ?_⟩) hS ?_
    ·
     intro w hSw; go_simp
    try simp only [List.getElem_toArray, List.getElem_cons_succ, List.getElem_cons_zero, Act.put, List.setIfInBounds_toArray, List.set_cons_zero, List.set_cons_succ]
    refine wpAnyD_takeC (i := 4) (v := .slice al nl cl) [18] (fun _ => rfl) rfl (by kernel_rfl) 2 (by kernel_rfl) rfl (by kernel_rfl) (by kernel_rfl) (by kernel_rfl) (fun _ _ _ h => h) (Or.inl ⟨by kernel_rfl, ?_⟩) hS ?_
    ·
     intro w hSw; obtain ⟨x0, x1, x2, x3, x4⟩ := cuCells hSw; go_simp
    try simp only [List.getElem_toArray, List.getElem_cons_succ, List.getElem_cons_zero, Act.put, List.setIfInBounds_toArray, List.set_cons_zero, List.set_cons_succ]
    refine wpAnyD_takeC (i := 5) (v := .pointer (some ⟨g, 0, none⟩)) [18] (fun _ => rfl) rfl (by kernel_rfl) 2 (by kernel_rfl) rfl (by kernel_rfl) (by kernel_rfl) (by kernel_rfl) (fun _ _ _ h => h) (Or.inl ⟨by kernel_rfl, ?_⟩) hS ?_
    ·
     intro w hSw; go_simp
    try simp only [List.getElem_toArray, List.getElem_cons_succ, List.getElem_cons_zero, Act.put, List.setIfInBounds_toArray, List.set_cons_zero, List.set_cons_succ]
    refine wpAnyD_takeC (i := 6) (v := .pointer (some ⟨g, 0, none⟩)) [18] (fun _ => rfl) rfl (by kernel_rfl) 2 (by kernel_rfl) rfl (by kernel_rfl) (by kernel_rfl) (by kernel_rfl) (fun _ _ _ h => h) (Or.inl ⟨by kernel_rfl, ?_⟩) hS ?_
    ·
     intro w hSw; go_simp
    try simp only [List.getElem_toArray, List.getElem_cons_succ, List.getElem_cons_zero, Act.put, List.setIfInBounds_toArray, List.set_cons_zero, List.set_cons_succ]
    refine wpAnyD_takeC (i := 7) (v := .pointer (some ⟨g, 1, none⟩)) [18] (fun _ => rfl) rfl (by kernel_rfl) 2 (by kernel_rfl) rfl (by kernel_rfl) (by kernel_rfl) (by kernel_rfl) (fun _ _ _ h => h) (Or.inl ⟨by kernel_rfl, ?_⟩) hS ?_
    ·
     intro w hSw; go_simp
    try simp only [List.getElem_toArray, List.getElem_cons_succ, List.getElem_cons_zero, Act.put, List.setIfInBounds_toArray, List.set_cons_zero, List.set_cons_succ]
    refine wpAnyD_takeC (i := 8) (v := .int .i64 p) [18] (fun _ => rfl) rfl (by kernel_rfl) 2 (by kernel_rfl) rfl (by kernel_rfl) (by kernel_rfl) (by kernel_rfl) (fun _ _ _ h => h) (Or.inl ⟨by kernel_rfl, ?_⟩) hS ?_
    ·
     intro w hSw; obtain ⟨x0, x1, x2, x3, x4⟩ := cuCells hSw; go_simp
    try simp only [List.getElem_toArray, List.getElem_cons_succ, List.getElem_cons_zero, Act.put, List.setIfInBounds_toArray, List.set_cons_zero, List.set_cons_succ]
    refine wpAnyD_takeC (i := 9) (v := .pointer (some ⟨g, 0, none⟩)) [18] (fun _ => rfl) rfl (by kernel_rfl) 2 (by kernel_rfl) rfl (by kernel_rfl) (by kernel_rfl) (by kernel_rfl) (fun _ _ _ h => h) (Or.inl ⟨by kernel_rfl, ?_⟩) hS ?_
    ·
     intro w hSw; go_simp
    try simp only [List.getElem_toArray, List.getElem_cons_succ, List.getElem_cons_zero, Act.put, List.setIfInBounds_toArray, List.set_cons_zero, List.set_cons_succ]
    refine wpAnyD_takeC (i := 10) (v := .pointer (some ⟨g, 0, none⟩)) [18] (fun _ => rfl) rfl (by kernel_rfl) 2 (by kernel_rfl) rfl (by kernel_rfl) (by kernel_rfl) (by kernel_rfl) (fun _ _ _ h => h) (Or.inl ⟨by kernel_rfl, ?_⟩) hS ?_
    ·
     intro w hSw; go_simp
    try simp only [List.getElem_toArray, List.getElem_cons_succ, List.getElem_cons_zero, Act.put, List.setIfInBounds_toArray, List.set_cons_zero, List.set_cons_succ]
    refine wpAnyD_takeC (i := 11) (v := .pointer (some ⟨g, 2, none⟩)) [18] (fun _ => rfl) rfl (by kernel_rfl) 2 (by kernel_rfl) rfl (by kernel_rfl) (by kernel_rfl) (by kernel_rfl) (fun _ _ _ h => h) (Or.inl ⟨by kernel_rfl, ?_⟩) hS ?_
    ·
     intro w hSw; go_simp
    try simp only [List.getElem_toArray, List.getElem_cons_succ, List.getElem_cons_zero, Act.put, List.setIfInBounds_toArray, List.set_cons_zero, List.set_cons_succ]
    refine wpAnyD_takeC (i := 12) (v := .int .i64 line) [18] (fun _ => rfl) rfl (by kernel_rfl) 2 (by kernel_rfl) rfl (by kernel_rfl) (by kernel_rfl) (by kernel_rfl) (fun _ _ _ h => h) (Or.inl ⟨by kernel_rfl, ?_⟩) hS ?_
    ·
     intro w hSw; obtain ⟨x0, x1, x2, x3, x4⟩ := cuCells hSw; go_simp
    try simp only [List.getElem_toArray, List.getElem_cons_succ, List.getElem_cons_zero, Act.put, List.setIfInBounds_toArray, List.set_cons_zero, List.set_cons_succ]
    refine wpAnyD_takeC (i := 13) (v := .agg #[.int .i64 7, .string ⟨#[]⟩, .int .i64 p, .int .i64 line, .bool false]) [18] (fun _ => rfl) rfl (by kernel_rfl) 2 (by kernel_rfl) rfl (by kernel_rfl) (by kernel_rfl) (by kernel_rfl) (fun _ _ _ h => h) (Or.inl ⟨by kernel_rfl, ?_⟩) hS ?_
    ·
     intro w hSw; go_simp
    try simp only [List.getElem_toArray, List.getElem_cons_succ, List.getElem_cons_zero, Act.put, List.setIfInBounds_toArray, List.set_cons_zero, List.set_cons_succ]
    replace h1 := zH h1
    replace h2 := zH h2
    replace hS := zH hS
    replace hw := zH hw
    refine wpAnyD_one (i := 14) rfl (by kernel_rfl) (fun K hK => ?_)
    replace hK := zH hK
    go_simp
    have hS2 : (W.alloc (.cells #[.int .i64 7, .string ⟨#[]⟩, .int .i64 p, .int .i64 line, .bool false] 50)).heap[g]? = some (cuObj s p line (.slice al nl cl) (.slice ac nc cc)) := (Below.heap_alloc _ _ _ hg).trans (uH hS)
    have h1a := own_alloc (uH h1) (.cells #[.int .i64 7, .string ⟨#[]⟩, .int .i64 p, .int .i64 line, .bool false] 50)
    have h2a := own_alloc (uH h2) (.cells #[.int .i64 7, .string ⟨#[]⟩, .int .i64 p, .int .i64 line, .bool false] 50)
    have hn := new_tok W ⟨7, ⟨#[]⟩, p, line, false⟩ (0, 0)
    have hwa := (uH hw).alloc (by omega) (.cells #[.int .i64 7, .string ⟨#[]⟩, .int .i64 p, .int .i64 line, .bool false] 50)
    have hga : g < (W.alloc (.cells #[.int .i64 7, .string ⟨#[]⟩, .int .i64 p, .int .i64 line, .bool false] 50)).heap.size := (Array.getElem?_eq_some_iff.1 hS2).1
    refine uH hK _ _ (fun _ => hS2) ?_
    clear hK K h1 h2 hS hw
    dsimp only at hn
    generalize World.alloc W _ = W2 at *
    generalize W.heap.size = gn at *
    try simp only [List.getElem_toArray, List.getElem_cons_succ, List.getElem_cons_zero, Act.put, List.setIfInBounds_toArray, List.set_cons_zero, List.set_cons_succ]
    refine wpAnyD_one (i := 15) rfl (by kernel_rfl) (fun K hK => ?_)
    rw [if_pos (by kernel_rfl)]
    refine wp_append_tok (v := .slice al nl cl) (.tmp 39) (.tmp 49) rfl ⟨7, ⟨#[]⟩, p, line, false⟩ rfl h1a ⟨gn, 0, none⟩ rfl hn (by omega) (by omega) ?_
    intro v' W3 hown hgrow
    obtain ⟨hst, hS3⟩ := cu_stored hS2 h1a h2a h3 hown hgrow
    have hwb : Below base w W3 := hwa.grown hgrow (by omega) (fun k hk => by
     rcases h1a.2 with ⟨e, _⟩ | ⟨g', cap, cur, e, hb, _⟩
     ·
      rw [e] at hk; cases hk
     ·
      rw [e] at hk
      obtain rfl : g' = k := by simpa [Value.ownBlock] using hk
      exact hb)
    obtain ⟨al', cl', hv, _, _⟩ := own_shape hown
    obtain rfl : v' = .slice al' (nl + 1) cl' := by rw [hv, List.length_append, hnl]; rfl
    clear hv
    refine hK _ _ (fun _ => hS3) ?_
    clear hK K hown hgrow h1a h2a hn hwa hS2 hga
    have hS := hS3
    clear hS3
    replace hst := zH hst
    replace hwb := zH hwb
    try simp only [List.getElem_toArray, List.getElem_cons_succ, List.getElem_cons_zero, Act.put, List.setIfInBounds_toArray, List.set_cons_zero, List.set_cons_succ]
    refine wpAnyD_takeC (i := 16) (v := .pointer (some ⟨g, 0, none⟩)) [18] (fun _ => rfl) rfl (by kernel_rfl) 2 (by kernel_rfl) rfl (by kernel_rfl) (by kernel_rfl) (by kernel_rfl) (fun _ _ _ h => h) (Or.inl ⟨by kernel_rfl, ?_⟩) hS ?_
    ·
     intro w hSw; go_simp
    try simp only [List.getElem_toArray, List.getElem_cons_succ, List.getElem_cons_zero, Act.put, List.setIfInBounds_toArray, List.set_cons_zero, List.set_cons_succ]
    refine wpAnyD_takeC (i := 17) (v := .pointer (some ⟨g, 3, none⟩)) [18] (fun _ => rfl) rfl (by kernel_rfl) 2 (by kernel_rfl) rfl (by kernel_rfl) (by kernel_rfl) (by kernel_rfl) (fun _ _ _ h => h) (Or.inl ⟨by kernel_rfl, ?_⟩) hS ?_
    ·
     intro w hSw; go_simp
    try simp only [List.getElem_toArray, List.getElem_cons_succ, List.getElem_cons_zero, Act.put, List.setIfInBounds_toArray, List.set_cons_zero, List.set_cons_succ]
    obtain ⟨x0, x1, x2, x3, x4⟩ := cuCells hS
    have hf := cuFrozen hS
    refine wpAnyD_one (i := 18) rfl (by kernel_rfl) (fun K hK => ?_)
    replace hK := zH hK
    go_simp
    refine uH hK _ _ (fun h => by cases h) ?_
    clear hK K x0 x1 x2 x3 x4 hf hS
    replace hst := uH hst
    have hwc := (uH hwb).setCell (p := ⟨g, 3, none⟩) h3 (.slice al' (nl + 1) cl')
    clear hwb
    generalize World.setCell _ _ _ = W4 at *
    refine wpAnyD_done (by kernel_rfl) ?_ _
    replace hst := zH hst
    replace hwc := zH hwc
    go_wp2
    go_ret
    refine ⟨ret_int (uH hF).symm, uH hwc, _, uH hst, fun _ => ?_⟩
    obtain ⟨e1, e2⟩ := uH hL
    exact ⟨e1.symm, e2.symm⟩
end Go.Proofs.YtiknnobgoamgcaaGreatDoor
/-
  The program's way against the reference's; the program's Scan.
-/
namespace Go.Proofs.YtiknnobgoamgcaaGreatDoor
open Go.RowKit
/-- Short texts: the same. -/
theorem scanP_short {s : ByteArray} (hs : s.size ≤ 2000) : ∀ (f : Nat) (x : Sc), scanP s f x = scanL s f x := by
 intro f
 induction f with
 | zero => intro x; rfl
 | succ f ih =>
  intro x
  by_cases hp : x.p < s.size
  ·
   cases ho : (x.one s).1 with
   | true => rw [scanP_step hp (by omega) ho, scanL_step hp ho, ih]
   | false => rw [scanP_stop hp (by omega) ho, scanL_stop hp ho, one_stays s x ho]
  ·
   rw [scanP_end (fun h => hp h.1), scanL_end (by omega)]
theorem scanL_far {s : ByteArray} : ∀ (f : Nat) (x : Sc), ScOk s x → x.p ≤ (scanL s f x).2.p := by
 intro f
 induction f with
 | zero => intro x _; exact Nat.le_refl _
 | succ f ih =>
  intro x hx
  by_cases hp : x.p < s.size
  ·
   cases ho : (x.one s).1 with
   | true =>
    obtain ⟨h1, h2⟩ := hx.one hp ho
    rw [scanL_step hp ho]
    have := ih _ h1
    omega
   | false => rw [scanL_stop hp ho, one_stays s x ho]; exact Nat.le_refl _
  ·
   rw [scanL_end (by omega)]; exact Nat.le_refl _
theorem scanL_all {s : ByteArray} : ∀ (f : Nat) (x : Sc), ScOk s x → s.size ≤ x.p + f → (scanL s f x).1 = true → (scanL s f x).2.p = s.size := by
 intro f
 induction f with
 | zero =>
  intro x hx hf _
  have := hx.p
  show x.p = s.size
  omega
 | succ f ih =>
  intro x hx hf h
  by_cases hp : x.p < s.size
  ·
   cases ho : (x.one s).1 with
   | true =>
    obtain ⟨h1, h2⟩ := hx.one hp ho
    rw [scanL_step hp ho] at h ⊢
    exact ih _ h1 (by omega) h
   | false => rw [scanL_stop hp ho] at h; cases h
  ·
   have := hx.p
   rw [scanL_end (by omega)]
   show x.p = s.size
   omega
theorem scanL_full (s : ByteArray) : (scanL s s.size sc0).1 = true → (scanL s s.size sc0).2.p = s.size := scanL_all _ _ (sc0_ok s) (by simp [sc0])
/-- Long ones: what stops ahead of byte 2000 stops there; else the reference comes at least as far. -/
theorem scanP_long {s : ByteArray} (hs : 2000 < s.size) : ∀ (f : Nat) (x : Sc), ScOk s x → s.size ≤ x.p + f →
  ((scanP s f x).1 = false ∧ scanL s f x = scanP s f x ∧ (scanP s f x).2.p < 2000) ∨ ((scanP s f x).1 = true ∧ 2000 ≤ (scanL s f x).2.p) := by
 intro f
 induction f with
 | zero =>
  intro x hx hf
  right
  refine ⟨rfl, ?_⟩
  show 2000 ≤ x.p
  omega
 | succ f ih =>
  intro x hx hf
  by_cases hq : x.p < 2000
  ·
   have hp : x.p < s.size := by omega
   cases ho : (x.one s).1 with
   | true =>
    obtain ⟨h1, h2⟩ := hx.one hp ho
    rw [scanP_step hp hq ho, scanL_step hp ho]
    exact ih _ h1 (by omega)
   | false =>
    rw [scanP_stop hp hq ho, scanL_stop hp ho, one_stays s x ho]
    exact .inl ⟨rfl, rfl, hq⟩
  ·
   rw [scanP_end (fun h => hq h.2)]
   have := scanL_far (f + 1) x hx
   exact .inr ⟨rfl, by omega⟩
def fstF (a b : Int) : Int := if a < 0 ∨ b < 0 then max a b else min a b
/-- What the program answers is what the reference does. -/
theorem scan_same (s : ByteArray) (fl : Int) (h0 : -1 ≤ fl) :
  (scanR s (bigF s fl)).2.2 = fstF fl (cutF s) ∧
  (0 ≤ fstF fl (cutF s) → (scanR s (bigF s fl)).1 = [] ∧ (scanR s (bigF s fl)).2.1 = []) ∧
  (fstF fl (cutF s) < 0 → cutF s = -1 ∧ (scanR s (bigF s fl)).2.2 = -1 ∧ (scanR s (bigF s fl)).1 = cutL s ∧ (scanR s (bigF s fl)).2.1 = (scanP s s.size sc0).2.c) := by
 by_cases hs : s.size ≤ 2000
 ·
  have hb : bigF s fl = fl := by rw [bigF, if_neg (by omega)]
  rw [hb]
  have he := scanP_short hs s.size sc0
  have hp1 : (scanL s s.size sc0).1 = true → (scanL s s.size sc0).2.p = s.size := scanL_full s
  rw [cutF, cutL, he]
  cases hx : scanL s s.size sc0 with
  | mk b x =>
   rw [hx] at hp1
   cases b with
   | false =>
    rw [scanR_stop hx]
    simp only [Bool.false_eq_true, if_false, fstF]
    by_cases h1 : fl < 0
    ·
     rw [if_pos (.inl h1), if_pos (.inl h1)]
     exact ⟨by omega, fun _ => ⟨trivial, trivial⟩, fun h => by omega⟩
    ·
     rw [if_neg (show ¬ (fl < 0 ∨ (x.p : Int) < 0) by omega)]
     refine ⟨?_, fun _ => ⟨trivial, trivial⟩, fun h => by omega⟩
     split <;> omega
   | true =>
    simp only [if_true, fstF]
    rw [if_neg (show ¬ 2000 < s.size by omega), if_pos (.inr (by decide))]
    by_cases h1 : 0 ≤ fl
    ·
     rw [scanR_bad hx h1]
     exact ⟨by simp only; omega, fun _ => ⟨rfl, rfl⟩, fun h => by omega⟩
    ·
     rw [scanR_ok hx h1]
     refine ⟨by simp only; omega, fun h => by omega, fun _ => ⟨rfl, rfl, ?_, rfl⟩⟩
     rw [show s.size = x.p from (hp1 rfl).symm]
 ·
  have hl := scanP_long (by omega) s.size sc0 (sc0_ok s) (by simp [sc0])
  have hb : bigF s fl = if fl < 0 ∨ 2000 < fl then 2000 else fl := by
   unfold bigF
   by_cases h : fl < 0 ∨ 2000 < fl
   ·
    rw [if_pos ⟨by omega, h⟩, if_pos h]
   ·
    rw [if_neg (fun h' => h h'.2), if_neg h]
  have hbr : 0 ≤ bigF s fl ∧ bigF s fl ≤ 2000 := by rw [hb]; split <;> omega
  rcases hl with ⟨l1, l2, l3⟩ | ⟨l1, l2⟩
  ·
   cases hx : scanP s s.size sc0 with
   | mk b x =>
    rw [hx] at l1 l2 l3
    obtain rfl : b = false := l1
    dsimp only at l3
    rw [scanR_stop l2, cutF_stop hx]
    simp only [fstF]
    refine ⟨?_, fun _ => ⟨trivial, trivial⟩, fun h => ?_⟩
    ·
     by_cases h : fl < 0 ∨ 2000 < fl
     ·
      rw [if_pos h] at hb
      rw [hb]
      split <;> split <;> omega
     ·
      rw [if_neg h] at hb
      rw [hb]
      split <;> split <;> omega
    ·
     exfalso
     split at h <;> omega
  ·
   cases hx : scanP s s.size sc0 with
   | mk b x =>
    rw [hx] at l1
    obtain rfl : b = true := l1
    rw [cutF_big hx (by omega)]
    have hf : fstF fl 2000 = bigF s fl := by
     rw [fstF, hb]
     by_cases h1 : fl < 0
     ·
      rw [if_pos (.inl h1), if_pos (.inl h1)]; omega
     ·
      rw [if_neg (show ¬ (fl < 0 ∨ (2000 : Int) < 0) by omega)]
      split <;> omega
    rw [hf]
    cases hy : scanL s s.size sc0 with
    | mk c y =>
     rw [hy] at l2
     dsimp only at l2
     cases c with
     | true =>
      rw [scanR_bad hy hbr.1]
      exact ⟨rfl, fun _ => ⟨rfl, rfl⟩, fun h => by omega⟩
     | false =>
      rw [scanR_stop hy, if_neg (show ¬ (bigF s fl < 0 ∨ (y.p : Int) < bigF s fl) by omega)]
      exact ⟨rfl, fun _ => ⟨rfl, rfl⟩, fun h => by omega⟩
end Go.Proofs.YtiknnobgoamgcaaGreatDoor
namespace Go.Proofs.YtiknnobgoamgcaaGreatDoor
open Go.RowKit
set_option linter.unusedSimpArgs false
set_option linter.unusedVariables false
set_option maxHeartbeats 400000 in
set_option maxRecDepth 100000 in
theorem scanFirst_any (a b : Int) (w : World) :
  Calls Tryz.prog 36 #[.int .i64 a, .int .i64 b] w fun e w' => e = .returned (.int .i64 (fstF a b)) ∧ w' = w := by
 by_cases h1 : a < 0
 ·
  have h : fstF a b = max a b := by rw [fstF, if_pos (.inl h1)]
  rw [h]
  clear h
  go_enter Tryz.func36, Tryz.ntmps36
  go_wp2
  all_goals
   go_ret
   exact ⟨ret_int (by first | rfl | omega), rfl⟩
 ·
  by_cases h2 : b < 0
  ·
   have h : fstF a b = max a b := by rw [fstF, if_pos (.inr h2)]
   rw [h]
   clear h
   go_enter Tryz.func36, Tryz.ntmps36
   go_wp2
   all_goals
    go_ret
    exact ⟨ret_int (by first | rfl | omega), rfl⟩
  ·
   have h : fstF a b = min a b := by rw [fstF, if_neg (by omega)]
   rw [h]
   clear h
   go_enter Tryz.func36, Tryz.ntmps36
   go_wp2
   all_goals
    go_ret
    exact ⟨ret_int (by first | rfl | omega), rfl⟩
set_option maxHeartbeats 2000000 in
set_option maxRecDepth 100000 in
theorem pScan_any (s : ByteArray) (w : World) (hs : s.size ≤ 700000) :
  Calls Tryz.prog 25 #[.string s] w fun e w' => ∃ vl vc, e = .returned (.tuple #[vl, vc, .int .i64 (scanR s (bigF s (flt s))).2.2]) ∧ OwnT w' w.heap.size vl (scanR s (bigF s (flt s))).1 ∧ OwnC w' w.heap.size vc (scanR s (bigF s (flt s))).2.1 ∧ Below w.heap.size w w' := by
 have HF := fun w => uFault_any s w (by unfold maxLen; omega)
 have hfr := flt_range s
 have hsm := scan_same s (flt s) (by omega)
 have HC := fun (w' : World) (h : CuSt w' w.heap.size w.heap.size s sc0) => cuCut_any w' w.heap.size w.heap.size s h hs
 have H1 := fun w => scanFirst_any (flt s) (cutF s) w
 have h0 := cu0_st w s
 have hw0 := below_alloc w (.cells #[.string s, .int .i64 0, .int .i64 1, .slice none 0 0, .slice none 0 0] 69)
 generalize scanR s (bigF s (flt s)) = R at *
 generalize fstF (flt s) (cutF s) = F at *
 generalize flt s = fl at *
 generalize cutF s = cf at *
 generalize cutL s = cl at *
 generalize (scanP s s.size sc0).2.c = cc at *
 replace HF := zH HF
 replace HC := zH HC
 replace H1 := zH H1
 replace h0 := zH h0
 replace hw0 := zH hw0
 replace hsm := zH hsm
 go_enter Tryz.func25, Tryz.ntmps25
 go_wp2_with fail
 refine (uH HF _).mono ?_
 rintro e W0 ⟨rfl, hb⟩
 have hst := (uH h0).below hb
 have hw : Below w.heap.size w W0 := (uH hw0).trans (hb.mono (by simp))
 clear hb h0 hw0 HF
 go_wp2_with fail
 refine (uH HC _ hst).mono ?_
 rintro e W1 ⟨rfl, hb, y, hst, hy⟩
 replace hw := hw.trans hb
 clear hb HC
 replace hst := zH hst
 go_wp2_with fail
 refine (uH H1 _).mono ?_
 rintro e W1 ⟨rfl, rfl⟩
 clear H1
 obtain ⟨hs1, hs2, hs3⟩ := uH hsm
 clear hsm
 by_cases hF : 0 ≤ F
 ·
  obtain ⟨e1, e2⟩ := hs2 hF
  replace e1 := zH e1
  replace e2 := zH e2
  replace hs1 := zH hs1
  clear hs3 hs2 hy
  go_wp2
  go_ret3
  rw [uH e1, uH e2, uH hs1]
  exact ⟨_, _, rfl, own_nil.1, own_nil.2, hw⟩
 ·
  obtain ⟨e0, e1, e2, e3⟩ := hs3 (by omega)
  obtain ⟨y1, y2⟩ := hy e0
  have e1 := zH e1
  have e2 := zH (e2.trans y1.symm)
  have e3 := zH (e3.trans y2.symm)
  clear hs1 hs2 hs3 hy e0 y1 y2
  go_upto_region 5 with fail
  obtain ⟨vl5, vc5, hS5, h15, h25, h35⟩ := uH hst
  have hS : W1.drew.heap[w.heap.size]? = some (cuObj s y.p y.line vl5 vc5) := hS5
  have hT : OwnT W1.drew w.heap.size vl5 y.l := h15
  have hC : OwnC W1.drew w.heap.size vc5 y.c := h25
  have hB : Below w.heap.size w W1.drew := hw.drew
  clear hS5 h15 h25 hst hw
  replace hT := zH hT
  replace hC := zH hC
  replace hB := zH hB
  refine wp_region_held_drew (S := fun w' => w'.heap[w.heap.size]? = some (cuObj s y.p y.line vl5 vc5)) (by kernel_rfl) hS (fun _ => ?_)
  generalize World.drew W1 = W5 at hS hT hC hB ⊢
  refine wpAnyH_take (i := 0) (v := .pointer (some ⟨w.heap.size, 3, none⟩)) rfl (by kernel_rfl) (by kernel_rfl) (by kernel_rfl) (fun _ _ _ h => h) (Or.inl ⟨by kernel_rfl, ?_⟩) hS ?_
  ·
   intro w hSw; go_simp
  try simp only [List.getElem_toArray, List.getElem_cons_succ, List.getElem_cons_zero, Act.put, List.setIfInBounds_toArray, List.set_cons_zero, List.set_cons_succ]
  refine wpAnyH_take (i := 1) (v := vl5) rfl (by kernel_rfl) (by kernel_rfl) (by kernel_rfl) (fun _ _ _ h => h) (Or.inl ⟨by kernel_rfl, ?_⟩) hS ?_
  ·
   intro w hSw; obtain ⟨x0, x1, x2, x3, x4⟩ := cuCells hSw; go_simp
  try simp only [List.getElem_toArray, List.getElem_cons_succ, List.getElem_cons_zero, Act.put, List.setIfInBounds_toArray, List.set_cons_zero, List.set_cons_succ]
  refine wpAnyH_take (i := 2) (v := .pointer (some ⟨w.heap.size, 4, none⟩)) rfl (by kernel_rfl) (by kernel_rfl) (by kernel_rfl) (fun _ _ _ h => h) (Or.inl ⟨by kernel_rfl, ?_⟩) hS ?_
  ·
   intro w hSw; go_simp
  try simp only [List.getElem_toArray, List.getElem_cons_succ, List.getElem_cons_zero, Act.put, List.setIfInBounds_toArray, List.set_cons_zero, List.set_cons_succ]
  refine wpAnyH_take (i := 3) (v := vc5) rfl (by kernel_rfl) (by kernel_rfl) (by kernel_rfl) (fun _ _ _ h => h) (Or.inl ⟨by kernel_rfl, ?_⟩) hS ?_
  ·
   intro w hSw; obtain ⟨x0, x1, x2, x3, x4⟩ := cuCells hSw; go_simp
  try simp only [List.getElem_toArray, List.getElem_cons_succ, List.getElem_cons_zero, Act.put, List.setIfInBounds_toArray, List.set_cons_zero, List.set_cons_succ]
  refine wpAnyH_take (i := 4) (v := vl5) rfl (by kernel_rfl) (by kernel_rfl) (by kernel_rfl) (fun _ _ _ h => h) (Or.inl ⟨by kernel_rfl, ?_⟩) hS ?_
  ·
   intro w hSw; go_simp
  try simp only [List.getElem_toArray, List.getElem_cons_succ, List.getElem_cons_zero, Act.put, List.setIfInBounds_toArray, List.set_cons_zero, List.set_cons_succ]
  refine wpAnyH_take (i := 5) (v := vc5) rfl (by kernel_rfl) (by kernel_rfl) (by kernel_rfl) (fun _ _ _ h => h) (Or.inl ⟨by kernel_rfl, ?_⟩) hS ?_
  ·
   intro w hSw; go_simp
  try simp only [List.getElem_toArray, List.getElem_cons_succ, List.getElem_cons_zero, Act.put, List.setIfInBounds_toArray, List.set_cons_zero, List.set_cons_succ]
  refine wpAnyH_take (i := 6) (v := .int .i64 (-1)) rfl (by kernel_rfl) (by kernel_rfl) (by kernel_rfl) (fun _ _ _ h => h) (Or.inl ⟨by kernel_rfl, ?_⟩) hS ?_
  ·
   intro w hSw; go_simp
  try simp only [List.getElem_toArray, List.getElem_cons_succ, List.getElem_cons_zero, Act.put, List.setIfInBounds_toArray, List.set_cons_zero, List.set_cons_succ]
  refine wpAnyH_done (by kernel_rfl) ?_ _
  clear hS
  go_wp2
  go_ret3
  rw [uH e1, uH e2, uH e3]
  exact ⟨_, _, rfl, uH hT, uH hC, uH hB⟩
end Go.Proofs.YtiknnobgoamgcaaGreatDoor
/-
  The parser: Text.
-/
namespace Go.Proofs.YtiknnobgoamgcaaGreatDoor
open Go.RowKit Go.Lib Go.Sort
set_option linter.unusedSimpArgs false
set_option linter.unusedVariables false
/-- The words of a text, its remarks, its first fault. -/
abbrev scanA (s : ByteArray) : List Tk × List Cm × Int := scanR s (bigF s (flt s))
theorem ResT.pre {w w1 : World} {r : PR Nd} {e : Ending} {w' : World} (h : ResT w1 r e w') (hb : Below w.heap.size w w1) : ResT w r e w' := by
 cases r with
 | out => exact h
 | bad j => exact ⟨h.1, hb.trans (h.2.mono hb.size)⟩
 | ok n j =>
  obtain ⟨a, m, c, h1, h2, h3⟩ := h
  exact ⟨a, m, c, h1, h2.mono (fun x hx => Nat.le_trans hb.size hx.1), hb.trans (h3.mono hb.size)⟩
set_option maxHeartbeats 4000000 in
set_option maxRecDepth 100000 in
theorem paText_scan (s : ByteArray) (w : World) (hs : s.size ≤ 700000) (h : 0 ≤ (scanA s).2.2) : Calls Tryz.prog 16 #[.string s] w fun e w' => e = .returned (.tuple #[.agg #[.int .i64 0, .int .i64 0, .slice none 0 0], .slice none 0 0, .int .i64 (scanA s).2.2]) ∧ Below w.heap.size w w' := by
 have H1 := pScan_any s (w.alloc (.cells #[.int .i64 0, .int .i64 0, .slice none 0 0] 24 (0, 0))) hs
 unfold scanA at *
 generalize scanR s (bigF s (flt s)) = R at *
 have hN := nblk_new w 0 0 none 0 0
 have hA := below_alloc w (.cells #[.int .i64 0, .int .i64 0, .slice none 0 0] 24 (0, 0))
 have hsz : (w.alloc (.cells #[.int .i64 0, .int .i64 0, .slice none 0 0] 24 (0, 0))).heap.size = w.heap.size + 1 := by simp
 generalize hW : w.alloc (.cells #[.int .i64 0, .int .i64 0, .slice none 0 0] 24 (0, 0)) = W1 at *
 replace H1 := zH H1
 replace hN := zH hN
 replace hA := zH hA
 replace hsz := zH hsz
 go_enter Tryz.func16, Tryz.ntmps16
 go_wp2_with fail
 refine (uH H1).mono ?_
 rintro e W2 ⟨vl, vc, rfl, ht, hc, hb⟩
 have hb0 := hb.mono (show w.heap.size ≤ W1.heap.size by rw [uH hsz]; omega)
 have hN2 := (uH hN).same (hb.block _ (by rw [uH hsz]; omega))
 have hfin := zH ((((uH hA).trans hb0).setCell (p := ⟨w.heap.size, 0, none⟩) (Nat.le_refl _) (.int .i64 0)).setCell (p := ⟨w.heap.size, 1, none⟩) (Nat.le_refl _) (.int .i64 0) |>.setCell (p := ⟨w.heap.size, 2, none⟩) (Nat.le_refl _) (.slice none 0 0))
 have f0 := hN2.frozen 0
 have f1 := hN2.frozen 1
 have f2 := hN2.frozen 2
 obtain ⟨p0, p1, p2⟩ := hN2.box
 have hN3 := zH (hN2.set3 (k' := 0) (t' := 0) (a' := none) (n' := 0) (cap' := 0))
 clear hN H1 ht hc hb hN2 hsz hb0
 go_wp2
 obtain ⟨u0, u1, u2⟩ := (uH hN3).box
 refine bodyPost_ret (v := .tuple #[.agg #[.int .i64 0, .int .i64 0, .slice none 0 0], .slice none 0 0, .int .i64 R.2.2]) (by simp [results, Tryz.results16, go_sem, u0, u1, u2]) rfl ⟨rfl, uH hfin⟩
set_option maxHeartbeats 4000000 in
set_option maxRecDepth 100000 in
theorem paText_ok (s : ByteArray) (w : World) (hs : s.size ≤ 700000) (h : ¬ 0 ≤ (scanA s).2.2) (h0L : 0 < (scanA s).1.length) (hL : (scanA s).1.length ≤ 1000000) {f : Nat} (hf : f ≤ 900000) (n : Nd) (o : Nat) (hr : filA (scanA s).1 f = .ok n o) : Calls Tryz.prog 16 #[.string s] w fun e w' => ∃ (a : Option Addr) (m c : Nat) (v : Value), e = .returned (.tuple #[.agg #[.int .i64 n.k, .int .i64 n.t, .slice a m c], v, .int .i64 (-1)]) ∧ SlQ (fun x => w.heap.size ≤ x) w' a m c n.c ∧ Toks w' v (scanA s).1 ∧ Below w.heap.size w w' := by
 have H1 := pScan_any s (w.alloc (.cells #[.int .i64 0, .int .i64 0, .slice none 0 0] 24 (0, 0))) hs
 unfold scanA at *
 generalize scanR s (bigF s (flt s)) = R at *
 have hN := nblk_new w 0 0 none 0 0
 have hA := below_alloc w (.cells #[.int .i64 0, .int .i64 0, .slice none 0 0] 24 (0, 0))
 have hsz : (w.alloc (.cells #[.int .i64 0, .int .i64 0, .slice none 0 0] 24 (0, 0))).heap.size = w.heap.size + 1 := by simp
 generalize hW : w.alloc (.cells #[.int .i64 0, .int .i64 0, .slice none 0 0] 24 (0, 0)) = W1 at *
 replace H1 := zH H1
 replace hN := zH hN
 replace hA := zH hA
 replace hsz := zH hsz
 go_enter Tryz.func16, Tryz.ntmps16
 go_wp2_with fail
 refine (uH H1).mono ?_
 rintro e W2 ⟨vl, vc, rfl, ht, hc, hb⟩
 have hb0 := zH (hb.mono (show w.heap.size ≤ W1.heap.size by rw [uH hsz]; omega))
 have hTk := own_toks ht
 obtain ⟨at1, ct1, rfl, hct1, hct2, hTc⟩ := own_toks ht
 have hN2 := zH ((uH hN).same (hb.block _ (by rw [uH hsz]; omega)))
 have hT2 := zH (paTokens_any hTk h0L hL hf (by rw [hr]; exact fun h => by cases h))
 rw [hr] at hT2
 have hzz := hb.size
 rw [uH hsz] at hzz
 replace hTk := zH hTk
 replace hTc := zH hTc
 clear hN H1 ht hc hb
 go_wp2_with fail
 refine (uH hT2).mono ?_
 rintro e W3 ⟨a, m, c, rfl, hs3, hb3⟩
 have hbb := ((uH hA).trans (uH hb0)).trans (hb3.mono (show w.heap.size ≤ W2.heap.size by omega))
 have hN4 := ((uH hN2).same (hb3.block _ (by omega)))
 have hT4 := (uH hTk).below hb3
 have hz3 := hb3.size
 -- the box of the tree, and the result's
 have hbx := below_alloc W3 (.cells #[.int .i64 n.k, .int .i64 n.t, .slice a m c] 24 (0, 0))
 obtain ⟨q0, q1, q2⟩ := (nblk_new W3 n.k n.t a m c).box
 have hN5 := hN4.same (hbx.block _ (show w.heap.size < W3.heap.size by omega))
 have f0 := hN5.frozen 0
 have f1 := hN5.frozen 1
 have f2 := hN5.frozen 2
 obtain ⟨p0, p1, p2⟩ := hN5.box
 have hs5 := (hs3.below hbx).keep (w' := (((W3.alloc (.cells #[.int .i64 n.k, .int .i64 n.t, .slice a m c] 24 (0, 0))).setCell ⟨w.heap.size, 0, none⟩ (.int .i64 n.k)).setCell ⟨w.heap.size, 1, none⟩ (.int .i64 n.t)).setCell ⟨w.heap.size, 2, none⟩ (.slice a m c)) (fun x hx => by
  have hx1 := hx.1
  rw [Below.heap_setCell _ _ _ x (by show x ≠ w.heap.size; omega), Below.heap_setCell _ _ _ x (by show x ≠ w.heap.size; omega), Below.heap_setCell _ _ _ x (by show x ≠ w.heap.size; omega)])
 have hfin := (((hbb.alloc (by omega) (.cells #[.int .i64 n.k, .int .i64 n.t, .slice a m c] 24 (0, 0))).setCell (p := ⟨w.heap.size, 0, none⟩) (Nat.le_refl _) (.int .i64 n.k)).setCell (p := ⟨w.heap.size, 1, none⟩) (Nat.le_refl _) (.int .i64 n.t)).setCell (p := ⟨w.heap.size, 2, none⟩) (Nat.le_refl _) (.slice a m c)
 have hT5 := hT4.below hbx
 have hT6 : Toks ((((W3.alloc (.cells #[.int .i64 n.k, .int .i64 n.t, .slice a m c] 24 (0, 0))).setCell ⟨w.heap.size, 0, none⟩ (.int .i64 n.k)).setCell ⟨w.heap.size, 1, none⟩ (.int .i64 n.t)).setCell ⟨w.heap.size, 2, none⟩ (.slice a m c)) (.slice at1 R.1.length ct1) R.1 := by
  obtain ⟨a9, c9, e9, k1, k2, k3⟩ := hT5
  refine ⟨a9, c9, e9, k1, k2, fun h0 => ?_⟩
  obtain ⟨g9, rfl, hg9, hc9⟩ := k3 h0
  have hne : g9 ≠ w.heap.size := fun hE => by
   have := (hc9 0 _ (List.getElem?_eq_getElem h0)).2.1
   rw [hE] at this
   simp only [Nat.zero_mul, Nat.zero_add] at this
   rw [p1] at this
   cases this
  refine ⟨g9, rfl, by simpa using hg9, fun i t hi => ?_⟩
  have hh : ((((W3.alloc (.cells #[.int .i64 n.k, .int .i64 n.t, .slice a m c] 24 (0, 0))).setCell ⟨w.heap.size, 0, none⟩ (.int .i64 n.k)).setCell ⟨w.heap.size, 1, none⟩ (.int .i64 n.t)).setCell ⟨w.heap.size, 2, none⟩ (.slice a m c)).heap[g9]? = (W3.alloc (.cells #[.int .i64 n.k, .int .i64 n.t, .slice a m c] 24 (0, 0))).heap[g9]? := by
   rw [Below.heap_setCell _ _ _ g9 hne, Below.heap_setCell _ _ _ g9 hne, Below.heap_setCell _ _ _ g9 hne]
  obtain ⟨j0, j1, j2, j3, j4⟩ := hc9 i t hi
  exact ⟨(World.cell?_of_block (a := ⟨g9, i * 5, none⟩) hh).trans j0, (World.cell?_of_block (a := ⟨g9, i * 5 + 1, none⟩) hh).trans j1, (World.cell?_of_block (a := ⟨g9, i * 5 + 2, none⟩) hh).trans j2, (World.cell?_of_block (a := ⟨g9, i * 5 + 3, none⟩) hh).trans j3, (World.cell?_of_block (a := ⟨g9, i * 5 + 4, none⟩) hh).trans j4⟩
 have hN6 := zH (hN5.set3 (k' := n.k) (t' := n.t) (a' := a) (n' := m) (cap' := c))
 replace hfin := zH (And.intro hs5 (And.intro hT6 hfin))
 clear hN2 hN4 hN5 hT2 hT4 hT5 hT6 hs3 hs5 hb3 hbb hbx hTk hTc hb0
 go_wp2
 obtain ⟨u0, u1, u2⟩ := (uH hN6).box
 refine bodyPost_ret (v := .tuple #[.agg #[.int .i64 n.k, .int .i64 n.t, .slice a m c], .slice at1 R.1.length ct1, .int .i64 (-1)]) (by simp [results, Tryz.results16, go_sem, u0, u1, u2]) rfl ⟨a, m, c, _, rfl, (uH hfin).1.mono (fun x hx => by have := hx.1; omega), (uH hfin).2⟩
set_option maxHeartbeats 4000000 in
set_option maxRecDepth 100000 in
theorem paText_bad (s : ByteArray) (w : World) (hs : s.size ≤ 700000) (h : ¬ 0 ≤ (scanA s).2.2) (h0L : 0 < (scanA s).1.length) (hL : (scanA s).1.length ≤ 1000000) {f : Nat} (hf : f ≤ 900000) (j : Nat) (hj : j < (scanA s).1.length) (hr : filA (scanA s).1 f = .bad j) : Calls Tryz.prog 16 #[.string s] w fun e w' => e = .returned (.tuple #[.agg #[.int .i64 0, .int .i64 0, .slice none 0 0], .slice none 0 0, .int .i64 (tkA (scanA s).1 j).p]) ∧ Below w.heap.size w w' := by
 have H1 := pScan_any s (w.alloc (.cells #[.int .i64 0, .int .i64 0, .slice none 0 0] 24 (0, 0))) hs
 unfold scanA at *
 generalize scanR s (bigF s (flt s)) = R at *
 have hN := nblk_new w 0 0 none 0 0
 have hA := below_alloc w (.cells #[.int .i64 0, .int .i64 0, .slice none 0 0] 24 (0, 0))
 have hsz : (w.alloc (.cells #[.int .i64 0, .int .i64 0, .slice none 0 0] 24 (0, 0))).heap.size = w.heap.size + 1 := by simp
 generalize hW : w.alloc (.cells #[.int .i64 0, .int .i64 0, .slice none 0 0] 24 (0, 0)) = W1 at *
 replace H1 := zH H1
 replace hN := zH hN
 replace hA := zH hA
 replace hsz := zH hsz
 go_enter Tryz.func16, Tryz.ntmps16
 go_wp2_with fail
 refine (uH H1).mono ?_
 rintro e W2 ⟨vl, vc, rfl, ht, hc, hb⟩
 have hb0 := zH (hb.mono (show w.heap.size ≤ W1.heap.size by rw [uH hsz]; omega))
 have hTk := own_toks ht
 obtain ⟨at1, ct1, rfl, hct1, hct2, hTc⟩ := own_toks ht
 have hN2 := zH ((uH hN).same (hb.block _ (by rw [uH hsz]; omega)))
 have hT2 := zH (paTokens_any hTk h0L hL hf (by rw [hr]; exact fun h => by cases h))
 rw [hr] at hT2
 have hzz := hb.size
 rw [uH hsz] at hzz
 replace hTk := zH hTk
 replace hTc := zH hTc
 clear hN H1 ht hc hb
 go_wp2_with fail
 refine (uH hT2).mono ?_
 rintro e W3 ⟨rfl, hb3⟩
 have hbb := ((uH hA).trans (uH hb0)).trans (hb3.mono (show w.heap.size ≤ W2.heap.size by omega))
 have hN4 := ((uH hN2).same (hb3.block _ (by omega)))
 obtain ⟨g9, rfl, hg9, hc9⟩ := (uH hTc) (by omega)
 have hz3 := hb3.size
 have hbx := below_alloc W3 (.cells #[.int .i64 0, .int .i64 0, .slice none 0 0] 24 (0, 0))
 have hN5 := hN4.same (hbx.block _ (show w.heap.size < W3.heap.size by omega))
 obtain ⟨j0, j1, j2, j3, j4⟩ := ((tkA_at hc9 hj).below hg9 hb3).below (by omega) hbx
 obtain ⟨i0, i1, i2, i3, i4⟩ := ((tkA_at hc9 h0L).below hg9 hb3).below (by omega) hbx
 have f0 := hN5.frozen 0
 have f1 := hN5.frozen 1
 have f2 := hN5.frozen 2
 obtain ⟨p0, p1, p2⟩ := hN5.box
 have hne : g9 ≠ w.heap.size := fun hE => by
  rw [hE] at i1
  simp only [Nat.zero_mul, Nat.zero_add] at i1
  rw [p1] at i1
  cases i1
 have hh : ((((W3.alloc (.cells #[.int .i64 0, .int .i64 0, .slice none 0 0] 24 (0, 0))).setCell ⟨w.heap.size, 0, none⟩ (.int .i64 0)).setCell ⟨w.heap.size, 1, none⟩ (.int .i64 0)).setCell ⟨w.heap.size, 2, none⟩ (.slice none 0 0)).heap[g9]? = (W3.alloc (.cells #[.int .i64 0, .int .i64 0, .slice none 0 0] 24 (0, 0))).heap[g9]? := by
  rw [Below.heap_setCell _ _ _ g9 hne, Below.heap_setCell _ _ _ g9 hne, Below.heap_setCell _ _ _ g9 hne]
 have j2s := (World.cell?_of_block (a := ⟨g9, j * 5 + 2, none⟩) hh).trans j2
 have hfin := zH (((((hbb.alloc (by omega) (.cells #[.int .i64 0, .int .i64 0, .slice none 0 0] 24 (0, 0))).setCell (p := ⟨w.heap.size, 0, none⟩) (Nat.le_refl _) (.int .i64 0)).setCell (p := ⟨w.heap.size, 1, none⟩) (Nat.le_refl _) (.int .i64 0)).setCell (p := ⟨w.heap.size, 2, none⟩) (Nat.le_refl _) (.slice none 0 0)).drew)
 have hN6 := zH (hN5.set3 (k' := 0) (t' := 0) (a' := none) (n' := 0) (cap' := 0))
 have hj0 : (0 : Int) ≤ (j : Int) := by omega
 have hj1 : (j : Int) < (R.1.length : Int) := by omega
 clear hN2 hN4 hN5 hT2 hb3 hbb hbx hTk hTc hb0 hc9 j0 j1 j3 j4 i0 i1 i2 i3 i4 hh hne
 go_upto_region 6 with fail
 go_region
 go_wp2
 obtain ⟨u0, u1, u2⟩ := (uH hN6).box
 refine bodyPost_ret (v := .tuple #[.agg #[.int .i64 0, .int .i64 0, .slice none 0 0], .slice none 0 0, .int .i64 (tkA R.1 j).p]) (by simp [results, Tryz.results16, go_sem, u0, u1, u2]) rfl ⟨rfl, uH hfin⟩
end Go.Proofs.YtiknnobgoamgcaaGreatDoor
/-
  A byte, so many times; a text with one more behind it. No program.
-/
namespace Go.Proofs.YtiknnobgoamgcaaGreatDoor
/-- So many bytes c. -/
def reps (c : UInt8) (n : Nat) : ByteArray := ⟨(List.replicate n c).toArray⟩
theorem reps_size (c : UInt8) (n : Nat) : (reps c n).size = n := by
 show (List.replicate n c).toArray.size = n
 simp
theorem reps_zero (c : UInt8) (s : ByteArray) : s ++ reps c 0 = s := by
 apply ByteArray.ext
 rw [ByteArray.data_append]
 show s.data ++ (List.replicate 0 c).toArray = s.data
 simp
theorem reps_succ (c : UInt8) (n : Nat) (s : ByteArray) : s ++ reps c n ++ ⟨#[c]⟩ = s ++ reps c (n + 1) := by
 apply ByteArray.ext
 rw [ByteArray.data_append, ByteArray.data_append, ByteArray.data_append]
 show s.data ++ (List.replicate n c).toArray ++ #[c] = s.data ++ (List.replicate (n + 1) c).toArray
 rw [Array.append_assoc]
 congr 1
 apply Array.ext'
 simp [← List.replicate_succ']
/-- What the program answers at a text. -/
def scanS (s : ByteArray) : List Tk × List Cm × Int := scanR s (bigF s (flt s))
end Go.Proofs.YtiknnobgoamgcaaGreatDoor

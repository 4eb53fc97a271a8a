/-
  Scopes: Pop.
-/
import Derived.Test.YtlmfoieolomcfaaSpClear
import Derived.LoopTactic
import Derived.Deep.DeepCutAuto
import Derived.Deep.LoopGhost
namespace Go.Proofs.Ytlmfoieolomcfaa
open Go.RowKit Go.Maps Go.Lib Go.WideMaps
set_option linter.unusedSimpArgs false
set_option linter.unusedVariables false
theorem own_lt {w : World} {B : Nat} {e : TypeId} {sz : Nat} {v : Value} {n : Nat} {xs : List Value} (h : w.ownsRow B e sz v n xs) {k : Nat} (hk : v.ownBlock = some k) : k < w.heap.size := by
  obtain ⟨_, cur, e1⟩ := own_blk h hk
  exact (Array.getElem?_eq_some_iff.1 e1).1
set_option maxHeartbeats 2000000 in
set_option maxRecDepth 100000 in
theorem pop_only {w : World} {g : Nat} {S : Nat → Prop} {es : List En} {q : Nat} (h : ScQ w g S es [] q) (hq : q ≤ 900) :
    Calls Try.prog 11 #[.pointer (some ⟨g, 0, none⟩)] w fun e w' => e = .returned (.bool false) ∧ w' = w := by
  obtain ⟨ve, vb, mo, h⟩ := h
  have hd := hide (deep_any h (by omega))
  clear h
  simp only [List.length_nil] at hd
  go_enter Try.func11, Try.ntmps11
  go_wp2_with fail
  refine (unhide hd).mono ?_
  rintro e w1 ⟨rfl, rfl⟩
  go_wp2
  go_ret
  exact ⟨rfl, rfl⟩
set_option maxHeartbeats 2000000 in
set_option maxRecDepth 100000 in
theorem pop_bare {w : World} {g : Nat} {S : Nat → Prop} {es : List En} {bs : List Nat} {ae : Option Addr} {ce : Nat} {ab : Option Addr} {cb : Nat} {mo : Option Nat} {q : Nat} (h : ScW w g S es (bs ++ [es.length]) (.slice ae es.length ce) (.slice ab (bs.length + 1) cb) mo q) (hq : q ≤ 900) (hne : ¬ ce = es.length) :
    Calls Try.prog 11 #[.pointer (some ⟨g, 0, none⟩)] w fun e w' => e = .returned (.bool true) ∧ ResS w g S (es.take es.length) bs q w' := by
  have hd := hide (deep_any h (by omega))
  have hg := hide (begin_any h (by omega))
  rw [beg_snoc] at hg
  simp only [List.length_append, List.length_cons, List.length_nil, Nat.zero_add] at hd
  have hh := hide h
  have c0 := h.c0
  obtain ⟨hle, hbl⟩ : es.length ≤ es.length ∧ bs.length + 1 ≤ q := ⟨h.inv.le es.length (by simp), by have := h.few.2; simpa using this⟩
  have hcap : es.length ≤ ce ∧ ce ≤ maxLen := by
    obtain ⟨a, c, e, h1, h2⟩ := own_form h.ens
    injection e with e1 e2 e3
    subst e3
    exact ⟨h1, h2⟩
  have hcapb : bs.length + 1 ≤ cb ∧ cb ≤ maxLen := by
    obtain ⟨a, c, e, h1, h2⟩ := own_form h.bgs
    injection e with e1 e2 e3
    subst e3
    simp only [List.length_append, List.length_cons, List.length_nil, Nat.zero_add] at h1
    exact ⟨h1, h2⟩
  unfold maxLen at hcap hcapb
  have hlq := h.few.1
  have hnd : ¬ ((bs.length : Nat) : Int) + 1 + 1 ≤ 1 := by omega
  have hlz : ((es.length : Nat) : Int) ≤ es.length := by omega
  clear h
  go_enter Try.func11, Try.ntmps11
  go_wp2_with fail
  refine (unhide hd).mono ?_
  rintro e w1 ⟨rfl, rfl⟩
  go_wp2_with fail
  refine (unhide hg).mono ?_
  rintro e w2 ⟨rfl, n, rfl⟩
  have hS0 : Blk3 (w1.drewN n) g (.slice ae es.length ce) (.slice ab (bs.length + 1) cb) mo := (unhide hh).blk
  have hE0 : OwnEn (w1.drewN n) (g + 1) (.slice ae es.length ce) es := (unhide hh).ens
  have hG0 : OwnB (w1.drewN n) (g + 1) (.slice ab (bs.length + 1) cb) (bs ++ [es.length]) := by
    have h1 := (unhide hh).bgs
    exact h1
  have hK0 : Kp (fun x => mo = some x) w1 (w1.drewN n) := ⟨rfl, rfl, rfl, Nat.le_refl _, fun _ _ _ => rfl⟩
  have hM0 : MapOk (w1.drewN n) g mo es q := (unhide hh).map
  have hz0 : es.length - es.length = 0 := Nat.sub_self _
  have hc := fun W a c ty => clear_none W a c ty
  have c0' := hS0.c0
  have c1' := hS0.c1
  have f0' := hS0.fr 0
  have f1' := hS0.fr 1
  have hS7 : Blk3 ((w1.drewN n).setCell ⟨g, 0, none⟩ (.slice ae es.length ce)) g (.slice ae es.length ce) (.slice ab (bs.length + 1) cb) mo := hS0.set0 _
  have c1 := hS7.c1
  have f1 := hS7.fr 1
  have hS8 : Blk3 (((w1.drewN n).setCell ⟨g, 0, none⟩ (.slice ae es.length ce)).drew.setCell ⟨g, 1, none⟩ (.slice ab bs.length cb)) g (.slice ae es.length ce) (.slice ab bs.length cb) mo := hS7.set1 _
  have hE8 : OwnEn (((w1.drewN n).setCell ⟨g, 0, none⟩ (.slice ae es.length ce)).drew.setCell ⟨g, 1, none⟩ (.slice ab bs.length cb)) (g + 1) (.slice ae es.length ce) es := ownsRow_keep hE0 (fun k hk => by
    have := (own_blk hE0 hk).1
    exact (Below.heap_setCell _ _ _ k (fun e => by dsimp only at e; omega)).trans (Below.heap_setCell _ _ _ k (fun e => by dsimp only at e; omega)))
  have hG8 : OwnB (((w1.drewN n).setCell ⟨g, 0, none⟩ (.slice ae es.length ce)).drew.setCell ⟨g, 1, none⟩ (.slice ab bs.length cb)) (g + 1) (.slice ab bs.length cb) bs := ownB_drop (ownsRow_keep hG0 (fun k hk => by
    have := (own_blk hG0 hk).1
    exact (Below.heap_setCell _ _ _ k (fun e => by dsimp only at e; omega)).trans (Below.heap_setCell _ _ _ k (fun e => by dsimp only at e; omega))))
  have hK8 : Kp S w1 (((w1.drewN n).setCell ⟨g, 0, none⟩ (.slice ae es.length ce)).drew.setCell ⟨g, 1, none⟩ (.slice ab bs.length cb)) := ((((Kp.refl S w1).below (below_drewN (Below.refl _ _) n)).set (.inl (unhide hh).sg) _ _).drew).set (.inl (unhide hh).sg) _ _
  have hM8 : MapOk (((w1.drewN n).setCell ⟨g, 0, none⟩ (.slice ae es.length ce)).drew.setCell ⟨g, 1, none⟩ (.slice ab bs.length cb)) g mo es q := by
    have hgm := fun b => (unhide hh).gm (k := b)
    cases mo with
    | none => exact hM0
    | some b =>
      simp only [MapOk] at hM0 ⊢
      obtain ⟨h1, m, h2, h3⟩ := hM0
      exact ⟨h1, m, h2.kept ((Below.heap_setCell _ _ _ b (fun e => by dsimp only at e; omega)).trans (Below.heap_setCell _ _ _ b (fun e => by dsimp only at e; omega))), h3⟩
  replace hS8 := hide hS8
  replace hE8 := hide hE8
  replace hG8 := hide hG8
  replace hK8 := hide hK8
  replace hM8 := hide hM8
  clear hg hd hle hS0 hE0 hG0 hK0 hM0 hS7
  go_wp2
  go_rounds 1
  go_wp2
  go_region
  go_wp2
  go_ret
  have h := unhide hh
  obtain ⟨S', g1, g2⟩ := h.turn (unhide hK8).size (unhide hS8) (unhide hE8) (unhide hG8) (unhide hM8) (fun k hk => .inl (h.se k hk)) (fun k hk => .inl (h.sb k (by cases ab with | none => cases hk | some x => exact hk))) (fun k hk => .inl (h.sm k hk)) (by
    have := h.inv.pop
    rw [List.take_of_length_le (Nat.le_refl _)] at this
    exact this) ⟨h.few.1, by omega⟩ h.nm
  exact ⟨rfl, S', ⟨_, _, _, by rw [List.take_of_length_le (Nat.le_refl _)]; exact g1⟩, g2, unhide hK8⟩
set_option maxHeartbeats 2000000 in
set_option maxRecDepth 100000 in
theorem pop_full {w : World} {g : Nat} {S : Nat → Prop} {es : List En} {bs : List Nat} {ae : Option Addr} {ab : Option Addr} {cb : Nat} {mo : Option Nat} {q : Nat} (h : ScW w g S es (bs ++ [es.length]) (.slice ae es.length es.length) (.slice ab (bs.length + 1) cb) mo q) (hq : q ≤ 900)  :
    Calls Try.prog 11 #[.pointer (some ⟨g, 0, none⟩)] w fun e w' => e = .returned (.bool true) ∧ ResS w g S (es.take es.length) bs q w' := by
  have hd := hide (deep_any h (by omega))
  have hg := hide (begin_any h (by omega))
  rw [beg_snoc] at hg
  simp only [List.length_append, List.length_cons, List.length_nil, Nat.zero_add] at hd
  have hh := hide h
  have c0 := h.c0
  obtain ⟨hle, hbl⟩ : es.length ≤ es.length ∧ bs.length + 1 ≤ q := ⟨h.inv.le es.length (by simp), by have := h.few.2; simpa using this⟩
  have hcap : es.length ≤ es.length ∧ es.length ≤ maxLen := by
    obtain ⟨a, c, e, h1, h2⟩ := own_form h.ens
    injection e with e1 e2 e3
    subst e3
    exact ⟨h1, h2⟩
  have hcapb : bs.length + 1 ≤ cb ∧ cb ≤ maxLen := by
    obtain ⟨a, c, e, h1, h2⟩ := own_form h.bgs
    injection e with e1 e2 e3
    subst e3
    simp only [List.length_append, List.length_cons, List.length_nil, Nat.zero_add] at h1
    exact ⟨h1, h2⟩
  unfold maxLen at hcap hcapb
  have hlq := h.few.1
  have hnd : ¬ ((bs.length : Nat) : Int) + 1 + 1 ≤ 1 := by omega
  have hlz : ((es.length : Nat) : Int) ≤ es.length := by omega
  clear h
  go_enter Try.func11, Try.ntmps11
  go_wp2_with fail
  refine (unhide hd).mono ?_
  rintro e w1 ⟨rfl, rfl⟩
  go_wp2_with fail
  refine (unhide hg).mono ?_
  rintro e w2 ⟨rfl, n, rfl⟩
  have hS0 : Blk3 (w1.drewN n) g (.slice ae es.length es.length) (.slice ab (bs.length + 1) cb) mo := (unhide hh).blk
  have hE0 : OwnEn (w1.drewN n) (g + 1) (.slice ae es.length es.length) es := (unhide hh).ens
  have hG0 : OwnB (w1.drewN n) (g + 1) (.slice ab (bs.length + 1) cb) (bs ++ [es.length]) := by
    have h1 := (unhide hh).bgs
    exact h1
  have hK0 : Kp (fun x => mo = some x) w1 (w1.drewN n) := ⟨rfl, rfl, rfl, Nat.le_refl _, fun _ _ _ => rfl⟩
  have hM0 : MapOk (w1.drewN n) g mo es q := (unhide hh).map
  have hz0 : es.length - es.length = 0 := Nat.sub_self _
  have hc := fun W a c ty => clear_none W a c ty
  have c0' := hS0.c0
  have c1' := hS0.c1
  have f0' := hS0.fr 0
  have f1' := hS0.fr 1
  have hS7 : Blk3 ((w1.drewN n).setCell ⟨g, 0, none⟩ (.slice ae es.length es.length)) g (.slice ae es.length es.length) (.slice ab (bs.length + 1) cb) mo := hS0.set0 _
  have c1 := hS7.c1
  have f1 := hS7.fr 1
  have hS8 : Blk3 (((w1.drewN n).setCell ⟨g, 0, none⟩ (.slice ae es.length es.length)).drew.setCell ⟨g, 1, none⟩ (.slice ab bs.length cb)) g (.slice ae es.length es.length) (.slice ab bs.length cb) mo := hS7.set1 _
  have hE8 : OwnEn (((w1.drewN n).setCell ⟨g, 0, none⟩ (.slice ae es.length es.length)).drew.setCell ⟨g, 1, none⟩ (.slice ab bs.length cb)) (g + 1) (.slice ae es.length es.length) es := ownsRow_keep hE0 (fun k hk => by
    have := (own_blk hE0 hk).1
    exact (Below.heap_setCell _ _ _ k (fun e => by dsimp only at e; omega)).trans (Below.heap_setCell _ _ _ k (fun e => by dsimp only at e; omega)))
  have hG8 : OwnB (((w1.drewN n).setCell ⟨g, 0, none⟩ (.slice ae es.length es.length)).drew.setCell ⟨g, 1, none⟩ (.slice ab bs.length cb)) (g + 1) (.slice ab bs.length cb) bs := ownB_drop (ownsRow_keep hG0 (fun k hk => by
    have := (own_blk hG0 hk).1
    exact (Below.heap_setCell _ _ _ k (fun e => by dsimp only at e; omega)).trans (Below.heap_setCell _ _ _ k (fun e => by dsimp only at e; omega))))
  have hK8 : Kp S w1 (((w1.drewN n).setCell ⟨g, 0, none⟩ (.slice ae es.length es.length)).drew.setCell ⟨g, 1, none⟩ (.slice ab bs.length cb)) := ((((Kp.refl S w1).below (below_drewN (Below.refl _ _) n)).set (.inl (unhide hh).sg) _ _).drew).set (.inl (unhide hh).sg) _ _
  have hM8 : MapOk (((w1.drewN n).setCell ⟨g, 0, none⟩ (.slice ae es.length es.length)).drew.setCell ⟨g, 1, none⟩ (.slice ab bs.length cb)) g mo es q := by
    have hgm := fun b => (unhide hh).gm (k := b)
    cases mo with
    | none => exact hM0
    | some b =>
      simp only [MapOk] at hM0 ⊢
      obtain ⟨h1, m, h2, h3⟩ := hM0
      exact ⟨h1, m, h2.kept ((Below.heap_setCell _ _ _ b (fun e => by dsimp only at e; omega)).trans (Below.heap_setCell _ _ _ b (fun e => by dsimp only at e; omega))), h3⟩
  replace hS8 := hide hS8
  replace hE8 := hide hE8
  replace hG8 := hide hG8
  replace hK8 := hide hK8
  replace hM8 := hide hM8
  clear hg hd hle hS0 hE0 hG0 hK0 hM0 hS7
  go_wp2
  go_rounds 1
  go_wp2
  go_region
  go_wp2
  go_ret
  have h := unhide hh
  obtain ⟨S', g1, g2⟩ := h.turn (unhide hK8).size (unhide hS8) (unhide hE8) (unhide hG8) (unhide hM8) (fun k hk => .inl (h.se k hk)) (fun k hk => .inl (h.sb k (by cases ab with | none => cases hk | some x => exact hk))) (fun k hk => .inl (h.sm k hk)) (by
    have := h.inv.pop
    rw [List.take_of_length_le (Nat.le_refl _)] at this
    exact this) ⟨h.few.1, by omega⟩ h.nm
  exact ⟨rfl, S', ⟨_, _, _, by rw [List.take_of_length_le (Nat.le_refl _)]; exact g1⟩, g2, unhide hK8⟩
set_option maxHeartbeats 2000000 in
set_option maxRecDepth 100000 in
theorem pop_down {w : World} {g : Nat} {S : Nat → Prop} {es : List En} {bs : List Nat} {b0 : Nat} {z : Nat} {ce : Nat} {ab : Option Addr} {cb : Nat} {mo : Option Nat} {q : Nat} (h : ScW w g S es (bs ++ [b0]) (.slice (some ⟨z, 0, none⟩) es.length ce) (.slice ab (bs.length + 1) cb) mo q) (hq : q ≤ 900) (hlt : b0 < es.length) :
    Calls Try.prog 11 #[.pointer (some ⟨g, 0, none⟩)] w fun e w' => e = .returned (.bool true) ∧ ResS w g S (es.take b0) bs q w' := by
  have hd := hide (deep_any h (by omega))
  have hg := hide (begin_any h (by omega))
  rw [beg_snoc] at hg
  simp only [List.length_append, List.length_cons, List.length_nil, Nat.zero_add] at hd
  have hh := hide h
  have c0 := h.c0
  obtain ⟨hle, hbl⟩ : b0 ≤ es.length ∧ bs.length + 1 ≤ q := ⟨h.inv.le b0 (by simp), by have := h.few.2; simpa using this⟩
  have hcap : es.length ≤ ce ∧ ce ≤ maxLen := by
    obtain ⟨a, c, e, h1, h2⟩ := own_form h.ens
    injection e with e1 e2 e3
    subst e3
    exact ⟨h1, h2⟩
  have hcapb : bs.length + 1 ≤ cb ∧ cb ≤ maxLen := by
    obtain ⟨a, c, e, h1, h2⟩ := own_form h.bgs
    injection e with e1 e2 e3
    subst e3
    simp only [List.length_append, List.length_cons, List.length_nil, Nat.zero_add] at h1
    exact ⟨h1, h2⟩
  unfold maxLen at hcap hcapb
  have hlq := h.few.1
  have hnd : ¬ ((bs.length : Nat) : Int) + 1 + 1 ≤ 1 := by omega
  have hlz : ((b0 : Nat) : Int) ≤ es.length := by omega
  clear h
  go_enter Try.func11, Try.ntmps11
  go_wp2_with fail
  refine (unhide hd).mono ?_
  rintro e w1 ⟨rfl, rfl⟩
  go_wp2_with fail
  refine (unhide hg).mono ?_
  rintro e w2 ⟨rfl, n, rfl⟩
  have hS0 : Blk3 (w1.drewN n) g (.slice (some ⟨z, 0, none⟩) es.length ce) (.slice ab (bs.length + 1) cb) mo := (unhide hh).blk
  have hE0 : OwnEn (w1.drewN n) (g + 1) (.slice (some ⟨z, 0, none⟩) es.length ce) es := (unhide hh).ens
  have hG0 : OwnB (w1.drewN n) (g + 1) (.slice ab (bs.length + 1) cb) (bs ++ [b0]) := by
    have h1 := (unhide hh).bgs
    exact h1
  have hK0 : Kp (fun x => mo = some x) w1 (w1.drewN n) := ⟨rfl, rfl, rfl, Nat.le_refl _, fun _ _ _ => rfl⟩
  have hM0 : MapOk (w1.drewN n) g mo es q := (unhide hh).map
  have hne : ¬ ce = b0 := by omega
  have hgm := fun b => (unhide hh).gm (k := b)
  have hem := fun b => (unhide hh).em (k := b)
  have hbm := fun b => (unhide hh).bm (k := b)
  have hinv := (unhide hh).inv
  have hnm := (unhide hh).nm
  have hmo : ∃ b, mo = some b := by
    cases mo with
    | none =>
      have h1 : es = [] := hM0
      rw [h1] at hlt
      simp at hlt
    | some b => exact ⟨b, rfl⟩
  obtain ⟨b, rfl⟩ := hmo
  simp only [MapOk] at hM0
  obtain ⟨hgb, m, hM0, hmq⟩ := hM0
  have hM1 : MapF (w1.drewN n) b m (mid es b0 0) := hM0.ext (fun s => mid_zero es b0 s)
  have hzb : z ≠ b := fun e => hem b (by rw [e]; rfl) rfl
  have hzg : g < z := (own_blk hE0 (k := z) rfl).1
  clear hM0
  have c0' := hS0.c0
  replace hgm := hide hgm
  replace hem := hide hem
  replace hbm := hide hbm
  replace hinv := hide hinv
  replace hnm := hide hnm
  replace hS0 := hide hS0
  replace hE0 := hide hE0
  replace hG0 := hide hG0
  replace hK0 := hide hK0
  replace hM1 := hide hM1
  clear hg hd
  generalize w1.drewN n = W0 at *
  go_wp2
  go_loopg [18] (es.length - b0) (fun gf s18 wx => ∃ j : Nat, s18 = .int .i64 j ∧ j + gf = es.length - b0 ∧ Blk3 wx g (.slice (some ⟨z, 0, none⟩) es.length ce) (.slice ab (bs.length + 1) cb) (some b) ∧ OwnEn wx (g + 1) (.slice (some ⟨z, 0, none⟩) es.length ce) es ∧ OwnB wx (g + 1) (.slice ab (bs.length + 1) cb) (bs ++ [b0]) ∧ MapF wx b (m + j) (mid es b0 j) ∧ Kp (fun x => some b = some x) w1 wx)
  case atStart => exact ⟨0, rfl, by omega, unhide hS0, unhide hE0, unhide hG0, unhide hM1, unhide hK0⟩
  case round =>
    obtain ⟨j, rfl, hj, hS, hE, hG, hM, hK⟩ := hrel
    by_cases hlj : j < es.length - b0
    · obtain ⟨gf', rfl⟩ : ∃ g', gk = g' + 1 := ⟨gk - 1, by omega⟩
      obtain ⟨z', c', e', k1, k2, k3, k4, x0, x1, x2, x3, x4⟩ := En.at hE (b0 + j) (by omega)
      injection e' with e1 e2 e3
      injection e1 with e1
      injection e1 with e1
      subst e1 e3
      rw [show (b0 + j) * 5 = b0 * 5 + j * 5 by omega] at x0 x1 x2 x3 x4
      have hjz : (j : Int) < ((es.length - b0 : Nat) : Int) := by omega
      have hnj := unhide hnm es[b0 + j] (List.getElem_mem _)
      have hoj := plc_lt es[b0 + j].n (es.take (b0 + j))
      rw [← (unhide hinv).out (b0 + j) (by omega)] at hoj
      simp only [List.length_take] at hoj
      have hstep := fun s => mid_step (unhide hinv) j (by rw [beg_snoc]; omega) s
      simp only [beg_snoc] at hstep
      generalize es[b0 + j] = E at *
      have hV : Below wr.heap.size wr (wr.alloc (.cells #[.string E.n, .int .i64 E.f, .int .i64 E.t, .int .i64 E.k, .int .i64 E.o] 50 (0, 0))) := below_alloc wr _
      have hVE : EBlk (wr.alloc (.cells #[.string E.n, .int .i64 E.f, .int .i64 E.t, .int .i64 E.k, .int .i64 E.o] 50 (0, 0))) wr.heap.size E := heap_alloc_new wr _
      obtain ⟨y0, y1, y2, y3, y4⟩ := hVE.cells
      have hSV : Blk3 (wr.alloc (.cells #[.string E.n, .int .i64 E.f, .int .i64 E.t, .int .i64 E.k, .int .i64 E.o] 50 (0, 0))) g (.slice (some ⟨z, 0, none⟩) es.length ce) (.slice ab (bs.length + 1) cb) (some b) := by
        unfold Blk3 at hS ⊢
        rw [hV.block g (Array.getElem?_eq_some_iff.1 hS).1]
        exact hS
      have hMV : MapF (wr.alloc (.cells #[.string E.n, .int .i64 E.f, .int .i64 E.t, .int .i64 E.k, .int .i64 E.o] 50 (0, 0))) b (m + j) (mid es b0 j) := hM.kept (hV.block b hM.lt)
      have hEV : OwnEn (wr.alloc (.cells #[.string E.n, .int .i64 E.f, .int .i64 E.t, .int .i64 E.k, .int .i64 E.o] 50 (0, 0))) (g + 1) (.slice (some ⟨z, 0, none⟩) es.length ce) es := ownsRow_keep hE (fun k hk => hV.block k (own_lt hE hk))
      have hGV : OwnB (wr.alloc (.cells #[.string E.n, .int .i64 E.f, .int .i64 E.t, .int .i64 E.k, .int .i64 E.o] 50 (0, 0))) (g + 1) (.slice ab (bs.length + 1) cb) (bs ++ [b0]) := ownsRow_keep hG (fun k hk => hV.block k (own_lt hG hk))
      have hKV : Kp (fun x => some b = some x) w1 (wr.alloc (.cells #[.string E.n, .int .i64 E.f, .int .i64 E.t, .int .i64 E.k, .int .i64 E.o] 50 (0, 0))) := hK.below hV
      have hU := hide (uncover_any hSV hMV E hnj (by omega) (by omega) (by omega))
      generalize hq_V : (wr.alloc (.cells #[.string E.n, .int .i64 E.f, .int .i64 E.t, .int .i64 E.k, .int .i64 E.o] 50 (0, 0))) = V at *
      have hgb' := hgb
      replace hSV := hide hSV
      replace hEV := hide hEV
      replace hGV := hide hGV
      replace hKV := hide hKV
      replace hstep := hide hstep
      have hbz : b ≠ z := fun e => hzb e.symm
      have hbb : ∀ k, (Value.slice ab (bs.length + 1) cb).ownBlock = some k → k ≠ b := fun k h1 e => unhide hbm b (by rw [h1, e]) rfl
      have hltE := fun k hk => own_lt (unhide hEV) (k := k) hk
      have hltG := fun k hk => own_lt (unhide hGV) (k := k) hk
      have hltg := Blk3.lt (unhide hSV)
      replace hbb := hide hbb
      clear hS hE hG hM hK hV hVE hMV
      go_wp2_with fail
      clear hq_V
      refine (unhide hU).mono ?_
      rintro e w3 ⟨rfl, hM3, hk3⟩
      have hX := hide (And.intro (show Blk3 w3 g (.slice (some ⟨z, 0, none⟩) es.length ce) (.slice ab (bs.length + 1) cb) (some b) by (
          have h1 := unhide hSV
          unfold Blk3 at h1 ⊢
          rw [hk3.block g hltg (by omega)]
          exact h1)) (And.intro (show OwnEn w3 (g + 1) (.slice (some ⟨z, 0, none⟩) es.length ce) es from ownsRow_keep (unhide hEV) (fun k hk => hk3.block k (hltE k hk) (fun e => by
            have e1 : z = k := by simpa [Value.ownBlock] using hk
            omega))) (And.intro (show OwnB w3 (g + 1) (.slice ab (bs.length + 1) cb) (bs ++ [b0]) from ownsRow_keep (unhide hGV) (fun k hk => hk3.block k (hltG k hk) (unhide hbb k hk))) (And.intro (hM3.ext (fun s => unhide hstep s)) ((unhide hKV).trans (fun x hx => .inl (by rw [hx])) hk3)))))
      clear hU hSV hEV hGV hKV hstep hM3 hk3 hbb hltE hltG
      go_wp2
      go_roundg gf'
      case measure => omega
      case rel => exact ⟨j + 1, by push_cast; rfl, by omega, (unhide hX).1, (unhide hX).2.1, (unhide hX).2.2.1, (unhide hX).2.2.2.1, (unhide hX).2.2.2.2⟩
    · have hjz : ¬ (j : Int) < ((es.length - b0 : Nat) : Int) := by omega
      have hje : j = es.length - b0 := by omega
      have hM' : MapF wr b (m + j) (fun s => plc s (es.take b0)) := hM.ext (fun s => by rw [hje]; exact (mid_end hle s).symm)
      obtain ⟨W6, hclr, hE6, hg6⟩ := ownEn_clear hE b0 hlt 0 (ce - b0)
      have h := unhide hh
      have hS6 : Blk3 W6 g (.slice (some ⟨z, 0, none⟩) es.length ce) (.slice ab (bs.length + 1) cb) (some b) := hS.grown hg6 (fun e => by injection e with e; omega)
      have hG6 : OwnB W6 (g + 1) (.slice ab (bs.length + 1) cb) (bs ++ [b0]) := ownsRow_keep hG (fun k hk => hg6.block k (own_lt hG hk) (fun e => by
        injection e with e
        exact h.eb (k := k) (by rw [e]; rfl) hk))
      have hM6 : MapF W6 b (m + j) (fun s => plc s (es.take b0)) := hM'.kept (hg6.block b hM'.lt (fun e => by injection e with e; omega))
      have hK6 : Kp S w1 W6 := (hK.mono (fun x hx => by injection hx with hx; subst hx; exact h.sm _ rfl)).grown hg6 (fun k hk => by injection hk with hk; subst hk; exact .inl (h.se _ rfl))
      have c0 := hS6.c0
      have c1' := hS6.c1
      have f0 := hS6.fr 0
      have f1' := hS6.fr 1
      have hS7 : Blk3 (W6.setCell ⟨g, 0, none⟩ (.slice (some ⟨z, 0, none⟩) b0 ce)) g (.slice (some ⟨z, 0, none⟩) b0 ce) (.slice ab (bs.length + 1) cb) (some b) := hS6.set0 _
      have c1 := hS7.c1
      have f1 := hS7.fr 1
      have hS8 : Blk3 ((W6.setCell ⟨g, 0, none⟩ (.slice (some ⟨z, 0, none⟩) b0 ce)).drew.setCell ⟨g, 1, none⟩ (.slice ab bs.length cb)) g (.slice (some ⟨z, 0, none⟩) b0 ce) (.slice ab bs.length cb) (some b) := hS7.set1 _
      have hE8 : OwnEn ((W6.setCell ⟨g, 0, none⟩ (.slice (some ⟨z, 0, none⟩) b0 ce)).drew.setCell ⟨g, 1, none⟩ (.slice ab bs.length cb)) (g + 1) (.slice (some ⟨z, 0, none⟩) b0 ce) (es.take b0) := ownsRow_keep hE6 (fun k hk => by
        have := (own_blk hE6 hk).1
        exact (Below.heap_setCell _ _ _ k (fun e => by dsimp only at e; omega)).trans (Below.heap_setCell _ _ _ k (fun e => by dsimp only at e; omega)))
      have hG8 : OwnB ((W6.setCell ⟨g, 0, none⟩ (.slice (some ⟨z, 0, none⟩) b0 ce)).drew.setCell ⟨g, 1, none⟩ (.slice ab bs.length cb)) (g + 1) (.slice ab bs.length cb) bs := ownB_drop (ownsRow_keep hG6 (fun k hk => by
        have := (own_blk hG6 hk).1
        exact (Below.heap_setCell _ _ _ k (fun e => by dsimp only at e; omega)).trans (Below.heap_setCell _ _ _ k (fun e => by dsimp only at e; omega))))
      have hK8 : Kp S w1 ((W6.setCell ⟨g, 0, none⟩ (.slice (some ⟨z, 0, none⟩) b0 ce)).drew.setCell ⟨g, 1, none⟩ (.slice ab bs.length cb)) := ((hK6.set (.inl h.sg) _ _).drew).set (.inl h.sg) _ _
      have hM8 : MapOk ((W6.setCell ⟨g, 0, none⟩ (.slice (some ⟨z, 0, none⟩) b0 ce)).drew.setCell ⟨g, 1, none⟩ (.slice ab bs.length cb)) g (some b) (es.take b0) q := by
        simp only [MapOk]
        exact ⟨hgb, m + j, hM6.kept ((Below.heap_setCell _ _ _ b (fun e => by dsimp only at e; omega)).trans (Below.heap_setCell _ _ _ b (fun e => by dsimp only at e; omega))), by simp; omega⟩
      replace hS8 := hide hS8
      replace hE8 := hide hE8
      replace hG8 := hide hG8
      replace hK8 := hide hK8
      replace hM8 := hide hM8
      have cw := hS.c0
      clear hS hE hG hM hM' hK hE6 hg6 hS6 hG6 hM6 hK6 hS7 h
      go_wp2
      go_region
      go_wp2
      go_ret
      have h := unhide hh
      obtain ⟨S', g1, g2⟩ := h.turn (unhide hK8).size (unhide hS8) (unhide hE8) (unhide hG8) (unhide hM8) (fun k hk => .inl (h.se k (by simpa [Value.ownBlock] using hk))) (fun k hk => .inl (h.sb k (by cases ab with | none => cases hk | some x => exact hk))) (fun k hk => .inl (h.sm k hk)) h.inv.pop ⟨by simp; omega, by omega⟩ (fun e he => h.nm e (List.mem_of_mem_take he))
      exact ⟨rfl, S', ⟨_, _, _, g1⟩, g2, unhide hK8⟩
end Go.Proofs.Ytlmfoieolomcfaa

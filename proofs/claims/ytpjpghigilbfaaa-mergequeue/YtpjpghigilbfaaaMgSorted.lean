/-
  The law's own sorted.
-/
import Derived.Test.YtpjpghigilbfaaaEdPut
import Derived.Test.YtpjpghigilbfaaaMgLess
import Derived.Test.YtpjpghigilbfaaaWrap
import Derived.Test.YtpjpghigilbfaaaOrdN
import Derived.Deep.LoopGhost
import Derived.Deep.DeepCutAuto
import Derived.BigQuiet
import Derived.BigRegion
import Derived.WalkSmall
import Derived.Shelf.SlSortCmp.QuietGrown
import Derived.Lib.SlBuf
namespace Go.Proofs.Ytpjpghigilbfaaa
open Go.RowKit Go.Lib Go.Sort
set_option linter.unusedSimpArgs false
set_option linter.unusedVariables false
theorem grow_below {B : Nat} {w W : World} (h : Below B w W) (hB : B ≤ W.heap.size) (n : Nat) (os : Array Obj) : Below B w (grow (W.drewN n) os) :=
  h.trans ⟨rfl, rfl, rfl, by simp, fun k hk => by rw [heap_grow_old _ _ (by exact Nat.lt_of_lt_of_le hk hB)]; rfl⟩
theorem eds_one (W : World) (e : Ed) (fr : Nat × Nat) : Eds (W.alloc (.cells #[.int .i64 e.p, .int .i64 e.n, .string e.s] 29 fr)) (.slice (some ⟨W.heap.size, 0, none⟩) 1 1) [e] :=
  ⟨_, 1, rfl, Nat.le_refl _, by unfold maxLen; omega, fun _ => ⟨W.heap.size, 0, rfl, by simp, fun i hi => by
    obtain rfl : i = 0 := by simp at hi; omega
    exact ⟨new_ed W e fr 0 _ rfl, new_ed W e fr 1 _ rfl, new_ed W e fr 2 _ rfl⟩⟩⟩
theorem copy_at {W : World} {g cap i : Nat} {S : List Ed} {e : Ed} (h : RowE W g cap (S ++ [e])) (hl : S.length = i) (k : Nat) (hk : k ≤ i) (A : Option Addr) (hA : k < i → A = some ⟨g, (k + 1) * 3, none⟩) (c1 c2 q : Nat) :
    ∃ w', (∀ ty, (Builtin.copy_ #[22, 22] ty #[.slice A (i - k) c1, .slice (some ⟨g, k * 3, none⟩) (i + 1 - k) c2]).run Try.prog (W.drewN q) = .ok (goInt ((i - k : Nat) : Int)) w') ∧ RowE w' g cap ((S ++ [e]).take (k + 1) ++ S.drop k) ∧ (W.drewN q).grownBy w' (some g) := by
  subst hl
  rcases Nat.lt_or_ge k S.length with h1 | h1
  · rw [hA h1]
    obtain ⟨w', h2, h3, h4⟩ := RowE.copy (w := W.drewN q) h 0 k c1 c2 h1
    exact ⟨w', fun ty => h2, h3, h4⟩
  · obtain rfl : k = S.length := by omega
    refine ⟨W.drewN q, fun ty => ?_, ?_, grown_refl _ _⟩
    · rw [Nat.sub_self]; exact copy_none _ _ _ _ _ _ _
    · rw [List.drop_eq_nil_of_le (Nat.le_refl _), List.append_nil, List.take_of_length_le (by simp)]
      exact h
theorem set_at (S : List Ed) (e d : Ed) (k : Nat) (hk : k ≤ S.length) : ((S ++ [d]).take (k + 1) ++ S.drop k).set k e = S.take k ++ e :: S.drop k := by
  have h1 : (S ++ [d]).take (k + 1) = S.take k ++ [(S ++ [d]).getD k ed0] := by
    rw [List.take_succ_eq_append_getElem (by simp; omega), List.take_append_of_le_length hk]
    simp [List.getD, show k < S.length + 1 by omega]
  rw [h1, List.append_assoc, List.set_append_right _ _ (by simp; omega)]
  congr 1
  rw [List.length_take, Nat.min_eq_left hk, Nat.sub_self]
  rfl
theorem own_grown {W : World} {base : Nat} {v : Value} {L : List Ed} (h : OwnE W base v L) (n : Nat) (os : Array Obj) : OwnE (grow (W.drewN n) os) base v L := by
  rcases h.forms with ⟨rfl, rfl⟩ | ⟨g, cap, rfl, hg, hr⟩
  · exact ownE_nil _ _
  · exact (hr.grown n os).own hg
theorem srt_snoc {L : List Ed} {k : Nat} {A : List Ed} (h : A.Perm (L.take k ++ [L.getD k ed0])) (hk : k < L.length) (hs : Srt A) : srt (L.take (k + 1)) = A := by
  refine srt_of ?_ hs
  rw [List.take_succ_eq_append_getElem hk]
  simpa [List.getD, hk] using h
set_option maxHeartbeats 2000000 in
set_option maxRecDepth 100000 in
theorem sorted_any (u : Value) (L : List Ed) (w : World) (h : Eds w u L) (hl : L.length ≤ 1000) :
    Calls Try.prog 10 #[u] w fun e w' => ∃ v, e = .returned v ∧ OwnE w' w.heap.size v (srt L) ∧ Below w.heap.size w w' := by
  obtain ⟨a, c, rfl, h1, h2, h3⟩ := h
  unfold maxLen at h2
  obtain ⟨n, hn⟩ : ∃ n, L.length = n := ⟨_, rfl⟩
  have hend : Hid (srt (L.take n) = srt L) := hide (by rw [← hn, List.take_length])
  rw [hn] at hl h1 h3 ⊢
  replace h3 := hide h3
  go_enter Try.func10, Try.ntmps10
  go_wp2
  have mixed : Try.prog.follows .mixedOrders = true := by kernel_rfl
  go_loopg [3, 4, 5] n (fun gf s3 s4 s5 wx => ∃ (i c3 : Nat) (a3 : Option Addr), s3 = .slice a3 i c3 ∧ s4 = .int .i64 i ∧ i + gf = n ∧ OwnE wx w.heap.size (.slice a3 i c3) (srt (L.take i)) ∧ Below w.heap.size w wx)
  case atStart => exact ⟨0, 0, none, rfl, rfl, by omega, ownE_nil _ _, Below.refl _ _⟩
  case round =>
    obtain ⟨i, c3, a3, rfl, rfl, hi, hown, hbw⟩ := hrel
    by_cases hlt : i < n
    · have hlz : (i : Int) < n := by omega
      obtain ⟨g', rfl⟩ : ∃ g', gk = g' + 1 := ⟨gk - 1, by omega⟩
      obtain ⟨g, off, rfl, hg, hc⟩ := unhide h3 (by omega)
      have hE := hide (fun W (hW : Below w.heap.size w W) => (hc i hlt).below hg hW)
      have hsn := hide (fun (A : List Ed) (h : A.Perm (L.take i ++ [L.getD i ed0])) => srt_snoc h (by omega))
      have hper := hide (srt_perm (L.take i))
      have hsr := hide (srt_srt (L.take i))
      have hSl : (srt (L.take i)).length = i := by rw [srt_len, List.length_take]; omega
      generalize L.getD i ed0 = E at *
      generalize srt (L.take i) = S at *
      clear hc
      replace hown := hide hown
      replace hbw := hide hbw
      replace hSl := hide hSl
      go_wp2
      go_loopg [5] i (fun gf s5 wx => ∃ at' : Nat, s5 = .int .i64 at' ∧ at' ≤ i ∧ at' ≤ gf ∧ OwnE wx w.heap.size (.slice a3 i c3) S ∧ Below w.heap.size w wx ∧ ∀ x ∈ S.drop at', ltE E x = true)
      case atStart => exact ⟨i, rfl, Nat.le_refl _, by omega, unhide hown, unhide hbw, by rw [List.drop_eq_nil_of_le (by rw [unhide hSl]; exact Nat.le_refl _)]; simp⟩
      case round =>
        obtain ⟨at', rfl, ha1, ha2, ho, hb, hgt⟩ := hrel
        have hwl := hb.size
        obtain ⟨x0, x1, x2⟩ := unhide hE wr hb
        have hgw : g < wr.heap.size := Nat.lt_of_lt_of_le hg hwl
        have X0 := fun n os => cell_grown (show g < _ from hgw) x0 n os
        have X1 := fun n os => cell_grown (show g < _ from hgw) x1 n os
        have X2 := fun n os => cell_grown (show g < _ from hgw) x2 n os
        clear x0 x1 x2
        by_cases hat : 0 < at'
        · have hatz : (0 : Int) < at' := by omega
          have hwp : IntKind.i64.wrap ((at' : Int) - 1) = ((at' - 1 : Nat) : Int) := by rw [wrapI _ (by omega) (by omega)]; omega
          have hix : ((at' - 1 : Nat) : Int) < i := by omega
          have hs0 : 0 < S.length := by rw [unhide hSl]; omega
          obtain ⟨y, hy⟩ : ∃ y, S.getD (at' - 1) ed0 = y := ⟨_, rfl⟩
          obtain ⟨gg, rfl, hggb, hrow⟩ : ∃ gg, a3 = some ⟨gg, 0, none⟩ ∧ w.heap.size ≤ gg ∧ RowE wr gg c3 S := by
            rcases ho.forms with ⟨_, h0⟩ | ⟨gg, cap, h1, h2, h3⟩
            · rw [h0] at hs0; simp at hs0
            · injection h1 with h1 h4 h5; subst h5; exact ⟨gg, h1, h2, h3⟩
          obtain ⟨y0, y1, y2⟩ := hrow.at (at' - 1) (by rw [unhide hSl]; omega)
          rw [hy] at y0 y1 y2
          have Y0 := fun n os => cell_grown (show gg < _ from hrow.lt) y0 n os
          have Y1 := fun n os => cell_grown (show gg < _ from hrow.lt) y1 n os
          have Y2 := fun n os => cell_grown (show gg < _ from hrow.lt) y2 n os
          have hroom := hrow.room
          rw [unhide hSl] at hroom
          unfold maxLen at hroom
          have ho' := hide (fun n os => (hrow.grown n os).own hggb)
          rw [unhide hSl] at ho'
          have hb' := hide (fun n os => grow_below hb hwl n os)
          have hle := hide (fun W => less_any E y W)
          have hnext : Hid (ltE E y = true → ∀ x ∈ S.drop (at' - 1), ltE E x = true) := hide (fun h x hx => by
            rw [List.drop_eq_getElem_cons (by rw [unhide hSl]; omega), show at' - 1 + 1 = at' by omega] at hx
            rcases List.mem_cons.1 hx with rfl | hx
            · rw [show S[at' - 1]'(by rw [unhide hSl]; omega) = y by rw [← hy]; simp [List.getD, show at' - 1 < S.length by rw [unhide hSl]; omega]]; exact h
            · exact hgt x hx)
          clear y0 y1 y2 hrow ho hs0
          replace hb := hide hb
          replace hgt := hide hgt
          replace hy := hide hy
          cases hq : ltE E y with
          | true =>
            have hnx := hide (unhide hnext hq)
            rw [hq] at hle
            replace hq := hide hq
            obtain ⟨ep, en, es⟩ := E
            obtain ⟨yp, yn, ys⟩ := y
            dsimp only at *
            obtain ⟨g2, rfl⟩ : ∃ g2, gk = g2 + 1 := ⟨gk - 1, by omega⟩
            go_wp2
            go_quiet_grown (first | (go_at_call 19; exact Calls.grown_of (unhide hle _)))
            go_wp2
            go_roundg g2
            case measure => omega
            case rel => exact ⟨at' - 1, by go_num, by omega, by omega, unhide ho' _ _, unhide hb' _ _, unhide hnx⟩
          | false =>
            rw [hq] at hle
            replace hq := hide hq
            obtain ⟨ep, en, es⟩ := E
            obtain ⟨yp, yn, ys⟩ := y
            dsimp only at *
            go_wp2
            go_quiet_grown (first | (go_at_call 19; exact Calls.grown_of (unhide hle _)))
            have hbX := unhide hb' nq osq
            have hoX := unhide ho' nq osq
            have hfin : Hid (∀ x, S[at' - 1]? = some x → 0 < at' → ltE ⟨ep, en, es⟩ x = false) := hide (fun x hx _ => by
              have := unhide hy
              rw [List.getD, hx] at this
              have e : x = ⟨yp, yn, ys⟩ := this
              rw [e]; exact unhide hq)
            clear Y0 Y1 Y2
            replace hbX := hide hbX
            replace hoX := hide hoX
            have hszX : w.heap.size ≤ (grow (wr.drewN nq) osq).heap.size := (unhide hbX).size
            clear X0 X1 X2
            generalize grow (wr.drewN nq) osq = W2 at *
            go_wp2_with (at_builtin; refine wpList_append_eds _ rfl _ _ rfl w.heap.size _ S rfl (World.ownsRow.alloc (unhide hoX) _) _ [ed0] rfl (eds_one W2 ed0 (0, 0)) (fun c h => by injection h with h; cases h) (by rw [unhide hSl]; simp; omega) (by simp; omega) ?_)
            intro v' W3 ho3 hg3
            have hb3 := ((unhide hbX).alloc hszX (.cells #[.int .i64 0, .int .i64 0, .string ⟨#[]⟩] 29 (0, 0))).grown hg3 (by simp; omega) (fun k hk => (World.ownsRow.lt (unhide hoX) k hk).1)
            obtain ⟨g3, cap3, rfl, hgb3, hr3⟩ : ∃ g3 cap3, v' = .slice (some ⟨g3, 0, none⟩) (i + 1) cap3 ∧ w.heap.size ≤ g3 ∧ RowE W3 g3 cap3 (S ++ [ed0]) := by
              rcases ho3.forms with ⟨_, h0⟩ | ⟨g3, cap3, h1, h2, h3⟩
              · simp at h0
              · exact ⟨g3, cap3, by rw [h1, List.length_append, unhide hSl]; rfl, h2, h3⟩
            have hroom3 := hr3.room
            rw [List.length_append, unhide hSl] at hroom3
            unfold maxLen at hroom3
            simp only [List.length_cons, List.length_nil] at hroom3
            have hW23 : Hid (w.heap.size ≤ W3.heap.size) := hide hb3.size
            clear ho3 hg3
            replace hr3 := hide hr3
            replace hb3 := hide hb3
            go_wp2
            have hwp2 : IntKind.i64.wrap ((at' : Int) + 1) = ((at' + 1 : Nat) : Int) := by rw [wrapI _ (by omega) (by omega)]; omega
            have hai : at' + 1 ≤ i + 1 := by omega
            have haz : ((at' + 1 : Nat) : Int) ≤ ((i + 1 : Nat) : Int) := by omega
            refine wp_region_narrow 7 (by kernel_rfl) rfl (by kernel_rfl) ?_
            simp only [List.take_succ_cons, List.take_zero]
            repeat (go_big_quiet_step (fail))
            refine wpQuiet_nil ?_
            intro nq2 K hK
            rw [if_pos (by kernel_rfl)]
            obtain ⟨W4, hc4, hr4, hg4⟩ := copy_at (unhide hr3) (unhide hSl) at' (by omega) (if cap3 = at' + 1 then some ⟨g3, 0, none⟩ else some ⟨g3, (at' + 1) * 3, none⟩) (fun h => if_neg (by omega)) (cap3 - (at' + 1)) (cap3 - at') nq2
            have hb4 := hide ((below_drewN (unhide hb3) nq2).grown hg4 (by exact unhide hW23) (fun k hk => by injection hk with hk; omega))
            refine wp_copy_run _ _ _ _ _ rfl _ _ rfl rfl (hc4 _) ?_
            refine unhide hK _ _ ?_
            clear hK hc4 hg4
            replace hr4 := hide hr4
            simp only [List.drop_succ_cons, List.drop_zero]
            refine wpQuiet_nil ?_
            rintro _ ⟨nq3, rfl⟩
            generalize (if cap3 = at' + 1 then some (Addr.mk g3 0 none) else some (Addr.mk g3 ((at' + 1) * 3) none)) = A at *
            obtain ⟨W5, hW5⟩ : ∃ W5, W5 = W4.drewN nq3 := ⟨_, rfl⟩
            have hr5 : RowE W5 g3 cap3 ((S ++ [ed0]).take (at' + 1) ++ S.drop at') := by rw [hW5]; exact unhide hr4
            have hb5 : Below w.heap.size w W5 := by rw [hW5]; exact below_drewN (unhide hb4) nq3
            rw [← hW5]
            clear hW5
            obtain ⟨x0, x1, x2⟩ := unhide hE W5 hb5
            have hl5 : at' < ((S ++ [ed0]).take (at' + 1) ++ S.drop at').length := by simp [unhide hSl]; omega
            obtain ⟨z0, z1, z2⟩ := hr5.at at' hl5
            have f0 := hr5.frozen (at' * 3)
            have f1 := hr5.frozen (at' * 3 + 1)
            have f2 := hr5.frozen (at' * 3 + 2)
            generalize ((S ++ [ed0]).take (at' + 1) ++ S.drop at').getD at' ed0 = Z at *
            obtain ⟨zp, zn, zs⟩ := Z
            have hset : ((S ++ [ed0]).take (at' + 1) ++ S.drop at').set at' ⟨ep, en, es⟩ = S.take at' ++ ⟨ep, en, es⟩ :: S.drop at' := set_at _ _ _ _ (by rw [unhide hSl]; omega)
            have hfr : Hid (RowE (((W5.setCell ⟨g3, at' * 3, none⟩ (.int .i64 ep)).setCell ⟨g3, at' * 3 + 1, none⟩ (.int .i64 en)).setCell ⟨g3, at' * 3 + 2, none⟩ (.string es)) g3 cap3 (S.take at' ++ ⟨ep, en, es⟩ :: S.drop at')) := hide (by rw [← hset]; exact RowE.set hr5 at' ⟨ep, en, es⟩ hl5)
            have hbr : Hid (Below w.heap.size w (((W5.setCell ⟨g3, at' * 3, none⟩ (.int .i64 ep)).setCell ⟨g3, at' * 3 + 1, none⟩ (.int .i64 en)).setCell ⟨g3, at' * 3 + 2, none⟩ (.string es))) := hide (below_set hb5 hgb3 ⟨ep, en, es⟩)
            have hsrt : Hid (srt (L.take (i + 1)) = S.take at' ++ ⟨ep, en, es⟩ :: S.drop at') := hide (unhide hsn _ ((perm_at S ⟨ep, en, es⟩ at').trans ((unhide hper).append_right _)) (srt_at (unhide hsr) (unhide hgt) (unhide hfin) (by rw [unhide hSl]; omega)))
            dsimp only at *
            clear hset hl5
            replace hr5 := hide hr5
            replace hb5 := hide hb5
            go_wp2
            go_roundg g'
            case measure => omega
            case rel => exact ⟨i + 1, cap3, some ⟨g3, 0, none⟩, (by first | rfl | trivial), by go_num, by omega, by rw [unhide hsrt]; have := (unhide hfr).own hgb3; rwa [show (S.take at' ++ ⟨ep, en, es⟩ :: S.drop at').length = i + 1 by simp [unhide hSl]; omega] at this, unhide hbr⟩
        · have hat0 : Hid (at' = 0) := hide (by omega)
          have hatz : ¬ (0 : Int) < at' := by omega
          replace hb := hide hb
          replace hgt := hide hgt
          replace ho := hide ho
          obtain ⟨ep, en, es⟩ := E
          dsimp only at *
          go_wp2
          go_quiet (fail)
          have hbX := below_drewN (unhide hb) nq
          have hoX : OwnE (wr.drewN nq) w.heap.size (.slice a3 i c3) S := unhide ho
          have hfin : Hid (∀ x, S[at' - 1]? = some x → 0 < at' → ltE ⟨ep, en, es⟩ x = false) := hide (fun x hx h => absurd h hat)
          replace hbX := hide hbX
          replace hoX := hide hoX
          have hszX : w.heap.size ≤ (wr.drewN nq).heap.size := (unhide hbX).size
          clear X0 X1 X2
          generalize wr.drewN nq = W2 at *
          go_wp2_with (at_builtin; refine wpList_append_eds _ rfl _ _ rfl w.heap.size _ S rfl (World.ownsRow.alloc (unhide hoX) _) _ [ed0] rfl (eds_one W2 ed0 (0, 0)) (fun c h => by injection h with h; cases h) (by rw [unhide hSl]; simp; omega) (by simp; omega) ?_)
          intro v' W3 ho3 hg3
          have hb3 := ((unhide hbX).alloc hszX (.cells #[.int .i64 0, .int .i64 0, .string ⟨#[]⟩] 29 (0, 0))).grown hg3 (by simp; omega) (fun k hk => (World.ownsRow.lt (unhide hoX) k hk).1)
          obtain ⟨g3, cap3, rfl, hgb3, hr3⟩ : ∃ g3 cap3, v' = .slice (some ⟨g3, 0, none⟩) (i + 1) cap3 ∧ w.heap.size ≤ g3 ∧ RowE W3 g3 cap3 (S ++ [ed0]) := by
            rcases ho3.forms with ⟨_, h0⟩ | ⟨g3, cap3, h1, h2, h3⟩
            · simp at h0
            · exact ⟨g3, cap3, by rw [h1, List.length_append, unhide hSl]; rfl, h2, h3⟩
          have hroom3 := hr3.room
          rw [List.length_append, unhide hSl] at hroom3
          unfold maxLen at hroom3
          simp only [List.length_cons, List.length_nil] at hroom3
          have hW23 : Hid (w.heap.size ≤ W3.heap.size) := hide hb3.size
          clear ho3 hg3
          replace hr3 := hide hr3
          replace hb3 := hide hb3
          go_wp2
          have hwp2 : IntKind.i64.wrap ((at' : Int) + 1) = ((at' + 1 : Nat) : Int) := by rw [wrapI _ (by omega) (by omega)]; omega
          have hai : at' + 1 ≤ i + 1 := by omega
          have haz : ((at' + 1 : Nat) : Int) ≤ ((i + 1 : Nat) : Int) := by omega
          refine wp_region_narrow 7 (by kernel_rfl) rfl (by kernel_rfl) ?_
          simp only [List.take_succ_cons, List.take_zero]
          repeat (go_big_quiet_step (fail))
          refine wpQuiet_nil ?_
          intro nq2 K hK
          rw [if_pos (by kernel_rfl)]
          obtain ⟨W4, hc4, hr4, hg4⟩ := copy_at (unhide hr3) (unhide hSl) at' (by omega) (if cap3 = at' + 1 then some ⟨g3, 0, none⟩ else some ⟨g3, (at' + 1) * 3, none⟩) (fun h => if_neg (by omega)) (cap3 - (at' + 1)) (cap3 - at') nq2
          have hb4 := hide ((below_drewN (unhide hb3) nq2).grown hg4 (by exact unhide hW23) (fun k hk => by injection hk with hk; omega))
          refine wp_copy_run _ _ _ _ _ rfl _ _ rfl rfl (hc4 _) ?_
          refine unhide hK _ _ ?_
          clear hK hc4 hg4
          replace hr4 := hide hr4
          simp only [List.drop_succ_cons, List.drop_zero]
          refine wpQuiet_nil ?_
          rintro _ ⟨nq3, rfl⟩
          generalize (if cap3 = at' + 1 then some (Addr.mk g3 0 none) else some (Addr.mk g3 ((at' + 1) * 3) none)) = A at *
          obtain ⟨W5, hW5⟩ : ∃ W5, W5 = W4.drewN nq3 := ⟨_, rfl⟩
          have hr5 : RowE W5 g3 cap3 ((S ++ [ed0]).take (at' + 1) ++ S.drop at') := by rw [hW5]; exact unhide hr4
          have hb5 : Below w.heap.size w W5 := by rw [hW5]; exact below_drewN (unhide hb4) nq3
          rw [← hW5]
          clear hW5
          obtain ⟨x0, x1, x2⟩ := unhide hE W5 hb5
          have hl5 : at' < ((S ++ [ed0]).take (at' + 1) ++ S.drop at').length := by simp [unhide hSl]; omega
          obtain ⟨z0, z1, z2⟩ := hr5.at at' hl5
          have f0 := hr5.frozen (at' * 3)
          have f1 := hr5.frozen (at' * 3 + 1)
          have f2 := hr5.frozen (at' * 3 + 2)
          generalize ((S ++ [ed0]).take (at' + 1) ++ S.drop at').getD at' ed0 = Z at *
          obtain ⟨zp, zn, zs⟩ := Z
          have hset : ((S ++ [ed0]).take (at' + 1) ++ S.drop at').set at' ⟨ep, en, es⟩ = S.take at' ++ ⟨ep, en, es⟩ :: S.drop at' := set_at _ _ _ _ (by rw [unhide hSl]; omega)
          have hfr : Hid (RowE (((W5.setCell ⟨g3, at' * 3, none⟩ (.int .i64 ep)).setCell ⟨g3, at' * 3 + 1, none⟩ (.int .i64 en)).setCell ⟨g3, at' * 3 + 2, none⟩ (.string es)) g3 cap3 (S.take at' ++ ⟨ep, en, es⟩ :: S.drop at')) := hide (by rw [← hset]; exact RowE.set hr5 at' ⟨ep, en, es⟩ hl5)
          have hbr : Hid (Below w.heap.size w (((W5.setCell ⟨g3, at' * 3, none⟩ (.int .i64 ep)).setCell ⟨g3, at' * 3 + 1, none⟩ (.int .i64 en)).setCell ⟨g3, at' * 3 + 2, none⟩ (.string es))) := hide (below_set hb5 hgb3 ⟨ep, en, es⟩)
          have hsrt : Hid (srt (L.take (i + 1)) = S.take at' ++ ⟨ep, en, es⟩ :: S.drop at') := hide (unhide hsn _ ((perm_at S ⟨ep, en, es⟩ at').trans ((unhide hper).append_right _)) (srt_at (unhide hsr) (unhide hgt) (unhide hfin) (by rw [unhide hSl]; omega)))
          dsimp only at *
          clear hset hl5
          replace hr5 := hide hr5
          replace hb5 := hide hb5
          go_wp2
          go_roundg g'
          case measure => omega
          case rel => exact ⟨i + 1, cap3, some ⟨g3, 0, none⟩, (by first | rfl | trivial), by go_num, by omega, by rw [unhide hsrt]; have := (unhide hfr).own hgb3; rwa [show (S.take at' ++ ⟨ep, en, es⟩ :: S.drop at').length = i + 1 by simp [unhide hSl]; omega] at this, unhide hbr⟩
    · have hlz : ¬ (i : Int) < n := by omega
      obtain rfl : i = n := by omega
      rw [unhide hend] at hown
      replace hown := hide hown
      go_wp2
      go_ret
      exact ⟨_, rfl, unhide hown, hbw⟩
end Go.Proofs.Ytpjpghigilbfaaa

/-
  ScanSemis.
-/
import Derived.Test.YtmhkmmcicfpakaaScanCat
import Derived.Test.YtmhkmmcicfpakaaScanBegun
import Derived.Test.YtmhkmmcicfpakaaModIx
import Derived.Test.YtmhkmmcicfpakaaLst
import Derived.Deep.DeepCutAuto
namespace Go.Proofs.Ytmhkmmcicfpakaa
open Go.RowKit
set_option linter.unusedSimpArgs false
set_option linter.unusedVariables false
def semW : List ByteArray := [⟨#[97]⟩, ⟨#[49]⟩, ⟨#[34, 115, 34]⟩, ⟨#[41]⟩, ⟨#[125]⟩, ⟨#[114, 101, 116, 117, 114, 110]⟩, ⟨#[98, 114, 101, 97, 107]⟩, ⟨#[99, 111, 110, 116, 105, 110, 117, 101]⟩, ⟨#[40]⟩, ⟨#[123]⟩, ⟨#[44]⟩, ⟨#[46]⟩, ⟨#[58, 61]⟩, ⟨#[43]⟩, ⟨#[105, 102]⟩, ⟨#[118, 97, 114]⟩, ⟨#[112, 97, 99, 107, 97, 103, 101]⟩]
/-- What is asked of a word with so many newlines behind it. -/
def semB (w : ByteArray) (n : Nat) : Option (Int × Bool × Int × Int × Nat) := match scanS (w ++ reps 10 n) with
  | ([_, t, _], _, -1) => some (t.k, t.q, t.p, t.l, 3)
  | ([_, _], _, -1) => some (0, false, 0, 0, 2)
  | _ => none
set_option maxRecDepth 100000 in
theorem sem_all : ((List.range 17).all fun j => (List.range 10).all fun n => semB (semW.getD j ⟨#[]⟩) (n + 1) == (if j < 8 then some (6, true, ((semW.getD j ⟨#[]⟩).size : Int), 1, 3) else some (0, false, 0, 0, 2))) = true := by kernel_rfl
theorem sem_at (j n : Nat) (hj : j < 17) (h1 : 1 ≤ n) (h2 : n ≤ 10) : semB (semW.getD j ⟨#[]⟩) n = (if j < 8 then some (6, true, ((semW.getD j ⟨#[]⟩).size : Int), 1, 3) else some (0, false, 0, 0, 2)) := by
  have h := List.all_eq_true.1 (List.all_eq_true.1 sem_all j (List.mem_range.2 hj)) (n - 1) (List.mem_range.2 (by omega))
  rw [Nat.sub_add_cancel h1] at h
  exact eq_of_beq h
theorem semB_on {w : ByteArray} {n : Nat} {k : Int} {q : Bool} {p l : Int} (h : semB w n = some (k, q, p, l, 3)) : ∃ a t b C, scanS (w ++ reps 10 n) = ([a, t, b], C, -1) ∧ t.k = k ∧ t.q = q ∧ t.p = p ∧ t.l = l := by
  unfold semB at h
  split at h
  · rename_i a t b C e
    simp only [Option.some.injEq, Prod.mk.injEq] at h
    exact ⟨a, t, b, C, e, h.1, h.2.1, h.2.2.1, h.2.2.2.1⟩
  · simp at h
  · cases h
theorem semB_off {w : ByteArray} {n : Nat} {k : Int} {q : Bool} {p l : Int} (h : semB w n = some (k, q, p, l, 2)) : ∃ a b C, scanS (w ++ reps 10 n) = ([a, b], C, -1) := by
  unfold semB at h
  split at h
  · simp at h
  · rename_i a b C e
    exact ⟨a, b, C, e⟩
  · cases h
theorem semW_size (j : Nat) : (semW.getD j ⟨#[]⟩).size ≤ 8 := by
  by_cases h : j < 17
  · have : ((List.range 17).all fun j => decide ((semW.getD j ⟨#[]⟩).size ≤ 8)) = true := by kernel_rfl
    exact of_decide_eq_true (List.all_eq_true.1 this j (List.mem_range.2 h))
  · rw [List.getD, List.getElem?_eq_none (by show 17 ≤ j; omega)]
    exact Nat.zero_le _
set_option maxHeartbeats 2000000 in
set_option maxRecDepth 100000 in
theorem scanSemis_shell (a0 : Int) (a1 : Int) (w0 : (Lit.int .i64 a0).wf = true) (w1 : (Lit.int .i64 a1).wf = true) (w : World) :
    Calls Try.prog 8 #[.int .i64 a0, .int .i64 a1] w fun e w' => e = .returned (.bool true) ∧ Below w.heap.size w w' := by
  obtain ⟨hn0, hn1⟩ := bounds_i64 w0
  obtain ⟨hm0, hm1⟩ := bounds_i64 w1
  clear w0 w1
  obtain ⟨j, hj, hlt⟩ := mod_ix a0 17 (by omega) (by omega)
  have hlt' : j < 17 := by omega
  have hlt'' : j < semW.length := hlt'
  have hsem := fun n => sem_at j n hlt'
  have hws := semW_size j
  obtain ⟨s, hs⟩ : ∃ s, semW.getD j ⟨#[]⟩ = s := ⟨_, rfl⟩
  rw [hs] at hws hsem
  have hcell : ∀ (W : World), (W.alloc (.cells (semW.map Value.string).toArray 9)).cell? ⟨W.heap.size, j, none⟩ = some (.string s) := fun W => by
    obtain ⟨_, _, _, he, _, _, _, h4⟩ := lst_alloc W (semW.map Value.string) 9 (0, 0) (by decide)
    simp only [Value.slice.injEq, Option.some.injEq, Addr.mk.injEq, true_and, and_true] at he
    obtain ⟨⟨rfl, rfl⟩, rfl⟩ := he
    have h := h4 j (by rw [List.length_map]; exact hlt'')
    rw [Nat.zero_add] at h
    rw [h, ← hs]
    simp [List.getD, hlt'']
  replace hcell := hide hcell
  replace hsem := hide hsem
  clear hs hlt''
  have HB := hide (scanbegun_any w)
  go_enter Try.func8, Try.ntmps8
  go_wp2_with fail
  refine (unhide HB).mono ?_
  rintro e W1 ⟨rfl, hw⟩
  go_upto_region 5 with fail
  have hc := unhide hcell W1
  have hw := below3 hw (below_alloc W1 (.cells (semW.map Value.string).toArray 9))
  simp only [semW, List.map_cons, List.map_nil] at hc hw
  generalize World.alloc _ _ = W at *
  generalize W1.heap.size = g at *
  by_cases h1 : a1 < 1
  · go_wp2
    go_ret
    exact ⟨rfl, hw⟩
  by_cases h2 : 10 < a1
  · go_wp2
    go_ret
    exact ⟨rfl, hw⟩
  obtain ⟨n, rfl⟩ := Int.eq_ofNat_of_zero_le (show 0 ≤ a1 by omega)
  have hsem := unhide hsem n (by omega) (by omega)
  have hzero := reps_zero 10 s
  go_wp2
  go_loopw [8, 9] (fun s8 s9 wr => ∃ k : Nat, k ≤ n ∧ s9 = .int .i64 k ∧ s8 = .string (s ++ reps 10 k) ∧ wr = W) (fun _ s9 _ => n - (intOf s9).toNat)
  case atStart => exact ⟨0, by omega, rfl, by rw [hzero], rfl⟩
  case round =>
    obtain ⟨k, hk, rfl, rfl, rfl⟩ := hrel
    clear hzero
    by_cases hkn : k < n
    · have hcat := reps_succ 10 k s
      have hsz : (s ++ reps 10 k).size ≤ 100 := by rw [ByteArray.size_append, reps_size]; omega
      generalize s ++ reps 10 k = u at *
      replace hcat := hide hcat
      go_wp2
      go_roundw
      case rel => exact ⟨k + 1, by omega, by go_num, by rw [← unhide hcat], by trivial⟩
      case measure => simp [intOf]; omega
    · obtain rfl : k = n := by omega
      have HP := pScan_any (s ++ reps 10 k) wr (by rw [ByteArray.size_append, reps_size]; omega)
      rw [show scanR (s ++ reps 10 k) (bigF (s ++ reps 10 k) (flt (s ++ reps 10 k))) = scanS (s ++ reps 10 k) from rfl] at HP
      by_cases hj8 : j < 8
      · rw [if_pos hj8] at hsem
        obtain ⟨t0, t, t2, C, e, f1, f2, f3, f4⟩ := semB_on hsem
        rw [e] at HP
        obtain ⟨tk, ts, tp, tl, tq⟩ := t
        dsimp only at f1 f2 f3 f4
        subst f1 f2 f3 f4
        generalize s ++ reps 10 k = u at *
        replace HP := hide HP
        have hj8' : (j : Int) < 8 := by omega
        clear hsem e
        go_wp2_with fail
        refine (unhide HP).mono ?_
        rintro e W2 ⟨vl, vc, rfl, ht, _, hw2⟩
        replace ht := own_toks ht
        obtain ⟨a, ca, rfl, ha1, ha2, ha3⟩ := ht
        obtain ⟨ga, rfl, hga, hca⟩ := ha3 (by simp)
        obtain ⟨q0, q1, q2, q3, q4⟩ := hca 1 _ rfl
        simp only [Nat.reduceMul, Nat.reduceAdd, List.length_cons, List.length_nil] at *
        clear hca ha3
        go_wp2
        go_ret
        exact ⟨rfl, below3 hw hw2⟩
      · rw [if_neg hj8] at hsem
        obtain ⟨t0, t1, C, e⟩ := semB_off hsem
        rw [e] at HP
        generalize s ++ reps 10 k = u at *
        replace HP := hide HP
        have hj8' : ¬ (j : Int) < 8 := by omega
        clear hsem e
        go_wp2_with fail
        refine (unhide HP).mono ?_
        rintro e W2 ⟨vl, vc, rfl, ht, _, hw2⟩
        replace ht := own_toks ht
        obtain ⟨a, ca, rfl, ha1, ha2, ha3⟩ := ht
        simp only [Nat.reduceMul, Nat.reduceAdd, List.length_cons, List.length_nil] at *
        clear ha3
        go_wp2
        go_ret
        exact ⟨rfl, below3 hw hw2⟩
end Go.Proofs.Ytmhkmmcicfpakaa

/-
  container/heap's up, down.
-/
import Derived.Test.YtpjpghigilbfaaaHpPile
import Derived.Deep.LoopGhost
namespace Go.Proofs.Ytpjpghigilbfaaa
open Go.RowKit Go.Lib Go.Sort
set_option linter.unusedSimpArgs false
set_option linter.unusedVariables false
/-- Block b holds the pile's slice, and nothing else. -/
def PileAt (w : World) (b : Nat) (v : Value) : Prop := w.heap[b]? = some (.cells #[v] 27 (0, 0))
theorem PileAt.cell {w : World} {b : Nat} {v : Value} (h : PileAt w b v) : w.cell? ⟨b, 0, none⟩ = some v := by
  rw [Joins.cell_of_block h 0]; rfl
theorem PileAt.lt {w : World} {b : Nat} {v : Value} (h : PileAt w b v) : b < w.heap.size := (Array.getElem?_eq_some_iff.1 h).1
theorem PileAt.grown {w : World} {b : Nat} {v : Value} (h : PileAt w b v) (n : Nat) (os : Array Obj) : PileAt (grow (w.drewN n) os) b v := by
  unfold PileAt
  rw [heap_grow_old _ _ (by exact h.lt)]
  exact h
theorem PileAt.kept {w w' : World} {b g : Nat} {v : Value} (h : PileAt w b v) (hg : w.grownBy w' (some g)) (hne : b ≠ g) : PileAt w' b v := by
  unfold PileAt
  rw [hg.block b h.lt (fun e => hne (by injection e))]
  exact h
theorem load_pile (b : Nat) (a : Option Addr) (n c : Nat) (W : World) (h : W.cell? ⟨b, 0, none⟩ = some (.slice a n c)) : (loadVar 25 ⟨b, 0, none⟩).run Try.prog W = .ok (.slice a n c) W := by
  unfold loadVar
  go_simp
theorem wrapnil (t ty : TypeId) (p : Addr) (x y : ByteArray) (W : World) : (Builtin.ssaWrapNilChk_ #[t] ty #[.pointer (some p), .string x, .string y]).run Try.prog W = .ok (.pointer (some p)) W := rfl
theorem meth_of (name : String) (f : Nat) (hm : ((Try.prog.info? 48).bind fun i => (i.methods.find? (·.name == name)).map fun m => (m.path, m.func)) = some (#[], some (f, false)))
    (b : Nat) (a : Option Addr) (n c : Nat) (W : World) (h : W.cell? ⟨b, 0, none⟩ = some (.slice a n c)) : (method 206 48 (.pointer (some ⟨b, 0, none⟩)) name).run Try.prog W = .ok (f, .slice a n c) W := by
  cases hi : Try.prog.info? 48 with
  | none => rw [hi] at hm; cases hm
  | some i =>
    rw [hi, Option.bind_some] at hm
    cases hf : i.methods.find? (·.name == name) with
    | none => rw [hf] at hm; cases hm
    | some m =>
      rw [hf, Option.map_some] at hm
      simp only [Option.some.injEq, Prod.mk.injEq] at hm
      obtain ⟨hp, hm⟩ := hm
      have hu := Try.underlying48
      unfold method
      simp [typeInfo, hi, hf, hp, hm, follow]
      unfold receiverAt
      simp [run_underlying hu, Place.get]
      simp [strVal, wrapnil, asAddr, load_pile b a n c W h]
theorem meth_len (b : Nat) (a : Option Addr) (n c : Nat) (W : World) (h : W.cell? ⟨b, 0, none⟩ = some (.slice a n c)) : (method 206 48 (.pointer (some ⟨b, 0, none⟩)) "Len").run Try.prog W = .ok (70, .slice a n c) W := meth_of "Len" 70 (by kernel_rfl) b a n c W h
theorem meth_less (b : Nat) (a : Option Addr) (n c : Nat) (W : World) (h : W.cell? ⟨b, 0, none⟩ = some (.slice a n c)) : (method 206 48 (.pointer (some ⟨b, 0, none⟩)) "Less").run Try.prog W = .ok (71, .slice a n c) W := meth_of "Less" 71 (by kernel_rfl) b a n c W h
theorem meth_swap (b : Nat) (a : Option Addr) (n c : Nat) (W : World) (h : W.cell? ⟨b, 0, none⟩ = some (.slice a n c)) : (method 206 48 (.pointer (some ⟨b, 0, none⟩)) "Swap").run Try.prog W = .ok (72, .slice a n c) W := meth_of "Swap" 72 (by kernel_rfl) b a n c W h
theorem meth_push (b : Nat) (W : World) : (method 206 48 (.pointer (some ⟨b, 0, none⟩)) "Push").run Try.prog W = .ok (74, .pointer (some ⟨b, 0, none⟩)) W := by kernel_rfl
theorem meth_pop (b : Nat) (W : World) : (method 206 48 (.pointer (some ⟨b, 0, none⟩)) "Pop").run Try.prog W = .ok (73, .pointer (some ⟨b, 0, none⟩)) W := by kernel_rfl
theorem grown_of_grow {w : World} (n : Nat) (os : Array Obj) (r : Option Nat) : w.grownBy (grow (w.drewN n) os) r :=
  ⟨rfl, rfl, rfl, by simp, fun k hk _ => by rw [heap_grow_old _ _ (by exact hk)]; rfl⟩
set_option maxHeartbeats 4000000 in
set_option maxRecDepth 100000 in
theorem up_any (b g cap j : Nat) (H : List Ed) (w : World) (hp : PileAt w b (.slice (some ⟨g, 0, none⟩) H.length cap)) (hr : RowE w g cap H) (hbg : b ≠ g) (hj : j < H.length) (hl : H.length ≤ 1000) (hu : UpI H j) :
    Calls Try.prog 27 #[.iface 48 (.pointer (some ⟨b, 0, none⟩)), .int .i64 j] w fun e w' => e = .returned (.tuple #[]) ∧ ∃ H', H'.Perm H ∧ Heap H' H'.length ∧ RowE w' g cap H' ∧ w.grownBy w' (some g) := by
  obtain ⟨n, hn⟩ : ∃ n, H.length = n := ⟨_, rfl⟩
  rw [hn] at hp hj hl
  replace hr := hide hr
  replace hu := hide hu
  go_enter Try.func27, Try.ntmps27
  go_wp2
  go_loopg [1, 4] n (fun gf s1 s4 wx => ∃ (j : Nat) (K : List Ed), s1 = .int .i64 j ∧ j ≤ gf ∧ j < n ∧ K.length = n ∧ K.Perm H ∧ UpI K j ∧ PileAt wx b (.slice (some ⟨g, 0, none⟩) n cap) ∧ RowE wx g cap K ∧ w.grownBy wx (some g))
  case atStart => exact ⟨j, H, rfl, by omega, hj, hn, .refl _, unhide hu, hp, unhide hr, grown_refl _ _⟩
  case round =>
    obtain ⟨j, K, rfl, hjg, hj, hKn, hKp, hU, hpa, hrow, hgr⟩ := hrel
    by_cases h0 : j = 0
    · subst h0
      have hfin := hide (up_end hU (.inl rfl))
      replace hU := hide hU
      replace hrow := hide hrow
      replace hKp := hide hKp
      replace hKn := hide hKn
      replace hgr := hide hgr
      go_wp2
      go_end0
      exact ⟨rfl, K, unhide hKp, unhide hfin, unhide hrow, unhide hgr⟩
    · obtain ⟨p, hpe⟩ : ∃ p, (j - 1) / 2 = p := ⟨_, rfl⟩
      have hdiv : ((j : Int) - 1).tdiv 2 = (p : Int) := by rw [Int.tdiv_eq_ediv_of_nonneg (by omega)]; omega
      have hpj : ¬ (p : Int) = j := by omega
      have hpjb : ((p : Int) == j) = false := by simpa using hpj
      have hpl : p < n := by omega
      have hsub : IntKind.i64.wrap ((j : Int) - 1) = (j : Int) - 1 := wrapI _ (by omega) (by omega)
      have hm1 := hide (fun n' os => meth_less b _ _ _ _ (PileAt.grown hpa n' os).cell)
      have hm0 := meth_less b _ _ _ _ hpa.cell
      have hL := hide (pileLess_any g cap j p K wr hrow (by omega) (by omega))
      rw [hKn] at hL
      have hstep := hide (fun (h : ltE (at0 K j) (at0 K ((j - 1) / 2)) = true) => up_step hU (by omega) (by omega) h)
      rw [hpe] at hstep
      have hend := hide (fun (h : ltE (at0 K j) (at0 K p) = false) => up_end hU (.inr (by rw [hpe]; exact h)))
      have hsw := hide (fun q os => pileSwap_any g cap p j K (grow (wr.drewN q) os) (hrow.grown q os) (by omega) (by omega))
      rw [hKn] at hsw
      have hms := hide (fun q os => meth_swap b _ _ _ _ (hpa.grown q os).cell)
      have hsp := hide (swp_perm K p j (by omega) (by omega))
      have hsl : Hid ((swpL K p j).length = n) := hide (by rw [swpL_len, hKn])
      have hpg := hide (fun q os => hpa.grown q os)
      have hrg := hide (fun q os => hrow.grown q os)
      have hgg := hide (fun q os => hgr.trans1 (grown_of_grow (w := wr) q os (some g)))
      replace hU := hide hU
      replace hrow := hide hrow
      replace hKp := hide hKp
      replace hKn := hide hKn
      replace hgr := hide hgr
      obtain ⟨q, hq⟩ : ∃ q, ltE (K.getD j ed0) (K.getD p ed0) = q := ⟨_, rfl⟩
      rw [hq] at hL
      replace hq := hide hq
      go_wp2_with fail
      refine (unhide hL).mono ?_
      rintro e W1 ⟨rfl, q1, os1, rfl⟩
      cases q with
      | false =>
        go_wp2
        go_end0
        exact ⟨rfl, K, unhide hKp, unhide hend (unhide hq), unhide hrg _ _, unhide hgg _ _⟩
      | true =>
        have hm2 := unhide hms q1 os1
        go_wp2_with fail
        refine (unhide hsw q1 os1).mono ?_
        rintro e W2 ⟨rfl, hr2, hg2⟩
        have hp2 := hide (PileAt.kept (unhide hpg q1 os1) hg2 hbg)
        have hgr2 := hide ((unhide hgg q1 os1).trans1 hg2)
        replace hr2 := hide hr2
        replace hg2 := hide hg2
        go_wp2
        go_roundg p
        case measure => omega
        case rel => exact ⟨p, swpL K p j, by trivial, by omega, hpl, unhide hsl, (unhide hsp).trans (unhide hKp), unhide hstep (unhide hq), unhide hp2, unhide hr2, unhide hgr2⟩
end Go.Proofs.Ytpjpghigilbfaaa

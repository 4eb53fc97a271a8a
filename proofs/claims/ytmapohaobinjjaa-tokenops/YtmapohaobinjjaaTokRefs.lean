/-
  The reference's Space, Rank.
-/
import Derived.Test.YtmapohaobinjjaaTokRef
namespace Go.Proofs.Ytmapohaobinjjaa
open Go.RowKit
set_option linter.unusedSimpArgs false
set_option maxHeartbeats 4000000 in
set_option maxRecDepth 100000 in
theorem rSpace_any (p a b : Tk) (w : World) :
    Calls Try.prog 18 #[p.val, a.val, b.val] w fun e w' => e = .returned (.bool (spaceB p a b)) ∧ Below w.heap.size w w' := by
  have HO := fun w => roperand_any p w
  have hx := hide (fun W hw => box3 w p a b (0, 0) (0, 0) (0, 0) W hw)
  have hE : spaceB p a b = (!(sgn a [40] || sgn a [46] || sgn a [33] || (sgn a [45] && !operB p)) && !lastB b && !callB a b && !(sgn a [123] && sgn b [125])) := rfl
  generalize operB p = o at *
  have hE := hide hE
  generalize spaceB p a b = r at *
  obtain ⟨k, s, pp, l, q⟩ := a
  obtain ⟨k', s', p', l', q'⟩ := p
  obtain ⟨k'', s'', p'', l'', q''⟩ := b
  unfold Tk.obj Tk.val at *
  dsimp only at *
  have HO := hide HO
  by_cases hk : k = 4
  · subst hk
    cases hm : (s.toList == [45]) with
    | true =>
      have hs : s.toList = [45] := by simpa using hm
      clear hm
      cases o with
      | false =>
        go_enter Try.func18, Try.ntmps18
        go_wp2_with fail
        all_goals
          refine (unhide HO _).mono ?_
          rintro e W ⟨rfl, hw⟩
          obtain ⟨hA, hB, hw⟩ := unhide hx _ hw
          clear hA hB
          go_wp2
          go_ret
          refine ⟨ret_bool ?_, hw⟩
          rw [unhide hE]
          simp_all [sgn, eqT, ByteArray.toList_eq]
      | true =>
        go_enter Try.func18, Try.ntmps18
        go_wp2_with fail
        all_goals
          refine (unhide HO _).mono ?_
          rintro e W ⟨rfl, hw⟩
          obtain ⟨⟨ca0, ca1, ca2, ca3, ca4⟩, ⟨cb0, cb1, cb2, cb3, cb4⟩, hw⟩ := unhide hx _ hw
          dsimp only at ca0 ca1 ca2 ca3 ca4 cb0 cb1 cb2 cb3 cb4
          go_wp2
          all_goals
            go_ret
            refine ⟨ret_bool ?_, hw⟩
            rw [unhide hE]
            simp_all [sgn, lastB, callB, eqT, ByteArray.toList_eq]
    | false =>
      clear HO
      go_enter Try.func18, Try.ntmps18
      go_wp2
      all_goals
        go_ret
        refine ⟨ret_bool ?_, below3 (below3 (below_alloc _ _) (below_alloc _ _)) (below_alloc _ _)⟩
        rw [unhide hE]
        simp_all [sgn, lastB, callB, eqT, ByteArray.toList_eq]
  · clear HO
    go_enter Try.func18, Try.ntmps18
    go_wp2
    all_goals
      go_ret
      refine ⟨ret_bool ?_, below3 (below3 (below_alloc _ _) (below_alloc _ _)) (below_alloc _ _)⟩
      rw [unhide hE]
      simp_all [sgn, lastB, callB, eqT, ByteArray.toList_eq]
end Go.Proofs.Ytmapohaobinjjaa

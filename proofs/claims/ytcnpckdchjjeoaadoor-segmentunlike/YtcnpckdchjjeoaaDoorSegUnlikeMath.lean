/-
  SegmentUnlike: what stands behind a base of zeros.
-/
import Derived.Test.YtcnpckdchjjeoaaDoorSegMath
namespace Go.Proofs.YtcnpckdchjjeoaaDoor
open Go.RowKit Go.Lib
set_option maxRecDepth 100000

/-- The base of so many zeros. -/
def zE (N : Nat) : En := ⟨1, List.replicate N 0, List.replicate N 0, zeroR⟩
theorem okN_zeros : ∀ N, okN (List.replicate N 0) = true
  | 0 => rfl
  | N + 1 => by rw [List.replicate_succ, okN, okN_zeros N]; decide
theorem leB_self : ∀ l, leB l l = true
  | [] => rfl
  | x :: t => by rw [leB, leB_self t]; simp
theorem zE_may {N : Nat} (h1 : 1 ≤ N) (h8 : N ≤ 8) : mayE (zE N) (N : Int) = true := by
  have hb : blankR zeroR = true := by simp [blankR, sameR]
  have hm : mayB (List.replicate N 0) (N : Int) = true := by
    unfold mayB manyB
    rw [okN_zeros, List.length_replicate]
    simp
    omega
  unfold mayE zE
  simp only [if_pos, hm, leB_self, hb, Bool.and_self]
theorem zE_some {N : Nat} (h1 : 1 ≤ N) (h8 : N ≤ 8) : someE (zE N) = true := mayE_some (zE_may h1 h8)
theorem unlike_yes {N : Nat} (h1 : 1 ≤ N) (h8 : N ≤ 8) {e : En} (hm : mayE e (N : Int) = true) (hk : (e.k == 1) = false) : readE (layE (zE N) ++ layE e) (N : Int) = ([zE N, e], (layE (zE N) ++ layE e).length) := by
  have h := readE_rows (N : Int) [zE N, e] [] ⟨zE_may h1 h8, rfl, hm, hk.symm, trivial⟩ (stopE_none (by rw [List.append_nil]; exact nxT_end _))
  simpa [rowsE] using h
theorem unlike_no {N : Nat} (h1 : 1 ≤ N) (h8 : N ≤ 8) {e : En} (hs : someE e = true) (hm : mayE e (N : Int) = false ∨ (e.k == 1) = true) : readE (layE (zE N) ++ layE e) (N : Int) = ([zE N], (layE (zE N)).length) := by
  have h := readE_rows (N : Int) [zE N] (layE e) ⟨zE_may h1 h8, rfl, trivial⟩ (by
    intro d E hd
    have hn := nextE_lay hs (layE (zE N)) [] (N : Int)
    simp only [rowsE, List.append_nil] at hd hn
    rw [hn] at hd
    split at hd
    · rename_i hm'
      simp only [Option.some.injEq, Prod.mk.injEq] at hd
      obtain ⟨rfl, _⟩ := hd
      rcases hm with hm | hm
      · rw [hm] at hm'; cases hm'
      · rw [hm]; simp
    · cases hd)
  simpa [rowsE] using h
end Go.Proofs.YtcnpckdchjjeoaaDoor

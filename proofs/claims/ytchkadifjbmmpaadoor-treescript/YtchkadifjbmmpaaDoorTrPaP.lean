/-
  TreeParts: plain facts.
-/
import Derived.Test.YtchkadifjbmmpaaDoorTrGet
import Derived.Test.YtchkadifjbmmpaaDoorTrSingle
import Derived.Test.YtchkadifjbmmpaaDoorTrOrP
namespace Go.Proofs.YtchkadifjbmmpaaDoor
open Go.RowKit Go.Lib Go.Maps
set_option maxRecDepth 100000
set_option linter.unusedSimpArgs false

theorem putSs_laid : ∀ (l : List R.Rc) (S : Sb) (x : Ky × List Int), x ∈ putSs S l → x ∈ S ∨ ∃ r ∈ l, R.mayR r = true ∧ x = (kyR r, R.layL r)
  | [], _, x, h => .inl h
  | a :: l, S, x, h => by
    rcases putSs_laid l (putS S a) x h with h1 | ⟨r', hr', e⟩
    · unfold putS at h1
      split at h1
      · rename_i hc
        rcases List.mem_append.1 h1 with h1 | h1
        · exact .inl h1
        · exact .inr ⟨a, by simp, hc.1, List.mem_singleton.1 h1⟩
      · exact .inl h1
    · exact .inr ⟨r', by simp [hr'], e⟩
theorem putSs_keep : ∀ (l : List R.Rc) (S : Sb) (k : Ky), k ∈ S.map Prod.fst → k ∈ (putSs S l).map Prod.fst
  | [], _, _, h => h
  | a :: l, S, k, h => putSs_keep l (putS S a) k (by
    unfold putS
    split
    · rw [List.map_append]
      exact List.mem_append_left _ h
    · exact h)
theorem putSs_has : ∀ (l : List R.Rc) (S : Sb) (r : R.Rc), r ∈ l → R.mayR r = true → kyR r ∈ (putSs S l).map Prod.fst
  | a :: l, S, r, h, hm => by
    rcases List.mem_cons.1 h with rfl | h
    · refine putSs_keep l _ _ ?_
      unfold putS
      split
      · rw [List.map_append]
        exact List.mem_append_right _ (by simp)
      · rename_i hc
        exact Decidable.byContradiction fun hn => hc ⟨hm, hn⟩
    · exact putSs_has l _ r h hm
theorem once_eq {k : Ky} {l : List R.Rc} (h : onceN k l = 1) {a b : R.Rc} (ha : a ∈ l) (hka : kyR a = k) (hb : b ∈ l) (hkb : kyR b = k) : a = b := by
  unfold onceN at h
  obtain ⟨x, hx⟩ := List.length_eq_one_iff.1 h
  have h1 : a ∈ l.filter fun r => decide (kyR r = k) := List.mem_filter.2 ⟨ha, by simpa using hka⟩
  have h2 : b ∈ l.filter fun r => decide (kyR r = k) := List.mem_filter.2 ⟨hb, by simpa using hkb⟩
  rw [hx] at h1 h2
  rw [List.mem_singleton.1 h1, List.mem_singleton.1 h2]
theorem laid_eq {a b : R.Rc} (ha : R.mayR a = true) (hb : R.mayR b = true) (h : R.layL a = R.layL b) : a = b := by
  have h1 := (R.lay_read a [] ha).1
  have h2 := (R.lay_read b [] hb).1
  rw [h] at h1
  exact h1.symm.trans h2
/-- What Get tells of a Key that is there once. -/
theorem get_once {l : List R.Rc} {r a : R.Rc} {b : Bool} (hr : r ∈ l) (h1 : onceN (kyR r) l = 1) (hg : GetS (putSs [] l) (kyR r) a b) : b = R.mayR r ∧ (b = true → a = r) := by
  rcases hg with ⟨rfl, hm, hk, hin⟩ | ⟨rfl, hn⟩
  · rcases putSs_laid l [] _ hin with h | ⟨r', hr', hm', e⟩
    · cases h
    · simp only [Prod.mk.injEq] at e
      have e1 : r' = r := once_eq h1 hr' e.1.symm hr rfl
      subst e1
      have e2 : a = r' := laid_eq hm hm' e.2
      exact ⟨hm'.symm, fun _ => e2⟩
  · refine ⟨?_, fun h => by cases h⟩
    cases hm : R.mayR r with
    | false => rfl
    | true => exact absurd (putSs_has l [] r hr hm) hn
/-- A number's digest, where the Key is there once. -/
theorem leaf_once {l : List R.Rc} {r : R.Rc} {o n : Nat} (hr : r ∈ l) (h1 : onceN (kyR r) l = 1) (hk : kyR r = ((o : Int), (n : Int))) : leafS (putSs [] l) o n = if R.mayR r = true then D.fnv 14695981039346656037 (R.layL r) else 0 := by
  unfold leafS
  cases hf : (putSs [] l).find? (fun x => decide (x.1 = ((o : Int), (n : Int)))) with
  | some x =>
    have hx := List.mem_of_find?_eq_some hf
    have hd := List.find?_some hf
    rw [decide_eq_true_eq] at hd
    rcases putSs_laid l [] _ hx with h | ⟨r', hr', hm', e⟩
    · cases h
    · have e1 : r' = r := once_eq h1 hr' (by rw [hk, ← hd, e]) hr rfl
      subst e1
      rw [if_pos hm', e]
  | none =>
    have hn : ¬ R.mayR r = true := fun hm => by
      obtain ⟨x, hx, e⟩ := List.mem_map.1 (putSs_has l [] r hr hm)
      have := List.find?_eq_none.1 hf x hx
      rw [decide_eq_true_eq] at this
      exact this (e.trans hk)
    rw [if_neg hn]
/-- How wide a level is. -/
def wd : Nat → Nat
  | 0 => 1
  | k + 1 => 4 * wd k
theorem wd_pl : ∀ k : Nat, k < 6 → cnt (k : Int) = (wd k : Int) ∧ pl k + wd k = pl (k + 1) ∧ wd k ≤ 1024 ∧ 0 < wd k := by decide
theorem sumB_in {o L i : Nat} (ho : o < 8) (hL : L ≤ 5) (hi : i < wd L) : sumB (o : Int) (L : Int) (i : Int) = true := by
  unfold sumB
  rw [decide_eq_true_eq, (wd_pl L (by omega)).1]
  omega
theorem sumV_in {F : Nat → Nat → Int} {o L i : Nat} (ho : o < 8) (hL : L ≤ 5) (hi : i < wd L) : sumV F (o : Int) (L : Int) (i : Int) = F o (pl L + i) := by
  unfold sumV
  rw [if_pos (sumB_in ho hL hi)]
  simp
/-- The digests of a range's parts. -/
def rowP (S : Sb) (o L i : Nat) (k : Nat) : List Int := (List.range k).map fun j => sumV (treeF S) (o : Int) ((L + 1 : Nat) : Int) ((4 * i + j : Nat) : Int)
theorem rowP_len (S : Sb) (o L i k : Nat) : (rowP S o L i k).length = k := by simp [rowP]
theorem rowP_next (S : Sb) (o L i k : Nat) : rowP S o L i (k + 1) = rowP S o L i k ++ [sumV (treeF S) (o : Int) ((L + 1 : Nat) : Int) ((4 * i + k : Nat) : Int)] := by simp [rowP, List.range_succ]
theorem rowP_all {S : Sb} {o L i : Nat} (ho : o < 8) (hL : L ≤ 4) (hi : i < wd L) : sumV (treeF S) (o : Int) (L : Int) (i : Int) = D.allD (rowP S o L i 4) := by
  have hw : wd (L + 1) = 4 * wd L := rfl
  have hp : pl (L + 1) = 4 * pl L + 1 := rfl
  have h2 := wd_pl L (by omega)
  have h3 := pl_le (L + 1) (by omega)
  have ha : pl L + i < 341 := by
    have : ∀ L, L ≤ 4 → pl (L + 1) ≤ 341 := by
      intro L hL
      have : ∀ k, k < 5 → pl (k + 1) ≤ 341 := by decide
      exact this L (by omega)
    have := this L hL
    omega
  rw [sumV_in ho (by omega) hi]
  have hc := treeF_cons S o (pl L + i) ha
  unfold Cons at hc
  rw [hc]
  have hr : rowP S o L i 4 = [sumV (treeF S) (o : Int) ((L + 1 : Nat) : Int) ((4 * i + 0 : Nat) : Int), sumV (treeF S) (o : Int) ((L + 1 : Nat) : Int) ((4 * i + 1 : Nat) : Int), sumV (treeF S) (o : Int) ((L + 1 : Nat) : Int) ((4 * i + 2 : Nat) : Int), sumV (treeF S) (o : Int) ((L + 1 : Nat) : Int) ((4 * i + 3 : Nat) : Int)] := rfl
  rw [hr, sumV_in ho (by omega) (by omega), sumV_in ho (by omega) (by omega), sumV_in ho (by omega) (by omega), sumV_in ho (by omega) (by omega)]
  rw [show pl (L + 1) + (4 * i + 0) = 4 * (pl L + i) + 1 by omega, show pl (L + 1) + (4 * i + 1) = 4 * (pl L + i) + 2 by omega, show pl (L + 1) + (4 * i + 2) = 4 * (pl L + i) + 3 by omega, show pl (L + 1) + (4 * i + 3) = 4 * (pl L + i) + 4 by omega]
/-- The sum at a record's number. -/
theorem sum_once {l : List R.Rc} {r : R.Rc} (hr : r ∈ l) (hk : R.keyB r.o r.s = true) (h1 : onceN (kyR r) l = 1) : sumV (treeF (putSs [] l)) r.o 5 r.s = if R.mayR r = true then D.fnv 14695981039346656037 (R.layL r) else 0 := by
  simp only [R.keyB, Bool.and_eq_true, decide_eq_true_eq] at hk
  obtain ⟨o, ho⟩ := Int.eq_ofNat_of_zero_le hk.1
  obtain ⟨n, hn⟩ := Int.eq_ofNat_of_zero_le (show (0 : Int) ≤ r.s by omega)
  have hky : kyR r = ((o : Int), (n : Int)) := by unfold kyR; rw [ho, hn]
  rw [ho, hn, show (5 : Int) = ((5 : Nat) : Int) from rfl, sumV_in (by omega) (by omega) (show n < wd 5 by have : wd 5 = 1024 := rfl; omega)]
  rw [show pl 5 + n = 341 + n from rfl, treeF_leaf, leaf_once hr h1 hky]
theorem row_dl {w : World} {B g cap : Nat} {l : List Int} (h : DRow w B (.slice (some ⟨g, 0, none⟩) l.length cap) l) : D.Dl w (.slice (some ⟨g, 0, none⟩) l.length cap) l :=
  ⟨_, cap, rfl, fun _ => ⟨g, 0, rfl, fun k hk => by rw [Nat.zero_add]; exact h.at k hk⟩⟩
end Go.Proofs.YtchkadifjbmmpaaDoor

/-
  Several files, as the law on crashes makes them, and what a crash leaves of them: plain lists.
-/
import Derived.Test.YtmhmdnlkkpjdjaaDrvRoomsLaw
namespace Go.Proofs.Ytmhmdnlkkpjdjaa
open Go.RowKit Go.Lib

def fl1 (x : List UInt8) (q : List Int × List Int) : Pf := (x, q.1 ++ q.2, q.1.length)
def files (N : List (List UInt8)) (ps : List (List Int × List Int)) : List Pf := List.zipWith fl1 N ps
def NUp (N : List (List UInt8)) : Prop := N.Pairwise (fun a b => bytesBefore a b = true)
theorem files_mem {N : List (List UInt8)} {ps : List (List Int × List Int)} {y : Pf} (h : y ∈ files N ps) : y.1 ∈ N := by
  unfold files at h
  induction N generalizing ps with
  | nil => simp at h
  | cons a N ih =>
    cases ps with
    | nil => simp at h
    | cons q ps =>
      rw [List.zipWith_cons_cons] at h
      rcases List.mem_cons.1 h with rfl | h
      · exact List.mem_cons_self ..
      · exact List.mem_cons_of_mem _ (ih h)
theorem NUp.ne {x : List UInt8} {N : List (List UInt8)} (h : NUp (x :: N)) : ∀ y ∈ N, y ≠ x := fun y hy e => by
  have := (List.pairwise_cons.1 h).1 y hy
  rw [e, WideAt.bytes_irrefl] at this
  cases this
theorem app_front {x : List UInt8} {N : List (List UInt8)} (h : NUp (x :: N)) (ps : List (List Int × List Int)) (F : List Int) : appP x F (files N ps) = (x, F, 0) :: files N ps := by
  have h1 : lookP x (files N ps) = none := lookP_none (fun y hy => h.ne _ (files_mem hy))
  unfold appP
  rw [h1]
  show insP (x, F, 0) (files N ps) = _
  cases hf : files N ps with
  | nil => rfl
  | cons y r =>
    have hy : y.1 ∈ N := files_mem (ps := ps) (by rw [hf]; exact List.mem_cons_self ..)
    rw [insP, if_pos ((List.pairwise_cons.1 h).1 _ hy)]
theorem upd_head {x : List UInt8} {g g' : List Int × Nat} {R : List Pf} (h : ∀ y ∈ R, y.1 ≠ x) : updP x g' ((x, g) :: R) = (x, g') :: R := by
  unfold updP
  rw [List.map_cons]
  have e : R.map (fun y : Pf => if (y.1 == x) = true then (y.1, g') else y) = R := by
    conv => rhs; rw [← List.map_id R]
    exact List.map_congr_left fun z hz => by rw [if_neg (by simpa using h z hz)]; rfl
  rw [e]
  simp
theorem look_head (x : List UInt8) (g : List Int × Nat) (R : List Pf) : lookP x ((x, g) :: R) = some g := by simp [lookP]
theorem sync_head {x : List UInt8} {F : List Int} {f : Nat} {R : List Pf} (h : ∀ y ∈ R, y.1 ≠ x) : syncs [x] ((x, F, f) :: R) = (x, F, F.length) :: R := by
  show syncP ((x, F, f) :: R) x = _
  unfold syncP
  rw [look_head]
  exact upd_head h
theorem app_head {x : List UInt8} {F G : List Int} {f : Nat} {R : List Pf} (h : ∀ y ∈ R, y.1 ≠ x) : appP x G ((x, F, f) :: R) = (x, F ++ G, f) :: R := by
  unfold appP
  rw [look_head]
  exact upd_head h
theorem files_ne {x : List UInt8} {N : List (List UInt8)} (h : NUp (x :: N)) (ps : List (List Int × List Int)) : ∀ y ∈ files N ps, y.1 ≠ x := fun _ hy => h.ne _ (files_mem hy)

/-- What a crash leaves. -/
def crs : Nat → List (List UInt8) → List (List Int × List Int) → List Pf
  | k, x :: N, q :: ps => (x, q.1 ++ q.2.take (min k q.2.length), q.1.length + min k q.2.length) :: crs (k - q.2.length) N ps
  | _, _, _ => []
theorem crash_files : ∀ (k : Nat) (N : List (List UInt8)) (ps : List (List Int × List Int)), crashP k (files N ps) = crs k N ps
  | _, [], _ => rfl
  | _, _ :: _, [] => rfl
  | k, x :: N, q :: ps => by
    show crashP k (fl1 x q :: files N ps) = _
    rw [crash_step, crs]
    have e1 : (fl1 x q).2.1.length - (fl1 x q).2.2 = q.2.length := by simp [fl1]
    rw [e1]
    have e2 : k - min k q.2.length = k - q.2.length := by omega
    rw [e2, crash_files (k - q.2.length) N ps]
    congr 1
    simp [fl1, List.take_append]
    exact List.take_of_length_le (by omega)
def firmS : List (List Int × List Int) → Nat
  | [] => 0
  | q :: ps => q.1.length + firmS ps
def looseS : List (List Int × List Int) → Nat
  | [] => 0
  | q :: ps => q.2.length + looseS ps
theorem used_files : ∀ (N : List (List UInt8)) (ps : List (List Int × List Int)), N.length = ps.length → usedP (files N ps) = firmS ps + looseS ps
  | [], [], _ => rfl
  | x :: N, q :: ps, h => by
    have := used_files N ps (by simpa using h)
    show usedP (fl1 x q :: files N ps) = _
    simp only [usedP, fl1, List.length_append, firmS, looseS]
    omega
  | [], _ :: _, h => by simp at h
  | _ :: _, [], h => by simp at h
theorem used_crs : ∀ (k : Nat) (N : List (List UInt8)) (ps : List (List Int × List Int)), N.length = ps.length → usedP (crs k N ps) = firmS ps + min k (looseS ps)
  | _, [], [], _ => by simp [crs, usedP, firmS, looseS]
  | k, x :: N, q :: ps, h => by
    have := used_crs (k - q.2.length) N ps (by simpa using h)
    simp only [crs, usedP, List.length_append, List.length_take, firmS, looseS]
    omega
  | _, [], _ :: _, h => by simp at h
  | _, _ :: _, [], h => by simp at h
theorem looseS_append : ∀ a b : List (List Int × List Int), looseS (a ++ b) = looseS a + looseS b
  | [], b => by simp [looseS]
  | q :: a, b => by simp [looseS, looseS_append a b]; omega
theorem looseS_take (ps : List (List Int × List Int)) (i : Nat) (hi : i < ps.length) : looseS (ps.take (i + 1)) = looseS (ps.take i) + ps[i].2.length := by
  rw [List.take_succ_eq_append_getElem hi, looseS_append]
  simp [looseS]
theorem look_crs : ∀ (k : Nat) (N : List (List UInt8)) (ps : List (List Int × List Int)) (_ : NUp N) (i : Nat) (hi : i < N.length) (hj : i < ps.length),
    lookP N[i] (crs k N ps) = some (ps[i].1 ++ ps[i].2.take (min (k - looseS (ps.take i)) ps[i].2.length), ps[i].1.length + min (k - looseS (ps.take i)) ps[i].2.length)
  | k, x :: N, q :: ps, hu, 0, _, _ => by
    show lookP x (crs k (x :: N) (q :: ps)) = _
    rw [crs, look_head]
    simp [looseS]
  | k, x :: N, q :: ps, hu, i + 1, hi, hj => by
    have hi' : i < N.length := by simpa using hi
    have hj' : i < ps.length := by simpa using hj
    have hne : N[i] ≠ x := hu.ne _ (List.getElem_mem hi')
    have ih := look_crs (k - q.2.length) N ps (List.pairwise_cons.1 hu).2 i hi' hj'
    show lookP N[i] (crs k (x :: N) (q :: ps)) = _
    rw [crs, lookP, if_neg (by simpa using fun e => hne e.symm), ih]
    simp only [List.getElem_cons_succ, List.take_succ_cons, looseS, Nat.sub_sub]
theorem crs_len : ∀ (k : Nat) (N : List (List UInt8)) (ps : List (List Int × List Int)), (crs k N ps).length ≤ N.length
  | _, [], _ => by simp [crs]
  | _, _ :: _, [] => by simp [crs]
  | k, x :: N, q :: ps => by
    have := crs_len (k - q.2.length) N ps
    simp [crs]
    exact this
theorem firm_bound : ∀ ps : List (List Int × List Int), (∀ q ∈ ps, q.1.length ≤ 60 ∧ q.2.length ≤ 60) → firmS ps ≤ 60 * ps.length ∧ looseS ps ≤ 60 * ps.length
  | [], _ => by simp [firmS, looseS]
  | q :: ps, h => by
    have := firm_bound ps (fun x hx => h x (List.mem_cons_of_mem _ hx))
    have := h q (List.mem_cons_self ..)
    simp only [firmS, looseS, List.length_cons]
    omega

def ns5 : List (List UInt8) := [[97], [98], [99], [100], [101]]
theorem ns5_up : NUp ns5 := by unfold NUp ns5; decide
theorem ns_up (n : Nat) : NUp (ns5.take n) := List.Pairwise.sublist (List.take_sublist ..) ns5_up
theorem ns_len {n : Nat} (h : n ≤ 5) : (ns5.take n).length = n := by simp [ns5]; omega
theorem ns_name : ∀ s ∈ ns5, nameB s = true ∧ s.length ≤ maxLen := by
  intro s hs
  simp only [ns5, List.mem_cons, List.not_mem_nil, or_false] at hs
  rcases hs with rfl | rfl | rfl | rfl | rfl <;> decide
theorem ns_mem {n : Nat} {s : List UInt8} (h : s ∈ ns5.take n) : s ∈ ns5 := List.mem_of_mem_take h
/-- The pairs: what is synced of each, and what is loose (nothing, where there is none). -/
def prs : List (List Int) → List (List Int) → List (List Int × List Int)
  | [], _ => []
  | F :: ls, [] => (F, []) :: prs ls []
  | F :: ls, G :: ms => (F, G) :: prs ls ms
theorem prs_len : ∀ (ls ms : List (List Int)), (prs ls ms).length = ls.length
  | [], _ => rfl
  | F :: ls, [] => by simp [prs, prs_len ls []]
  | F :: ls, G :: ms => by simp [prs, prs_len ls ms]
theorem prs_at : ∀ (ls ms : List (List Int)) (i : Nat) (hi : i < ls.length), (prs ls ms)[i]'(by rw [prs_len]; exact hi) = (ls[i], ms[i]?.getD [])
  | F :: ls, [], 0, _ => rfl
  | F :: ls, G :: ms, 0, _ => rfl
  | F :: ls, [], i + 1, hi => by
    have := prs_at ls [] i (by simpa using hi)
    simpa [prs] using this
  | F :: ls, G :: ms, i + 1, hi => by
    have := prs_at ls ms i (by simpa using hi)
    simpa [prs] using this
end Go.Proofs.Ytmhmdnlkkpjdjaa

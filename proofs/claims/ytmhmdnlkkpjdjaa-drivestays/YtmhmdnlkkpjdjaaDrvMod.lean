/-
  A drive's files as a plain list, by rising names; what a map of them reads as.
-/
import Derived.Test.YtmhmdnlkkpjdjaaDrvBase
namespace Go.Proofs.Ytmhmdnlkkpjdjaa
open Go.RowKit Go.Lib

/-- A file: its name, its block, its slice, its bytes, how many of them are synced. -/
structure Fl where
  n : List UInt8
  b : Nat
  v : Value
  a : List Int
  f : Nat
def ptrElem : Value → Option (DataW Unit × List MemPlace)
  | .pointer none => some (.nil, [])
  | .pointer (some ⟨b, 0, none⟩) => some (.lit (.int .i64 (b : Int)), [])
  | _ => none
theorem ptrElem_at {v : Value} {b : Nat} {ps : List MemPlace} (h : ptrElem v = some (.lit (.int .i64 (b : Int)), ps)) : v = .pointer (some ⟨b, 0, none⟩) := by
  unfold ptrElem at h
  split at h
  · cases h
  · simp only [Option.some.injEq, Prod.mk.injEq, DataW.lit.injEq, Lit.int.injEq, true_and] at h
    obtain ⟨h, _⟩ := h
    have : _ = b := Int.ofNat.inj h
    subst this
    rfl
  · cases h
theorem ptrElem_nil {v : Value} {ps : List MemPlace} (h : ptrElem v = some (.nil, ps)) : v = .pointer none := by
  unfold ptrElem at h
  split at h
  · rfl
  · cases h
  · cases h
def ent (x : Fl) : Lit × DataW Unit := (.string x.n, .lit (.int .i64 (x.b : Int)))
def Dof (L : List Fl) : DataW Unit := .map (L.map ent)
def ins (x : Fl) : List Fl → List Fl
  | [] => [x]
  | y :: r => if bytesBefore x.n y.n then x :: y :: r else y :: ins x r
def Up (L : List Fl) : Prop := L.Pairwise (fun x y => bytesBefore x.n y.n = true)
theorem same_str (a b : List UInt8) : (Lit.string a).sameKey (.string b) = (a == b) := rfl
theorem insert_ent (x : Fl) : ∀ L : List Fl, DataW.insert (ent x) (L.map ent) = (ins x L).map ent
  | [] => rfl
  | y :: r => by
    rw [List.map_cons, DataW.insert, ins]
    have e : (ent x).1.before (ent y).1 = bytesBefore x.n y.n := rfl
    rw [e]
    split
    · rfl
    · rw [insert_ent x r, List.map_cons]
theorem filter_ent (s : List UInt8) (L : List Fl) : (L.map ent).filter (fun p => !p.1.sameKey (.string s)) = (L.filter (fun y => !(y.n == s))).map ent := by
  rw [List.filter_map]
  rfl
theorem Dof_del (s : List UInt8) (L : List Fl) : (Dof L).del (.string s) = Dof (L.filter (fun y => !(y.n == s))) := by
  show DataW.map _ = DataW.map _
  rw [filter_ent]
theorem filter_none {s : List UInt8} {L : List Fl} (h : ∀ y ∈ L, y.n ≠ s) : L.filter (fun y => !(y.n == s)) = L :=
  List.filter_eq_self.2 fun y hy => by simpa using h y hy
theorem Dof_put {x : Fl} {L : List Fl} (h : ∀ y ∈ L, y.n ≠ x.n) : (Dof L).put (.string x.n) (.lit (.int .i64 (x.b : Int))) = Dof (ins x L) := by
  show DataW.map (DataW.insert (ent x) _) = DataW.map _
  rw [filter_ent, filter_none h, insert_ent]
theorem Dof_has (s : List UInt8) (L : List Fl) : Maps.has (Dof L) (.string s) = L.any (fun y => y.n == s) := by
  show (L.map ent).any _ = _
  rw [List.any_map]
  rfl
theorem Dof_hasNo {s : List UInt8} {L : List Fl} (h : ∀ y ∈ L, y.n ≠ s) : Maps.has (Dof L) (.string s) = false := by
  rw [Dof_has, List.any_eq_false]
  intro y hy
  simpa using h y hy
theorem Dof_at {x : Fl} {pre post : List Fl} (h : ∀ y ∈ pre, y.n ≠ x.n) (z : DataW Unit) : (Dof (pre ++ x :: post)).atKey (.string x.n) z = .lit (.int .i64 (x.b : Int)) := by
  have e : ((pre ++ x :: post).map ent).find? (fun p => p.1.sameKey (.string x.n)) = some (ent x) := by
    rw [List.map_append, List.find?_append, List.find?_eq_none.2, List.map_cons, List.find?_cons_of_pos]
    · rfl
    · show (x.n == x.n) = true
      simp
    · intro p hp
      obtain ⟨y, hy, rfl⟩ := List.mem_map.1 hp
      show ¬ (y.n == x.n) = true
      simpa using h y hy
  unfold Dof DataW.atKey
  simp only [e]
  rfl
theorem Dof_hasYes (x : Fl) (pre post : List Fl) : Maps.has (Dof (pre ++ x :: post)) (.string x.n) = true := by
  rw [Dof_has, List.any_eq_true]
  exact ⟨x, by simp, by simp⟩
theorem Dof_keys (L : List Fl) : strKeys (Dof L) = L.map (·.n) := by
  show (L.map ent).map _ = _
  rw [List.map_map]
  rfl
theorem Dof_size (L : List Fl) : Maps.size (Dof L) = L.length := List.length_map ..
theorem ins_mem {x y : Fl} : ∀ {L : List Fl}, y ∈ ins x L ↔ y = x ∨ y ∈ L
  | [] => by simp [ins]
  | z :: r => by
    rw [ins]
    split
    · simp
    · simp only [List.mem_cons, ins_mem (L := r)]
      constructor
      · rintro (h | h | h)
        · exact .inr (.inl h)
        · exact .inl h
        · exact .inr (.inr h)
      · rintro (h | h | h)
        · exact .inr (.inl h)
        · exact .inl h
        · exact .inr (.inr h)
theorem ins_len (x : Fl) : ∀ L : List Fl, (ins x L).length = L.length + 1
  | [] => rfl
  | z :: r => by
    rw [ins]
    split
    · rfl
    · simp [ins_len x r]
theorem ins_up {x : Fl} : ∀ {L : List Fl}, Up L → (∀ y ∈ L, y.n ≠ x.n) → Up (ins x L)
  | [], _, _ => List.pairwise_singleton ..
  | z :: r, h, hn => by
    obtain ⟨h1, h2⟩ := List.pairwise_cons.1 h
    rw [ins]
    split
    · rename_i hb
      refine List.pairwise_cons.2 ⟨fun y hy => ?_, h⟩
      rcases List.mem_cons.1 hy with rfl | hy
      · exact hb
      · exact WideShapes.bytes_trans _ _ _ hb (h1 y hy)
    · rename_i hb
      refine List.pairwise_cons.2 ⟨fun y hy => ?_, ins_up h2 (fun y hy => hn y (List.mem_cons_of_mem _ hy))⟩
      rcases ins_mem.1 hy with rfl | hy
      · rcases WideAt.bytes_total _ _ (hn z (List.mem_cons_self ..)) with h | h
        · exact h
        · exact absurd h hb
      · exact h1 y hy
/-- The list with one more stands around it. -/
theorem ins_parts (x : Fl) : ∀ L : List Fl, ∃ pre post, ins x L = pre ++ x :: post ∧ L = pre ++ post
  | [] => ⟨[], [], rfl, rfl⟩
  | z :: r => by
    rw [ins]
    split
    · exact ⟨[], z :: r, rfl, rfl⟩
    · obtain ⟨pre, post, h1, h2⟩ := ins_parts x r
      exact ⟨z :: pre, post, by rw [h1]; rfl, by rw [h2]; rfl⟩
theorem Up.ne {pre post : List Fl} {x : Fl} (h : Up (pre ++ x :: post)) : (∀ y ∈ pre, y.n ≠ x.n) ∧ (∀ y ∈ post, y.n ≠ x.n) := by
  obtain ⟨_, h2, h3⟩ := List.pairwise_append.1 h
  obtain ⟨h4, _⟩ := List.pairwise_cons.1 h2
  refine ⟨fun y hy e => ?_, fun y hy e => ?_⟩
  · have := h3 y hy x (List.mem_cons_self ..)
    rw [e, WideAt.bytes_irrefl] at this
    cases this
  · have := h4 y hy
    rw [e, WideAt.bytes_irrefl] at this
    cases this

/-- Files, as all see them: name, bytes, how many are synced. -/
abbrev Pf := List UInt8 × List Int × Nat
def pl (x : Fl) : Pf := (x.n, x.a, x.f)
def usedP : List Pf → Nat
  | [] => 0
  | y :: r => y.2.1.length + usedP r
def lookP (s : List UInt8) : List Pf → Option (List Int × Nat)
  | [] => none
  | y :: r => if y.1 == s then some y.2 else lookP s r
def insP (x : Pf) : List Pf → List Pf
  | [] => [x]
  | y :: r => if bytesBefore x.1 y.1 then x :: y :: r else y :: insP x r
def updP (s : List UInt8) (g : List Int × Nat) (P : List Pf) : List Pf := P.map fun y => if y.1 == s then (y.1, g) else y
def delP (s : List UInt8) (P : List Pf) : List Pf := P.filter fun y => !(y.1 == s)
def crashP : Nat → List Pf → List Pf
  | _, [] => []
  | k, y :: r => (y.1, y.2.1.take (y.2.2 + min k (y.2.1.length - y.2.2)), y.2.2 + min k (y.2.1.length - y.2.2)) :: crashP (k - min k (y.2.1.length - y.2.2)) r
theorem ins_pl (x : Fl) : ∀ L : List Fl, (ins x L).map pl = insP (pl x) (L.map pl)
  | [] => rfl
  | y :: r => by
    rw [ins, List.map_cons, insP]
    have e : bytesBefore (pl x).1 (pl y).1 = bytesBefore x.n y.n := rfl
    rw [e]
    split
    · rfl
    · rw [List.map_cons, ins_pl x r]
theorem look_none {s : List UInt8} : ∀ {L : List Fl}, lookP s (L.map pl) = none → ∀ y ∈ L, y.n ≠ s
  | z :: r, h, y, hy => by
    rw [List.map_cons, lookP] at h
    split at h
    · cases h
    · rename_i hz
      rcases List.mem_cons.1 hy with rfl | hy
      · simpa [pl] using hz
      · exact look_none h y hy
theorem look_some {s : List UInt8} {a : List Int} {f : Nat} : ∀ {L : List Fl}, lookP s (L.map pl) = some (a, f) → ∃ pre x post, L = pre ++ x :: post ∧ x.n = s ∧ x.a = a ∧ x.f = f
  | z :: r, h => by
    rw [List.map_cons, lookP] at h
    split at h
    · rename_i hz
      simp only [pl, Option.some.injEq, Prod.mk.injEq] at h
      exact ⟨[], z, r, rfl, by simpa [pl] using hz, h.1, h.2⟩
    · obtain ⟨pre, x, post, rfl, h1⟩ := look_some h
      exact ⟨z :: pre, x, post, rfl, h1⟩
theorem updP_pl {pre post : List Fl} {x x' : Fl} (h : Up (pre ++ x :: post)) (hn : x'.n = x.n) : updP x.n (x'.a, x'.f) ((pre ++ x :: post).map pl) = (pre ++ x' :: post).map pl := by
  obtain ⟨h1, h2⟩ := h.ne
  have e : ∀ L : List Fl, (∀ y ∈ L, y.n ≠ x.n) → (L.map pl).map (fun y : Pf => if y.1 == x.n then (y.1, (x'.a, x'.f)) else y) = L.map pl := by
    intro L hL
    rw [List.map_map]
    refine List.map_congr_left fun y hy => ?_
    have := hL y hy
    simp [pl, this]
  unfold updP
  rw [List.map_append, List.map_append, List.map_cons, List.map_cons, e pre h1, e post h2, List.map_append, List.map_cons]
  simp [pl, hn]
theorem delP_pl {pre post : List Fl} {x : Fl} (h : Up (pre ++ x :: post)) : delP x.n ((pre ++ x :: post).map pl) = (pre ++ post).map pl := by
  obtain ⟨h1, h2⟩ := h.ne
  have e : ∀ L : List Fl, (∀ y ∈ L, y.n ≠ x.n) → (L.map pl).filter (fun y : Pf => !(y.1 == x.n)) = L.map pl := by
    intro L hL
    refine List.filter_eq_self.2 fun y hy => ?_
    obtain ⟨z, hz, rfl⟩ := List.mem_map.1 hy
    have := hL z hz
    simpa [pl] using this
  unfold delP
  rw [List.map_append, List.filter_append, List.map_cons, e pre h1, List.filter_cons, e post h2, List.map_append]
  simp [pl]
theorem usedP_append : ∀ a b : List Pf, usedP (a ++ b) = usedP a + usedP b
  | [], b => by simp [usedP]
  | y :: r, b => by simp [usedP, usedP_append r b]; omega
def used (L : List Fl) : Nat := usedP (L.map pl)
theorem used_mid (pre post : List Fl) (x : Fl) : used (pre ++ x :: post) = used (pre ++ post) + x.a.length := by
  simp only [used, List.map_append, List.map_cons, usedP_append, usedP, pl]
  omega
theorem used_ins (x : Fl) (L : List Fl) : used (ins x L) = used L + x.a.length := by
  obtain ⟨pre, post, h1, h2⟩ := ins_parts x L
  rw [h1, used_mid, ← h2]
theorem bb_le : ∀ a b : List UInt8, bytesBefore a b = true → a ≤ b
  | [], b, _ => List.nil_le b
  | _ :: _, [], h => by simp [bytesBefore] at h
  | x :: r, y :: s, h => by
    simp only [bytesBefore, Bool.or_eq_true, decide_eq_true_eq, Bool.and_eq_true, beq_iff_eq] at h
    rcases h with h | ⟨rfl, h⟩
    · exact List.cons_le_cons_iff.2 (.inl h)
    · exact List.cons_le_cons_iff.2 (.inr ⟨rfl, bb_le r s h⟩)
theorem names_sorted {L : List Fl} (h : Up L) {ss : List (List UInt8)} (hp : ss.Perm (L.map (·.n))) : ss.mergeSort leB = L.map (·.n) := by
  rw [mergeSort_of_perm hp]
  refine List.mergeSort_of_pairwise ?_
  rw [List.pairwise_map]
  exact h.imp fun hxy => by simpa using bb_le _ _ hxy
end Go.Proofs.Ytmhmdnlkkpjdjaa

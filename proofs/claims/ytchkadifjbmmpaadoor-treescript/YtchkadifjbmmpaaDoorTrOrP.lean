/-
  TreeOrigins: plain facts; a row of digests.
-/
import Derived.Test.YtchkadifjbmmpaaDoorTrAwk
import Derived.Test.YtchkadifjbmmpaaDoorWDigAwake
namespace Go.Proofs.YtchkadifjbmmpaaDoor
open Go.RowKit Go.Lib Go.Maps
set_option maxRecDepth 100000
set_option linter.unusedSimpArgs false

/-- Dropped are those of one origin. -/
def dropW (wh : Int) (S : Sb) (l : List R.Rc) : Sb := l.foldl (fun S r => if r.o = wh then dropS S (kyR r) else S) S
theorem dropW_next (wh : Int) (S : Sb) (l : List R.Rc) (i : Nat) (h : i < l.length) : dropW wh S (l.take (i + 1)) = if l[i].o = wh then dropS (dropW wh S (l.take i)) (kyR l[i]) else dropW wh S (l.take i) := by
  unfold dropW
  rw [List.take_succ_eq_append_getElem h, List.foldl_append]
  rfl
theorem dropW_len (wh : Int) : ∀ (l : List R.Rc) (S : Sb), (dropW wh S l).length ≤ S.length
  | [], _ => Nat.le_refl _
  | r :: l, S => by
    have h1 := dropW_len wh l (if r.o = wh then dropS S (kyR r) else S)
    have h2 : (if r.o = wh then dropS S (kyR r) else S).length ≤ S.length := by
      split
      · exact dropS_len S _
      · exact Nat.le_refl _
    exact Nat.le_trans h1 h2
theorem dropW_leaf (wh : Int) (o m : Nat) (ho : (o : Int) ≠ wh) : ∀ (l : List R.Rc) (S : Sb), leafS (dropW wh S l) o m = leafS S o m
  | [], _ => rfl
  | r :: l, S => by
    have h1 := dropW_leaf wh o m ho l (if r.o = wh then dropS S (kyR r) else S)
    refine h1.trans ?_
    split
    · rename_i h
      rw [leaf_drop, if_neg (fun e => ho (by have := congrArg Prod.fst e; simp only [kyR] at this; omega))]
    · rfl
theorem dropW_mem (wh : Int) : ∀ (l : List R.Rc) (S : Sb) (x : Ky × List Int), x ∈ dropW wh S l → x ∈ S ∧ ∀ r ∈ l, r.o = wh → x.1 ≠ kyR r
  | [], _, x, h => ⟨h, fun r hr => by cases hr⟩
  | r :: l, S, x, h => by
    obtain ⟨h1, h2⟩ := dropW_mem wh l (if r.o = wh then dropS S (kyR r) else S) x h
    by_cases hr : r.o = wh
    · rw [if_pos hr] at h1
      obtain ⟨h3, h4⟩ := List.mem_filter.1 h1
      rw [decide_eq_true_eq] at h4
      refine ⟨h3, fun r' hr' hw => ?_⟩
      rcases List.mem_cons.1 hr' with rfl | hr'
      · exact h4
      · exact h2 r' hr' hw
    · rw [if_neg hr] at h1
      refine ⟨h1, fun r' hr' hw => ?_⟩
      rcases List.mem_cons.1 hr' with rfl | hr'
      · exact absurd hw hr
      · exact h2 r' hr' hw
theorem putSs_from : ∀ (l : List R.Rc) (S : Sb) (x : Ky × List Int), x ∈ putSs S l → x ∈ S ∨ ∃ r ∈ l, x.1 = kyR r
  | [], _, x, h => .inl h
  | r :: l, S, x, h => by
    rcases putSs_from l (putS S r) x h with h1 | ⟨r', hr', e⟩
    · unfold putS at h1
      split at h1
      · rcases List.mem_append.1 h1 with h1 | h1
        · exact .inl h1
        · rw [List.mem_singleton.1 h1]
          exact .inr ⟨r, by simp, rfl⟩
      · exact .inl h1
    · exact .inr ⟨r', by simp [hr'], e⟩
theorem treeF_zero {S : Sb} {o : Nat} (h : ∀ m, m < 1024 → leafS S o m = 0) (a : Nat) (ha : a < 1365) : treeF S o a = 0 :=
  (treeF_uniq (G := fun _ => 0) (fun a _ => by unfold Cons; rfl) (fun m hm => (h m hm).symm) 1365 a (by omega) ha).symm
theorem gone_leaf (l : List R.Rc) (wh m : Nat) : leafS (dropW (wh : Int) (putSs [] l) l) wh m = 0 := by
  have : (dropW (wh : Int) (putSs [] l) l).find? (fun x => decide (x.1 = ((wh : Int), (m : Int)))) = none := by
    rw [List.find?_eq_none]
    intro x hx hd
    rw [decide_eq_true_eq] at hd
    obtain ⟨h1, h2⟩ := dropW_mem _ _ _ _ hx
    rcases putSs_from l [] x h1 with h | ⟨r, hr, e⟩
    · cases h
    · refine h2 r hr ?_ e
      have := congrArg Prod.fst (hd.symm.trans e)
      simp only [kyR] at this
      exact this.symm
  unfold leafS
  rw [this]
theorem sumV_congr {F G : Nat → Nat → Int} {o : Nat} (h : ∀ a, a < 1365 → F o a = G o a) (L i : Int) : sumV F (o : Int) L i = sumV G (o : Int) L i := by
  unfold sumV
  split
  · rename_i hB
    unfold sumB at hB
    rw [decide_eq_true_eq] at hB
    obtain ⟨h1, h2, h3, h4, h5, h6⟩ := hB
    rw [Int.toNat_natCast]
    refine h _ ?_
    have hp := pl_step L.toNat (by omega)
    unfold cnt at h6
    omega
  · rfl
theorem sumV_far (wh : Int) (l : List R.Rc) (S : Sb) (o : Nat) (ho : (o : Int) ≠ wh) (L i : Int) : sumV (treeF (dropW wh S l)) (o : Int) L i = sumV (treeF S) (o : Int) L i :=
  sumV_congr (fun a ha => treeF_same (fun m _ => dropW_leaf wh o m ho l S) a ha) L i
theorem sumV_gone (wh : Nat) (l : List R.Rc) (L i : Int) : sumV (treeF (dropW (wh : Int) (putSs [] l) l)) (wh : Int) L i = 0 := by
  rw [sumV_congr (G := fun _ _ => 0) (fun a ha => treeF_zero (fun m _ => gone_leaf l wh m) a ha) L i]
  unfold sumV
  split <;> rfl
theorem sumB_top (wh : Nat) (h : wh < 8) : sumB (wh : Int) 0 0 = true := by
  unfold sumB
  rw [decide_eq_true_eq]
  exact ⟨by omega, by omega, by decide, by decide, by decide, by decide⟩
/-- A row of digests of one's own. -/
def digs (l : List Int) : List Value := l.map (Value.int .u64)
def DRow (w : World) (B : Nat) (v : Value) (l : List Int) : Prop := w.ownsRow B 44 1 v l.length (digs l)
theorem digInfo : (Tryd.prog.info? 44).map (fun i => (i.zero, i.size, i.bytes)) = some (some (.int .u64 0), 1, 8) := by kernel_rfl
theorem dapp_run (l : List Int) (x : Int) (v : Value) (g : Nat) (w : World) (ty : TypeId) (B : Nat) (h : DRow w B v l) (hg : w.cell? ⟨g, 0, none⟩ = some (.int .u64 x)) (hn : l.length ≤ 10000000) (hB : B ≤ w.heap.size) :
    ∃ A C w1, (Builtin.append_ #[53, 53] ty #[v, .slice (some ⟨g, 0, none⟩) 1 1]).run Tryd.prog w = .ok (.slice A (l.length + 1) C) w1 ∧ DRow w1 B (.slice A (l.length + 1) C) (l ++ [x]) ∧ w.grownBy w1 v.ownBlock := by
  obtain ⟨i0, hi, hz0, hz1, hz2⟩ := info_parts digInfo
  obtain ⟨v', w', h1, h2, h4, _, h5⟩ := run_append_own_at (P := Tryd.prog) w B 53 ty 44 i0 _ 1 8 Tryd.underlying53 hi hz0 hz1 hz2 rfl (by decide) v l.length (digs l) h ⟨g, 0, none⟩ 1 1 [.int .u64 x] rfl
    (fun j u hj => by
      have hj0 : j = 0 := by
        have := (List.getElem?_eq_some_iff.1 hj).1
        simpa using this
      subst hj0
      rw [Go.WideShapes.add_plain, Nat.zero_add, hg]
      simpa using hj) (fun u hu => by simp at hu; subst hu; rfl) (by unfold maxLen; omega) (by omega) hB
  have hr : DRow w' B v' (l ++ [x]) := by
    unfold DRow
    rw [List.length_append, List.length_singleton, show digs (l ++ [x]) = digs l ++ [.int .u64 x] from by simp [digs]]
    exact h2
  rcases hr.2 with ⟨_, h0⟩ | ⟨g2, cap, cur, rfl, _⟩
  · simp at h0
  · rw [List.length_append, List.length_singleton] at h1 hr
    exact ⟨_, _, w', h1, hr, h4⟩
theorem DRow.at {w : World} {B g cap : Nat} {l : List Int} (h : DRow w B (.slice (some ⟨g, 0, none⟩) l.length cap) l) (k : Nat) (hk : k < l.length) : w.cell? ⟨g, k, none⟩ = some (.int .u64 l[k]) := by
  have hl : (digs l).length = l.length := List.length_map ..
  rw [World.ownsRow.cellAt h k (by omega)]
  simp [digs, hk]
theorem DRow.below {w w' : World} {B : Nat} {v : Value} {l : List Int} (h : DRow w B v l) (hb : Below w.heap.size w w') : DRow w' B v l := D.own_below h hb
end Go.Proofs.YtchkadifjbmmpaaDoor

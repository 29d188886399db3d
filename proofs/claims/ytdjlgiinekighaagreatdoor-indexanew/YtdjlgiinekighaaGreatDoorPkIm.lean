/-
  A map of one's own, as a plain list of keys with their values: looked up, stored into, struck from, gone through.
-/
import Derived.Test.YtdjlgiinekighaaGreatDoorProg
import Derived.Maps.Views
import Derived.Maps.OwnSet
import Derived.Maps.Range
import Derived.Maps.RangeWalk
import Derived.Below
import Derived.WideKeyEntry
import Derived.Sort.MapsRangeIn
import Derived.RangeFuncSeq
import Derived.Test.YtdjlgiinekighaaGreatDoorPkIp
import Derived.Test.YtdjlgiinekighaaGreatDoorPkIq
import Derived.Shelf.AbstractIn
import Derived.WalkKit
import Derived.OwnWalkIn
import Derived.TacticsInMore
import Derived.RegionIn
import Derived.LoopNIn
import Derived.LoopIn
import Derived.RangeFuncNested
import Derived.RangeFuncCalls
import Derived.RangeFuncBound
import Derived.RangeFuncLeaves
import Derived.Test.YtdjlgiinekighaaGreatDoorSorti
namespace Go.Proofs.YtdjlgiinekighaaGreatDoor
open Go.RowKit Go.Maps

/-- An element reads as itself. -/
def RV (v : Value) : Option (DataW Value × List MemPlace) := some (.held v, [])
/-- D is what the list says. -/
structure Rep (P : Program) (kt : TypeId) (D : DataW Value) (m : List (Value × Value)) : Prop where
  ti : Tidy D
  sz : size D = m.length
  nd : (m.map Prod.fst).Nodup
  ky : ∀ p ∈ m, ∃ l, keyOf P kt p.1 = some l
  hs : ∀ key l, keyOf P kt key = some l → (has D l = true ↔ key ∈ m.map Prod.fst)
  vl : ∀ key v l, (key, v) ∈ m → keyOf P kt key = some l → ∀ z, D.atKey l z = .held v
theorem Rep.nil (P : Program) (kt : TypeId) : Rep P kt (.map []) [] :=
  ⟨tidy_empty, rfl, List.nodup_nil, fun p hp => (by cases hp), fun key l h => (by simp [has]), fun key v l h => (by cases h)⟩
theorem Rep.no {P : Program} {kt : TypeId} {D : DataW Value} {m : List (Value × Value)} (h : Rep P kt D m) {key : Value} {l : Lit} (hk : keyOf P kt key = some l) (hn : key ∉ m.map Prod.fst) : has D l = false := by
  cases hh : has D l with
  | false => rfl
  | true => exact absurd ((h.hs key l hk).1 hh) hn
theorem key_ne {P : Program} {kt : TypeId} {a b : Value} {la lb : Lit} (ha : keyOf P kt a = some la) (hb : keyOf P kt b = some lb) (h : la ≠ lb) : a ≠ b := fun e => by
  subst e
  rw [ha] at hb
  exact h (Option.some.inj hb)
theorem Rep.add {P : Program} {kt : TypeId} (K : Keyed P kt) {D : DataW Value} {m : List (Value × Value)} (h : Rep P kt D m) {key v : Value} {l : Lit} (hk : keyOf P kt key = some l) (hn : key ∉ m.map Prod.fst) : Rep P kt (D.put l (.held v)) (m ++ [(key, v)]) := by
  have hno := h.no hk hn
  refine ⟨h.ti.put (K.key hk) _, by rw [size_put h.ti, hno, h.sz]; simp, ?_, ?_, ?_, ?_⟩
  · rw [List.map_append, List.nodup_append]
    exact ⟨h.nd, by simp, fun a ha b hb => by simp at hb; subst hb; rintro rfl; exact hn ha⟩
  · intro p hp
    rcases List.mem_append.1 hp with hp | hp
    · exact h.ky p hp
    · simp only [List.mem_singleton] at hp; subst hp; exact ⟨l, hk⟩
  · intro k2 l2 hk2
    by_cases e : l2 = l
    · subst e
      obtain rfl : k2 = key := K.inj hk2 hk
      rw [has_put_same h.ti.isMap (K.key hk)]
      simp
    · rw [has_put_other e, h.hs k2 l2 hk2]
      have := key_ne hk2 hk e
      simp [this]
  · intro k2 v2 l2 hm hk2 z
    by_cases e : l2 = l
    · subst e
      obtain rfl : k2 = key := K.inj hk2 hk
      rcases List.mem_append.1 hm with hm | hm
      · exact absurd (List.mem_map_of_mem hm) hn
      · simp only [List.mem_singleton, Prod.mk.injEq, true_and] at hm
        subst hm
        rw [atKey_put_same h.ti.isMap (K.key hk)]
    · rw [atKey_put_other e]
      rcases List.mem_append.1 hm with hm | hm
      · exact h.vl k2 v2 l2 hm hk2 z
      · simp only [List.mem_singleton, Prod.mk.injEq] at hm
        exact absurd hm.1 (key_ne hk2 hk e)
theorem nodup_mid {pre post : List (Value × Value)} {key v : Value} (h : ((pre ++ (key, v) :: post).map Prod.fst).Nodup) : key ∉ (pre ++ post).map Prod.fst ∧ ((pre ++ post).map Prod.fst).Nodup := by
  rw [List.map_append, List.map_cons, List.nodup_append, List.nodup_cons] at h
  obtain ⟨h1, ⟨h2, h3⟩, h4⟩ := h
  rw [List.map_append]
  refine ⟨fun hk => ?_, List.nodup_append.2 ⟨h1, h3, fun a ha b hb => h4 a ha b (List.mem_cons_of_mem _ hb)⟩⟩
  rcases List.mem_append.1 hk with hk | hk
  · exact h4 _ hk _ (List.mem_cons_self ..) rfl
  · exact h2 hk
theorem Rep.set {P : Program} {kt : TypeId} (K : Keyed P kt) {D : DataW Value} {pre post : List (Value × Value)} {key u v : Value} {l : Lit} (h : Rep P kt D (pre ++ (key, u) :: post)) (hk : keyOf P kt key = some l) : Rep P kt (D.put l (.held v)) (pre ++ (key, v) :: post) := by
  have e0 : (pre ++ (key, v) :: post).map Prod.fst = (pre ++ (key, u) :: post).map Prod.fst := by simp
  have hin : key ∈ (pre ++ (key, u) :: post).map Prod.fst := by simp
  have hhas := (h.hs key l hk).2 hin
  obtain ⟨hno, _⟩ := nodup_mid h.nd
  refine ⟨h.ti.put (K.key hk) _, by rw [size_put h.ti, hhas, if_pos rfl, h.sz]; simp, by rw [e0]; exact h.nd, ?_, ?_, ?_⟩
  · intro p hp
    have : p.1 ∈ (pre ++ (key, u) :: post).map Prod.fst := by rw [← e0]; exact List.mem_map_of_mem hp
    obtain ⟨q, hq, e⟩ := List.mem_map.1 this
    rw [← e]
    exact h.ky q hq
  · intro k2 l2 hk2
    rw [e0]
    by_cases e : l2 = l
    · subst e
      obtain rfl : k2 = key := K.inj hk2 hk
      rw [has_put_same h.ti.isMap (K.key hk)]
      simp
    · rw [has_put_other e, h.hs k2 l2 hk2]
  · intro k2 v2 l2 hm hk2 z
    have hm' : (k2, v2) = (key, v) ∨ (k2, v2) ∈ pre ++ post := by
      rcases List.mem_append.1 hm with hm | hm
      · exact .inr (List.mem_append.2 (.inl hm))
      · rcases List.mem_cons.1 hm with hm | hm
        · exact .inl hm
        · exact .inr (List.mem_append.2 (.inr hm))
    by_cases e : l2 = l
    · subst e
      obtain rfl : k2 = key := K.inj hk2 hk
      rcases hm' with hm | hm
      · simp only [Prod.mk.injEq, true_and] at hm
        subst hm
        rw [atKey_put_same h.ti.isMap (K.key hk)]
      · exact absurd (List.mem_map_of_mem hm) hno
    · rw [atKey_put_other e]
      rcases hm' with hm | hm
      · exact absurd (congrArg Prod.fst hm) (key_ne hk2 hk e)
      · refine h.vl k2 v2 l2 ?_ hk2 z
        rcases List.mem_append.1 hm with hm | hm
        · exact List.mem_append.2 (.inl hm)
        · exact List.mem_append.2 (.inr (List.mem_cons_of_mem _ hm))
theorem Rep.del {P : Program} {kt : TypeId} (K : Keyed P kt) {D : DataW Value} {pre post : List (Value × Value)} {key u : Value} {l : Lit} (h : Rep P kt D (pre ++ (key, u) :: post)) (hk : keyOf P kt key = some l) : Rep P kt (D.del l) (pre ++ post) := by
  obtain ⟨hno, hnd⟩ := nodup_mid h.nd
  have hin : key ∈ (pre ++ (key, u) :: post).map Prod.fst := by simp
  have hhas := (h.hs key l hk).2 hin
  have hsub : ∀ p ∈ pre ++ post, p ∈ pre ++ (key, u) :: post := fun p hm => by
    rcases List.mem_append.1 hm with hm | hm
    · exact List.mem_append.2 (.inl hm)
    · exact List.mem_append.2 (.inr (List.mem_cons_of_mem _ hm))
  refine ⟨h.ti.del l, ?_, hnd, fun p hp => h.ky p (hsub p hp), ?_, ?_⟩
  · have := size_del (k := l) h.ti
    rw [hhas, if_pos rfl, h.sz] at this
    simp at this ⊢
    omega
  · intro k2 l2 hk2
    by_cases e : l2 = l
    · subst e
      obtain rfl : k2 = key := K.inj hk2 hk
      rw [has_del_same]
      simp only [Bool.false_eq_true, false_iff]
      exact hno
    · rw [has_del_other e, h.hs k2 l2 hk2]
      have := key_ne hk2 hk e
      simp [this]
  · intro k2 v2 l2 hm hk2 z
    have e : l2 ≠ l := fun e => by
      subst e
      obtain rfl : k2 = key := K.inj hk2 hk
      exact hno (List.mem_map_of_mem hm)
    rw [atKey_del_other e]
    exact h.vl k2 v2 l2 (hsub _ hm) hk2 z
theorem Rep.del_no {P : Program} {kt : TypeId} {D : DataW Value} {m : List (Value × Value)} (h : Rep P kt D m) {key : Value} {l : Lit} (hk : keyOf P kt key = some l) (hn : key ∉ m.map Prod.fst) : D.del l = D := del_of_not_has (h.no hk hn)

theorem owns_tight {w : World} {P : Program} {k : TypeId} {b n : Nat} {D : DataW Value} (h : w.ownsMap P k RV b n D) {n' : Nat} (hn : size D = n') : w.ownsMap P k RV b n' D := by
  obtain ⟨es, clock, h1, h2, h3, h4⟩ := h
  refine ⟨es, clock, h1, h2, ?_, h4⟩
  subst hn h4
  simp [size, length_sorted]
/-- Block b is the map that the list says. -/
def PM (P : Program) (w : World) (kt : TypeId) (b : Nat) (m : List (Value × Value)) : Prop := ∃ D, w.ownsMap P kt RV b m.length D ∧ Rep P kt D m
theorem PM.of_block {P : Program} {w w' : World} {kt : TypeId} {b : Nat} {m : List (Value × Value)} (h : PM P w kt b m) (hb : w'.heap[b]? = w.heap[b]?) : PM P w' kt b m := by
  obtain ⟨D, ⟨es, clock, h1, h2⟩, h3⟩ := h
  exact ⟨D, ⟨es, clock, hb.trans h1, h2⟩, h3⟩
theorem PM.lt {P : Program} {w : World} {kt : TypeId} {b : Nat} {m : List (Value × Value)} (h : PM P w kt b m) : b < w.heap.size := by obtain ⟨D, h1, _⟩ := h; exact h1.lt
theorem PM.below {P : Program} {w w' : World} {kt : TypeId} {b : Nat} {m : List (Value × Value)} (h : PM P w kt b m) (hb : Below w.heap.size w w') : PM P w' kt b m := h.of_block (hb.block b h.lt)
theorem PM.nd {P : Program} {w : World} {kt : TypeId} {b : Nat} {m : List (Value × Value)} (h : PM P w kt b m) : (m.map Prod.fst).Nodup := by obtain ⟨D, _, h2⟩ := h; exact h2.nd
theorem PM.new (P : Program) (w : World) (kt : TypeId) : PM P (w.alloc (.map #[] 0)) kt w.heap.size [] := ⟨.map [], World.ownsMap_made w P kt RV, Rep.nil P kt⟩
theorem PM.not_cells {P : Program} {w : World} {kt : TypeId} {b : Nat} {m : List (Value × Value)} (h : PM P w kt b m) {i : Nat} {x : Array Value} {s : TypeId} {z : Nat × Nat} (hx : w.heap[i]? = some (.cells x s z)) : i ≠ b := by
  rintro rfl
  obtain ⟨D, ⟨es, clock, h1, _⟩, _⟩ := h
  rw [hx] at h1
  cases h1

section
variable {P : Program} {w : World} {kt t e : TypeId} {b : Nat} {m : List (Value × Value)}
theorem RV_held {v x : Value} {ps : List MemPlace} (h : RV v = some (.held x, ps)) : v = x := by
  simp only [RV, Option.some.injEq, Prod.mk.injEq, DataW.held.injEq] at h
  exact h.1
/-- 'v, ok := m[k]' and 'm[k]'. -/
theorem PM.look (h : PM P w kt b m) (K : Keyed P kt) (ht : P.underlying t = some (.map kt e)) {z : Value} (hz : ∀ w, (zeroValue e).run P w = .ok z w) {key : Value} {l : Lit} (hk : keyOf P kt key = some l) {v : Value} (hm : (key, v) ∈ m) :
    (Instr.lookup t (.map (some b)) key true).run P w = .ok (.tuple #[v, .bool true]) w ∧ (Instr.lookup t (.map (some b)) key false).run P w = .ok v w := by
  obtain ⟨D, ho, hr⟩ := h
  have hat := hr.vl key v l hm hk
  obtain ⟨es, clock, hb, F, hs, rfl⟩ := ho
  have one : ∀ c, (Instr.lookup t (.map (some b)) key c).run P w = .ok (if c then .tuple #[v, .bool true] else v) w := fun c => by
    rcases fit_look c K ht (hz w) hb F hk with ⟨_, _, h3⟩ | ⟨e0, y, _, _, h1, h2, h3, _⟩
    · have a := hat .nil
      rw [h3] at a
      cases a
    · have a := hat .nil
      rw [h3] at a
      have : e0.val = v := by
        simp only [RV, Option.some.injEq] at h2
        rw [← h2] at a
        simpa using a
      rw [h1, this]
  exact ⟨one true, one false⟩
theorem PM.look_no (h : PM P w kt b m) (K : Keyed P kt) (ht : P.underlying t = some (.map kt e)) {z : Value} (hz : ∀ w, (zeroValue e).run P w = .ok z w) {key : Value} {l : Lit} (hk : keyOf P kt key = some l) (hn : key ∉ m.map Prod.fst) :
    (Instr.lookup t (.map (some b)) key true).run P w = .ok (.tuple #[z, .bool false]) w ∧ (Instr.lookup t (.map (some b)) key false).run P w = .ok z w := by
  obtain ⟨D, ho, hr⟩ := h
  have hno := hr.no hk hn
  obtain ⟨es, clock, hb, F, hs, rfl⟩ := ho
  have one : ∀ c, (Instr.lookup t (.map (some b)) key c).run P w = .ok (if c then .tuple #[z, .bool false] else z) w := fun c => by
    rcases fit_look c K ht (hz w) hb F hk with ⟨h1, _, _⟩ | ⟨e0, y, _, _, h1, h2, h3, _⟩
    · exact h1
    · rw [has_true_of_atKey h3] at hno
      cases hno
  exact ⟨one true, one false⟩
theorem PM.len (h : PM P w kt b m) (ht : P.underlying t = some (.map kt e)) (ty : TypeId) : (Builtin.len_ #[t] ty #[.map (some b)]).run P w = .ok (.int .i64 m.length) w := by
  obtain ⟨D, ho, hr⟩ := h
  rw [ho.len ht ty, hr.sz]
/-- What a store or a strike turns: the map's block alone. -/
theorem PM.add (h : PM P w kt b m) (K : Keyed P kt) (ht : P.underlying t = some (.map kt e)) (hl : m.length < maxLen) {key v : Value} {l : Lit} (hk : keyOf P kt key = some l) (hn : key ∉ m.map Prod.fst) :
    ∃ w', (Instr.mapUpdate t (.map (some b)) key v).run P w = .ok () w' ∧ PM P w' kt b (m ++ [(key, v)]) ∧ w.mapTurned w' b := by
  obtain ⟨D, ho, hr⟩ := h
  obtain ⟨w', h1, h2, h3⟩ := ho.store K ht hl hk (val := v) (d := .held v) (ps := []) rfl
  have hr' := hr.add K (v := v) hk hn
  exact ⟨w', h1, ⟨_, owns_tight h2 hr'.sz, hr'⟩, h3⟩
theorem PM.set {pre post : List (Value × Value)} {key u : Value} (h : PM P w kt b (pre ++ (key, u) :: post)) (K : Keyed P kt) (ht : P.underlying t = some (.map kt e)) (hl : (pre ++ (key, u) :: post).length < maxLen) {v : Value} {l : Lit} (hk : keyOf P kt key = some l) :
    ∃ w', (Instr.mapUpdate t (.map (some b)) key v).run P w = .ok () w' ∧ PM P w' kt b (pre ++ (key, v) :: post) ∧ w.mapTurned w' b := by
  obtain ⟨D, ho, hr⟩ := h
  obtain ⟨w', h1, h2, h3⟩ := ho.store K ht hl hk (val := v) (d := .held v) (ps := []) rfl
  have hr' := hr.set K (v := v) hk
  exact ⟨w', h1, ⟨_, owns_tight h2 hr'.sz, hr'⟩, h3⟩
theorem PM.del {pre post : List (Value × Value)} {key u : Value} (h : PM P w kt b (pre ++ (key, u) :: post)) (K : Keyed P kt) (ht : P.underlying t = some (.map kt e)) {l : Lit} (hk : keyOf P kt key = some l) (ty : TypeId) :
    ∃ w', (Builtin.delete_ #[t, kt] ty #[.map (some b), key]).run P w = .ok (.tuple #[]) w' ∧ PM P w' kt b (pre ++ post) ∧ w.mapTurned w' b := by
  obtain ⟨D, ho, hr⟩ := h
  obtain ⟨w', h1, h2, h3⟩ := ho.drop K ht hk ty
  have hr' := hr.del K hk
  exact ⟨w', h1, ⟨_, owns_tight h2 hr'.sz, hr'⟩, h3⟩
theorem PM.del_no (h : PM P w kt b m) (K : Keyed P kt) (ht : P.underlying t = some (.map kt e)) {key : Value} {l : Lit} (hk : keyOf P kt key = some l) (hn : key ∉ m.map Prod.fst) (ty : TypeId) :
    ∃ w', (Builtin.delete_ #[t, kt] ty #[.map (some b), key]).run P w = .ok (.tuple #[]) w' ∧ PM P w' kt b m ∧ w.mapTurned w' b := by
  obtain ⟨D, ho, hr⟩ := h
  obtain ⟨w', h1, h2, h3⟩ := ho.drop K ht hk ty
  rw [hr.del_no hk hn] at h2
  exact ⟨w', h1, ⟨D, h2, hr⟩, h3⟩

theorem set_block_at {w : World} {b : Nat} {es es' : Array MapEntry} {c c' : Nat} (h : w.heap[b]? = some (.map es c)) : (Go.ChangeMaps.setBlock w b (.map es' c')).heap[b]? = some (.map es' c') := (Go.ChangeMaps.heap_setBlock_same h _)
/-- 'm[k] = f(m[k])': what is there is handed out (the zero value, if nothing is); what is stored then stands there. -/
theorem PM.entry_at {pre post : List (Value × Value)} {key u : Value} (h : PM P w kt b (pre ++ (key, u) :: post)) (K : Go.WideMaps.KeyLaw P kt) (ht : P.underlying t = some (.map kt e)) {z : Value} (hz : ∀ w, (zeroValue e).run P w = .ok z w) (hl : (pre ++ (key, u) :: post).length < maxLen) {l : Lit} (hk : keyOf P kt key = some l) :
    ∃ (st : Nat) (w1 : World), (Instr.mapEntry t (.map (some b)) key).run P w = .ok (.tuple #[u, goInt st]) w1 ∧ w.mapTurned w1 b ∧ ∀ (w2 : World) (v : Value), w2.heap[b]? = w1.heap[b]? → ∃ w3, (Instr.entryStore t (.map (some b)) (goInt st) v).run P w2 = .ok () w3 ∧ w2.mapTurned w3 b ∧ PM P w3 kt b (pre ++ (key, v) :: post) := by
  have hpm := h
  obtain ⟨D, ⟨es, clock, hb, F, hs, rfl⟩, hr⟩ := h
  obtain ⟨v0, st, es1, clock1, h1, h2, h3⟩ := Go.WideElems.entry_then_store K ht hz hb F hk
  have hv0 : v0 = u := by
    have hlk := (hpm.look (Keyed.of_law K) ht hz hk (v := u) (by simp)).2
    rcases fit_look false (Keyed.of_law K) ht (hz w) hb F hk with ⟨_, hno, _⟩ | ⟨e0, y, hm0, hk0, hrun, _⟩
    · rcases h2 with ⟨e0, hm, he, _⟩ | ⟨_, _⟩
      · exact absurd he (hno e0 hm)
      · have := hr.no hk
        exact absurd (hr.hs key l hk |>.2 (by simp)) (by
          intro hh
          obtain ⟨p, hp, hpk⟩ := List.any_eq_true.1 hh
          obtain ⟨x, hx, rfl⟩ := List.mem_map.1 (mem_sorted.1 hp)
          obtain ⟨y, hy⟩ := F.reads x hx
          have m1 := Go.WideElems.rd_key hy
          rw [Go.WideElems.rg_of hy] at hpk
          rw [WideAt.sameKey_eq hpk] at m1
          exact hno x hx ((Keyed.of_law K).inj m1 hk))
    · rw [hrun] at hlk
      simp only [Bool.false_eq_true, if_false, Result.ok.injEq, and_true] at hlk
      rcases h2 with ⟨e1, hm1, he1, hv1⟩ | ⟨hno, _⟩
      · have : e1 = e0 := entry_eq_of_key ((Go.MapKept.stamped_iff es clock).1 F.stamped).2.2 hm1 hm0 (he1.trans hk0.symm)
        rw [hv1, this, hlk]
      · exact absurd hk0 (hno e0 hm0)
  subst hv0
  refine ⟨st, _, h1, ⟨es, clock, es1, clock1, hb, rfl⟩, fun w2 v hw2 => ?_⟩
  rw [set_block_at hb] at hw2
  obtain ⟨es', clock', h4, h5⟩ := h3 w2 v hw2
  obtain ⟨w', h6, h7, _⟩ := hpm.set (Keyed.of_law K) ht hl (v := v) hk
  rw [h5] at h6
  simp only [Result.ok.injEq, true_and] at h6
  subst h6
  exact ⟨_, h4, ⟨es1, clock1, es', clock', hw2, rfl⟩, h7.of_block (by rw [set_block_at hw2, set_block_at hb])⟩
theorem PM.entry_new (h : PM P w kt b m) (K : Go.WideMaps.KeyLaw P kt) (ht : P.underlying t = some (.map kt e)) {z : Value} (hz : ∀ w, (zeroValue e).run P w = .ok z w) (hl : m.length < maxLen) {key : Value} {l : Lit} (hk : keyOf P kt key = some l) (hn : key ∉ m.map Prod.fst) :
    ∃ (st : Nat) (w1 : World), (Instr.mapEntry t (.map (some b)) key).run P w = .ok (.tuple #[z, goInt st]) w1 ∧ w.mapTurned w1 b ∧ ∀ (w2 : World) (v : Value), w2.heap[b]? = w1.heap[b]? → ∃ w3, (Instr.entryStore t (.map (some b)) (goInt st) v).run P w2 = .ok () w3 ∧ w2.mapTurned w3 b ∧ PM P w3 kt b (m ++ [(key, v)]) := by
  have hpm := h
  obtain ⟨D, ⟨es, clock, hb, F, hs, rfl⟩, hr⟩ := h
  obtain ⟨v0, st, es1, clock1, h1, h2, h3⟩ := Go.WideElems.entry_then_store K ht hz hb F hk
  have hv0 : v0 = z := by
    rcases h2 with ⟨e0, hm, he, _⟩ | ⟨_, hv⟩
    · obtain ⟨y, hy⟩ := F.reads e0 hm
      have m1 := Go.WideElems.rd_key hy
      rw [he, hk] at m1
      have : has (DataW.map ((es.toList.map (Go.WideElems.rg P kt RV)).foldr DataW.insert [])) l = true :=
        List.any_eq_true.2 ⟨Go.WideElems.rg P kt RV e0, mem_sorted.2 (List.mem_map.2 ⟨e0, hm, rfl⟩), by
          rw [Go.WideElems.rg_of hy, ← Option.some.inj m1]
          exact WideAt.sameKey_self ((Keyed.of_law K).key hk)⟩
      exact absurd ((hr.hs key l hk).1 this) hn
    · exact hv
  subst hv0
  refine ⟨st, _, h1, ⟨es, clock, es1, clock1, hb, rfl⟩, fun w2 v hw2 => ?_⟩
  rw [set_block_at hb] at hw2
  obtain ⟨es', clock', h4, h5⟩ := h3 w2 v hw2
  obtain ⟨w', h6, h7, _⟩ := hpm.add (Keyed.of_law K) ht hl (v := v) hk hn
  rw [h5] at h6
  simp only [Result.ok.injEq, true_and] at h6
  subst h6
  exact ⟨_, h4, ⟨es1, clock1, es', clock', hw2, rfl⟩, h7.of_block (by rw [set_block_at hw2, set_block_at hb])⟩

/-- A range over the map under way, its iterator in block r: rest is still to come. -/
def PR (P : Program) (w : World) (kt : TypeId) (b r : Nat) (m rest : List (Value × Value)) : Prop :=
  (∃ D left cnt, w.ranges P kt RV b r m.length D left cnt ∧ Rep P kt D m ∧ (∀ key l, keyOf P kt key = some l → (left l = true ↔ key ∈ rest.map Prod.fst)) ∧ (∀ l, left l = true → ∃ key, keyOf P kt key = some l)) ∧ (∀ p ∈ rest, p ∈ m) ∧ (rest.map Prod.fst).Nodup
theorem PR.pm {r : Nat} {rest : List (Value × Value)} (h : PR P w kt b r m rest) : PM P w kt b m := by
  obtain ⟨⟨D, left, cnt, h1, h2, _⟩, _⟩ := h
  exact ⟨D, h1.owns, h2⟩
theorem PR.lt {r : Nat} {rest : List (Value × Value)} (h : PR P w kt b r m rest) : r < w.heap.size := by obtain ⟨⟨D, left, cnt, h1, _⟩, _⟩ := h; exact h1.lt
theorem PR.ne {r : Nat} {rest : List (Value × Value)} (h : PR P w kt b r m rest) : r ≠ b := by obtain ⟨⟨D, left, cnt, h1, _⟩, _⟩ := h; exact h1.ne
theorem PR.of_block {w' : World} {r : Nat} {rest : List (Value × Value)} (h : PR P w kt b r m rest) (hb : w'.heap[b]? = w.heap[b]?) (hr : w'.heap[r]? = w.heap[r]?) : PR P w' kt b r m rest := by
  obtain ⟨⟨D, left, cnt, ⟨es, clock, since, seen, c0, h1, h2, h3, h4, h5, h6⟩, hR⟩, hs⟩ := h
  exact ⟨⟨D, left, cnt, ⟨es, clock, since, seen, c0, hb.trans h1, h2, h3, h4, hr.trans h5, h6⟩, hR⟩, hs⟩
theorem PR.left_same {w' : World} {r : Nat} (hb : w'.heap[b]? = w.heap[b]?) (hr : w'.heap[r]? = w.heap[r]?) : w'.rangeLeft b r = w.rangeLeft b r := by unfold World.rangeLeft; rw [hb, hr]
theorem PR.below {w' : World} {r : Nat} {rest : List (Value × Value)} (h : PR P w kt b r m rest) (hb : Below w.heap.size w w') : PR P w' kt b r m rest := h.of_block (hb.block b h.pm.lt) (hb.block r h.lt)
theorem PM.range (h : PM P w kt b m) (K : Keyed P kt) (ht : P.underlying t = some (.map kt e)) :
    ∃ w', (Instr.range t (.map (some b))).run P w = .ok (.pointer (some ⟨w.heap.size, 0, none⟩)) w' ∧ PR P w' kt b w.heap.size m m ∧ w.grownBy w' none ∧ w'.heap.size = w.heap.size + 1 := by
  obtain ⟨D, ho, hr⟩ := h
  obtain ⟨w', h1, h2, h3, h4⟩ := ho.range K ht
  refine ⟨w', h1, ⟨⟨D, _, _, h2, hr, hr.hs, fun l hl => ?_⟩, fun p hp => hp, hr.nd⟩, h3, h4⟩
  obtain ⟨es, clock, hb, F, hs, rfl⟩ := ho
  obtain ⟨p, hp, hpk⟩ := List.any_eq_true.1 hl
  obtain ⟨x, hx, rfl⟩ := List.mem_map.1 (mem_sorted.1 hp)
  obtain ⟨y, hy⟩ := F.reads x hx
  refine ⟨x.key, ?_⟩
  have := Go.WideElems.rd_key hy
  rw [this, ← WideAt.sameKey_eq hpk, Go.WideElems.rg_of hy]
/-- The step: nothing is left; or some key comes, with its element. -/
theorem PR.next {r : Nat} {rest : List (Value × Value)} (h : PR P w kt b r m rest) (K : Keyed P kt) (ty : TypeId) :
    (rest = [] ∧ (Instr.next (.pointer (some ⟨r, 0, none⟩)) false ty).run P w = .ok (.tuple #[.bool false]) w) ∨
    ∃ pre key v post w', rest = pre ++ (key, v) :: post ∧ (Instr.next (.pointer (some ⟨r, 0, none⟩)) false ty).run P w = .ok (.tuple #[.bool true, key, v]) w' ∧ PR P w' kt b r m (pre ++ post) ∧ w.grownBy w' (some r) ∧ w'.heap.size = w.heap.size ∧ (Instr.entry (.pointer (some ⟨r, 0, none⟩))).run P w' = .ok (.tuple #[key, v]) w' ∧ w'.rangeLeft b r < w.rangeLeft b r := by
  obtain ⟨⟨D, left, cnt, h1, hr, hl, hk⟩, hsub, hnd⟩ := h
  rcases h1.next K ty with ⟨_, hno, hrun⟩ | ⟨key, v, kl, y, w', cnt', hkey, hlk, hv, hat, hrun, hrg, hlt, hgr, hsz, hen⟩
  · refine .inl ⟨?_, hrun⟩
    cases rest with
    | nil => rfl
    | cons p q =>
      obtain ⟨l, hpl⟩ := hr.ky p (hsub p (List.mem_cons_self ..))
      have := (hl p.1 l hpl).2 (by simp)
      rw [hno] at this
      cases this
  · obtain ⟨⟨k2, v2⟩, hp, e2⟩ := List.mem_map.1 ((hl key kl hkey).1 hlk)
    simp only at e2
    subst e2
    have hvv : v2 = v := by
      have a := hr.vl k2 v2 kl (hsub _ hp) hkey .nil
      rw [hat] at a
      simp only [RV, Option.some.injEq] at hv
      rw [← hv] at a
      simpa using a.symm
    subst hvv
    obtain ⟨pre, post, e⟩ := List.append_of_mem hp
    subst e
    obtain ⟨hno, hnd2⟩ := nodup_mid hnd
    refine .inr ⟨pre, k2, v2, post, w', rfl, hrun, ⟨⟨D, _, cnt', hrg, hr, fun key l hkl => ?_, fun l hl2 => ?_⟩, fun p hp => hsub p ?_, hnd2⟩, hgr, hsz, hen, by rw [hrg.left_eq, h1.left_eq]; exact hlt⟩
    · simp only [Bool.and_eq_true, Bool.not_eq_true']
      rw [hl key l hkl]
      by_cases e : l = kl
      · subst e
        obtain rfl : key = k2 := K.inj hkl hkey
        rw [WideAt.sameKey_self (K.key hkl)]
        simp only [Bool.true_eq_false, and_false, false_iff]
        exact hno
      · rw [sameKey_ne e]
        have := key_ne hkl hkey e
        simp [this]
    · simp only [Bool.and_eq_true] at hl2
      exact hk l hl2.1
    · rcases List.mem_append.1 hp with hp | hp
      · exact List.mem_append.2 (.inl hp)
      · exact List.mem_append.2 (.inr (List.mem_cons_of_mem _ hp))
end
end Go.Proofs.YtdjlgiinekighaaGreatDoor
/-
  Plain maps at the operations: range, its step; kept where maps and iterators are.
-/
namespace Go.Proofs.YtdjlgiinekighaaGreatDoor
open Go.RowKit Go.Maps

theorem PR.of_walks {P : Program} {w w' : World} {kt : TypeId} {b r : Nat} {m rest : List (Value × Value)} (h : PR P w kt b r m rest) (hk : KeepsWalks w w') : PR P w' kt b r m rest := by
  obtain ⟨⟨D, left, cnt, ⟨es, clock, since, seen, c0, h1, h2, h3, h4, h5, h6⟩, hR⟩, hs⟩ := h
  exact ⟨⟨D, left, cnt, ⟨es, clock, since, seen, c0, hk.same b _ h1 rfl, h2, h3, h4, hk.same r _ h5 rfl, h6⟩, hR⟩, hs⟩
theorem PR.iter_walk {P : Program} {w : World} {kt : TypeId} {b r : Nat} {m rest : List (Value × Value)} (h : PR P w kt b r m rest) : ∃ o : Obj, w.heap[r]? = some o ∧ o.isWalk = true := by
  obtain ⟨⟨D, left, cnt, ⟨es, clock, since, seen, c0, h1, h2, h3, h4, h5, h6⟩, hR⟩, hs⟩ := h
  exact ⟨_, h5, rfl⟩
theorem PR.left_walks {P : Program} {w w' : World} {kt : TypeId} {b r : Nat} {m rest : List (Value × Value)} (h : PR P w kt b r m rest) (hk : KeepsWalks w w') : w'.rangeLeft b r = w.rangeLeft b r := by
  obtain ⟨⟨D, left, cnt, ⟨es, clock, since, seen, c0, h1, h2, h3, h4, h5, h6⟩, hR⟩, hs⟩ := h
  exact PR.left_same ((hk.same b _ h1 rfl).trans h1.symm) ((hk.same r _ h5 rfl).trans h5.symm)
theorem PM.of_walks {P : Program} {w w' : World} {kt : TypeId} {b : Nat} {m : List (Value × Value)} (h : PM P w kt b m) (hk : KeepsWalks w w') : PM P w' kt b m := by
  obtain ⟨D, ⟨es, clock, h1, h2⟩, h3⟩ := h
  exact ⟨D, ⟨es, clock, hk.same b _ h1 rfl, h2⟩, h3⟩
section
variable {P : Program} {F : Fence} {n : Nat} {ops : Array Oper} {Q : Exit → Act → World → Prop} {rest : List Oper} {o : Oper} {a : Act} {w : World}
theorem wpListIn_range_pm (hg : o.guard = none) (m : Operand) (t : TypeId) (hop : o.op = Op.range t m) (k e : TypeId) (K : Keyed P k) (ht : P.underlying t = some (.map k e)) (b : Nat) (mm : List (Value × Value))
    (hm : a.eval m = .map (some b)) (hown : PM P w k b mm)
    (hK : ∀ w', PR P w' k b w.heap.size mm mm → w.grownBy w' none → w'.heap.size = w.heap.size + 1 → wpListIn F n P ops Q rest (a.put o.dst (.pointer (some ⟨w.heap.size, 0, none⟩))) w') :
    wpListIn F n P ops Q (o :: rest) a w := by
  refine wpListIn_plain hg fun K' hK' => ?_
  obtain ⟨w', hrun, r1, r2, r3⟩ := hown.range K ht
  unfold Oper.wpIn
  refine ⟨?_, ?_⟩
  · simp [Oper.about, hop]
  · rw [Oper.semAt_plain F _ _ (by rw [hop]; intro c hc'; cases hc')]
    simp [execOp, hop, hm, hrun, Result.andThen]
    exact hK' _ _ (hK w' r1 r2 r3)
theorem wpListIn_next_pm (hg : o.guard = none) (it : Operand) (hop : o.op = Op.next it false) (k : TypeId) (K : Keyed P k) (b r : Nat) (mm left : List (Value × Value))
    (hit : a.eval it = .pointer (some ⟨r, 0, none⟩)) (h : PR P w k b r mm left)
    (hDone : left = [] → wpListIn F n P ops Q rest (a.put o.dst (.tuple #[.bool false])) w)
    (hMore : ∀ pre key v post w', left = pre ++ (key, v) :: post → PR P w' k b r mm (pre ++ post) → w.grownBy w' (some r) → w'.heap.size = w.heap.size → (Instr.entry (.pointer (some ⟨r, 0, none⟩))).run P w' = .ok (.tuple #[key, v]) w' → w'.rangeLeft b r < w.rangeLeft b r → wpListIn F n P ops Q rest (a.put o.dst (.tuple #[.bool true, key, v])) w') :
    wpListIn F n P ops Q (o :: rest) a w := by
  refine wpListIn_plain hg fun K' hK' => ?_
  unfold Oper.wpIn
  refine ⟨by simp [Oper.about, hop], ?_⟩
  rw [Oper.semAt_plain F _ _ (by rw [hop]; intro c hc'; cases hc')]
  rcases h.next K o.type with ⟨h0, hrun⟩ | ⟨pre, key, v, post, w', e, hrun, h1, h2, h3, h4, h5⟩
  · simp [execOp, hop, hit, hrun, Result.andThen]
    exact hK' _ _ (hDone h0)
  · simp [execOp, hop, hit, hrun, Result.andThen]
    exact hK' _ _ (hMore pre key v post w' e h1 h2 h3 h4 h5)
theorem wpList_range_pm (hg : o.guard = none) (m : Operand) (t : TypeId) (hop : o.op = Op.range t m) (k e : TypeId) (K : Keyed P k) (ht : P.underlying t = some (.map k e)) (b : Nat) (mm : List (Value × Value))
    (hm : a.eval m = .map (some b)) (hown : PM P w k b mm)
    (hK : ∀ w', PR P w' k b w.heap.size mm mm → w.grownBy w' none → w'.heap.size = w.heap.size + 1 → wpList P ops Q rest (a.put o.dst (.pointer (some ⟨w.heap.size, 0, none⟩))) w') :
    wpList P ops Q (o :: rest) a w := by
  refine wpList_plain hg fun K' hK' => ?_
  obtain ⟨w', hrun, r1, r2, r3⟩ := hown.range K ht
  unfold Oper.wp
  simp [execOp, hop, hm, hrun, Result.andThen]
  exact hK' _ _ (hK w' r1 r2 r3)
theorem wpList_next_pm (hg : o.guard = none) (it : Operand) (hop : o.op = Op.next it false) (k : TypeId) (K : Keyed P k) (b r : Nat) (mm left : List (Value × Value))
    (hit : a.eval it = .pointer (some ⟨r, 0, none⟩)) (h : PR P w k b r mm left)
    (hDone : left = [] → wpList P ops Q rest (a.put o.dst (.tuple #[.bool false])) w)
    (hMore : ∀ pre key v post w', left = pre ++ (key, v) :: post → PR P w' k b r mm (pre ++ post) → w.grownBy w' (some r) → w'.heap.size = w.heap.size → (Instr.entry (.pointer (some ⟨r, 0, none⟩))).run P w' = .ok (.tuple #[key, v]) w' → w'.rangeLeft b r < w.rangeLeft b r → wpList P ops Q rest (a.put o.dst (.tuple #[.bool true, key, v])) w') :
    wpList P ops Q (o :: rest) a w := by
  refine wpList_plain hg fun K' hK' => ?_
  unfold Oper.wp
  rcases h.next K o.type with ⟨h0, hrun⟩ | ⟨pre, key, v, post, w', e, hrun, h1, h2, h3, h4, h5⟩
  · simp [execOp, hop, hit, hrun, Result.andThen]
    exact hK' _ _ (hDone h0)
  · simp [execOp, hop, hit, hrun, Result.andThen]
    exact hK' _ _ (hMore pre key v post w' e h1 h2 h3 h4 h5)
end
end Go.Proofs.YtdjlgiinekighaaGreatDoor
/-
  Keys as keys of maps.
-/
namespace Go.Proofs.YtdjlgiinekighaaGreatDoor
open Go.RowKit Go.Lib Go.Maps Go.Proofs.YtdjlgiinekighaaGreatDoor.P

set_option maxRecDepth 100000

def kyv (k : Ky) : Value := .agg #[.int .i64 k.1, .int .i64 k.2]
theorem kyv_inj {a b : Ky} (h : kyv a = kyv b) : a = b := agg_inj h
theorem kyv_lit (k : Ky) (h : okKy k) : ∃ l, keyOf Tryz.prog 31 (kyv k) = some l := key_lit k h
theorem keyLaw : Go.WideMaps.KeyLaw Tryz.prog 31 := deep_law_laid laidOut (m := 2) (by omega) rowKey (by kernel_rfl) wideKey
theorem strLaw : Go.WideMaps.KeyLaw Tryz.prog 9 := Go.WideMaps.string_law Tryz.underlying9
theorem strKeyed : Keyed Tryz.prog 9 := Keyed.of_law strLaw
end Go.Proofs.YtdjlgiinekighaaGreatDoor
/-
  maps.Keys at a map keyed by Keys, by contract: each Key comes once, in some order.
-/
namespace Go.Proofs.YtdjlgiinekighaaGreatDoor
open Go.RowKit Go.Lib Go.Sort Go.Shelf Go.Maps Go.Proofs.YtdjlgiinekighaaGreatDoor.P
set_option maxRecDepth 100000

set_option maxHeartbeats 4000000 in
theorem keys1T_in (ly Bm b : Nat) (m : List (Value × Value)) (J Jx : List Ky → World → Prop) (hK : ∀ p ∈ m, ∃ k : Ky, p.1 = .agg #[.int .i64 k.1, .int .i64 k.2]) (W : World) (hJ : AbidesFrom W.heap.size J)
    (hY : ∀ pre x W1, J pre W1 → pre.length < m.length → YieldAt Fence.wide 0 Tryz.prog ly #[.agg #[.int .i64 x.1, .int .i64 x.2]] W1 fun e W' => (e = .returned (.bool true) ∧ J (pre ++ [x]) W' ∧ KeepsWalks W1 W') ∨ (e = .returned (.bool false) ∧ Jx (pre ++ [x]) W'))
    (hm : W.cell? ⟨Bm, 0, none⟩ = some (.map (some b))) (hpm : PM Tryz.prog W 31 b m) (h0 : J [] W) :
    CallsIn Fence.wide 1 Tryz.prog 85 #[.func (.yield ly) #[] #[], .pointer (some ⟨Bm, 0, none⟩)] W fun e W' => (∃ v, e = .returned v) ∧ ((∃ ys : List Ky, (ys.map kyv).Perm (m.map Prod.fst) ∧ J ys W') ∨ (∃ pre, Jx pre W')) := by
  have mixed : Tryz.prog.follows .mixedOrders = true := by kernel_rfl
  have HK := Lib.hid hK
  have HJ := Lib.hid hJ
  have HY := Lib.hid hY
  have HP := Lib.hid hpm
  have HJ0 := Lib.hid h0
  clear hK hJ hY h0
  refine callsIn_of_wp Tryz.func85 rfl (trivial : Fence.wide.fn _) ?_ rfl
  simp only [Tryz.ntmps85, List.size_toArray, List.length_cons, List.length_nil, Nat.reduceAdd, Nat.reduceSub, Array.replicate_succ, Array.replicate_zero, List.push_toArray, List.append_toArray, List.nil_append, List.cons_append]
  gi_wp2_with (first
    | (gi_at_range; refine wpListIn_range_pm rfl _ 69 rfl 31 49 lawKey Tryz.underlying69 b m rfl hpm ?_; intro w0 hrg0 hg0 hs0)
    | gi_in)
  go_frame
  gi_loopw [3] (fun _ wr => ∃ (left : List (Value × Value)) (ks : List Ky), PR Tryz.prog wr 31 b W.heap.size m left ∧ ((ks.map kyv) ++ left.map Prod.fst).Perm (m.map Prod.fst) ∧ J ks wr) (fun _ wr => wr.rangeLeft b W.heap.size)
  case atStart => exact ⟨m, [], hrg0, List.Perm.refl _, HJ.out [] W w0 none HJ0.out hg0 (fun r e => by cases e)⟩
  case round =>
    obtain ⟨left, ks, hrg, hp, hJs⟩ := hrel
    gi_wp2_with (first
      | (gi_at_next; refine wpListIn_next_pm rfl _ rfl 31 lawKey b W.heap.size m left rfl hrg ?_ ?_)
      | gi_in)
    · intro hl
      subst hl
      gi_wp2
      go_end0
      exact ⟨⟨_, rfl⟩, .inl ⟨ks, by simpa using hp, hJs⟩⟩
    · intro pre key v post w2 hl hrg2 hg2 hs2 hen hlt
      subst hl
      have hkm : (key, v) ∈ m := hrg.2.1 _ (by simp)
      obtain ⟨⟨ko, ks'⟩, hkk⟩ := HK.out _ hkm
      simp only at hkk
      subst hkk
      have hJ2 : J ks w2 := HJ.out ks wr w2 (some W.heap.size) hJs hg2 (fun r e => by cases e; exact ⟨Nat.le_refl _, hrg.iter_walk⟩)
      have hlen : ks.length < m.length := by
        have := hp.length_eq
        simp at this
        omega
      have hp2 : (((ks ++ [(ko, ks')]).map kyv) ++ (pre ++ post).map Prod.fst).Perm (m.map Prod.fst) := by
        refine List.Perm.trans ?_ hp
        simp only [List.map_append, List.map_cons, List.map_nil, List.append_assoc]
        refine List.Perm.append_left _ ?_
        exact (List.perm_middle (l₁ := pre.map Prod.fst)).symm
      have hJ3 : J ks (w2.alloc (.cells #[.int .i64 ko, .int .i64 ks'] 31)) := HJ.out ks w2 _ none hJ2 (World.grownBy_alloc w2 _ none) (fun r e => by cases e)
      obtain ⟨fn, tmps, assign, body, hy, hR⟩ := HY.out ks (ko, ks') _ hJ3 hlen
      have hrg3 : PR Tryz.prog (w2.alloc (.cells #[.int .i64 ko, .int .i64 ks'] 31)) 31 b W.heap.size m (pre ++ post) := hrg2.below (alloc_below _ _)
      have hlt3 : (w2.alloc (.cells #[.int .i64 ko, .int .i64 ks'] 31)).rangeLeft b W.heap.size < wr.rangeLeft b W.heap.size := by
        rw [PR.left_same ((alloc_below w2 _).block b hrg2.pm.lt) ((alloc_below w2 _).block _ hrg2.lt)]
        exact hlt
      have HLT := Lib.hid hlt3
      have HP2 := Lib.hid hp2
      clear hs2 hlt hlt3 hp hp2
      gi_wp2
      refine hR.mono ?_
      rintro e W3 (⟨rfl, hJ4, hk4⟩ | ⟨rfl, hJx4⟩)
      · gi_wp2
        have hrg4 := hrg3.of_walks hk4
        go_roundw
        case rel => exact ⟨pre ++ post, ks ++ [(ko, ks')], hrg4, HP2.out, hJ4⟩
        case measure => rw [hrg3.left_walks hk4]; exact HLT.out
      · gi_wp2
        refine bodyPost_ret (results_none rfl _ _ _) rfl ?_
        exact ⟨⟨_, rfl⟩, .inr ⟨_, hJx4⟩⟩
end Go.Proofs.YtdjlgiinekighaaGreatDoor
/-
  maps.Keys at a map keyed by Keys, by contract: each Key comes once, in some order.
-/
namespace Go.Proofs.YtdjlgiinekighaaGreatDoor
open Go.RowKit Go.Lib Go.Sort Go.Shelf Go.Maps Go.Proofs.YtdjlgiinekighaaGreatDoor.P
set_option maxRecDepth 100000

set_option maxHeartbeats 4000000 in
theorem keys1L_in (ly Bm b : Nat) (m : List (Value × Value)) (J Jx : List Ky → World → Prop) (hK : ∀ p ∈ m, ∃ k : Ky, p.1 = .agg #[.int .i64 k.1, .int .i64 k.2]) (W : World) (hJ : AbidesFrom W.heap.size J)
    (hY : ∀ pre x W1, J pre W1 → pre.length < m.length → YieldAt Fence.wide 0 Tryz.prog ly #[.agg #[.int .i64 x.1, .int .i64 x.2]] W1 fun e W' => (e = .returned (.bool true) ∧ J (pre ++ [x]) W' ∧ KeepsWalks W1 W') ∨ (e = .returned (.bool false) ∧ Jx (pre ++ [x]) W'))
    (hm : W.cell? ⟨Bm, 0, none⟩ = some (.map (some b))) (hpm : PM Tryz.prog W 31 b m) (h0 : J [] W) :
    CallsIn Fence.wide 1 Tryz.prog 92 #[.func (.yield ly) #[] #[], .pointer (some ⟨Bm, 0, none⟩)] W fun e W' => (∃ v, e = .returned v) ∧ ((∃ ys : List Ky, (ys.map kyv).Perm (m.map Prod.fst) ∧ J ys W') ∨ (∃ pre, Jx pre W')) := by
  have mixed : Tryz.prog.follows .mixedOrders = true := by kernel_rfl
  have HK := Lib.hid hK
  have HJ := Lib.hid hJ
  have HY := Lib.hid hY
  have HP := Lib.hid hpm
  have HJ0 := Lib.hid h0
  clear hK hJ hY h0
  refine callsIn_of_wp Tryz.func92 rfl (trivial : Fence.wide.fn _) ?_ rfl
  simp only [Tryz.ntmps92, List.size_toArray, List.length_cons, List.length_nil, Nat.reduceAdd, Nat.reduceSub, Array.replicate_succ, Array.replicate_zero, List.push_toArray, List.append_toArray, List.nil_append, List.cons_append]
  gi_wp2_with (first
    | (gi_at_range; refine wpListIn_range_pm rfl _ 77 rfl 31 64 lawKey Tryz.underlying77 b m rfl hpm ?_; intro w0 hrg0 hg0 hs0)
    | gi_in)
  go_frame
  gi_loopw [3] (fun _ wr => ∃ (left : List (Value × Value)) (ks : List Ky), PR Tryz.prog wr 31 b W.heap.size m left ∧ ((ks.map kyv) ++ left.map Prod.fst).Perm (m.map Prod.fst) ∧ J ks wr) (fun _ wr => wr.rangeLeft b W.heap.size)
  case atStart => exact ⟨m, [], hrg0, List.Perm.refl _, HJ.out [] W w0 none HJ0.out hg0 (fun r e => by cases e)⟩
  case round =>
    obtain ⟨left, ks, hrg, hp, hJs⟩ := hrel
    gi_wp2_with (first
      | (gi_at_next; refine wpListIn_next_pm rfl _ rfl 31 lawKey b W.heap.size m left rfl hrg ?_ ?_)
      | gi_in)
    · intro hl
      subst hl
      gi_wp2
      go_end0
      exact ⟨⟨_, rfl⟩, .inl ⟨ks, by simpa using hp, hJs⟩⟩
    · intro pre key v post w2 hl hrg2 hg2 hs2 hen hlt
      subst hl
      have hkm : (key, v) ∈ m := hrg.2.1 _ (by simp)
      obtain ⟨⟨ko, ks'⟩, hkk⟩ := HK.out _ hkm
      simp only at hkk
      subst hkk
      have hJ2 : J ks w2 := HJ.out ks wr w2 (some W.heap.size) hJs hg2 (fun r e => by cases e; exact ⟨Nat.le_refl _, hrg.iter_walk⟩)
      have hlen : ks.length < m.length := by
        have := hp.length_eq
        simp at this
        omega
      have hp2 : (((ks ++ [(ko, ks')]).map kyv) ++ (pre ++ post).map Prod.fst).Perm (m.map Prod.fst) := by
        refine List.Perm.trans ?_ hp
        simp only [List.map_append, List.map_cons, List.map_nil, List.append_assoc]
        refine List.Perm.append_left _ ?_
        exact (List.perm_middle (l₁ := pre.map Prod.fst)).symm
      have hJ3 : J ks (w2.alloc (.cells #[.int .i64 ko, .int .i64 ks'] 31)) := HJ.out ks w2 _ none hJ2 (World.grownBy_alloc w2 _ none) (fun r e => by cases e)
      obtain ⟨fn, tmps, assign, body, hy, hR⟩ := HY.out ks (ko, ks') _ hJ3 hlen
      have hrg3 : PR Tryz.prog (w2.alloc (.cells #[.int .i64 ko, .int .i64 ks'] 31)) 31 b W.heap.size m (pre ++ post) := hrg2.below (alloc_below _ _)
      have hlt3 : (w2.alloc (.cells #[.int .i64 ko, .int .i64 ks'] 31)).rangeLeft b W.heap.size < wr.rangeLeft b W.heap.size := by
        rw [PR.left_same ((alloc_below w2 _).block b hrg2.pm.lt) ((alloc_below w2 _).block _ hrg2.lt)]
        exact hlt
      have HLT := Lib.hid hlt3
      have HP2 := Lib.hid hp2
      clear hs2 hlt hlt3 hp hp2
      gi_wp2
      refine hR.mono ?_
      rintro e W3 (⟨rfl, hJ4, hk4⟩ | ⟨rfl, hJx4⟩)
      · gi_wp2
        have hrg4 := hrg3.of_walks hk4
        go_roundw
        case rel => exact ⟨pre ++ post, ks ++ [(ko, ks')], hrg4, HP2.out, hJ4⟩
        case measure => rw [hrg3.left_walks hk4]; exact HLT.out
      · gi_wp2
        refine bodyPost_ret (results_none rfl _ _ _) rfl ?_
        exact ⟨⟨_, rfl⟩, .inr ⟨_, hJx4⟩⟩
end Go.Proofs.YtdjlgiinekighaaGreatDoor
/-
  slices.AppendSeq, Collect at Keys, by contract: what an iterator gives, in a row of one's own.
-/
namespace Go.Proofs.YtdjlgiinekighaaGreatDoor
open Go.RowKit Go.Lib Go.Sort Go.Shelf Go.Maps Go.Proofs.YtdjlgiinekighaaGreatDoor.P
set_option maxRecDepth 100000

attribute [local go_sem] Oper.semAt_some

theorem row_nocells {W W' : World} {n₀ size k : Nat} {e : TypeId} {v : Value} {xs : List Value} {row : Option Nat} (hr : W.ownsRow n₀ e size v k xs) (hg : W.grownBy W' row) (hrow : ∀ r, row = some r → ∃ o : Obj, W.heap[r]? = some o ∧ o.isCells = false) : W'.ownsRow n₀ e size v k xs := by
  refine hr.kept hg ?_
  rcases hr.2 with ⟨rfl, _⟩ | ⟨g, cap, _, rfl, _, hgb, _⟩
  · exact .inl rfl
  · refine .inr fun e' => ?_
    obtain ⟨o, ho, hc⟩ := hrow g (by simpa [Value.ownBlock] using e'.symm)
    rw [hgb] at ho; cases ho; cases hc
theorem boxed_nocells {W W' : World} {B : Nat} {t : TypeId} {v : Value} {row : Option Nat} (hv : Boxed W B t v) (hg : W.grownBy W' row) (hrow : ∀ r, row = some r → ∃ o : Obj, W.heap[r]? = some o ∧ o.isCells = false) : Boxed W' B t v := by
  refine hv.kept hg fun e' => ?_
  obtain ⟨o, ho, hc⟩ := hrow B e'.symm
  rw [show W.heap[B]? = _ from hv] at ho; cases ho; cases hc
theorem bx_nocells {W W' : World} {B : Nat} {t : TypeId} {cs : Array Value} {row : Option Nat} (hv : Bx t W B cs) (hg : W.grownBy W' row) (hrow : ∀ r, row = some r → ∃ o : Obj, W.heap[r]? = some o ∧ o.isCells = false) : Bx t W' B cs := by
  refine (hg.block B hv.lt fun e' => ?_).trans hv
  obtain ⟨o, ho, hc⟩ := hrow B e'.symm
  rw [show W.heap[B]? = _ from hv] at ho; cases ho; cases hc
theorem keeps_of_below {B : Nat} {W W' : World} (h : Below W.heap.size W W') : KeepsFrom B W W' := ⟨h.size, fun k _ _ hk _ => (h.block k (Array.getElem?_eq_some_iff.1 hk).1).trans hk⟩
theorem walks_of_below {W W' : World} (h : Below W.heap.size W W') : KeepsWalks W W' := ⟨h.size, fun k _ hk _ => (h.block k (Array.getElem?_eq_some_iff.1 hk).1).trans hk⟩
theorem cell_two_new (w : World) (a b : Value) (t : TypeId) : ∀ j u, [a, b][j]? = some u → (w.alloc (.cells #[a, b] t)).cell? ((⟨w.heap.size, 0, none⟩ : Addr).add j) = some u := by
  intro j u hj
  have hx := Bx.new t w #[a, b]
  rw [Go.WideShapes.add_plain, Nat.zero_add, hx.cell j]
  simpa using hj
/-- The row behind the loop so far. -/
def HeldK (n₀ Bk : Nat) (ks : List Ky) (W : World) : Prop := ∃ v, Boxed W Bk 47 v ∧ KRow W n₀ v ks
theorem HeldK.nocells {W W' : World} {n₀ Bk : Nat} {ks : List Ky} {row : Option Nat} (h : HeldK n₀ Bk ks W) (hg : W.grownBy W' row) (hrow : ∀ r, row = some r → ∃ o : Obj, W.heap[r]? = some o ∧ o.isCells = false) : HeldK n₀ Bk ks W' := by
  obtain ⟨v, h1, h2⟩ := h
  exact ⟨v, boxed_nocells h1 hg hrow, row_nocells h2 hg hrow⟩
theorem HeldK.below {W W' : World} {n₀ Bk : Nat} {ks : List Ky} (h : HeldK n₀ Bk ks W) (hb : Below W.heap.size W W') : HeldK n₀ Bk ks W' := by
  obtain ⟨v, h1, h2⟩ := h
  exact ⟨v, (hb.block Bk h1.lt).trans h1, KRow.below h2 hb⟩
set_option maxHeartbeats 8000000 in
theorem appendK_c (g : FuncId) (lb : Array Value) (keys : List Value) (N : Nat) (w : World) (eg : ∀ args w, (callFunc g args).run Tryz.prog w = .ok (.enter g args) w) (hN : N ≤ 100000)
    (hseq : SeqStopsK Fence.wide 1 Tryz.prog g lb (fun k : Ky => #[Value.agg #[.int .i64 k.1, .int .i64 k.2]]) KeepsWalks (fun ys => (ys.map kyv).Perm keys) (fun _ => True) N w) :
    Calls Tryz.prog 98 #[.slice none 0 0, .func (.func g) #[] lb] w fun e w' => ∃ v ks, e = .returned v ∧ KRow w' w.heap.size v ks ∧ (ks.map kyv).Perm keys ∧ Below w.heap.size w w' := by
  refine (callsIn_wide (n := 2)).1 ?_
  obtain ⟨i0, hi, hz0, hz1, hz2⟩ := info_parts keyInfo
  refine callsIn_of_wp_marks Tryz.func98 rfl (trivial : Fence.wide.fn _) ?_ rfl
  simp only [Tryz.ntmps98, List.size_toArray, List.length_cons, List.length_nil, Nat.reduceAdd, Nat.reduceSub, Array.replicate_succ, Array.replicate_zero, List.push_toArray, List.append_toArray, List.nil_append, List.cons_append]
  gi_wp2
  obtain ⟨W1, hW1⟩ : ∃ W1, W1 = w.alloc (.cells #[.slice none 0 0] 47) := ⟨_, rfl⟩
  have hB0 : Below w.heap.size w W1 := by rw [hW1]; exact alloc_below _ _
  have hsz : W1.heap.size = w.heap.size + 1 := by rw [hW1]; simp
  have b0 : Boxed W1 w.heap.size 47 (.slice none 0 0) := by rw [hW1]; exact Boxed.new w _ _
  rw [← hW1]
  clear hW1
  refine wpIn_rangeFunc_ownH rfl (by omega) (gf := g) (lb := lb) rfl (trivial : Fence.wide.fn _) eg hseq (fun h k => walksK_t h k) (fun W l o o' hl h h1 h2 => walksK_b W l o o' hl h h1 h2) hB0 (fun _ => rfl)
    (fun pre W => HeldK w.heap.size w.heap.size pre W ∧ Below w.heap.size w W ∧ W1.heap.size ≤ W.heap.size)
    (fun _ _ _ => False)
    (fun s W W' row hs hg hr => ⟨hs.1.nocells hg (fun r e => (hr r e).2), hs.2.1.grown hg (by have := hs.2.2; omega) (fun k e => by have := (hr k e).1; omega), Nat.le_trans hs.2.2 hg.size⟩)
    (fun _ _ _ _ _ hs _ _ => hs)
    ⟨⟨_, b0, KRow.nil _ _⟩, hB0, Nat.le_refl _⟩
    (fun z a' W => ∃ Bp, Bx 31 W Bp #[.int .i64 z.1, .int .i64 z.2] ∧ a' = { tmps := #[.slice none 0 0, .func (.func g) #[] lb, .pointer (some ⟨w.heap.size, 0, none⟩), undef, .slice none 0 0, .pointer (some ⟨Bp, 0, none⟩), .func (.func g) #[] lb, .agg #[.int .i64 z.1, .int .i64 z.2], undef, undef, undef, undef, undef], defers := [] })
    (fun z a' s W W' row ⟨Bp, h3, h5⟩ hg hr => ⟨Bp, bx_nocells h3 hg (fun r e => (hr r e).2), h5⟩) ?assign ?body ?done ?stop
  case assign =>
    rintro ly pre ⟨xo, xs⟩ W K ⟨hH, hB, hs5⟩ hK
    gi_wp2
    have hb2 := alloc_below W (.cells #[.int .i64 xo, .int .i64 xs] 31)
    exact hK _ _ (keeps_of_below hb2) (walks_of_below hb2) ⟨hH.below hb2, hB.trans (hb2.mono hB.size), Nat.le_trans hs5 hb2.size⟩ ⟨_, Bx.new 31 W _, rfl⟩
  case body =>
    rintro ly pre ⟨xo, xs⟩ a' W hl ⟨r, hr⟩ ⟨hH, hB, hs5⟩ ⟨Bp, bp, rfl⟩ hlt
    obtain ⟨v, hv, hrow⟩ := hH
    have hc := hv.cell
    have p0 := bp.cell 0
    have p1 := bp.cell 1
    simp only [List.getElem?_toArray, List.getElem?_cons_succ, List.getElem?_cons_zero] at p0 p1 bp
    have hpl0 := bp.lt
    have HBB := Lib.hid hB
    have HS5 := Lib.hid hs5
    have hsl := hB.size
    gi_wp2_with (first
      | (gi_at_builtin; refine wpListIn_append_own _ rfl _ _ 47 rfl w.heap.size 31 i0 (.agg #[.int .i64 0, .int .i64 0]) 2 16 Tryz.underlying47 hi hz0 hz1 hz2 rfl (by decide) _ _ _ rfl (World.ownsRow.alloc hrow _) ⟨W.heap.size, 0, none⟩ 1 1 [.int .i64 xo, .int .i64 xs] rfl rfl (cell_two_new _ _ _ _) (fun u hu => by simp at hu; rcases hu with rfl | rfl <;> rfl) (by unfold maxLen; omega) (by omega) (by simp; omega) ?_; intro v' w1 hown' hgrow _; obtain ⟨g', cap', rfl⟩ := ownsRow_succ hown'; obtain ⟨hv1, hv2, hr2, hk2, hb2⟩ := Boxed.appended hv (by decide) hrow hsl (Nat.le_refl _) hown' hgrow; have hc1 := hv1.cell; have hf1 := hv1.frozen))
    have hrow2 : KRow (w1.setCell ⟨w.heap.size, 0, none⟩ (.slice (some ⟨g', 0, none⟩) (pre.length + 1) cap')) w.heap.size (.slice (some ⟨g', 0, none⟩) (pre.length + 1) cap') (pre ++ [(xo, xs)]) := by
      unfold KRow
      rw [List.length_append, List.length_singleton, cs2_app]
      exact hr2
    exact ⟨hk2.from _, hk2.walks, ⟨⟨_, hv2, hrow2⟩, HBB.out.trans hb2, by have := hb2.size; have := HS5.out; omega⟩⟩
  case done =>
    rintro D ys W hD hys ⟨⟨v, hv, hrow⟩, hB, _⟩ hK
    have hc := hv.cell
    gi_wp2
    refine ⟨by simp, .inl ⟨_, _, rfl, run_takeDeferred hK, ?_⟩⟩
    have hg := grownBy_putObj' W D (.deferred none)
    have hnc : ∀ r, some D = some r → ∃ o : Obj, W.heap[r]? = some o ∧ o.isCells = false := fun r e => by cases e; exact ⟨_, hK, rfl⟩
    exact ⟨_, results_tmp rfl _ _ _, v, ys, rfl, row_nocells hrow hg hnc, hys, hB.trans (belowK_b (w := W1) (by omega) W D _ _ hD hK rfl rfl)⟩
  case stop =>
    rintro D c pre W _ _ h _
    exact h.elim
end Go.Proofs.YtdjlgiinekighaaGreatDoor
/-
  rising of the program, by contract: the Keys of a map, in their order, in a row of one's own.
-/
namespace Go.Proofs.YtdjlgiinekighaaGreatDoor
open Go.RowKit Go.Lib Go.Sort Go.Shelf Go.Maps Go.Proofs.YtdjlgiinekighaaGreatDoor.P
set_option maxRecDepth 100000

theorem srtK_rise {l : List Ky} (h : l.Nodup) : Rise (srtK l) := by
  have h1 := srtK_pair l
  have h2 : (srtK l).Nodup := (srtK_perm l).nodup_iff.2 h
  refine (List.pairwise_iff_getElem.2 fun i j hi hj hij => ?_)
  have a := List.pairwise_iff_getElem.1 h1 i j hi hj hij
  rcases kLt_tri (srtK l)[i] (srtK l)[j] with k | k | k
  · exact k
  · exact absurd k (List.pairwise_iff_getElem.1 h2 i j hi hj hij)
  · rw [a] at k; cases k
theorem srtK_perm_eq {a b : List Ky} (h : a.Perm b) (hb : b.Nodup) : srtK a = srtK b :=
  Rise.ext (srtK_rise (h.nodup_iff.2 hb)) (srtK_rise hb) fun k => by rw [(srtK_perm a).mem_iff, (srtK_perm b).mem_iff, h.mem_iff]
def kyd : Value → Ky
  | .agg #[.int _ a, .int _ b] => (a, b)
  | _ => (0, 0)
theorem kyd_kyv (l : List Ky) : (l.map kyv).map kyd = l := by
  rw [List.map_map]
  exact List.map_id' l
theorem perm_kyv {a b : List Ky} (h : (a.map kyv).Perm (b.map kyv)) : a.Perm b := by
  have := h.map kyd
  rwa [kyd_kyv, kyd_kyv] at this
/-- A map's value: nil, or a block. -/
def MV (w : World) (kt : TypeId) (ob : Option Nat) (m : List (Value × Value)) : Prop := (ob = none ∧ m = []) ∨ ∃ b, ob = some b ∧ PM Tryz.prog w kt b m
theorem MV.below {w w' : World} {kt : TypeId} {ob : Option Nat} {m : List (Value × Value)} (h : MV w kt ob m) (hb : Below w.heap.size w w') : MV w' kt ob m := h.imp id fun ⟨b, e, h⟩ => ⟨b, e, h.below hb⟩
theorem MV.nd {w : World} {kt : TypeId} {ob : Option Nat} {m : List (Value × Value)} (h : MV w kt ob m) : (m.map Prod.fst).Nodup := by
  rcases h with ⟨_, rfl⟩ | ⟨b, _, h⟩
  · exact List.nodup_nil
  · exact h.nd
set_option maxHeartbeats 2000000 in
theorem collectK_c (g : FuncId) (lb : Array Value) (keys : List Value) (N : Nat) (w : World) (eg : ∀ args w, (callFunc g args).run Tryz.prog w = .ok (.enter g args) w) (hN : N ≤ 100000)
    (hseq : SeqStopsK Fence.wide 1 Tryz.prog g lb (fun k : Ky => #[Value.agg #[.int .i64 k.1, .int .i64 k.2]]) KeepsWalks (fun ys => (ys.map kyv).Perm keys) (fun _ => True) N w) :
    Calls Tryz.prog 83 #[.func (.func g) #[] lb] w fun e w' => ∃ v ks, e = .returned v ∧ KRow w' w.heap.size v ks ∧ (ks.map kyv).Perm keys ∧ Below w.heap.size w w' := by
  have CA := Lib.hid (appendK_c g lb keys N w eg hN hseq)
  clear hseq eg
  go_enter Tryz.func83, Tryz.ntmps83
  go_wp2_with fail
  refine CA.out.mono ?_
  rintro e w1 ⟨v, ks, rfl, hr, hp, hb⟩
  obtain ⟨A, C, rfl, _⟩ := own_form hr
  have HR := Lib.hid hr
  have HP := Lib.hid hp
  have HB := Lib.hid hb
  clear hr hp hb CA
  go_wp2
  go_ret
  exact ⟨_, ks, rfl, HR.out, HP.out, HB.out⟩
set_option maxHeartbeats 2000000 in
theorem sortedK_c (r : Nat) (g : FuncId) (lb : Array Value) (keys : List Value) (N : Nat) (w : World) (eg : ∀ args w, (callFunc g args).run Tryz.prog w = .ok (.enter g args) w) (hN : N ≤ 100000) (hl : keys.length ≤ 100000) (hb : Bx 82 w r #[befV])
    (hseq : SeqStopsK Fence.wide 1 Tryz.prog g lb (fun k : Ky => #[Value.agg #[.int .i64 k.1, .int .i64 k.2]]) KeepsWalks (fun ys => (ys.map kyv).Perm keys) (fun _ => True) N w) :
    Calls Tryz.prog 66 #[.func (.func g) #[] lb, .func (.func 86) #[] #[.pointer (some ⟨r, 0, none⟩)]] w fun e w' => ∃ v ks, e = .returned v ∧ KRow w' w.heap.size v (srtK ks) ∧ (ks.map kyv).Perm keys ∧ Below w.heap.size w w' := by
  have CA := Lib.hid (collectK_c g lb keys N w eg hN hseq)
  have HX := Lib.hid hb
  clear hseq eg hb
  go_enter Tryz.func66, Tryz.ntmps66
  go_wp2_with fail
  refine CA.out.mono ?_
  rintro e w1 ⟨v, ks, rfl, hr, hp, hb⟩
  obtain ⟨A, C, rfl, _⟩ := own_form hr
  have HR := Lib.hid hr
  have HP := Lib.hid hp
  have HB := Lib.hid hb
  have hlen : ks.length ≤ 100000 := by have := hp.length_eq; simp at this; omega
  have CS := Lib.hid (sortf_c r ks _ w1 w.heap.size hr hlen (HX.out.below hb) (fun g' hg => by have h1 := (World.ownsRow.lt hr g' hg).1; have h2 := HX.out.lt; omega))
  clear hr hp hb CA
  go_wp2_with fail
  refine CS.out.mono ?_
  rintro e w2 ⟨rfl, hr2, hg2⟩
  have HR2 := Lib.hid hr2
  have HB2 := Lib.hid (HB.out.trans (below_of_grown hg2 HB.out.size (fun i hi => (World.ownsRow.lt HR.out i hi).1)))
  clear hr2 hg2 CS
  go_wp2
  go_ret
  exact ⟨_, ks, rfl, HR2.out, HP.out, HB2.out⟩
set_option maxHeartbeats 2000000 in
theorem keys1T_nil (ly Bm : Nat) (J : List Ky → World → Prop) (W : World) (hJ : AbidesFrom W.heap.size J) (hm : W.cell? ⟨Bm, 0, none⟩ = some (.map none)) (h0 : J [] W) :
    CallsIn Fence.wide 1 Tryz.prog 85 #[.func (.yield ly) #[] #[], .pointer (some ⟨Bm, 0, none⟩)] W fun e W' => (∃ v, e = .returned v) ∧ J [] W' := by
  have mixed : Tryz.prog.follows .mixedOrders = true := by kernel_rfl
  refine callsIn_of_wp Tryz.func85 rfl (trivial : Fence.wide.fn _) ?_ rfl
  simp only [Tryz.ntmps85, List.size_toArray, List.length_cons, List.length_nil, Nat.reduceAdd, Nat.reduceSub, Array.replicate_succ, Array.replicate_zero, List.push_toArray, List.append_toArray, List.nil_append, List.cons_append]
  have hrg := run_range_nilMap (P := Tryz.prog) W 69 31 49 Tryz.underlying69
  have hnx : ∀ ty, (Instr.next (.pointer (some ⟨W.heap.size, 0, none⟩)) false ty).run Tryz.prog (W.alloc (.mapIter none 0 #[] 0)) = _ := fun ty => run_next_nilMap _ ty 0 0 #[]
  gi_wp2
  refine wpIn_loop_rounds 1 ?_
  rw [roundsIn_succ]
  gi_wp2
  go_end0
  exact ⟨⟨_, rfl⟩, hJ [] W _ none h0 (World.grownBy_alloc W _ none) (fun r e => by cases e)⟩
theorem keysT_seq (Bm : Nat) (ob : Option Nat) (m : List (Value × Value)) (K0 : List Ky) (hK : m.map Prod.fst = K0.map kyv) (w : World) (hBm : Bm < w.heap.size) (hm : w.cell? ⟨Bm, 0, none⟩ = some (.map ob)) (hv : MV w 31 ob m) :
    SeqStopsK Fence.wide 1 Tryz.prog 85 #[.pointer (some ⟨Bm, 0, none⟩)] (fun k : Ky => #[Value.agg #[.int .i64 k.1, .int .i64 k.2]]) KeepsWalks (fun ys => (ys.map kyv).Perm (K0.map kyv)) (fun _ => True) m.length w := by
  intro ly J Jx W hW hJ hJx hY h0
  rcases hv with ⟨rfl, rfl⟩ | ⟨b, rfl, hpm⟩
  · have hk0 : K0 = [] := by cases K0 with | nil => rfl | cons a l => cases hK
    subst hk0
    exact (keys1T_nil ly Bm J W hJ ((hW.cell (p := ⟨Bm, 0, none⟩) hBm).trans hm) h0).mono fun e W' ⟨h1, h2⟩ => ⟨h1, .inl ⟨[], List.Perm.refl _, h2⟩⟩
  · refine (keys1T_in ly Bm b m J Jx (fun p hp => ?_) W hJ hY ((hW.cell (p := ⟨Bm, 0, none⟩) hBm).trans hm) (hpm.below hW) h0).mono fun e W' h => ?_
    · have : p.1 ∈ K0.map kyv := by rw [← hK]; exact List.mem_map_of_mem hp
      obtain ⟨k, _, hk⟩ := List.mem_map.1 this
      exact ⟨k, hk.symm⟩
    · obtain ⟨h1, ⟨ys, h2, h3⟩ | ⟨pre, h2⟩⟩ := h
      · exact ⟨h1, .inl ⟨ys, by rw [← hK]; exact h2, h3⟩⟩
      · exact ⟨h1, .inr ⟨pre, trivial, h2⟩⟩
theorem keyscallT_c (ob : Option Nat) (w : World) : Calls Tryz.prog 67 #[.map ob] w fun e w' => e = .returned (.func (.func 85) #[] #[.pointer (some ⟨w.heap.size, 0, none⟩)]) ∧ w' = w.alloc (.cells #[.map ob] 69) := by
  go_enter Tryz.func67, Tryz.ntmps67
  go_wp2
  go_ret
  exact ⟨by first | rfl | simp, rfl⟩
set_option maxHeartbeats 2000000 in
/-- rising. -/
theorem risingT_c (ob : Option Nat) (m : List (Value × Value)) (K0 : List Ky) (w : World) (hK : m.map Prod.fst = K0.map kyv) (hv : MV w 31 ob m) (hn : K0.length ≤ 100000) :
    Calls Tryz.prog 45 #[.map ob] w fun e w' => ∃ v, e = .returned v ∧ KRow w' w.heap.size v (srtK K0) ∧ Below w.heap.size w w' := by
  have hml : m.length = K0.length := by have := congrArg List.length hK; simpa using this
  have hnd : K0.Nodup := by
    have := hv.nd
    rw [hK] at this
    exact List.Pairwise.of_map kyv (fun a b h e => h (by rw [e])) this
  have HV := Lib.hid hv
  have HK := Lib.hid hK
  have HND := Lib.hid hnd
  have CC := Lib.hid (keyscallT_c ob w)
  have eg : ∀ args w, (callFunc 85 args).run Tryz.prog w = .ok (.enter 85 args) w := enters_of Tryz.func85 (by kernel_rfl) rfl
  have EG := Lib.hid eg
  clear hv hK hnd eg
  go_enter Tryz.func45, Tryz.ntmps45
  go_wp2_with fail
  refine CC.out.mono ?_
  rintro e w1 ⟨rfl, hw1⟩
  have hx1 := Bx.new 69 w #[.map ob]
  rw [← hw1] at hx1
  have hb1 : Below w.heap.size w w1 := by rw [hw1]; exact alloc_below _ _
  have HX1 := Lib.hid hx1
  have HB1 := Lib.hid hb1
  have CB := Lib.hid (by_g w1)
  clear hw1 hx1 hb1 CC
  go_wp2_with fail
  refine CB.out.mono ?_
  rintro e w2 ⟨rfl, hw2⟩
  have hb2 : Below w1.heap.size w1 w2 := by rw [hw2]; exact alloc_below _ _
  have HB2 := Lib.hid (bn HB1.out hb2)
  have hx2 := HX1.out.below hb2
  have hc2 := hx2.cell 0
  simp only [List.getElem?_toArray, List.getElem?_cons_zero] at hc2
  have CS := Lib.hid (sortedK_c w1.heap.size 85 #[.pointer (some ⟨w.heap.size, 0, none⟩)] (K0.map kyv) m.length w2 EG.out (by omega) (by simpa using hn) (by_box hw2) (keysT_seq w.heap.size ob m K0 HK.out w2 hx2.lt hc2 (HV.out.below (bn HB1.out hb2))))
  clear hw2 hb2 hx2 hc2 CB
  go_wp2_with fail
  refine CS.out.mono ?_
  rintro e w3 ⟨v, ks, rfl, hr, hp, hb3⟩
  have hs : srtK ks = srtK K0 := srtK_perm_eq (perm_kyv hp) HND.out
  rw [hs] at hr
  have HR := Lib.hid (own_mono hr HB2.out.size)
  have HB3 := Lib.hid (bn HB2.out hb3)
  obtain ⟨A, C, rfl, _⟩ := own_form hr
  clear hr hb3 hp hs CS
  go_wp2
  go_ret
  exact ⟨_, rfl, HR.out, HB3.out⟩
set_option maxHeartbeats 2000000 in
theorem keys1L_nil (ly Bm : Nat) (J : List Ky → World → Prop) (W : World) (hJ : AbidesFrom W.heap.size J) (hm : W.cell? ⟨Bm, 0, none⟩ = some (.map none)) (h0 : J [] W) :
    CallsIn Fence.wide 1 Tryz.prog 92 #[.func (.yield ly) #[] #[], .pointer (some ⟨Bm, 0, none⟩)] W fun e W' => (∃ v, e = .returned v) ∧ J [] W' := by
  have mixed : Tryz.prog.follows .mixedOrders = true := by kernel_rfl
  refine callsIn_of_wp Tryz.func92 rfl (trivial : Fence.wide.fn _) ?_ rfl
  simp only [Tryz.ntmps92, List.size_toArray, List.length_cons, List.length_nil, Nat.reduceAdd, Nat.reduceSub, Array.replicate_succ, Array.replicate_zero, List.push_toArray, List.append_toArray, List.nil_append, List.cons_append]
  have hrg := run_range_nilMap (P := Tryz.prog) W 77 31 64 Tryz.underlying77
  have hnx : ∀ ty, (Instr.next (.pointer (some ⟨W.heap.size, 0, none⟩)) false ty).run Tryz.prog (W.alloc (.mapIter none 0 #[] 0)) = _ := fun ty => run_next_nilMap _ ty 0 0 #[]
  gi_wp2
  refine wpIn_loop_rounds 1 ?_
  rw [roundsIn_succ]
  gi_wp2
  go_end0
  exact ⟨⟨_, rfl⟩, hJ [] W _ none h0 (World.grownBy_alloc W _ none) (fun r e => by cases e)⟩
theorem keysL_seq (Bm : Nat) (ob : Option Nat) (m : List (Value × Value)) (K0 : List Ky) (hK : m.map Prod.fst = K0.map kyv) (w : World) (hBm : Bm < w.heap.size) (hm : w.cell? ⟨Bm, 0, none⟩ = some (.map ob)) (hv : MV w 31 ob m) :
    SeqStopsK Fence.wide 1 Tryz.prog 92 #[.pointer (some ⟨Bm, 0, none⟩)] (fun k : Ky => #[Value.agg #[.int .i64 k.1, .int .i64 k.2]]) KeepsWalks (fun ys => (ys.map kyv).Perm (K0.map kyv)) (fun _ => True) m.length w := by
  intro ly J Jx W hW hJ hJx hY h0
  rcases hv with ⟨rfl, rfl⟩ | ⟨b, rfl, hpm⟩
  · have hk0 : K0 = [] := by cases K0 with | nil => rfl | cons a l => cases hK
    subst hk0
    exact (keys1L_nil ly Bm J W hJ ((hW.cell (p := ⟨Bm, 0, none⟩) hBm).trans hm) h0).mono fun e W' ⟨h1, h2⟩ => ⟨h1, .inl ⟨[], List.Perm.refl _, h2⟩⟩
  · refine (keys1L_in ly Bm b m J Jx (fun p hp => ?_) W hJ hY ((hW.cell (p := ⟨Bm, 0, none⟩) hBm).trans hm) (hpm.below hW) h0).mono fun e W' h => ?_
    · have : p.1 ∈ K0.map kyv := by rw [← hK]; exact List.mem_map_of_mem hp
      obtain ⟨k, _, hk⟩ := List.mem_map.1 this
      exact ⟨k, hk.symm⟩
    · obtain ⟨h1, ⟨ys, h2, h3⟩ | ⟨pre, h2⟩⟩ := h
      · exact ⟨h1, .inl ⟨ys, by rw [← hK]; exact h2, h3⟩⟩
      · exact ⟨h1, .inr ⟨pre, trivial, h2⟩⟩
theorem keyscallL_c (ob : Option Nat) (w : World) : Calls Tryz.prog 76 #[.map ob] w fun e w' => e = .returned (.func (.func 92) #[] #[.pointer (some ⟨w.heap.size, 0, none⟩)]) ∧ w' = w.alloc (.cells #[.map ob] 77) := by
  go_enter Tryz.func76, Tryz.ntmps76
  go_wp2
  go_ret
  exact ⟨by first | rfl | simp, rfl⟩
set_option maxHeartbeats 2000000 in
/-- rising. -/
theorem risingL_c (ob : Option Nat) (m : List (Value × Value)) (K0 : List Ky) (w : World) (hK : m.map Prod.fst = K0.map kyv) (hv : MV w 31 ob m) (hn : K0.length ≤ 100000) :
    Calls Tryz.prog 57 #[.map ob] w fun e w' => ∃ v, e = .returned v ∧ KRow w' w.heap.size v (srtK K0) ∧ Below w.heap.size w w' := by
  have hml : m.length = K0.length := by have := congrArg List.length hK; simpa using this
  have hnd : K0.Nodup := by
    have := hv.nd
    rw [hK] at this
    exact List.Pairwise.of_map kyv (fun a b h e => h (by rw [e])) this
  have HV := Lib.hid hv
  have HK := Lib.hid hK
  have HND := Lib.hid hnd
  have CC := Lib.hid (keyscallL_c ob w)
  have eg : ∀ args w, (callFunc 92 args).run Tryz.prog w = .ok (.enter 92 args) w := enters_of Tryz.func92 (by kernel_rfl) rfl
  have EG := Lib.hid eg
  clear hv hK hnd eg
  go_enter Tryz.func57, Tryz.ntmps57
  go_wp2_with fail
  refine CC.out.mono ?_
  rintro e w1 ⟨rfl, hw1⟩
  have hx1 := Bx.new 77 w #[.map ob]
  rw [← hw1] at hx1
  have hb1 : Below w.heap.size w w1 := by rw [hw1]; exact alloc_below _ _
  have HX1 := Lib.hid hx1
  have HB1 := Lib.hid hb1
  have CB := Lib.hid (by_g w1)
  clear hw1 hx1 hb1 CC
  go_wp2_with fail
  refine CB.out.mono ?_
  rintro e w2 ⟨rfl, hw2⟩
  have hb2 : Below w1.heap.size w1 w2 := by rw [hw2]; exact alloc_below _ _
  have HB2 := Lib.hid (bn HB1.out hb2)
  have hx2 := HX1.out.below hb2
  have hc2 := hx2.cell 0
  simp only [List.getElem?_toArray, List.getElem?_cons_zero] at hc2
  have CS := Lib.hid (sortedK_c w1.heap.size 92 #[.pointer (some ⟨w.heap.size, 0, none⟩)] (K0.map kyv) m.length w2 EG.out (by omega) (by simpa using hn) (by_box hw2) (keysL_seq w.heap.size ob m K0 HK.out w2 hx2.lt hc2 (HV.out.below (bn HB1.out hb2))))
  clear hw2 hb2 hx2 hc2 CB
  go_wp2_with fail
  refine CS.out.mono ?_
  rintro e w3 ⟨v, ks, rfl, hr, hp, hb3⟩
  have hs : srtK ks = srtK K0 := srtK_perm_eq (perm_kyv hp) HND.out
  rw [hs] at hr
  have HR := Lib.hid (own_mono hr HB2.out.size)
  have HB3 := Lib.hid (bn HB2.out hb3)
  obtain ⟨A, C, rfl, _⟩ := own_form hr
  clear hr hb3 hp hs CS
  go_wp2
  go_ret
  exact ⟨_, rfl, HR.out, HB3.out⟩
end Go.Proofs.YtdjlgiinekighaaGreatDoor
/-
  slices.Sorted of slices.Values at ints, by contract: the numbers, in their order, in a row of one's own.
-/
namespace Go.Proofs.YtdjlgiinekighaaGreatDoor
open Go.RowKit Go.Lib Go.Sort Go.Shelf Go.Maps Go.Proofs.YtdjlgiinekighaaGreatDoor.P
set_option maxRecDepth 100000

attribute [local go_sem] Oper.semAt_some

/-- The row behind the loop so far. -/
def HeldI (n₀ Bk : Nat) (ks : List Int) (W : World) : Prop := ∃ v, Boxed W Bk 64 v ∧ Row W n₀ v ks
theorem HeldI.nocells {W W' : World} {n₀ Bk : Nat} {ks : List Int} {row : Option Nat} (h : HeldI n₀ Bk ks W) (hg : W.grownBy W' row) (hrow : ∀ r, row = some r → ∃ o : Obj, W.heap[r]? = some o ∧ o.isCells = false) : HeldI n₀ Bk ks W' := by
  obtain ⟨v, h1, h2⟩ := h
  exact ⟨v, boxed_nocells h1 hg hrow, row_nocells h2 hg hrow⟩
theorem HeldI.below {W W' : World} {n₀ Bk : Nat} {ks : List Int} (h : HeldI n₀ Bk ks W) (hb : Below W.heap.size W W') : HeldI n₀ Bk ks W' := by
  obtain ⟨v, h1, h2⟩ := h
  exact ⟨v, (hb.block Bk h1.lt).trans h1, Row.below h2 hb⟩
set_option maxHeartbeats 8000000 in
theorem appendI_c (g : FuncId) (lb : Array Value) (zs : List Int) (n₁ : Nat) (N : Nat) (w : World) (hn₁ : n₁ ≤ w.heap.size) (eg : ∀ args w, (callFunc g args).run Tryz.prog w = .ok (.enter g args) w) (hN : N ≤ 100000)
    (hseq : SeqStopsK Fence.wide 1 Tryz.prog g lb (fun k : Int => #[Value.int .i64 k]) (fun A B => Below n₁ A B) (fun ys => ys = zs) (fun _ => True) N w) :
    Calls Tryz.prog 93 #[.slice none 0 0, .func (.func g) #[] lb] w fun e w' => ∃ v, e = .returned v ∧ Row w' w.heap.size v zs ∧ Below w.heap.size w w' := by
  refine (callsIn_wide (n := 2)).1 ?_
  obtain ⟨i0, hi, hz0, hz1, hz2⟩ := info_parts intInfo
  refine callsIn_of_wp_marks Tryz.func93 rfl (trivial : Fence.wide.fn _) ?_ rfl
  simp only [Tryz.ntmps93, List.size_toArray, List.length_cons, List.length_nil, Nat.reduceAdd, Nat.reduceSub, Array.replicate_succ, Array.replicate_zero, List.push_toArray, List.append_toArray, List.nil_append, List.cons_append]
  gi_wp2
  obtain ⟨W1, hW1⟩ : ∃ W1, W1 = w.alloc (.cells #[.slice none 0 0] 64) := ⟨_, rfl⟩
  have hB0 : Below w.heap.size w W1 := by rw [hW1]; exact alloc_below _ _
  have hsz : W1.heap.size = w.heap.size + 1 := by rw [hW1]; simp
  have b0 : Boxed W1 w.heap.size 64 (.slice none 0 0) := by rw [hW1]; exact Boxed.new w _ _
  rw [← hW1]
  clear hW1
  refine wpIn_rangeFunc_ownH rfl (by omega) (gf := g) (lb := lb) rfl (trivial : Fence.wide.fn _) eg hseq (fun h k => belowK_t h k) (fun W l o o' hl h h1 h2 => belowK_b (w := W1) (by omega) W l o o' hl h h1 h2) hB0 (fun _ => rfl)
    (fun pre W => HeldI w.heap.size w.heap.size pre W ∧ Below w.heap.size w W ∧ W1.heap.size ≤ W.heap.size)
    (fun _ _ _ => False)
    (fun s W W' row hs hg hr => ⟨hs.1.nocells hg (fun r e => (hr r e).2), hs.2.1.grown hg (by have := hs.2.2; omega) (fun k e => by have := (hr k e).1; omega), Nat.le_trans hs.2.2 hg.size⟩)
    (fun _ _ _ _ _ hs _ _ => hs)
    ⟨⟨_, b0, Row.nil _ _⟩, hB0, Nat.le_refl _⟩
    (fun z a' W => a' = { tmps := #[.slice none 0 0, .func (.func g) #[] lb, .pointer (some ⟨w.heap.size, 0, none⟩), undef, .slice none 0 0, .int .i64 z, .func (.func g) #[] lb, .int .i64 z, undef, undef, undef, undef, undef], defers := [] })
    (fun z a' s W W' row h5 hg hr => h5) ?assign ?body ?done ?stop
  case assign =>
    rintro ly pre xo W K ⟨hH, hB, hs5⟩ hK
    gi_wp2
    exact hK _ _ (keeps_of_below (Below.refl _ _)) (Below.refl _ _) ⟨hH, hB, hs5⟩ rfl
  case body =>
    rintro ly pre xo a' W hl ⟨r, hr⟩ ⟨hH, hB, hs5⟩ rfl hlt
    obtain ⟨v, hv, hrow⟩ := hH
    have hc := hv.cell
    have HBB := Lib.hid hB
    have HS5 := Lib.hid hs5
    have hsl := hB.size
    gi_wp2_with (first
      | (gi_at_builtin; refine wpListIn_append_own _ rfl _ _ 64 rfl w.heap.size 3 i0 (.int .i64 0) 1 8 Tryz.underlying64 hi hz0 hz1 hz2 rfl (by decide) _ _ _ rfl (World.ownsRow.alloc hrow _) ⟨W.heap.size, 0, none⟩ 1 1 [.int .i64 xo] rfl rfl (cell_one_new _ _ _) (fun u hu => by simp at hu; subst hu; rfl) (by unfold maxLen; omega) (by omega) (by simp; omega) ?_; intro v' w1 hown' hgrow _; obtain ⟨g', cap', rfl⟩ := ownsRow_succ hown'; obtain ⟨hv1, hv2, hr2, hk2, hb2⟩ := Boxed.appended hv (by decide) hrow hsl (Nat.le_refl _) hown' hgrow; have hc1 := hv1.cell; have hf1 := hv1.frozen))
    have hrow2 : Row (w1.setCell ⟨w.heap.size, 0, none⟩ (.slice (some ⟨g', 0, none⟩) (pre.length + 1) cap')) w.heap.size (.slice (some ⟨g', 0, none⟩) (pre.length + 1) cap') (pre ++ [xo]) := by
      unfold Row
      rw [List.length_append, List.length_singleton, show ints (pre ++ [xo]) = ints pre ++ [.int .i64 xo] from by simp [ints]]
      exact hr2
    exact ⟨hk2.from _, hb2.mono hn₁, ⟨⟨_, hv2, hrow2⟩, HBB.out.trans hb2, by have := hb2.size; have := HS5.out; omega⟩⟩
  case done =>
    rintro D ys W hD hys ⟨⟨v, hv, hrow⟩, hB, _⟩ hK
    have hc := hv.cell
    gi_wp2
    refine ⟨by simp, .inl ⟨_, _, rfl, run_takeDeferred hK, ?_⟩⟩
    have hg := grownBy_putObj' W D (.deferred none)
    have hnc : ∀ r, some D = some r → ∃ o : Obj, W.heap[r]? = some o ∧ o.isCells = false := fun r e => by cases e; exact ⟨_, hK, rfl⟩
    subst hys
    exact ⟨_, results_tmp rfl _ _ _, v, rfl, row_nocells hrow hg hnc, hB.trans (belowK_b (w := W1) (by omega) W D _ _ hD hK rfl rfl)⟩
  case stop =>
    rintro D c pre W _ _ h _
    exact h.elim

set_option maxHeartbeats 4000000 in
/-- The iterator of slices.Values. -/
theorem vals1_in (ly Bm : Nat) (zs : List Int) (v : Value) (J Jx : List Int → World → Prop) (w0 W : World) (hv : Nl w0 v zs) (hW : Below w0.heap.size w0 W) (hn : zs.length ≤ 1000000)
    (hY : ∀ pre x W1, J pre W1 → pre.length < zs.length → YieldAt Fence.wide 0 Tryz.prog ly #[.int .i64 x] W1 fun e W' => (e = .returned (.bool true) ∧ J (pre ++ [x]) W' ∧ Below w0.heap.size W1 W') ∨ (e = .returned (.bool false) ∧ Jx (pre ++ [x]) W'))
    (hm : W.cell? ⟨Bm, 0, none⟩ = some v) (h0 : J [] W) :
    CallsIn Fence.wide 1 Tryz.prog 79 #[.func (.yield ly) #[] #[], .pointer (some ⟨Bm, 0, none⟩)] W fun e W' => (∃ v, e = .returned v) ∧ ((∃ ys, ys = zs ∧ J ys W') ∨ (∃ pre, True ∧ Jx pre W')) := by
  obtain ⟨ad, cap, rfl, k1⟩ := hv.form
  have K1 := Lib.hid k1
  have HW := Lib.hid hW
  have HY := Lib.hid hY
  have HJ0 := Lib.hid h0
  clear k1 hv hW hY h0
  refine callsIn_of_wp Tryz.func79 rfl (trivial : Fence.wide.fn _) ?_ rfl
  simp only [Tryz.ntmps79, List.size_toArray, List.length_cons, List.length_nil, Nat.reduceAdd, Nat.reduceSub, Array.replicate_succ, Array.replicate_zero, List.push_toArray, List.append_toArray, List.nil_append, List.cons_append]
  gi_wp2
  gi_loopw [4, 7] (fun v4 v7 wr => ∃ k : Nat, k ≤ zs.length ∧ v7 = .int .i64 (k : Int) ∧ Hid (J (zs.take k) wr) ∧ Hid (Below w0.heap.size w0 wr)) (fun _ v7 _ => zs.length - (RowKit.intOf v7).toNat)
  case atStart => exact ⟨0, by omega, rfl, HJ0, HW⟩
  case round =>
    obtain ⟨k, hk, rfl, HJs, HB⟩ := hrel
    by_cases hp : k < zs.length
    · obtain ⟨g, o, rfl, n1⟩ := K1.out (by omega)
      have d1 := (HB.out.cell (World.block_lt_of_cell? _ _ (n1 k hp))).trans (n1 k hp)
      obtain ⟨fn, tmps, assign, body, hy, hR⟩ := HY.out (zs.take k) zs[k] wr HJs.out (by rw [List.length_take]; omega)
      have HT := Lib.hid (List.take_succ_eq_append_getElem hp)
      have HP := Lib.hid hp
      generalize zs[k] = z at d1 hy hR HT
      clear n1
      gi_wp2
      refine hR.mono ?_
      rintro e W3 (⟨rfl, hJ4, hk4⟩ | ⟨rfl, hJx4⟩)
      · have HJ4 := Lib.hid hJ4
        have HB4 := Lib.hid (HB.out.trans hk4)
        clear hJ4 hk4 hy
        gi_wp2
        go_roundw
        case rel => exact ⟨k + 1, HP.out, by go_num, by rw [HT.out]; exact HJ4, HB4⟩
        case measure => have := HP.out; simp [RowKit.intOf]; omega
      · gi_wp2
        refine bodyPost_ret (results_none rfl _ _ _) rfl ?_
        exact ⟨⟨_, rfl⟩, .inr ⟨_, trivial, hJx4⟩⟩
    · have hks : zs.take k = zs := List.take_of_length_le (by omega)
      have HJ2 : Hid (J zs wr) := by rw [← hks]; exact HJs
      clear hks
      gi_wp2
      go_end0
      exact ⟨⟨_, rfl⟩, .inl ⟨zs, rfl, HJ2.out⟩⟩
theorem vals_seq (Bm : Nat) (zs : List Int) (v : Value) (w0 w : World) (hv : Nl w0 v zs) (hW : Below w0.heap.size w0 w) (hn : zs.length ≤ 1000000) (hBm : Bm < w.heap.size) (hm : w.cell? ⟨Bm, 0, none⟩ = some v) :
    SeqStopsK Fence.wide 1 Tryz.prog 79 #[.pointer (some ⟨Bm, 0, none⟩)] (fun k : Int => #[Value.int .i64 k]) (fun A B => Below w0.heap.size A B) (fun ys => ys = zs) (fun _ => True) zs.length w :=
  fun ly J Jx W hWW _ _ hY h0 => vals1_in ly Bm zs v J Jx w0 W hv (hW.trans (hWW.mono hW.size)) hn hY ((hWW.cell (p := ⟨Bm, 0, none⟩) hBm).trans hm) h0
theorem valscall_c (A : Option Addr) (n C : Nat) (w : World) : Calls Tryz.prog 59 #[.slice A n C] w fun e w' => e = .returned (.func (.func 79) #[] #[.pointer (some ⟨w.heap.size, 0, none⟩)]) ∧ w' = w.alloc (.cells #[.slice A n C] 64) := by
  go_enter Tryz.func59, Tryz.ntmps59
  go_wp2
  go_ret
  exact ⟨by first | rfl | simp, rfl⟩
set_option maxHeartbeats 2000000 in
theorem collectI_c (g : FuncId) (lb : Array Value) (zs : List Int) (n₁ : Nat) (N : Nat) (w : World) (hn₁ : n₁ ≤ w.heap.size) (eg : ∀ args w, (callFunc g args).run Tryz.prog w = .ok (.enter g args) w) (hN : N ≤ 100000)
    (hseq : SeqStopsK Fence.wide 1 Tryz.prog g lb (fun k : Int => #[Value.int .i64 k]) (fun A B => Below n₁ A B) (fun ys => ys = zs) (fun _ => True) N w) :
    Calls Tryz.prog 77 #[.func (.func g) #[] lb] w fun e w' => ∃ v, e = .returned v ∧ Row w' w.heap.size v zs ∧ Below w.heap.size w w' := by
  have CA := Lib.hid (appendI_c g lb zs n₁ N w hn₁ eg hN hseq)
  clear hseq eg
  go_enter Tryz.func77, Tryz.ntmps77
  go_wp2_with fail
  refine CA.out.mono ?_
  rintro e w1 ⟨v, rfl, hr, hb⟩
  obtain ⟨A, C, rfl, _⟩ := own_form hr
  have HR := Lib.hid hr
  have HB := Lib.hid hb
  clear hr hb CA
  go_wp2
  go_ret
  exact ⟨_, rfl, HR.out, HB.out⟩
/-- The numbers, in their order. -/
def srtI (l : List Int) : List Int := l.mergeSort fun x y => decide (x ≤ y)
theorem srtI_len (l : List Int) : (srtI l).length = l.length := (List.mergeSort_perm _ _).length_eq
theorem ints_bang (l : List Int) (j : Nat) (hj : j < l.length) : (ints l)[j]? = some (Value.int .i64 l.toArray[j]!) := by
  rw [ints_at l j hj, getElem!_pos _ j (by simpa using hj)]
  simp
theorem holds_row {w : World} {B g cap : Nat} {l : List Int} (h : Row w B (.slice (some ⟨g, 0, none⟩) l.length cap) l) : Holds (Value.int .i64) w g 0 l.toArray := by
  intro j hj
  have hj' : j < l.length := by simpa using hj
  have hc := World.ownsRow.cellAt h j (by omega)
  have hf := World.ownsRow.frozenAt h j
  rw [Nat.zero_add]
  exact ⟨by rw [hc, ints_bang l j hj'], hf⟩
theorem row_sorted {w : World} {B g cap n : Nat} {l m : List Int} {os : Array Obj} (h : Row w B (.slice (some ⟨g, 0, none⟩) l.length cap) l) (hm : m.length = l.length) :
    Row (grow (putRow (Value.int .i64) (Sort.ahead w n) g 0 m.toArray) os) B (.slice (some ⟨g, 0, none⟩) l.length cap) m ∧ w.grownBy (grow (putRow (Value.int .i64) (Sort.ahead w n) g 0 m.toArray) os) (some g) := by
  obtain ⟨h0, h | ⟨g', cap', cur, e, hB, hh, h1, h2, h3, h4⟩⟩ := h
  · cases h.1
  · simp only [Value.slice.injEq, Option.some.injEq, Addr.mk.injEq, and_true, true_and] at e
    obtain ⟨rfl, rfl⟩ := e
    have hg : g < w.heap.size := (Array.getElem?_eq_some_iff.1 hh).1
    have hheap : (grow (putRow (Value.int .i64) (Sort.ahead w n) g 0 m.toArray) os).heap[g]? = some (.cells (putCells (Value.int .i64) 0 m.toArray cur) 3 (0, 0)) := by
      rw [heap_grow_old _ _ (by simpa [putRow, mapBlock, Sort.ahead] using hg)]
      simp [putRow, mapBlock, Sort.ahead, Array.getElem?_modify, hh, onCells]
    refine ⟨⟨by rw [ints_len, Nat.mul_one, hm], .inr ⟨g, cap, _, by rw [hm], hB, hheap, by omega, h2, by simp [putCells, h3], ?_⟩⟩, ?_⟩
    · apply List.ext_getElem?
      intro j
      by_cases hj : j < m.length
      · rw [List.getElem?_take_of_lt (by omega), Array.getElem?_toList, ints_bang m j hj]
        have hjc : j < cur.size := by omega
        simp only [putCells, Array.getElem?_mapIdx, Array.getElem?_eq_getElem hjc, Option.map_some]
        simp [hj]
      · rw [List.getElem?_take_eq_none (by omega), List.getElem?_eq_none (by rw [ints_len]; omega)]
    · refine ⟨rfl, rfl, rfl, by simp [putRow, mapBlock, Sort.ahead], fun k hk hne => ?_⟩
      rw [heap_grow_old _ _ (by simpa [putRow, mapBlock, Sort.ahead] using hk)]
      have : g ≠ k := fun e => hne (by rw [e])
      simp [putRow, mapBlock, Sort.ahead, Array.getElem?_modify, this]
theorem sortI_c (l : List Int) (v : Value) (w : World) (B : Nat) (h : Row w B v l) (hn : l.length ≤ 1000000) :
    Calls Tryz.prog 78 #[v] w fun e w' => e = .returned (.tuple #[]) ∧ Row w' B v (srtI l) ∧ w.grownBy w' v.ownBlock := by
  rcases Nat.eq_zero_or_pos l.length with hz | hz
  · obtain rfl : l = [] := List.eq_nil_of_length_eq_zero hz
    obtain ⟨A, C, rfl, _⟩ := own_form h
    have hcon := AnyM.slices_Sort_int_none Tryz.sortI A C w
    exact hcon.mono fun e w' ⟨h1, h2⟩ => ⟨h1, by rw [h2, show srtI [] = [] from by simp [srtI]]; exact h, by rw [h2]; exact grown_refl _ _⟩
  · obtain ⟨g, cap, rfl, hB, hlt⟩ := World.ownsRow.form h (by omega)
    have hcon := AnyM.slices_Sort_int Tryz.sortI g 0 cap l w (holds_row h) hlt (by omega)
    refine hcon.mono fun e w' ⟨h1, n, os, h2⟩ => ⟨h1, ?_⟩
    obtain ⟨h3, h4⟩ := row_sorted (n := n) (os := os) h (srtI_len l)
    rw [h2]
    exact ⟨h3, h4⟩
set_option maxHeartbeats 2000000 in
/-- slices.Sorted. -/
theorem sortedI_c (g : FuncId) (lb : Array Value) (zs : List Int) (n₁ : Nat) (N : Nat) (w : World) (hn₁ : n₁ ≤ w.heap.size) (eg : ∀ args w, (callFunc g args).run Tryz.prog w = .ok (.enter g args) w) (hN : N ≤ 100000) (hz : zs.length ≤ 100000)
    (hseq : SeqStopsK Fence.wide 1 Tryz.prog g lb (fun k : Int => #[Value.int .i64 k]) (fun A B => Below n₁ A B) (fun ys => ys = zs) (fun _ => True) N w) :
    Calls Tryz.prog 58 #[.func (.func g) #[] lb] w fun e w' => ∃ v, e = .returned v ∧ Row w' w.heap.size v (srtI zs) ∧ Below w.heap.size w w' := by
  have CA := Lib.hid (collectI_c g lb zs n₁ N w hn₁ eg hN hseq)
  clear hseq eg
  go_enter Tryz.func58, Tryz.ntmps58
  go_wp2_with fail
  refine CA.out.mono ?_
  rintro e w1 ⟨v, rfl, hr, hb⟩
  obtain ⟨A, C, rfl, _⟩ := own_form hr
  have HR := Lib.hid hr
  have HB := Lib.hid hb
  have CS := Lib.hid (sortI_c zs _ w1 w.heap.size hr (by omega))
  clear hr hb CA
  go_wp2_with fail
  refine CS.out.mono ?_
  rintro e w2 ⟨rfl, hr2, hg2⟩
  have HR2 := Lib.hid hr2
  have HB2 := Lib.hid (HB.out.trans (below_of_grown hg2 HB.out.size (fun i hi => (World.ownsRow.lt HR.out i hi).1)))
  clear hr2 hg2 CS
  go_wp2
  go_ret
  exact ⟨_, rfl, HR2.out, HB2.out⟩
end Go.Proofs.YtdjlgiinekighaaGreatDoor
/-
  list of the program, by contract: places by Keys, as a list of Posts of one's own.
-/
namespace Go.Proofs.YtdjlgiinekighaaGreatDoor
open Go.RowKit Go.Lib Go.Sort Go.Shelf Go.Maps Go.Proofs.YtdjlgiinekighaaGreatDoor.P
set_option maxRecDepth 100000
set_option linter.unusedSimpArgs false

/-- A Key's places, as an entry of a map. -/
def kv (x : Pv) : Value × Value := (kyv (x.o, x.s), x.a)
def kyo (x : Pv) : Ky := (x.o, x.s)
theorem kv_fst (l : List Pv) : (l.map kv).map Prod.fst = (l.map kyo).map kyv := by simp [kv, kyo]
/-- The places at a Key. -/
def nsAt (es : List Pv) (k : Ky) : List Int := ((es.find? fun x => x.o == k.1 && x.s == k.2).map Pv.ns).getD []
/-- What list answers. -/
def lstP (es : List Pv) : List Po := (srtK (es.map kyo)).map fun k => ⟨k, srtI (nsAt es k)⟩
theorem nsAt_mem {es : List Pv} (hnd : (es.map kyo).Nodup) {x : Pv} (hx : x ∈ es) : nsAt es (x.o, x.s) = x.ns := by
  unfold nsAt
  have : es.find? (fun y => y.o == x.o && y.s == x.s) = some x := by
    induction es with
    | nil => cases hx
    | cons y r ih =>
      rw [List.map_cons, List.nodup_cons] at hnd
      rcases List.mem_cons.1 hx with rfl | hx
      · rw [List.find?_cons_of_pos (by simp)]
      · have hne : ¬ ((y.o == x.o && y.s == x.s) = true) := fun e => by
          simp only [Bool.and_eq_true, beq_iff_eq] at e
          exact hnd.1 (List.mem_map.2 ⟨x, hx, by simp [kyo, e.1, e.2]⟩)
        have hne' : (y.o == x.o && y.s == x.s) = false := by simpa using hne
        simp only [List.find?_cons, hne']
        exact ih hnd.2 hx
  rw [this]
  rfl
theorem step_papp {w : World} {ops : Array Oper} {o : Oper} {a : Act} {K : Act → World → Prop} {Q : Exit → Act → World → Prop} {E : Prop} (hgd : o.guard = none) (s x : Operand)
    (ho : o.op = .call { callee := .builtin .append, args := #[s, x], argTypes := #[42, 42] })
    (B : Nat) (v u : Value) (m l : List Pv) (hs : a.eval s = v) (hx : a.eval x = u) (hv : PRow w B v m) (hu : PRd w u l) (hn : m.length + l.length ≤ 1000000) (hB : B ≤ w.heap.size)
    (h : ∀ A C w', PRow w' B (.slice A (m ++ l).length C) (m ++ l) → w.grownBy w' v.ownBlock → K (a.put o.dst (.slice A (m ++ l).length C)) w') :
    if Region.wanted o (yielded ops a.tmps) = true then Oper.wp Tryz.prog o a w K Q else E := by
  have hw : Region.wanted o (yielded ops a.tmps) = true := by simp [Region.wanted, hgd]
  rw [if_pos hw]
  obtain ⟨A, C, w', hr, h2, h3, _⟩ := papp_run m l v u w o.type B hv hu hn hB
  unfold Oper.wp execOp
  simp only [ho, resolve, invoke, builtin, Sem.run_bind, Sem.run_pure, Result.andThen_ok, List.map_toArray, List.map_cons, List.map_nil, hs, hx, hr]
  exact h A C w' h2 h3
/-- One Post more, with places of one's own. -/
theorem POwn.push {w w4 w5 : World} {B : Nat} {v v5 : Value} {qs : List Pv} {x : Pv} (h : POwn w B v qs) (hb : Below w.heap.size w w4) (hr : PRow w5 B v5 (qs ++ [x])) (hg : w4.grownBy w5 v.ownBlock) (hx : Row w4 w.heap.size x.a x.ns) (hB : B ≤ w.heap.size) : POwn w5 B v5 (qs ++ [x]) := by
  have h4 := h.below hb
  have ne : ∀ (a : Value) (ns : List Int) (C : Nat), Row w4 C a ns → ∀ g, v.ownBlock = some g → ∀ g', a.ownBlock = some g' → g ≠ g' := fun a ns C ha g hg g' hg' e => by
    subst e
    rcases h4.row.2 with ⟨e1, _⟩ | ⟨g1, cap, cur, e1, _, h2, _⟩
    · rw [e1] at hg; cases hg
    · rw [e1] at hg
      simp only [Value.ownBlock, Option.some.injEq] at hg
      subst hg
      rcases ha.2 with ⟨e2, _⟩ | ⟨g2, cap2, cur2, e2, _, h3, _⟩
      · rw [e2] at hg'; cases hg'
      · rw [e2] at hg'
        simp only [Value.ownBlock, Option.some.injEq] at hg'
        subst hg'
        rw [h2] at h3
        simp only [Option.some.injEq, Obj.cells.injEq] at h3
        exact absurd h3.2.1 (by decide)
  refine ⟨hr, fun y hy => ?_, ?_⟩
  · rcases List.mem_append.1 hy with hy | hy
    · exact (h4.rows y hy).far hg (ne _ _ _ (h4.rows y hy))
    · simp only [List.mem_singleton] at hy
      subst hy
      exact (Row.mono hx hB).far hg (ne _ _ _ hx)
  · rw [List.map_append, List.pairwise_append]
    refine ⟨h.pw, List.pairwise_singleton _ _, fun a ha b hb2 => ?_⟩
    simp only [List.map_cons, List.map_nil, List.mem_singleton] at hb2
    subst hb2
    obtain ⟨y, hy, rfl⟩ := List.mem_map.1 ha
    intro g hg1 hg2
    have h1 := (World.ownsRow.lt (h.rows y hy) g hg1).2
    have h2 := (World.ownsRow.lt hx g hg2).1
    omega
set_option maxHeartbeats 16000000 in
theorem list_c (ob : Option Nat) (es : List Pv) (w : World) (hv : MV w 31 ob (es.map kv)) (hn : ∀ x ∈ es, Nl w x.a x.ns) (hl : ∀ x ∈ es, x.ns.length ≤ 100000) (ho : ∀ x ∈ es, okKy (x.o, x.s)) (hlen : es.length ≤ 100000) :
    Calls Tryz.prog 35 #[.map ob] w fun e w' => ∃ v qs, e = .returned v ∧ POwn w' w.heap.size v qs ∧ ps qs = lstP es ∧ Below w.heap.size w w' := by
  have mixed : Tryz.prog.follows .mixedOrders = true := by kernel_rfl
  have hnd : (es.map kyo).Nodup := by
    have := hv.nd
    rw [kv_fst] at this
    exact List.Pairwise.of_map kyv (fun a b h e => h (by rw [e])) this
  obtain ⟨K0, hK0⟩ : ∃ K0, K0 = srtK (es.map kyo) := ⟨_, rfl⟩
  have hkl : K0.length = es.length := by rw [hK0, srtK_len, List.length_map]
  have HKL := Lib.hid hkl
  have HKM : Hid (∀ k ∈ K0, ∃ x ∈ es, (x.o, x.s) = k) := Lib.hid (fun k hk => by
    rw [hK0] at hk
    obtain ⟨x, hx, e⟩ := List.mem_map.1 ((srtK_perm _).mem_iff.1 hk)
    exact ⟨x, hx, e⟩)
  have HL0 : Hid (lstP es = K0.map fun k => (⟨k, srtI (nsAt es k)⟩ : Po)) := Lib.hid (by rw [hK0]; rfl)
  have CR := Lib.hid (risingL_c ob (es.map kv) (es.map kyo) w (kv_fst es) hv (by simpa using hlen))
  rw [← hK0] at CR
  have HV := Lib.hid hv
  have HN := Lib.hid hn
  have HLL := Lib.hid hl
  have HO := Lib.hid ho
  have HND := Lib.hid hnd
  have eg : ∀ args w, (callFunc 79 args).run Tryz.prog w = .ok (.enter 79 args) w := enters_of Tryz.func79 (by kernel_rfl) rfl
  have EG := Lib.hid eg
  clear hv hn hl ho hnd hK0 eg hkl
  go_enter Tryz.func35, Tryz.ntmps35
  go_wp2_with fail
  refine CR.out.mono ?_
  rintro e w9 ⟨v9, rfl, hr9, b9⟩
  obtain ⟨KA, KC, rfl, _⟩ := own_form hr9
  have HR9 := Lib.hid hr9
  have HB9 := Lib.hid b9
  clear hr9 b9 CR
  go_wp2
  go_loopw [3, 5, 9] (fun v3 _ v9 wr => ∃ (i : Nat) (qs : List Pv), i ≤ K0.length ∧ v9 = .int .i64 (i : Int) ∧ Hid (qs.length = i) ∧ Hid (POwn wr w.heap.size v3 qs) ∧ Hid (ps qs = (K0.take i).map fun k => (⟨k, srtI (nsAt es k)⟩ : Po)) ∧ Hid (KRow wr w.heap.size (.slice KA K0.length KC) K0) ∧ Hid (Below w.heap.size w wr)) (fun _ _ v9 _ => K0.length - (RowKit.intOf v9).toNat)
  case atStart => exact ⟨0, [], by omega, rfl, Lib.hid rfl, Lib.hid ⟨PRow.nil _ _, fun x hx => (by cases hx), List.Pairwise.nil⟩, Lib.hid rfl, HR9, HB9⟩
  case round =>
    obtain ⟨i, qs, hi, rfl, HQI, HPW, HPS, HKR, HBW⟩ := hrel
    by_cases hp : i < K0.length
    · obtain ⟨adk, capk, ek, _, ck⟩ := HKR.out.rd
      simp only [Value.slice.injEq, true_and] at ek
      obtain ⟨rfl, rfl⟩ := ek
      obtain ⟨gk, ok, rfl, dk⟩ := ck (by omega)
      have a1 := dk i hp
      obtain ⟨x, hx, hxk⟩ := HKM.out K0[i] (List.getElem_mem hp)
      have HTK := Lib.hid (List.take_succ_eq_append_getElem hp)
      generalize K0[i] = k at a1 hxk HTK
      obtain ⟨ko, ks⟩ := k
      obtain ⟨q0, q1⟩ := a1
      simp only at q0 q1
      obtain ⟨xo, xs, xa, en⟩ := x
      simp only [Prod.mk.injEq] at hxk
      obtain ⟨rfl, rfl⟩ := hxk
      have hne := HN.out _ hx
      have hen := HLL.out _ hx
      have hok := HO.out _ hx
      have hns := nsAt_mem HND.out hx
      simp only at hne hen hok hns
      obtain ⟨EA, EC, rfl, _⟩ := id hne.form
      obtain ⟨v3A, v3C, e3, _⟩ := own_form HPW.out.row
      subst e3
      have HEN := Lib.hid hen
      have HNS := Lib.hid hns
      have hb : ∃ b, ob = some b := by
        rcases HV.out with ⟨_, e⟩ | ⟨b, e, _⟩
        · cases es with
          | nil => cases hx
          | cons _ _ => cases e
        · exact ⟨b, e⟩
      have HLK5 : Hid (∀ W, Below w.heap.size w W → (Instr.lookup 77 (.map ob) (.agg #[.int .i64 xo, .int .i64 xs]) false).run Tryz.prog W = .ok (.slice EA en.length EC) W) := Lib.hid (fun W hW => by
        obtain ⟨b, rfl⟩ := hb
        rcases HV.out.below hW with ⟨e, _⟩ | ⟨b', e, hpm⟩
        · cases e
        · cases e
          obtain ⟨l, hl⟩ := kyv_lit (xo, xs) hok
          exact (hpm.look (z := .slice none 0 0) lawKey Tryz.underlying77 (fun w => by simp [Tryz.zeroValue64]) hl (v := .slice EA en.length EC) (List.mem_map.2 ⟨_, hx, rfl⟩)).2)
      obtain ⟨w1, hw1⟩ : ∃ w1, w1 = wr.alloc (.cells #[.int .i64 xo, .int .i64 xs] 31) := ⟨_, rfl⟩
      have hal : Below wr.heap.size wr w1 := by rw [hw1]; exact alloc_below _ _
      have bx : Bx 31 w1 wr.heap.size #[.int .i64 xo, .int .i64 xs] := by rw [hw1]; exact Bx.new _ wr _
      have HPO := Lib.hid (HPW.out.below hal)
      have HB := Lib.hid (HBW.out.trans (hal.mono HBW.out.size))
      have HNE := Lib.hid (hne.below HB.out)
      have HSC : Hid (∀ W, Below w1.heap.size w1 W → W.cell? ⟨wr.heap.size, 0, none⟩ = some (.int .i64 xo) ∧ W.cell? ⟨wr.heap.size, 1, none⟩ = some (.int .i64 xs) ∧ (Instr.lookup 77 (.map ob) (.agg #[.int .i64 xo, .int .i64 xs]) false).run Tryz.prog W = .ok (.slice EA en.length EC) W) := Lib.hid (fun W hW => ⟨(bx.below hW).cell 0, (bx.below hW).cell 1, HLK5.out W (HB.out.trans (hW.mono HB.out.size))⟩)
      have HBX5 : Hid (∀ (W W' : World), Below w1.heap.size w1 W → W.grownBy W' (Value.slice v3A qs.length v3C).ownBlock → ∀ j, W'.cell? ⟨wr.heap.size, j, none⟩ = #[Value.int .i64 xo, .int .i64 xs][j]?) := Lib.hid (fun W W' hW hg j => by
        have h1 := bx.below hW
        refine (Bx.cell (T := 31) ((hg.block wr.heap.size h1.lt (fun e => ?_)).trans h1) j)
        have h2 := HPO.out.row.below hW
        rcases h2.2 with ⟨e1, _⟩ | ⟨g1, cap, cur, e1, _, h3, _⟩
        · rw [e1] at e; cases e
        · rw [e1] at e
          simp only [Value.ownBlock, Option.some.injEq] at e
          subst e
          unfold Bx at h1
          rw [h1] at h3
          simp only [Option.some.injEq, Obj.cells.injEq] at h3
          exact absurd h3.2.1 (by decide))
      have HKR1 : Hid (∀ (W W' : World), Below w1.heap.size w1 W → W.grownBy W' (Value.slice v3A qs.length v3C).ownBlock → KRow W' w.heap.size (.slice (some ⟨gk, ok, none⟩) K0.length KC) K0) := Lib.hid (fun W W' hW hg => by
        have h1 := KRow.below (KRow.below HKR.out hal) hW
        have h2 := HPO.out.row.below hW
        refine World.ownsRow.kept h1 hg ?_
        rcases h1.2 with ⟨e, _⟩ | ⟨g, cap, cur, e, _, h3, _⟩
        · rw [e]; exact .inl rfl
        · rw [e]
          refine .inr fun e2 => ?_
          rcases h2.2 with ⟨e4, _⟩ | ⟨g2, cap2, cur2, e4, _, h5, _⟩
          · rw [e4] at e2; cases e2
          · rw [e4] at e2
            simp only [Value.ownBlock, Option.some.injEq] at e2
            subst e2
            rw [h3] at h5
            simp only [Option.some.injEq, Obj.cells.injEq] at h5
            exact absurd h5.2.1 (by decide))
      have HP := Lib.hid hp
      have hqn : qs.length ≤ 100000 := by have := HQI.out; have := HKL.out; omega
      have hib : i ≤ 100000 := by have := HKL.out; omega
      have hgl := World.block_lt_of_cell? _ _ q0
      clear dk ck hne hen hok hns hx hb bx hal
      go_wp2_with fail
      rw [← hw1]
      clear hw1
      refine wp_region_held_drew (S := fun W => W.cell? ⟨wr.heap.size, 0, none⟩ = some (.int .i64 xo) ∧ W.cell? ⟨wr.heap.size, 1, none⟩ = some (.int .i64 xs) ∧ (Instr.lookup 77 (.map ob) (.agg #[.int .i64 xo, .int .i64 xs]) false).run Tryz.prog W = .ok (.slice EA en.length EC) W) (by kernel_rfl) (HSC.out _ (Below.refl _ _).drew) (fun hHeld => ?_)
      refine take_ok (i := 0) (d := 13) (v := ?_) rfl rfl (by kernel_rfl) (by kernel_rfl) (by kernel_rfl) (fun _ _ _ h => h) (Or.inl ⟨by rfl, ?_⟩) (by assumption) ?_
      rotate_left
      · intro w9 hSw
        try dsimp only at hSw
        first | (go_simp; done) | (go_simp; with_reducible rfl)
      try simp only [Act.put, List.setIfInBounds_toArray, List.set_cons_zero, List.set_cons_succ]
      refine take_ok (i := 1) (d := 14) (v := ?_) rfl rfl (by kernel_rfl) (by kernel_rfl) (by kernel_rfl) (fun _ _ _ h => h) (Or.inl ⟨by rfl, ?_⟩) (by assumption) ?_
      rotate_left
      · intro w9 hSw
        try dsimp only at hSw
        first | (go_simp; done) | (go_simp; with_reducible rfl)
      try simp only [Act.put, List.setIfInBounds_toArray, List.set_cons_zero, List.set_cons_succ]
      refine take_ok (i := 2) (d := 15) (v := ?_) rfl rfl (by kernel_rfl) (by kernel_rfl) (by kernel_rfl) (fun _ _ _ h => h) (Or.inl ⟨by rfl, ?_⟩) (by assumption) ?_
      rotate_left
      · intro w9 hSw
        try dsimp only at hSw
        first | (go_simp; done) | (go_simp; with_reducible rfl)
      try simp only [Act.put, List.setIfInBounds_toArray, List.set_cons_zero, List.set_cons_succ]
      refine take_ok (i := 3) (d := 16) (v := ?_) rfl rfl (by kernel_rfl) (by kernel_rfl) (by kernel_rfl) (fun _ _ _ h => h) (Or.inl ⟨by rfl, ?_⟩) (by assumption) ?_
      rotate_left
      · intro w9 hSw
        try dsimp only at hSw
        first | (go_simp; done) | (go_simp; with_reducible rfl)
      try simp only [Act.put, List.setIfInBounds_toArray, List.set_cons_zero, List.set_cons_succ]
      refine take_ok (i := 4) (d := 17) (v := ?_) rfl rfl (by kernel_rfl) (by kernel_rfl) (by kernel_rfl) (fun _ _ _ h => h) (Or.inl ⟨by rfl, ?_⟩) (by assumption) ?_
      rotate_left
      · intro w9 hSw
        try dsimp only at hSw
        first | (go_simp; done) | (go_simp; with_reducible rfl)
      try simp only [Act.put, List.setIfInBounds_toArray, List.set_cons_zero, List.set_cons_succ]
      refine wpAnyH_ready (rs := [5]) (by kernel_rfl) (by simp) ?_
      refine AllReadyH.cons rfl (fun K hK => ?_) AllReadyH.nil
      go_simp
      refine (valscall_c EA en.length EC _).mono ?_
      rintro e w2 ⟨rfl, hw2⟩
      have hb2 : Below w1.heap.size w1 w2 := by rw [hw2]; exact bn (by first | exact (Below.refl _ _).drew | exact Below.refl _ _) (alloc_below _ _)
      have hx2 := Bx.new 64 w1.drew #[.slice EA en.length EC]
      rw [← hw2] at hx2
      have hc2 := hx2.cell 0
      simp only [List.getElem?_toArray, List.getElem?_cons_zero] at hc2
      have HSQ := Lib.hid (vals_seq _ en _ w1 w2 HNE.out hb2 (by have := HEN.out; omega) hx2.lt hc2)
      have HB2 := Lib.hid hb2
      have hs2 : w1.drew.heap.size = w1.heap.size := rfl
      rw [hs2] at HSQ ⊢
      clear hw2 hx2 hc2 hs2 hb2
      refine hK.out _ _ (HSC.out _ HB2.out) (fun hHeld => ?_)
      clear hK K
      try simp only [Act.put, List.setIfInBounds_toArray, List.set_cons_zero, List.set_cons_succ]
      refine wpAnyH_ready (rs := [6]) (by kernel_rfl) (by simp) ?_
      refine AllReadyH.cons rfl (fun K hK => ?_) AllReadyH.nil
      go_simp
      refine (sortedI_c _ _ en w1.heap.size en.length w2 HB2.out.size EG.out HEN.out HEN.out HSQ.out).mono ?_
      rintro e w3 ⟨v3, rfl, hr3, b3⟩
      have HR3 := Lib.hid (Row.mono hr3 HB2.out.size)
      have HB3 := Lib.hid (bn HB2.out b3)
      obtain ⟨SA, SC, rfl, _⟩ := own_form hr3
      clear hr3 b3 HSQ
      refine hK.out _ _ (HSC.out _ HB3.out) (fun hHeld => ?_)
      clear hK K
      try simp only [Act.put, List.setIfInBounds_toArray, List.set_cons_zero, List.set_cons_succ]
      refine take_ok (i := 7) (d := 20) (v := ?_) rfl rfl (by kernel_rfl) (by kernel_rfl) (by kernel_rfl) (fun _ _ _ h => h) (Or.inl ⟨by rfl, ?_⟩) (by assumption) ?_
      rotate_left
      · intro w9 hSw
        try dsimp only at hSw
        first | (go_simp; done) | (go_simp; with_reducible rfl)
      try simp only [Act.put, List.setIfInBounds_toArray, List.set_cons_zero, List.set_cons_succ]
      refine wpAnyH_ready (rs := [8]) (by kernel_rfl) (by simp) ?_
      refine AllReadyH.cons rfl (fun K hK => ?_) AllReadyH.nil
      go_simp
      have hal3 := alloc_below w3 (.cells #[.int .i64 xo, .int .i64 xs, .slice SA (srtI en).length SC] 66)
      have HB4 := Lib.hid (bn HB3.out hal3)
      have hpr := prd_one (x := ⟨xo, xs, .slice SA (srtI en).length SC, srtI en⟩) (Bx.new 66 w3 _) ((Row.below HR3.out hal3).nl)
      have HR4 := Lib.hid (Row.below HR3.out hal3)
      generalize hw4 : w3.alloc (.cells #[.int .i64 xo, .int .i64 xs, .slice SA (srtI en).length SC] 66) = w4 at hal3 hpr HB4 HR4 ⊢
      have HPR := Lib.hid hpr
      clear hal3 hpr hw4
      refine hK.out _ _ (HSC.out _ HB4.out) (fun hHeld => ?_)
      clear hK K
      try simp only [Act.put, List.setIfInBounds_toArray, List.set_cons_zero, List.set_cons_succ]
      refine wpAnyH_ready (rs := [9]) (by kernel_rfl) (by simp) ?_
      refine AllReadyH.cons rfl (fun K hK => ?_) AllReadyH.nil
      refine step_papp rfl _ _ rfl w.heap.size _ _ qs [⟨xo, xs, .slice SA (srtI en).length SC, srtI en⟩] rfl rfl (HPO.out.row.below HB4.out) HPR.out (by simp; omega) (by have := HB4.out.size; have := HB.out.size; omega) ?_
      intro A5 C5 w5 hrow5 hg5
      have HB5 : Hid (Below w.heap.size w w5) := Lib.hid ((HB.out.trans (HB4.out.mono HB.out.size)).trans (below_of_grown hg5 (by have := HB4.out.size; have := HB.out.size; omega) (fun g hg => (World.ownsRow.lt HPO.out.row g hg).1)))
      have HPO5 : Hid (POwn w5 w.heap.size (.slice A5 (qs ++ [(⟨xo, xs, .slice SA (srtI en).length SC, srtI en⟩ : Pv)]).length C5) (qs ++ [⟨xo, xs, .slice SA (srtI en).length SC, srtI en⟩])) := Lib.hid (POwn.push (HPO.out) HB4.out hrow5 hg5 HR4.out (by have := HB.out.size; omega))
      have HS5 : Hid ((w5.cell? ⟨wr.heap.size, 0, none⟩ = some (.int .i64 xo)) ∧ (w5.cell? ⟨wr.heap.size, 1, none⟩ = some (.int .i64 xs)) ∧ (Instr.lookup 77 (.map ob) (.agg #[.int .i64 xo, .int .i64 xs]) false).run Tryz.prog w5 = .ok (.slice EA en.length EC) w5) := Lib.hid ⟨HBX5.out _ _ HB4.out hg5 0, HBX5.out _ _ HB4.out hg5 1, HLK5.out _ HB5.out⟩
      refine hK.out _ _ (HS5.out) (fun hHeld => ?_)
      clear hK K
      try simp only [Act.put, List.setIfInBounds_toArray, List.set_cons_zero, List.set_cons_succ]
      refine take_ok (i := 10) (d := 3) (v := ?_) rfl rfl (by kernel_rfl) (by kernel_rfl) (by kernel_rfl) (fun _ _ _ h => h) (Or.inl ⟨by rfl, ?_⟩) (by assumption) ?_
      rotate_left
      · intro w9 hSw
        try dsimp only at hSw
        first | (go_simp; done) | (go_simp; with_reducible rfl)
      try simp only [Act.put, List.setIfInBounds_toArray, List.set_cons_zero, List.set_cons_succ]
      refine wpAnyH_done (by kernel_rfl) ?_ _
      have HKR5 := Lib.hid (HKR1.out _ _ HB4.out hg5)
      clear hHeld HSC HBX5 HKR1 HLK5 hg5 hrow5
      go_wp2
      go_roundw
      case rel => exact ⟨i + 1, qs ++ [⟨xo, xs, .slice SA (srtI en).length SC, srtI en⟩], HP.out, by go_num, Lib.hid (by have := HQI.out; simp; omega), by simpa only [List.length_append, List.length_cons, List.length_nil, Nat.zero_add] using HPO5, Lib.hid (by rw [HTK.out, List.map_append, ← HPS.out]; simp [ps, Pv.p, HNS.out]), HKR5, HB5⟩
      case measure => have := HP.out; simp [RowKit.intOf]; omega
    · have hks : K0.take i = K0 := List.take_of_length_le (by omega)
      obtain ⟨A, C, e3, _⟩ := own_form HPW.out.row
      subst e3
      have HPF : Hid (ps qs = lstP es) := Lib.hid (by rw [HPS.out, hks, HL0.out])
      go_wp2
      go_ret
      exact ⟨_, qs, rfl, HPW.out, HPF.out, HBW.out⟩
end Go.Proofs.YtdjlgiinekighaaGreatDoor

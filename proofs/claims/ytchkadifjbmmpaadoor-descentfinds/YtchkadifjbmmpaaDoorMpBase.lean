/-
  A map of one's own, as a plain list of keys with their values: looked up, stored into, struck from, gone through.
-/
import Derived.Test.YtchkadifjbmmpaaDoorProg
import Derived.Maps.Views
import Derived.Maps.OwnSet
import Derived.Maps.Range
import Derived.Maps.RangeWalk
import Derived.Below
import Derived.WideKeyEntry
namespace Go.Proofs.YtchkadifjbmmpaaDoor
open Go.RowKit Go.Maps

/-- An element reads as itself. -/
def RV (v : Value) : Option (DataW Value × List MemPlace) := some (.held v, [])
/-- D is what the list says. -/
structure Rep (P : Program) (kt : TypeId) (D : DataW Value) (m : List (Value × Value)) : Prop where
  ti : Tidy D
  sz : size D = m.length
  nd : (m.map Prod.fst).Nodup
  ky : ∀ p ∈ m, ∃ l, keyOf P kt p.1 = some l
  hs : ∀ key l, keyOf P kt key = some l → (has D l = true ↔ key ∈ m.map Prod.fst)
  vl : ∀ key v l, (key, v) ∈ m → keyOf P kt key = some l → ∀ z, D.atKey l z = .held v
theorem Rep.nil (P : Program) (kt : TypeId) : Rep P kt (.map []) [] :=
  ⟨tidy_empty, rfl, List.nodup_nil, fun p hp => (by cases hp), fun key l h => (by simp [has]), fun key v l h => (by cases h)⟩
theorem Rep.no {P : Program} {kt : TypeId} {D : DataW Value} {m : List (Value × Value)} (h : Rep P kt D m) {key : Value} {l : Lit} (hk : keyOf P kt key = some l) (hn : key ∉ m.map Prod.fst) : has D l = false := by
  cases hh : has D l with
  | false => rfl
  | true => exact absurd ((h.hs key l hk).1 hh) hn
theorem key_ne {P : Program} {kt : TypeId} {a b : Value} {la lb : Lit} (ha : keyOf P kt a = some la) (hb : keyOf P kt b = some lb) (h : la ≠ lb) : a ≠ b := fun e => by
  subst e
  rw [ha] at hb
  exact h (Option.some.inj hb)
theorem Rep.add {P : Program} {kt : TypeId} (K : Keyed P kt) {D : DataW Value} {m : List (Value × Value)} (h : Rep P kt D m) {key v : Value} {l : Lit} (hk : keyOf P kt key = some l) (hn : key ∉ m.map Prod.fst) : Rep P kt (D.put l (.held v)) (m ++ [(key, v)]) := by
  have hno := h.no hk hn
  refine ⟨h.ti.put (K.key hk) _, by rw [size_put h.ti, hno, h.sz]; simp, ?_, ?_, ?_, ?_⟩
  · rw [List.map_append, List.nodup_append]
    exact ⟨h.nd, by simp, fun a ha b hb => by simp at hb; subst hb; rintro rfl; exact hn ha⟩
  · intro p hp
    rcases List.mem_append.1 hp with hp | hp
    · exact h.ky p hp
    · simp only [List.mem_singleton] at hp; subst hp; exact ⟨l, hk⟩
  · intro k2 l2 hk2
    by_cases e : l2 = l
    · subst e
      obtain rfl : k2 = key := K.inj hk2 hk
      rw [has_put_same h.ti.isMap (K.key hk)]
      simp
    · rw [has_put_other e, h.hs k2 l2 hk2]
      have := key_ne hk2 hk e
      simp [this]
  · intro k2 v2 l2 hm hk2 z
    by_cases e : l2 = l
    · subst e
      obtain rfl : k2 = key := K.inj hk2 hk
      rcases List.mem_append.1 hm with hm | hm
      · exact absurd (List.mem_map_of_mem hm) hn
      · simp only [List.mem_singleton, Prod.mk.injEq, true_and] at hm
        subst hm
        rw [atKey_put_same h.ti.isMap (K.key hk)]
    · rw [atKey_put_other e]
      rcases List.mem_append.1 hm with hm | hm
      · exact h.vl k2 v2 l2 hm hk2 z
      · simp only [List.mem_singleton, Prod.mk.injEq] at hm
        exact absurd hm.1 (key_ne hk2 hk e)
theorem nodup_mid {pre post : List (Value × Value)} {key v : Value} (h : ((pre ++ (key, v) :: post).map Prod.fst).Nodup) : key ∉ (pre ++ post).map Prod.fst ∧ ((pre ++ post).map Prod.fst).Nodup := by
  rw [List.map_append, List.map_cons, List.nodup_append, List.nodup_cons] at h
  obtain ⟨h1, ⟨h2, h3⟩, h4⟩ := h
  rw [List.map_append]
  refine ⟨fun hk => ?_, List.nodup_append.2 ⟨h1, h3, fun a ha b hb => h4 a ha b (List.mem_cons_of_mem _ hb)⟩⟩
  rcases List.mem_append.1 hk with hk | hk
  · exact h4 _ hk _ (List.mem_cons_self ..) rfl
  · exact h2 hk
theorem Rep.set {P : Program} {kt : TypeId} (K : Keyed P kt) {D : DataW Value} {pre post : List (Value × Value)} {key u v : Value} {l : Lit} (h : Rep P kt D (pre ++ (key, u) :: post)) (hk : keyOf P kt key = some l) : Rep P kt (D.put l (.held v)) (pre ++ (key, v) :: post) := by
  have e0 : (pre ++ (key, v) :: post).map Prod.fst = (pre ++ (key, u) :: post).map Prod.fst := by simp
  have hin : key ∈ (pre ++ (key, u) :: post).map Prod.fst := by simp
  have hhas := (h.hs key l hk).2 hin
  obtain ⟨hno, _⟩ := nodup_mid h.nd
  refine ⟨h.ti.put (K.key hk) _, by rw [size_put h.ti, hhas, if_pos rfl, h.sz]; simp, by rw [e0]; exact h.nd, ?_, ?_, ?_⟩
  · intro p hp
    have : p.1 ∈ (pre ++ (key, u) :: post).map Prod.fst := by rw [← e0]; exact List.mem_map_of_mem hp
    obtain ⟨q, hq, e⟩ := List.mem_map.1 this
    rw [← e]
    exact h.ky q hq
  · intro k2 l2 hk2
    rw [e0]
    by_cases e : l2 = l
    · subst e
      obtain rfl : k2 = key := K.inj hk2 hk
      rw [has_put_same h.ti.isMap (K.key hk)]
      simp
    · rw [has_put_other e, h.hs k2 l2 hk2]
  · intro k2 v2 l2 hm hk2 z
    have hm' : (k2, v2) = (key, v) ∨ (k2, v2) ∈ pre ++ post := by
      rcases List.mem_append.1 hm with hm | hm
      · exact .inr (List.mem_append.2 (.inl hm))
      · rcases List.mem_cons.1 hm with hm | hm
        · exact .inl hm
        · exact .inr (List.mem_append.2 (.inr hm))
    by_cases e : l2 = l
    · subst e
      obtain rfl : k2 = key := K.inj hk2 hk
      rcases hm' with hm | hm
      · simp only [Prod.mk.injEq, true_and] at hm
        subst hm
        rw [atKey_put_same h.ti.isMap (K.key hk)]
      · exact absurd (List.mem_map_of_mem hm) hno
    · rw [atKey_put_other e]
      rcases hm' with hm | hm
      · exact absurd (congrArg Prod.fst hm) (key_ne hk2 hk e)
      · refine h.vl k2 v2 l2 ?_ hk2 z
        rcases List.mem_append.1 hm with hm | hm
        · exact List.mem_append.2 (.inl hm)
        · exact List.mem_append.2 (.inr (List.mem_cons_of_mem _ hm))
theorem Rep.del {P : Program} {kt : TypeId} (K : Keyed P kt) {D : DataW Value} {pre post : List (Value × Value)} {key u : Value} {l : Lit} (h : Rep P kt D (pre ++ (key, u) :: post)) (hk : keyOf P kt key = some l) : Rep P kt (D.del l) (pre ++ post) := by
  obtain ⟨hno, hnd⟩ := nodup_mid h.nd
  have hin : key ∈ (pre ++ (key, u) :: post).map Prod.fst := by simp
  have hhas := (h.hs key l hk).2 hin
  have hsub : ∀ p ∈ pre ++ post, p ∈ pre ++ (key, u) :: post := fun p hm => by
    rcases List.mem_append.1 hm with hm | hm
    · exact List.mem_append.2 (.inl hm)
    · exact List.mem_append.2 (.inr (List.mem_cons_of_mem _ hm))
  refine ⟨h.ti.del l, ?_, hnd, fun p hp => h.ky p (hsub p hp), ?_, ?_⟩
  · have := size_del (k := l) h.ti
    rw [hhas, if_pos rfl, h.sz] at this
    simp at this ⊢
    omega
  · intro k2 l2 hk2
    by_cases e : l2 = l
    · subst e
      obtain rfl : k2 = key := K.inj hk2 hk
      rw [has_del_same]
      simp only [Bool.false_eq_true, false_iff]
      exact hno
    · rw [has_del_other e, h.hs k2 l2 hk2]
      have := key_ne hk2 hk e
      simp [this]
  · intro k2 v2 l2 hm hk2 z
    have e : l2 ≠ l := fun e => by
      subst e
      obtain rfl : k2 = key := K.inj hk2 hk
      exact hno (List.mem_map_of_mem hm)
    rw [atKey_del_other e]
    exact h.vl k2 v2 l2 (hsub _ hm) hk2 z
theorem Rep.del_no {P : Program} {kt : TypeId} {D : DataW Value} {m : List (Value × Value)} (h : Rep P kt D m) {key : Value} {l : Lit} (hk : keyOf P kt key = some l) (hn : key ∉ m.map Prod.fst) : D.del l = D := del_of_not_has (h.no hk hn)

theorem owns_tight {w : World} {P : Program} {k : TypeId} {b n : Nat} {D : DataW Value} (h : w.ownsMap P k RV b n D) {n' : Nat} (hn : size D = n') : w.ownsMap P k RV b n' D := by
  obtain ⟨es, clock, h1, h2, h3, h4⟩ := h
  refine ⟨es, clock, h1, h2, ?_, h4⟩
  subst hn h4
  simp [size, length_sorted]
/-- Block b is the map that the list says. -/
def PM (P : Program) (w : World) (kt : TypeId) (b : Nat) (m : List (Value × Value)) : Prop := ∃ D, w.ownsMap P kt RV b m.length D ∧ Rep P kt D m
theorem PM.of_block {P : Program} {w w' : World} {kt : TypeId} {b : Nat} {m : List (Value × Value)} (h : PM P w kt b m) (hb : w'.heap[b]? = w.heap[b]?) : PM P w' kt b m := by
  obtain ⟨D, ⟨es, clock, h1, h2⟩, h3⟩ := h
  exact ⟨D, ⟨es, clock, hb.trans h1, h2⟩, h3⟩
theorem PM.lt {P : Program} {w : World} {kt : TypeId} {b : Nat} {m : List (Value × Value)} (h : PM P w kt b m) : b < w.heap.size := by obtain ⟨D, h1, _⟩ := h; exact h1.lt
theorem PM.below {P : Program} {w w' : World} {kt : TypeId} {b : Nat} {m : List (Value × Value)} (h : PM P w kt b m) (hb : Below w.heap.size w w') : PM P w' kt b m := h.of_block (hb.block b h.lt)
theorem PM.nd {P : Program} {w : World} {kt : TypeId} {b : Nat} {m : List (Value × Value)} (h : PM P w kt b m) : (m.map Prod.fst).Nodup := by obtain ⟨D, _, h2⟩ := h; exact h2.nd
theorem PM.new (P : Program) (w : World) (kt : TypeId) : PM P (w.alloc (.map #[] 0)) kt w.heap.size [] := ⟨.map [], World.ownsMap_made w P kt RV, Rep.nil P kt⟩
theorem PM.not_cells {P : Program} {w : World} {kt : TypeId} {b : Nat} {m : List (Value × Value)} (h : PM P w kt b m) {i : Nat} {x : Array Value} {s : TypeId} {z : Nat × Nat} (hx : w.heap[i]? = some (.cells x s z)) : i ≠ b := by
  rintro rfl
  obtain ⟨D, ⟨es, clock, h1, _⟩, _⟩ := h
  rw [hx] at h1
  cases h1

section
variable {P : Program} {w : World} {kt t e : TypeId} {b : Nat} {m : List (Value × Value)}
theorem RV_held {v x : Value} {ps : List MemPlace} (h : RV v = some (.held x, ps)) : v = x := by
  simp only [RV, Option.some.injEq, Prod.mk.injEq, DataW.held.injEq] at h
  exact h.1
/-- 'v, ok := m[k]' and 'm[k]'. -/
theorem PM.look (h : PM P w kt b m) (K : Keyed P kt) (ht : P.underlying t = some (.map kt e)) {z : Value} (hz : ∀ w, (zeroValue e).run P w = .ok z w) {key : Value} {l : Lit} (hk : keyOf P kt key = some l) {v : Value} (hm : (key, v) ∈ m) :
    (Instr.lookup t (.map (some b)) key true).run P w = .ok (.tuple #[v, .bool true]) w ∧ (Instr.lookup t (.map (some b)) key false).run P w = .ok v w := by
  obtain ⟨D, ho, hr⟩ := h
  have hat := hr.vl key v l hm hk
  obtain ⟨es, clock, hb, F, hs, rfl⟩ := ho
  have one : ∀ c, (Instr.lookup t (.map (some b)) key c).run P w = .ok (if c then .tuple #[v, .bool true] else v) w := fun c => by
    rcases fit_look c K ht (hz w) hb F hk with ⟨_, _, h3⟩ | ⟨e0, y, _, _, h1, h2, h3, _⟩
    · have a := hat .nil
      rw [h3] at a
      cases a
    · have a := hat .nil
      rw [h3] at a
      have : e0.val = v := by
        simp only [RV, Option.some.injEq] at h2
        rw [← h2] at a
        simpa using a
      rw [h1, this]
  exact ⟨one true, one false⟩
theorem PM.look_no (h : PM P w kt b m) (K : Keyed P kt) (ht : P.underlying t = some (.map kt e)) {z : Value} (hz : ∀ w, (zeroValue e).run P w = .ok z w) {key : Value} {l : Lit} (hk : keyOf P kt key = some l) (hn : key ∉ m.map Prod.fst) :
    (Instr.lookup t (.map (some b)) key true).run P w = .ok (.tuple #[z, .bool false]) w ∧ (Instr.lookup t (.map (some b)) key false).run P w = .ok z w := by
  obtain ⟨D, ho, hr⟩ := h
  have hno := hr.no hk hn
  obtain ⟨es, clock, hb, F, hs, rfl⟩ := ho
  have one : ∀ c, (Instr.lookup t (.map (some b)) key c).run P w = .ok (if c then .tuple #[z, .bool false] else z) w := fun c => by
    rcases fit_look c K ht (hz w) hb F hk with ⟨h1, _, _⟩ | ⟨e0, y, _, _, h1, h2, h3, _⟩
    · exact h1
    · rw [has_true_of_atKey h3] at hno
      cases hno
  exact ⟨one true, one false⟩
theorem PM.len (h : PM P w kt b m) (ht : P.underlying t = some (.map kt e)) (ty : TypeId) : (Builtin.len_ #[t] ty #[.map (some b)]).run P w = .ok (.int .i64 m.length) w := by
  obtain ⟨D, ho, hr⟩ := h
  rw [ho.len ht ty, hr.sz]
/-- What a store or a strike turns: the map's block alone. -/
theorem PM.add (h : PM P w kt b m) (K : Keyed P kt) (ht : P.underlying t = some (.map kt e)) (hl : m.length < maxLen) {key v : Value} {l : Lit} (hk : keyOf P kt key = some l) (hn : key ∉ m.map Prod.fst) :
    ∃ w', (Instr.mapUpdate t (.map (some b)) key v).run P w = .ok () w' ∧ PM P w' kt b (m ++ [(key, v)]) ∧ w.mapTurned w' b := by
  obtain ⟨D, ho, hr⟩ := h
  obtain ⟨w', h1, h2, h3⟩ := ho.store K ht hl hk (val := v) (d := .held v) (ps := []) rfl
  have hr' := hr.add K (v := v) hk hn
  exact ⟨w', h1, ⟨_, owns_tight h2 hr'.sz, hr'⟩, h3⟩
theorem PM.set {pre post : List (Value × Value)} {key u : Value} (h : PM P w kt b (pre ++ (key, u) :: post)) (K : Keyed P kt) (ht : P.underlying t = some (.map kt e)) (hl : (pre ++ (key, u) :: post).length < maxLen) {v : Value} {l : Lit} (hk : keyOf P kt key = some l) :
    ∃ w', (Instr.mapUpdate t (.map (some b)) key v).run P w = .ok () w' ∧ PM P w' kt b (pre ++ (key, v) :: post) ∧ w.mapTurned w' b := by
  obtain ⟨D, ho, hr⟩ := h
  obtain ⟨w', h1, h2, h3⟩ := ho.store K ht hl hk (val := v) (d := .held v) (ps := []) rfl
  have hr' := hr.set K (v := v) hk
  exact ⟨w', h1, ⟨_, owns_tight h2 hr'.sz, hr'⟩, h3⟩
theorem PM.del {pre post : List (Value × Value)} {key u : Value} (h : PM P w kt b (pre ++ (key, u) :: post)) (K : Keyed P kt) (ht : P.underlying t = some (.map kt e)) {l : Lit} (hk : keyOf P kt key = some l) (ty : TypeId) :
    ∃ w', (Builtin.delete_ #[t, kt] ty #[.map (some b), key]).run P w = .ok (.tuple #[]) w' ∧ PM P w' kt b (pre ++ post) ∧ w.mapTurned w' b := by
  obtain ⟨D, ho, hr⟩ := h
  obtain ⟨w', h1, h2, h3⟩ := ho.drop K ht hk ty
  have hr' := hr.del K hk
  exact ⟨w', h1, ⟨_, owns_tight h2 hr'.sz, hr'⟩, h3⟩
theorem PM.del_no (h : PM P w kt b m) (K : Keyed P kt) (ht : P.underlying t = some (.map kt e)) {key : Value} {l : Lit} (hk : keyOf P kt key = some l) (hn : key ∉ m.map Prod.fst) (ty : TypeId) :
    ∃ w', (Builtin.delete_ #[t, kt] ty #[.map (some b), key]).run P w = .ok (.tuple #[]) w' ∧ PM P w' kt b m ∧ w.mapTurned w' b := by
  obtain ⟨D, ho, hr⟩ := h
  obtain ⟨w', h1, h2, h3⟩ := ho.drop K ht hk ty
  rw [hr.del_no hk hn] at h2
  exact ⟨w', h1, ⟨D, h2, hr⟩, h3⟩

theorem set_block_at {w : World} {b : Nat} {es es' : Array MapEntry} {c c' : Nat} (h : w.heap[b]? = some (.map es c)) : (Go.ChangeMaps.setBlock w b (.map es' c')).heap[b]? = some (.map es' c') := (Go.ChangeMaps.heap_setBlock_same h _)
/-- 'm[k] = f(m[k])': what is there is handed out (the zero value, if nothing is); what is stored then stands there. -/
theorem PM.entry_at {pre post : List (Value × Value)} {key u : Value} (h : PM P w kt b (pre ++ (key, u) :: post)) (K : Go.WideMaps.KeyLaw P kt) (ht : P.underlying t = some (.map kt e)) {z : Value} (hz : ∀ w, (zeroValue e).run P w = .ok z w) (hl : (pre ++ (key, u) :: post).length < maxLen) {l : Lit} (hk : keyOf P kt key = some l) :
    ∃ (st : Nat) (w1 : World), (Instr.mapEntry t (.map (some b)) key).run P w = .ok (.tuple #[u, goInt st]) w1 ∧ w.mapTurned w1 b ∧ ∀ (w2 : World) (v : Value), w2.heap[b]? = w1.heap[b]? → ∃ w3, (Instr.entryStore t (.map (some b)) (goInt st) v).run P w2 = .ok () w3 ∧ w2.mapTurned w3 b ∧ PM P w3 kt b (pre ++ (key, v) :: post) := by
  have hpm := h
  obtain ⟨D, ⟨es, clock, hb, F, hs, rfl⟩, hr⟩ := h
  obtain ⟨v0, st, es1, clock1, h1, h2, h3⟩ := Go.WideElems.entry_then_store K ht hz hb F hk
  have hv0 : v0 = u := by
    have hlk := (hpm.look (Keyed.of_law K) ht hz hk (v := u) (by simp)).2
    rcases fit_look false (Keyed.of_law K) ht (hz w) hb F hk with ⟨_, hno, _⟩ | ⟨e0, y, hm0, hk0, hrun, _⟩
    · rcases h2 with ⟨e0, hm, he, _⟩ | ⟨_, _⟩
      · exact absurd he (hno e0 hm)
      · have := hr.no hk
        exact absurd (hr.hs key l hk |>.2 (by simp)) (by
          intro hh
          obtain ⟨p, hp, hpk⟩ := List.any_eq_true.1 hh
          obtain ⟨x, hx, rfl⟩ := List.mem_map.1 (mem_sorted.1 hp)
          obtain ⟨y, hy⟩ := F.reads x hx
          have m1 := Go.WideElems.rd_key hy
          rw [Go.WideElems.rg_of hy] at hpk
          rw [WideAt.sameKey_eq hpk] at m1
          exact hno x hx ((Keyed.of_law K).inj m1 hk))
    · rw [hrun] at hlk
      simp only [Bool.false_eq_true, if_false, Result.ok.injEq, and_true] at hlk
      rcases h2 with ⟨e1, hm1, he1, hv1⟩ | ⟨hno, _⟩
      · have : e1 = e0 := entry_eq_of_key ((Go.MapKept.stamped_iff es clock).1 F.stamped).2.2 hm1 hm0 (he1.trans hk0.symm)
        rw [hv1, this, hlk]
      · exact absurd hk0 (hno e0 hm0)
  subst hv0
  refine ⟨st, _, h1, ⟨es, clock, es1, clock1, hb, rfl⟩, fun w2 v hw2 => ?_⟩
  rw [set_block_at hb] at hw2
  obtain ⟨es', clock', h4, h5⟩ := h3 w2 v hw2
  obtain ⟨w', h6, h7, _⟩ := hpm.set (Keyed.of_law K) ht hl (v := v) hk
  rw [h5] at h6
  simp only [Result.ok.injEq, true_and] at h6
  subst h6
  exact ⟨_, h4, ⟨es1, clock1, es', clock', hw2, rfl⟩, h7.of_block (by rw [set_block_at hw2, set_block_at hb])⟩
theorem PM.entry_new (h : PM P w kt b m) (K : Go.WideMaps.KeyLaw P kt) (ht : P.underlying t = some (.map kt e)) {z : Value} (hz : ∀ w, (zeroValue e).run P w = .ok z w) (hl : m.length < maxLen) {key : Value} {l : Lit} (hk : keyOf P kt key = some l) (hn : key ∉ m.map Prod.fst) :
    ∃ (st : Nat) (w1 : World), (Instr.mapEntry t (.map (some b)) key).run P w = .ok (.tuple #[z, goInt st]) w1 ∧ w.mapTurned w1 b ∧ ∀ (w2 : World) (v : Value), w2.heap[b]? = w1.heap[b]? → ∃ w3, (Instr.entryStore t (.map (some b)) (goInt st) v).run P w2 = .ok () w3 ∧ w2.mapTurned w3 b ∧ PM P w3 kt b (m ++ [(key, v)]) := by
  have hpm := h
  obtain ⟨D, ⟨es, clock, hb, F, hs, rfl⟩, hr⟩ := h
  obtain ⟨v0, st, es1, clock1, h1, h2, h3⟩ := Go.WideElems.entry_then_store K ht hz hb F hk
  have hv0 : v0 = z := by
    rcases h2 with ⟨e0, hm, he, _⟩ | ⟨_, hv⟩
    · obtain ⟨y, hy⟩ := F.reads e0 hm
      have m1 := Go.WideElems.rd_key hy
      rw [he, hk] at m1
      have : has (DataW.map ((es.toList.map (Go.WideElems.rg P kt RV)).foldr DataW.insert [])) l = true :=
        List.any_eq_true.2 ⟨Go.WideElems.rg P kt RV e0, mem_sorted.2 (List.mem_map.2 ⟨e0, hm, rfl⟩), by
          rw [Go.WideElems.rg_of hy, ← Option.some.inj m1]
          exact WideAt.sameKey_self ((Keyed.of_law K).key hk)⟩
      exact absurd ((hr.hs key l hk).1 this) hn
    · exact hv
  subst hv0
  refine ⟨st, _, h1, ⟨es, clock, es1, clock1, hb, rfl⟩, fun w2 v hw2 => ?_⟩
  rw [set_block_at hb] at hw2
  obtain ⟨es', clock', h4, h5⟩ := h3 w2 v hw2
  obtain ⟨w', h6, h7, _⟩ := hpm.add (Keyed.of_law K) ht hl (v := v) hk hn
  rw [h5] at h6
  simp only [Result.ok.injEq, true_and] at h6
  subst h6
  exact ⟨_, h4, ⟨es1, clock1, es', clock', hw2, rfl⟩, h7.of_block (by rw [set_block_at hw2, set_block_at hb])⟩

/-- A range over the map under way, its iterator in block r: rest is still to come. -/
def PR (P : Program) (w : World) (kt : TypeId) (b r : Nat) (m rest : List (Value × Value)) : Prop :=
  (∃ D left cnt, w.ranges P kt RV b r m.length D left cnt ∧ Rep P kt D m ∧ (∀ key l, keyOf P kt key = some l → (left l = true ↔ key ∈ rest.map Prod.fst)) ∧ (∀ l, left l = true → ∃ key, keyOf P kt key = some l)) ∧ (∀ p ∈ rest, p ∈ m) ∧ (rest.map Prod.fst).Nodup
theorem PR.pm {r : Nat} {rest : List (Value × Value)} (h : PR P w kt b r m rest) : PM P w kt b m := by
  obtain ⟨⟨D, left, cnt, h1, h2, _⟩, _⟩ := h
  exact ⟨D, h1.owns, h2⟩
theorem PR.lt {r : Nat} {rest : List (Value × Value)} (h : PR P w kt b r m rest) : r < w.heap.size := by obtain ⟨⟨D, left, cnt, h1, _⟩, _⟩ := h; exact h1.lt
theorem PR.ne {r : Nat} {rest : List (Value × Value)} (h : PR P w kt b r m rest) : r ≠ b := by obtain ⟨⟨D, left, cnt, h1, _⟩, _⟩ := h; exact h1.ne
theorem PR.of_block {w' : World} {r : Nat} {rest : List (Value × Value)} (h : PR P w kt b r m rest) (hb : w'.heap[b]? = w.heap[b]?) (hr : w'.heap[r]? = w.heap[r]?) : PR P w' kt b r m rest := by
  obtain ⟨⟨D, left, cnt, ⟨es, clock, since, seen, c0, h1, h2, h3, h4, h5, h6⟩, hR⟩, hs⟩ := h
  exact ⟨⟨D, left, cnt, ⟨es, clock, since, seen, c0, hb.trans h1, h2, h3, h4, hr.trans h5, h6⟩, hR⟩, hs⟩
theorem PR.left_same {w' : World} {r : Nat} (hb : w'.heap[b]? = w.heap[b]?) (hr : w'.heap[r]? = w.heap[r]?) : w'.rangeLeft b r = w.rangeLeft b r := by unfold World.rangeLeft; rw [hb, hr]
theorem PR.below {w' : World} {r : Nat} {rest : List (Value × Value)} (h : PR P w kt b r m rest) (hb : Below w.heap.size w w') : PR P w' kt b r m rest := h.of_block (hb.block b h.pm.lt) (hb.block r h.lt)
theorem PM.range (h : PM P w kt b m) (K : Keyed P kt) (ht : P.underlying t = some (.map kt e)) :
    ∃ w', (Instr.range t (.map (some b))).run P w = .ok (.pointer (some ⟨w.heap.size, 0, none⟩)) w' ∧ PR P w' kt b w.heap.size m m ∧ w.grownBy w' none ∧ w'.heap.size = w.heap.size + 1 := by
  obtain ⟨D, ho, hr⟩ := h
  obtain ⟨w', h1, h2, h3, h4⟩ := ho.range K ht
  refine ⟨w', h1, ⟨⟨D, _, _, h2, hr, hr.hs, fun l hl => ?_⟩, fun p hp => hp, hr.nd⟩, h3, h4⟩
  obtain ⟨es, clock, hb, F, hs, rfl⟩ := ho
  obtain ⟨p, hp, hpk⟩ := List.any_eq_true.1 hl
  obtain ⟨x, hx, rfl⟩ := List.mem_map.1 (mem_sorted.1 hp)
  obtain ⟨y, hy⟩ := F.reads x hx
  refine ⟨x.key, ?_⟩
  have := Go.WideElems.rd_key hy
  rw [this, ← WideAt.sameKey_eq hpk, Go.WideElems.rg_of hy]
/-- The step: nothing is left; or some key comes, with its element. -/
theorem PR.next {r : Nat} {rest : List (Value × Value)} (h : PR P w kt b r m rest) (K : Keyed P kt) (ty : TypeId) :
    (rest = [] ∧ (Instr.next (.pointer (some ⟨r, 0, none⟩)) false ty).run P w = .ok (.tuple #[.bool false]) w) ∨
    ∃ pre key v post w', rest = pre ++ (key, v) :: post ∧ (Instr.next (.pointer (some ⟨r, 0, none⟩)) false ty).run P w = .ok (.tuple #[.bool true, key, v]) w' ∧ PR P w' kt b r m (pre ++ post) ∧ w.grownBy w' (some r) ∧ w'.heap.size = w.heap.size ∧ (Instr.entry (.pointer (some ⟨r, 0, none⟩))).run P w' = .ok (.tuple #[key, v]) w' ∧ w'.rangeLeft b r < w.rangeLeft b r := by
  obtain ⟨⟨D, left, cnt, h1, hr, hl, hk⟩, hsub, hnd⟩ := h
  rcases h1.next K ty with ⟨_, hno, hrun⟩ | ⟨key, v, kl, y, w', cnt', hkey, hlk, hv, hat, hrun, hrg, hlt, hgr, hsz, hen⟩
  · refine .inl ⟨?_, hrun⟩
    cases rest with
    | nil => rfl
    | cons p q =>
      obtain ⟨l, hpl⟩ := hr.ky p (hsub p (List.mem_cons_self ..))
      have := (hl p.1 l hpl).2 (by simp)
      rw [hno] at this
      cases this
  · obtain ⟨⟨k2, v2⟩, hp, e2⟩ := List.mem_map.1 ((hl key kl hkey).1 hlk)
    simp only at e2
    subst e2
    have hvv : v2 = v := by
      have a := hr.vl k2 v2 kl (hsub _ hp) hkey .nil
      rw [hat] at a
      simp only [RV, Option.some.injEq] at hv
      rw [← hv] at a
      simpa using a.symm
    subst hvv
    obtain ⟨pre, post, e⟩ := List.append_of_mem hp
    subst e
    obtain ⟨hno, hnd2⟩ := nodup_mid hnd
    refine .inr ⟨pre, k2, v2, post, w', rfl, hrun, ⟨⟨D, _, cnt', hrg, hr, fun key l hkl => ?_, fun l hl2 => ?_⟩, fun p hp => hsub p ?_, hnd2⟩, hgr, hsz, hen, by rw [hrg.left_eq, h1.left_eq]; exact hlt⟩
    · simp only [Bool.and_eq_true, Bool.not_eq_true']
      rw [hl key l hkl]
      by_cases e : l = kl
      · subst e
        obtain rfl : key = k2 := K.inj hkl hkey
        rw [WideAt.sameKey_self (K.key hkl)]
        simp only [Bool.true_eq_false, and_false, false_iff]
        exact hno
      · rw [sameKey_ne e]
        have := key_ne hkl hkey e
        simp [this]
    · simp only [Bool.and_eq_true] at hl2
      exact hk l hl2.1
    · rcases List.mem_append.1 hp with hp | hp
      · exact List.mem_append.2 (.inl hp)
      · exact List.mem_append.2 (.inr (List.mem_cons_of_mem _ hp))
end
end Go.Proofs.YtchkadifjbmmpaaDoor

/-
  A ledger as a plain thing: elder segments, the last one, how much of it is synced; its files; what is written, lost, taken over again.
-/
import Derived.Test.YtjmkphnppegegaaGreatDoorPkL
import Derived.Test.YtjmkphnppegegaaGreatDoorPkSs
import Derived.Maps.AppendAt
import Derived.Test.YtjmkphnppegegaaGreatDoorPkA
namespace Go.Proofs.YtjmkphnppegegaaGreatDoor
open Go.RowKit Go.Lib
set_option maxRecDepth 100000

/-- A ledger: for n origins, segments from number k on: the elder ones, the last one, of which y bytes are synced. -/
structure Lg where
  n : Nat
  k : Nat
  A : List (List En)
  L : List En
  y : Nat
def fullF (s : List En) : List Int × Nat := (rowsE s, (rowsE s).length)
def Lg.F (S : Lg) : List (List Int × Nat) := S.A.map fullF ++ [(rowsE S.L, S.y)]
def Lg.P (S : Lg) : List Pf := filesN S.n S.k S.F
def Lg.all (S : Lg) : List En := S.A.flatten ++ S.L
structure Lg.Ok (S : Lg) : Prop where
  n1 : 1 ≤ S.n
  n8 : S.n ≤ 8
  k1 : 1 ≤ S.k
  k2 : S.k + S.A.length < 98
  ga : ∀ s ∈ S.A, goodE S.n true s ∧ s ≠ []
  gl : goodE S.n true S.L
  nl : S.L ≠ []
  yl : S.y ≤ (rowsE S.L).length
def baseE (v w : List Int) : En := ⟨1, v, w, zeroR⟩
def Lg.write (S : Lg) (e : En) (v w : List Int) : Lg := if (rowsE S.L).length < 400 then { S with L := S.L ++ [e] } else { S with A := S.A ++ [S.L], L := [baseE v w, e], y := 0 }
def Lg.sync (S : Lg) : Lg := { S with y := (rowsE S.L).length }
def Lg.new (n : Nat) : Lg := ⟨n, 1, [], [baseE (List.replicate n 0) (List.replicate n 0)], (rowsE [baseE (List.replicate n 0) (List.replicate n 0)]).length⟩
theorem Lg.F_len (S : Lg) : S.F.length = S.A.length + 1 := by simp [Lg.F]
theorem goodE_app (n : Int) : ∀ (a b : List En) (c : Bool), goodE n c a → (a ≠ [] → goodE n false b) → (a = [] → goodE n c b) → goodE n c (a ++ b)
  | [], b, c, _, _, h => h rfl
  | e :: t, b, c, h, h1, _ => ⟨h.1, h.2.1, goodE_app n t b false h.2.2 (fun _ => h1 (by simp)) (fun _ => h1 (by simp))⟩
theorem goodE_one {n : Int} {e : En} (h : mayE e n = true) (hk : e.k ≠ 1) : goodE n false [e] := ⟨h, by simp [hk], trivial⟩
theorem Lg.Ok.sync {S : Lg} (h : S.Ok) : S.sync.Ok := ⟨h.n1, h.n8, h.k1, h.k2, h.ga, h.gl, h.nl, Nat.le_refl _⟩
theorem Lg.Ok.write {S : Lg} (h : S.Ok) {e : En} {v w : List Int} (he : mayE e S.n = true) (hk : e.k ≠ 1) (hb : mayE (baseE v w) S.n = true) (hl : S.k + S.A.length < 97) : (S.write e v w).Ok := by
  unfold Lg.write
  split
  · exact ⟨h.n1, h.n8, h.k1, h.k2, h.ga, goodE_app _ _ _ _ h.gl (fun _ => goodE_one he hk) (fun e => absurd e h.nl), by simp, by show S.y ≤ (rowsE (S.L ++ [e])).length; rw [rowsE_app, List.length_append]; have := h.yl; omega⟩
  · refine ⟨h.n1, h.n8, h.k1, by simp; omega, fun s hs => ?_, ⟨hb, rfl, goodE_one he hk⟩, by simp, Nat.zero_le _⟩
    rcases List.mem_append.1 hs with hs | hs
    · exact h.ga s hs
    · rw [List.mem_singleton] at hs
      subst hs
      exact ⟨h.gl, h.nl⟩
theorem rowsE_one (e : En) : rowsE [e] = layE e := by simp [rowsE]
theorem rowsE_two (d e : En) : rowsE [d, e] = layE d ++ layE e := by simp [rowsE]
theorem Lg.look {S : Lg} (h : S.Ok) : lookP (nameN S.n (S.k + S.A.length)) S.P = some (rowsE S.L, S.y) := by
  have := look_mid S.n (S.A.map fullF) (rowsE S.L, S.y) [] S.k (by have := h.k2; simp; omega)
  rwa [List.length_map] at this
theorem Lg.app_same {S : Lg} (h : S.Ok) (e : En) : appP (nameN S.n (S.k + S.A.length)) (layE e) S.P = Lg.P { S with L := S.L ++ [e] } := by
  have := app_last S.n (S.A.map fullF) (rowsE S.L) (layE e) S.y S.k (by have := h.k2; simp; omega)
  rw [List.length_map] at this
  unfold Lg.P Lg.F
  rw [this, rowsE_app, rowsE_one]
theorem Lg.app_next {S : Lg} (h : S.Ok) (v w : List Int) (e : En) : syncs [nameN S.n (S.k + S.A.length)] (appP (nameN S.n (S.k + S.A.length + 1)) (layE (baseE v w) ++ layE e) S.P) = Lg.P { S with A := S.A ++ [S.L], L := [baseE v w, e], y := 0 } := by
  have h1 := app_new S.n S.F (layE (baseE v w) ++ layE e) S.k (by have := h.k2; rw [S.F_len]; omega)
  rw [S.F_len, show S.k + (S.A.length + 1) = S.k + S.A.length + 1 from by omega] at h1
  have h2 := sync_mid S.n (S.A.map fullF) (rowsE S.L) S.y [(layE (baseE v w) ++ layE e, 0)] S.k (by have := h.k2; simp; omega)
  rw [List.length_map] at h2
  unfold Lg.P
  rw [h1]
  unfold Lg.F
  rw [List.append_assoc, List.singleton_append, h2, rowsE_two]
  simp [fullF]
theorem Lg.sync_P {S : Lg} (h : S.Ok) : syncs [nameN S.n (S.k + S.A.length)] S.P = S.sync.P := by
  have h2 := sync_mid S.n (S.A.map fullF) (rowsE S.L) S.y [] S.k (by have := h.k2; simp; omega)
  rw [List.length_map] at h2
  exact h2
theorem Lg.look_new {S : Lg} (h : S.Ok) (x : List Int × Nat) : lookP (nameN S.n (S.k + S.A.length)) (filesN S.n S.k (S.F ++ [x])) = some (rowsE S.L, S.y) := by
  have := look_mid S.n (S.A.map fullF) (rowsE S.L, S.y) [x] S.k (by have := h.k2; simp; omega)
  rw [List.length_map] at this
  unfold Lg.F
  rw [List.append_assoc]
  exact this
/-- All bytes. -/
def sumE : List (List En) → Nat
  | [] => 0
  | s :: r => (rowsE s).length + sumE r
theorem sumE_app : ∀ a b : List (List En), sumE (a ++ b) = sumE a + sumE b
  | [], b => by simp [sumE]
  | x :: r, b => by simp [sumE, sumE_app r b]; omega
theorem sumF_full : ∀ a : List (List En), sumF (a.map fullF) = sumE a
  | [] => rfl
  | x :: r => by simp [sumF, sumE, sumF_full r, fullF]
theorem Lg.used (S : Lg) : usedP S.P = sumE S.A + (rowsE S.L).length := by
  unfold Lg.P Lg.F
  rw [used_files, sumF_app, sumF_full]
  simp [sumF]
/-- How many bytes a write adds. -/
def Lg.adds (S : Lg) (e : En) (v w : List Int) : Nat := if (rowsE S.L).length < 400 then (layE e).length else (layE (baseE v w)).length + (layE e).length
theorem Lg.used_write (S : Lg) (e : En) (v w : List Int) : usedP (S.write e v w).P = usedP S.P + S.adds e v w := by
  rw [Lg.used, Lg.used]
  unfold Lg.write Lg.adds
  split
  · simp only [rowsE_app, rowsE_one, List.length_append]
    omega
  · simp only [sumE_app, sumE, rowsE_two, List.length_append]
    omega
theorem Lg.all_write (S : Lg) (e : En) (v w : List Int) : (S.write e v w).all = if (rowsE S.L).length < 400 then S.all ++ [e] else S.all ++ [baseE v w, e] := by
  unfold Lg.write Lg.all
  split <;> simp
/-- Without bases. -/
def plainE (l : List En) : List En := l.filter fun e => !(e.k == 1)
theorem plainE_app (a b : List En) : plainE (a ++ b) = plainE a ++ plainE b := List.filter_append ..
theorem Lg.plain_write (S : Lg) (e : En) (v w : List Int) (he : e.k ≠ 1) : plainE (S.write e v w).all = plainE S.all ++ [e] := by
  rw [Lg.all_write]
  split <;> rw [plainE_app] <;> simp [plainE, he, baseE]
def basesE (l : List En) : Nat := (l.filter fun e => e.k == 1).length
theorem goodE_plain {n : Int} : ∀ {l : List En}, goodE n false l → plainE l = l
  | [], _ => rfl
  | e :: t, h => by
    have h1 := h.2.1
    unfold plainE
    rw [List.filter_cons, if_pos (by rw [← h1]; rfl)]
    exact congrArg _ (goodE_plain h.2.2)
theorem goodE_len {n : Int} {l : List En} (h : goodE n true l) (hn : l ≠ []) : (plainE l).length + 1 = l.length := by
  cases l with
  | nil => exact absurd rfl hn
  | cons e t =>
    have h1 := h.2.1
    have h2 := goodE_plain h.2.2
    unfold plainE at h2 ⊢
    rw [List.filter_cons, if_neg (by rw [← h1]; decide), h2]
    rfl
theorem flat_len {n : Int} : ∀ {A : List (List En)}, (∀ s ∈ A, goodE n true s ∧ s ≠ []) → (plainE A.flatten).length + A.length = A.flatten.length
  | [], _ => rfl
  | s :: r, h => by
    have h1 := h s (List.mem_cons_self ..)
    have h2 := flat_len (fun t ht => h t (List.mem_cons_of_mem _ ht))
    have h3 := goodE_len h1.1 h1.2
    rw [List.flatten_cons, plainE_app]
    simp only [List.length_append, List.length_cons]
    omega
theorem Lg.Ok.len {S : Lg} (h : S.Ok) : S.all.length = (plainE S.all).length + (S.A.length + 1) := by
  have h1 := flat_len h.ga
  have h2 := goodE_len h.gl h.nl
  unfold Lg.all
  rw [plainE_app]
  simp only [List.length_append]
  omega
theorem Lg.Ok.may {S : Lg} (h : S.Ok) : ∀ e ∈ S.all, mayE e S.n = true := by
  intro e he
  rcases List.mem_append.1 he with he | he
  · obtain ⟨s, hs, he⟩ := List.mem_flatten.1 he
    exact goodE_some (h.ga s hs).1 e he
  · exact goodE_some h.gl e he
theorem Lg.Ok.first {S : Lg} (h : S.Ok) : ∃ e t, S.all = e :: t ∧ e.k = 1 := by
  have f : ∀ s : List En, goodE S.n true s → s ≠ [] → ∃ e t, s = e :: t ∧ e.k = 1 := fun s hs hn => by
    cases s with
    | nil => exact absurd rfl hn
    | cons e t => exact ⟨e, t, rfl, by simpa using hs.2.1.symm⟩
  unfold Lg.all
  cases hA : S.A with
  | nil =>
    obtain ⟨e, t, h1, h2⟩ := f _ h.gl h.nl
    exact ⟨e, t, by simp [h1], h2⟩
  | cons s r =>
    have h3 := h.ga s (by rw [hA]; simp)
    obtain ⟨e, t, h1, h2⟩ := f _ h3.1 h3.2
    exact ⟨e, t ++ r.flatten ++ S.L, by simp [h1], h2⟩
/-- What a crash leaves of the last segment: whole entries, and bytes that are none. -/
theorem torn_at (L : List En) (c : Nat) : ∃ wl, wl ≤ L.length ∧ (rowsE (L.take wl)).length ≤ c ∧ (wl < L.length → c < (rowsE (L.take (wl + 1))).length) := by
  have f : ∀ j, j ≤ L.length → (∃ wl, wl ≤ j ∧ (rowsE (L.take wl)).length ≤ c ∧ (wl < j → c < (rowsE (L.take (wl + 1))).length)) := by
    intro j
    induction j with
    | zero => intro _; exact ⟨0, Nat.le_refl _, by simp [rowsE], fun h => by omega⟩
    | succ j ih =>
      intro hj
      obtain ⟨wl, h1, h2, h3⟩ := ih (by omega)
      by_cases hw : wl < j
      · exact ⟨wl, by omega, h2, fun _ => h3 hw⟩
      · obtain rfl : wl = j := by omega
        by_cases hc2 : (rowsE (L.take (wl + 1))).length ≤ c
        · exact ⟨wl + 1, Nat.le_refl _, hc2, fun h => by omega⟩
        · exact ⟨wl, by omega, h2, fun _ => by omega⟩
  exact f L.length (Nat.le_refl _)
end Go.Proofs.YtjmkphnppegegaaGreatDoor
/-
  Rows of entries beside a ledger: appended to, kept while other blocks turn; plain and great by contract.
-/
namespace Go.Proofs.YtjmkphnppegegaaGreatDoor
open Go.RowKit Go.Lib
set_option maxRecDepth 100000

theorem cs8_get : ∀ (l : List Ev) (j : Nat) (u : Value), (cs8 l)[j]? = some u → j / 8 < l.length
  | [], j, u, h => by simp [cs8] at h
  | x :: t, j, u, h => by
    have hl := cs8_len (x :: t)
    have : j < (cs8 (x :: t)).length := by
      rcases Nat.lt_or_ge j (cs8 (x :: t)).length with h1 | h1
      · exact h1
      · rw [List.getElem?_eq_none h1] at h; cases h
    rw [hl] at this
    omega
theorem Er.news {w : World} {b o : Nat} {l : List Ev} (h : ∀ k (hk : k < l.length), EvAt w b (o + k * 8) l[k]) : ∀ j u, (cs8 l)[j]? = some u → w.cell? ((⟨b, o, none⟩ : Addr).add j) = some u := by
  intro j u hj
  have hk := cs8_get l j u hj
  obtain ⟨c0, c1, c2, c3, c4, c5, c6, c7⟩ := cs8_at l (j / 8) hk
  obtain ⟨⟨d0, d1, d2, d3, d4, d5, d6, d7⟩, _⟩ := h (j / 8) hk
  have e : (⟨b, o, none⟩ : Addr).add j = ⟨b, o + j, none⟩ := by simp [Addr.add]
  rw [e]
  have hr : j % 8 < 8 := Nat.mod_lt _ (by omega)
  have hj2 : j = j / 8 * 8 + j % 8 := by omega
  generalize hq : j / 8 = q at *
  generalize hm : j % 8 = m at *
  subst hj2
  rcases (by omega : m = 0 ∨ m = 1 ∨ m = 2 ∨ m = 3 ∨ m = 4 ∨ m = 5 ∨ m = 6 ∨ m = 7) with rfl | rfl | rfl | rfl | rfl | rfl | rfl | rfl
  · rw [Nat.add_zero] at hj ⊢; rw [c0] at hj; rw [d0]; exact hj
  · rw [c1] at hj; rw [← Nat.add_assoc, d1]; exact hj
  · rw [c2] at hj; rw [← Nat.add_assoc, d2]; exact hj
  · rw [c3] at hj; rw [← Nat.add_assoc, d3]; exact hj
  · rw [c4] at hj; rw [← Nat.add_assoc, d4]; exact hj
  · rw [c5] at hj; rw [← Nat.add_assoc, d5]; exact hj
  · rw [c6] at hj; rw [← Nat.add_assoc, d6]; exact hj
  · rw [c7] at hj; rw [← Nat.add_assoc, d7]; exact hj
theorem Nl.oneCell {w : World} {v : Value} {l : List Int} (h : Nl w v l) : v.oneCell' = true := by
  obtain ⟨ad, cap, rfl, _⟩ := h.form
  rfl
theorem cs8_one : ∀ (l : List Ev), (∀ x ∈ l, x.a.oneCell' = true ∧ x.b.oneCell' = true) → ∀ u ∈ cs8 l, u.oneCell' = true
  | [], _, u, hu => by cases hu
  | x :: t, h, u, hu => by
    have h0 := h x (List.mem_cons_self ..)
    simp only [cs8, List.mem_cons] at hu
    rcases hu with rfl | rfl | rfl | rfl | rfl | rfl | rfl | rfl | hu
    · rfl
    · exact h0.1
    · exact h0.2
    · rfl
    · rfl
    · rfl
    · rfl
    · rfl
    · exact cs8_one t (fun y hy => h y (List.mem_cons_of_mem _ hy)) u hu
theorem Er.ones {w : World} {v : Value} {l : List Ev} (h : Er w v l) : ∀ x ∈ l, x.a.oneCell' = true ∧ x.b.oneCell' = true := by
  intro x hx
  obtain ⟨k, hk, rfl⟩ := List.getElem_of_mem hx
  obtain ⟨ad, cap, _, _, h3⟩ := h
  obtain ⟨b, o, _, h4⟩ := h3 (by omega)
  exact ⟨(h4 k hk).2.1.oneCell, (h4 k hk).2.2.oneCell⟩
theorem Er.nls {w : World} {v : Value} {l : List Ev} (h : Er w v l) : ∀ x ∈ l, Nl w x.a x.e.v ∧ Nl w x.b x.e.w := by
  intro x hx
  obtain ⟨k, hk, rfl⟩ := List.getElem_of_mem hx
  obtain ⟨ad, cap, _, _, h3⟩ := h
  obtain ⟨b, o, _, h4⟩ := h3 (by omega)
  exact ⟨(h4 k hk).2.1, (h4 k hk).2.2⟩
/-- A row of one's own, whose lists can be read. -/
theorem ERow.er {w : World} {B : Nat} {v : Value} {l : List Ev} (hr : ERow w B v l) (hl : ∀ x ∈ l, Nl w x.a x.e.v ∧ Nl w x.b x.e.w) : Er w v l := by
  rcases hr.2 with ⟨rfl, h0⟩ | ⟨g, cap, cur, rfl, _, _, hn, _⟩
  · exact ⟨none, 0, by rw [h0], by omega, fun h => by omega⟩
  · refine ⟨_, cap, rfl, hn, fun _ => ⟨g, 0, rfl, fun k hk => ?_⟩⟩
    obtain ⟨c0, c1, c2, c3, c4, c5, c6, c7⟩ := cs8_at l k hk
    have f : ∀ j, j < l.length * 8 → w.cell? ⟨g, j, none⟩ = (cs8 l)[j]? := fun j hj => World.ownsRow.cellAt hr j hj
    rw [Nat.zero_add]
    have hm := hl l[k] (List.getElem_mem hk)
    exact ⟨⟨(f _ (by omega)).trans c0, (f _ (by omega)).trans c1, (f _ (by omega)).trans c2, (f _ (by omega)).trans c3, (f _ (by omega)).trans c4, (f _ (by omega)).trans c5, (f _ (by omega)).trans c6, (f _ (by omega)).trans c7⟩, hm.1, hm.2⟩
/-- append of entries to a row of one's own. -/
theorem eapp_run (l m : List Ev) (v u : Value) (w : World) (ty : TypeId) (B : Nat) (h : ERow w B v l) (hu : Er w u m) (hn : l.length + m.length ≤ 1000000) (hB : B ≤ w.heap.size) :
    ∃ A N C w1, (Builtin.append_ #[22, 22] ty #[v, u]).run Tryz.prog w = .ok (.slice A N C) w1 ∧ ERow w1 B (.slice A N C) (l ++ m) ∧ w.grownBy w1 v.ownBlock ∧ ((Value.slice A N C).ownBlock = v.ownBlock ∨ (Value.slice A N C).ownBlock = some w.heap.size) := by
  obtain ⟨i0, hi, hz0, hz1, hz2⟩ := info_parts entryInfo
  have form : ∀ {w' : World} {v' : Value} {l' : List Ev}, ERow w' B v' l' → ∃ A N C, v' = .slice A N C := fun {w' v' l'} hr => by
    rcases hr.2 with ⟨rfl, _⟩ | ⟨g, cap, cur, rfl, _⟩
    · exact ⟨_, _, _, rfl⟩
    · exact ⟨_, _, _, rfl⟩
  obtain ⟨ad, cap, rfl, hcap, h3⟩ := id hu
  have fin : ∀ a : Addr, (∀ j x, (cs8 m)[j]? = some x → w.cell? (a.add j) = some x) → ∃ A N C w1, (Builtin.append_ #[22, 22] ty #[v, .slice (some a) m.length cap]).run Tryz.prog w = .ok (.slice A N C) w1 ∧ ERow w1 B (.slice A N C) (l ++ m) ∧ w.grownBy w1 v.ownBlock ∧ ((Value.slice A N C).ownBlock = v.ownBlock ∨ (Value.slice A N C).ownBlock = some w.heap.size) := fun a ha => by
    obtain ⟨v', w', h1, h2, h4, _, h5⟩ := run_append_own_at (P := Tryz.prog) w B 22 ty 43 i0 _ 8 104 Tryz.underlying22 hi hz0 hz1 hz2 rfl (by decide) v l.length (cs8 l) h a m.length cap (cs8 m) (cs8_len m) ha (cs8_one m hu.ones) (by unfold maxLen; omega) (by omega) hB
    have hr : ERow w' B v' (l ++ m) := by
      unfold ERow
      rw [List.length_append, cs8_app]
      exact h2
    obtain ⟨A, N, C, rfl⟩ := form hr
    exact ⟨A, N, C, w', h1, hr, h4, h5⟩
  cases m with
  | nil =>
    cases ad with
    | some a => exact fin a (fun j x hj => by simp [cs8] at hj)
    | none =>
      obtain ⟨A, N, C, rfl⟩ := form h
      have hc' : ¬ C < N := by
        rcases h.2 with ⟨e, h0⟩ | ⟨g, cap, cur, e, _, _, hn, _⟩
        · cases e; omega
        · cases e; omega
      have hN : N = l.length := by
        rcases h.2 with ⟨e, h0⟩ | ⟨g, cap, cur, e, _, _, hn, _⟩
        · cases e; omega
        · cases e; rfl
      refine ⟨A, N, C, w, ?_, by rw [List.append_nil]; exact h, ?_, .inl rfl⟩
      · cases A <;> simp [hc', Builtin.append_, go_sem, run_underlying Tryz.underlying22]
      · exact grown_refl w _
  | cons x t =>
    obtain ⟨b, o, rfl, h4⟩ := h3 (by simp)
    exact fin ⟨b, o, none⟩ (Er.news h4)
/-- Blocks that a row of entries and its lists lie in, none of S. -/
def noS (S : Nat → Prop) (v : Value) (l : List Ev) : Prop := (∀ g, v.ownBlock = some g → ¬ S g) ∧ ∀ u ∈ flat l, ∀ g, u.ownBlock = some g → ¬ S g
theorem mem_flat_a {x : Ev} : ∀ {l : List Ev}, x ∈ l → x.a ∈ flat l ∧ x.b ∈ flat l
  | y :: t, h => by
    rcases List.mem_cons.1 h with rfl | h
    · exact ⟨by simp [flat], by simp [flat]⟩
    · have := mem_flat_a h
      exact ⟨by simp [flat, this.1], by simp [flat, this.2]⟩
theorem EOwn.turn {w w' : World} {B : Nat} {v : Value} {l : List Ev} {S : Nat → Prop} (h : EOwn w B v l) (ht : Turn S w w') (hn : noS S v l) : EOwn w' B v l := by
  refine ⟨ownsRow_of_block h.row (fun g hg => ht.block g (World.ownsRow.lt h.row g hg).2 (hn.1 g hg)), fun x hx => ⟨?_, ?_⟩, h.pw⟩
  · exact ownsRow_of_block (h.rows x hx).1 (fun g hg => ht.block g (World.ownsRow.lt (h.rows x hx).1 g hg).2 (hn.2 _ (mem_flat_a hx).1 g hg))
  · exact ownsRow_of_block (h.rows x hx).2 (fun g hg => ht.block g (World.ownsRow.lt (h.rows x hx).2 g hg).2 (hn.2 _ (mem_flat_a hx).2 g hg))
theorem EOwn.lt {w : World} {B : Nat} {v : Value} {l : List Ev} (h : EOwn w B v l) : (∀ g, v.ownBlock = some g → B ≤ g ∧ g < w.heap.size) ∧ ∀ u ∈ flat l, ∀ g, u.ownBlock = some g → B ≤ g ∧ g < w.heap.size := by
  refine ⟨fun g hg => World.ownsRow.lt h.row g hg, fun u hu g hg => ?_⟩
  obtain ⟨x, hx, rfl | rfl⟩ := mem_flat hu
  · exact World.ownsRow.lt (h.rows x hx).1 g hg
  · exact World.ownsRow.lt (h.rows x hx).2 g hg
theorem EOwn.no {w : World} {B : Nat} {v : Value} {l : List Ev} {S : Nat → Prop} (h : EOwn w B v l) (hS : ∀ i, S i → i < B) : noS S v l :=
  ⟨fun g hg k => by have := (h.lt.1 g hg).1; have := hS g k; omega, fun u hu g hg k => by have := (h.lt.2 u hu g hg).1; have := hS g k; omega⟩
/-- Entries answered by another, kept while its owner turns. -/
def EK (w : World) (own : Nat → Prop) (B : Nat) (v : Value) (l : List Ev) : Prop := EOwn w B v l ∧ noS own v l
theorem EK.step {w w' : World} {own own' : Nat → Prop} {B : Nat} {v : Value} {l : List Ev} (h : EK w own B v l) (hs : Step w own w' own') : EK w' own' B v l :=
  ⟨h.1.turn hs.turn h.2, fun g hg => hs.not (h.2.1 g hg) (h.1.lt.1 g hg).2, fun u hu g hg => hs.not (h.2.2 u hu g hg) (h.1.lt.2 u hu g hg).2⟩
theorem EK.below {w w' : World} {own : Nat → Prop} {B : Nat} {v : Value} {l : List Ev} (h : EK w own B v l) (hb : Below w.heap.size w w') : EK w' own B v l := ⟨h.1.below hb, h.2⟩
/-- Entries behind entries, all one's own. -/
theorem EOwn.app {w w1 : World} {B C : Nat} {v v' u : Value} {l m : List Ev} (h : EOwn w B v l) (k : EOwn w C u m) (hB : B ≤ C) (hl : ∀ x ∈ flat l, ∀ g, x.ownBlock = some g → g < C) (hr : ERow w1 B v' (l ++ m)) (hg : w.grownBy w1 v.ownBlock) : EOwn w1 B v' (l ++ m) := by
  have far : ∀ {a : Value} {xs : List Int} {B' : Nat}, Row w B' a xs → Row w1 B' a xs := fun {a xs B'} ha => ha.far hg (by
    rintro g hg' g' hg'' rfl
    exact tags_apart h.row ha g hg' hg'')
  refine ⟨hr, fun x hx => ?_, ?_⟩
  · rcases List.mem_append.1 hx with hx | hx
    · exact ⟨far (h.rows x hx).1, far (h.rows x hx).2⟩
    · exact ⟨(far (k.rows x hx).1).mono hB, (far (k.rows x hx).2).mono hB⟩
  · rw [flat_app, List.pairwise_append]
    refine ⟨h.pw, k.pw, fun a ha b hb g hg1 hg2 => ?_⟩
    have h1 := hl a ha g hg1
    have h2 := (k.lt.2 b hb g hg2).1
    omega
end Go.Proofs.YtjmkphnppegegaaGreatDoor
/-
  Loose of a drive, and put, by contract.
-/
namespace Go.Proofs.YtjmkphnppegegaaGreatDoor
open Go.RowKit Go.Lib
set_option maxRecDepth 100000

def looseF : List (List Int × Nat) → Nat
  | [] => 0
  | x :: r => (x.1.length - x.2) + looseF r
theorem looseF_app : ∀ a b : List (List Int × Nat), looseF (a ++ b) = looseF a + looseF b
  | [], b => by simp [looseF]
  | x :: r, b => by simp [looseF, looseF_app r b]; omega
theorem looseF_le : ∀ a : List (List Int × Nat), looseF a ≤ sumF a
  | [] => Nat.le_refl _
  | x :: r => by simp only [looseF, sumF]; have := looseF_le r; omega
theorem look_at (n k : Nat) (F : List (List Int × Nat)) (hk : k + F.length ≤ 100) (j : Nat) (hj : j < F.length) : lookP (nameN n (k + j)) (filesN n k F) = some F[j] := by
  have h := look_mid n (F.take j) F[j] (F.drop (j + 1)) k (by simp; omega)
  rw [List.length_take, Nat.min_eq_left (by omega), ← List.drop_eq_getElem_cons hj, List.take_append_drop] at h
  exact h

set_option maxHeartbeats 4000000 in
theorem loose_d {w : World} {p n k m : Nat} {F : List (List Int × Nat)} {own : Nat → Prop} (h : Dr w p (filesN n k F) m own) (hk : k + F.length ≤ 100) :
    Calls Tryz.prog 20 #[.pointer (some ⟨p, 0, none⟩)] w fun e w' => e = .returned (.int .i64 ((looseF F : Nat) : Int)) ∧ Below w.heap.size w w' := by
  have HN := Lib.hid (fNames h (by omega))
  have hus : ∀ j, looseF (F.take j) ≤ 1048576 := fun j => by
    have h1 := h.us
    rw [used_files] at h1
    have h2 := looseF_app (F.take j) (F.drop j)
    rw [List.take_append_drop] at h2
    have h3 := looseF_le F
    omega
  have HUS := Lib.hid hus
  have CL : Hid (∀ W j (hj : j < F.length), Below w.heap.size w W → Calls Tryz.prog 40 #[.pointer (some ⟨p, 0, none⟩), .string (nmS n (k + j))] W fun e w' => e = .returned (.int .i64 ((F[j].1.length - F[j].2 : Nat) : Int)) ∧ Below W.heap.size W w') := Lib.hid (fun W j hj hW => dLoose (h.below hW) _ (nm_le _ _) F[j].1 F[j].2 (by rw [nm_list, look_at n k F hk j hj]))
  clear h hus
  go_enter Tryz.func20, Tryz.ntmps20
  go_wp2_with fail
  refine HN.out.mono ?_
  rintro e w1 ⟨v, rfl, hnm, b1⟩
  have HM := Lib.hid hnm
  have HB1 := Lib.hid b1
  obtain ⟨ad, cap, rfl, _⟩ := hnm
  clear b1 HN
  go_wp2
  go_loopw [3, 9] (fun v3 v9 wr => ∃ j : Nat, j ≤ F.length ∧ v9 = .int .i64 (j : Int) ∧ v3 = .int .i64 ((looseF (F.take j) : Nat) : Int) ∧ Hid (Below w1.heap.size w1 wr)) (fun _ v9 _ => F.length - (RowKit.intOf v9).toNat)
  case atStart => exact ⟨0, by omega, rfl, rfl, Lib.hid (Below.refl _ _)⟩
  case round =>
    obtain ⟨j, hj, rfl, rfl, HB⟩ := hrel
    by_cases hjl : j < F.length
    · obtain ⟨ad2, cap2, e2, hs2⟩ := HM.out.below HB.out
      cases e2
      obtain ⟨b, _, rfl, hc⟩ := hs2 (by omega)
      have ck := hc j hjl
      have HC := Lib.hid (CL.out wr j hjl (bn HB1.out HB.out))
      have hJ := Lib.hid hjl
      have hltb := World.block_lt_of_cell? _ _ ck
      have hs : looseF (F.take (j + 1)) = looseF (F.take j) + (F[j].1.length - F[j].2) := by
        rw [List.take_succ_eq_append_getElem hjl, looseF_app]
        simp only [looseF, Nat.add_zero]
        rfl
      have hu := HUS.out (j + 1)
      rw [hs] at hu
      have HS := Lib.hid hs
      generalize F[j].1.length - F[j].2 = X at *
      generalize looseF (F.take j) = Y at *
      clear hs2 hc hs
      go_wp2_with fail
      refine HC.out.mono ?_
      rintro e w2 ⟨rfl, b2⟩
      have HB2 := Lib.hid (bn HB.out b2)
      clear b2 HC
      go_wp2
      go_roundw
      case rel => exact ⟨j + 1, hJ.out, by go_num, by rw [HS.out]; go_num, HB2⟩
      case measure => have := hJ.out; simp [RowKit.intOf]; omega
    · obtain rfl : j = F.length := by omega
      rw [List.take_length]
      go_wp2
      go_ret
      exact ⟨rfl, bn HB1.out HB.out⟩

/-- What put leaves. -/
def putT (w : World) (g p n K m : Nat) (f L z : Int) (P : List Pf) (own : Nat → Prop) (es : List En) (x : Ending) (w' : World) : Prop :=
  (usedP P + (rowsE es).length ≤ m → x = .returned (.int .i64 0) ∧ ∃ own', Dr w' p (appP (nameN n K) (rowsE es) P) m own' ∧ Step w (plusB own g) w' (plusB own' g) ∧ ¬ own' g ∧ LB w' g p n f K (if (K : Int) = L then z + ((rowsE es).length : Int) else ((rowsE es).length : Int))) ∧
  (m < usedP P + (rowsE es).length → x = .returned (.int .i64 8) ∧ Below w.heap.size w w')
theorem someE_text {e : En} (h : someE e = true) : e.r.t.size ≤ 120 := by
  obtain ⟨n, h⟩ := someE_may h
  obtain ⟨_, ⟨_, _, _, _, h1⟩ | ⟨_, h1, _⟩ | ⟨_, _, _, h1⟩⟩ := mayE_cases h
  · rw [blankR_eq h1]; decide
  · exact mayR_size h1
  · rw [blankR_eq h1]; decide
theorem bl_of_brow {w : World} {B : Nat} {v : Value} {l : List Int} (h : BRow w B v l) : Bl w v l := h.nl

set_option maxHeartbeats 8000000 in
theorem lput_c (w : World) (g p n K m : Nat) (f L z : Int) (P : List Pf) (own : Nat → Prop) (es : List Ev) (v : Value) (h : LB w g p n f L z) (hd : Dr w p P m own) (hg : ¬ own g) (hn : n ≤ 8) (hK : K < 100) (hL : P.length ≤ 1000)
    (he : Er w v es) (hl : es.length ≤ 2) (hs : ∀ x ∈ es, someE x.e = true) (hz : 0 ≤ z ∧ z ≤ 1048576) (hT : Tabs w) :
    Calls Tryz.prog 36 #[.pointer (some ⟨g, 0, none⟩), .int .i64 (K : Int), v] w (putT w g p n K m f L z P own (es.map Ev.e)) := by
  obtain ⟨E, hE⟩ : ∃ E, E = es.map Ev.e := ⟨_, rfl⟩
  have HEE := Lib.hid hE
  rw [← hE]
  clear hE
  have HER := Lib.hid he
  have HT := Lib.hid hT
  have HSM := Lib.hid hs
  have HLB := Lib.hid h
  have HD := Lib.hid hd
  have HG := Lib.hid hg
  obtain ⟨ad, cap, rfl, hcap, _⟩ := he
  have CN : Hid (∀ W, Below w.heap.size w W → Calls Tryz.prog 37 #[.pointer (some ⟨g, 0, none⟩), .int .i64 (K : Int)] W fun e w' => e = .returned (.string (nmS n K)) ∧ Below W.heap.size W w') := Lib.hid (fun W hW => nname_c W g p n f L z (h.below hW) (by omega) K hK)
  clear h hd hg hs hT
  go_enter Tryz.func36, Tryz.ntmps36
  go_wp2
  go_loopw [7, 15] (fun v7 v15 wr => ∃ (j : Nat) (LA : List Int), j ≤ es.length ∧ v15 = .int .i64 (j : Int) ∧ Hid (LA = rowsE (E.take j)) ∧ Hid (BRow wr w.heap.size v7 LA) ∧ Hid (LA.length ≤ 312 * j) ∧ Hid (Below w.heap.size w wr)) (fun _ v15 _ => es.length - (RowKit.intOf v15).toNat)
  case atStart => exact ⟨0, [], by omega, rfl, Lib.hid rfl, Lib.hid (BRow.nil _ _), Lib.hid (by simp), Lib.hid (Below.refl _ _)⟩
  case round =>
    obtain ⟨j, LA, hj, rfl, HLA, HR, HSz, HB⟩ := hrel
    by_cases hjl : j < es.length
    · obtain ⟨ad2, cap2, e2, hc2, hs2⟩ := HER.out.below HB.out
      cases e2
      obtain ⟨b, o, rfl, hat⟩ := hs2 (by omega)
      have a1 := hat j hjl
      have hsm := HSM.out es[j] (List.getElem_mem hjl)
      have eS : rowsE (E.take (j + 1)) = LA ++ layE es[j].e := by
        rw [HLA.out, HEE.out, rowsE_take_succ _ j (by simpa using hjl), List.getElem_map]
      have hJ := Lib.hid hjl
      generalize es[j] = X at a1 hsm eS
      obtain ⟨d, A, B⟩ := X
      have hgl := World.block_lt_of_cell? wr _ a1.1.1
      obtain ⟨⟨p0, p1, p2, p3, p4, p5, p6, p7⟩, hA, hB⟩ := a1
      simp only at p0 p1 p2 p3 p4 p5 p6 p7 hA hB hsm eS
      have hlen := someE_len hsm
      have htx := someE_text hsm
      have CLy : Hid (∀ W, Below wr.heap.size wr W → Calls Tryz.prog 59 #[.agg #[.int .i64 d.k, A, B, .int .i64 d.r.o, .int .i64 d.r.s, .int .i64 d.r.w, .int .i64 d.r.c, .string d.r.t]] W (layeT d W)) := Lib.hid (fun W hW => laye_c d A B W (hA.below hW) (hB.below hW) (by omega) (by omega) (by omega) (HT.out.below (bn HB.out hW)))
      unfold layeT at CLy
      rw [hsm] at CLy
      have hld : (layE d).length ≤ 312 := by rw [layE_len]; have := bodyE_len hsm; omega
      have HE := Lib.hid eS
      obtain ⟨ad9, cap9, rfl, _⟩ := HR.out.nl.form
      obtain ⟨adA, capA, rfl, _⟩ := hA.form
      obtain ⟨adB, capB, rfl, _⟩ := hB.form
      clear hA hB hs2 hat eS hsm hlen htx
      go_wp2_with fail
      refine (CLy.out _ (by first | exact alloc_below _ _ | exact Below.refl _ _)).mono ?_
      rintro x w3 ⟨vb, rfl, hvb, b3⟩
      have hvb' : BRow w3 _ vb (layE d) := hvb
      have b3' : Below wr.heap.size wr w3 := bn (alloc_below wr _) b3
      obtain ⟨adb, capb, rfl, _⟩ := hvb'.nl.form
      have hz3 := b3'.size
      have hz2 := HB.out.size
      obtain ⟨A4, N4, C4, w4, r4, h4, g4⟩ := bapp_grown LA (layE d) _ _ w3 78 w.heap.size (HR.out.below b3') hvb'.nl (by have := HSz.out; omega) (by omega)
      have HR4 := Lib.hid r4
      have HA4 := Lib.hid h4
      have HB4 := Lib.hid ((bn HB.out b3').trans (below_of_grown g4 (by omega) (fun i hi => (World.ownsRow.lt HR.out i hi).1)))
      have HL4 : Hid ((LA ++ layE d).length ≤ 312 * (j + 1)) := Lib.hid (by rw [List.length_append]; have := HSz.out; omega)
      clear hvb hvb' b3 b3' CLy r4 h4 g4
      go_wp2_with (at_builtin; refine wpList_append_run rfl _ _ 78 rfl _ _ HR4.out ?_; clear HR4)
      go_roundw
      case rel => exact ⟨j + 1, LA ++ layE d, hJ.out, by go_num, Lib.hid HE.out.symm, HA4, HL4, HB4⟩
      case measure => have := hJ.out; simp [RowKit.intOf]; omega
    · obtain rfl : j = es.length := by omega
      have hr0 := HR.out
      have hz0 := HSz.out
      have hES : rowsE E = LA := by rw [HLA.out, List.take_of_length_le (by rw [HEE.out, List.length_map]; omega)]
      obtain ⟨B, hB⟩ : ∃ B, B = LA := ⟨_, rfl⟩
      rw [← hB] at hr0 hz0 hES
      clear hB
      obtain ⟨ad9, cap9, rfl, _⟩ := hr0.nl.form
      have HRB := Lib.hid hr0
      have HS : Hid (∀ w' : World, Below wr.heap.size wr w' → w'.cell? ⟨g, 0, none⟩ = some (.pointer (some ⟨p, 0, none⟩))) := Lib.hid (fun w' hb => (HLB.out.below (bn HB.out hb)).cells.1)
      have CN' : Hid (∀ W, Below wr.heap.size wr W → Calls Tryz.prog 37 #[.pointer (some ⟨g, 0, none⟩), .int .i64 (K : Int)] W fun e w' => e = .returned (.string (nmS n K)) ∧ Below W.heap.size W w') := Lib.hid (fun W hW => CN.out W (bn HB.out hW))
      have hlt : g < wr.heap.size := (HLB.out.below HB.out).lt
      have HES := Lib.hid hES
      clear hES
      by_cases hf : usedP P + B.length ≤ m
      · have CA : Hid (∀ W, Below wr.heap.size wr W → Calls Tryz.prog 60 #[.pointer (some ⟨p, 0, none⟩), .string (nmS n K), .slice ad9 B.length cap9] W fun e w' => e = .returned (.int .i64 0) ∧ Hid (∃ own', Dr w' p (appP (nameN n K) B P) m own' ∧ Step w own w' own' ∧ ¬ own' g ∧ LB w' g p n f L z)) := Lib.hid (fun W hW => by
          have hb := bn HB.out hW
          refine (dAppend (HD.out.below hb) (nmS n K) (nm_le _ _) (nm_ok hn hK) _ B (bl_of_brow (HRB.out.below hW)) hf (by unfold maxLen; omega)).mono ?_
          rintro e w' ⟨rfl, own', h1, h2⟩
          rw [nm_list] at h1
          exact ⟨rfl, Lib.hid ⟨own', h1, h2.beside hb, h2.not HG.out (HLB.out.below hb).lt, (HLB.out.below hb).turn h2.turn HG.out⟩⟩)
        have hSB := Lib.hid HB.out.size
        have HT2 : Hid (∀ w', Hid (∃ own', Dr w' p (appP (nameN n K) B P) m own' ∧ Step w own w' own' ∧ ¬ own' g ∧ LB w' g p n f L z) → w'.cell? ⟨g, 0, none⟩ = some (.pointer (some ⟨p, 0, none⟩))) := Lib.hid (fun w' hx => by
          obtain ⟨_, _, _, _, hb⟩ := hx.out
          exact hb.cells.1)
        clear hr0 HER HSM HR HSz CN
        go_wp2_with fail
        go_region_held3 (fun W => W.cell? ⟨g, 0, none⟩ = some (.pointer (some ⟨p, 0, none⟩))) (first | exact HS.out _ (by first | assumption | exact (Below.refl _ _).drew | exact Below.refl _ _) | exact s3)
          (first
          | (go_at_call 60; refine (CA.out _ (by first | assumption | exact (Below.refl _ _).drew | exact Below.refl _ _)).mono ?_; rintro e w3 ⟨rfl, h3⟩; have s3 := HT2.out w3 h3)
          | (go_at_call 37; refine (CN'.out _ (by first | assumption | exact (Below.refl _ _).drew | exact Below.refl _ _)).mono ?_; rintro e w2 ⟨rfl, b2⟩; have b2' : Below wr.heap.size wr w2 := bn (by first | assumption | exact (Below.refl _ _).drew | exact Below.refl _ _) b2; clear b2)
          | fail)
        all_goals
          obtain ⟨own', hd3, hs3, hng, hlb3⟩ := h3.out
          have hlt3 := hlb3.lt
          obtain ⟨_, _, _, c3, c4⟩ := hlb3.cells
          have f3 := Bx.soft hlb3 3
          have f4 := Bx.soft hlb3 4
          have HD3 := Lib.hid hd3
          have HS3 := Lib.hid hs3
          have HNG := Lib.hid hng
          have HLB3 := Lib.hid hlb3
          clear hd3 hs3 hng hlb3 h3 HT2 CA CN' HS HRB s3
          by_cases hKL : (K : Int) = L
          · subst hKL
            go_wp2
            go_ret
            unfold putT
            rw [HES.out, if_pos rfl]
            refine ⟨fun _ => ⟨rfl, own', HD3.out.far (turn_set _ g 4 _) (fun i hi => hi ▸ HNG.out), (HS3.out.plus g).trans (Step.gset (turn_set _ g 4 _)), HNG.out, HLB3.out.setZ _⟩, fun hx => by omega⟩
          · have ek : ((K : Int) == L) = false := by simpa using hKL
            have hkl : ¬ ((K : Int) = L) := hKL
            go_wp2
            go_ret
            unfold putT
            rw [HES.out, if_neg hKL]
            refine ⟨fun _ => ⟨rfl, own', ((HD3.out.far (turn_set _ g 3 _) (fun i hi => hi ▸ HNG.out)).far (turn_set _ g 4 _) (fun i hi => hi ▸ HNG.out)).far (turn_set _ g 4 _) (fun i hi => hi ▸ HNG.out), (((HS3.out.plus g).trans (Step.gset (turn_set _ g 3 _))).trans (Step.gset (turn_set _ g 4 _))).trans (Step.gset (turn_set _ g 4 _)), HNG.out, ?_⟩, fun hx => by omega⟩
            have hh := ((HLB3.out.setL (K : Int)).setZ 0).setZ (0 + (B.length : Int))
            rw [Int.zero_add] at hh
            first | exact hh | simpa using hh
      · have CA : Hid (∀ W, Below wr.heap.size wr W → Calls Tryz.prog 60 #[.pointer (some ⟨p, 0, none⟩), .string (nmS n K), .slice ad9 B.length cap9] W fun e w' => e = .returned (.int .i64 8) ∧ Below W.heap.size W w') := Lib.hid (fun W hW => by
          have hb := bn HB.out hW
          exact dFull (HD.out.below hb) (nmS n K) (nm_le _ _) (nm_ok hn hK) _ B (bl_of_brow (HRB.out.below hW)) (by omega))
        clear hr0 HER HSM HR HSz CN
        go_wp2_with fail
        go_region_held3 (fun W => W.cell? ⟨g, 0, none⟩ = some (.pointer (some ⟨p, 0, none⟩))) (exact HS.out _ (by first | assumption | exact (Below.refl _ _).drew | exact Below.refl _ _))
          (first
          | (go_at_call 60; refine (CA.out _ (by first | assumption | exact (Below.refl _ _).drew | exact Below.refl _ _)).mono ?_; rintro e w3 ⟨rfl, b3⟩; have b3' : Below wr.heap.size wr w3 := bn (by first | assumption | exact (Below.refl _ _).drew | exact Below.refl _ _) b3; clear b3)
          | (go_at_call 37; refine (CN'.out _ (by first | assumption | exact (Below.refl _ _).drew | exact Below.refl _ _)).mono ?_; rintro e w2 ⟨rfl, b2⟩; have b2' : Below wr.heap.size wr w2 := bn (by first | assumption | exact (Below.refl _ _).drew | exact Below.refl _ _) b2; clear b2)
          | fail)
        all_goals
          go_wp2
          go_ret
          unfold putT
          rw [HES.out]
          exact ⟨fun hx => by omega, fun _ => ⟨rfl, bn HB.out (by assumption)⟩⟩
end Go.Proofs.YtjmkphnppegegaaGreatDoor
/-
  What load goes through: files that hold whole segments; plain facts.
-/
namespace Go.Proofs.YtjmkphnppegegaaGreatDoor
open Go.RowKit Go.Lib
set_option maxRecDepth 100000

def segF (s : List En × Nat) : List Int × Nat := (rowsE s.1, s.2)
def flatS : List (List En × Nat) → List En
  | [] => []
  | s :: r => s.1 ++ flatS r
theorem flatS_app : ∀ a b : List (List En × Nat), flatS (a ++ b) = flatS a ++ flatS b
  | [], _ => rfl
  | x :: r, b => by simp [flatS, flatS_app r b]
def lastZ : List (List En × Nat) → Int
  | [] => 0
  | [s] => ((rowsE s.1).length : Int)
  | _ :: r => lastZ r
theorem lastZ_app (a : List (List En × Nat)) (s : List En × Nat) : lastZ (a ++ [s]) = ((rowsE s.1).length : Int) := by
  induction a with
  | nil => rfl
  | cons x r ih =>
    cases r with
    | nil => rfl
    | cons y t => exact ih
theorem rowsE_pos {l : List En} (h : l ≠ []) : 12 ≤ (rowsE l).length := by
  cases l with
  | nil => exact absurd rfl h
  | cons e t => rw [rowsE, List.length_append, layE_len]; omega
theorem flatS_len : ∀ a : List (List En × Nat), (flatS a).length ≤ sumF (a.map segF)
  | [] => Nat.le_refl _
  | s :: r => by
    have h1 := flatS_len r
    have h2 := rowsE_length s.1
    simp only [flatS, List.length_append, List.map_cons, sumF, segF]
    omega
theorem readE_nil (n : Int) : readE [] n = ([], 0) := by
  have h := read_all (n := n) (es := []) trivial
  simpa [rowsE] using h
theorem Below.notB {w w' : World} {B g : Nat} (h : Below B w w') (hg : g < B) : w'.heap[g]? = w.heap[g]? := h.block g hg
theorem LB.belowB {w w' : World} {B g p : Nat} {n f l z : Int} (h : LB w g p n f l z) (hb : Below B w w') (hg : g < B) : LB w' g p n f l z := (hb.block g hg).trans h
theorem Dr.belowB {w w' : World} {B p : Nat} {P : List Pf} {m : Nat} {own : Nat → Prop} (h : Dr w p P m own) (hb : Below B w w') (ho : ∀ i, own i → i < B) : Dr w' p P m own := h.keep hb.size (fun i hi => hb.block i (ho i hi))
theorem Step.ofBelowB {w w' : World} {B : Nat} {own : Nat → Prop} (hb : Below B w w') (hw : w.heap.size ≤ B) : Step w own w' own := .ofBelow (hb.mono hw)
end Go.Proofs.YtjmkphnppegegaaGreatDoor
/-
  vector.Zero by contract.
-/
namespace Go.Proofs.YtjmkphnppegegaaGreatDoor
open Go.RowKit Go.Lib
set_option maxRecDepth 100000
set_option maxHeartbeats 4000000 in
theorem zero_c (n : Nat) (w : World) (h1 : 1 ≤ n) (h8 : n ≤ 8) : Calls Tryz.prog 30 #[.int .i64 (n : Int)] w (rowT (List.replicate n 0) w) := by
  have cM := many_c (n : Int) w
  have e : manyB (n : Int) = true := by simp [manyB]; omega
  rw [e] at cM
  clear e
  have hmk := run_make_row' (P := Tryz.prog) 23 3 (.int .i64 0) 8 Tryz.underlying23 intInfo rfl .i64 .i64 n (by omega) (by omega)
  go_enter Tryz.func30, Tryz.ntmps30
  go_wp2_with (go_at_call 50; refine cM.mono ?_; rintro e w' ⟨rfl, rfl⟩)
  go_ret
  exact ⟨_, rfl, row_made w n (by omega), (Below.refl _ _).alloc (Nat.le_refl _) _⟩
end Go.Proofs.YtjmkphnppegegaaGreatDoor

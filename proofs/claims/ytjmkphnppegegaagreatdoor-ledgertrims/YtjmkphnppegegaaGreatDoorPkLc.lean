/-
  A crash of the drive, and Open behind it: a beginning of the entries that were there.
-/
import Derived.Test.YtjmkphnppegegaaGreatDoorPkLg
namespace Go.Proofs.YtjmkphnppegegaaGreatDoor
open Go.RowKit Go.Lib
set_option maxRecDepth 100000

/-- A crash leaves c bytes of the last segment, all synced. -/
def Lg.cP (S : Lg) (c : Nat) : List Pf := filesN S.n S.k (S.A.map fullF ++ [((rowsE S.L).take c, c)])
theorem Lg.crash_P {S : Lg} (h : S.Ok) (s : Nat) : ∃ c, S.y ≤ c ∧ c ≤ (rowsE S.L).length ∧ crashP s S.P = S.cP c := by
  refine ⟨S.y + min s ((rowsE S.L).length - S.y), by omega, by have := h.yl; omega, ?_⟩
  unfold Lg.P Lg.F Lg.cP
  exact crash_files S.n s (rowsE S.L) S.y h.yl (S.A.map fullF) S.k (fun x hx => by
    obtain ⟨t, _, rfl⟩ := List.mem_map.1 hx
    rfl)
/-- What is taken over behind it. -/
def Lg.torn (S : Lg) (wl : Nat) : Lg := if wl = 0 then ⟨S.n, S.k, S.A.dropLast, S.A.getLast?.getD [], (rowsE (S.A.getLast?.getD [])).length⟩ else ⟨S.n, S.k, S.A, S.L.take wl, (rowsE (S.L.take wl)).length⟩
theorem flatten_last {A : List (List En)} (h : A ≠ []) : A.dropLast.flatten ++ A.getLast?.getD [] = A.flatten := by
  rw [List.getLast?_eq_some_getLast h, Option.getD_some]
  have e := List.dropLast_concat_getLast h
  have := congrArg List.flatten e
  rw [List.flatten_append] at this
  simpa using this
theorem Lg.torn_all {S : Lg} {wl : Nat} (h : wl = 0 → S.A ≠ []) : (S.torn wl).all = S.A.flatten ++ S.L.take wl := by
  unfold Lg.torn Lg.all
  split
  · rename_i h0
    subst h0
    simp only [List.take_zero, List.append_nil]
    exact flatten_last (h rfl)
  · rfl
theorem Lg.torn_ok {S : Lg} (ok : S.Ok) {wl : Nat} (h : wl = 0 → S.A ≠ []) : (S.torn wl).Ok := by
  unfold Lg.torn
  have hk := ok.k2
  split
  · rename_i h0
    have hA := h h0
    have hm : S.A.getLast?.getD [] ∈ S.A := by
      rw [List.getLast?_eq_some_getLast hA, Option.getD_some]
      exact List.getLast_mem hA
    exact ⟨ok.n1, ok.n8, ok.k1, by simp; omega, fun s hs => ok.ga s (List.dropLast_subset _ hs), (ok.ga _ hm).1, (ok.ga _ hm).2, Nat.le_refl _⟩
  · rename_i h0
    exact ⟨ok.n1, ok.n8, ok.k1, hk, ok.ga, goodE_take _ _ _ _ ok.gl, fun e => by
      have := congrArg List.length e
      rw [List.length_take, List.length_nil] at this
      have h1 := List.length_pos_iff.2 ok.nl
      omega, Nat.le_refl _⟩
theorem Lg.torn_n (S : Lg) (wl : Nat) : (S.torn wl).n = S.n ∧ (S.torn wl).k = S.k ∧ (S.torn wl).A.length ≤ S.A.length := by
  unfold Lg.torn
  split <;> simp
def Lg.eld (S : Lg) : List (List En × Nat) := S.A.map (fun s => (s, (rowsE s).length))
theorem eld_F (S : Lg) : S.eld.map segF = S.A.map fullF := by
  unfold Lg.eld
  rw [List.map_map]
  rfl
theorem eld_good {S : Lg} (h : S.Ok) : ∀ s ∈ S.eld, goodE S.n true s.1 ∧ s.1 ≠ [] := by
  intro s hs
  obtain ⟨t, ht, rfl⟩ := List.mem_map.1 hs
  exact h.ga t ht
theorem lastZ_eld {A : List (List En)} (h : A ≠ []) : lastZ (A.map (fun s => (s, (rowsE s).length))) = ((rowsE (A.getLast?.getD [])).length : Int) := by
  have e := List.dropLast_concat_getLast h
  rw [List.getLast?_eq_some_getLast h, Option.getD_some]
  conv => lhs; rw [← e, List.map_append]
  exact lastZ_app _ _
/-- Open behind a crash. -/
theorem open_crash {w : World} {p m : Nat} {S : Lg} {own : Nat → Prop} {c : Nat} (h : Dr w p (S.cP c) m own) (ok : S.Ok) (hy : S.A = [] → (rowsE (S.L.take 1)).length ≤ c) (hc : c ≤ (rowsE S.L).length) (hm : m ≤ 100000) (hT : Tabs w) :
    ∃ wl, wl ≤ S.L.length ∧ (rowsE (S.L.take wl)).length ≤ c ∧ (∀ q, q ≤ S.L.length → (rowsE (S.L.take q)).length ≤ c → q ≤ wl) ∧ (wl = 0 → S.A ≠ []) ∧
    Calls Tryz.prog 12 #[.pointer (some ⟨p, 0, none⟩), .int .i64 (S.n : Int)] w (openS w p m (S.torn wl) own (S.torn wl).all) := by
  obtain ⟨wl, h1, h2, h3⟩ := torn_at S.L c
  have hq : ∀ q, q ≤ S.L.length → (rowsE (S.L.take q)).length ≤ c → q ≤ wl := fun q hq hqc => by
    rcases Nat.lt_or_ge wl q with hlt | hge
    · have h4 := h3 (by omega)
      have h5 := rowsE_mono S.L (wl + 1) q (by omega)
      omega
    · exact hge
  have hpos := List.length_pos_iff.2 ok.nl
  have hA : wl = 0 → S.A ≠ [] := fun h0 e => by
    have := hq 1 (by omega) (hy e)
    omega
  have hk := ok.k2
  have hrd := read_torn ok.gl wl c h1 h2 hc h3
  have htb : OkB ((rowsE S.L).take c) := fun x hx => rowsE_ok S.L x (List.mem_of_mem_take hx)
  have htl : ((rowsE S.L).take c).length = c := by rw [List.length_take]; omega
  refine ⟨wl, h1, h2, hq, hA, ?_⟩
  have hel : S.eld.length = S.A.length := by simp [Lg.eld]
  by_cases h0 : wl = 0
  · subst h0
    have hA0 := hA rfl
    have hd : Dr w p (filesN S.n S.k (S.eld.map segF ++ [((rowsE S.L).take c, c)])) m own := by rw [eld_F]; exact h
    simp only [List.take_zero, rowsE, List.length_nil] at hrd
    refine (open_zero_c w p S.n S.k m S.eld own _ c htb hrd hd ok.n1 ok.n8 ok.k1 (by omega) hm (by intro e; rw [e] at hel; simp at hel; exact hA0 (List.eq_nil_of_length_eq_zero hel.symm)) (eld_good ok) hT).mono ?_
    rintro e w' ⟨v, xs, own', e1, e2, e3, e4, e5, e6, e7⟩
    have hl : lastZ S.eld = ((rowsE (S.A.getLast?.getD [])).length : Int) := lastZ_eld hA0
    have hlen : 0 < S.A.length := List.length_pos_iff.2 hA0
    refine ⟨v, xs, own', e1, e2, ?_, ⟨?_, ?_, e7, Lg.torn_ok ok hA⟩, e6⟩
    · rw [e3, Lg.torn_all hA]
      unfold Lg.eld
      rw [flatS_map]
      simp
    · rw [hl, hel] at e4
      unfold Lg.torn
      rw [if_pos rfl]
      simp only [List.length_dropLast]
      have e8 : (S.k : Int) + (S.A.length : Int) - 1 = ((S.k + (S.A.length - 1) : Nat) : Int) := by omega
      rw [e8] at e4
      exact e4
    · have e9 : (S.torn 0).P = filesN S.n S.k (S.eld.map segF) := by
        rw [eld_F]
        unfold Lg.torn Lg.P Lg.F
        rw [if_pos rfl]
        simp only
        have e := List.dropLast_concat_getLast hA0
        conv => rhs; rw [← e, List.map_append]
        rw [List.getLast?_eq_some_getLast hA0, Option.getD_some]
        rfl
      rw [e9]
      exact e5
  · have et : S.torn wl = ⟨S.n, S.k, S.A, S.L.take wl, (rowsE (S.L.take wl)).length⟩ := by unfold Lg.torn; rw [if_neg h0]
    have htk : (rowsE S.L).take (rowsE (S.L.take wl)).length = rowsE (S.L.take wl) := by
      have e := rowsE_app (S.L.take wl) (S.L.drop wl)
      rw [List.take_append_drop] at e
      rw [e, List.take_left']
      rfl
    have hRne : S.L.take wl ≠ [] := fun e => by have := congrArg List.length e; rw [List.length_take, List.length_nil] at this; omega
    have h12 : 0 < (rowsE (S.L.take wl)).length := by
      have := rowsE_mono S.L 1 wl (by omega)
      have h5 : 12 ≤ (rowsE (S.L.take 1)).length := rowsE_pos (fun e => by have := congrArg List.length e; rw [List.length_take, List.length_nil] at this; omega)
      omega
    by_cases hcut : (rowsE (S.L.take wl)).length < c
    · have hd : Dr w p (filesN S.n S.k (S.eld.map segF ++ [((rowsE S.L).take c, c)])) m own := by rw [eld_F]; exact h
      refine (open_cut_c w p S.n S.k m S.eld own _ c _ (S.L.take wl) htb hrd h12 (by rw [htl]; exact hcut) hd ok.n1 ok.n8 ok.k1 (by omega) hm hRne (eld_good ok) hT).mono ?_
      rintro e w' ⟨v, xs, own', e1, e2, e3, e4, e5, e6, e7⟩
      rw [et]
      refine ⟨v, xs, own', e1, e2, ?_, ⟨?_, ?_, e7, by rw [← et]; exact Lg.torn_ok ok hA⟩, e6⟩
      · rw [e3]
        unfold Lg.eld Lg.all
        rw [flatS_map]
      · rw [hel] at e4
        have e8 : (S.k : Int) + (S.A.length : Int) = ((S.k + S.A.length : Nat) : Int) := by omega
        rw [e8] at e4
        exact e4
      · rw [List.take_take, Nat.min_eq_left (by omega), htk, eld_F] at e5
        exact e5
    · have hce : c = (rowsE (S.L.take wl)).length := by omega
      have hd : Dr w p (Lg.P ⟨S.n, S.k, S.A, S.L.take wl, (rowsE (S.L.take wl)).length⟩) m own := by
        unfold Lg.cP at h
        rw [hce, htk] at h
        exact h
      rw [et]
      have hok : (⟨S.n, S.k, S.A, S.L.take wl, (rowsE (S.L.take wl)).length⟩ : Lg).Ok := by rw [← et]; exact Lg.torn_ok ok hA
      exact open_S hd hok hm hT
end Go.Proofs.YtjmkphnppegegaaGreatDoor
/-
  Records of one origin, written one behind the other; what stays of them behind a crash.
-/
namespace Go.Proofs.YtjmkphnppegegaaGreatDoor
open Go.RowKit Go.Lib
set_option maxRecDepth 100000

def recE (i w : Int) (t : ByteArray) : En := ⟨2, [], [], ⟨0, i, w, 0, t⟩⟩
theorem rec_may {i w : Int} {t : ByteArray} (h : mayE (recE 1 0 t) 1 = true) (h1 : 1 ≤ i) (h2 : i ≤ 1023) (h3 : 0 ≤ w) (h4 : w ≤ 1099511627776) : mayE (recE i w t) 1 = true := by
  have ht : tmayB t.data.toList = true := by
    obtain ⟨_, ⟨k, _⟩ | ⟨_, hr, _⟩ | ⟨k, _⟩⟩ := mayE_cases h
    · simp [recE] at k
    · unfold mayR at hr
      simp only [Bool.and_eq_true] at hr
      exact hr.2.2
    · simp [recE] at k
  simp [mayE, recE, mayR, keyB, smayB, inB, manyB, nilB, ht, h1, h2, h3, h4]
theorem base_may1 {i : Int} (h1 : 0 ≤ i) (h2 : i ≤ 1023) : mayE (baseE [i] [0]) 1 = true := by
  simp [mayE, baseE, mayB, manyB, okN, leB, blank_zero, h1, h2]
theorem Nl.one (W : World) (a : Int) (T : TypeId) : Nl (W.alloc (.cells #[.int .i64 a] T)) (.slice (some ⟨W.heap.size, 0, none⟩) 1 1) [a] := by
  refine .inr ⟨_, 1, rfl, fun _ => ⟨W.heap.size, 0, rfl, fun k hk => ?_⟩⟩
  have hx := Bx.new T W #[.int .i64 a]
  match k, hk with
  | 0, _ => exact hx.cell 0
/-- Write of a record, with lists just laid. -/
theorem write_rec {W : World} {g p m : Nat} {S : Lg} {own : Nat → Prop} (h : Led W g p m S own) (hn : S.n = 1) (i ww v : Int) (t : ByteArray) (hm : mayE (recE i ww t) 1 = true) (hv1 : 0 ≤ v) (hv2 : v ≤ 1023) (hT : Tabs W) (hl : S.k + S.A.length < 97) (T T' : TypeId) (hf : usedP S.P + S.adds (recE i ww t) [v] [0] ≤ m) :
    Calls Tryz.prog 17 #[.pointer (some ⟨g, 0, none⟩), .agg #[.int .i64 2, .slice none 0 0, .slice none 0 0, .int .i64 0, .int .i64 i, .int .i64 ww, .int .i64 0, .string t], .slice (some ⟨W.heap.size, 0, none⟩) 1 1, .slice (some ⟨W.heap.size + 1, 0, none⟩) 1 1]
      ((W.alloc (.cells #[.int .i64 v] T)).alloc (.cells #[.int .i64 0] T')) fun x w' => x = .returned (.int .i64 0) ∧ ∃ own', Led w' g p m (S.write (recE i ww t) [v] [0]) own' ∧ Step W (plusB own g) w' (plusB own' g) := by
  have hA := alloc_below W (.cells #[.int .i64 v] T)
  have hB := bn hA (alloc_below (W.alloc (.cells #[.int .i64 v] T)) (.cells #[.int .i64 0] T'))
  have n2 := Nl.one (W.alloc (.cells #[.int .i64 v] T)) 0 T'
  rw [show (W.alloc (.cells #[.int .i64 v] T)).heap.size = W.heap.size + 1 by simp] at n2
  refine (write_S (h.below hB) (recE i ww t) (.slice none 0 0) (.slice none 0 0) _ _ [v] [0] (.inl ⟨rfl, rfl⟩) (.inl ⟨rfl, rfl⟩) ((Nl.one W v T).below (alloc_below _ _)) n2 (hT.below hB) (by simp [recE]) (by rw [hn]; exact hm) (by rw [hn]; exact base_may1 hv1 hv2) hl).mono ?_
  intro x w' hh
  obtain ⟨h1, own', h2, h3⟩ := hh.1 hf
  exact ⟨h1, own', h2, h3.beside hB⟩
/-- What LedgerLoose holds of a ledger into which j records went, f of them firm. -/
structure Ls (S : Lg) (j f : Nat) : Prop where
  n : S.n = 1
  k : S.k = 1
  A : S.A.length ≤ j
  pl : (plainE S.all).length = j
  us : usedP S.P ≤ 312 + 624 * j
  sz : (rowsE S.L).length ≤ 800
  y0 : S.A = [] → (rowsE (S.L.take 1)).length ≤ S.y
  fm : ∃ q, q ≤ S.L.length ∧ (rowsE (S.L.take q)).length ≤ S.y ∧ f ≤ (plainE (S.A.flatten ++ S.L.take q)).length
  fj : f ≤ j
theorem Ls.us' {S : Lg} {j f : Nat} (h : Ls S j f) : usedP S.sync.P ≤ 312 + 624 * j := by
  have := h.us
  rw [Lg.used] at this ⊢
  exact this
theorem Ls.new : Ls (Lg.new 1) 0 0 := by
  have h := new_used (n := 1) (by omega) (by omega)
  refine ⟨rfl, rfl, by simp [Lg.new], by simp [Lg.new, Lg.all, plainE, baseE], by omega, by omega, fun _ => ?_, ⟨0, by omega, by simp [rowsE], by omega⟩, by omega⟩
  simp [Lg.new]
theorem Ls.same {S : Lg} {j f : Nat} (h : Ls S j f) (ok : S.Ok) {i v : Int} {t : ByteArray} (hm : mayE (recE i 0 t) 1 = true) (hv : mayE (baseE [v] [0]) 1 = true) (hz : (rowsE S.L).length < 400) : Ls (S.write (recE i 0 t) [v] [0]) (j + 1) f := by
  have ew : S.write (recE i 0 t) [v] [0] = { S with L := S.L ++ [recE i 0 t] } := by unfold Lg.write; rw [if_pos hz]
  have h1 := Lg.used_write S (recE i 0 t) [v] [0]
  have h2 := adds_le (S := S) (mayE_some hm) (mayE_some hv)
  have h3 := Lg.plain_write S (recE i 0 t) [v] [0] (by simp [recE])
  have h4 := layE_le (mayE_some hm)
  have h5 := congrArg List.length h3
  rw [List.length_append, h.pl] at h5
  have hp := List.length_pos_iff.2 ok.nl
  rw [ew] at h1 h5 ⊢
  obtain ⟨q, q1, q2, q3⟩ := h.fm
  refine ⟨h.n, h.k, Nat.le_succ_of_le h.A, h5, by have := h.us; omega, ?_, fun e => ?_, ⟨q, ?_, ?_, ?_⟩, by have := h.fj; omega⟩
  · show (rowsE (S.L ++ [recE i 0 t])).length ≤ 800
    rw [rowsE_app, rowsE_one, List.length_append]
    omega
  · show (rowsE ((S.L ++ [recE i 0 t]).take 1)).length ≤ S.y
    rw [List.take_append_of_le_length (by omega)]
    exact h.y0 e
  · show q ≤ (S.L ++ [recE i 0 t]).length
    rw [List.length_append]
    omega
  · show (rowsE ((S.L ++ [recE i 0 t]).take q)).length ≤ S.y
    rw [List.take_append_of_le_length q1]
    exact q2
  · show f ≤ (plainE (S.A.flatten ++ (S.L ++ [recE i 0 t]).take q)).length
    rw [List.take_append_of_le_length q1]
    exact q3
theorem Ls.next {S : Lg} {j f : Nat} (h : Ls S j f) {i v : Int} {t : ByteArray} (hm : mayE (recE i 0 t) 1 = true) (hv : mayE (baseE [v] [0]) 1 = true) (hz : ¬ (rowsE S.L).length < 400) : Ls (S.write (recE i 0 t) [v] [0]) (j + 1) j := by
  have ew : S.write (recE i 0 t) [v] [0] = { S with A := S.A ++ [S.L], L := [baseE [v] [0], recE i 0 t], y := 0 } := by unfold Lg.write; rw [if_neg hz]
  have h1 := Lg.used_write S (recE i 0 t) [v] [0]
  have h2 := adds_le (S := S) (mayE_some hm) (mayE_some hv)
  have h3 := Lg.plain_write S (recE i 0 t) [v] [0] (by simp [recE])
  have h4 := layE_le (mayE_some hm)
  have h6 := layE_le (mayE_some hv)
  have h5 := congrArg List.length h3
  rw [List.length_append, h.pl] at h5
  have h7 := h.pl
  unfold Lg.all at h7
  rw [ew] at h1 h5 ⊢
  refine ⟨h.n, h.k, by simp; exact h.A, h5, by have := h.us; omega, ?_, fun e => by simp at e, ⟨0, Nat.zero_le _, by simp [rowsE], ?_⟩, by omega⟩
  · show (rowsE [baseE [v] [0], recE i 0 t]).length ≤ 800
    rw [rowsE_two, List.length_append]
    omega
  · show j ≤ (plainE ((S.A ++ [S.L]).flatten ++ [])).length
    rw [List.append_nil, List.flatten_append]
    simp only [List.flatten_cons, List.flatten_nil, List.append_nil]
    omega
theorem Ls.sync {S : Lg} {j f : Nat} (h : Ls S j f) : Ls S.sync j j := by
  refine ⟨h.n, h.k, h.A, h.pl, h.us', h.sz, fun _ => ?_, ⟨S.L.length, Nat.le_refl _, ?_, ?_⟩, Nat.le_refl _⟩
  · exact rowsE_take_le _ _
  · show (rowsE (S.L.take S.L.length)).length ≤ (rowsE S.L).length
    rw [List.take_length]
    omega
  · show j ≤ (plainE (S.A.flatten ++ S.L.take S.L.length)).length
    rw [List.take_length]
    exact Nat.le_of_eq h.pl.symm
end Go.Proofs.YtjmkphnppegegaaGreatDoor

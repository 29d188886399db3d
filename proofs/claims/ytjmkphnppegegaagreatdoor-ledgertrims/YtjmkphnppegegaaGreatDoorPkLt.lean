/-
  retires by contract, of a list of one number.
-/
import Derived.Test.YtjmkphnppegegaaGreatDoorPkLd
namespace Go.Proofs.YtjmkphnppegegaaGreatDoor
open Go.RowKit Go.Lib
set_option maxRecDepth 100000

set_option maxHeartbeats 8000000 in
theorem retires_c (w : World) (v : Value) (u s : Int) (h : Nl w v [u]) :
    Calls Tryz.prog 66 #[v, .agg #[.int .i64 0, .int .i64 s]] w fun e w' => e = .returned (.bool (decide (s ≤ u))) ∧ Below w.heap.size w w' := by
  rcases h with ⟨_, h⟩ | ⟨ad, cap, rfl, h2⟩
  · cases h
  · obtain ⟨b, o, rfl, hn⟩ := h2 (by simp)
    have c0 := hn 0 (by simp)
    simp only [Nat.add_zero, List.getElem_cons_zero] at c0
    have hlt := World.block_lt_of_cell? w _ c0
    simp only [List.length_singleton]
    clear hn h2
    go_enter Tryz.func66, Tryz.ntmps66
    go_wp2_with fail
    go_quiet (fail)
    go_wp2
    go_ret
    exact ⟨rfl, below_drewN (alloc_below _ _) _⟩

/-- Is each record among these at most u? -/
def retE (u : Int) (l : List En) : Bool := l.all fun e => !(e.k == 2) || decide (e.r.s ≤ u)
set_option maxHeartbeats 8000000 in
theorem isret_c (w : World) (g p K m : Nat) (k L z : Int) (P : List Pf) (own : Nat → Prop) (seg : List En) (y : Nat) (v : Value) (u : Int) (h : LB w g p 1 k L z) (hd : Dr w p P m own) (hK : K < 100) (hlk : lookP (nameN 1 K) P = some (rowsE seg, y)) (hg : goodE 1 true seg) (hm : m ≤ 100000) (hv : Nl w v [u]) (hT : Tabs w) :
    Calls Tryz.prog 44 #[.pointer (some ⟨g, 0, none⟩), .int .i64 (K : Int), v] w fun e w' => e = .returned (.bool (retE u seg)) ∧ Below w.heap.size w w' := by
  have hlen : (rowsE seg).length ≤ 100000 := by
    have h1 := (hd.le hlk).2
    have h2 := hd.us
    obtain ⟨bm, Lf, hdr, rfl⟩ := hd
    obtain ⟨pre, x, post, rfl, _, hx, _⟩ := look_some hlk
    have h3 := used_mid pre post x
    unfold used at h3
    rw [← hx]
    omega
  have HS : Hid (∀ w' : World, Below w.heap.size w w' → w'.cell? ⟨g, 0, none⟩ = some (.pointer (some ⟨p, 0, none⟩))) := Lib.hid (fun w' hb => (h.below hb).cells.1)
  have CN : Hid (∀ W, Below w.heap.size w W → Calls Tryz.prog 37 #[.pointer (some ⟨g, 0, none⟩), .int .i64 (K : Int)] W fun e w' => e = .returned (.string (nmS 1 K)) ∧ Below W.heap.size W w') := Lib.hid (fun W hW => nname_c W g p 1 k L z (h.below hW) (by omega) K hK)
  have CR : Hid (∀ W, Below w.heap.size w W → Calls Tryz.prog 47 #[.pointer (some ⟨p, 0, none⟩), .string (nmS 1 K)] W fun e w' => ∃ A C, e = .returned (.tuple #[.slice A (rowsE seg).length C, .int .i64 0]) ∧ BRow w' W.heap.size (.slice A (rowsE seg).length C) (rowsE seg) ∧ Below W.heap.size W w') := Lib.hid (fun W hW => dRead (hd.below hW) _ (nm_le _ _) _ y (by rw [nm_list]; exact hlk))
  have CS : Hid (∀ W v, Below w.heap.size w W → Bc W v (rowsE seg) → Calls Tryz.prog 48 #[v, .int .i64 1] W (readT8 (rowsE seg) 1 W)) := Lib.hid (fun W v hW hb => reade_c (rowsE seg) v 1 W hb (rowsE_ok seg) (by omega) (hT.below hW))
  unfold readT8 at CS
  have hrd : readE (rowsE seg) 1 = (seg, (rowsE seg).length) := read_all hg
  rw [hrd] at CS
  have HLB := Lib.hid h
  have HV := Lib.hid hv
  have HG := Lib.hid (fun e he => goodE_some hg e he)
  have hlt := h.lt
  have hsl : seg.length ≤ 100000 := by have := rowsE_length seg; omega
  obtain ⟨Bs, hBs⟩ : ∃ Bs, Bs = rowsE seg := ⟨_, rfl⟩
  rw [← hBs] at CR CS
  clear h hd hlk hg hT hrd hlen hBs
  go_enter Tryz.func44, Tryz.ntmps44
  go_wp2_with fail
  go_region_held3 (fun W => W.cell? ⟨g, 0, none⟩ = some (.pointer (some ⟨p, 0, none⟩))) (exact HS.out _ (by first | assumption | exact (Below.refl _ _).drew | exact Below.refl _ _))
    (first
    | (go_at_call 47; refine (CR.out _ (by first | assumption | exact (Below.refl _ _).drew | exact Below.refl _ _)).mono ?_; rintro e w3 ⟨A3, C3, rfl, r3, b3⟩; have b3' : Below w.heap.size w w3 := bn (by first | assumption | exact (Below.refl _ _).drew | exact Below.refl _ _) b3; clear b3)
    | (go_at_call 37; refine (CN.out _ (by first | assumption | exact (Below.refl _ _).drew | exact Below.refl _ _)).mono ?_; rintro e w2 ⟨rfl, b2⟩; have b2' : Below w.heap.size w w2 := bn (by first | assumption | exact (Below.refl _ _).drew | exact Below.refl _ _) b2; clear b2)
    | fail)
  have l3 := HLB.out.below b3'
  have hlt3 := l3.lt
  have c1 := l3.cells.2.1
  have HB3 := Lib.hid b3'
  have HR3 := Lib.hid r3
  clear l3 r3 CN CR
  go_wp2_with fail
  refine (CS.out w3 _ HB3.out HR3.out.bc).mono ?_
  rintro e w4 ⟨v4, xs, rfl, hxs, ox, b4⟩
  have HB4 := Lib.hid (bn HB3.out b4)
  have HER := Lib.hid ox.er
  have HXS := Lib.hid hxs
  obtain ⟨adx, capx, rfl, _, _⟩ := ox.er
  have hxl : xs.length ≤ 100000 := by have := congrArg List.length hxs; rw [List.length_map] at this; omega
  clear b4 ox hxs CS
  go_wp2
  go_loopw [35] (fun v35 wr => ∃ j : Nat, j ≤ xs.length ∧ v35 = .int .i64 (j : Int) ∧ Hid (∀ i (hi : i < xs.length), i < j → (!(xs[i].e.k == 2) || decide (xs[i].e.r.s ≤ u)) = true) ∧ Hid (Below w4.heap.size w4 wr)) (fun v35 _ => xs.length - (RowKit.intOf v35).toNat)
  case atStart => exact ⟨0, by omega, rfl, Lib.hid (fun i _ h => by omega), Lib.hid (Below.refl _ _)⟩
  case round =>
    obtain ⟨j, hj, rfl, HN, HB⟩ := hrel
    by_cases hjl : j < xs.length
    · obtain ⟨ad2, cap2, e2, _, hs2⟩ := HER.out.below HB.out
      cases e2
      obtain ⟨b, o, rfl, hat⟩ := hs2 (by omega)
      have a1 := hat j hjl
      have hgl := World.block_lt_of_cell? wr _ a1.1.1
      have hJ := Lib.hid hjl
      have hmem : xs[j].e ∈ seg := by rw [← HXS.out]; exact List.mem_map.2 ⟨xs[j], List.getElem_mem hjl, rfl⟩
      have hmay := HG.out _ hmem
      generalize hX : xs[j] = X at a1 hmay
      have HX := Lib.hid hX
      clear hX hmem
      obtain ⟨d, A, B⟩ := X
      obtain ⟨⟨p0, p1, p2, p3, p4, p5, p6, p7⟩, hA, hB⟩ := a1
      simp only at p0 p1 p2 p3 p4 p5 p6 p7 hA hB hmay
      obtain ⟨adA, capA, rfl, _⟩ := id hA.form
      obtain ⟨adB, capB, rfl, _⟩ := id hB.form
      have HAL := Lib.hid (bn HB.out (alloc_below wr (.cells #[.int .i64 d.k, .slice adA d.v.length capA, .slice adB d.w.length capB, .int .i64 d.r.o, .int .i64 d.r.s, .int .i64 d.r.w, .int .i64 d.r.c, .string d.r.t] 43)))
      clear hs2 hat hA hB
      cases hk : (d.k == 2) with
      | false =>
        have HK : Hid ((!(xs[j].e.k == 2) || decide (xs[j].e.r.s ≤ u)) = true) := Lib.hid (by rw [HX.out]; simp [hk])
        go_wp2
        go_roundw
        case rel => exact ⟨j + 1, hJ.out, by go_num, Lib.hid (fun i hi hij => by
            rcases Nat.lt_or_ge i j with h | h
            · exact HN.out i hi h
            · obtain rfl : i = j := by omega
              exact HK.out), HAL⟩
        case measure => have := hJ.out; simp [RowKit.intOf]; omega
      | true =>
        have hk2 : d.k = 2 := by simpa using hk
        have ho : d.r.o = 0 := by
          obtain ⟨_, ⟨q, _⟩ | ⟨_, hr, ho, _⟩ | ⟨q, _⟩⟩ := mayE_cases hmay
          · omega
          · have := (mayR_bounds hr).1
            omega
          · omega
        have CT := Lib.hid (retires_c _ v u d.r.s (HV.out.below (bn HB4.out HAL.out)))
        rw [ho] at p3 CT HAL
        clear hmay hk2
        cases hs : decide (d.r.s ≤ u) with
        | true =>
          rw [hs] at CT
          have HK : Hid ((!(xs[j].e.k == 2) || decide (xs[j].e.r.s ≤ u)) = true) := Lib.hid (by rw [HX.out]; simp [hs])
          clear ho hs
          go_wp2_with fail
          refine CT.out.mono ?_
          rintro e w6 ⟨rfl, b6⟩
          have HB6 := Lib.hid (bn HAL.out b6)
          clear b6 CT
          go_wp2
          go_roundw
          case rel => exact ⟨j + 1, hJ.out, by go_num, Lib.hid (fun i hi hij => by
              rcases Nat.lt_or_ge i j with h | h
              · exact HN.out i hi h
              · obtain rfl : i = j := by omega
                exact HK.out), HB6⟩
          case measure => have := hJ.out; simp [RowKit.intOf]; omega
        | false =>
          rw [hs] at CT
          have HK : Hid (retE u seg = false) := Lib.hid (by
            unfold retE
            rw [← HXS.out, List.all_map, List.all_eq_false]
            exact ⟨xs[j], List.getElem_mem hjl, by simp only [Function.comp]; rw [HX.out]; simp [hk, hs]⟩)
          clear ho hs
          go_wp2_with fail
          refine CT.out.mono ?_
          rintro e w6 ⟨rfl, b6⟩
          have HB6 := Lib.hid (bn HAL.out b6)
          clear b6 CT
          go_wp2
          go_ret
          exact ⟨by first | (rw [HK.out]; done) | (rw [HK.out]; rfl), bn HB4.out HB6.out⟩
    · obtain rfl : j = xs.length := by omega
      have HK : Hid (retE u seg = true) := Lib.hid (by
        unfold retE
        rw [← HXS.out, List.all_map, List.all_eq_true]
        intro x hx
        obtain ⟨i, hi, rfl⟩ := List.getElem_of_mem hx
        exact HN.out i hi hi)
      go_wp2
      go_ret
      exact ⟨by first | (rw [HK.out]; done) | (rw [HK.out]; rfl), bn HB4.out HB.out⟩
end Go.Proofs.YtjmkphnppegegaaGreatDoor
/-
  Trim by contract, of a ledger of one origin that is synced.
-/
namespace Go.Proofs.YtjmkphnppegegaaGreatDoor
open Go.RowKit Go.Lib
set_option maxRecDepth 100000

/-- Without its first j segments. -/
def Lg.cut (S : Lg) (j : Nat) : Lg := { S with k := S.k + j, A := S.A.drop j }
theorem Lg.cut_ok {S : Lg} (ok : S.Ok) {j : Nat} (hj : j ≤ S.A.length) : (S.cut j).Ok :=
  ⟨ok.n1, ok.n8, by have := ok.k1; simp only [Lg.cut]; omega, by have := ok.k2; simp only [Lg.cut, List.length_drop]; omega, fun s hs => ok.ga s (List.mem_of_mem_drop hs), ok.gl, ok.nl, ok.yl⟩
theorem Lg.cut_P {S : Lg} (ok : S.Ok) {j : Nat} (hj : j < S.A.length) : delP (nameN S.n (S.k + j)) (S.cut j).P = (S.cut (j + 1)).P := by
  have hk := ok.k2
  unfold Lg.P Lg.F Lg.cut
  simp only
  rw [List.drop_eq_getElem_cons hj, List.map_cons, List.cons_append]
  have := del_first S.n (fullF S.A[j]) ((S.A.drop (j + 1)).map fullF ++ [(rowsE S.L, S.y)]) (S.k + j) (by simp; omega)
  rw [this, Nat.add_assoc]
theorem Lg.cut_look {S : Lg} (ok : S.Ok) {j : Nat} (hj : j < S.A.length) : lookP (nameN S.n (S.k + j)) (S.cut j).P = some (fullF S.A[j]) := by
  have hk := ok.k2
  unfold Lg.P Lg.F Lg.cut
  simp only
  rw [List.drop_eq_getElem_cons hj, List.map_cons, List.cons_append]
  have := look_mid S.n [] (fullF S.A[j]) ((S.A.drop (j + 1)).map fullF ++ [(rowsE S.L, S.y)]) (S.k + j) (by simp; omega)
  simpa using this
end Go.Proofs.YtjmkphnppegegaaGreatDoor
/-
  A ledger of records of one origin, one behind the other, without its first segments: what it holds.
-/
namespace Go.Proofs.YtjmkphnppegegaaGreatDoor
open Go.RowKit Go.Lib
set_option maxRecDepth 100000

def recsE (t : ByteArray) (j : Nat) : List En := (List.range j).map fun i : Nat => recE ((i : Int) + 1) ((i : Int) + 1) t
theorem recsE_len (t : ByteArray) (j : Nat) : (recsE t j).length = j := by simp [recsE]
theorem recsE_succ (t : ByteArray) (j : Nat) : recsE t (j + 1) = recsE t j ++ [recE ((j : Int) + 1) ((j : Int) + 1) t] := by simp [recsE, List.range_succ]
theorem recsE_get (t : ByteArray) (j i : Nat) (h : i < (recsE t j).length) : (recsE t j)[i] = recE ((i : Int) + 1) ((i : Int) + 1) t := by simp [recsE]
structure Tr (t : ByteArray) (S : Lg) (j : Nat) : Prop where
  cs : Cs 1 S (recsE t j) 0
  hd : ∀ i, i ≤ S.A.length → ∃ r, (S.cut i).all = baseE [((plainE (S.A.take i).flatten).length : Int)] [0] :: r
theorem Tr.new (t : ByteArray) : Tr t (Lg.new 1) 0 := by
  refine ⟨Cs.new (by omega) (by omega), fun i hi => ?_⟩
  obtain rfl : i = 0 := by simp [Lg.new] at hi; exact hi
  exact ⟨[], by simp [Lg.cut, Lg.new, Lg.all, plainE, List.replicate]⟩
theorem Lg.cut_all (S : Lg) (i : Nat) : (S.cut i).all = (S.A.drop i).flatten ++ S.L := rfl
theorem Lg.cut_parts (S : Lg) (i : Nat) : S.all = (S.A.take i).flatten ++ (S.cut i).all := by
  rw [Lg.cut_all, ← List.append_assoc, ← List.flatten_append, List.take_append_drop]
  rfl
theorem Tr.write {t : ByteArray} {S : Lg} {j : Nat} (h : Tr t S j) (ok : S.Ok) (hm : mayE (recE ((j : Int) + 1) ((j : Int) + 1) t) 1 = true) (hv : mayE (baseE [(j : Int)] [0]) 1 = true) : Tr t (S.write (recE ((j : Int) + 1) ((j : Int) + 1) t) [(j : Int)] [0]) (j + 1) := by
  refine ⟨by rw [recsE_succ]; exact h.cs.write ok hm (by simp [recE]) hv, fun i hi => ?_⟩
  have hpl := congrArg List.length h.cs.pl
  rw [recsE_len] at hpl
  unfold Lg.write at hi ⊢
  split
  · rename_i hz
    rw [if_pos hz] at hi
    obtain ⟨r, hr⟩ := h.hd i hi
    refine ⟨r ++ [recE ((j : Int) + 1) ((j : Int) + 1) t], ?_⟩
    rw [Lg.cut_all] at hr ⊢
    simp only
    rw [← List.append_assoc, hr]
    rfl
  · rename_i hz
    rw [if_neg hz] at hi
    simp only [List.length_append, List.length_singleton] at hi
    rcases Nat.lt_or_ge S.A.length i with h1 | h1
    · obtain rfl : i = S.A.length + 1 := by omega
      refine ⟨[recE ((j : Int) + 1) ((j : Int) + 1) t], ?_⟩
      rw [Lg.cut_all]
      simp only
      have e1 : (S.A ++ [S.L]).take (S.A.length + 1) = S.A ++ [S.L] := List.take_of_length_le (by simp)
      have e2 : (S.A ++ [S.L]).drop (S.A.length + 1) = [] := List.drop_of_length_le (by simp)
      rw [e1, e2, List.flatten_append]
      simp only [List.flatten_cons, List.flatten_nil, List.append_nil, List.nil_append]
      have e3 : S.A.flatten ++ S.L = S.all := rfl
      rw [e3, hpl]
    · obtain ⟨r, hr⟩ := h.hd i h1
      refine ⟨r ++ [baseE [(j : Int)] [0], recE ((j : Int) + 1) ((j : Int) + 1) t], ?_⟩
      rw [Lg.cut_all] at hr ⊢
      simp only
      rw [List.take_append_of_le_length h1, List.drop_append_of_le_length h1, List.flatten_append]
      simp only [List.flatten_cons, List.flatten_nil, List.append_nil]
      rw [hr]
      rfl
theorem Tr.sync {t : ByteArray} {S : Lg} {j : Nat} (h : Tr t S j) : Tr t S.sync j := ⟨by
  have := h.cs.sync
  exact ⟨this.n, this.k, this.A, this.pl, this.us, this.y0, ⟨0, Nat.zero_le _, by simp [rowsE], Nat.zero_le _⟩, Nat.zero_le _⟩, h.hd⟩
theorem sumE_take : ∀ (A : List (List En)) (r : Nat), sumE A = sumE (A.take r) + sumE (A.drop r) := fun A r => by rw [← sumE_app, List.take_append_drop]
theorem Lg.cut_used {S : Lg} (ok : S.Ok) {r : Nat} (h0 : 0 < r) (hr : r ≤ S.A.length) : usedP (S.cut r).P < usedP S.P := by
  rw [Lg.used, Lg.used]
  show sumE (S.A.drop r) + (rowsE S.L).length < sumE S.A + (rowsE S.L).length
  have h1 := sumE_take S.A r
  have h2 : 0 < sumE (S.A.take r) := by
    cases hA : S.A with
    | nil => rw [hA] at hr; simp at hr; omega
    | cons s q =>
      obtain ⟨r', rfl⟩ : ∃ r', r = r' + 1 := ⟨r - 1, by omega⟩
      have h3 := rowsE_pos (ok.ga s (by rw [hA]; simp)).2
      simp only [List.take_succ_cons, sumE]
      omega
  omega
/-- What is left behind r segments that were all retired. -/
theorem Tr.trim {t : ByteArray} {S : Lg} {j r : Nat} {u : Int} (h : Tr t S j) (hu : 0 ≤ u) (hr : r ≤ S.A.length) (hret : ∀ i (hi : i < S.A.length), i < r → retE u S.A[i] = true) :
    ∃ c, c ≤ j ∧ (c : Int) ≤ u ∧ plainE (S.cut r).all = (recsE t j).drop c ∧ ∃ q, (S.cut r).all = baseE [(c : Int)] [0] :: q := by
  have hp := S.cut_parts r
  have h1 := h.cs.pl
  rw [hp, plainE_app] at h1
  have hl := congrArg List.length h1
  rw [List.length_append, recsE_len] at hl
  refine ⟨(plainE (S.A.take r).flatten).length, by omega, ?_, ?_, h.hd r hr⟩
  · rcases Nat.eq_zero_or_pos (plainE (S.A.take r).flatten).length with h0 | h0
    · rw [h0]; exact hu
    · have hi : (plainE (S.A.take r).flatten).length - 1 < (plainE (S.A.take r).flatten).length := by omega
      have hm := List.getElem_mem hi
      have he : (plainE (S.A.take r).flatten)[(plainE (S.A.take r).flatten).length - 1] = recE ((((plainE (S.A.take r).flatten).length - 1 : Nat) : Int) + 1) ((((plainE (S.A.take r).flatten).length - 1 : Nat) : Int) + 1) t := by
        have h2 : (recsE t j)[(plainE (S.A.take r).flatten).length - 1]'(by rw [recsE_len]; omega) = recE ((((plainE (S.A.take r).flatten).length - 1 : Nat) : Int) + 1) ((((plainE (S.A.take r).flatten).length - 1 : Nat) : Int) + 1) t := recsE_get ..
        rw [← h2]
        have h3 : (plainE (S.A.take r).flatten ++ plainE (S.cut r).all)[(plainE (S.A.take r).flatten).length - 1]? = (recsE t j)[(plainE (S.A.take r).flatten).length - 1]? := by rw [h1]
        rw [List.getElem?_append_left hi, List.getElem?_eq_getElem hi, List.getElem?_eq_getElem (by rw [recsE_len]; omega)] at h3
        exact Option.some.inj h3
      rw [he] at hm
      have hm2 := (List.mem_filter.1 hm).1
      obtain ⟨s, hs, hes⟩ := List.mem_flatten.1 hm2
      obtain ⟨i, hi2, rfl⟩ := List.getElem_of_mem hs
      rw [List.length_take] at hi2
      have h4 := hret i (by omega) (by omega)
      rw [List.getElem_take] at hes
      unfold retE at h4
      rw [List.all_eq_true] at h4
      have h5 := h4 _ hes
      simp [recE] at h5
      have h6 := of_decide_eq_true h5
      omega
  · rw [← h1, List.drop_left']
    rfl
end Go.Proofs.YtjmkphnppegegaaGreatDoor

/-
  The chapter's own tree: Put by contract.
-/
import Derived.Test.YtchkadifjbmmpaaDoorTrRefF
import Derived.Test.YtchkadifjbmmpaaDoorTrRow
namespace Go.Proofs.YtchkadifjbmmpaaDoor
open Go.RowKit Go.Lib Go.Maps
set_option maxRecDepth 100000
set_option linter.unusedSimpArgs false

def refPut (L : List R.Rc) (r : R.Rc) : List R.Rc := if R.mayR r = true ∧ kyR r ∉ L.map kyR then L ++ [r] else L
def refPuts (L : List R.Rc) (l : List R.Rc) : List R.Rc := l.foldl refPut L
theorem refPuts_next (L l : List R.Rc) (i : Nat) (h : i < l.length) : refPuts L (l.take (i + 1)) = refPut (refPuts L (l.take i)) l[i] := by
  unfold refPuts
  rw [List.take_succ_eq_append_getElem h, List.foldl_append]
  rfl
theorem refPuts_len : ∀ (l L : List R.Rc), L.length ≤ (refPuts L l).length ∧ (refPuts L l).length ≤ L.length + l.length
  | [], L => ⟨Nat.le_refl _, Nat.le_refl _⟩
  | a :: r, L => by
    have h1 := refPuts_len r (refPut L a)
    have h2 : L.length ≤ (refPut L a).length ∧ (refPut L a).length ≤ L.length + 1 := by unfold refPut; split <;> simp
    show L.length ≤ (refPuts (refPut L a) r).length ∧ (refPuts (refPut L a) r).length ≤ _
    simp only [List.length_cons]
    omega
/-- The chapter's own tree in memory; its row's block is one of P. -/
def RT (w : World) (q : Nat) (L : List R.Rc) (P : Nat → Prop) : Prop := ∃ v, R.Bx 30 w q #[v] ∧ R.ORow w (q + 1) v L ∧ ∀ g, v.ownBlock = some g → P g
theorem orow_form {w : World} {B : Nat} {v : Value} {L : List R.Rc} (h : R.ORow w B v L) : ∃ ad cap, v = .slice ad L.length cap := by
  rcases h.2 with ⟨rfl, h1⟩ | ⟨g2, cap, cur, rfl, _⟩
  · exact ⟨none, 0, by rw [h1]⟩
  · exact ⟨_, _, rfl⟩
set_option maxHeartbeats 32000000 in
theorem rput_c (q : Nat) (L l : List R.Rc) (ad : Option Addr) (cap : Nat) (w : World) (P : Nat → Prop) (hP : ∀ i, w.heap.size ≤ i → P i) (h : RT w q L P) (hrl : ∀ W, w.grownBy W (some q) → R.Rl W (.slice ad l.length cap) l) (hs : ∀ r ∈ l, r.t.size ≤ 9223372036854775807) (hn : l.length ≤ 1000) (hLn : L.length ≤ 1000) (hT : ∀ W, w.grownBy W (some q) → R.Tabs W) :
    Calls Tryd.prog 18 #[.pointer (some ⟨q, 0, none⟩), .slice ad l.length cap] w fun e w' => e = .returned (.int .i64 (((refPuts L l).length : Int) - (L.length : Int))) ∧ RT w' q (refPuts L l) P ∧ w.grownBy w' (some q) := by
  have mixed : Tryd.prog.follows .mixedOrders = true := by kernel_rfl
  have HRL := Lib.hid hrl
  have HSZ := Lib.hid hs
  have HT := Lib.hid hT
  have HPN := Lib.hid hP
  have H0 : Hid (RT w q (refPuts L (l.take 0)) P) := Lib.hid h
  have G0 : Hid (w.grownBy w (some q)) := Lib.hid (grown_refl _ _)
  clear h hrl hs hT hP
  go_enter Tryd.func18, Tryd.ntmps18
  go_wp2_with fail
  go_loopw [5, 6] (fun v5 v6 wr => ∃ i : Nat, i ≤ l.length ∧ v5 = .int .i64 (((refPuts L (l.take i)).length : Int) - (L.length : Int)) ∧ v6 = .int .i64 (i : Int) ∧ Hid (RT wr q (refPuts L (l.take i)) P) ∧ Hid (w.grownBy wr (some q))) (fun _ v6 _ => l.length - (RowKit.intOf v6).toNat)
  case atStart => exact ⟨0, by omega, by simp [refPuts], rfl, H0, G0⟩
  case round =>
    obtain ⟨i, hi, rfl, rfl, HI, GI⟩ := hrel
    clear H0 G0
    have hlen := refPuts_len (l.take i) L
    rw [List.length_take] at hlen
    by_cases hp : i < l.length
    · have HP := Lib.hid hp
      obtain ⟨ad2, cap2, e, _, hc⟩ := (HRL.out wr GI.out).form
      simp only [Value.slice.injEq, true_and] at e
      obtain ⟨rfl, rfl⟩ := e
      obtain ⟨g, o, rfl, hrc⟩ := hc (by omega)
      obtain ⟨x0, x1, x2, x3, x4⟩ := hrc i hp
      have HSI := Lib.hid (HSZ.out _ (List.getElem_mem hp))
      have HNX := Lib.hid (refPuts_next L l i hp)
      clear hc hrc
      generalize l[i] = r at *
      generalize refPuts L (l.take i) = Li at *
      have HRC : Hid (∀ W, Below wr.heap.size wr W → W.cell? ⟨g, o + i * 5, none⟩ = some (.int .i64 r.o) ∧ W.cell? ⟨g, o + i * 5 + 1, none⟩ = some (.int .i64 r.s) ∧ W.cell? ⟨g, o + i * 5 + 2, none⟩ = some (.int .i64 r.w) ∧ W.cell? ⟨g, o + i * 5 + 3, none⟩ = some (.int .i64 r.c) ∧ W.cell? ⟨g, o + i * 5 + 4, none⟩ = some (.string r.t)) := Lib.hid (fun W hW => ⟨(hW.cell (World.block_lt_of_cell? _ _ x0)).trans x0, (hW.cell (World.block_lt_of_cell? _ _ x1)).trans x1, (hW.cell (World.block_lt_of_cell? _ _ x2)).trans x2, (hW.cell (World.block_lt_of_cell? _ _ x3)).trans x3, (hW.cell (World.block_lt_of_cell? _ _ x4)).trans x4⟩)
      have hgl := World.block_lt_of_cell? _ _ x0
      obtain ⟨v, hbx, hro, hpb⟩ := HI.out
      obtain ⟨adL, capL, rfl⟩ := orow_form hro
      have HBX := Lib.hid hbx
      have HRO := Lib.hid hro
      have HPB := Lib.hid hpb
      clear hbx hro hpb HI
      go_wp2_with fail
      refine (R.refmay_c r wr HSI.out (HT.out wr GI.out)).mono ?_
      rintro e w2 ⟨rfl, b2⟩
      have B2 := Lib.hid b2
      clear b2 x0 x1 x2 x3 x4 hgl
      cases hm : R.mayR r with
      | false =>
        have HE : Hid (refPuts L (l.take (i + 1)) = Li) := Lib.hid (by rw [HNX.out]; unfold refPut; rw [if_neg (by rw [hm]; simp)])
        go_wp2_with fail
        go_roundw
        case rel => exact ⟨i + 1, HP.out, by rw [HE.out], by go_num, Lib.hid (by rw [HE.out]; exact ⟨_, HBX.out.below B2.out, HRO.out.below B2.out, HPB.out⟩), Lib.hid (grown_trans GI.out (grown_below B2.out _))⟩
        case measure => have := HP.out; simp [RowKit.intOf]; omega
      | true =>
        obtain ⟨y0, y1, _, _, _⟩ := HRC.out w2 B2.out
        have hgl2 := World.block_lt_of_cell? _ _ y0
        go_wp2_with fail
        refine (find_c q Li adL capL r.o r.s w2 (HBX.out.below B2.out) (R.ORow.rl (HRO.out.below B2.out)) (by unfold maxLen; omega)).mono ?_
        rintro e w3 ⟨n, rfl, hf, b3⟩
        have B3 := Lib.hid (bn B2.out b3)
        clear b3 y0 y1 hgl2
        rcases hf with ⟨rfl, hno⟩ | ⟨j, hj, rfl, hky, _⟩
        · have HE : Hid (refPuts L (l.take (i + 1)) = Li ++ [r]) := Lib.hid (by
            rw [HNX.out]
            unfold refPut
            rw [if_pos ⟨hm, fun hh => by obtain ⟨x, hx, e⟩ := List.mem_map.1 hh; exact hno x hx e⟩])
          clear hno
          have HV1 : Hid (∀ W, Below w3.heap.size w3 W → R.Rl W (.slice adL Li.length capL) Li) := Lib.hid (fun W hb => (HRO.out.below (bn B3.out hb)).rl)
          have HC8 : Hid (∀ W, Below w3.heap.size w3 W → W.cell? ⟨g, o + i * 5, none⟩ = some (.int .i64 r.o) ∧ W.cell? ⟨g, o + i * 5 + 1, none⟩ = some (.int .i64 r.s) ∧ W.cell? ⟨g, o + i * 5 + 2, none⟩ = some (.int .i64 r.w) ∧ W.cell? ⟨g, o + i * 5 + 3, none⟩ = some (.int .i64 r.c) ∧ W.cell? ⟨g, o + i * 5 + 4, none⟩ = some (.string r.t)) := Lib.hid (fun W hb => by
            obtain ⟨a0, a1, a2, a3, a4⟩ := HRC.out W (bn B3.out hb)
            exact ⟨a0, a1, a2, a3, a4⟩)
          have HNE : Hid (g ≠ q) := Lib.hid (fun e => by
            have a0 := (HRC.out wr (Below.refl _ _)).1
            rw [e, HBX.out.cell] at a0
            cases hz : o + i * 5 with
            | zero => rw [hz] at a0; simp at a0
            | succ z => rw [hz] at a0; simp at a0)
          have HCS : Hid (∀ W x, Below w3.heap.size w3 W → (W.setCell ⟨q, 0, none⟩ x).cell? ⟨g, o + i * 5, none⟩ = some (.int .i64 r.o) ∧ (W.setCell ⟨q, 0, none⟩ x).cell? ⟨g, o + i * 5 + 1, none⟩ = some (.int .i64 r.s) ∧ (W.setCell ⟨q, 0, none⟩ x).cell? ⟨g, o + i * 5 + 2, none⟩ = some (.int .i64 r.w) ∧ (W.setCell ⟨q, 0, none⟩ x).cell? ⟨g, o + i * 5 + 3, none⟩ = some (.int .i64 r.c) ∧ (W.setCell ⟨q, 0, none⟩ x).cell? ⟨g, o + i * 5 + 4, none⟩ = some (.string r.t)) := Lib.hid (fun W x hb => by
            obtain ⟨a0, a1, a2, a3, a4⟩ := HC8.out W hb
            have hne : some g ≠ some q := fun e => HNE.out (Option.some.inj e)
            exact ⟨(D.grown_cell (grown_set W q 0 x) (World.block_lt_of_cell? _ _ a0) hne).trans a0, (D.grown_cell (grown_set W q 0 x) (World.block_lt_of_cell? _ _ a1) hne).trans a1, (D.grown_cell (grown_set W q 0 x) (World.block_lt_of_cell? _ _ a2) hne).trans a2, (D.grown_cell (grown_set W q 0 x) (World.block_lt_of_cell? _ _ a3) hne).trans a3, (D.grown_cell (grown_set W q 0 x) (World.block_lt_of_cell? _ _ a4) hne).trans a4⟩)
          have q0 : w3.cell? ⟨q, 0, none⟩ = some (.slice adL Li.length capL) := (HBX.out.below B3.out).cell 0
          have qf := (HBX.out.below B3.out).soft 0
          have ql := (HBX.out.below B3.out).lt
          have HQ : Hid (q < w3.heap.size) := Lib.hid (HBX.out.below B3.out).lt
          obtain ⟨x0, x1, x2, x3, x4⟩ := HC8.out w3 (Below.refl _ _)
          have hgl3 := World.block_lt_of_cell? _ _ x0
          go_wp2_with fail
          go_region_law
            (first
            | (refine R.step_rapp rfl _ _ rfl w3.heap.size va (.slice (some ⟨w3.heap.size, 0, none⟩) 1 1) Li [r] rfl rfl (by exact hra) (by exact R.rl_one _ _ r ((hga.block w3.heap.size (by simp) (by intro h; cases h)).trans (R.Bx.new 36 w3 _))) (by simp; omega) (by exact ba.size) ?_; intro vb wb hrb hgb; obtain ⟨A9, C9, hvb⟩ := orow_form hrb;  rw [List.length_append, List.length_singleton] at hvb; subst hvb; have bb : Below w3.heap.size w3 wb := ba.trans (R.below_of_grown hgb ba.size (fun g hg => (World.ownsRow.lt hra g hg).1)); have p0 : wb.cell? ⟨q, 0, none⟩ = some (.slice adL Li.length capL) := (HBX.out.below (bn B3.out bb)).cell 0; have pf := (HBX.out.below (bn B3.out bb)).soft 0; have plt := (HBX.out.below (bn B3.out bb)).lt)
            | (refine R.step_rapp rfl _ _ rfl w3.heap.size va (.slice (some ⟨wa.heap.size, 0, none⟩) 1 1) Li [r] rfl rfl (by first | exact hra.below (alloc_below _ _) | exact hra.below (alloc_below _ _).drew) (by exact R.rl_one _ _ r (R.Bx.new 36 wa _)) (by simp; omega) (by first | exact (ba.alloc ba.size _).size | exact (ba.alloc ba.size _).drew.size) ?_; intro vb wb hrb hgb; obtain ⟨A9, C9, hvb⟩ := orow_form hrb;  rw [List.length_append, List.length_singleton] at hvb; subst hvb; have bb : Below w3.heap.size w3 wb := (ba.alloc ba.size _).trans (R.below_of_grown hgb (ba.alloc ba.size _).size (fun g hg => (World.ownsRow.lt hra g hg).1)); have p0 : wb.cell? ⟨q, 0, none⟩ = some (.slice adL Li.length capL) := (HBX.out.below (bn B3.out bb)).cell 0; have pf := (HBX.out.below (bn B3.out bb)).soft 0; have plt := (HBX.out.below (bn B3.out bb)).lt)
            | (refine R.step_rapp rfl _ _ rfl w3.heap.size (.slice none 0 0) (.slice adL Li.length capL) [] Li rfl rfl (R.ORow.nil _ _) (HV1.out _ (by first | assumption | exact Below.refl _ _ | exact (Below.refl _ _).drew | exact alloc_below _ _ | exact (alloc_below _ _).drew | exact below_da _ _)) (by simp; omega) (by first | exact Nat.le_refl _ | (simp; done)) ?_; intro va wa hra hga; have ba : Below w3.heap.size w3 wa := bn (by first | assumption | exact Below.refl _ _ | exact (Below.refl _ _).drew | exact alloc_below _ _ | exact (alloc_below _ _).drew | exact below_da _ _) (R.below_of_grown hga (Nat.le_refl _) (by intro g hg; cases hg)); obtain ⟨c0, c1, c2, c3, c4⟩ := HC8.out wa ba; have cl := World.block_lt_of_cell? _ _ c0; have d0 : wa.cell? ⟨q, 0, none⟩ = some (.slice adL Li.length capL) := (HBX.out.below (bn B3.out ba)).cell 0)
            | fail)
          all_goals
            have HRES : Hid (RT (wb.setCell ⟨q, 0, none⟩ (.slice A9 (Li.length + 1) C9)) q (Li ++ [r]) P ∧ w.grownBy (wb.setCell ⟨q, 0, none⟩ (.slice A9 (Li.length + 1) C9)) (some q)) := Lib.hid ⟨⟨_, (HBX.out.below (bn B3.out bb)).set 0 _, D.own_mono (ownsRow_of_block hrb fun g hg => Below.heap_setCell _ _ _ g (show g ≠ q from fun e => by have h1 := (World.ownsRow.lt hrb g hg).1; have h2 := HQ.out; omega)) HQ.out, fun g hg => HPN.out g (Nat.le_trans (Nat.le_trans GI.out.size B3.out.size) (World.ownsRow.lt hrb g hg).1)⟩, grown_trans GI.out (grown_trans (grown_below (bn B3.out bb) _) (grown_set wb q 0 _))⟩
            go_wp2_with fail
            go_roundw
            rotate_left
            · have := HP.out
              simp [RowKit.intOf]
              omega
            exact ⟨i + 1, HP.out, by rw [HE.out, List.length_append]; go_num, by go_num, Lib.hid (by rw [HE.out]; exact HRES.out.1), Lib.hid HRES.out.2⟩
        · have HE : Hid (refPuts L (l.take (i + 1)) = Li) := Lib.hid (by
            rw [HNX.out]
            unfold refPut
            rw [if_neg (fun hh => hh.2 (List.mem_map.2 ⟨_, List.getElem_mem hj, hky⟩))])
          clear hky
          go_wp2_with fail
          go_roundw
          case rel => exact ⟨i + 1, HP.out, by rw [HE.out], by go_num, Lib.hid (by rw [HE.out]; exact ⟨_, HBX.out.below B3.out, HRO.out.below B3.out, HPB.out⟩), Lib.hid (grown_trans GI.out (grown_below B3.out _))⟩
          case measure => have := HP.out; simp [RowKit.intOf]; omega
    · have hil : i = l.length := by omega
      subst hil
      rw [List.take_length] at HI ⊢
      have HR := Lib.hid (And.intro HI.out GI.out)
      clear HI GI
      go_wp2_with fail
      go_ret
      exact ⟨rfl, HR.out.1, HR.out.2⟩
end Go.Proofs.YtchkadifjbmmpaaDoor

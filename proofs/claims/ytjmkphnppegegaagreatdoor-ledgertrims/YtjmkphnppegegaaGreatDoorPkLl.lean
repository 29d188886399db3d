/-
  load by contract: whole segments are taken over, one behind the other, up to where they end, or are torn.
-/
import Derived.Test.YtjmkphnppegegaaGreatDoorPkLm
namespace Go.Proofs.YtjmkphnppegegaaGreatDoor
open Go.RowKit Go.Lib
set_option maxRecDepth 100000

theorem Turn.grown {S : Nat → Prop} {w a b : World} {r : Option Nat} (h : Turn S w a) (hg : a.grownBy b r) (hr : ∀ x, r = some x → w.heap.size ≤ x) : Turn S w b :=
  ⟨hg.os.trans h.os, hg.tape.trans h.tape, hg.output.trans h.output, Nat.le_trans h.size hg.size, fun i hi hn => (hg.block i (Nat.lt_of_lt_of_le hi h.size) (fun e => by have := hr i e.symm; omega)).trans (h.block i hi hn)⟩
theorem Turn.bel {S : Nat → Prop} {w a b : World} (h : Turn S w a) (hb : Below a.heap.size a b) : Turn S w b := h.trans (Turn.ofBelow hb)
theorem EOwn.gset {w : World} {B : Nat} {v : Value} {l : List Ev} (h : EOwn w B v l) {g : Nat} (hg : g < B) (k : Nat) (u : Value) : EOwn (w.setCell ⟨g, k, none⟩ u) B v l := h.turn (turn_set w g k u) (h.no (fun i hi => by subst hi; exact hg))
/-- load has taken these segments over. -/
structure LdI (w : World) (g p n k : Nat) (segs : List (List En × Nat)) (j : Nat) (v : Value) (wr : World) (xs : List Ev) (X z : Int) : Prop where
  ow : EOwn wr w.heap.size v xs
  es : xs.map Ev.e = flatS (segs.take j)
  lb : LB wr g p n k X z
  hx : X + 1 = ((k + j : Nat) : Int)
  hz : z = lastZ (segs.take j)
  tn : Turn (fun i => i = g) w wr
theorem LdI.start {w : World} {g p n k : Nat} {segs : List (List En × Nat)} {z : Int} (h : LB w g p n k ((k : Int) - 1) 0) (w0 : World) (ht : Turn (fun i => i = g) w0 w) (hz : z = 0) : LdI w0 g p n k segs 0 (.slice none 0 0) w [] ((k : Int) - 1) z :=
  ⟨EOwn.nil _ _, rfl, hz ▸ h, by omega, by subst hz; simp [lastZ], ht⟩

set_option maxHeartbeats 8000000 in
theorem load_end_c (w : World) (g p n k m : Nat) (segs : List (List En × Nat)) (own : Nat → Prop) (h : LB w g p n 0 0 0) (hd : Dr w p (filesN n k (segs.map segF)) m own) (hg : ¬ own g)
    (hn1 : 1 ≤ n) (hn : n ≤ 8) (hk0 : 1 ≤ k) (hk : k + (segs.length + 1) < 100) (hk1 : segs.map segF = [] → k = 1) (hm : m ≤ 100000) (hgd : ∀ s ∈ segs, goodE n true s.1 ∧ s.1 ≠ []) (hT : ∀ W, Turn (fun i => i = g) w W → Tabs W) :
    Calls Tryz.prog 29 #[.pointer (some ⟨g, 0, none⟩)] w fun e w' => ∃ v xs own', e = .returned v ∧ EOwn w' w.heap.size v xs ∧ xs.map Ev.e = flatS segs ∧ LB w' g p n k ((k : Int) + (segs.length : Int) - 1) (lastZ segs) ∧ Dr w' p (filesN n k (segs.map segF)) m own' ∧ Step w (plusB own g) w' (plusB own' g) ∧ ¬ own' g ∧ noS own' v xs := by
  have HBD := Lib.hid (bounds_c w g p n k m 0 0 0 _ own h hd (by omega) hk0 (by simp; omega))
  have hbf : bF k (segs.map segF).length = (k : Int) := by
    unfold bF
    split
    · rename_i h0
      have := hk1 (List.eq_nil_of_length_eq_zero h0)
      omega
    · rfl
  rw [hbf] at HBD
  have HD := Lib.hid hd
  have HG := Lib.hid hg
  have HT := Lib.hid hT
  have HGD := Lib.hid hgd
  have hus := hd.us
  rw [used_files] at hus
  have HUS : Hid (sumF (segs.map segF) ≤ 100000) := Lib.hid (by omega)
  have HUP : Hid (∀ i, own i → i < w.heap.size) := Lib.hid (fun i hi => hd.up hi)
  have hglt := h.lt
  have HGL := Lib.hid hglt
  have HDW : Hid (∀ W, Turn (fun i => i = g) w W → Dr W p (filesN n k (segs.map segF)) m own) := Lib.hid (fun W hW => hd.far hW (fun i hi => hi ▸ hg))
  have f2 := Bx.soft h 2
  obtain ⟨_, _, c2, c3, _⟩ := h.cells
  have HLB := Lib.hid h
  clear h hd hg hT hgd hus hbf
  generalize bL k (segs.map segF).length = LL at HBD
  go_enter Tryz.func29, Tryz.ntmps29
  go_wp2_with fail
  refine HBD.out.mono ?_
  rintro e w1 ⟨rfl, b1⟩
  have l1 := HLB.out.below b1
  have hlt1 := l1.lt
  have f2' := Bx.soft l1 2
  have c2' := l1.cells.2.2.1
  have c3' := l1.cells.2.2.2.1
  have l2 := l1.setF (k : Int)
  have f3' := Bx.soft l2 3
  have l3 : LB _ g p n k ((k : Int) - 1) 0 := l2.setL ((k : Int) - 1)
  have HT3 : Hid (Turn (fun i => i = g) w ((w1.setCell ⟨g, 2, none⟩ (.int .i64 k)).setCell ⟨g, 3, none⟩ (.int .i64 ((k : Int) - 1)))) := Lib.hid (((Turn.ofBelow b1).trans (turn_set _ g 2 _)).trans (turn_set _ g 3 _))
  have HL3 := Lib.hid l3
  clear l2 l3 l1 b1 HBD f2 c2 c3 hglt
  go_wp2
  go_loopw [3] (fun v3 wr => ∃ (j : Nat) (xs : List Ev) (X z : Int), j ≤ segs.length ∧ Hid (LdI w g p n k segs j v3 wr xs X z)) (fun _ wr => (k + segs.length) - (match wr.cell? ⟨g, 3, none⟩ with | some u => (RowKit.intOf u).toNat | none => 0))
  case atStart => exact ⟨0, [], (k : Int) - 1, 0, by omega, Lib.hid (LdI.start HL3.out w HT3.out rfl)⟩
  case round =>
    obtain ⟨j, xs, X, z, hj, HI⟩ := hrel
    obtain ⟨ow, hes, lb, hx, hzz, tn⟩ := HI.out
    have HTN := Lib.hid tn
    have HOW := Lib.hid ow
    have HES := Lib.hid hes
    have HLB1 := Lib.hid lb
    have hlt := lb.lt
    obtain ⟨c0, c1, c2, c3, c4⟩ := lb.cells
    have hX0 : 0 ≤ X := by omega
    have hX1 : X ≤ 200 := by omega
    have HN := Lib.hid (nname_c wr g p n k X z lb (by omega) (k + j) (by omega))
    have hsz0 := tn.size
    have HX := Lib.hid hx
    have hcX : wr.cell? ⟨g, 3, none⟩ = some (.int .i64 X) := c3
    have HCX := Lib.hid hcX
    clear hcX
    have HZZ := Lib.hid hzz
    clear tn ow hes lb HI hzz
    obtain ⟨adx, capx, rfl, hxc, _⟩ := HOW.out.er
    by_cases hjl : j < segs.length
    · have hjF : j < (segs.map segF).length := by simp; omega
      have hlk : lookP (nmS n (k + j)).data.toList (filesN n k (segs.map segF)) = some (rowsE segs[j].1, segs[j].2) := by
        rw [nm_list, look_at n k _ (by simp; omega) j hjF]
        simp [segF]
      obtain ⟨gd, gn⟩ := HGD.out segs[j] (List.getElem_mem hjl)
      have hrd : readE (rowsE segs[j].1) n = (segs[j].1, (rowsE segs[j].1).length) := read_all gd
      have hpos := rowsE_pos gn
      have hfl : flatS (segs.take (j + 1)) = flatS (segs.take j) ++ segs[j].1 := by
        rw [List.take_succ_eq_append_getElem hjl, flatS_app]
        simp [flatS]
      have hlz : lastZ (segs.take (j + 1)) = ((rowsE segs[j].1).length : Int) := by
        rw [List.take_succ_eq_append_getElem hjl, lastZ_app]
      have hcount : (flatS (segs.take (j + 1))).length ≤ 100000 := by
        have h1 := flatS_len (segs.take (j + 1))
        have h2 := sumF_app ((segs.take (j + 1)).map segF) ((segs.drop (j + 1)).map segF)
        rw [← List.map_append, List.take_append_drop] at h2
        have h3 := HUS.out
        omega
      have hbytes : (rowsE segs[j].1).length ≤ 100000 := by
        have h2 := sumF_app ((segs.take j).map segF) ((segs.drop j).map segF)
        rw [← List.map_append, List.take_append_drop, List.drop_eq_getElem_cons hjl, List.map_cons] at h2
        have h3 := HUS.out
        simp only [sumF, segF] at h2
        omega
      have hJ := Lib.hid hjl
      have hlx : xs.length + segs[j].1.length ≤ 100000 := by
        have e := congrArg List.length HES.out
        rw [List.length_map] at e
        rw [hfl, List.length_append] at hcount
        omega
      have HRDE := Lib.hid hrd
      have HFL := Lib.hid hfl
      have HLZ := Lib.hid hlz
      have hokB := rowsE_ok segs[j].1
      generalize segs[j] = S at hlk hrd HRDE hpos HFL HLZ hbytes hlx hokB
      obtain ⟨sl, sy⟩ := S
      simp only at hlk hrd HRDE hpos HFL HLZ hbytes hlx hokB
      have HBn : Hid (12 ≤ (rowsE sl).length) := Lib.hid hpos
      have CR : Hid (∀ W, Turn (fun i => i = g) w W → Calls Tryz.prog 47 #[.pointer (some ⟨p, 0, none⟩), .string (nmS n (k + j))] W fun e w' => ∃ A C, e = .returned (.tuple #[.slice A (rowsE sl).length C, .int .i64 0]) ∧ BRow w' W.heap.size (.slice A (rowsE sl).length C) (rowsE sl) ∧ Below W.heap.size W w') := Lib.hid (fun W hW => dRead (HDW.out W hW) _ (nm_le _ _) _ _ hlk)
      have CS : Hid (∀ W v, Turn (fun i => i = g) w W → Bc W v (rowsE sl) → Calls Tryz.prog 48 #[v, .int .i64 (n : Int)] W (readT8 (rowsE sl) n W)) := Lib.hid (fun W v hW hv => reade_c (rowsE sl) v n W hv hokB (by omega) (HT.out W hW))
      unfold readT8 at CS
      rw [hrd] at CS
      clear hlk hrd hfl hlz hcount hokB gd gn
      obtain ⟨Bs, hBs⟩ : ∃ Bs, Bs = rowsE sl := ⟨_, rfl⟩
      have HBS := Lib.hid hBs
      rw [← hBs] at CR CS hpos hbytes
      have hz1 : ((Bs.length : Int) == 0) = false := by simp; intro e; rw [e] at hpos; simp at hpos
      clear hBs
      go_wp2_with fail
      refine HN.out.mono ?_
      rintro e w2 ⟨rfl, b2⟩
      have l2 := HLB1.out.below b2
      have t2 := HTN.out.bel b2
      have hlt2 := l2.lt
      obtain ⟨d0, d1, d2, d3, d4⟩ := l2.cells
      have HT2 := Lib.hid t2
      have HL2 := Lib.hid l2
      have HB2 := Lib.hid b2
      clear b2 l2 t2 HN c0 c1 c2 c3 c4
      go_wp2_with fail
      refine (CR.out w2 HT2.out).mono ?_
      rintro e w3 ⟨A3, C3, rfl, r3, b3⟩
      have l3 := HL2.out.below b3
      have hlt3 := l3.lt
      have HL3' := Lib.hid l3
      have HT3' := Lib.hid (HT2.out.bel b3)
      have HR3 := Lib.hid r3
      have HB3 := Lib.hid b3
      clear d0 d1 d2 d3 d4
      obtain ⟨d0, d1, d2, d3, d4⟩ := l3.cells
      clear b3 l3 r3 CR HL2 HT2
      go_wp2_with fail
      refine (CS.out w3 _ HT3'.out HR3.out.bc).mono ?_
      rintro e w4 ⟨v4, ys, rfl, hys, oy, b4⟩
      have l4 := HL3'.out.below b4
      have hlt4 := l4.lt
      clear d0 d1 d2 d3 d4
      obtain ⟨d0, d1, d2, d3, d4⟩ := l4.cells
      have HOW4 := Lib.hid (((HOW.out.below HB2.out).below HB3.out).below b4)
      have s2 := HB2.out.size
      have s3 := HB3.out.size
      have s4 := b4.size
      have HT4 := Lib.hid (HT3'.out.bel b4)
      have HOY := Lib.hid oy
      have HYS := Lib.hid hys
      obtain ⟨ady, capy, rfl, hyc, _⟩ := oy.er
      have hly : ys.length = sl.length := by have := congrArg List.length hys; simpa using this
      obtain ⟨A5, N5, C5, w5, run5, row5, g5, _⟩ := eapp_run xs ys (.slice adx xs.length capx) (.slice ady ys.length capy) w4 22 w.heap.size HOW4.out.row oy.er (by omega) (by omega)
      have hlx5 : ∀ x, (Value.slice adx xs.length capx).ownBlock = some x → w.heap.size ≤ x := fun x hx => (World.ownsRow.lt HOW4.out.row x hx).1
      have hgl := HGL.out
      have HOW5 : Hid (EOwn w5 w.heap.size (.slice A5 N5 C5) (xs ++ ys)) := Lib.hid (EOwn.app HOW4.out HOY.out (by omega) (fun u hu y hy => by have := (HOW.out.lt.2 u hu y hy).2; omega) row5 g5)
      have l5 : LB w5 g p n k X z := Bx.far l4 g5 (fun e => by have := hlx5 g e.symm; omega)
      have HT5 := Lib.hid (HT4.out.grown g5 hlx5)
      have hlt5 := l5.lt
      have f3 := Bx.soft l5 3
      have e3 := l5.cells.2.2.2.1
      have e4 := l5.cells.2.2.2.2
      have l6 := l5.setL (X + 1)
      have f4 := Bx.soft l6 4
      have e4' := l6.cells.2.2.2.2
      have hlt6 := l6.lt
      have l7 := l6.setZ (Bs.length : Int)
      have HL7 := Lib.hid l7
      have HR5 := Lib.hid run5
      have HL7b := Lib.hid (l7.cells.1)
      clear run5 row5 g5 l4 oy hys b4 CS HL3' l5 l6 l7 hly hyc d0 d1 d2 d3 d4
      have hwX : X + 1 ≤ 300 := by omega
      clear hx
      go_wp2_with (at_builtin; refine wpList_append_run rfl _ _ 22 rfl _ _ HR5.out ?_; clear HR5)
      go_roundw
      case rel => exact ⟨j + 1, xs ++ ys, X + 1, (Bs.length : Int), hJ.out, Lib.hid ⟨(HOW5.out.gset hgl 3 _).gset hgl 4 _, by rw [List.map_append, HES.out, HFL.out, HYS.out], HL7.out, by have := HX.out; omega, by rw [HLZ.out, HBS.out], (HT5.out.trans (turn_set _ g 3 _)).trans (turn_set _ g 4 _)⟩⟩
      case measure =>
        rw [HCX.out, HL7.out.cells.2.2.2.1]
        have := HX.out
        have := hJ.out
        simp only [RowKit.intOf]
        omega
    · obtain rfl : j = segs.length := by omega
      have hlk : lookP (nmS n (k + segs.length)).data.toList (filesN n k (segs.map segF)) = none := by
        rw [nm_list]
        exact look_out n (by omega) _ k (by simp; omega) (by simp)
      have CR : Hid (∀ W, Turn (fun i => i = g) w W → Calls Tryz.prog 47 #[.pointer (some ⟨p, 0, none⟩), .string (nmS n (k + segs.length))] W fun e w' => e = .returned (.tuple #[.slice none 0 0, .int .i64 13]) ∧ W = w') := Lib.hid (fun W hW => dReadNo (HDW.out W hW) _ (nm_le _ _) hlk)
      have CS : Hid (∀ W, Turn (fun i => i = g) w W → Calls Tryz.prog 48 #[.slice none 0 0, .int .i64 (n : Int)] W (readT8 [] n W)) := Lib.hid (fun W hW => reade_c [] (.slice none 0 0) n W (BRow.nil W 0).bc (fun x hx => by cases hx) (by simp) (HT.out W hW))
      unfold readT8 at CS
      rw [readE_nil] at CS
      clear hlk
      go_wp2_with fail
      refine HN.out.mono ?_
      rintro e w2 ⟨rfl, b2⟩
      have l2 := HLB1.out.below b2
      have hlt2 := l2.lt
      have HT2 := Lib.hid (HTN.out.bel b2)
      have HL2 := Lib.hid l2
      have HB2 := Lib.hid b2
      clear c0 c1 c2 c3 c4
      obtain ⟨c0, c1, c2, c3, c4⟩ := l2.cells
      clear b2 l2
      go_wp2_with fail
      refine (CR.out w2 HT2.out).mono ?_
      rintro e w3 ⟨rfl, rfl⟩
      go_wp2_with fail
      refine (CS.out w2 HT2.out).mono ?_
      rintro e w4 ⟨v4, ys, rfl, hys, oy, b4⟩
      obtain ⟨ady, capy, rfl, hyc, _⟩ := oy.er
      have HB4 := Lib.hid b4
      have HL4 := Lib.hid (HL2.out.below b4)
      clear oy hys b4
      go_wp2
      go_ret
      have t4 := HT2.out.bel HB4.out
      refine ⟨_, xs, own, rfl, (HOW.out.below HB2.out).below HB4.out, by rw [HES.out, List.take_length], ?_, HDW.out _ t4, .ofTurn (t4.wide (fun i _ hi => .inr hi)), HG.out, HOW.out.no (fun i hi => HUP.out i hi)⟩
      have e1 : X = (k : Int) + (segs.length : Int) - 1 := by have := HX.out; omega
      rw [← e1]
      have e2 := HZZ.out
      rw [List.take_length] at e2
      rw [← e2]
      exact HL4.out

end Go.Proofs.YtjmkphnppegegaaGreatDoor
/-
  load by contract: the last file holds no segment.
-/
namespace Go.Proofs.YtjmkphnppegegaaGreatDoor
open Go.RowKit Go.Lib
set_option maxRecDepth 100000

set_option maxHeartbeats 8000000 in
theorem load_zero_c (w : World) (g p n k m : Nat) (segs : List (List En × Nat)) (own : Nat → Prop) (tb : List Int) (tf : Nat) (htb : OkB tb) (hrd : readE tb n = ([], 0)) (h : LB w g p n 0 0 0) (hd : Dr w p (filesN n k (segs.map segF ++ [(tb, tf)])) m own) (hg : ¬ own g)
    (hn1 : 1 ≤ n) (hn : n ≤ 8) (hk0 : 1 ≤ k) (hk : k + (segs.length + 1) < 100) (hk1 : segs.map segF ++ [(tb, tf)] = [] → k = 1) (hm : m ≤ 100000) (hgd : ∀ s ∈ segs, goodE n true s.1 ∧ s.1 ≠ []) (hT : ∀ W, Turn (fun i => i = g) w W → Tabs W) :
    Calls Tryz.prog 29 #[.pointer (some ⟨g, 0, none⟩)] w fun e w' => ∃ v xs own', e = .returned v ∧ EOwn w' w.heap.size v xs ∧ xs.map Ev.e = flatS segs ∧ LB w' g p n k ((k : Int) + (segs.length : Int) - 1) (lastZ segs) ∧ Dr w' p (filesN n k (segs.map segF ++ [(tb, tf)])) m own' ∧ Step w (plusB own g) w' (plusB own' g) ∧ ¬ own' g ∧ noS own' v xs := by
  have HBD := Lib.hid (bounds_c w g p n k m 0 0 0 _ own h hd (by omega) hk0 (by simp; omega))
  have hbf : bF k (segs.map segF ++ [(tb, tf)]).length = (k : Int) := by
    unfold bF
    split
    · rename_i h0
      have := hk1 (List.eq_nil_of_length_eq_zero h0)
      omega
    · rfl
  rw [hbf] at HBD
  have HD := Lib.hid hd
  have HG := Lib.hid hg
  have HT := Lib.hid hT
  have HGD := Lib.hid hgd
  have hus := hd.us
  rw [used_files] at hus
  have HUS : Hid (sumF (segs.map segF ++ [(tb, tf)]) ≤ 100000) := Lib.hid (by omega)
  have HUP : Hid (∀ i, own i → i < w.heap.size) := Lib.hid (fun i hi => hd.up hi)
  have hglt := h.lt
  have HGL := Lib.hid hglt
  have HDW : Hid (∀ W, Turn (fun i => i = g) w W → Dr W p (filesN n k (segs.map segF ++ [(tb, tf)])) m own) := Lib.hid (fun W hW => hd.far hW (fun i hi => hi ▸ hg))
  have f2 := Bx.soft h 2
  obtain ⟨_, _, c2, c3, _⟩ := h.cells
  have HLB := Lib.hid h
  clear h hd hg hT hgd hus hbf
  generalize bL k (segs.map segF ++ [(tb, tf)]).length = LL at HBD
  go_enter Tryz.func29, Tryz.ntmps29
  go_wp2_with fail
  refine HBD.out.mono ?_
  rintro e w1 ⟨rfl, b1⟩
  have l1 := HLB.out.below b1
  have hlt1 := l1.lt
  have f2' := Bx.soft l1 2
  have c2' := l1.cells.2.2.1
  have c3' := l1.cells.2.2.2.1
  have l2 := l1.setF (k : Int)
  have f3' := Bx.soft l2 3
  have l3 : LB _ g p n k ((k : Int) - 1) 0 := l2.setL ((k : Int) - 1)
  have HT3 : Hid (Turn (fun i => i = g) w ((w1.setCell ⟨g, 2, none⟩ (.int .i64 k)).setCell ⟨g, 3, none⟩ (.int .i64 ((k : Int) - 1)))) := Lib.hid (((Turn.ofBelow b1).trans (turn_set _ g 2 _)).trans (turn_set _ g 3 _))
  have HL3 := Lib.hid l3
  clear l2 l3 l1 b1 HBD f2 c2 c3 hglt
  go_wp2
  go_loopw [3] (fun v3 wr => ∃ (j : Nat) (xs : List Ev) (X z : Int), j ≤ segs.length ∧ Hid (LdI w g p n k segs j v3 wr xs X z)) (fun _ wr => (k + segs.length) - (match wr.cell? ⟨g, 3, none⟩ with | some u => (RowKit.intOf u).toNat | none => 0))
  case atStart => exact ⟨0, [], (k : Int) - 1, 0, by omega, Lib.hid (LdI.start HL3.out w HT3.out rfl)⟩
  case round =>
    obtain ⟨j, xs, X, z, hj, HI⟩ := hrel
    obtain ⟨ow, hes, lb, hx, hzz, tn⟩ := HI.out
    have HTN := Lib.hid tn
    have HOW := Lib.hid ow
    have HES := Lib.hid hes
    have HLB1 := Lib.hid lb
    have hlt := lb.lt
    obtain ⟨c0, c1, c2, c3, c4⟩ := lb.cells
    have hX0 : 0 ≤ X := by omega
    have hX1 : X ≤ 200 := by omega
    have HN := Lib.hid (nname_c wr g p n k X z lb (by omega) (k + j) (by omega))
    have hsz0 := tn.size
    have HX := Lib.hid hx
    have hcX : wr.cell? ⟨g, 3, none⟩ = some (.int .i64 X) := c3
    have HCX := Lib.hid hcX
    clear hcX
    have HZZ := Lib.hid hzz
    clear tn ow hes lb HI hzz
    obtain ⟨adx, capx, rfl, hxc, _⟩ := HOW.out.er
    by_cases hjl : j < segs.length
    · have hjF : j < (segs.map segF ++ [(tb, tf)]).length := by simp; omega
      have hlk : lookP (nmS n (k + j)).data.toList (filesN n k (segs.map segF ++ [(tb, tf)])) = some (rowsE segs[j].1, segs[j].2) := by
        rw [nm_list, look_at n k _ (by simp; omega) j hjF]
        simp [hjl, segF]
      obtain ⟨gd, gn⟩ := HGD.out segs[j] (List.getElem_mem hjl)
      have hrd : readE (rowsE segs[j].1) n = (segs[j].1, (rowsE segs[j].1).length) := read_all gd
      have hpos := rowsE_pos gn
      have hfl : flatS (segs.take (j + 1)) = flatS (segs.take j) ++ segs[j].1 := by
        rw [List.take_succ_eq_append_getElem hjl, flatS_app]
        simp [flatS]
      have hlz : lastZ (segs.take (j + 1)) = ((rowsE segs[j].1).length : Int) := by
        rw [List.take_succ_eq_append_getElem hjl, lastZ_app]
      have hcount : (flatS (segs.take (j + 1))).length ≤ 100000 := by
        have h1 := flatS_len (segs.take (j + 1))
        have h2 := sumF_app ((segs.take (j + 1)).map segF) ((segs.drop (j + 1)).map segF)
        rw [← List.map_append, List.take_append_drop] at h2
        have h3 := HUS.out
        rw [sumF_app] at h3
        omega
      have hbytes : (rowsE segs[j].1).length ≤ 100000 := by
        have h2 := sumF_app ((segs.take j).map segF) ((segs.drop j).map segF)
        rw [← List.map_append, List.take_append_drop, List.drop_eq_getElem_cons hjl, List.map_cons] at h2
        have h3 := HUS.out
        rw [sumF_app] at h3
        simp only [sumF, segF] at h2
        omega
      have hJ := Lib.hid hjl
      have hlx : xs.length + segs[j].1.length ≤ 100000 := by
        have e := congrArg List.length HES.out
        rw [List.length_map] at e
        rw [hfl, List.length_append] at hcount
        omega
      have HRDE := Lib.hid hrd
      have HFL := Lib.hid hfl
      have HLZ := Lib.hid hlz
      have hokB := rowsE_ok segs[j].1
      generalize segs[j] = S at hlk hrd HRDE hpos HFL HLZ hbytes hlx hokB
      obtain ⟨sl, sy⟩ := S
      simp only at hlk hrd HRDE hpos HFL HLZ hbytes hlx hokB
      have HBn : Hid (12 ≤ (rowsE sl).length) := Lib.hid hpos
      have CR : Hid (∀ W, Turn (fun i => i = g) w W → Calls Tryz.prog 47 #[.pointer (some ⟨p, 0, none⟩), .string (nmS n (k + j))] W fun e w' => ∃ A C, e = .returned (.tuple #[.slice A (rowsE sl).length C, .int .i64 0]) ∧ BRow w' W.heap.size (.slice A (rowsE sl).length C) (rowsE sl) ∧ Below W.heap.size W w') := Lib.hid (fun W hW => dRead (HDW.out W hW) _ (nm_le _ _) _ _ hlk)
      have CS : Hid (∀ W v, Turn (fun i => i = g) w W → Bc W v (rowsE sl) → Calls Tryz.prog 48 #[v, .int .i64 (n : Int)] W (readT8 (rowsE sl) n W)) := Lib.hid (fun W v hW hv => reade_c (rowsE sl) v n W hv hokB (by omega) (HT.out W hW))
      unfold readT8 at CS
      rw [hrd] at CS
      clear hlk hrd hfl hlz hcount hokB gd gn
      obtain ⟨Bs, hBs⟩ : ∃ Bs, Bs = rowsE sl := ⟨_, rfl⟩
      have HBS := Lib.hid hBs
      rw [← hBs] at CR CS hpos hbytes
      have hz1 : ((Bs.length : Int) == 0) = false := by simp; intro e; rw [e] at hpos; simp at hpos
      clear hBs
      go_wp2_with fail
      refine HN.out.mono ?_
      rintro e w2 ⟨rfl, b2⟩
      have l2 := HLB1.out.below b2
      have t2 := HTN.out.bel b2
      have hlt2 := l2.lt
      obtain ⟨d0, d1, d2, d3, d4⟩ := l2.cells
      have HT2 := Lib.hid t2
      have HL2 := Lib.hid l2
      have HB2 := Lib.hid b2
      clear b2 l2 t2 HN c0 c1 c2 c3 c4
      go_wp2_with fail
      refine (CR.out w2 HT2.out).mono ?_
      rintro e w3 ⟨A3, C3, rfl, r3, b3⟩
      have l3 := HL2.out.below b3
      have hlt3 := l3.lt
      have HL3' := Lib.hid l3
      have HT3' := Lib.hid (HT2.out.bel b3)
      have HR3 := Lib.hid r3
      have HB3 := Lib.hid b3
      clear d0 d1 d2 d3 d4
      obtain ⟨d0, d1, d2, d3, d4⟩ := l3.cells
      clear b3 l3 r3 CR HL2 HT2
      go_wp2_with fail
      refine (CS.out w3 _ HT3'.out HR3.out.bc).mono ?_
      rintro e w4 ⟨v4, ys, rfl, hys, oy, b4⟩
      have l4 := HL3'.out.below b4
      have hlt4 := l4.lt
      clear d0 d1 d2 d3 d4
      obtain ⟨d0, d1, d2, d3, d4⟩ := l4.cells
      have HOW4 := Lib.hid (((HOW.out.below HB2.out).below HB3.out).below b4)
      have s2 := HB2.out.size
      have s3 := HB3.out.size
      have s4 := b4.size
      have HT4 := Lib.hid (HT3'.out.bel b4)
      have HOY := Lib.hid oy
      have HYS := Lib.hid hys
      obtain ⟨ady, capy, rfl, hyc, _⟩ := oy.er
      have hly : ys.length = sl.length := by have := congrArg List.length hys; simpa using this
      obtain ⟨A5, N5, C5, w5, run5, row5, g5, _⟩ := eapp_run xs ys (.slice adx xs.length capx) (.slice ady ys.length capy) w4 22 w.heap.size HOW4.out.row oy.er (by omega) (by omega)
      have hlx5 : ∀ x, (Value.slice adx xs.length capx).ownBlock = some x → w.heap.size ≤ x := fun x hx => (World.ownsRow.lt HOW4.out.row x hx).1
      have hgl := HGL.out
      have HOW5 : Hid (EOwn w5 w.heap.size (.slice A5 N5 C5) (xs ++ ys)) := Lib.hid (EOwn.app HOW4.out HOY.out (by omega) (fun u hu y hy => by have := (HOW.out.lt.2 u hu y hy).2; omega) row5 g5)
      have l5 : LB w5 g p n k X z := Bx.far l4 g5 (fun e => by have := hlx5 g e.symm; omega)
      have HT5 := Lib.hid (HT4.out.grown g5 hlx5)
      have hlt5 := l5.lt
      have f3 := Bx.soft l5 3
      have e3 := l5.cells.2.2.2.1
      have e4 := l5.cells.2.2.2.2
      have l6 := l5.setL (X + 1)
      have f4 := Bx.soft l6 4
      have e4' := l6.cells.2.2.2.2
      have hlt6 := l6.lt
      have l7 := l6.setZ (Bs.length : Int)
      have HL7 := Lib.hid l7
      have HR5 := Lib.hid run5
      have HL7b := Lib.hid (l7.cells.1)
      clear run5 row5 g5 l4 oy hys b4 CS HL3' l5 l6 l7 hly hyc d0 d1 d2 d3 d4
      have hwX : X + 1 ≤ 300 := by omega
      clear hx
      go_wp2_with (at_builtin; refine wpList_append_run rfl _ _ 22 rfl _ _ HR5.out ?_; clear HR5)
      go_roundw
      case rel => exact ⟨j + 1, xs ++ ys, X + 1, (Bs.length : Int), hJ.out, Lib.hid ⟨(HOW5.out.gset hgl 3 _).gset hgl 4 _, by rw [List.map_append, HES.out, HFL.out, HYS.out], HL7.out, by have := HX.out; omega, by rw [HLZ.out, HBS.out], (HT5.out.trans (turn_set _ g 3 _)).trans (turn_set _ g 4 _)⟩⟩
      case measure =>
        rw [HCX.out, HL7.out.cells.2.2.2.1]
        have := HX.out
        have := hJ.out
        simp only [RowKit.intOf]
        omega
    · obtain rfl : j = segs.length := by omega
      have hlk : lookP (nmS n (k + segs.length)).data.toList (filesN n k (segs.map segF ++ [(tb, tf)])) = some (tb, tf) := by
        rw [nm_list]
        have := look_mid n (segs.map segF) (tb, tf) [] k (by simp; omega)
        rwa [List.length_map] at this
      have hbl : tb.length ≤ 100000 := by
        have h3 := HUS.out
        rw [sumF_app] at h3
        simp only [sumF] at h3
        omega
      have CR : Hid (∀ W, Turn (fun i => i = g) w W → Calls Tryz.prog 47 #[.pointer (some ⟨p, 0, none⟩), .string (nmS n (k + segs.length))] W fun e w' => ∃ A C, e = .returned (.tuple #[.slice A tb.length C, .int .i64 0]) ∧ BRow w' W.heap.size (.slice A tb.length C) tb ∧ Below W.heap.size W w') := Lib.hid (fun W hW => dRead (HDW.out W hW) _ (nm_le _ _) _ _ hlk)
      have CS : Hid (∀ W v, Turn (fun i => i = g) w W → Bc W v tb → Calls Tryz.prog 48 #[v, .int .i64 (n : Int)] W (readT8 tb n W)) := Lib.hid (fun W v hW hv => reade_c tb v n W hv htb (by omega) (HT.out W hW))
      unfold readT8 at CS
      rw [hrd] at CS
      clear hlk
      go_wp2_with fail
      refine HN.out.mono ?_
      rintro e w2 ⟨rfl, b2⟩
      have l2 := HLB1.out.below b2
      have hlt2 := l2.lt
      have HT2 := Lib.hid (HTN.out.bel b2)
      have HL2 := Lib.hid l2
      have HB2 := Lib.hid b2
      clear c0 c1 c2 c3 c4
      obtain ⟨c0, c1, c2, c3, c4⟩ := l2.cells
      clear b2 l2
      go_wp2_with fail
      refine (CR.out w2 HT2.out).mono ?_
      rintro e w3 ⟨A3, C3, rfl, r3, b3⟩
      have l3 := HL2.out.below b3
      have hlt3 := l3.lt
      have HT3 := Lib.hid (HT2.out.bel b3)
      have HL3 := Lib.hid l3
      have HB3 := Lib.hid b3
      have HR3 := Lib.hid r3
      clear c0 c1 c2 c3 c4
      obtain ⟨c0, c1, c2, c3, c4⟩ := l3.cells
      clear b3 l3 r3
      go_wp2_with fail
      refine (CS.out w3 _ HT3.out HR3.out.bc).mono ?_
      rintro e w4 ⟨v4, ys, rfl, hys, oy, b4⟩
      obtain ⟨ady, capy, rfl, hyc, _⟩ := oy.er
      have HB4 := Lib.hid b4
      have HL4 := Lib.hid (HL3.out.below b4)
      clear oy hys b4
      go_wp2
      go_ret
      have t4 := HT3.out.bel HB4.out
      refine ⟨_, xs, own, rfl, ((HOW.out.below HB2.out).below HB3.out).below HB4.out, by rw [HES.out, List.take_length], ?_, HDW.out _ t4, .ofTurn (t4.wide (fun i _ hi => .inr hi)), HG.out, HOW.out.no (fun i hi => HUP.out i hi)⟩
      have e1 : X = (k : Int) + (segs.length : Int) - 1 := by have := HX.out; omega
      rw [← e1]
      have e2 := HZZ.out
      rw [List.take_length] at e2
      rw [← e2]
      exact HL4.out

end Go.Proofs.YtjmkphnppegegaaGreatDoor
/-
  load by contract: the last file is torn behind some entries.
-/
namespace Go.Proofs.YtjmkphnppegegaaGreatDoor
open Go.RowKit Go.Lib
set_option maxRecDepth 100000

set_option maxHeartbeats 8000000 in
theorem load_cut_c (w : World) (g p n k m : Nat) (segs : List (List En × Nat)) (own : Nat → Prop) (tb : List Int) (tf tz : Nat) (R : List En) (htb : OkB tb) (hrd : readE tb n = (R, tz)) (htz : 0 < tz) (htl : tz < tb.length) (h : LB w g p n 0 0 0) (hd : Dr w p (filesN n k (segs.map segF ++ [(tb, tf)])) m own) (hg : ¬ own g)
    (hn1 : 1 ≤ n) (hn : n ≤ 8) (hk0 : 1 ≤ k) (hk : k + (segs.length + 1) < 100) (hk1 : segs.map segF ++ [(tb, tf)] = [] → k = 1) (hm : m ≤ 100000) (hgd : ∀ s ∈ segs, goodE n true s.1 ∧ s.1 ≠ []) (hT : ∀ W, Turn (fun i => i = g) w W → Tabs W) :
    Calls Tryz.prog 29 #[.pointer (some ⟨g, 0, none⟩)] w fun e w' => ∃ v xs own', e = .returned v ∧ EOwn w' w.heap.size v xs ∧ xs.map Ev.e = flatS segs ++ R ∧ LB w' g p n k ((k : Int) + (segs.length : Int)) (tz : Int) ∧ Dr w' p (filesN n k (segs.map segF ++ [(tb.take tz, tz)])) m own' ∧ Step w (plusB own g) w' (plusB own' g) ∧ ¬ own' g ∧ noS own' v xs := by
  have HBD := Lib.hid (bounds_c w g p n k m 0 0 0 _ own h hd (by omega) hk0 (by simp; omega))
  have hbf : bF k (segs.map segF ++ [(tb, tf)]).length = (k : Int) := by
    unfold bF
    split
    · rename_i h0
      have := hk1 (List.eq_nil_of_length_eq_zero h0)
      omega
    · rfl
  rw [hbf] at HBD
  have HD := Lib.hid hd
  have HG := Lib.hid hg
  have HT := Lib.hid hT
  have HGD := Lib.hid hgd
  have hus := hd.us
  rw [used_files] at hus
  have HUS : Hid (sumF (segs.map segF ++ [(tb, tf)]) ≤ 100000) := Lib.hid (by omega)
  have HUP : Hid (∀ i, own i → i < w.heap.size) := Lib.hid (fun i hi => hd.up hi)
  have hglt := h.lt
  have HGL := Lib.hid hglt
  have HDW : Hid (∀ W, Turn (fun i => i = g) w W → Dr W p (filesN n k (segs.map segF ++ [(tb, tf)])) m own) := Lib.hid (fun W hW => hd.far hW (fun i hi => hi ▸ hg))
  have f2 := Bx.soft h 2
  obtain ⟨_, _, c2, c3, _⟩ := h.cells
  have HLB := Lib.hid h
  clear h hd hg hT hgd hus hbf
  generalize bL k (segs.map segF ++ [(tb, tf)]).length = LL at HBD
  go_enter Tryz.func29, Tryz.ntmps29
  go_wp2_with fail
  refine HBD.out.mono ?_
  rintro e w1 ⟨rfl, b1⟩
  have l1 := HLB.out.below b1
  have hlt1 := l1.lt
  have f2' := Bx.soft l1 2
  have c2' := l1.cells.2.2.1
  have c3' := l1.cells.2.2.2.1
  have l2 := l1.setF (k : Int)
  have f3' := Bx.soft l2 3
  have l3 : LB _ g p n k ((k : Int) - 1) 0 := l2.setL ((k : Int) - 1)
  have HT3 : Hid (Turn (fun i => i = g) w ((w1.setCell ⟨g, 2, none⟩ (.int .i64 k)).setCell ⟨g, 3, none⟩ (.int .i64 ((k : Int) - 1)))) := Lib.hid (((Turn.ofBelow b1).trans (turn_set _ g 2 _)).trans (turn_set _ g 3 _))
  have HL3 := Lib.hid l3
  clear l2 l3 l1 b1 HBD f2 c2 c3 hglt
  go_wp2
  go_loopw [3] (fun v3 wr => ∃ (j : Nat) (xs : List Ev) (X z : Int), j ≤ segs.length ∧ Hid (LdI w g p n k segs j v3 wr xs X z)) (fun _ wr => (k + segs.length) - (match wr.cell? ⟨g, 3, none⟩ with | some u => (RowKit.intOf u).toNat | none => 0))
  case atStart => exact ⟨0, [], (k : Int) - 1, 0, by omega, Lib.hid (LdI.start HL3.out w HT3.out rfl)⟩
  case round =>
    obtain ⟨j, xs, X, z, hj, HI⟩ := hrel
    obtain ⟨ow, hes, lb, hx, hzz, tn⟩ := HI.out
    have HTN := Lib.hid tn
    have HOW := Lib.hid ow
    have HES := Lib.hid hes
    have HLB1 := Lib.hid lb
    have hlt := lb.lt
    obtain ⟨c0, c1, c2, c3, c4⟩ := lb.cells
    have hX0 : 0 ≤ X := by omega
    have hX1 : X ≤ 200 := by omega
    have HN := Lib.hid (nname_c wr g p n k X z lb (by omega) (k + j) (by omega))
    have hsz0 := tn.size
    have HX := Lib.hid hx
    have hcX : wr.cell? ⟨g, 3, none⟩ = some (.int .i64 X) := c3
    have HCX := Lib.hid hcX
    clear hcX
    have HZZ := Lib.hid hzz
    clear tn ow hes lb HI hzz
    obtain ⟨adx, capx, rfl, hxc, _⟩ := HOW.out.er
    by_cases hjl : j < segs.length
    · have hjF : j < (segs.map segF ++ [(tb, tf)]).length := by simp; omega
      have hlk : lookP (nmS n (k + j)).data.toList (filesN n k (segs.map segF ++ [(tb, tf)])) = some (rowsE segs[j].1, segs[j].2) := by
        rw [nm_list, look_at n k _ (by simp; omega) j hjF]
        simp [hjl, segF]
      obtain ⟨gd, gn⟩ := HGD.out segs[j] (List.getElem_mem hjl)
      have hrd : readE (rowsE segs[j].1) n = (segs[j].1, (rowsE segs[j].1).length) := read_all gd
      have hpos := rowsE_pos gn
      have hfl : flatS (segs.take (j + 1)) = flatS (segs.take j) ++ segs[j].1 := by
        rw [List.take_succ_eq_append_getElem hjl, flatS_app]
        simp [flatS]
      have hlz : lastZ (segs.take (j + 1)) = ((rowsE segs[j].1).length : Int) := by
        rw [List.take_succ_eq_append_getElem hjl, lastZ_app]
      have hcount : (flatS (segs.take (j + 1))).length ≤ 100000 := by
        have h1 := flatS_len (segs.take (j + 1))
        have h2 := sumF_app ((segs.take (j + 1)).map segF) ((segs.drop (j + 1)).map segF)
        rw [← List.map_append, List.take_append_drop] at h2
        have h3 := HUS.out
        rw [sumF_app] at h3
        omega
      have hbytes : (rowsE segs[j].1).length ≤ 100000 := by
        have h2 := sumF_app ((segs.take j).map segF) ((segs.drop j).map segF)
        rw [← List.map_append, List.take_append_drop, List.drop_eq_getElem_cons hjl, List.map_cons] at h2
        have h3 := HUS.out
        rw [sumF_app] at h3
        simp only [sumF, segF] at h2
        omega
      have hJ := Lib.hid hjl
      have hlx : xs.length + segs[j].1.length ≤ 100000 := by
        have e := congrArg List.length HES.out
        rw [List.length_map] at e
        rw [hfl, List.length_append] at hcount
        omega
      have HRDE := Lib.hid hrd
      have HFL := Lib.hid hfl
      have HLZ := Lib.hid hlz
      have hokB := rowsE_ok segs[j].1
      generalize segs[j] = S at hlk hrd HRDE hpos HFL HLZ hbytes hlx hokB
      obtain ⟨sl, sy⟩ := S
      simp only at hlk hrd HRDE hpos HFL HLZ hbytes hlx hokB
      have HBn : Hid (12 ≤ (rowsE sl).length) := Lib.hid hpos
      have CR : Hid (∀ W, Turn (fun i => i = g) w W → Calls Tryz.prog 47 #[.pointer (some ⟨p, 0, none⟩), .string (nmS n (k + j))] W fun e w' => ∃ A C, e = .returned (.tuple #[.slice A (rowsE sl).length C, .int .i64 0]) ∧ BRow w' W.heap.size (.slice A (rowsE sl).length C) (rowsE sl) ∧ Below W.heap.size W w') := Lib.hid (fun W hW => dRead (HDW.out W hW) _ (nm_le _ _) _ _ hlk)
      have CS : Hid (∀ W v, Turn (fun i => i = g) w W → Bc W v (rowsE sl) → Calls Tryz.prog 48 #[v, .int .i64 (n : Int)] W (readT8 (rowsE sl) n W)) := Lib.hid (fun W v hW hv => reade_c (rowsE sl) v n W hv hokB (by omega) (HT.out W hW))
      unfold readT8 at CS
      rw [hrd] at CS
      clear hlk hrd hfl hlz hcount hokB gd gn
      obtain ⟨Bs, hBs⟩ : ∃ Bs, Bs = rowsE sl := ⟨_, rfl⟩
      have HBS := Lib.hid hBs
      rw [← hBs] at CR CS hpos hbytes
      have hz1 : ((Bs.length : Int) == 0) = false := by simp; intro e; rw [e] at hpos; simp at hpos
      clear hBs
      go_wp2_with fail
      refine HN.out.mono ?_
      rintro e w2 ⟨rfl, b2⟩
      have l2 := HLB1.out.below b2
      have t2 := HTN.out.bel b2
      have hlt2 := l2.lt
      obtain ⟨d0, d1, d2, d3, d4⟩ := l2.cells
      have HT2 := Lib.hid t2
      have HL2 := Lib.hid l2
      have HB2 := Lib.hid b2
      clear b2 l2 t2 HN c0 c1 c2 c3 c4
      go_wp2_with fail
      refine (CR.out w2 HT2.out).mono ?_
      rintro e w3 ⟨A3, C3, rfl, r3, b3⟩
      have l3 := HL2.out.below b3
      have hlt3 := l3.lt
      have HL3' := Lib.hid l3
      have HT3' := Lib.hid (HT2.out.bel b3)
      have HR3 := Lib.hid r3
      have HB3 := Lib.hid b3
      clear d0 d1 d2 d3 d4
      obtain ⟨d0, d1, d2, d3, d4⟩ := l3.cells
      clear b3 l3 r3 CR HL2 HT2
      go_wp2_with fail
      refine (CS.out w3 _ HT3'.out HR3.out.bc).mono ?_
      rintro e w4 ⟨v4, ys, rfl, hys, oy, b4⟩
      have l4 := HL3'.out.below b4
      have hlt4 := l4.lt
      clear d0 d1 d2 d3 d4
      obtain ⟨d0, d1, d2, d3, d4⟩ := l4.cells
      have HOW4 := Lib.hid (((HOW.out.below HB2.out).below HB3.out).below b4)
      have s2 := HB2.out.size
      have s3 := HB3.out.size
      have s4 := b4.size
      have HT4 := Lib.hid (HT3'.out.bel b4)
      have HOY := Lib.hid oy
      have HYS := Lib.hid hys
      obtain ⟨ady, capy, rfl, hyc, _⟩ := oy.er
      have hly : ys.length = sl.length := by have := congrArg List.length hys; simpa using this
      obtain ⟨A5, N5, C5, w5, run5, row5, g5, _⟩ := eapp_run xs ys (.slice adx xs.length capx) (.slice ady ys.length capy) w4 22 w.heap.size HOW4.out.row oy.er (by omega) (by omega)
      have hlx5 : ∀ x, (Value.slice adx xs.length capx).ownBlock = some x → w.heap.size ≤ x := fun x hx => (World.ownsRow.lt HOW4.out.row x hx).1
      have hgl := HGL.out
      have HOW5 : Hid (EOwn w5 w.heap.size (.slice A5 N5 C5) (xs ++ ys)) := Lib.hid (EOwn.app HOW4.out HOY.out (by omega) (fun u hu y hy => by have := (HOW.out.lt.2 u hu y hy).2; omega) row5 g5)
      have l5 : LB w5 g p n k X z := Bx.far l4 g5 (fun e => by have := hlx5 g e.symm; omega)
      have HT5 := Lib.hid (HT4.out.grown g5 hlx5)
      have hlt5 := l5.lt
      have f3 := Bx.soft l5 3
      have e3 := l5.cells.2.2.2.1
      have e4 := l5.cells.2.2.2.2
      have l6 := l5.setL (X + 1)
      have f4 := Bx.soft l6 4
      have e4' := l6.cells.2.2.2.2
      have hlt6 := l6.lt
      have l7 := l6.setZ (Bs.length : Int)
      have HL7 := Lib.hid l7
      have HR5 := Lib.hid run5
      have HL7b := Lib.hid (l7.cells.1)
      clear run5 row5 g5 l4 oy hys b4 CS HL3' l5 l6 l7 hly hyc d0 d1 d2 d3 d4
      have hwX : X + 1 ≤ 300 := by omega
      clear hx
      go_wp2_with (at_builtin; refine wpList_append_run rfl _ _ 22 rfl _ _ HR5.out ?_; clear HR5)
      go_roundw
      case rel => exact ⟨j + 1, xs ++ ys, X + 1, (Bs.length : Int), hJ.out, Lib.hid ⟨(HOW5.out.gset hgl 3 _).gset hgl 4 _, by rw [List.map_append, HES.out, HFL.out, HYS.out], HL7.out, by have := HX.out; omega, by rw [HLZ.out, HBS.out], (HT5.out.trans (turn_set _ g 3 _)).trans (turn_set _ g 4 _)⟩⟩
      case measure =>
        rw [HCX.out, HL7.out.cells.2.2.2.1]
        have := HX.out
        have := hJ.out
        simp only [RowKit.intOf]
        omega
    · obtain rfl : j = segs.length := by omega
      have hlk : lookP (nmS n (k + segs.length)).data.toList (filesN n k (segs.map segF ++ [(tb, tf)])) = some (tb, tf) := by
        rw [nm_list]
        have := look_mid n (segs.map segF) (tb, tf) [] k (by simp; omega)
        rwa [List.length_map] at this
      have hbl : tb.length ≤ 100000 := by
        have h3 := HUS.out
        rw [sumF_app] at h3
        simp only [sumF] at h3
        omega
      have CR : Hid (∀ W, Turn (fun i => i = g) w W → Calls Tryz.prog 47 #[.pointer (some ⟨p, 0, none⟩), .string (nmS n (k + segs.length))] W fun e w' => ∃ A C, e = .returned (.tuple #[.slice A tb.length C, .int .i64 0]) ∧ BRow w' W.heap.size (.slice A tb.length C) tb ∧ Below W.heap.size W w') := Lib.hid (fun W hW => dRead (HDW.out W hW) _ (nm_le _ _) _ _ hlk)
      have CS : Hid (∀ W v, Turn (fun i => i = g) w W → Bc W v tb → Calls Tryz.prog 48 #[v, .int .i64 (n : Int)] W (readT8 tb n W)) := Lib.hid (fun W v hW hv => reade_c tb v n W hv htb (by omega) (HT.out W hW))
      unfold readT8 at CS
      rw [hrd] at CS
      clear hlk
      go_wp2_with fail
      refine HN.out.mono ?_
      rintro e w2 ⟨rfl, b2⟩
      have l2 := HLB1.out.below b2
      have hlt2 := l2.lt
      have HT2 := Lib.hid (HTN.out.bel b2)
      have HL2 := Lib.hid l2
      have HB2 := Lib.hid b2
      clear c0 c1 c2 c3 c4
      obtain ⟨c0, c1, c2, c3, c4⟩ := l2.cells
      clear b2 l2
      go_wp2_with fail
      refine (CR.out w2 HT2.out).mono ?_
      rintro e w3 ⟨A3, C3, rfl, r3, b3⟩
      have l3 := HL2.out.below b3
      have hlt3 := l3.lt
      have HT3 := Lib.hid (HT2.out.bel b3)
      have HL3 := Lib.hid l3
      have HB3 := Lib.hid b3
      have HR3 := Lib.hid r3
      clear c0 c1 c2 c3 c4
      obtain ⟨c0, c1, c2, c3, c4⟩ := l3.cells
      clear b3 l3 r3
      go_wp2_with fail
      refine (CS.out w3 _ HT3.out HR3.out.bc).mono ?_
      rintro e w4 ⟨v4, ys, rfl, hys, oy, b4⟩
      obtain ⟨ady, capy, rfl, hyc, _⟩ := oy.er
      have HOW4 := Lib.hid (((HOW.out.below HB2.out).below HB3.out).below b4)
      have l4 := HL3.out.below b4
      have hlt4 := l4.lt
      have s2 := HB2.out.size
      have s3 := HB3.out.size
      have s4 := b4.size
      have HT4 := Lib.hid (HT3.out.bel b4)
      have HOY := Lib.hid oy
      have HYS := Lib.hid hys
      have hly : ys.length ≤ tb.length + 1 := by
        have e := congrArg List.length hys
        rw [List.length_map] at e
        have := (rdE_may tb n (tb.length + 1) 0 true).2
        have e3 : (rdE tb n (tb.length + 1) 0 true).1 = R := by
          have := congrArg Prod.fst hrd
          exact this
        rw [e3] at this
        omega
      have hlx : xs.length ≤ 100000 := by
        have e := congrArg List.length HES.out
        rw [List.length_map, List.take_length] at e
        have h1 := flatS_len segs
        have h3 := HUS.out
        rw [sumF_app] at h3
        omega
      obtain ⟨A5, N5, C5, w5, run5, row5, g5, _⟩ := eapp_run xs ys (.slice adx xs.length capx) (.slice ady ys.length capy) w4 22 w.heap.size HOW4.out.row oy.er (by omega) (by omega)
      have hlx5 : ∀ x, (Value.slice adx xs.length capx).ownBlock = some x → w.heap.size ≤ x := fun x hx => (World.ownsRow.lt HOW4.out.row x hx).1
      have hgl := HGL.out
      have HOW5 : Hid (EOwn w5 w.heap.size (.slice A5 N5 C5) (xs ++ ys)) := Lib.hid (EOwn.app HOW4.out HOY.out (by omega) (fun u hu y hy => by have := (HOW.out.lt.2 u hu y hy).2; omega) row5 g5)
      have l5 : LB w5 g p n k X z := Bx.far l4 g5 (fun e => by have := hlx5 g e.symm; omega)
      have HT5 := Lib.hid (HT4.out.grown g5 hlx5)
      have hlt5 := l5.lt
      have f3 := Bx.soft l5 3
      have e3 := l5.cells.2.2.2.1
      have l6 := l5.setL (X + 1)
      have f4 := Bx.soft l6 4
      have e4' := l6.cells.2.2.2.2
      have l7 := l6.setZ (tz : Int)
      have hlt7 := l7.lt
      have HL7 := Lib.hid l7
      have HR5 := Lib.hid run5
      have t7 := (HT5.out.trans (turn_set _ g 3 (.int .i64 (X + 1)))).trans (turn_set _ g 4 (.int .i64 (tz : Int)))
      have HT7 := Lib.hid t7
      have ow7 := (HOW5.out.gset hgl 3 (.int .i64 (X + 1))).gset hgl 4 (.int .i64 (tz : Int))
      have HOW7 := Lib.hid ow7
      have g0 := l7.cells.1
      have HCUT : Hid (Calls Tryz.prog 49 #[.pointer (some ⟨p, 0, none⟩), .string (nmS n (k + segs.length)), .int .i64 (tz : Int)] _ fun e w' => e = .returned (.int .i64 0) ∧ ∃ own', Dr w' p (updP (nmS n (k + segs.length)).data.toList (tb.take tz, tz) (filesN n k (segs.map segF ++ [(tb, tf)]))) m own' ∧ Step ((w5.setCell ⟨g, 3, none⟩ (.int .i64 (X + 1))).setCell ⟨g, 4, none⟩ (.int .i64 (tz : Int))) own w' own') := Lib.hid (dCut (HDW.out _ t7) _ (nm_le _ _) tb tf (by
        rw [nm_list]
        have := look_mid n (segs.map segF) (tb, tf) [] k (by simp; omega)
        rwa [List.length_map] at this) tz (by omega))
      have hupd : updP (nmS n (k + segs.length)).data.toList (tb.take tz, tz) (filesN n k (segs.map segF ++ [(tb, tf)])) = filesN n k (segs.map segF ++ [(tb.take tz, tz)]) := by
        rw [nm_list]
        have := upd_mid n (segs.map segF) (tb, tf) (tb.take tz, tz) [] k (by simp; omega)
        rwa [List.length_map] at this
      rw [hupd] at HCUT
      clear run5 row5 g5 l4 oy hys b4 CS CR l5 l6 l7 t7 ow7 hly hyc c0 c1 c2 c3 c4 hupd
      have hwX : X + 1 ≤ 300 := by omega
      clear hx
      go_wp2_with (first | (at_builtin; refine wpList_append_run rfl _ _ 22 rfl _ _ HR5.out ?_; clear HR5) | fail)
      refine HCUT.out.mono ?_
      rintro e w8 ⟨rfl, own', hd8, hs8⟩
      have HD8 := Lib.hid hd8
      have HS8 := Lib.hid hs8
      clear hd8 hs8
      go_wp2
      go_ret
      have hgn : ¬ own' g := HS8.out.not HG.out hlt7
      refine ⟨_, xs ++ ys, own', rfl, HOW7.out.turn HS8.out.turn (HOW7.out.no (fun i hi => HUP.out i hi)), by rw [List.map_append, HES.out, HYS.out, List.take_length], ?_, HD8.out, (Step.ofTurn (HT7.out.wide (fun i _ hi => .inr hi))).trans (HS8.out.plus g), hgn, (EK.step ⟨HOW7.out, HOW7.out.no (fun i hi => HUP.out i hi)⟩ HS8.out).2⟩
      have e1 : X + 1 = (k : Int) + (segs.length : Int) := by have := HX.out; omega
      rw [← e1]
      exact HL7.out.turn HS8.out.turn HG.out

end Go.Proofs.YtjmkphnppegegaaGreatDoor
/-
  clear and begin by contract; put of entries just laid into a list.
-/
namespace Go.Proofs.YtjmkphnppegegaaGreatDoor
open Go.RowKit Go.Lib
set_option maxRecDepth 100000

theorem Er.one (W : World) (x : Ev) (T : TypeId) (ha : Nl W x.a x.e.v) (hb : Nl W x.b x.e.w) : Er (W.alloc (.cells #[.int .i64 x.e.k, x.a, x.b, .int .i64 x.e.r.o, .int .i64 x.e.r.s, .int .i64 x.e.r.w, .int .i64 x.e.r.c, .string x.e.r.t] T)) (.slice (some ⟨W.heap.size, 0, none⟩) 1 1) [x] := by
  refine ⟨_, 1, rfl, by simp, fun _ => ⟨W.heap.size, 0, rfl, fun k hk => ?_⟩⟩
  have hal := alloc_below W (.cells #[.int .i64 x.e.k, x.a, x.b, .int .i64 x.e.r.o, .int .i64 x.e.r.s, .int .i64 x.e.r.w, .int .i64 x.e.r.c, .string x.e.r.t] T)
  match k, hk with
  | 0, _ =>
    have hx := Bx.new T W #[.int .i64 x.e.k, x.a, x.b, .int .i64 x.e.r.o, .int .i64 x.e.r.s, .int .i64 x.e.r.w, .int .i64 x.e.r.c, .string x.e.r.t]
    exact ⟨⟨hx.cell 0, hx.cell 1, hx.cell 2, hx.cell 3, hx.cell 4, hx.cell 5, hx.cell 6, hx.cell 7⟩, ha.below hal, hb.below hal⟩
theorem Er.two (W : World) (x y : Ev) (T : TypeId) (ha : Nl W x.a x.e.v) (hb : Nl W x.b x.e.w) (ha' : Nl W y.a y.e.v) (hb' : Nl W y.b y.e.w) :
    Er (W.alloc (.cells #[.int .i64 x.e.k, x.a, x.b, .int .i64 x.e.r.o, .int .i64 x.e.r.s, .int .i64 x.e.r.w, .int .i64 x.e.r.c, .string x.e.r.t, .int .i64 y.e.k, y.a, y.b, .int .i64 y.e.r.o, .int .i64 y.e.r.s, .int .i64 y.e.r.w, .int .i64 y.e.r.c, .string y.e.r.t] T)) (.slice (some ⟨W.heap.size, 0, none⟩) 2 2) [x, y] := by
  refine ⟨_, 2, rfl, by simp, fun _ => ⟨W.heap.size, 0, rfl, fun k hk => ?_⟩⟩
  have hal := alloc_below W (.cells #[.int .i64 x.e.k, x.a, x.b, .int .i64 x.e.r.o, .int .i64 x.e.r.s, .int .i64 x.e.r.w, .int .i64 x.e.r.c, .string x.e.r.t, .int .i64 y.e.k, y.a, y.b, .int .i64 y.e.r.o, .int .i64 y.e.r.s, .int .i64 y.e.r.w, .int .i64 y.e.r.c, .string y.e.r.t] T)
  have hx := Bx.new T W #[.int .i64 x.e.k, x.a, x.b, .int .i64 x.e.r.o, .int .i64 x.e.r.s, .int .i64 x.e.r.w, .int .i64 x.e.r.c, .string x.e.r.t, .int .i64 y.e.k, y.a, y.b, .int .i64 y.e.r.o, .int .i64 y.e.r.s, .int .i64 y.e.r.w, .int .i64 y.e.r.c, .string y.e.r.t]
  match k, hk with
  | 0, _ => exact ⟨⟨hx.cell 0, hx.cell 1, hx.cell 2, hx.cell 3, hx.cell 4, hx.cell 5, hx.cell 6, hx.cell 7⟩, ha.below hal, hb.below hal⟩
  | 1, _ => exact ⟨⟨hx.cell 8, hx.cell 9, hx.cell 10, hx.cell 11, hx.cell 12, hx.cell 13, hx.cell 14, hx.cell 15⟩, ha'.below hal, hb'.below hal⟩
theorem putT.back {w W : World} {g p n K m : Nat} {f L z : Int} {P : List Pf} {own : Nat → Prop} {es : List En} {x : Ending} {w' : World} (h : putT W g p n K m f L z P own es x w') (hb : Below w.heap.size w W) : putT w g p n K m f L z P own es x w' :=
  ⟨fun hf => by
    obtain ⟨h1, own', h2, h3, h4, h5⟩ := h.1 hf
    exact ⟨h1, own', h2, h3.beside hb, h4, h5⟩, fun hf => ⟨(h.2 hf).1, bn hb (h.2 hf).2⟩⟩
theorem putOne (W : World) (T : TypeId) (g p n K m : Nat) (f L z : Int) (P : List Pf) (own : Nat → Prop) (x : Ev) (h : LB W g p n f L z) (hd : Dr W p P m own) (hg : ¬ own g) (hn : n ≤ 8) (hK : K < 100) (hL : P.length ≤ 1000) (ha : Nl W x.a x.e.v) (hb : Nl W x.b x.e.w) (hs : someE x.e = true) (hz : 0 ≤ z ∧ z ≤ 1048576) (hT : Tabs W) :
    Calls Tryz.prog 36 #[.pointer (some ⟨g, 0, none⟩), .int .i64 (K : Int), .slice (some ⟨W.heap.size, 0, none⟩) 1 1] (W.alloc (.cells #[.int .i64 x.e.k, x.a, x.b, .int .i64 x.e.r.o, .int .i64 x.e.r.s, .int .i64 x.e.r.w, .int .i64 x.e.r.c, .string x.e.r.t] T)) (putT W g p n K m f L z P own [x.e]) := by
  have hal := alloc_below W (.cells #[.int .i64 x.e.k, x.a, x.b, .int .i64 x.e.r.o, .int .i64 x.e.r.s, .int .i64 x.e.r.w, .int .i64 x.e.r.c, .string x.e.r.t] T)
  refine (lput_c _ g p n K m f L z P own [x] _ (h.below hal) (hd.below hal) hg hn hK hL (Er.one W x T ha hb) (by simp) (fun y hy => ?_) hz (hT.below hal)).mono ?_
  · rw [List.mem_singleton] at hy
    subst hy
    exact hs
  · intro e w' hh
    exact hh.back hal
theorem putTwo (W : World) (T : TypeId) (g p n K m : Nat) (f L z : Int) (P : List Pf) (own : Nat → Prop) (x y : Ev) (h : LB W g p n f L z) (hd : Dr W p P m own) (hg : ¬ own g) (hn : n ≤ 8) (hK : K < 100) (hL : P.length ≤ 1000) (ha : Nl W x.a x.e.v) (hb : Nl W x.b x.e.w) (hs : someE x.e = true) (ha' : Nl W y.a y.e.v) (hb' : Nl W y.b y.e.w) (hs' : someE y.e = true) (hz : 0 ≤ z ∧ z ≤ 1048576) (hT : Tabs W) :
    Calls Tryz.prog 36 #[.pointer (some ⟨g, 0, none⟩), .int .i64 (K : Int), .slice (some ⟨W.heap.size, 0, none⟩) 2 2] (W.alloc (.cells #[.int .i64 x.e.k, x.a, x.b, .int .i64 x.e.r.o, .int .i64 x.e.r.s, .int .i64 x.e.r.w, .int .i64 x.e.r.c, .string x.e.r.t, .int .i64 y.e.k, y.a, y.b, .int .i64 y.e.r.o, .int .i64 y.e.r.s, .int .i64 y.e.r.w, .int .i64 y.e.r.c, .string y.e.r.t] T)) (putT W g p n K m f L z P own [x.e, y.e]) := by
  have hal := alloc_below W (.cells #[.int .i64 x.e.k, x.a, x.b, .int .i64 x.e.r.o, .int .i64 x.e.r.s, .int .i64 x.e.r.w, .int .i64 x.e.r.c, .string x.e.r.t, .int .i64 y.e.k, y.a, y.b, .int .i64 y.e.r.o, .int .i64 y.e.r.s, .int .i64 y.e.r.w, .int .i64 y.e.r.c, .string y.e.r.t] T)
  refine (lput_c _ g p n K m f L z P own [x, y] _ (h.below hal) (hd.below hal) hg hn hK hL (Er.two W x y T ha hb ha' hb') (by simp) (fun u hu => ?_) hz (hT.below hal)).mono ?_
  · simp only [List.mem_cons, List.not_mem_nil, or_false] at hu
    rcases hu with rfl | rfl
    · exact hs
    · exact hs'
  · intro e w' hh
    exact hh.back hal

set_option maxHeartbeats 8000000 in
theorem clear_no_c (w : World) (g p n k m : Nat) (z : Int) (F : List (List Int × Nat)) (own : Nat → Prop) (h : LB w g p n k ((k : Int) + (F.length : Int) - 1) z) (hd : Dr w p (filesN n k F) m own) (hn : n ≤ 8) (hk0 : 1 ≤ k) (hk : k + F.length ≤ 100) :
    Calls Tryz.prog 32 #[.pointer (some ⟨g, 0, none⟩)] w fun e w' => e = .returned (.tuple #[]) ∧ Below w.heap.size w w' := by
  obtain ⟨X, hX⟩ : ∃ X, X = (k : Int) + (F.length : Int) - 1 := ⟨_, rfl⟩
  rw [← hX] at h
  obtain ⟨c0, c1, _⟩ := h.cells
  have hlt := h.lt
  have HN := Lib.hid (fNames hd (by omega))
  have HLB := Lib.hid h
  have CN : Hid (∀ W j, Below w.heap.size w W → j < F.length → Calls Tryz.prog 51 #[.pointer (some ⟨g, 0, none⟩), .string (nmS n (k + j))] W fun e w' => e = .returned (.tuple #[.int .i64 ((k + j : Nat) : Int), .bool true]) ∧ Below W.heap.size W w') := Lib.hid (fun W j hW hj => number_c W g p n k X z (HLB.out.below hW) (by omega) (k + j) (by omega) (by omega))
  have HX := Lib.hid hX
  clear h hd hX
  go_enter Tryz.func32, Tryz.ntmps32
  go_wp2_with fail
  refine HN.out.mono ?_
  rintro e w1 ⟨v, rfl, hnm, b1⟩
  have HM := Lib.hid hnm
  have HB1 := Lib.hid b1
  obtain ⟨ad, cap, rfl, _⟩ := hnm
  clear b1 HN c0 c1 hlt
  go_wp2
  go_loopw [12] (fun v12 wr => ∃ j : Nat, j ≤ F.length ∧ v12 = .int .i64 (j : Int) ∧ Hid (Below w1.heap.size w1 wr)) (fun v12 _ => F.length - (RowKit.intOf v12).toNat)
  case atStart => exact ⟨0, by omega, rfl, Lib.hid (Below.refl _ _)⟩
  case round =>
    obtain ⟨j, hj, rfl, HB⟩ := hrel
    by_cases hjl : j < F.length
    · obtain ⟨ad2, cap2, e2, hs2⟩ := HM.out.below HB.out
      cases e2
      obtain ⟨b, _, rfl, hc⟩ := hs2 (by omega)
      have ck := hc j hjl
      have HC := Lib.hid (CN.out wr j (bn HB1.out HB.out) hjl)
      have hJ := Lib.hid hjl
      have hltb := World.block_lt_of_cell? _ _ ck
      obtain ⟨Y, hY⟩ : ∃ Y : Int, Y = ((k + j : Nat) : Int) := ⟨_, rfl⟩
      have t1 : ¬ (Y < (k : Int)) := by omega
      have t2 : ¬ (X < Y) := by have := HX.out; omega
      rw [← hY] at HC
      clear hs2 hc hY
      go_wp2_with fail
      refine HC.out.mono ?_
      rintro e w2 ⟨rfl, b2⟩
      have HB2 := Lib.hid (bn HB.out b2)
      have l2 := HLB.out.below (bn HB1.out HB2.out)
      have hlt2 := l2.lt
      obtain ⟨_, _, c2, c3, _⟩ := l2.cells
      clear b2 HC l2
      go_wp2
      all_goals
        try go_quiet (fail)
        try go_wp2
        go_roundw
        case rel => exact ⟨j + 1, hJ.out, by go_num, Lib.hid (by first | exact HB2.out | exact below_drewN HB2.out _)⟩
        case measure => have := hJ.out; simp [RowKit.intOf]; omega
    · obtain rfl : j = F.length := by omega
      go_wp2
      go_end0
      exact ⟨rfl, bn HB1.out HB.out⟩
end Go.Proofs.YtjmkphnppegegaaGreatDoor
/-
  clear by contract where the last file is not taken over; begin.
-/
namespace Go.Proofs.YtjmkphnppegegaaGreatDoor
open Go.RowKit Go.Lib
set_option maxRecDepth 100000

set_option maxHeartbeats 8000000 in
theorem clear_one_c (w : World) (g p n k m : Nat) (z : Int) (F : List (List Int × Nat)) (tl : List Int × Nat) (own : Nat → Prop) (h : LB w g p n k ((k : Int) + (F.length : Int) - 1) z) (hd : Dr w p (filesN n k (F ++ [tl])) m own) (hn : n ≤ 8) (hk0 : 1 ≤ k) (hk : k + (F.length + 1) ≤ 100) :
    Calls Tryz.prog 32 #[.pointer (some ⟨g, 0, none⟩)] w fun e w' => e = .returned (.tuple #[]) ∧ ∃ own', Dr w' p (filesN n k F) m own' ∧ Step w own w' own' := by
  obtain ⟨X, hX⟩ : ∃ X, X = (k : Int) + (F.length : Int) - 1 := ⟨_, rfl⟩
  rw [← hX] at h
  obtain ⟨c0, c1, _⟩ := h.cells
  have hlt := h.lt
  have HN := Lib.hid (fNames hd (by simp; omega))
  have hlen : (F ++ [tl]).length = F.length + 1 := by simp
  rw [hlen] at HN
  have HLB := Lib.hid h
  have CN : Hid (∀ W j, Below w.heap.size w W → j < F.length + 1 → Calls Tryz.prog 51 #[.pointer (some ⟨g, 0, none⟩), .string (nmS n (k + j))] W fun e w' => e = .returned (.tuple #[.int .i64 ((k + j : Nat) : Int), .bool true]) ∧ Below W.heap.size W w') := Lib.hid (fun W j hW hj => number_c W g p n k X z (HLB.out.below hW) (by omega) (k + j) (by omega) (by omega))
  have CR : Hid (∀ W, Below w.heap.size w W → Calls Tryz.prog 45 #[.pointer (some ⟨p, 0, none⟩), .string (nmS n (k + F.length))] W fun e w' => e = .returned (.int .i64 0) ∧ Hid (∃ own', Dr w' p (filesN n k F) m own' ∧ Step w own w' own')) := Lib.hid (fun W hW => by
    refine (dRemove (hd.below hW) _ (nm_le _ _) tl.1 tl.2 (by rw [nm_list, look_mid n F tl [] k (by omega)])).mono ?_
    rintro e w' ⟨rfl, own', h1, h2⟩
    rw [nm_list, del_last n F tl k (by omega)] at h1
    exact ⟨rfl, Lib.hid ⟨own', h1, h2.beside hW⟩⟩)
  have HUP : Hid (∀ i, own i → i < w.heap.size) := Lib.hid (fun i hi => hd.up hi)
  have HX := Lib.hid hX
  clear h hd hX
  go_enter Tryz.func32, Tryz.ntmps32
  go_wp2_with fail
  refine HN.out.mono ?_
  rintro e w1 ⟨v, rfl, hnm, b1⟩
  have HM := Lib.hid hnm
  have HB1 := Lib.hid b1
  obtain ⟨ad, cap, rfl, _⟩ := hnm
  clear b1 HN c0 c1 hlt
  go_wp2
  go_loopw [12] (fun v12 wr => ∃ j : Nat, j ≤ F.length + 1 ∧ v12 = .int .i64 (j : Int) ∧ Hid (j ≤ F.length → Below w1.heap.size w1 wr) ∧ Hid (F.length < j → ∃ own', Dr wr p (filesN n k F) m own' ∧ Step w own wr own')) (fun v12 _ => F.length + 1 - (RowKit.intOf v12).toNat)
  case atStart => exact ⟨0, by omega, rfl, Lib.hid (fun _ => Below.refl _ _), Lib.hid (fun h => by omega)⟩
  case round =>
    obtain ⟨j, hj, rfl, HB, HDn⟩ := hrel
    by_cases hjl : j < F.length + 1
    · have hb0 := HB.out (by omega)
      have HB0 := Lib.hid hb0
      obtain ⟨ad2, cap2, e2, hs2⟩ := HM.out.below hb0
      cases e2
      obtain ⟨b, _, rfl, hc⟩ := hs2 (by omega)
      have ck := hc j hjl
      have HC := Lib.hid (CN.out wr j (bn HB1.out hb0) hjl)
      have hltb := World.block_lt_of_cell? _ _ ck
      clear hs2 hc hb0
      by_cases hjF : j < F.length
      · have hJ := Lib.hid hjF
        obtain ⟨Y, hY⟩ : ∃ Y : Int, Y = ((k + j : Nat) : Int) := ⟨_, rfl⟩
        have t1 : ¬ (Y < (k : Int)) := by omega
        have t2 : ¬ (X < Y) := by have := HX.out; omega
        rw [← hY] at HC
        clear hY
        go_wp2_with fail
        refine HC.out.mono ?_
        rintro e w2 ⟨rfl, b2⟩
        have HB2 := Lib.hid (bn HB0.out b2)
        have l2 := HLB.out.below (bn HB1.out HB2.out)
        have hlt2 := l2.lt
        obtain ⟨_, _, c2, c3, _⟩ := l2.cells
        clear b2 HC l2
        go_wp2
        all_goals
          try go_quiet (fail)
          try go_wp2
          go_roundw
          case rel => exact ⟨j + 1, by have := hJ.out; omega, by go_num, Lib.hid (fun _ => by first | exact HB2.out | exact below_drewN HB2.out _), Lib.hid (fun h => by have := hJ.out; omega)⟩
          case measure => have := hJ.out; simp [RowKit.intOf]; omega
      · obtain rfl : j = F.length := by omega
        obtain ⟨Y, hY⟩ : ∃ Y : Int, Y = ((k + F.length : Nat) : Int) := ⟨_, rfl⟩
        have t1 : ¬ (Y < (k : Int)) := by omega
        have t2 : X < Y := by have := HX.out; omega
        rw [← hY] at HC
        clear hY
        go_wp2_with fail
        refine HC.out.mono ?_
        rintro e w2 ⟨rfl, b2⟩
        have HB2 := Lib.hid (bn HB1.out (bn HB0.out b2))
        have l2 := HLB.out.below HB2.out
        have hlt2 := l2.lt
        obtain ⟨c0, _, c2, c3, _⟩ := l2.cells
        clear b2 HC l2
        go_wp2_with fail
        all_goals
          try (go_quiet (fail); go_wp2_with fail)
          refine (CR.out _ (by first | exact HB2.out | exact below_drewN HB2.out _)).mono ?_
          rintro e w3 ⟨rfl, h3⟩
          go_wp2
          go_roundw
          case rel => exact ⟨F.length + 1, by omega, by go_num, Lib.hid (fun h => by omega), Lib.hid (fun _ => h3.out)⟩
          case measure => simp [RowKit.intOf]
    · obtain rfl : j = F.length + 1 := by omega
      go_wp2
      go_end0
      exact ⟨rfl, HDn.out (by omega)⟩

/-- What begin leaves on a drive without files. -/
def beginT (w : World) (g p n m : Nat) (own : Nat → Prop) (d : En) (x : Ending) (w' : World) : Prop :=
  ((layE d).length ≤ m → x = .returned (.int .i64 0) ∧ ∃ own', Dr w' p (filesN n 1 [(layE d, (layE d).length)]) m own' ∧ Step w (plusB own g) w' (plusB own' g) ∧ ¬ own' g ∧ LB w' g p n 1 1 ((layE d).length : Int)) ∧
  (m < (layE d).length → x = .returned (.int .i64 8) ∧ Turn (fun i => i = g) w w')
set_option maxHeartbeats 8000000 in
theorem begin_c (w : World) (g p n m : Nat) (f z : Int) (own : Nat → Prop) (d : En) (a b : Value) (h : LB w g p n f 0 z) (hd : Dr w p [] m own) (hg : ¬ own g) (hn : n ≤ 8) (ha : ∀ W, Turn (fun i => i = g) w W → Nl W a d.v) (hb : ∀ W, Turn (fun i => i = g) w W → Nl W b d.w) (hs : someE d = true) (hz : 0 ≤ z ∧ z ≤ 1048576) (hT : ∀ W, Turn (fun i => i = g) w W → Tabs W) :
    Calls Tryz.prog 31 #[.pointer (some ⟨g, 0, none⟩), .agg #[.int .i64 d.k, a, b, .int .i64 d.r.o, .int .i64 d.r.s, .int .i64 d.r.w, .int .i64 d.r.c, .string d.r.t]] w (beginT w g p n m own d) := by
  have HX := Lib.hid (Bx.new 43 w #[.int .i64 d.k, a, b, .int .i64 d.r.o, .int .i64 d.r.s, .int .i64 d.r.w, .int .i64 d.r.c, .string d.r.t])
  have hA := Lib.hid (alloc_below w (.cells #[.int .i64 d.k, a, b, .int .i64 d.r.o, .int .i64 d.r.s, .int .i64 d.r.w, .int .i64 d.r.c, .string d.r.t] 43))
  obtain ⟨W1, hW1⟩ : ∃ W1, W1 = w.alloc (.cells #[.int .i64 d.k, a, b, .int .i64 d.r.o, .int .i64 d.r.s, .int .i64 d.r.w, .int .i64 d.r.c, .string d.r.t] 43) := ⟨_, rfl⟩
  rw [← hW1] at HX hA
  have hglt := h.lt
  have hzW : W1.heap.size = w.heap.size + 1 := by rw [hW1]; simp
  have HLB := Lib.hid (h.below hA.out)
  have HBD := Lib.hid (bounds_c W1 g p n 1 m f 0 z [] own (h.below hA.out) (hd.below hA.out) (by omega) (by omega) (by simp))
  have e1 : bL 1 ([] : List (List Int × Nat)).length = 0 := rfl
  rw [e1] at HBD
  have HD := Lib.hid hd
  have HG := Lib.hid hg
  have HNA := Lib.hid ha
  have HNB := Lib.hid hb
  have HT := Lib.hid hT
  obtain ⟨ad1, cap1, rfl, _⟩ := (ha w (Turn.refl _ _)).form
  obtain ⟨ad2, cap2, rfl, _⟩ := (hb w (Turn.refl _ _)).form
  generalize bF 1 ([] : List (List Int × Nat)).length = FF at HBD
  clear h hd hg ha hb hT e1
  have hgne : g ≠ w.heap.size := by omega
  go_enter Tryz.func31, Tryz.ntmps31
  go_wp2_with fail
  rw [← hW1]
  clear hW1
  refine HBD.out.mono ?_
  rintro e w2 ⟨rfl, b2⟩
  have l2 := HLB.out.below b2
  have hlt2 := l2.lt
  have f2 := Bx.soft l2 2
  have c2 := l2.cells.2.2.1
  have l3 := l2.setF 1
  have x3 : Bx 43 (w2.setCell ⟨g, 2, none⟩ (.int .i64 1)) w.heap.size _ := Bx.setFar (HX.out.below b2) (p := ⟨g, 2, none⟩) (by simpa using hgne.symm) (.int .i64 1)
  obtain ⟨W3, hW3⟩ : ∃ W3, W3 = w2.setCell ⟨g, 2, none⟩ (.int .i64 1) := ⟨_, rfl⟩
  have T3 : Turn (fun i => i = g) w W3 := by rw [hW3]; exact (Turn.ofBelow (bn hA.out b2)).trans (turn_set w2 g 2 _)
  rw [← hW3] at l3 x3
  have HL3 := Lib.hid l3
  have HX3 := Lib.hid x3
  have HT3 := Lib.hid T3
  have HW3 := Lib.hid hW3
  clear hW3
  clear b2 l2 l3 x3 T3 HBD HLB HX
  have hltg := HL3.out.lt
  have hltx := HX3.out.lt
  have HS : Hid (∀ w' : World, Below W3.heap.size W3 w' → w'.cell? ⟨g, 2, none⟩ = some (.int .i64 1) ∧ w'.cell? ⟨w.heap.size, 0, none⟩ = some (.int .i64 d.k) ∧ w'.cell? ⟨w.heap.size, 1, none⟩ = some (.slice ad1 d.v.length cap1) ∧ w'.cell? ⟨w.heap.size, 2, none⟩ = some (.slice ad2 d.w.length cap2) ∧ w'.cell? ⟨w.heap.size, 3, none⟩ = some (.int .i64 d.r.o) ∧ w'.cell? ⟨w.heap.size, 4, none⟩ = some (.int .i64 d.r.s) ∧ w'.cell? ⟨w.heap.size, 5, none⟩ = some (.int .i64 d.r.w) ∧ w'.cell? ⟨w.heap.size, 6, none⟩ = some (.int .i64 d.r.c) ∧ w'.cell? ⟨w.heap.size, 7, none⟩ = some (.string d.r.t)) := Lib.hid (fun w' hb => ⟨(HL3.out.below hb).cells.2.2.1, (HX3.out.below hb).eight⟩)
  have HDW : Hid (Dr W3 p [] m own) := Lib.hid (HD.out.far HT3.out (fun i hi => hi ▸ HG.out))
  have HNA3 : Hid (Nl W3 (.slice ad1 d.v.length cap1) d.v ∧ Nl W3 (.slice ad2 d.w.length cap2) d.w) := Lib.hid ⟨HNA.out W3 HT3.out, HNB.out W3 HT3.out⟩
  have hW3' := HW3.out
  by_cases hf : (layE d).length ≤ m
  · have CP : Hid (∀ W T, Below W3.heap.size W3 W → Calls Tryz.prog 36 #[.pointer (some ⟨g, 0, none⟩), .int .i64 1, .slice (some ⟨W.heap.size, 0, none⟩) 1 1] (W.alloc (.cells #[.int .i64 d.k, .slice ad1 d.v.length cap1, .slice ad2 d.w.length cap2, .int .i64 d.r.o, .int .i64 d.r.s, .int .i64 d.r.w, .int .i64 d.r.c, .string d.r.t] T)) fun e w' => e = .returned (.int .i64 0) ∧ Hid (∃ own', Dr w' p (filesN n 1 [(layE d, 0)]) m own' ∧ Step W3 (plusB own g) w' (plusB own' g) ∧ ¬ own' g ∧ LB w' g p n 1 1 ((layE d).length : Int))) := Lib.hid (fun W T hW => by
      refine (putOne W T g p n 1 m 1 0 z [] own ⟨d, .slice ad1 d.v.length cap1, .slice ad2 d.w.length cap2⟩ (HL3.out.below hW) (HDW.out.below hW) HG.out hn (by omega) (by simp) (HNA3.out.1.below hW) (HNA3.out.2.below hW) hs hz (HT.out W (HT3.out.bel hW))).mono ?_
      intro e w' hh
      obtain ⟨h1, own', h2, h3, h4, h5⟩ := hh.1 (by rw [rowsE_one]; simpa [usedP] using hf)
      rw [rowsE_one] at h2 h5
      rw [if_neg (by decide)] at h5
      have e2 : appP (nameN n 1) (layE d) [] = filesN n 1 [(layE d, 0)] := app_new n [] (layE d) 1 (by simp)
      rw [e2] at h2
      exact ⟨h1, Lib.hid ⟨own', h2, h3.beside hW, h4, h5⟩⟩)
    have HT2 : Hid (∀ w', Hid (∃ own', Dr w' p (filesN n 1 [(layE d, 0)]) m own' ∧ Step W3 (plusB own g) w' (plusB own' g) ∧ ¬ own' g ∧ LB w' g p n 1 1 ((layE d).length : Int)) → w'.cell? ⟨g, 2, none⟩ = some (.int .i64 1) ∧ w'.cell? ⟨w.heap.size, 0, none⟩ = some (.int .i64 d.k) ∧ w'.cell? ⟨w.heap.size, 1, none⟩ = some (.slice ad1 d.v.length cap1) ∧ w'.cell? ⟨w.heap.size, 2, none⟩ = some (.slice ad2 d.w.length cap2) ∧ w'.cell? ⟨w.heap.size, 3, none⟩ = some (.int .i64 d.r.o) ∧ w'.cell? ⟨w.heap.size, 4, none⟩ = some (.int .i64 d.r.s) ∧ w'.cell? ⟨w.heap.size, 5, none⟩ = some (.int .i64 d.r.w) ∧ w'.cell? ⟨w.heap.size, 6, none⟩ = some (.int .i64 d.r.c) ∧ w'.cell? ⟨w.heap.size, 7, none⟩ = some (.string d.r.t)) := Lib.hid (fun w' hx => by
      obtain ⟨own', _, hst, _, hl⟩ := hx.out
      have hb : Bx 43 w' w.heap.size _ := (hst.turn.block _ hltx (fun k => by
        rcases k with k | k
        · have := HD.out.up k; omega
        · exact hgne k.symm)).trans HX3.out
      exact ⟨hl.cells.2.2.1, hb.eight⟩)
    go_wp2_with fail
    rw [← hW3']
    clear hW3'
    go_region_held3 (fun w' => w'.cell? ⟨g, 2, none⟩ = some (.int .i64 1) ∧ w'.cell? ⟨w.heap.size, 0, none⟩ = some (.int .i64 d.k) ∧ w'.cell? ⟨w.heap.size, 1, none⟩ = some (.slice ad1 d.v.length cap1) ∧ w'.cell? ⟨w.heap.size, 2, none⟩ = some (.slice ad2 d.w.length cap2) ∧ w'.cell? ⟨w.heap.size, 3, none⟩ = some (.int .i64 d.r.o) ∧ w'.cell? ⟨w.heap.size, 4, none⟩ = some (.int .i64 d.r.s) ∧ w'.cell? ⟨w.heap.size, 5, none⟩ = some (.int .i64 d.r.w) ∧ w'.cell? ⟨w.heap.size, 6, none⟩ = some (.int .i64 d.r.c) ∧ w'.cell? ⟨w.heap.size, 7, none⟩ = some (.string d.r.t)) (first | exact HS.out _ (by first | assumption | exact (Below.refl _ _).drew | exact Below.refl _ _ | exact alloc_below _ _ | exact bn (Below.refl _ _).drew (alloc_below _ _)) | exact s3)
      (first
      | (go_at_call 36; refine (CP.out _ _ (by first | assumption | exact (Below.refl _ _).drew | exact Below.refl _ _)).mono ?_; rintro e w4 ⟨rfl, h4⟩; have s3 := HT2.out w4 h4)
      | fail)
    all_goals
      obtain ⟨own', hd4, hs4, hng4, hl4⟩ := h4.out
      have HSY := Lib.hid (lsync_c w4 g p n 1 m 1 _ _ own' hl4 hd4 hng4 (by omega) (by omega) (by have hq := look_mid n [] (layE d, 0) [] 1 (by simp); have hq' : lookP (nameN n 1) (filesN n 1 [(layE d, 0)]) = some (layE d, 0) := hq; rw [hq']; rfl))
      have esy : syncs [nameN n 1] (filesN n 1 [(layE d, 0)]) = filesN n 1 [(layE d, (layE d).length)] := sync_mid n [] (layE d) 0 [] 1 (by simp)
      rw [esy] at HSY
      have HS4 := Lib.hid hs4
      have HN4 := Lib.hid hng4
      have HL4 := Lib.hid hl4
      clear hd4 hs4 hng4 hl4 h4 s3 HT2 CP HS esy
      go_wp2_with fail
      refine HSY.out.mono ?_
      rintro e w5 ⟨rfl, own5, hd5, hs5⟩
      go_wp2
      go_ret
      refine ⟨fun _ => ⟨rfl, own5, hd5, ((Step.ofTurn (HT3.out.wide (fun i _ hi => .inr hi))).trans HS4.out).trans (hs5.plus g), hs5.not HN4.out HL4.out.lt, HL4.out.turn hs5.turn HN4.out⟩, fun hx => by omega⟩
  · have CP : Hid (∀ W T, Below W3.heap.size W3 W → Calls Tryz.prog 36 #[.pointer (some ⟨g, 0, none⟩), .int .i64 1, .slice (some ⟨W.heap.size, 0, none⟩) 1 1] (W.alloc (.cells #[.int .i64 d.k, .slice ad1 d.v.length cap1, .slice ad2 d.w.length cap2, .int .i64 d.r.o, .int .i64 d.r.s, .int .i64 d.r.w, .int .i64 d.r.c, .string d.r.t] T)) fun e w' => e = .returned (.int .i64 8) ∧ Below W3.heap.size W3 w') := Lib.hid (fun W T hW => by
      refine (putOne W T g p n 1 m 1 0 z [] own ⟨d, .slice ad1 d.v.length cap1, .slice ad2 d.w.length cap2⟩ (HL3.out.below hW) (HDW.out.below hW) HG.out hn (by omega) (by simp) (HNA3.out.1.below hW) (HNA3.out.2.below hW) hs hz (HT.out W (HT3.out.bel hW))).mono ?_
      intro e w' hh
      obtain ⟨h1, h2⟩ := hh.2 (by rw [rowsE_one]; simp only [usedP]; omega)
      exact ⟨h1, bn hW h2⟩)
    go_wp2_with fail
    rw [← hW3']
    clear hW3'
    go_region_held3 (fun w' => w'.cell? ⟨g, 2, none⟩ = some (.int .i64 1) ∧ w'.cell? ⟨w.heap.size, 0, none⟩ = some (.int .i64 d.k) ∧ w'.cell? ⟨w.heap.size, 1, none⟩ = some (.slice ad1 d.v.length cap1) ∧ w'.cell? ⟨w.heap.size, 2, none⟩ = some (.slice ad2 d.w.length cap2) ∧ w'.cell? ⟨w.heap.size, 3, none⟩ = some (.int .i64 d.r.o) ∧ w'.cell? ⟨w.heap.size, 4, none⟩ = some (.int .i64 d.r.s) ∧ w'.cell? ⟨w.heap.size, 5, none⟩ = some (.int .i64 d.r.w) ∧ w'.cell? ⟨w.heap.size, 6, none⟩ = some (.int .i64 d.r.c) ∧ w'.cell? ⟨w.heap.size, 7, none⟩ = some (.string d.r.t)) (exact HS.out _ (by first | assumption | exact (Below.refl _ _).drew | exact Below.refl _ _ | exact alloc_below _ _ | exact bn (Below.refl _ _).drew (alloc_below _ _)))
      (first
      | (go_at_call 36; refine (CP.out _ _ (by first | assumption | exact (Below.refl _ _).drew | exact Below.refl _ _)).mono ?_; rintro e w4 ⟨rfl, b4⟩)
      | fail)
    all_goals
      go_wp2
      go_ret
      exact ⟨fun hx => by omega, fun _ => ⟨rfl, HT3.out.bel (by assumption)⟩⟩
end Go.Proofs.YtjmkphnppegegaaGreatDoor

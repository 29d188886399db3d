/-
  PostTells, by the contracts of the program's own functions (premises here).
-/
import Derived.Test.YtgdajnjfkokmdaaPstPhr
import Derived.Test.YtgdajnjfkokmdaaPstFold
namespace Go.Proofs.Ytgdajnjfkokmdaa
open Go.RowKit Go.Lib
set_option maxRecDepth 100000

def lsC (f : FuncId) (F : List (List Po) → List Ky) : Prop := ∀ (ls : List Lv) (v : Value) (w : World), LRd w v ls → small ls 6 → okL (pls ls) → Calls Try.prog f #[v] w (keysT (F (pls ls)) w)
def mayC (f : FuncId) : Prop := ∀ (l : List Pv) (v : Value) (w : World), PRd w v l → (l.length ≤ 40 ∧ ∀ x ∈ l, x.ns.length ≤ 30) → Calls Try.prog f #[v] w fun e w' => e = .returned (.bool (mayL (ps l))) ∧ Below w.heap.size w w'
def awC (f : FuncId) : Prop := ∀ w : World, Calls Try.prog f #[] w fun e w' => e = .returned (.bool true) ∧ Below w.heap.size w w'
theorem KRow.far {w w' : World} {B : Nat} {v : Value} {l : List Ky} {r : Option Nat} (h : KRow w B v l) (hg : w.grownBy w' r) (hne : ∀ g, r = some g → ∀ g', v.ownBlock = some g' → g ≠ g') : KRow w' B v l := by
  refine World.ownsRow.kept h hg ?_
  cases hv : v.ownBlock with
  | none => exact .inl rfl
  | some g' => exact .inr fun e => hne g' e.symm g' hv rfl
theorem KRow.len {w : World} {B : Nat} {v : Value} {l : List Ky} (h : KRow w B v l) : ∃ A C, v = .slice A l.length C := by
  obtain ⟨A, C, e, _⟩ := own_form h
  exact ⟨A, C, e⟩
theorem kyLs_len : ∀ (ls : List Lv) (n : Nat), (∀ y ∈ ls, y.l.length ≤ n) → (kyLs ls).length ≤ n * ls.length
  | [], n, _ => by simp [kyLs]
  | y :: r, n, h => by
    have ih := kyLs_len r n (fun z hz => h z (List.mem_cons_of_mem _ hz))
    have h1 := h y (List.mem_cons_self ..)
    have e : kyLs (y :: r) = kyL y.l ++ kyLs r := rfl
    have e2 : (kyL y.l).length = y.l.length := by simp [kyL]
    rw [e, List.length_append, e2, List.length_cons, Nat.mul_succ]
    omega
theorem orK_len {ls : List Lv} (n : Nat) (h : (kyLs ls).length ≤ n) : (orK (pls ls)).length ≤ n := by
  cases h1 : allMay (pls ls) with
  | true =>
    rw [orK_yes h1]
    have := fold_len (kyLs ls) []
    simp only [List.length_nil] at this
    omega
  | false => rw [orK_no h1]; simp
theorem phK_len (ls : List (List Po)) : (phK ls).length ≤ (andK ls).length := List.length_filter_le _ _
set_option maxHeartbeats 16000000 in
theorem tells_law (hA : lsC 10 andK) (hO : lsC 11 orK) (hP : lsC 12 phK) (hM : mayC 17) (hW : awC 9) (ls : List Lv) (v : Value) (w : World) (h : LRd w v ls) (hok : okL (pls ls)) :
    Calls Try.prog 3 #[v] w fun e w' => e = .returned (.bool true) ∧ Below w.heap.size w w' := by
  have CG := Lib.hid (great_c ls v 6 w h (by omega))
  unfold greatT at CG
  have HL := Lib.hid h
  have HAC := Lib.hid hA
  have HOC := Lib.hid hO
  have HPC := Lib.hid hP
  have HMC := Lib.hid hM
  have HWC := Lib.hid hW
  have HOK := Lib.hid hok
  obtain ⟨⟨ad, cap, rfl, _, k1⟩, _⟩ := h
  have H1 := Lib.hid k1
  clear hA hO hP hM hW k1 hok
  go_enter Try.func3, Try.ntmps3
  go_wp2_with fail
  refine CG.out.mono ?_
  rintro e w2 ⟨b, rfl, rfl, hb⟩
  cases b with
  | true =>
    clear CG hb
    go_wp2_with fail
    refine (HWC.out w).mono ?_
    rintro e w2 ⟨rfl, b2⟩
    go_wp2
    go_ret
    exact ⟨rfl, b2⟩
  | false =>
    have HS := Lib.hid (hb rfl)
    clear CG hb
    have hl6 := HS.out.1
    have HM1 : Hid (∀ y ∈ ls, y.l.length ≤ 10000 ∧ ∀ x ∈ y.l, x.ns.length ≤ 1000000) := Lib.hid (fun y hy => ⟨by have := (HS.out.2 y hy).1; omega, fun x hx => by have := (HS.out.2 y hy).2 x hx; omega⟩)
    have CA := Lib.hid (HAC.out ls _ w HL.out HS.out HOK.out)
    unfold keysT at CA
    go_wp2_with fail
    refine CA.out.mono ?_
    rintro e w1 ⟨va, rfl, ra, b1⟩
    have HB1 := Lib.hid b1
    have HRA := Lib.hid ra
    have HXA : Hid (∀ g, va.ownBlock = some g → w.heap.size ≤ g ∧ g < w1.heap.size) := Lib.hid (fun g hg => World.ownsRow.lt ra g hg)
    have HZ1 := Lib.hid b1.size
    have CO := Lib.hid (HOC.out ls _ w1 (HL.out.below b1) HS.out HOK.out)
    unfold keysT at CO
    clear CA ra b1
    go_wp2_with fail
    refine CO.out.mono ?_
    rintro e w2 ⟨vo, rfl, ro, b2⟩
    have HB2 := Lib.hid (bn HB1.out b2)
    have HRA2 := Lib.hid (HRA.out.below b2)
    have HRO := Lib.hid ro
    have HXO : Hid (∀ g, vo.ownBlock = some g → w1.heap.size ≤ g ∧ g < w2.heap.size) := Lib.hid (fun g hg => World.ownsRow.lt ro g hg)
    have HZ2 := Lib.hid b2.size
    have CP := Lib.hid (HPC.out ls _ w2 (HL.out.below HB2.out) HS.out HOK.out)
    unfold keysT at CP
    clear CO ro b2 HRA
    go_wp2_with fail
    refine CP.out.mono ?_
    rintro e w3 ⟨vp, rfl, rp, b3⟩
    have HB3 := Lib.hid (bn HB2.out b3)
    have HRA3 := Lib.hid (HRA2.out.below b3)
    have HRO3 := Lib.hid (HRO.out.below b3)
    have HRP := Lib.hid rp
    have HXP : Hid (∀ g, vp.ownBlock = some g → w2.heap.size ≤ g ∧ g < w3.heap.size) := Lib.hid (fun g hg => World.ownsRow.lt rp g hg)
    have HZ3 := Lib.hid b3.size
    clear CP rp b3
    have hla : (andK (pls ls)).length ≤ 40 := andK_len ls 40 (fun y hy => (HS.out.2 y hy).1)
    have hky : (kyLs ls).length ≤ 240 := by have := kyLs_len ls 40 (fun y hy => (HS.out.2 y hy).1); omega
    have hlo : (orK (pls ls)).length ≤ 240 := orK_len 240 hky
    have hlp : (phK (pls ls)).length ≤ 40 := Nat.le_trans (phK_len _) hla
    have RA := Lib.hid (fun W (hW : Below w.heap.size w W) => and_c ls _ W (HL.out.below hW) (by omega) HM1.out)
    have RO := Lib.hid (fun W (hW : Below w.heap.size w W) => or_c ls _ W (HL.out.below hW) (by omega) (fun y hy => ⟨by have := (HM1.out y hy).1; omega, (HM1.out y hy).2⟩) (by omega))
    have RP := Lib.hid (fun W (hW : Below w.heap.size w W) => phr_c ls _ W (HL.out.below hW) (by omega) HM1.out)
    unfold keysT at RA RO RP
    have HLA := Lib.hid hla
    have HLO := Lib.hid hlo
    have HLP := Lib.hid hlp
    clear hla hky hlo hlp
    go_wp2_with fail
    refine (RA.out w3 HB3.out).mono ?_
    rintro e w4 ⟨vra, rfl, rra, b4⟩
    have HB4 := Lib.hid (bn HB3.out b4)
    have HRA4 := Lib.hid (HRA3.out.below b4)
    have HRO4 := Lib.hid (HRO3.out.below b4)
    have HRP4 := Lib.hid (HRP.out.below b4)
    have CS := Lib.hid (samek_c _ _ _ w4 HRA4.out.rd rra.rd (by have := HLA.out; omega))
    have HQ4 := Lib.hid b4.size
    clear rra b4 HRA3 HRO3 HRP
    go_wp2_with fail
    refine CS.out.mono ?_
    rintro e w5 ⟨rfl, b5⟩
    have HB5 := Lib.hid (bn HB4.out b5)
    have HRA5 := Lib.hid (HRA4.out.below b5)
    have HRO5 := Lib.hid (HRO4.out.below b5)
    have HRP5 := Lib.hid (HRP4.out.below b5)
    have HQ5 := Lib.hid (Nat.le_trans HQ4.out b5.size)
    clear b5 CS HRA4 HRO4 HRP4
    go_wp2_with fail
    refine (RO.out w5 HB5.out).mono ?_
    rintro e w6 ⟨vro, rfl, rro, b6⟩
    have HB6 := Lib.hid (bn HB5.out b6)
    have HRA6 := Lib.hid (HRA5.out.below b6)
    have HRO6 := Lib.hid (HRO5.out.below b6)
    have HRP6 := Lib.hid (HRP5.out.below b6)
    have CS := Lib.hid (samek_c _ _ _ w6 HRO6.out.rd rro.rd (by have := HLO.out; omega))
    have HQ6 := Lib.hid (Nat.le_trans HQ5.out b6.size)
    clear rro b6 HRA5 HRO5 HRP5
    go_wp2_with fail
    refine CS.out.mono ?_
    rintro e w7 ⟨rfl, b7⟩
    have HB7 := Lib.hid (bn HB6.out b7)
    have HRA7 := Lib.hid (HRA6.out.below b7)
    have HRO7 := Lib.hid (HRO6.out.below b7)
    have HRP7 := Lib.hid (HRP6.out.below b7)
    have HQ7 := Lib.hid (Nat.le_trans HQ6.out b7.size)
    clear b7 CS HRA6 HRO6 HRP6
    go_wp2_with fail
    refine (RP.out w7 HB7.out).mono ?_
    rintro e w8 ⟨vrp, rfl, rrp, b8⟩
    have HB8 := Lib.hid (bn HB7.out b8)
    have HRA8 := Lib.hid (HRA7.out.below b8)
    have HRO8 := Lib.hid (HRO7.out.below b8)
    have HRP8 := Lib.hid (HRP7.out.below b8)
    have CS := Lib.hid (samek_c _ _ _ w8 HRP8.out.rd rrp.rd (by have := HLP.out; omega))
    have HQ8 := Lib.hid (Nat.le_trans HQ7.out b8.size)
    clear rrp b8 HRA7 HRO7 HRP7
    go_wp2_with fail
    refine CS.out.mono ?_
    rintro e w9 ⟨rfl, b9⟩
    have HB9 := Lib.hid (bn HB8.out b9)
    have HRA9 := Lib.hid (HRA8.out.below b9)
    have HRO9 := Lib.hid (HRO8.out.below b9)
    have HRP9 := Lib.hid (HRP8.out.below b9)
    have HQ9 := Lib.hid (Nat.le_trans HQ8.out b9.size)
    clear b9 CS HRA8 HRO8 HRP8
    go_wp2
    go_loopw [6, 7] (fun v6 v7 wr => ∃ i : Nat, i ≤ ls.length ∧ v7 = .int .i64 (i : Int) ∧ v6 = .bool true ∧ Hid (Below w9.heap.size w9 wr)) (fun _ v7 _ => ls.length - (intOf v7).toNat)
    case atStart => exact ⟨0, by omega, rfl, rfl, Lib.hid (Below.refl _ _)⟩
    case round =>
      obtain ⟨i, hi, rfl, rfl, HV⟩ := hrel
      have HW := Lib.hid (bn HB9.out HV.out)
      by_cases hp : i < ls.length
      · obtain ⟨g1, o1, rfl, c1⟩ := H1.out (by omega)
        have a1 := c1 i hp
        have p1 := HL.out.2 _ (List.getElem_mem hp)
        have s1 := HS.out.2 _ (List.getElem_mem hp)
        have m1 := HM1.out _ (List.getElem_mem hp)
        have HP := Lib.hid hp
        generalize ls[i] = y at a1 p1 s1 m1
        obtain ⟨yv, yl⟩ := y
        simp only at a1 p1 s1 m1
        obtain ⟨ady, capy, rfl, _, _⟩ := id p1
        have HPP := Lib.hid p1
        have HSS := Lib.hid s1
        have HMM := Lib.hid m1
        have a2 := (HW.out.cell (World.block_lt_of_cell? _ _ a1)).trans a1
        have hgl := World.block_lt_of_cell? _ _ a2
        have HSC : Hid (∀ W, Below wr.heap.size wr W → W.cell? ⟨g1, o1 + i, none⟩ = some (.slice ady yl.length capy)) := Lib.hid (fun W hb => (hb.cell hgl).trans a2)
        obtain ⟨MB, hMB⟩ : ∃ MB, MB = mayL (ps yl) := ⟨_, rfl⟩
        have C1 : Hid (∀ W, Below wr.heap.size wr W → Calls Try.prog 17 #[.slice ady yl.length capy] W fun e w' => e = .returned (.bool MB) ∧ Below W.heap.size W w') := Lib.hid (fun W hb => by rw [hMB]; exact HMC.out yl _ W (HPP.out.below (bn HW.out hb)) HSS.out)
        have C2 : Hid (∀ W, Below wr.heap.size wr W → Calls Try.prog 18 #[.slice ady yl.length capy] W fun e w' => e = .returned (.bool MB) ∧ Below W.heap.size W w') := Lib.hid (fun W hb => by rw [hMB]; exact may_c yl _ W (HPP.out.below (bn HW.out hb)) (by have := HMM.out.1; omega) HMM.out.2)
        have eMB : (MB == MB) = true := by simp
        clear c1 a1 a2 p1 s1 m1 hMB
        go_wp2_with fail
        go_region_held3 (fun W => W.cell? ⟨g1, o1 + i, none⟩ = some (.slice ady yl.length capy)) (exact HSC.out _ (by first | assumption | exact (Below.refl _ _).drew | exact Below.refl _ _))
          (first
          | (go_at_call 17; refine (C1.out _ (by first | assumption | exact (Below.refl _ _).drew | exact Below.refl _ _)).mono ?_; rintro e w5 ⟨rfl, b5⟩; have b5' : Below wr.heap.size wr w5 := bn (by first | assumption | exact (Below.refl _ _).drew | exact Below.refl _ _) b5; clear b5)
          | (go_at_call 18; refine (C2.out _ (by first | assumption | exact (Below.refl _ _).drew | exact Below.refl _ _)).mono ?_; rintro e w6 ⟨rfl, b6⟩; have b6' : Below wr.heap.size wr w6 := bn (by first | assumption | exact (Below.refl _ _).drew | exact Below.refl _ _) b6; clear b6)
          | fail)
        all_goals
          go_wp2
          go_roundw
          case rel => exact ⟨i + 1, HP.out, by go_num, by first | rfl | simp, Lib.hid (bn HV.out (by assumption))⟩
          case measure => have := HP.out; simp [intOf]; omega
      · have HQ := Lib.hid (Nat.le_trans HQ9.out HV.out.size)
        have CA := Lib.hid (overk_c _ va wr w.heap.size (HRA9.out.below HV.out) (by have := HLA.out; omega) HW.out.size)
        have HRO10 := Lib.hid (HRO9.out.below HV.out)
        have HRP10 := Lib.hid (HRP9.out.below HV.out)
        go_wp2_with fail
        refine CA.out.mono ?_
        rintro e w10 ⟨rfl, g10⟩
        have HW10 := Lib.hid (HW.out.trans (below_of_grown g10 HW.out.size (fun g hg => (HXA.out g hg).1)))
        have HRO11 := Lib.hid (HRO10.out.far g10 (fun g hg g' hg' => by have := (HXA.out g hg).2; have := (HXO.out g' hg').1; omega))
        have HRP11 := Lib.hid (HRP10.out.far g10 (fun g hg g' hg' => by have := (HXA.out g hg).2; have := (HXP.out g' hg').1; have := HZ2.out; omega))
        have HS10 := Lib.hid (Nat.le_trans HQ.out g10.size)
        have CO := Lib.hid (overk_c _ vo w10 w1.heap.size HRO11.out (by have := HLO.out; omega) (by have := HS10.out; have := HZ2.out; have := HZ3.out; omega))
        clear g10 CA HRO10 HRP10
        go_wp2_with fail
        refine CO.out.mono ?_
        rintro e w11 ⟨rfl, g11⟩
        have HW11 := Lib.hid (HW10.out.trans (below_of_grown g11 HW10.out.size (fun g hg => by have := (HXO.out g hg).1; have := HZ1.out; omega)))
        have HRP12 := Lib.hid (HRP11.out.far g11 (fun g hg g' hg' => by have := (HXO.out g hg).2; have := (HXP.out g' hg').1; omega))
        have HS11 := Lib.hid (Nat.le_trans HS10.out g11.size)
        have CP := Lib.hid (overk_c _ vp w11 w2.heap.size HRP12.out (by have := HLP.out; omega) (by have := HS11.out; have := HZ3.out; omega))
        clear g11 CO
        go_wp2_with fail
        refine CP.out.mono ?_
        rintro e w12 ⟨rfl, g12⟩
        have HW12 := Lib.hid (HW11.out.trans (below_of_grown g12 HW11.out.size (fun g hg => by have := (HXP.out g hg).1; have := HZ1.out; have := HZ2.out; omega)))
        have CA2 := Lib.hid (HAC.out ls _ w12 (HL.out.below HW12.out) HS.out HOK.out)
        unfold keysT at CA2
        clear g12 CP
        go_wp2_with fail
        refine CA2.out.mono ?_
        rintro e w13 ⟨va2, rfl, ra2, b13⟩
        have HW13 := Lib.hid (bn HW12.out b13)
        have HRA13 := Lib.hid ra2
        clear ra2 b13 CA2
        go_wp2_with fail
        refine (RA.out w13 HW13.out).mono ?_
        rintro e w14 ⟨vr2, rfl, rr2, b14⟩
        have HW14 := Lib.hid (bn HW13.out b14)
        have CS := Lib.hid (samek_c _ _ _ w14 (HRA13.out.below b14).rd rr2.rd (by have := HLA.out; omega))
        clear rr2 b14 HRA13
        go_wp2_with fail
        refine CS.out.mono ?_
        rintro e w15 ⟨rfl, b15⟩
        have HW15 := Lib.hid (bn HW14.out b15)
        clear b15 CS
        go_wp2_with fail
        refine (HWC.out w15).mono ?_
        rintro e w16 ⟨rfl, b16⟩
        have HW16 := Lib.hid (bn HW15.out b16)
        clear b16
        go_wp2
        go_ret
        exact ⟨by first | rfl | simp, HW16.out⟩
end Go.Proofs.Ytgdajnjfkokmdaa

/-
  PROVED: IndexScript answers true, whatever acts and word it is given. Conditions: the library's listed variables hold what the program's text, and the pinned tables, lay (the card ties them).
-/
import Derived.Test.YtdjlgiinekighaaGreatDoorPkIb
import Derived.Test.YtdjlgiinekighaaGreatDoorPkLawIa
import Derived.Test.YtdjlgiinekighaaGreatDoorPkIl
namespace Go.Proofs.YtdjlgiinekighaaGreatDoor
open Go.RowKit Go.Lib Go.Sort Go.Shelf Go.Maps Go.Proofs.YtdjlgiinekighaaGreatDoor.P Go.Proofs
set_option maxRecDepth 100000
set_option linter.unusedSimpArgs false

theorem num_c (z : Int) (w : World) : Calls Tryz.prog 13 #[.int .i64 z] w fun e w' => e = .returned (.int .i64 z) ∧ Below w.heap.size w w' := by
  go_enter Tryz.func13, Tryz.ntmps13
  go_wp2
  go_ret
  exact ⟨rfl, Below.refl _ _⟩
/-- The acts are gone through: what index and records are behind them. -/
structure Sc (w wr : World) (px : Nat) (own : Nat → Prop) (n : Nat) (rs : List R.Rc) (v : Value) : Prop where
  x : Ix wr px (sx rs) n own
  b : Below w.heap.size w wr
  ox : ∀ j, own j → w.heap.size ≤ j
  nd : (rs.map kyR).Nodup
  my : ∀ r ∈ rs, R.mayR r = true
  rd : ∀ W, Turn own wr W → R.Rl W v rs
theorem Sc.below {w wr w' : World} {px : Nat} {own : Nat → Prop} {n : Nat} {rs : List R.Rc} {v : Value} (h : Sc w wr px own n rs v) (hb : Below wr.heap.size wr w') : Sc w w' px own n rs v :=
  ⟨h.x.below hb, bn h.b hb, h.ox, h.nd, h.my, fun W t => h.rd W ((Turn.ofBelow hb).trans t)⟩
theorem Sc.step {w wr w2 w4 : World} {px : Nat} {own own4 : Nat → Prop} {n m : Nat} {rs : List R.Rc} {v v' : Value} (x : Ac) (h : Sc w wr px own n rs v) (b2 : Below wr.heap.size wr w2) (hx : Ix w4 px (sx (folL rs x)) m own4) (t4 : Turn own w2 w4)
    (o4 : ∀ j, own4 j → own j ∨ w2.heap.size ≤ j) (hv : v' = v ∧ folL rs x = rs ∨ R.ORow w2 wr.heap.size v' (folL rs x)) : Sc w w4 px own4 m (folL rs x) v' := by
  refine ⟨hx, ?_, fun j hj => ?_, fol_nd x h.nd, fol_may x h.my, rs_keep h.rd h.x.up b2 t4 o4 hv⟩
  · exact (bn h.b b2).trans (t4.below (Nat.le_trans h.b.size b2.size) h.ox)
  · exact (o4 j hj).elim (h.ox j) fun h3 => Nat.le_trans (Nat.le_trans h.b.size b2.size) h3
theorem lstF_len (pf : Bool) (rs : List R.Rc) (q : Bs) : (lstF pf (sx rs) q).length ≤ rs.length := by
  unfold lstF
  have h2 := lstS_len (sx rs) q
  have h3 := lstR_len (sx rs) q
  rw [sx_len] at h2 h3
  split <;> omega
theorem lstF_ns {pf : Bool} {rs : List R.Rc} {q : Bs} (h : ∀ r ∈ rs, R.mayR r = true) : ∀ x ∈ lstF pf (sx rs) q, x.ns.length ≤ 120 := fun x hx => by
  have hg : Good (sx rs) := good_sx h
  unfold lstF at hx
  split at hx
  · obtain ⟨k, _, rfl⟩ := List.mem_map.1 hx
    exact preS_len _ k q 120 fun y hy => (hg y hy).1
  · obtain ⟨k, _, rfl⟩ := List.mem_map.1 hx
    exact posS_len _ k q 120 fun y hy => (hg y hy).1
theorem ps_len {qs : List Pv} {L : List Po} (h : ps qs = L) : qs.length = L.length := by
  have := congrArg List.length h
  rwa [ps, List.length_map] at this
theorem ps_ns {qs : List Pv} {L : List Po} {n : Nat} (h : ps qs = L) (hL : ∀ x ∈ L, x.ns.length ≤ n) : ∀ x ∈ qs, x.ns.length ≤ n := fun x hx => hL x.p (h ▸ List.mem_map_of_mem hx)
theorem key_uniq {a b : List Ky} (ha : Rise a) (hb : Rise b) (h : ∀ x, x ∈ a ↔ x ∈ b) : a = b := by
  have na : a.Nodup := ha.imp fun {x y} hxy (e : x = y) => kLt_ne hxy e
  have nb : b.Nodup := hb.imp fun {x y} hxy (e : x = y) => kLt_ne hxy e
  exact List.Perm.eq_of_pairwise (le := fun x y : Ky => kLt x y = true) (fun x y _ _ h1 h2 => by rw [kLt_no h1] at h2; cases h2) ha hb ((List.perm_ext_iff_of_nodup na nb).2 h)
/-- Keys put among others, one by one, are there rising. -/
theorem into_fold (l : List R.Rc) (h : (l.map kyR).Nodup) : ∀ i, i ≤ l.length → (l.take i).foldl (fun ks r => into ks (kyR r)) [] = srtK ((l.take i).map kyR)
  | 0, _ => by simp [srtK]
  | i + 1, hi => by
    have ih := into_fold l h i (by omega)
    have e : l.take (i + 1) = l.take i ++ [l[i]] := List.take_succ_eq_append_getElem (by omega)
    have hnd1 : ((l.take (i + 1)).map kyR).Nodup := h.sublist ((List.take_sublist _ _).map _)
    have hnd0 : ((l.take i).map kyR).Nodup := h.sublist ((List.take_sublist _ _).map _)
    rw [e, List.foldl_append, ih, List.foldl_cons, List.foldl_nil]
    rw [e] at hnd1
    have hr := srtK_rise hnd0
    have h1 := into_rise (kyR l[i]) hr
    refine key_uniq h1 (srtK_rise hnd1) fun x => ?_
    rw [into_mem, (srtK_perm _).mem_iff, (srtK_perm _).mem_iff, List.map_append, List.mem_append]
    simp [or_comm]
/-- The argument is more than is gone through. -/
def overS (l : List Ac) (q : Bs) : Bool := greatA l 40 || decide (60 < q.length)
set_option maxHeartbeats 16000000 in
theorem script_great (l : List Ac) (v : Value) (q : Bs) (w : World) (h : Al w v l) (hl : l.length ≤ maxLen) (hR : R.Tabs w) (hT : T.Tabs w) (ho : overS l q = true) :
    Calls Tryz.prog 3 #[v, .string ⟨q.toArray⟩] w fun e w' => e = .returned (.bool true) ∧ Below w.heap.size w w' := by
  have HG := Lib.hid (greatA_c l v 40 w h (by omega) hl)
  have HR := Lib.hid hR
  have HT := Lib.hid hT
  cases hg : greatA l 40 with
  | true =>
    rw [hg] at HG
    clear hg h hl hR hT
    go_enter Tryz.func3, Tryz.ntmps3
    go_wp2_with fail
    refine HG.out.mono ?_
    rintro e w1 ⟨rfl, b1⟩
    go_wp2_with fail
    refine (awake_c w1 (HR.out.below b1) (HT.out.below b1)).mono ?_
    rintro e w2 ⟨rfl, b2⟩
    go_wp2
    go_ret
    exact ⟨rfl, bn b1 b2⟩
  | false =>
    rw [hg] at HG
    unfold overS at ho
    rw [hg, Bool.false_or, decide_eq_true_eq] at ho
    have hq2 : (60 : Int) < (q.length : Int) := by omega
    clear hg h hl hR hT ho
    go_enter Tryz.func3, Tryz.ntmps3
    go_wp2_with fail
    refine HG.out.mono ?_
    rintro e w1 ⟨rfl, b1⟩
    go_wp2_with fail
    refine (awake_c w1 (HR.out.below b1) (HT.out.below b1)).mono ?_
    rintro e w2 ⟨rfl, b2⟩
    go_wp2
    go_ret
    exact ⟨rfl, bn b1 b2⟩
set_option maxHeartbeats 64000000 in
theorem script_law (acts : List Ac) (v : Value) (q : Bs) (w : World) (h : Al w v acts) (hs : ∀ x ∈ acts, x.r.t.size ≤ 9223372036854775807 ∧ okKy (x.r.o, x.r.s)) (hl : acts.length ≤ maxLen) (hR : R.Tabs w) (hT : T.Tabs w) :
    Calls Tryz.prog 3 #[v, .string ⟨q.toArray⟩] w fun e w' => e = .returned (.bool true) ∧ Below w.heap.size w w' := by
  have mixed : Tryz.prog.follows .mixedOrders = true := by kernel_rfl
  cases hov : overS acts q with
  | true => exact script_great acts v q w h hl hR hT hov
  | false =>
    unfold overS at hov
    simp only [Bool.or_eq_false_iff, decide_eq_false_iff_not] at hov
    obtain ⟨hg, hq⟩ := hov
    have HG := Lib.hid (greatA_c acts v 40 w h (by omega) hl)
    have HR := Lib.hid hR
    have HT := Lib.hid hT
    have HQ := Lib.hid hq
    have hq2 : ¬ (60 : Int) < (q.length : Int) := by omega
    rw [hg] at HG
    have hln : acts.length ≤ 40 := (greatA_no hg).1
    obtain ⟨ad, cap, rfl, _, _⟩ := id h
    have HAL := Lib.hid h
    have HSZ := Lib.hid hs
    clear hg h hs hl hR hT hq
    go_enter Tryz.func3, Tryz.ntmps3
    go_wp2_with fail
    refine HG.out.mono ?_
    rintro e w1 ⟨rfl, b1⟩
    have B1 := Lib.hid b1
    clear b1 HG
    go_wp2_with fail
    clear hq2
    refine (new_c w1).mono ?_
    rintro e w2 ⟨px, ownX, rfl, h2, o2, b2⟩
    have SC : Hid (Sc w w2 px ownX 0 [] (.slice none 0 0)) := Lib.hid ⟨h2, bn B1.out b2, fun j hj => Nat.le_trans B1.out.size (o2 j hj), List.Pairwise.nil, fun r hr => (by cases hr), fun W _ => .inl ⟨rfl, rfl⟩⟩
    clear h2 o2 b2 B1
    go_wp2_with fail
    go_loopw [6, 7] (fun v6 v7 wr => ∃ (i : Nat) (own' : Nat → Prop) (rs : List R.Rc), i ≤ acts.length ∧ v7 = .int .i64 (i : Int) ∧ rs.length ≤ i ∧ Hid (Sc w wr px own' (200 * i) rs v6)) (fun _ v7 _ => acts.length - (RowKit.intOf v7).toNat)
    case atStart => exact ⟨0, ownX, [], by omega, rfl, by simp, SC⟩
    case round =>
      obtain ⟨i, own', rs, hi, rfl, hrl, SC1⟩ := hrel
      clear SC
      have RD := Lib.hid (SC1.out.rd wr (Turn.refl _ _))
      obtain ⟨ad5, cap5, rfl, _, _⟩ := RD.out.form
      by_cases hp : i < acts.length
      · obtain ⟨ad2, cap2, e, _, hc⟩ := (HAL.out.below SC1.out.b)
        simp only [Value.slice.injEq, true_and] at e
        obtain ⟨rfl, rfl⟩ := e
        obtain ⟨b, o, rfl, hrc⟩ := hc (by omega)
        have hx := hrc i hp
        have HSX := Lib.hid (HSZ.out _ (List.getElem_mem hp))
        have HP := Lib.hid hp
        generalize acts[i] = a at hx HSX
        obtain ⟨d, r⟩ := a
        have HX := Lib.hid hx
        obtain ⟨x0, x1, x2, x3, x4, x5⟩ := hx
        have hgl := World.block_lt_of_cell? _ _ x0
        have CF := Lib.hid (follow_c rs (.slice ad5 rs.length cap5) d r wr RD.out (by omega) SC1.out.nd HSX.out.1 (HR.out.below SC1.out.b))
        simp only at x0 x1 x2 x3 x4 x5
        clear hc hrc
        go_wp2_with fail
        refine CF.out.mono ?_
        rintro e w4 ⟨v4, rfl, hv4, b4⟩
        have HV4 := Lib.hid hv4
        have B4 := Lib.hid b4
        obtain ⟨z0, z1, z2, z3, z4, z5⟩ := HX.out.below b4
        have hgl4 := World.block_lt_of_cell? _ _ z0
        have HXI := Lib.hid (SC1.out.x.below b4)
        have HFS := Lib.hid (sx_fol rs ⟨d, r⟩)
        have hfl := fol_len rs ⟨d, r⟩
        clear x0 x1 x2 x3 x4 x5 hgl CF hv4 b4
        simp only at z0 z1 z2 z3 z4 z5
        cases d with
        | true =>
          have CD := Lib.hid (drop1_c px (200 * i) (sx rs) own' r.o r.s w4 HXI.out HSX.out.2 (by omega))
          have HDN : Hid (((sx rs).length : Int) - ((dropSs (sx rs) [(r.o, r.s)]).length : Int) = folN rs ⟨true, r⟩) := Lib.hid (folN_drop rs ⟨true, r⟩ rfl SC1.out.nd)
          generalize folN rs ⟨true, r⟩ = fz at *
          go_wp2_with fail
          refine CD.out.mono ?_
          rintro e w6 ⟨rfl, h6, t6⟩
          rw [HDN.out]
          have SC6 : Hid (Sc w w6 px own' (200 * (i + 1)) (folL rs ⟨true, r⟩) v4) := Lib.hid (SC1.out.step ⟨true, r⟩ B4.out (by rw [HFS.out, if_pos trivial]; exact h6.few (by omega)) t6 (fun j hj => .inl hj) HV4.out)
          have hrl' : (folL rs ⟨true, r⟩).length ≤ i + 1 := by omega
          clear h6 t6 CD z0 z1 z2 z3 z4 z5 hgl4 HDN hfl HFS HXI HV4
          generalize folL rs ⟨true, r⟩ = rs' at *
          obtain ⟨own6, ho6⟩ : ∃ own6, own6 = own' := ⟨_, rfl⟩
          rw [← ho6] at SC6
          clear ho6
          have hN : 200 * (i + 1) ≤ 100000 := by omega
          have GD := Lib.hid (good_sx SC6.out.my)
          go_wp2_with fail
          refine (word_c px (200 * (i + 1)) (sx rs') own6 q w6 SC6.out.x (by have := HQ.out; omega) hN).mono ?_
          rintro e w7 ⟨v7, qa, rfl, h7, e7, b7⟩
          obtain ⟨A7, C7, rfl, _⟩ := own_form h7.row
          have SC7 := Lib.hid (SC6.out.below b7)
          have B7 := Lib.hid b7
          have EA : Hid (ps qa = lstF false (sx rs') q) := Lib.hid (by rw [e7]; simp [lstF])
          have NA : Hid (∀ x ∈ qa, x.ns.length ≤ 120) := Lib.hid (ps_ns EA.out (lstF_ns SC6.out.my))
          have hqa : qa.length ≤ 100 := by rw [ps_len EA.out]; have := lstF_len false rs' q; omega
          have CA1 : Hid (∀ g, (Value.slice A7 qa.length C7).ownBlock = some g → g < w7.heap.size) := Lib.hid (fun g hg => (World.ownsRow.lt h7.row g hg).2)
          have CA2 : Hid (∀ x ∈ qa, ∀ g, x.a.ownBlock = some g → g < w7.heap.size) := Lib.hid (fun x hx g hg => (World.ownsRow.lt (h7.rows x hx) g hg).2)
          have HA7 := Lib.hid h7
          clear e7 h7 b7
          go_wp2_with fail
          refine (prefix_c px (200 * (i + 1)) (sx rs') own6 q w7 SC7.out.x hN (fun x hx => Nat.le_trans (GD.out x hx).1 (by omega))).mono ?_
          rintro e w8 ⟨v8, qb, rfl, h8, e8, b8⟩
          obtain ⟨A8, C8, rfl, _⟩ := own_form h8.row
          have SC8 := Lib.hid (SC7.out.below b8)
          have B8 := Lib.hid b8
          have EB : Hid (ps qb = lstF true (sx rs') q) := Lib.hid (by rw [e8]; simp [lstF])
          have NB : Hid (∀ x ∈ qb, x.ns.length ≤ 120) := Lib.hid (ps_ns EB.out (lstF_ns SC6.out.my))
          have hqb : qb.length ≤ 100 := by rw [ps_len EB.out]; have := lstF_len true rs' q; omega
          have LB1 : Hid (∀ g, (Value.slice A8 qb.length C8).ownBlock = some g → w7.heap.size ≤ g ∧ g < w8.heap.size) := Lib.hid (fun g hg => World.ownsRow.lt h8.row g hg)
          have LB2 : Hid (∀ x ∈ qb, ∀ g, x.a.ownBlock = some g → w7.heap.size ≤ g ∧ g < w8.heap.size) := Lib.hid (fun x hx g hg => World.ownsRow.lt (h8.rows x hx) g hg)
          have HA8 := Lib.hid (HA7.out.below b8)
          have HB8 := Lib.hid h8
          clear e8 h8 b8 HA7 SC7
          have RD8 := Lib.hid (SC8.out.rd w8 (Turn.refl _ _))
          go_wp2_with fail
          refine (lst_c rs' v4 q false w8 RD8.out (by omega) SC8.out.nd SC8.out.my (HT.out.below SC8.out.b) (by have := HQ.out; omega)).mono ?_
          rintro e w9 ⟨v9, qc, rfl, h9, e9, b9⟩
          have HA9 := Lib.hid (HA8.out.below b9)
          have HB9 := Lib.hid (HB8.out.below b9)
          have SC9 := Lib.hid (SC8.out.below b9)
          have B9 := Lib.hid b9
          have CS := Lib.hid (samep_c qa qc _ v9 w9 HA9.out.rd h9 (EA.out.trans e9.symm) (by omega) (fun x hx => Nat.le_trans (NA.out x hx) (by omega)))
          clear h9 e9 b9 HA8 HB8 RD8
          go_wp2_with fail
          refine CS.out.mono ?_
          rintro e w10 ⟨rfl, b10⟩
          have HA10 := Lib.hid (HA9.out.below b10)
          have HB10 := Lib.hid (HB9.out.below b10)
          have SC10 := Lib.hid (SC9.out.below b10)
          have B10 := Lib.hid (bn B9.out b10)
          clear b10 CS HA9 HB9 SC9 B9
          by_cases hq0 : q = []
          · have hqe : List.isEmpty q = true := by rw [hq0]; rfl
            clear hq0
            have HA := Lib.hid HA10.out
            have HB := Lib.hid HB10.out
            have BZ8 := Lib.hid B10.out
            have BZ : Hid (Below w6.heap.size w6 w10) := Lib.hid (bn B7.out (bn B8.out B10.out))
            have CB1 : Hid (∀ g, (Value.slice A8 qb.length C8).ownBlock = some g → w7.heap.size ≤ g ∧ g < w10.heap.size) := Lib.hid (fun g hg => ⟨(LB1.out g hg).1, Nat.lt_of_lt_of_le (LB1.out g hg).2 BZ8.out.size⟩)
            have CB2 : Hid (∀ x ∈ qb, ∀ g, x.a.ownBlock = some g → w7.heap.size ≤ g ∧ g < w10.heap.size) := Lib.hid (fun x hx g hg => ⟨(LB2.out x hx g hg).1, Nat.lt_of_lt_of_le (LB2.out x hx g hg).2 BZ8.out.size⟩)
            go_wp2_with fail
            refine (overpr_c w7.heap.size qa _ _ w6.heap.size HA.out (by omega) (fun x hx => Nat.le_trans (NA.out x hx) (by omega)) BZ.out.size CA1.out CA2.out).mono ?_
            rintro e wo ⟨rfl, bo, fo⟩
            have HBo := Lib.hid (HB.out.fro fo CB1.out CB2.out)
            have BO := Lib.hid (BZ.out.trans bo)
            have hwo : w7.heap.size ≤ wo.heap.size := Nat.le_trans (Nat.le_trans B8.out.size BZ8.out.size) bo.size
            clear bo fo HA HB
            go_wp2_with fail
            refine (overp_c qb _ wo w7.heap.size HBo.out (by omega) (fun x hx => Nat.le_trans (NB.out x hx) (by omega)) hwo).mono ?_
            rintro e wp ⟨rfl, bp⟩
            have SCp : Hid (Sc w wp px own6 (200 * (i + 1)) rs' v4) := Lib.hid (SC6.out.below (BO.out.trans (bp.mono B7.out.size)))
            clear bp HBo BO
            go_wp2_with fail
            go_roundw
            case rel => exact ⟨i + 1, own6, rs', HP.out, by go_num, hrl', SCp⟩
            case measure => have := HP.out; simp [RowKit.intOf]; omega
          · have hqe : ¬ List.isEmpty q = true := by
              cases q with
              | nil => exact absurd rfl hq0
              | cons a r => simp
            have hqf : List.isEmpty q = false := by simpa using hqe
            have RD10 := Lib.hid (SC10.out.rd w10 (Turn.refl _ _))
            have CL := Lib.hid (lst_c rs' v4 q true w10 RD10.out (by omega) SC10.out.nd SC10.out.my (HT.out.below SC10.out.b) (by have := HQ.out; omega))
            go_wp2_with fail
            refine CL.out.mono ?_
            rintro e w11 ⟨v11, qd, rfl, h11, e11, b11⟩
            have HA11 := Lib.hid (HA10.out.below b11)
            have HB11 := Lib.hid (HB10.out.below b11)
            have B11 := Lib.hid (bn B10.out b11)
            have CS := Lib.hid (samep_c qb qd _ v11 w11 HB11.out.rd h11 (EB.out.trans e11.symm) (by omega) (fun x hx => Nat.le_trans (NB.out x hx) (by omega)))
            clear h11 e11 b11 HA10 HB10 RD10 CL
            go_wp2_with fail
            refine CS.out.mono ?_
            rintro e w12 ⟨rfl, b12⟩
            have HA := Lib.hid (HA11.out.below b12)
            have HB := Lib.hid (HB11.out.below b12)
            have BZ8 := Lib.hid (bn B11.out b12)
            have BZ : Hid (Below w6.heap.size w6 w12) := Lib.hid (bn B7.out (bn B8.out BZ8.out))
            have CB1 : Hid (∀ g, (Value.slice A8 qb.length C8).ownBlock = some g → w7.heap.size ≤ g ∧ g < w12.heap.size) := Lib.hid (fun g hg => ⟨(LB1.out g hg).1, Nat.lt_of_lt_of_le (LB1.out g hg).2 BZ8.out.size⟩)
            have CB2 : Hid (∀ x ∈ qb, ∀ g, x.a.ownBlock = some g → w7.heap.size ≤ g ∧ g < w12.heap.size) := Lib.hid (fun x hx g hg => ⟨(LB2.out x hx g hg).1, Nat.lt_of_lt_of_le (LB2.out x hx g hg).2 BZ8.out.size⟩)
            clear b12 CS HA11 HB11 hq0
            go_wp2_with fail
            refine (overpr_c w7.heap.size qa _ _ w6.heap.size HA.out (by omega) (fun x hx => Nat.le_trans (NA.out x hx) (by omega)) BZ.out.size CA1.out CA2.out).mono ?_
            rintro e wo ⟨rfl, bo, fo⟩
            have HBo := Lib.hid (HB.out.fro fo CB1.out CB2.out)
            have BO := Lib.hid (BZ.out.trans bo)
            have hwo : w7.heap.size ≤ wo.heap.size := Nat.le_trans (Nat.le_trans B8.out.size BZ8.out.size) bo.size
            clear bo fo HA HB
            go_wp2_with fail
            refine (overp_c qb _ wo w7.heap.size HBo.out (by omega) (fun x hx => Nat.le_trans (NB.out x hx) (by omega)) hwo).mono ?_
            rintro e wp ⟨rfl, bp⟩
            have SCp : Hid (Sc w wp px own6 (200 * (i + 1)) rs' v4) := Lib.hid (SC6.out.below (BO.out.trans (bp.mono B7.out.size)))
            clear bp HBo BO
            go_wp2_with fail
            go_roundw
            case rel => exact ⟨i + 1, own6, rs', HP.out, by go_num, hrl', SCp⟩
            case measure => have := HP.out; simp [RowKit.intOf]; omega
        | false =>
          have CD := Lib.hid (put_c px (200 * i) (sx rs) own' r w4 HXI.out (by omega) HSX.out.1 (HR.out.below (bn SC1.out.b B4.out)) (HT.out.below (bn SC1.out.b B4.out)))
          have HDN : Hid (putC (sx rs) r = folN rs ⟨false, r⟩) := Lib.hid (folN_put rs ⟨false, r⟩ rfl)
          generalize folN rs ⟨false, r⟩ = fz at *
          rw [HDN.out] at CD
          go_wp2_with fail
          refine CD.out.mono ?_
          rintro e w5 ⟨own6, rfl, h6, t6, o6⟩
          have SC5 : Hid (Sc w w5 px own6 (200 * (i + 1)) (folL rs ⟨false, r⟩) v4) := Lib.hid (SC1.out.step ⟨false, r⟩ B4.out (by rw [HFS.out, if_neg (by simp)]; exact h6.few (by omega)) t6 o6 HV4.out)
          have hrl' : (folL rs ⟨false, r⟩).length ≤ i + 1 := by omega
          clear h6 t6 o6 CD z0 z1 z2 z3 z4 z5 hgl4 HDN hfl HFS HXI HV4
          generalize folL rs ⟨false, r⟩ = rs' at *
          go_wp2_with fail
          refine (num_c fz w5).mono ?_
          rintro e w6 ⟨rfl, b6⟩
          have SC6 := Lib.hid (SC5.out.below b6)
          clear b6 SC5
          have hN : 200 * (i + 1) ≤ 100000 := by omega
          have GD := Lib.hid (good_sx SC6.out.my)
          go_wp2_with fail
          refine (word_c px (200 * (i + 1)) (sx rs') own6 q w6 SC6.out.x (by have := HQ.out; omega) hN).mono ?_
          rintro e w7 ⟨v7, qa, rfl, h7, e7, b7⟩
          obtain ⟨A7, C7, rfl, _⟩ := own_form h7.row
          have SC7 := Lib.hid (SC6.out.below b7)
          have B7 := Lib.hid b7
          have EA : Hid (ps qa = lstF false (sx rs') q) := Lib.hid (by rw [e7]; simp [lstF])
          have NA : Hid (∀ x ∈ qa, x.ns.length ≤ 120) := Lib.hid (ps_ns EA.out (lstF_ns SC6.out.my))
          have hqa : qa.length ≤ 100 := by rw [ps_len EA.out]; have := lstF_len false rs' q; omega
          have CA1 : Hid (∀ g, (Value.slice A7 qa.length C7).ownBlock = some g → g < w7.heap.size) := Lib.hid (fun g hg => (World.ownsRow.lt h7.row g hg).2)
          have CA2 : Hid (∀ x ∈ qa, ∀ g, x.a.ownBlock = some g → g < w7.heap.size) := Lib.hid (fun x hx g hg => (World.ownsRow.lt (h7.rows x hx) g hg).2)
          have HA7 := Lib.hid h7
          clear e7 h7 b7
          go_wp2_with fail
          refine (prefix_c px (200 * (i + 1)) (sx rs') own6 q w7 SC7.out.x hN (fun x hx => Nat.le_trans (GD.out x hx).1 (by omega))).mono ?_
          rintro e w8 ⟨v8, qb, rfl, h8, e8, b8⟩
          obtain ⟨A8, C8, rfl, _⟩ := own_form h8.row
          have SC8 := Lib.hid (SC7.out.below b8)
          have B8 := Lib.hid b8
          have EB : Hid (ps qb = lstF true (sx rs') q) := Lib.hid (by rw [e8]; simp [lstF])
          have NB : Hid (∀ x ∈ qb, x.ns.length ≤ 120) := Lib.hid (ps_ns EB.out (lstF_ns SC6.out.my))
          have hqb : qb.length ≤ 100 := by rw [ps_len EB.out]; have := lstF_len true rs' q; omega
          have LB1 : Hid (∀ g, (Value.slice A8 qb.length C8).ownBlock = some g → w7.heap.size ≤ g ∧ g < w8.heap.size) := Lib.hid (fun g hg => World.ownsRow.lt h8.row g hg)
          have LB2 : Hid (∀ x ∈ qb, ∀ g, x.a.ownBlock = some g → w7.heap.size ≤ g ∧ g < w8.heap.size) := Lib.hid (fun x hx g hg => World.ownsRow.lt (h8.rows x hx) g hg)
          have HA8 := Lib.hid (HA7.out.below b8)
          have HB8 := Lib.hid h8
          clear e8 h8 b8 HA7 SC7
          have RD8 := Lib.hid (SC8.out.rd w8 (Turn.refl _ _))
          go_wp2_with fail
          refine (lst_c rs' v4 q false w8 RD8.out (by omega) SC8.out.nd SC8.out.my (HT.out.below SC8.out.b) (by have := HQ.out; omega)).mono ?_
          rintro e w9 ⟨v9, qc, rfl, h9, e9, b9⟩
          have HA9 := Lib.hid (HA8.out.below b9)
          have HB9 := Lib.hid (HB8.out.below b9)
          have SC9 := Lib.hid (SC8.out.below b9)
          have B9 := Lib.hid b9
          have CS := Lib.hid (samep_c qa qc _ v9 w9 HA9.out.rd h9 (EA.out.trans e9.symm) (by omega) (fun x hx => Nat.le_trans (NA.out x hx) (by omega)))
          clear h9 e9 b9 HA8 HB8 RD8
          go_wp2_with fail
          refine CS.out.mono ?_
          rintro e w10 ⟨rfl, b10⟩
          have HA10 := Lib.hid (HA9.out.below b10)
          have HB10 := Lib.hid (HB9.out.below b10)
          have SC10 := Lib.hid (SC9.out.below b10)
          have B10 := Lib.hid (bn B9.out b10)
          clear b10 CS HA9 HB9 SC9 B9
          by_cases hq0 : q = []
          · have hqe : List.isEmpty q = true := by rw [hq0]; rfl
            clear hq0
            have HA := Lib.hid HA10.out
            have HB := Lib.hid HB10.out
            have BZ8 := Lib.hid B10.out
            have BZ : Hid (Below w6.heap.size w6 w10) := Lib.hid (bn B7.out (bn B8.out B10.out))
            have CB1 : Hid (∀ g, (Value.slice A8 qb.length C8).ownBlock = some g → w7.heap.size ≤ g ∧ g < w10.heap.size) := Lib.hid (fun g hg => ⟨(LB1.out g hg).1, Nat.lt_of_lt_of_le (LB1.out g hg).2 BZ8.out.size⟩)
            have CB2 : Hid (∀ x ∈ qb, ∀ g, x.a.ownBlock = some g → w7.heap.size ≤ g ∧ g < w10.heap.size) := Lib.hid (fun x hx g hg => ⟨(LB2.out x hx g hg).1, Nat.lt_of_lt_of_le (LB2.out x hx g hg).2 BZ8.out.size⟩)
            go_wp2_with fail
            refine (overpr_c w7.heap.size qa _ _ w6.heap.size HA.out (by omega) (fun x hx => Nat.le_trans (NA.out x hx) (by omega)) BZ.out.size CA1.out CA2.out).mono ?_
            rintro e wo ⟨rfl, bo, fo⟩
            have HBo := Lib.hid (HB.out.fro fo CB1.out CB2.out)
            have BO := Lib.hid (BZ.out.trans bo)
            have hwo : w7.heap.size ≤ wo.heap.size := Nat.le_trans (Nat.le_trans B8.out.size BZ8.out.size) bo.size
            clear bo fo HA HB
            go_wp2_with fail
            refine (overp_c qb _ wo w7.heap.size HBo.out (by omega) (fun x hx => Nat.le_trans (NB.out x hx) (by omega)) hwo).mono ?_
            rintro e wp ⟨rfl, bp⟩
            have SCp : Hid (Sc w wp px own6 (200 * (i + 1)) rs' v4) := Lib.hid (SC6.out.below (BO.out.trans (bp.mono B7.out.size)))
            clear bp HBo BO
            go_wp2_with fail
            go_roundw
            case rel => exact ⟨i + 1, own6, rs', HP.out, by go_num, hrl', SCp⟩
            case measure => have := HP.out; simp [RowKit.intOf]; omega
          · have hqe : ¬ List.isEmpty q = true := by
              cases q with
              | nil => exact absurd rfl hq0
              | cons a r => simp
            have hqf : List.isEmpty q = false := by simpa using hqe
            have RD10 := Lib.hid (SC10.out.rd w10 (Turn.refl _ _))
            have CL := Lib.hid (lst_c rs' v4 q true w10 RD10.out (by omega) SC10.out.nd SC10.out.my (HT.out.below SC10.out.b) (by have := HQ.out; omega))
            go_wp2_with fail
            refine CL.out.mono ?_
            rintro e w11 ⟨v11, qd, rfl, h11, e11, b11⟩
            have HA11 := Lib.hid (HA10.out.below b11)
            have HB11 := Lib.hid (HB10.out.below b11)
            have B11 := Lib.hid (bn B10.out b11)
            have CS := Lib.hid (samep_c qb qd _ v11 w11 HB11.out.rd h11 (EB.out.trans e11.symm) (by omega) (fun x hx => Nat.le_trans (NB.out x hx) (by omega)))
            clear h11 e11 b11 HA10 HB10 RD10 CL
            go_wp2_with fail
            refine CS.out.mono ?_
            rintro e w12 ⟨rfl, b12⟩
            have HA := Lib.hid (HA11.out.below b12)
            have HB := Lib.hid (HB11.out.below b12)
            have BZ8 := Lib.hid (bn B11.out b12)
            have BZ : Hid (Below w6.heap.size w6 w12) := Lib.hid (bn B7.out (bn B8.out BZ8.out))
            have CB1 : Hid (∀ g, (Value.slice A8 qb.length C8).ownBlock = some g → w7.heap.size ≤ g ∧ g < w12.heap.size) := Lib.hid (fun g hg => ⟨(LB1.out g hg).1, Nat.lt_of_lt_of_le (LB1.out g hg).2 BZ8.out.size⟩)
            have CB2 : Hid (∀ x ∈ qb, ∀ g, x.a.ownBlock = some g → w7.heap.size ≤ g ∧ g < w12.heap.size) := Lib.hid (fun x hx g hg => ⟨(LB2.out x hx g hg).1, Nat.lt_of_lt_of_le (LB2.out x hx g hg).2 BZ8.out.size⟩)
            clear b12 CS HA11 HB11 hq0
            go_wp2_with fail
            refine (overpr_c w7.heap.size qa _ _ w6.heap.size HA.out (by omega) (fun x hx => Nat.le_trans (NA.out x hx) (by omega)) BZ.out.size CA1.out CA2.out).mono ?_
            rintro e wo ⟨rfl, bo, fo⟩
            have HBo := Lib.hid (HB.out.fro fo CB1.out CB2.out)
            have BO := Lib.hid (BZ.out.trans bo)
            have hwo : w7.heap.size ≤ wo.heap.size := Nat.le_trans (Nat.le_trans B8.out.size BZ8.out.size) bo.size
            clear bo fo HA HB
            go_wp2_with fail
            refine (overp_c qb _ wo w7.heap.size HBo.out (by omega) (fun x hx => Nat.le_trans (NB.out x hx) (by omega)) hwo).mono ?_
            rintro e wp ⟨rfl, bp⟩
            have SCp : Hid (Sc w wp px own6 (200 * (i + 1)) rs' v4) := Lib.hid (SC6.out.below (BO.out.trans (bp.mono B7.out.size)))
            clear bp HBo BO
            go_wp2_with fail
            go_roundw
            case rel => exact ⟨i + 1, own6, rs', HP.out, by go_num, hrl', SCp⟩
            case measure => have := HP.out; simp [RowKit.intOf]; omega
      · have hil : i = acts.length := by omega
        subst hil
        have SC2 : Hid (Sc w wr px own' 10000 rs (.slice ad5 rs.length cap5)) := Lib.hid (by
          obtain ⟨a1, a2, a3, a4, a5, a6⟩ := SC1.out
          exact ⟨a1.few (by omega), a2, a3, a4, a5, a6⟩)
        have hrl2 : rs.length ≤ 100 := by omega
        have KR : Hid (KRow wr w.heap.size (.slice none 0 0) (srtK ((rs.take 0).map kyR))) := Lib.hid (by rw [List.take_zero, show srtK (([] : List R.Rc).map kyR) = [] from by simp [srtK]]; exact KRow.nil _ _)
        clear SC1 RD HSZ HAL hrl
        go_wp2_with fail
        go_loopw [11, 12] (fun v11 v12 wr => ∃ (i : Nat), i ≤ rs.length ∧ v12 = .int .i64 (i : Int) ∧ Hid (Sc w wr px own' 10000 rs (.slice ad5 rs.length cap5)) ∧ Hid (KRow wr w.heap.size v11 (srtK ((rs.take i).map kyR)))) (fun _ v12 _ => rs.length - (RowKit.intOf v12).toNat)
        case atStart => exact ⟨0, by omega, rfl, SC2, KR⟩
        case round =>
          obtain ⟨i, hi, rfl, SC3, KR3⟩ := hrel
          clear SC2 KR
          have RD := Lib.hid (SC3.out.rd wr (Turn.refl _ _))
          obtain ⟨ad7, cap7, e, _, hc⟩ := RD.out.form
          simp only [Value.slice.injEq, true_and] at e
          obtain ⟨rfl, rfl⟩ := e
          by_cases hp : i < rs.length
          · obtain ⟨b, o, rfl, hrc⟩ := hc (by omega)
            have hx := hrc i hp
            have hmy := SC3.out.my _ (List.getElem_mem hp)
            have HP := Lib.hid hp
            have HNK : Hid (into (srtK ((rs.take i).map kyR)) (kyR rs[i]) = srtK ((rs.take (i + 1)).map kyR)) := Lib.hid (by
              have h1 := into_fold rs SC3.out.nd (i + 1) (by omega)
              rw [List.take_succ_eq_append_getElem hp, List.foldl_append, into_fold rs SC3.out.nd i (by omega)] at h1
              rw [List.take_succ_eq_append_getElem hp]
              exact h1)
            have hkl : (srtK ((rs.take i).map kyR)).length ≤ 100 := by
              rw [srtK_len, List.length_map, List.length_take]
              omega
            clear hc hrc
            generalize rs[i] = r at hx HNK hmy
            simp only [R.mayR, Bool.and_eq_true] at hmy
            obtain ⟨rn, hok, hen, hz, hrl3⟩ := may_text hmy.2.2
            have HWF := Lib.hid (words_few hrl3)
            have CO := Lib.hid (fun W (hW : Below wr.heap.size wr W) => T.refof_ok rn r.t W hok hen hz (HT.out.below (bn SC3.out.b hW)))
            have CI := Lib.hid (into_c (srtK ((rs.take i).map kyR)) r.o r.s _ wr w.heap.size KR3.out SC3.out.b.size (by omega))
            clear hok hen hz hrl3 hmy
            generalize GvTok.words rn = ts at *
            have HX := Lib.hid hx
            obtain ⟨x0, x1, x2, x3, x4⟩ := hx
            have hgl := World.block_lt_of_cell? _ _ x0
            clear x2 x3 x4
            go_wp2_with fail
            refine CI.out.mono ?_
            rintro e w4 ⟨v4, rfl, h4, b4⟩
            have y4 := (b4.cell hgl).trans HX.out.2.2.2.2
            have hgl4 := World.block_lt_of_cell? _ _ y4
            have K4 : Hid (KRow w4 w.heap.size v4 (srtK ((rs.take (i + 1)).map kyR))) := Lib.hid (by rw [← HNK.out]; exact h4)
            have B4 := Lib.hid b4
            have CO4 := Lib.hid (CO.out w4 b4)
            clear h4 b4 x0 x1 hgl CI CO
            go_wp2_with fail
            refine CO4.out.mono ?_
            rintro e w5 ⟨v5, rfl, h5, b5⟩
            obtain ⟨A5, C5, rfl, _⟩ := own_form h5
            have W5 := Lib.hid h5
            have SC5 := Lib.hid (SC3.out.below (bn B4.out b5))
            have K5 := Lib.hid (K4.out.below b5)
            have hts := HWF.out.1
            clear h5 b5 y4 hgl4 CO4 K4
            go_wp2_with fail
            go_loopw [14] (fun v14 wq => ∃ (k : Nat), k ≤ ts.length ∧ v14 = .int .i64 (k : Int) ∧ Hid (Below w5.heap.size w5 wq)) (fun v14 _ => ts.length - (RowKit.intOf v14).toNat)
            case atStart => exact ⟨0, by omega, rfl, Lib.hid (Below.refl _ _)⟩
            case round =>
              obtain ⟨k, hk, rfl, BQ⟩ := hrel
              by_cases hp2 : k < ts.length
              · obtain ⟨gw, C, e, c1, _⟩ := words_at (W5.out.below BQ.out) hp2
                simp only [Value.slice.injEq, true_and] at e
                obtain ⟨rfl, rfl⟩ := e
                have hgl := World.block_lt_of_cell? _ _ c1
                have htl := HWF.out.2 _ (List.getElem_mem hp2)
                have HP2 := Lib.hid hp2
                generalize ts[k] = t at c1 htl
                have SCQ := Lib.hid (SC5.out.below BQ.out)
                have CW := Lib.hid (fun W (hW : Below wr.heap.size wr W) => word_c px 10000 (sx rs) own' t W (SCQ.out.x.below hW) htl (by omega))
                have CL := Lib.hid (fun W (hW : Below wr.heap.size wr W) => lst_c rs (.slice (some ⟨b, o, none⟩) rs.length cap5) t false W ((SCQ.out.rd _ (Turn.refl _ _)).below hW) (by omega) SCQ.out.nd SCQ.out.my (HT.out.below (bn SCQ.out.b hW)) htl)
                have CS := Lib.hid (fun (qA qL : List Pv) (vA vL : Value) (W : World) (h1 : PRd W vA qA) (h2 : PRd W vL qL) (e1 : ps qA = lstS (sx rs) t) (e2 : ps qL = lstF false (sx rs) t) => samep_c qA qL vA vL W h1 h2 (e1.trans (show lstS (sx rs) t = ps qL from e2.symm)) (by have h3 := ps_len e1; have h4 := lstF_len false rs t; unfold lstF at h4; rw [if_neg (by simp)] at h4; omega) (fun x hx => Nat.le_trans (ps_ns (e1.trans (show lstS (sx rs) t = lstF false (sx rs) t from rfl)) (lstF_ns SCQ.out.my) x hx) (by omega)))
                have HSC : Hid (∀ W, Below wr.heap.size wr W → W.cell? ⟨gw, k * 2, none⟩ = some (.string ⟨t.toArray⟩)) := Lib.hid (fun W hW => (hW.cell hgl).trans c1)
                clear c1 hgl
                go_wp2_with fail
                go_region_held3 (fun W => W.cell? ⟨gw, k * 2, none⟩ = some (.string ⟨t.toArray⟩)) (exact HSC.out _ (by first | assumption | exact Below.refl _ _ | exact (Below.refl _ _).drew))
                  (first
                  | (go_at_call 15; refine (CW.out _ (by first | assumption | exact (Below.refl _ _).drew | exact Below.refl _ _)).mono ?_; rintro e wA ⟨vA, qA, rfl, hA, eA, bA⟩; have bA2 : Below wr.heap.size wr wA := bn (by first | assumption | exact (Below.refl _ _).drew | exact Below.refl _ _) bA; have HA : Hid (PRd wA vA qA) := Lib.hid hA.rd; have EA := Lib.hid eA; clear hA eA)
                  | (go_at_call 18; refine (CL.out _ (by first | assumption | exact (Below.refl _ _).drew | exact Below.refl _ _)).mono ?_; rintro e wL ⟨vL, qL, rfl, hL, eL, bL⟩; have bL2 : Below wr.heap.size wr wL := bn (by first | assumption | exact (Below.refl _ _).drew | exact Below.refl _ _) bL; have HL : Hid (PRd wL vL qL) := Lib.hid hL; have EL := Lib.hid eL; clear hL eL)
                  | (go_at_call 17; refine (CS.out qA qL vA vL _ (by first | exact HA.out | exact HA.out.below bL) (by first | exact HL.out | exact HL.out.below bA) EA.out EL.out).mono ?_; rintro e wS ⟨rfl, bS⟩; have bS2 : Below wr.heap.size wr wS := bn (by first | exact bL2 | exact bA2) bS)
                  | fail)
                all_goals
                  go_wp2
                  go_roundw
                  case rel => exact ⟨k + 1, HP2.out, by go_num, Lib.hid (bn BQ.out bS2)⟩
                  case measure => have := HP2.out; simp [RowKit.intOf]; omega
              · have hkl2 : k = ts.length := by omega
                subst hkl2
                go_wp2_with fail
                go_roundw
                case rel => exact ⟨i + 1, HP.out, by go_num, Lib.hid (SC5.out.below BQ.out), Lib.hid (K5.out.below BQ.out)⟩
                case measure => have := HP.out; simp [RowKit.intOf]; omega
          · have hil : i = rs.length := by omega
            subst hil
            rw [List.take_length] at KR3
            have CK := Lib.hid (keys_c px 10000 (sx rs) own' wr SC3.out.x (by omega))
            rw [sx_keys] at CK
            have hkl : (srtK (rs.map kyR)).length ≤ 100 := by
              rw [srtK_len, List.length_map]
              omega
            clear hc RD
            go_wp2_with fail
            refine CK.out.mono ?_
            rintro e w4 ⟨v4, rfl, h4, b4⟩
            have B4 := Lib.hid (bn SC3.out.b b4)
            have CS := Lib.hid (samek_c (srtK (rs.map kyR)) v4 _ w4 h4.rd (KR3.out.below b4).rd (by omega))
            clear h4 b4 CK
            go_wp2_with fail
            refine CS.out.mono ?_
            rintro e w5 ⟨rfl, b5⟩
            have B5 := Lib.hid (bn B4.out b5)
            clear b5 CS
            go_wp2_with fail
            refine (awake_c _ (HR.out.below B5.out) (HT.out.below B5.out)).mono ?_
            rintro e w18 ⟨rfl, b18⟩
            go_wp2
            go_ret
            exact ⟨rfl, bn B5.out b18⟩
end Go.Proofs.YtdjlgiinekighaaGreatDoor
namespace Go.Proofs.YtdjlgiinekighaaGreatDoor
open Go.RowKit Go.ChangeShapes Go.WideShapes Go.ChangeAt Go.Deep

set_option maxRecDepth 100000 in
theorem script_lifted (os : Os) (started : os.Started) (H : Type) (enc : TypeId × Value → H) :
    ReturnsInHanded {} Tryz.checked os 3 .any (fun w args => (Rows.indexScriptSpec.pre enc Tryz.prog Tryz.f3 [] false w args ∧ laidMetH Tryz.prog Rows.indexScriptRow.laid w) ∧ sizedMet enc Tryz.prog Tryz.f3 (OpenSpec.ofChange Rows.indexScriptSpec) false w args)
      (Rows.indexScriptSpec.post enc Tryz.prog Tryz.f3 false true false false) := by
  refine laid_lift (C := Tryz.checked) (L := seatLaid) own started (by kernel_rfl) Tryz.func3
    (ChangeSpec.witness_shaped (enc := enc) (C := Tryz.checked) (os := os) (X := fun w _ => laidMetH Tryz.prog seatLaid w) false (World.laidAll Tryz.prog os seatLaid) #[.slice none 0 0, .string ⟨#[]⟩] 8 (World.laidAll_os _ _ _)
      (World.shaped_of_ZipB (by kernel_rfl) (by kernel_rfl)) (by kernel_rfl) (by kernel_rfl) (by kernel_rfl) (laid_world os _)) laidOut
    (by rw [Tryz.params3]; exact of_decide_eq_true (by kernel_rfl)) rfl 4 Tryz.underlying4 (by kernel_rfl)
    (fun ds h => by
      rw [Tryz.params3] at h
      match ds, h with
      | [_, _], _ => rfl) ?_
  intro W base args ds ps hval hA hL
  rw [Tryz.params3] at hA hval
  have hT := tabs_of_laid W hL
  obtain ⟨v0, v1, d0, d1, p0, p1, rfl, rfl, rfl, h0, h1⟩ := trodAll_two hA
  obtain ⟨l, hl, hs, hm⟩ := open_acts (hval 0 22 v0 rfl rfl) h0
  obtain ⟨s, rfl, rfl, rfl, ws⟩ := Go.ChangeMaps.open_string Tryz.underlying9 (hval 1 9 v1 rfl rfl) h1
  have e : s = (⟨s.data.toList.toArray⟩ : ByteArray) := by simp
  rw [e]
  exact script_law l v0 s.data.toList W hl hs hm hT.1 hT.2

theorem script_holds : Rows.IndexScriptSaid :=
  OpenClaim.holds_of_wide 3 Tryz.f3 rfl rfl rfl rfl rfl rfl rfl ⟨rfl, rfl, rfl, rfl, rfl⟩ rfl rfl rfl rfl rfl (by kernel_rfl) Tryz.func3 (by kernel_rfl)
    (of_decide_eq_true (by kernel_rfl)) (by unfold Func.isWrapper; first | (rw [if_pos (by decide +kernel)]; kernel_rfl) | (rw [if_neg (by decide +kernel)]; exact ⟨rfl, rfl⟩))
    (fun os started H enc _ => script_lifted os started H enc)

theorem script_card : Rows.IndexScriptCardSaid :=
  Claim7.holds_tied_plain_at .later [] _ _ _ _ script_holds (fun _ h => by cases h) (by kernel_rfl) (fun _ h => by cases h) indexScript_row_tie rfl ⟨rfl, rfl⟩ (by kernel_rfl) rfl
    (fun f fn hf hfn => by
      obtain rfl : f = 3 := Option.some.inj ((show Tryz.prog.funcNamed Rows.indexScriptRow.func = some 3 by kernel_rfl).symm.trans hf) |>.symm
      obtain rfl : fn = Tryz.f3 := (Option.some.inj (Tryz.func3.symm.trans hfn)).symm
      exact ⟨by kernel_rfl, fun j t ht => by
        rw [Tryz.params3] at ht
        have hm : t ∈ [22, 9] := by simpa using Array.mem_of_getElem? ht
        have hall : ([22, 9].all fun u => !Tryz.prog.wantsStandIn u) = true := by kernel_rfl
        exact (show Tryz.prog.wantsStandIn t = false by simpa using List.all_eq_true.1 hall t hm)⟩)
    (by kernel_rfl)
#print axioms script_card
end Go.Proofs.YtdjlgiinekighaaGreatDoor

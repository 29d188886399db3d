/-
  PROVED: IndexAnew answers true, whatever acts it is given. Conditions: the library's listed variables hold what the program's text, and the pinned tables, lay (the card ties them).
-/
import Derived.Test.YtdjlgiinekighaaGreatDoorPkIa
import Derived.Test.YtdjlgiinekighaaGreatDoorPkIl
namespace Go.Proofs.YtdjlgiinekighaaGreatDoor
open Go.RowKit Go.Lib Go.Sort Go.Shelf Go.Maps Go.Proofs.YtdjlgiinekighaaGreatDoor.P Go.Proofs
set_option maxRecDepth 100000
set_option linter.unusedSimpArgs false

/-- Drop of one Key. -/
theorem drop1_c (p n : Nat) (S : Sx) (own : Nat → Prop) (o s : Int) (w : World) (h : Ix w p S n own) (ho : okKy (o, s)) (hn : n ≤ 1000000) :
    Calls Tryz.prog 12 #[.pointer (some ⟨p, 0, none⟩), .slice (some ⟨w.heap.size, 0, none⟩) 1 1] (w.alloc (.cells #[.int .i64 o, .int .i64 s] 31)) fun e w' =>
      e = .returned (.int .i64 ((S.length : Int) - ((dropSs S [(o, s)]).length : Int))) ∧ Ix w' p (dropSs S [(o, s)]) n own ∧ Turn own w w' := by
  have bx : Bx 31 (w.alloc (.cells #[.int .i64 o, .int .i64 s] 31)) w.heap.size #[.int .i64 o, .int .i64 s] := Bx.new _ w _
  have hb := alloc_below w (.cells #[.int .i64 o, .int .i64 s] 31)
  refine (drop_c p n S own (.slice (some ⟨w.heap.size, 0, none⟩) 1 1) [(o, s)] _ (h.below hb) (fun W hW => ?_) (fun k hk => ?_) (by simp) hn).mono ?_
  · have hx : Bx 31 W w.heap.size #[.int .i64 o, .int .i64 s] := (hW.block _ bx.lt (fun hh => by have := h.up _ hh; omega)).trans bx
    refine ⟨_, 1, rfl, by simp, fun _ => ⟨w.heap.size, 0, rfl, fun k hk => ?_⟩⟩
    have hk1 : k < 1 := hk
    match k, hk1 with
    | 0, _ => exact ⟨hx.cell 0, hx.cell 1⟩
  · simp only [List.mem_singleton] at hk
    subst hk
    exact ho
  · rintro e w' ⟨rfl, h1, t1⟩
    exact ⟨rfl, h1, (Turn.ofBelow hb).trans t1⟩
/-- What is read of the records stays so. -/
theorem rs_keep {O O4 : Nat → Prop} {wr w2 w4 : World} {v v' : Value} {rs rs' : List R.Rc} (h : ∀ W, Turn O wr W → R.Rl W v rs) (hO : ∀ j, O j → j < wr.heap.size) (b2 : Below wr.heap.size wr w2) (t4 : Turn O w2 w4)
    (hO4 : ∀ j, O4 j → O j ∨ w2.heap.size ≤ j) (hv : v' = v ∧ rs' = rs ∨ R.ORow w2 wr.heap.size v' rs') : ∀ W, Turn O4 w4 W → R.Rl W v' rs' := by
  intro W tW
  rcases hv with ⟨rfl, rfl⟩ | hrow
  · exact h W (((Turn.ofBelow b2).trans t4).join tW fun i hi => (hO4 i hi).imp id fun h => Nat.le_trans b2.size h)
  · refine R.ORow.rl (B := wr.heap.size) (show R.ORow W _ v' rs' from ownsRow_of_block hrow fun g hg => ?_)
    have lt := World.ownsRow.lt hrow g hg
    refine (tW.block g (Nat.lt_of_lt_of_le lt.2 t4.size) fun h4 => ?_).trans (t4.block g lt.2 fun h4 => ?_)
    · rcases hO4 g h4 with h | h
      · have := hO g h
        omega
      · omega
    · have := hO g h4
      omega
/-- The acts are gone through: what index and records are behind them. -/
structure An (w wr : World) (px py : Nat) (ownX ownY : Nat → Prop) (n : Nat) (S : Sx) (rs : List R.Rc) (v : Value) : Prop where
  x : Ix wr px (sx rs) n ownX
  y : Ix wr py S n ownY
  d : ∀ j, ownX j → ownY j → False
  b : Below w.heap.size w wr
  ox : ∀ j, ownX j → w.heap.size ≤ j
  oy : ∀ j, ownY j → w.heap.size ≤ j
  nd : (rs.map kyR).Nodup
  my : ∀ r ∈ rs, R.mayR r = true
  rd : ∀ W, Turn (fun j => ownX j ∨ ownY j) wr W → R.Rl W v rs
theorem An.up {w wr : World} {px py : Nat} {ownX ownY : Nat → Prop} {n : Nat} {S : Sx} {rs : List R.Rc} {v : Value} (h : An w wr px py ownX ownY n S rs v) : ∀ j, (ownX j ∨ ownY j) → j < wr.heap.size := fun j hj => hj.elim (h.x.up j) (h.y.up j)
theorem An.below {w wr w' : World} {px py : Nat} {ownX ownY : Nat → Prop} {n : Nat} {S : Sx} {rs : List R.Rc} {v : Value} (h : An w wr px py ownX ownY n S rs v) (hb : Below wr.heap.size wr w') : An w w' px py ownX ownY n S rs v :=
  ⟨h.x.below hb, h.y.below hb, h.d, bn h.b hb, h.ox, h.oy, h.nd, h.my, fun W t => h.rd W ((Turn.ofBelow hb).trans t)⟩
/-- The first index turns, with the records. -/
theorem An.stepX {w wr w2 w4 : World} {px py : Nat} {ownX ownY own4 : Nat → Prop} {n m : Nat} {S : Sx} {rs : List R.Rc} {v v' : Value} (x : Ac) (h : An w wr px py ownX ownY n S rs v) (b2 : Below wr.heap.size wr w2) (hx : Ix w4 px (sx (folL rs x)) m own4) (hm : n ≤ m) (t4 : Turn ownX w2 w4)
    (o4 : ∀ j, own4 j → ownX j ∨ w2.heap.size ≤ j) (hv : v' = v ∧ folL rs x = rs ∨ R.ORow w2 wr.heap.size v' (folL rs x)) : An w w4 px py own4 ownY m S (folL rs x) v' := by
  have t5 : Turn (fun j => ownX j ∨ ownY j) w2 w4 := t4.wide fun i _ hi => .inl hi
  refine ⟨hx, ?_, fun j h1 h2 => ?_, ?_, fun j hj => ?_, h.oy, fol_nd x h.nd, fol_may x h.my, rs_keep h.rd h.up b2 t5 (fun j hj => ?_) hv⟩
  · refine ((h.y.below b2).keep t4.size fun i hi => t4.block i (Nat.lt_of_lt_of_le (h.y.up i hi) b2.size) fun hx => h.d i hx hi).few hm
  · rcases o4 j h1 with h3 | h3
    · exact h.d j h3 h2
    · have := h.y.up j h2
      have := b2.size
      omega
  · exact (bn h.b b2).trans (t4.below (Nat.le_trans h.b.size b2.size) h.ox)
  · exact (o4 j hj).elim (h.ox j) fun h3 => Nat.le_trans (Nat.le_trans h.b.size b2.size) h3
  · rcases hj with hj | hj
    · exact (o4 j hj).imp .inl id
    · exact .inl (.inr hj)
/-- The second index turns. -/
theorem An.stepY {w wr w4 : World} {px py : Nat} {ownX ownY own4 : Nat → Prop} {n m : Nat} {S S' : Sx} {rs : List R.Rc} {v : Value} (h : An w wr px py ownX ownY n S rs v) (hy : Ix w4 py S' m own4) (hm : n ≤ m) (t4 : Turn ownY wr w4)
    (o4 : ∀ j, own4 j → ownY j ∨ wr.heap.size ≤ j) : An w w4 px py ownX own4 m S' rs v := by
  refine ⟨?_, hy, fun j h1 h2 => ?_, ?_, h.ox, fun j hj => ?_, h.nd, h.my, fun W tW => h.rd W ?_⟩
  · exact (h.x.keep t4.size fun i hi => t4.block i (h.x.up i hi) fun hy => h.d i hi hy).few hm
  · rcases o4 j h2 with h3 | h3
    · exact h.d j h1 h3
    · have := h.x.up j h1
      omega
  · exact h.b.trans (t4.below h.b.size h.oy)
  · exact (o4 j hj).elim (h.oy j) fun h3 => Nat.le_trans h.b.size h3
  · refine (t4.wide fun i _ hi => .inr hi).join tW fun i hi => ?_
    rcases hi with hi | hi
    · exact .inl (.inl hi)
    · exact (o4 i hi).imp .inr id
set_option maxHeartbeats 32000000 in
theorem anew_law (acts : List Ac) (v : Value) (w : World) (h : Al w v acts) (hs : ∀ x ∈ acts, x.r.t.size ≤ 9223372036854775807 ∧ okKy (x.r.o, x.r.s)) (hl : acts.length ≤ maxLen) (hR : R.Tabs w) (hT : T.Tabs w) :
    Calls Tryz.prog 4 #[v] w fun e w' => e = .returned (.bool true) ∧ Below w.heap.size w w' := by
  have mixed : Tryz.prog.follows .mixedOrders = true := by kernel_rfl
  have HG := Lib.hid (greatA_c acts v 40 w h (by omega) hl)
  have HR := Lib.hid hR
  have HT := Lib.hid hT
  cases hg : greatA acts 40 with
  | true =>
    rw [hg] at HG
    clear hg h hs hl hR hT
    go_enter Tryz.func4, Tryz.ntmps4
    go_wp2_with fail
    refine HG.out.mono ?_
    rintro e w1 ⟨rfl, b1⟩
    go_wp2_with fail
    refine (awake_c w1 (HR.out.below b1) (HT.out.below b1)).mono ?_
    rintro e w2 ⟨rfl, b2⟩
    go_wp2
    go_ret
    exact ⟨rfl, bn b1 b2⟩
  | false =>
    rw [hg] at HG
    have hln : acts.length ≤ 40 := (greatA_no hg).1
    obtain ⟨ad, cap, rfl, _, _⟩ := id h
    have HAL := Lib.hid h
    have HSZ := Lib.hid hs
    clear hg h hs hl hR hT
    go_enter Tryz.func4, Tryz.ntmps4
    go_wp2_with fail
    refine HG.out.mono ?_
    rintro e w1 ⟨rfl, b1⟩
    have B1 := Lib.hid b1
    clear b1 HG
    go_wp2_with fail
    refine (new_c w1).mono ?_
    rintro e w2 ⟨px, ownX, rfl, h2, o2, b2⟩
    have H2 := Lib.hid h2
    have B2 := Lib.hid (bn B1.out b2)
    have O2 : Hid (∀ i, ownX i → w.heap.size ≤ i) := Lib.hid (fun i hi => Nat.le_trans B1.out.size (o2 i hi))
    clear h2 o2 b2 B1
    go_wp2_with fail
    refine (new_c w2).mono ?_
    rintro e w3 ⟨py, ownY, rfl, h3, o3, b3⟩
    have AN : Hid (An w w3 px py ownX ownY 0 [] [] (.slice none 0 0)) := Lib.hid ⟨H2.out.below b3, h3, fun j h1 h2 => by have := H2.out.up j h1; have := o3 j h2; omega, bn B2.out b3, O2.out, fun j hj => Nat.le_trans B2.out.size (o3 j hj), List.Pairwise.nil, fun r hr => (by cases hr), fun W _ => .inl ⟨rfl, rfl⟩⟩
    clear h3 o3 b3 H2 B2 O2
    go_wp2_with fail
    go_loopw [5, 6] (fun v5 v6 wr => ∃ (i : Nat) (own' : Nat → Prop) (rs : List R.Rc), i ≤ acts.length ∧ v6 = .int .i64 (i : Int) ∧ rs.length ≤ i ∧ Hid (An w wr px py own' ownY (200 * i) [] rs v5)) (fun _ v6 _ => acts.length - (RowKit.intOf v6).toNat)
    case atStart => exact ⟨0, ownX, [], by omega, rfl, by simp, AN⟩
    case round =>
      obtain ⟨i, own', rs, hi, rfl, hrl, AN1⟩ := hrel
      clear AN
      have RD := Lib.hid (AN1.out.rd wr (Turn.refl _ _))
      obtain ⟨ad5, cap5, rfl, _, _⟩ := RD.out.form
      by_cases hp : i < acts.length
      · obtain ⟨ad2, cap2, e, _, hc⟩ := (HAL.out.below AN1.out.b)
        simp only [Value.slice.injEq, true_and] at e
        obtain ⟨rfl, rfl⟩ := e
        obtain ⟨b, o, rfl, hrc⟩ := hc (by omega)
        have hx := hrc i hp
        have HSX := Lib.hid (HSZ.out _ (List.getElem_mem hp))
        have HP := Lib.hid hp
        generalize acts[i] = a at hx HSX
        obtain ⟨d, r⟩ := a
        have HX := Lib.hid hx
        obtain ⟨x0, x1, x2, x3, x4, x5⟩ := hx
        have hgl := World.block_lt_of_cell? _ _ x0
        have CF := Lib.hid (follow_c rs (.slice ad5 rs.length cap5) d r wr RD.out (by omega) AN1.out.nd HSX.out.1 (HR.out.below AN1.out.b))
        simp only at x0 x1 x2 x3 x4 x5
        clear hc hrc
        go_wp2_with fail
        refine CF.out.mono ?_
        rintro e w4 ⟨v4, rfl, hv4, b4⟩
        have HV4 := Lib.hid hv4
        have B4 := Lib.hid b4
        obtain ⟨z0, z1, z2, z3, z4, z5⟩ := HX.out.below b4
        have hgl4 := World.block_lt_of_cell? _ _ z0
        have HXI := Lib.hid (AN1.out.x.below b4)
        have HFS := Lib.hid (sx_fol rs ⟨d, r⟩)
        have hfl := fol_len rs ⟨d, r⟩
        clear x0 x1 x2 x3 x4 x5 hgl CF hv4 b4
        simp only at z0 z1 z2 z3 z4 z5
        cases d with
        | true =>
          have CD := Lib.hid (drop1_c px (200 * i) (sx rs) own' r.o r.s w4 HXI.out HSX.out.2 (by omega))
          go_wp2_with fail
          refine CD.out.mono ?_
          rintro e w6 ⟨rfl, h6, t6⟩
          have AN6 : Hid (An w w6 px py own' ownY (200 * (i + 1)) [] (folL rs ⟨true, r⟩) v4) := Lib.hid (AN1.out.stepX ⟨true, r⟩ B4.out (by rw [HFS.out, if_pos trivial]; exact h6.few (by omega)) (by omega) t6 (fun j hj => .inl hj) HV4.out)
          clear h6 t6 CD z0 z1 z2 z3 z4 z5 hgl4
          go_wp2_with fail
          go_roundw
          case rel => exact ⟨i + 1, own', _, HP.out, by go_num, by omega, AN6⟩
          case measure => have := HP.out; simp [RowKit.intOf]; omega
        | false =>
          have CD := Lib.hid (put_c px (200 * i) (sx rs) own' r w4 HXI.out (by omega) HSX.out.1 (HR.out.below (bn AN1.out.b B4.out)) (HT.out.below (bn AN1.out.b B4.out)))
          go_wp2_with fail
          refine CD.out.mono ?_
          rintro e w6 ⟨own6, rfl, h6, t6, o6⟩
          have AN6 : Hid (An w w6 px py own6 ownY (200 * (i + 1)) [] (folL rs ⟨false, r⟩) v4) := Lib.hid (AN1.out.stepX ⟨false, r⟩ B4.out (by rw [HFS.out, if_neg (by simp)]; exact h6.few (by omega)) (by omega) t6 o6 HV4.out)
          clear h6 t6 o6 CD z0 z1 z2 z3 z4 z5 hgl4
          go_wp2_with fail
          go_roundw
          case rel => exact ⟨i + 1, own6, _, HP.out, by go_num, by omega, AN6⟩
          case measure => have := HP.out; simp [RowKit.intOf]; omega
      · have hil : i = acts.length := by omega
        subst hil
        have AN2 : Hid (An w wr px py own' ownY 10000 (sx (rs.drop rs.length).reverse) rs (.slice ad5 rs.length cap5)) := Lib.hid (by
          obtain ⟨a1, a2, a3, a4, a5, a6, a7, a8, a9⟩ := AN1.out
          rw [List.drop_length]
          exact ⟨a1.few (by omega), a2.few (by omega), a3, a4, a5, a6, a7, a8, a9⟩)
        clear AN1 RD HSZ HAL
        have hwl : IntKind.i64.wrap ((rs.length : Int) - 1) = (rs.length : Int) - 1 := by rw [IntKind.wrap_i64]; omega
        go_wp2_with fail
        go_loopw [7] (fun v7 wr => ∃ (j : Nat) (own2 : Nat → Prop) (m : Nat), j ≤ rs.length ∧ m + 200 * j = 10000 + 200 * rs.length ∧ v7 = .int .i64 ((j : Int) - 1) ∧ Hid (An w wr px py own' own2 m (sx (rs.drop j).reverse) rs (.slice ad5 rs.length cap5))) (fun v7 _ => (RowKit.intOf v7 + 1).toNat)
        case atStart => exact ⟨rs.length, ownY, 10000, Nat.le_refl _, by omega, rfl, AN2⟩
        case round =>
          obtain ⟨j, own2, m, hj, hm, rfl, AN3⟩ := hrel
          clear AN2
          have RD := Lib.hid (AN3.out.rd wr (Turn.refl _ _))
          by_cases hp : 0 < j
          · obtain ⟨k, rfl⟩ : ∃ k, j = k + 1 := ⟨j - 1, by omega⟩
            obtain ⟨ad7, cap7, e, _, hc⟩ := RD.out.form
            simp only [Value.slice.injEq, true_and] at e
            obtain ⟨rfl, rfl⟩ := e
            obtain ⟨b, o, rfl, hrc⟩ := hc (by omega)
            obtain ⟨x0, x1, x2, x3, x4⟩ := hrc k (by omega)
            have hgl := World.block_lt_of_cell? _ _ x0
            have hmy := AN3.out.my _ (List.getElem_mem (by omega : k < rs.length))
            have hdk : rs.drop k = rs[k] :: rs.drop (k + 1) := List.drop_eq_getElem_cons (by omega)
            have hnk : kyR rs[k] ∉ ((rs.drop (k + 1)).reverse).map kyR := fun hk => by
              have hnd := AN3.out.nd
              have h1 : ((rs.drop k).map kyR).Nodup := hnd.sublist ((List.drop_sublist k rs).map _)
              rw [hdk, List.map_cons, List.nodup_cons] at h1
              rw [List.map_reverse, List.mem_reverse] at hk
              exact h1.1 hk
            have hpo := put_one hmy hnk
            have hsz : rs[k].t.size ≤ 9223372036854775807 := by
              simp only [R.mayR, Bool.and_eq_true] at hmy
              obtain ⟨_, _, _, hz, _⟩ := may_text hmy.2.2
              omega
            have hdr : (rs.drop (k + 1)).reverse ++ [rs[k]] = (rs.drop k).reverse := by rw [hdk, List.reverse_cons]
            rw [hdr] at hpo
            have CP := Lib.hid (put_c py m _ own2 rs[k] wr AN3.out.y (by omega) hsz (HR.out.below AN3.out.b) (HT.out.below AN3.out.b))
            rw [hpo.1, hpo.2] at CP
            clear hpo hdr hsz hnk hdk hmy hrc hc
            generalize rs[k] = r at x0 x1 x2 x3 x4 CP
            have hk0 : ((k + 1 : Nat) : Int) - 1 = (k : Int) := by omega
            have hk1 : (0 : Int) ≤ (k : Int) := by omega
            have hk2 : (k : Int) < (rs.length : Int) := by omega
            have hk3 : IntKind.i64.wrap ((k : Int) - 1) = (k : Int) - 1 := by rw [IntKind.wrap_i64]; omega
            rw [hk0]
            go_wp2_with fail
            refine CP.out.mono ?_
            rintro e w4 ⟨own4, rfl, h4, t4, o4⟩
            have AN4 : Hid (An w w4 px py own' own4 (m + 200) (sx (rs.drop k).reverse) rs (.slice (some ⟨b, o, none⟩) rs.length cap5)) := Lib.hid (AN3.out.stepY h4 (by omega) t4 o4)
            clear h4 t4 o4 CP x0 x1 x2 x3 x4 hgl
            go_wp2_with fail
            go_roundw
            case rel => exact ⟨k, own4, m + 200, by omega, by omega, rfl, AN4⟩
            case measure => simp [RowKit.intOf]
          · obtain rfl : j = 0 := by omega
            have hm2 : m ≤ 20000 := by omega
            have hz1 : ((0 : Nat) : Int) - 1 = -1 := by omega
            rw [hz1]
            rw [List.drop_zero] at AN3
            have hnx := AN3.out.nd
            have HS1 : Hid (sameD (sx rs) (sx rs.reverse) = true) := Lib.hid (by rw [sx_rev]; exact same_rev _)
            have HS2 : Hid (sameD (sx rs.reverse) (sx rs) = true) := Lib.hid (by rw [sx_rev]; exact same_rev2 _)
            have HWQ : Hid (∀ ws ws', Words (sx rs) ws → Words (sx rs.reverse) ws' → ws = ws') := Lib.hid (fun ws ws' h1 h2 => words_uniq (by rw [sx_keys]; exact AN3.out.nd) (by rw [sx_keys, List.map_reverse]; exact (List.reverse_perm _).nodup_iff.2 AN3.out.nd) (fun x => by rw [sx_rev]; simp) h1 h2)
            clear hnx hwl
            go_wp2_with fail
            refine (same_c px py m m (sx rs) (sx rs.reverse) own' own2 wr AN3.out.x AN3.out.y).mono ?_
            rintro e w11 ⟨rfl, b11⟩
            have AN4 := Lib.hid (AN3.out.below b11)
            rw [HS1.out]
            clear b11 AN3 RD
            go_wp2_with fail
            refine (same_c py px m m (sx rs.reverse) (sx rs) own2 own' w11 AN4.out.y AN4.out.x).mono ?_
            rintro e w12 ⟨rfl, b12⟩
            have AN5 := Lib.hid (AN4.out.below b12)
            rw [HS2.out]
            clear b12 AN4
            go_wp2_with fail
            refine (words_c px m (sx rs) own' w12 AN5.out.x (by omega)).mono ?_
            rintro e w13 ⟨v13, ws, rfl, r13, hw13, hwn, b13⟩
            have AN6 := Lib.hid (AN5.out.below b13)
            have R13 := Lib.hid (StrRow.rd r13)
            have W13 := Lib.hid hw13
            clear r13 hw13 b13 AN5
            go_wp2_with fail
            refine (words_c py m (sx rs.reverse) own2 w13 AN6.out.y (by omega)).mono ?_
            rintro e w14 ⟨v14, ws', rfl, r14, hw14, _, b14⟩
            obtain rfl := HWQ.out ws ws' W13.out hw14
            have AN7 := Lib.hid (AN6.out.below b14)
            have CT := Lib.hid (sametexts_c ws v13 v14 w14 (R13.out.below b14) (StrRow.rd r14) (by omega))
            clear r14 hw14 b14 AN6 R13 W13
            go_wp2_with fail
            refine CT.out.mono ?_
            rintro e w15 ⟨rfl, b15⟩
            have AN8 := Lib.hid (AN7.out.below b15)
            clear b15 AN7 CT
            by_cases h0 : 0 < rs.length
            · have RD := Lib.hid (AN8.out.rd w15 (Turn.refl _ _))
              obtain ⟨ad7, cap7, e, _, hc⟩ := RD.out.form
              simp only [Value.slice.injEq, true_and] at e
              obtain ⟨rfl, rfl⟩ := e
              obtain ⟨b, o, rfl, hrc⟩ := hc h0
              obtain ⟨x0, x1, _, _, _⟩ := hrc 0 h0
              have hgl := World.block_lt_of_cell? _ _ x0
              have hok := ok_key (AN8.out.my _ (List.getElem_mem h0))
              have HLE : Hid (sameD (sx rs) (dropSs (sx rs.reverse) [kyR rs[0]]) = false) := Lib.hid (same_less _ _ (by
                rw [drop_one]
                have h1 := drop_less (S := sx rs.reverse) (k := kyR rs[0]) (by rw [sx_keys]; exact List.mem_map_of_mem (List.mem_reverse.2 (List.getElem_mem h0)))
                rw [sx_len] at h1 ⊢
                rwa [List.length_reverse] at h1))
              unfold kyR at hok HLE
              clear hc hrc
              generalize rs[0].o = ko at x0 hok HLE
              generalize rs[0].s = ks at x1 hok HLE
              have CD := Lib.hid (drop1_c py m (sx rs.reverse) own2 ko ks w15 AN8.out.y hok (by omega))
              have h00 : (0 : Int) < (rs.length : Int) := by omega
              simp only [Nat.zero_mul, Nat.add_zero] at x0 x1
              go_wp2_with fail
              refine CD.out.mono ?_
              rintro e w16 ⟨rfl, h16, t16⟩
              have AN9 : Hid (An w w16 px py own' own2 m (dropSs (sx rs.reverse) [(ko, ks)]) rs (.slice (some ⟨b, o, none⟩) rs.length cap5)) := Lib.hid (AN8.out.stepY h16 (Nat.le_refl _) t16 (fun j hj => .inl hj))
              clear h16 t16 CD AN8 x0 x1 hgl RD
              go_wp2_with fail
              refine (same_c px py m m (sx rs) _ own' own2 w16 AN9.out.x AN9.out.y).mono ?_
              rintro e w17 ⟨rfl, b17⟩
              have B17 := Lib.hid (bn AN9.out.b b17)
              rw [HLE.out]
              clear b17 AN9
              go_wp2_with fail
              refine (awake_c _ (HR.out.below B17.out) (HT.out.below B17.out)).mono ?_
              rintro e w18 ⟨rfl, b18⟩
              go_wp2
              go_ret
              exact ⟨rfl, bn B17.out b18⟩
            · have h00 : ¬ (0 : Int) < (rs.length : Int) := by omega
              have B17 := Lib.hid AN8.out.b
              clear AN8
              go_wp2_with fail
              refine (awake_c _ (HR.out.below B17.out) (HT.out.below B17.out)).mono ?_
              rintro e w18 ⟨rfl, b18⟩
              go_wp2
              go_ret
              exact ⟨rfl, bn B17.out b18⟩
end Go.Proofs.YtdjlgiinekighaaGreatDoor
namespace Go.Proofs.YtdjlgiinekighaaGreatDoor
open Go.RowKit Go.ChangeShapes Go.WideShapes Go.ChangeAt Go.Deep

set_option maxRecDepth 100000 in
theorem anew_lifted (os : Os) (started : os.Started) (H : Type) (enc : TypeId × Value → H) :
    ReturnsInHanded {} Tryz.checked os 4 .any (fun w args => (Rows.indexAnewSpec.pre enc Tryz.prog Tryz.f4 [] false w args ∧ laidMetH Tryz.prog Rows.indexAnewRow.laid w) ∧ sizedMet enc Tryz.prog Tryz.f4 (OpenSpec.ofChange Rows.indexAnewSpec) false w args)
      (Rows.indexAnewSpec.post enc Tryz.prog Tryz.f4 false true false false) := by
  refine laid_lift (C := Tryz.checked) (L := seatLaid) own started (by kernel_rfl) Tryz.func4
    (ChangeSpec.witness_shaped (enc := enc) (C := Tryz.checked) (os := os) (X := fun w _ => laidMetH Tryz.prog seatLaid w) false (World.laidAll Tryz.prog os seatLaid) #[.slice none 0 0] 8 (World.laidAll_os _ _ _)
      (World.shaped_of_ZipB (by kernel_rfl) (by kernel_rfl)) (by kernel_rfl) (by kernel_rfl) (by kernel_rfl) (laid_world os _)) laidOut
    (by rw [Tryz.params4]; exact of_decide_eq_true (by kernel_rfl)) rfl 4 Tryz.underlying4 (by kernel_rfl)
    (fun ds h => by
      rw [Tryz.params4] at h
      match ds, h with
      | [_], _ => rfl) ?_
  intro W base args ds ps hval hA hL
  rw [Tryz.params4] at hA hval
  have hT := tabs_of_laid W hL
  obtain ⟨v0, d0, rfl, rfl, h0⟩ := trodAll_one hA
  obtain ⟨l, hl, hs, hm⟩ := open_acts (hval 0 22 v0 rfl rfl) h0
  exact anew_law l v0 W hl hs hm hT.1 hT.2

theorem anew_holds : Rows.IndexAnewSaid :=
  OpenClaim.holds_of_wide 4 Tryz.f4 rfl rfl rfl rfl rfl rfl rfl ⟨rfl, rfl, rfl, rfl, rfl⟩ rfl rfl rfl rfl rfl (by kernel_rfl) Tryz.func4 (by kernel_rfl)
    (of_decide_eq_true (by kernel_rfl)) (by unfold Func.isWrapper; first | (rw [if_pos (by decide +kernel)]; kernel_rfl) | (rw [if_neg (by decide +kernel)]; exact ⟨rfl, rfl⟩))
    (fun os started H enc _ => anew_lifted os started H enc)

theorem anew_card : Rows.IndexAnewCardSaid :=
  Claim7.holds_tied_plain_at .later [] _ _ _ _ anew_holds (fun _ h => by cases h) (by kernel_rfl) (fun _ h => by cases h) indexAnew_row_tie rfl ⟨rfl, rfl⟩ (by kernel_rfl) rfl
    (fun f fn hf hfn => by
      obtain rfl : f = 4 := Option.some.inj ((show Tryz.prog.funcNamed Rows.indexAnewRow.func = some 4 by kernel_rfl).symm.trans hf) |>.symm
      obtain rfl : fn = Tryz.f4 := (Option.some.inj (Tryz.func4.symm.trans hfn)).symm
      exact ⟨by kernel_rfl, fun j t ht => by
        rw [Tryz.params4] at ht
        have hm : t ∈ [22] := by simpa using Array.mem_of_getElem? ht
        have hall : ([22].all fun u => !Tryz.prog.wantsStandIn u) = true := by kernel_rfl
        exact (show Tryz.prog.wantsStandIn t = false by simpa using List.all_eq_true.1 hall t hm)⟩)
    (by kernel_rfl)
#print axioms anew_card
end Go.Proofs.YtdjlgiinekighaaGreatDoor

/-
  RecordOrder, as a call: it answers true.
-/
import Derived.Test.YtkmcieiglhdjeaaDoorVRecOrd1
namespace Go.Proofs.YtkmcieiglhdjeaaDoor
open Go.RowKit Go.Lib

set_option maxHeartbeats 16000000 in
set_option maxRecDepth 1000000 in
theorem order_few (a b c : Rc) (l : List Rc) (v : Value) (w : World) (hT : Tabs w) (h : Rl w v l) (hg : greatB [a, b, c] 3 = false) (hg2 : greatB l 30 = false) :
    Calls Tryd.prog 4 #[.agg #[.int .i64 a.o, .int .i64 a.s, .int .i64 a.w, .int .i64 a.c, .string a.t], .agg #[.int .i64 b.o, .int .i64 b.s, .int .i64 b.w, .int .i64 b.c, .string b.t], .agg #[.int .i64 c.o, .int .i64 c.s, .int .i64 c.w, .int .i64 c.c, .string c.t], v] w fun e w' => e = .returned (.bool true) ∧ Below w.heap.size w w' := by
  have hl : l.length ≤ 30 := (greatB_no hg2).1
  have HT := Lib.hid hT
  have HV := Lib.hid h
  obtain ⟨ad, cap, rfl, hcap, _⟩ := h.form
  have HG1 := Lib.hid (fun (W : World) (B : Nat) (hB : B = W.heap.size) => great_c [a, b, c] _ 3 _ (rl_three W B hB a b c) (by decide) (by unfold maxLen; simp))
  have HG2 := Lib.hid (fun W (hb : Below w.heap.size w W) => great_c l _ 30 W (HV.out.below hb) (by decide) (by unfold maxLen; omega))
  rw [hg] at HG1
  rw [hg2] at HG2
  have B3 : Hid (Below w.heap.size w (((w.alloc (.cells #[.int .i64 a.o, .int .i64 a.s, .int .i64 a.w, .int .i64 a.c, .string a.t] 27)).alloc (.cells #[.int .i64 b.o, .int .i64 b.s, .int .i64 b.w, .int .i64 b.c, .string b.t] 27)).alloc (.cells #[.int .i64 c.o, .int .i64 c.s, .int .i64 c.w, .int .i64 c.c, .string c.t] 27))) := Lib.hid (bn (below_two _ _ _) (alloc_below _ _))
  have XA := Lib.hid (((Bx.new 27 w #[.int .i64 a.o, .int .i64 a.s, .int .i64 a.w, .int .i64 a.c, .string a.t]).alloc (.cells #[.int .i64 b.o, .int .i64 b.s, .int .i64 b.w, .int .i64 b.c, .string b.t] 27)).alloc (.cells #[.int .i64 c.o, .int .i64 c.s, .int .i64 c.w, .int .i64 c.c, .string c.t] 27))
  have XB : Hid (Bx 27 (((w.alloc (.cells #[.int .i64 a.o, .int .i64 a.s, .int .i64 a.w, .int .i64 a.c, .string a.t] 27)).alloc (.cells #[.int .i64 b.o, .int .i64 b.s, .int .i64 b.w, .int .i64 b.c, .string b.t] 27)).alloc (.cells #[.int .i64 c.o, .int .i64 c.s, .int .i64 c.w, .int .i64 c.c, .string c.t] 27)) (w.heap.size + 1) #[.int .i64 b.o, .int .i64 b.s, .int .i64 b.w, .int .i64 b.c, .string b.t]) := Lib.hid (by have h := (Bx.new 27 (w.alloc (.cells #[.int .i64 a.o, .int .i64 a.s, .int .i64 a.w, .int .i64 a.c, .string a.t] 27)) #[.int .i64 b.o, .int .i64 b.s, .int .i64 b.w, .int .i64 b.c, .string b.t]).alloc (.cells #[.int .i64 c.o, .int .i64 c.s, .int .i64 c.w, .int .i64 c.c, .string c.t] 27); simpa using h)
  have XC : Hid (Bx 27 (((w.alloc (.cells #[.int .i64 a.o, .int .i64 a.s, .int .i64 a.w, .int .i64 a.c, .string a.t] 27)).alloc (.cells #[.int .i64 b.o, .int .i64 b.s, .int .i64 b.w, .int .i64 b.c, .string b.t] 27)).alloc (.cells #[.int .i64 c.o, .int .i64 c.s, .int .i64 c.w, .int .i64 c.c, .string c.t] 27)) (w.heap.size + 1 + 1) #[.int .i64 c.o, .int .i64 c.s, .int .i64 c.w, .int .i64 c.c, .string c.t]) := Lib.hid (by have h := Bx.new 27 ((w.alloc (.cells #[.int .i64 a.o, .int .i64 a.s, .int .i64 a.w, .int .i64 a.c, .string a.t] 27)).alloc (.cells #[.int .i64 b.o, .int .i64 b.s, .int .i64 b.w, .int .i64 b.c, .string b.t] 27)) #[.int .i64 c.o, .int .i64 c.s, .int .i64 c.w, .int .i64 c.c, .string c.t]; simpa using h)
  have HLS := Lib.hid (fun W p q => less_c p q W)
  have qk := eq_key a.o a.s b.o b.s
  have qs := eq_stamp a.w a.c b.w b.c
  obtain ⟨of1, of2⟩ := order_facts a b
  have of3 : lessR a b = true → lessR b c = true → lessR a c = true := less_three
  generalize (a.o == b.o && a.s == b.s) = K1 at qk of2
  generalize (a.w == b.w && a.c == b.c) = K2 at qs of2
  have OF1 := Lib.hid of1
  have OF2 := Lib.hid of2
  have OF3 := Lib.hid of3
  clear h hT of1 of2 of3
  go_enter Tryd.func4, Tryd.ntmps4
  go_wp2_with fail
  refine (HG1.out _ _ (by simp)).mono ?_
  rintro e w1 ⟨rfl, b1⟩
  have B1 := Lib.hid (bn (bn B3.out (alloc_below _ _)) b1)
  have XA1 := Lib.hid ((XA.out.below (alloc_below _ _)).below b1)
  have XB1 := Lib.hid ((XB.out.below (alloc_below _ _)).below b1)
  have XC1 := Lib.hid ((XC.out.below (alloc_below _ _)).below b1)
  clear b1
  go_wp2_with fail
  refine (HG2.out _ B1.out).mono ?_
  rintro e W0 ⟨rfl, b2⟩
  have B2 := Lib.hid (bn B1.out b2)
  have XA2 := Lib.hid (XA1.out.below b2)
  have XB2 := Lib.hid (XB1.out.below b2)
  have XC2 := Lib.hid (XC1.out.below b2)
  have HS : Hid (∀ W : World, Below W0.heap.size W0 W → W.cell? ⟨w.heap.size, 0, none⟩ = some (.int .i64 a.o) ∧ W.cell? ⟨w.heap.size, 1, none⟩ = some (.int .i64 a.s) ∧ W.cell? ⟨w.heap.size, 2, none⟩ = some (.int .i64 a.w) ∧ W.cell? ⟨w.heap.size, 3, none⟩ = some (.int .i64 a.c) ∧ W.cell? ⟨w.heap.size, 4, none⟩ = some (.string a.t) ∧ W.cell? ⟨w.heap.size + 1, 0, none⟩ = some (.int .i64 b.o) ∧ W.cell? ⟨w.heap.size + 1, 1, none⟩ = some (.int .i64 b.s) ∧ W.cell? ⟨w.heap.size + 1, 2, none⟩ = some (.int .i64 b.w) ∧ W.cell? ⟨w.heap.size + 1, 3, none⟩ = some (.int .i64 b.c) ∧ W.cell? ⟨w.heap.size + 1, 4, none⟩ = some (.string b.t)) := Lib.hid (fun W hb => by
    obtain ⟨c0, c1, c2, c3, c4⟩ := (XA2.out.below hb).five
    obtain ⟨d0, d1, d2, d3, d4⟩ := (XB2.out.below hb).five
    exact ⟨c0, c1, c2, c3, c4, d0, d1, d2, d3, d4⟩)
  have hla := XA2.out.lt
  have hlb := XB2.out.lt
  clear b2 XA XB XC XA1 XB1 XC1 B1 B3 HG1 HG2
  go_wp2_with fail
  go_region_held3 (fun W => W.cell? ⟨w.heap.size, 0, none⟩ = some (.int .i64 a.o) ∧ W.cell? ⟨w.heap.size, 1, none⟩ = some (.int .i64 a.s) ∧ W.cell? ⟨w.heap.size, 2, none⟩ = some (.int .i64 a.w) ∧ W.cell? ⟨w.heap.size, 3, none⟩ = some (.int .i64 a.c) ∧ W.cell? ⟨w.heap.size, 4, none⟩ = some (.string a.t) ∧ W.cell? ⟨w.heap.size + 1, 0, none⟩ = some (.int .i64 b.o) ∧ W.cell? ⟨w.heap.size + 1, 1, none⟩ = some (.int .i64 b.s) ∧ W.cell? ⟨w.heap.size + 1, 2, none⟩ = some (.int .i64 b.w) ∧ W.cell? ⟨w.heap.size + 1, 3, none⟩ = some (.int .i64 b.c) ∧ W.cell? ⟨w.heap.size + 1, 4, none⟩ = some (.string b.t)) (exact HS.out _ (by first | assumption | exact (Below.refl _ _).drew | exact Below.refl _ _))
    (first
    | (go_at_call 16; refine (HLS.out _ _ _).mono ?_; rintro e w5 ⟨rfl, b5⟩; have b5' : Below W0.heap.size W0 w5 := bn (by first | assumption | exact (Below.refl _ _).drew | exact Below.refl _ _) b5; clear b5)
    | fail)
  have B5 := Lib.hid (bn B2.out b5')
  have XA5 := Lib.hid (XA2.out.below b5')
  have XB5 := Lib.hid (XB2.out.below b5')
  have XC5 := Lib.hid (XC2.out.below b5')
  clear b5' XA2 XB2 XC2 HS hla hlb B2
  have HBC := Lib.hid (fun W => less_c b c W)
  have HAC := Lib.hid (fun W => less_c a c W)
  generalize lessR a b = x at OF1 OF2 OF3 ⊢
  generalize lessR b a = y at OF1 OF2 ⊢
  generalize lessR b c = z at OF3 HBC
  generalize lessR a c = t at OF3 HAC
  go_upto_region 4 with fail
  go_cut [67] (fun v67 wc => v67 = .bool false ∧ Below w5.heap.size w5 wc)
  case first =>
    obtain ⟨c0, c1, c2, c3, c4⟩ := XA5.out.five
    obtain ⟨d0, d1, d2, d3, d4⟩ := XB5.out.five
    obtain ⟨e0, e1, e2, e3, e4⟩ := XC5.out.five
    have hla := XA5.out.lt
    have hlb := XB5.out.lt
    have hlc := XC5.out.lt
    have hk := OF2.out
    have hk1 := OF1.out
    cases x
    · cases y
      · cases K1
        · simp at hk
        · cases K2
          · simp at hk
          · clear hk hk1
            go_wp2
            go_meet
            exact ⟨rfl, Below.refl _ _⟩
      · cases K1
        · clear hk hk1
          go_wp2
          go_meet
          exact ⟨rfl, Below.refl _ _⟩
        · cases K2
          · clear hk hk1
            go_wp2
            go_meet
            exact ⟨rfl, Below.refl _ _⟩
          · simp at hk
    · cases y
      · cases K1
        all_goals first
          | (cases K2 <;> first | (exfalso; simp at hk; done) | (
              clear hk hk1
              cases z
              · go_wp2_with fail
                refine (HBC.out _).mono ?_
                rintro e w6 ⟨rfl, b6⟩
                go_wp2
                go_meet
                exact ⟨rfl, b6⟩
              · have ht := OF3.out rfl rfl
                subst ht
                go_wp2_with fail
                refine (HBC.out _).mono ?_
                rintro e w6 ⟨rfl, b6⟩
                have XA6 := XA5.out.below b6
                have XC6 := XC5.out.below b6
                clear c0 c1 c2 c3 c4 e0 e1 e2 e3 e4 d0 d1 d2 d3 d4 hla hlb hlc
                obtain ⟨c0, c1, c2, c3, c4⟩ := XA6.five
                obtain ⟨e0, e1, e2, e3, e4⟩ := XC6.five
                have hla := XA6.lt
                have hlc := XC6.lt
                go_wp2_with fail
                refine (HAC.out _).mono ?_
                rintro e w7 ⟨rfl, b7⟩
                go_wp2
                go_meet
                exact ⟨rfl, bn b6 b7⟩))
      · exact absurd ⟨rfl, rfl⟩ hk1
  case rest =>
    obtain ⟨rfl, hb⟩ := hcut
    have B6 := Lib.hid (bn B5.out hb)
    clear hb XA5 XB5 XC5 B5 HLS HBC HAC OF1 OF2 OF3 qk qs
    have HSO := Lib.hid (sort_c l _ wc (HV.out.below B6.out) (by omega))
    go_wp2_with fail
    refine HSO.out.mono ?_
    rintro e w7 ⟨g, d, rfl, hgw, hD, hS, b7⟩
    have HD := Lib.hid hD
    have HSS := Lib.hid hS
    have B7 := Lib.hid (bn B6.out b7)
    have HV7 := Lib.hid (HV.out.below B7.out)
    clear hgw hD hS b7 HSO B6
    go_wp2
    go_loopw [12] (fun v12 wr => ∃ i : Nat, i ≤ l.length ∧ v12 = .int .i64 (i : Int) ∧ Hid (Below w7.heap.size w7 wr)) (fun v12 _ => l.length - (RowKit.intOf v12).toNat)
    case atStart => exact ⟨0, by omega, rfl, Lib.hid (Below.refl _ _)⟩
    case round =>
      obtain ⟨i, hi, rfl, hB⟩ := hrel
      by_cases hp : i < l.length
      · have hp2 : decide (i < l.length) = true := by simpa using hp
        obtain ⟨w0, rfl⟩ : ∃ w0, w0 = wr := ⟨_, rfl⟩
        have HD0 := Lib.hid (HD.out.below hB.out)
        have HV0 := Lib.hid (HV7.out.below hB.out)
        go_wp2
        go_loopw [13, 14] (fun v13 v14 w2 => ∃ (k q : Nat) (N : Int), k ≤ l.length ∧ v14 = .int .i64 (k : Int) ∧ v13 = .int .i64 N ∧ Hid (N = (cp (d i) ((seg d 0 l.length).take k) : Int) - (cp (d i) (l.take k) : Int)) ∧ w2 = w0.drewN q) (fun _ v14 _ => l.length - (RowKit.intOf v14).toNat)
        case atStart => exact ⟨0, 0, 0, by omega, rfl, rfl, Lib.hid (by simp [cp]), rfl⟩
        case round =>
          obtain ⟨k, q, N, hk, rfl, rfl, hN, rfl⟩ := hrel
          by_cases hp : k < l.length
          · have hp3 : decide (k < l.length) = true := by simpa using hp
            obtain ⟨ad', cap', hvv, _, hrr⟩ := HV0.out.form
            obtain ⟨b2, o2, had, hR⟩ := hrr (by omega)
            simp only [Value.slice.injEq] at hvv
            obtain ⟨rfl, _, rfl⟩ := hvv
            subst had
            obtain ⟨r0, r1, r2, r3, r4⟩ := hR k hp
            have hsl : k < (seg d 0 l.length).length := by rw [seg_len]; omega
            have es : (seg d 0 l.length)[k]'hsl = d k := by simp [seg]
            have s1 := cp_step (d i) (seg d 0 l.length) k hsl
            have s2 := cp_step (d i) l k hp
            rw [es] at s1
            have bd1 := cp_le (d i) (seg d 0 l.length) k
            have bd2 := cp_le (d i) l k
            have nb1 : -1000 ≤ N := by rw [hN.out]; omega
            have nb2 : N ≤ 1000 := by rw [hN.out]; omega
            have q1 := eq_rec (d k) (d i)
            have q2 := eq_rec l[k] (d i)
            have p0 := HD0.out.c0 k hp
            have p1 := HD0.out.c1 k hp
            have p2 := HD0.out.c2 k hp
            have p3 := HD0.out.c3 k hp
            have p4 := HD0.out.c4 k hp
            have t0 := HD0.out.c0 i (by omega)
            have t1 := HD0.out.c1 i (by omega)
            have t2 := HD0.out.c2 i (by omega)
            have t3 := HD0.out.c3 i (by omega)
            have t4 := HD0.out.c4 i (by omega)
            have S1 := Lib.hid s1
            have S2 := Lib.hid s2
            clear s1 s2 bd1 bd2 hR hrr es hsl
            generalize l[k] = Z at r0 r1 r2 r3 r4 q2 S2
            generalize hX : d k = X at p0 p1 p2 p3 p4 q1 S1
            generalize hY : d i = Y at t0 t1 t2 t3 t4 q1 q2 S1 S2 hN ⊢
            clear hX
            have HYY := Lib.hid hY
            clear hY
            cases hA : sameR X Y <;> cases hB2 : sameR Z Y
            all_goals (
              rw [hA] at q1 S1
              rw [hB2] at q2 S2
              go_wp2
              go_quiet (fail)
              go_wp2
              go_quiet (fail)
              go_wp2
              go_roundw
              case rel =>
                refine ⟨k + 1, _, _, hp, by go_num, rfl, Lib.hid ?_, rfl⟩
                rw [S1.out, S2.out, hN.out]
                simp
                try omega
              case measure => simp [RowKit.intOf]; omega)
          · have hkk : k = l.length := by omega
            subst hkk
            have hN0 : N = 0 := by
              have h1 := hN.out
              rw [List.take_of_length_le (by rw [seg_len]; omega), List.take_length, cp_cls HSS.out.2.1] at h1
              omega
            subst hN0
            have hp4 : decide (l.length < l.length) = false := by simp
            have BD : Hid (Below w7.heap.size w7 (w0.drewN q)) := Lib.hid (below_drewN hB.out q)
            have HDq : Hid (Dt (w0.drewN q) g l.length d) := Lib.hid (HD0.out.below (below_drewN (Below.refl _ _) q))
            generalize w0.drewN q = W9 at BD HDq ⊢
            clear hN
            cases i with
            | zero =>
              have u1 : decide ((0 : Int) < ((0 : Nat) : Int)) = false := by simp
              go_wp2_with fail
              go_quiet (fail)
              go_wp2
              go_roundw
              case rel => exact ⟨1, by omega, by go_num, Lib.hid (below_drewN BD.out nq)⟩
              case measure => simp [RowKit.intOf]; omega
            | succ ip =>
              have u1 : decide ((0 : Int) < (ip : Int) + 1) = true := by first | (simp; done) | (simp; omega)
              have u2 : decide ((0 : Int) < ((ip + 1 : Nat) : Int)) = true := by first | (simp; done) | (simp; omega)
              have hwp : IntKind.i64.wrap (ip : Int) = (ip : Int) := by rw [IntKind.wrap_i64]; omega
              have jz : (ip : Int) + 1 < (l.length : Int) := by omega
              have jz1 : (ip : Int) < (l.length : Int) := by omega
              have jz0 : (0 : Int) ≤ (ip : Int) + 1 := by omega
              have je0 : ((ip : Int) + 1).toNat = ip + 1 := by omega
              have hi1 : ip + 1 < l.length := by omega
              have hi0 : ip < l.length := by omega
              have hlt := HDq.out.lt
              have HS : Hid (∀ W, Below W9.heap.size W9 W → W.cell? ⟨g, (ip + 1) * 5, none⟩ = some (.int .i64 (d (ip + 1)).o) ∧ W.cell? ⟨g, (ip + 1) * 5 + 1, none⟩ = some (.int .i64 (d (ip + 1)).s) ∧ W.cell? ⟨g, (ip + 1) * 5 + 2, none⟩ = some (.int .i64 (d (ip + 1)).w) ∧ W.cell? ⟨g, (ip + 1) * 5 + 3, none⟩ = some (.int .i64 (d (ip + 1)).c) ∧ W.cell? ⟨g, (ip + 1) * 5 + 4, none⟩ = some (.string (d (ip + 1)).t) ∧ W.cell? ⟨g, ip * 5, none⟩ = some (.int .i64 (d ip).o) ∧ W.cell? ⟨g, ip * 5 + 1, none⟩ = some (.int .i64 (d ip).s) ∧ W.cell? ⟨g, ip * 5 + 2, none⟩ = some (.int .i64 (d ip).w) ∧ W.cell? ⟨g, ip * 5 + 3, none⟩ = some (.int .i64 (d ip).c) ∧ W.cell? ⟨g, ip * 5 + 4, none⟩ = some (.string (d ip).t)) := Lib.hid (fun W hb => by
                have hd := HDq.out.below hb
                exact ⟨hd.c0 _ hi1, hd.c1 _ hi1, hd.c2 _ hi1, hd.c3 _ hi1, hd.c4 _ hi1, hd.c0 _ hi0, hd.c1 _ hi0, hd.c2 _ hi0, hd.c3 _ hi0, hd.c4 _ hi0⟩)
              have hle : lessR (d (ip + 1)) (d ip) = false := by
                have h1 := (List.pairwise_iff_getElem.1 HSS.out.1) ip (ip + 1) (by rw [seg_len]; omega) (by rw [seg_len]; omega) (by omega)
                simpa [seg, Le] using h1
              have HCM := Lib.hid (fun W => less_c (d (ip + 1)) (d ip) W)
              rw [hle] at HCM
              generalize d (ip + 1) = X at HS HCM
              generalize d ip = Y at HS HCM
              clear hle
              go_wp2_with fail
              go_region_held3 (fun W => W.cell? ⟨g, (ip + 1) * 5, none⟩ = some (.int .i64 X.o) ∧ W.cell? ⟨g, (ip + 1) * 5 + 1, none⟩ = some (.int .i64 X.s) ∧ W.cell? ⟨g, (ip + 1) * 5 + 2, none⟩ = some (.int .i64 X.w) ∧ W.cell? ⟨g, (ip + 1) * 5 + 3, none⟩ = some (.int .i64 X.c) ∧ W.cell? ⟨g, (ip + 1) * 5 + 4, none⟩ = some (.string X.t) ∧ W.cell? ⟨g, ip * 5, none⟩ = some (.int .i64 Y.o) ∧ W.cell? ⟨g, ip * 5 + 1, none⟩ = some (.int .i64 Y.s) ∧ W.cell? ⟨g, ip * 5 + 2, none⟩ = some (.int .i64 Y.w) ∧ W.cell? ⟨g, ip * 5 + 3, none⟩ = some (.int .i64 Y.c) ∧ W.cell? ⟨g, ip * 5 + 4, none⟩ = some (.string Y.t)) (exact HS.out _ (by first | assumption | exact (Below.refl _ _).drew | exact Below.refl _ _))
                (first
                | (go_at_call 16; refine (HCM.out _).mono ?_; rintro e w5 ⟨rfl, b5⟩; have b5' : Below W9.heap.size W9 w5 := bn (by first | assumption | exact (Below.refl _ _).drew | exact Below.refl _ _) b5; clear b5)
                | fail)
              go_wp2
              go_roundw
              case rel => exact ⟨ip + 1 + 1, by omega, by go_num, Lib.hid (bn BD.out b5')⟩
              case measure => simp [RowKit.intOf]; omega
      · have hii : i = l.length := by omega
        subst hii
        have hp2 : decide (l.length < l.length) = false := by simp
        have HDw := Lib.hid (HD.out.below hB.out)
        have hsl : (seg d 0 l.length).length = l.length := by rw [seg_len]; omega
        have hso := sort_c (seg d 0 l.length) (.slice (some ⟨g, 0, none⟩) l.length l.length) wr HDw.out.rl (by rw [hsl]; omega)
        unfold sortT at hso
        rw [hsl] at hso
        have HSO := Lib.hid hso
        have Bw := Lib.hid (bn B7.out hB.out)
        clear hso
        go_wp2_with fail
        refine HSO.out.mono ?_
        rintro e w8 ⟨g2, d2, rfl, _, hD2, hS2, b8⟩
        have heq : seg d2 0 l.length = seg d 0 l.length := Sorts.unique hS2 ⟨HSS.out.1, Cls.refl _, rfl⟩
        have hr2 := hD2.rl
        rw [heq] at hr2
        have HSM := Lib.hid (samel_c (seg d 0 l.length) _ _ w8 hr2 ((HDw.out.below b8).rl) (by rw [hsl]; omega))
        have B8 := Lib.hid (bn Bw.out b8)
        clear heq hr2 hD2 hS2 b8 hsl
        go_wp2_with fail
        refine HSM.out.mono ?_
        rintro e w9 ⟨rfl, b9⟩
        have B9 := Lib.hid (bn B8.out b9)
        clear b9
        go_wp2_with fail
        refine (awake_c w9 (HT.out.below B9.out)).mono ?_
        rintro e w10 ⟨rfl, b10⟩
        go_wp2
        go_ret
        exact ⟨rfl, bn B9.out b10⟩
end Go.Proofs.YtkmcieiglhdjeaaDoor

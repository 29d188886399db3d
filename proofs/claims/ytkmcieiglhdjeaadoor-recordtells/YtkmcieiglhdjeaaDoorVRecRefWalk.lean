/-
  The chapter's own sort, by contract.
-/
import Derived.Test.YtkmcieiglhdjeaaDoorVRecRefSort
namespace Go.Proofs.YtkmcieiglhdjeaaDoor
open Go.RowKit Go.Lib

/-- A piece of a list of records holds the piece of them. -/
theorem rl_sliced {w : World} {ad : Option Addr} {cap : Nat} {l : List Rc} (h : Rl w (.slice ad l.length cap) l) (lo hi : Nat) (hlh : lo ≤ hi) (hhi : hi ≤ l.length) : Rl w (sliced ad lo hi cap 5) ((l.drop lo).take (hi - lo)) := by
  have hlen : (List.take (hi - lo) (List.drop lo l)).length = hi - lo := by simp; omega
  rcases h with ⟨e, rfl⟩ | ⟨a, c, e, hcap, h2⟩
  · simp only [Value.slice.injEq] at e
    obtain ⟨rfl, _, rfl⟩ := e
    simp at hhi
    subst hhi
    obtain rfl : lo = 0 := by omega
    exact .inl ⟨rfl, rfl⟩
  · simp only [Value.slice.injEq] at e
    obtain ⟨rfl, _, rfl⟩ := e
    refine .inr ⟨if cap = lo then a else a.add (lo * 5), cap - lo, ?_, by omega, fun h0 => ?_⟩
    · rw [hlen]
      unfold sliced
      split <;> rfl
    · rw [hlen] at h0
      obtain ⟨b, o, rfl, hs⟩ := h2 (by omega)
      by_cases hc : cap = lo
      · omega
      · rw [if_neg hc]
        exact ⟨b, o + lo * 5, Go.WideShapes.add_plain .., (hs.drop lo).take (hi - lo)⟩
theorem rslice_run (ad : Option Addr) (n cap : Nat) (lo hi : Option Value) (l h : Nat) (W : World) (hb : (Instr.sliceBounds true n cap lo hi none).run Tryd.prog W = .ok (l, h, cap) W) : (Instr.sliceAt 28 (.slice ad n cap) lo hi none).run Tryd.prog W = .ok (sliced ad l h cap 5) W := by
  have hs : (sizeOf 27).run Tryd.prog W = .ok 5 W := by
    simp [sizeOf]
    rfl
  rw [run_sliceAt_slice W _ _ _ _ _ Tryd.underlying28, run_slice_any W _ _ _ _ Tryd.underlying28, hb]
  simp only [Result.andThen]
  rw [show Tryd.prog.elem 28 = 27 by kernel_rfl, hs]

/-- What the chapter's Sort answers. -/
def refsortT (l : List Rc) (w : World) (e : Ending) (w' : World) : Prop :=
  ∃ v m, e = .returned v ∧ ORow w' w.heap.size v m ∧ Sorts l m ∧ Below w.heap.size w w'

theorem sorts_nil : Sorts [] [] := ⟨List.Pairwise.nil, Cls.refl _, rfl⟩

set_option maxHeartbeats 8000000 in
set_option maxRecDepth 100000 in
theorem refsort_c (l : List Rc) (v : Value) (w : World) (h : Rl w v l) (hn : l.length ≤ 1000) : Calls Tryd.prog 10 #[v] w (refsortT l w) := by
  obtain ⟨ad, cap, rfl, hcap, hb⟩ := h.form
  have HL := Lib.hid hb
  have HRL := Lib.hid h
  clear h hb
  go_enter Tryd.func10, Tryd.ntmps10
  go_wp2
  go_loopw [3, 4] (fun v3 v4 wr => ∃ (i : Nat) (m : List Rc), i ≤ l.length ∧ v4 = .int .i64 (i : Int) ∧ Hid (m.length = i) ∧ Hid (Sorts (l.take i) m) ∧ Hid (ORow wr w.heap.size v3 m) ∧ Hid (Below w.heap.size w wr)) (fun _ v4 _ => l.length - (RowKit.intOf v4).toNat)
  case atStart => exact ⟨0, [], by omega, rfl, Lib.hid rfl, Lib.hid sorts_nil, Lib.hid (ORow.nil _ _), Lib.hid (Below.refl _ _)⟩
  case round =>
    obtain ⟨i, m, hi, rfl, hm, HS, HO, HB⟩ := hrel
    obtain ⟨w0, rfl⟩ : ∃ w0, w0 = wr := ⟨_, rfl⟩
    obtain ⟨ad3, cap3, rfl, hcap3, hb3⟩ := HO.out.rl.form
    have HL3 := Lib.hid hb3
    clear hb3
    by_cases hp : i < l.length
    · obtain ⟨b, o, rfl, hR⟩ := HL.out (by omega)
      have HC : Hid (∀ W, Below w.heap.size w W → W.cell? ⟨b, o + i * 5, none⟩ = some (.int .i64 l[i].o) ∧ W.cell? ⟨b, o + i * 5 + 1, none⟩ = some (.int .i64 l[i].s) ∧ W.cell? ⟨b, o + i * 5 + 2, none⟩ = some (.int .i64 l[i].w) ∧ W.cell? ⟨b, o + i * 5 + 3, none⟩ = some (.int .i64 l[i].c) ∧ W.cell? ⟨b, o + i * 5 + 4, none⟩ = some (.string l[i].t)) := Lib.hid (fun W hb => (hR.below hb) i hp)
      have HT : Hid (l.take (i + 1) = l.take i ++ [l[i]]) := Lib.hid (List.take_succ_eq_append_getElem hp)
      clear hR HL
      obtain ⟨r, hr⟩ : ∃ r, r = l[i] := ⟨_, rfl⟩
      rw [← hr] at HC HT
      clear hr
      have hm1 : m.length ≤ 1000 := by have := hm.out; omega
      go_wp2
      go_loopw [5] (fun v5 wr => ∃ (k : Nat), k ≤ m.length ∧ v5 = .int .i64 (k : Int) ∧ Hid (∀ x ∈ m.drop k, lessR r x = true) ∧ Hid (Below w0.heap.size w0 wr)) (fun v5 _ => (RowKit.intOf v5).toNat)
      case atStart => exact ⟨m.length, Nat.le_refl _, rfl, Lib.hid (fun x hx => by simp at hx), Lib.hid (Below.refl _ _)⟩
      case round =>
        obtain ⟨k, hk, rfl, HU, HB2⟩ := hrel
        have HBB : Hid (Below w.heap.size w wr) := Lib.hid (bn HB.out HB2.out)
        have HO2 : Hid (ORow wr w.heap.size (.slice ad3 m.length cap3) m) := Lib.hid (HO.out.below HB2.out)
        -- ROUND
        by_cases hk0 : 0 < k
        · obtain ⟨jp, hkj⟩ : ∃ jp, k = jp + 1 := ⟨k - 1, by omega⟩
          obtain ⟨g, o3, rfl, hR3⟩ := HL3.out (by omega)
          have jz1 : (jp : Int) < (m.length : Int) := by omega
          have iz1 : (i : Int) < (l.length : Int) := by omega
          have hjm : jp < m.length := by omega
          obtain ⟨Y, hY⟩ : ∃ Y, Y = m[jp] := ⟨_, rfl⟩
          have HY := Lib.hid hY
          have HS6 : Hid (∀ W, Below wr.heap.size wr W → (fun W => W.cell? ⟨b, o + i * 5, none⟩ = some (.int .i64 r.o) ∧ W.cell? ⟨b, o + i * 5 + 1, none⟩ = some (.int .i64 r.s) ∧ W.cell? ⟨b, o + i * 5 + 2, none⟩ = some (.int .i64 r.w) ∧ W.cell? ⟨b, o + i * 5 + 3, none⟩ = some (.int .i64 r.c) ∧ W.cell? ⟨b, o + i * 5 + 4, none⟩ = some (.string r.t) ∧ W.cell? ⟨g, o3 + jp * 5, none⟩ = some (.int .i64 Y.o) ∧ W.cell? ⟨g, o3 + jp * 5 + 1, none⟩ = some (.int .i64 Y.s) ∧ W.cell? ⟨g, o3 + jp * 5 + 2, none⟩ = some (.int .i64 Y.w) ∧ W.cell? ⟨g, o3 + jp * 5 + 3, none⟩ = some (.int .i64 Y.c) ∧ W.cell? ⟨g, o3 + jp * 5 + 4, none⟩ = some (.string Y.t)) W) := Lib.hid (fun W hb => by
            obtain ⟨c0, c1, c2, c3, c4⟩ := HC.out W (bn HBB.out hb)
            have h3 := (hR3.below (bn HB2.out hb)) jp hjm
            rw [← hY] at h3
            exact ⟨c0, c1, c2, c3, c4, h3⟩)
          have HLS := Lib.hid (fun W => refless_c r Y W)
          clear hR3 hY
          cases hL : lessR r Y
          · rw [hL] at HLS
            have HD : Hid (∀ (_ : 0 < k) (h1 : k - 1 < m.length), lessR r (m[k - 1]'h1) = false) := Lib.hid (fun _ h1 => by subst hkj; rw [← hL, HY.out]; rfl)
            have hwp : IntKind.i64.wrap ((k : Int) - 1) = (jp : Int) := by rw [IntKind.wrap_i64]; omega
            have t1 : decide (0 < k) = true := by simpa using hk0
            have t2 : decide ((0 : Int) < (k : Int)) = true := by simp; omega
            clear hL
            clear hkj
            go_wp2_with fail
            go_region_held3 (fun W => W.cell? ⟨b, o + i * 5, none⟩ = some (.int .i64 r.o) ∧ W.cell? ⟨b, o + i * 5 + 1, none⟩ = some (.int .i64 r.s) ∧ W.cell? ⟨b, o + i * 5 + 2, none⟩ = some (.int .i64 r.w) ∧ W.cell? ⟨b, o + i * 5 + 3, none⟩ = some (.int .i64 r.c) ∧ W.cell? ⟨b, o + i * 5 + 4, none⟩ = some (.string r.t) ∧ W.cell? ⟨g, o3 + jp * 5, none⟩ = some (.int .i64 Y.o) ∧ W.cell? ⟨g, o3 + jp * 5 + 1, none⟩ = some (.int .i64 Y.s) ∧ W.cell? ⟨g, o3 + jp * 5 + 2, none⟩ = some (.int .i64 Y.w) ∧ W.cell? ⟨g, o3 + jp * 5 + 3, none⟩ = some (.int .i64 Y.c) ∧ W.cell? ⟨g, o3 + jp * 5 + 4, none⟩ = some (.string Y.t)) (exact HS6.out _ (by first | assumption | exact Below.refl _ _ | exact (Below.refl _ _).drew | exact alloc_below _ _ | exact (alloc_below _ _).drew))
              (first
              | (go_at_call 17; refine (HLS.out _).mono ?_; rintro e w5 ⟨rfl, b5⟩; have b5' : Below wr.heap.size wr w5 := bn (by first | assumption | exact (Below.refl _ _).drew | exact Below.refl _ _) b5; clear b5)
              | fail)
            have HO8 := Lib.hid (HO2.out.below b5')
            have HB8 := Lib.hid (bn HBB.out b5')
            clear b5' HS6 HLS HY hwp jz1
            obtain ⟨W0, hW0⟩ : ∃ W0, W0 = w5 := ⟨_, rfl⟩
            rw [← hW0] at HO8 HB8
            obtain ⟨A1, N1, C1, hV1⟩ : ∃ A1 N1 C1, sliced (some ⟨g, o3, none⟩) 0 k cap3 5 = .slice A1 N1 C1 := ⟨_, _, _, rfl⟩
            obtain ⟨A3, N3, C3, hV3⟩ : ∃ A3 N3 C3, sliced (some ⟨g, o3, none⟩) k m.length cap3 5 = .slice A3 N3 C3 := ⟨_, _, _, rfl⟩
            have r1 : ∀ W, (Instr.sliceAt 28 (.slice (some ⟨g, o3, none⟩) m.length cap3) none (some (.int .i64 (k : Int))) none).run Tryd.prog W = .ok (.slice A1 N1 C1) W := fun W => by
              rw [← hV1]
              exact rslice_run (some ⟨g, o3, none⟩) _ cap3 _ _ _ _ W (by simp [Instr.sliceBounds, run_sliceBound_if, show k ≤ cap3 by omega])
            have r3 : ∀ W, (Instr.sliceAt 28 (.slice (some ⟨g, o3, none⟩) m.length cap3) (some (.int .i64 (k : Int))) none none).run Tryd.prog W = .ok (.slice A3 N3 C3) W := fun W => by
              rw [← hV3]
              exact rslice_run (some ⟨g, o3, none⟩) _ cap3 _ _ _ _ W (by simp [Instr.sliceBounds, run_sliceBound_if, hk])
            have HV1 : Hid (∀ W, Below W0.heap.size W0 W → Rl W (.slice A1 N1 C1) (m.take k)) := Lib.hid (fun W hb => by
              have h := (rl_sliced HO8.out.rl 0 k (by omega) hk).below hb
              rwa [hV1, List.drop_zero, Nat.sub_zero] at h)
            have HV3 : Hid (∀ W, Below W0.heap.size W0 W → Rl W (.slice A3 N3 C3) (m.drop k)) := Lib.hid (fun W hb => by
              have h := (rl_sliced HO8.out.rl k m.length hk (Nat.le_refl _)).below hb
              rwa [hV3, List.take_of_length_le (by simp)] at h)
            have HC8 : Hid (∀ W, Below W0.heap.size W0 W → W.cell? ⟨b, o + i * 5, none⟩ = some (.int .i64 r.o) ∧ W.cell? ⟨b, o + i * 5 + 1, none⟩ = some (.int .i64 r.s) ∧ W.cell? ⟨b, o + i * 5 + 2, none⟩ = some (.int .i64 r.w) ∧ W.cell? ⟨b, o + i * 5 + 3, none⟩ = some (.int .i64 r.c) ∧ W.cell? ⟨b, o + i * 5 + 4, none⟩ = some (.string r.t)) := Lib.hid (fun W hb => HC.out W (HB8.out.trans (hb.mono HB8.out.size)))
            have HSI : Hid (Sorts (l.take (i + 1)) (m.take k ++ r :: m.drop k)) := Lib.hid (by rw [HT.out]; exact sorts_insert HS.out hk HU.out (fun h0 => HD.out h0 _))
            have hlk : (m.take k).length ≤ 1000 := by rw [List.length_take]; omega
            have hlk2 : (m.drop k).length ≤ 1000 := by rw [List.length_drop]; omega
            clear hV1 hV3 HC HS HT HU HD HL3 HO HB
            go_wp2_with fail
            rw [← hW0]
            clear hW0
            go_region_held3 (fun W => W.cell? ⟨b, o + i * 5, none⟩ = some (.int .i64 r.o) ∧ W.cell? ⟨b, o + i * 5 + 1, none⟩ = some (.int .i64 r.s) ∧ W.cell? ⟨b, o + i * 5 + 2, none⟩ = some (.int .i64 r.w) ∧ W.cell? ⟨b, o + i * 5 + 3, none⟩ = some (.int .i64 r.c) ∧ W.cell? ⟨b, o + i * 5 + 4, none⟩ = some (.string r.t)) (exact HC8.out _ (by first | assumption | exact Below.refl _ _ | exact (Below.refl _ _).drew | exact alloc_below _ _ | exact (alloc_below _ _).drew | exact ba.alloc ba.size _ | exact (ba.alloc ba.size _).drew))
              (first
              | (refine step_rapp rfl _ _ rfl W0.heap.size vb (.slice A3 N3 C3) (m.take k ++ [r]) (m.drop k) rfl rfl (by exact hrb) (HV3.out _ (by exact bb)) (by simp; omega) (by exact bb.size) ?_; intro vc wc hrc hgc; have bc : Below W0.heap.size W0 wc := bb.trans (below_of_grown hgc bb.size (fun g hg => (World.ownsRow.lt hrb g hg).1)))
              | (refine step_rapp rfl _ _ rfl W0.heap.size va (.slice (some ⟨W0.heap.size, 0, none⟩) 1 1) (m.take k) [r] rfl rfl (by exact hra) (by exact rl_one _ _ r ((hga.block W0.heap.size (by simp) (by intro h; cases h)).trans (Bx.new 27 W0 _))) (by simp; omega) (by exact ba.size) ?_; intro vb wb hrb hgb; have bb : Below W0.heap.size W0 wb := ba.trans (below_of_grown hgb ba.size (fun g hg => (World.ownsRow.lt hra g hg).1)))
              | (refine step_rapp rfl _ _ rfl W0.heap.size va (.slice (some ⟨wa.heap.size, 0, none⟩) 1 1) (m.take k) [r] rfl rfl (by first | exact hra.below (alloc_below _ _) | exact hra.below (alloc_below _ _).drew) (by exact rl_one _ _ r (Bx.new 27 wa _)) (by simp; omega) (by first | exact (ba.alloc ba.size _).size | exact (ba.alloc ba.size _).drew.size) ?_; intro vb wb hrb hgb; have bb : Below W0.heap.size W0 wb := (ba.alloc ba.size _).trans (below_of_grown hgb (ba.alloc ba.size _).size (fun g hg => (World.ownsRow.lt hra g hg).1)))
              | (refine step_rapp rfl _ _ rfl W0.heap.size (.slice none 0 0) (.slice A1 N1 C1) [] (m.take k) rfl rfl (ORow.nil _ _) (HV1.out _ (by first | assumption | exact Below.refl _ _ | exact (Below.refl _ _).drew | exact alloc_below _ _ | exact (alloc_below _ _).drew)) (by simp; omega) (by first | exact Nat.le_refl _ | (simp; done)) ?_; intro va wa hra hga; have ba : Below W0.heap.size W0 wa := bn (by first | assumption | exact Below.refl _ _ | exact (Below.refl _ _).drew | exact alloc_below _ _ | exact (alloc_below _ _).drew) (below_of_grown hga (Nat.le_refl _) (by intro g hg; cases hg)))
              | fail)
            all_goals
              go_wp2
              go_roundw
              case rel => exact ⟨i + 1, m.take k ++ r :: m.drop k, hp, by go_num, Lib.hid (by have := hm.out; simp; omega), HSI, Lib.hid (by have h := hrc.mono HB8.out.size; rwa [List.append_assoc] at h), Lib.hid (HB8.out.trans (bc.mono HB8.out.size))⟩
              case measure => simp [RowKit.intOf]; omega
          · subst hkj
            have t1 : decide (0 < jp + 1) = true := by simp
            have t2 : decide ((0 : Int) < (jp : Int) + 1) = true := decide_eq_true (by omega)
            have t3 : decide ((0 : Int) < ((jp + 1 : Nat) : Int)) = true := by simp
            have hwp : IntKind.i64.wrap (jp : Int) = (jp : Int) := by rw [IntKind.wrap_i64]; omega
            rw [hL] at HLS
            have HU2 : Hid (∀ x ∈ m.drop jp, lessR r x = true) := Lib.hid (fun x hx => by
              rw [List.drop_eq_getElem_cons hjm] at hx
              rcases List.mem_cons.1 hx with rfl | hx
              · rw [← HY.out]; exact hL
              · exact HU.out x hx)
            clear hL
            go_wp2_with fail
            go_region_held3 (fun W => W.cell? ⟨b, o + i * 5, none⟩ = some (.int .i64 r.o) ∧ W.cell? ⟨b, o + i * 5 + 1, none⟩ = some (.int .i64 r.s) ∧ W.cell? ⟨b, o + i * 5 + 2, none⟩ = some (.int .i64 r.w) ∧ W.cell? ⟨b, o + i * 5 + 3, none⟩ = some (.int .i64 r.c) ∧ W.cell? ⟨b, o + i * 5 + 4, none⟩ = some (.string r.t) ∧ W.cell? ⟨g, o3 + jp * 5, none⟩ = some (.int .i64 Y.o) ∧ W.cell? ⟨g, o3 + jp * 5 + 1, none⟩ = some (.int .i64 Y.s) ∧ W.cell? ⟨g, o3 + jp * 5 + 2, none⟩ = some (.int .i64 Y.w) ∧ W.cell? ⟨g, o3 + jp * 5 + 3, none⟩ = some (.int .i64 Y.c) ∧ W.cell? ⟨g, o3 + jp * 5 + 4, none⟩ = some (.string Y.t)) (exact HS6.out _ (by first | assumption | exact Below.refl _ _ | exact (Below.refl _ _).drew | exact alloc_below _ _ | exact (alloc_below _ _).drew))
              (first
              | (go_at_call 17; refine (HLS.out _).mono ?_; rintro e w5 ⟨rfl, b5⟩; have b5' : Below wr.heap.size wr w5 := bn (by first | assumption | exact (Below.refl _ _).drew | exact Below.refl _ _) b5; clear b5)
              | fail)
            go_wp2
            go_roundw
            case rel => exact ⟨jp, by omega, by go_num, HU2, Lib.hid (bn HB2.out b5')⟩
            case measure => simp [RowKit.intOf]
        · have t2 : decide ((0 : Int) < (k : Int)) = false := by simp; omega
          have t1 : decide (0 < k) = false := by simp; omega
          have HD : Hid (∀ (_ : 0 < k) (h1 : k - 1 < m.length), lessR r (m[k - 1]'h1) = false) := Lib.hid (fun h0 _ => absurd h0 hk0)
          go_wp2_with fail
          go_quiet (fail)
          have HO8 := Lib.hid (HO2.out.below (below_drewN (Below.refl _ wr) nq))
          have HB8 := Lib.hid (below_drewN HBB.out nq)
          obtain ⟨W0, hW0⟩ : ∃ W0, W0 = wr.drewN nq := ⟨_, rfl⟩
          rw [← hW0] at HO8 HB8
          obtain ⟨A1, N1, C1, hV1⟩ : ∃ A1 N1 C1, sliced ad3 0 k cap3 5 = .slice A1 N1 C1 := ⟨_, _, _, rfl⟩
          obtain ⟨A3, N3, C3, hV3⟩ : ∃ A3 N3 C3, sliced ad3 k m.length cap3 5 = .slice A3 N3 C3 := ⟨_, _, _, rfl⟩
          have r1 : ∀ W, (Instr.sliceAt 28 (.slice ad3 m.length cap3) none (some (.int .i64 (k : Int))) none).run Tryd.prog W = .ok (.slice A1 N1 C1) W := fun W => by
            rw [← hV1]
            exact rslice_run ad3 _ cap3 _ _ _ _ W (by simp [Instr.sliceBounds, run_sliceBound_if, show k ≤ cap3 by omega])
          have r3 : ∀ W, (Instr.sliceAt 28 (.slice ad3 m.length cap3) (some (.int .i64 (k : Int))) none none).run Tryd.prog W = .ok (.slice A3 N3 C3) W := fun W => by
            rw [← hV3]
            exact rslice_run ad3 _ cap3 _ _ _ _ W (by simp [Instr.sliceBounds, run_sliceBound_if, hk])
          have HV1 : Hid (∀ W, Below W0.heap.size W0 W → Rl W (.slice A1 N1 C1) (m.take k)) := Lib.hid (fun W hb => by
            have h := (rl_sliced HO8.out.rl 0 k (by omega) hk).below hb
            rwa [hV1, List.drop_zero, Nat.sub_zero] at h)
          have HV3 : Hid (∀ W, Below W0.heap.size W0 W → Rl W (.slice A3 N3 C3) (m.drop k)) := Lib.hid (fun W hb => by
            have h := (rl_sliced HO8.out.rl k m.length hk (Nat.le_refl _)).below hb
            rwa [hV3, List.take_of_length_le (by simp)] at h)
          have HC8 : Hid (∀ W, Below W0.heap.size W0 W → W.cell? ⟨b, o + i * 5, none⟩ = some (.int .i64 r.o) ∧ W.cell? ⟨b, o + i * 5 + 1, none⟩ = some (.int .i64 r.s) ∧ W.cell? ⟨b, o + i * 5 + 2, none⟩ = some (.int .i64 r.w) ∧ W.cell? ⟨b, o + i * 5 + 3, none⟩ = some (.int .i64 r.c) ∧ W.cell? ⟨b, o + i * 5 + 4, none⟩ = some (.string r.t)) := Lib.hid (fun W hb => HC.out W (HB8.out.trans (hb.mono HB8.out.size)))
          have HSI : Hid (Sorts (l.take (i + 1)) (m.take k ++ r :: m.drop k)) := Lib.hid (by rw [HT.out]; exact sorts_insert HS.out hk HU.out (fun h0 => HD.out h0 _))
          have hlk : (m.take k).length ≤ 1000 := by rw [List.length_take]; omega
          have hlk2 : (m.drop k).length ≤ 1000 := by rw [List.length_drop]; omega
          clear hV1 hV3 HC HS HT HU HD HL3 HO HB
          go_wp2_with fail
          rw [← hW0]
          clear hW0
          go_region_held3 (fun W => W.cell? ⟨b, o + i * 5, none⟩ = some (.int .i64 r.o) ∧ W.cell? ⟨b, o + i * 5 + 1, none⟩ = some (.int .i64 r.s) ∧ W.cell? ⟨b, o + i * 5 + 2, none⟩ = some (.int .i64 r.w) ∧ W.cell? ⟨b, o + i * 5 + 3, none⟩ = some (.int .i64 r.c) ∧ W.cell? ⟨b, o + i * 5 + 4, none⟩ = some (.string r.t)) (exact HC8.out _ (by first | assumption | exact Below.refl _ _ | exact (Below.refl _ _).drew | exact alloc_below _ _ | exact (alloc_below _ _).drew | exact ba.alloc ba.size _ | exact (ba.alloc ba.size _).drew))
            (first
            | (refine step_rapp rfl _ _ rfl W0.heap.size vb (.slice A3 N3 C3) (m.take k ++ [r]) (m.drop k) rfl rfl (by exact hrb) (HV3.out _ (by exact bb)) (by simp; omega) (by exact bb.size) ?_; intro vc wc hrc hgc; have bc : Below W0.heap.size W0 wc := bb.trans (below_of_grown hgc bb.size (fun g hg => (World.ownsRow.lt hrb g hg).1)))
            | (refine step_rapp rfl _ _ rfl W0.heap.size va (.slice (some ⟨W0.heap.size, 0, none⟩) 1 1) (m.take k) [r] rfl rfl (by exact hra) (by exact rl_one _ _ r ((hga.block W0.heap.size (by simp) (by intro h; cases h)).trans (Bx.new 27 W0 _))) (by simp; omega) (by exact ba.size) ?_; intro vb wb hrb hgb; have bb : Below W0.heap.size W0 wb := ba.trans (below_of_grown hgb ba.size (fun g hg => (World.ownsRow.lt hra g hg).1)))
            | (refine step_rapp rfl _ _ rfl W0.heap.size va (.slice (some ⟨wa.heap.size, 0, none⟩) 1 1) (m.take k) [r] rfl rfl (by first | exact hra.below (alloc_below _ _) | exact hra.below (alloc_below _ _).drew) (by exact rl_one _ _ r (Bx.new 27 wa _)) (by simp; omega) (by first | exact (ba.alloc ba.size _).size | exact (ba.alloc ba.size _).drew.size) ?_; intro vb wb hrb hgb; have bb : Below W0.heap.size W0 wb := (ba.alloc ba.size _).trans (below_of_grown hgb (ba.alloc ba.size _).size (fun g hg => (World.ownsRow.lt hra g hg).1)))
            | (refine step_rapp rfl _ _ rfl W0.heap.size (.slice none 0 0) (.slice A1 N1 C1) [] (m.take k) rfl rfl (ORow.nil _ _) (HV1.out _ (by first | assumption | exact Below.refl _ _ | exact (Below.refl _ _).drew | exact alloc_below _ _ | exact (alloc_below _ _).drew)) (by simp; omega) (by first | exact Nat.le_refl _ | (simp; done)) ?_; intro va wa hra hga; have ba : Below W0.heap.size W0 wa := bn (by first | assumption | exact Below.refl _ _ | exact (Below.refl _ _).drew | exact alloc_below _ _ | exact (alloc_below _ _).drew) (below_of_grown hga (Nat.le_refl _) (by intro g hg; cases hg)))
            | fail)
          all_goals
            go_wp2
            go_roundw
            case rel => exact ⟨i + 1, m.take k ++ r :: m.drop k, hp, by go_num, Lib.hid (by have := hm.out; simp; omega), HSI, Lib.hid (by have h := hrc.mono HB8.out.size; rwa [List.append_assoc] at h), Lib.hid (HB8.out.trans (bc.mono HB8.out.size))⟩
            case measure => simp [RowKit.intOf]; omega
    · have hil : i = l.length := by omega
      subst hil
      rw [List.take_length] at HS
      go_wp2
      go_ret
      exact ⟨_, m, rfl, HO.out, HS.out, HB.out⟩
end Go.Proofs.YtkmcieiglhdjeaaDoor

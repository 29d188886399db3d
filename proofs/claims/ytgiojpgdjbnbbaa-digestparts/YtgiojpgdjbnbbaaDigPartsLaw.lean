/-
  DigestParts: the walk.
-/
import Derived.Test.YtgiojpgdjbnbbaaDigMath
namespace Go.Proofs.Ytgiojpgdjbnbbaa
open Go.RowKit Go.Lib

def mx (a b : Int) : Int := if b > a then b else a
def mn (a b : Int) : Int := if b < a then b else a
theorem max2_run (x y : Int) (ts : Array TypeId) (t : TypeId) (W : World) : (Builtin.max_ ts t #[.int .i64 x, .int .i64 y]).run Try.prog W = .ok (.int .i64 (mx x y)) W := by
  rw [run_max_int2]; rfl
theorem min2_run (x y : Int) (ts : Array TypeId) (t : TypeId) (W : World) : (Builtin.min_ ts t #[.int .i64 x, .int .i64 y]).run Try.prog W = .ok (.int .i64 (mn x y)) W := by
  rw [run_min_int2]; rfl
theorem min_max (x y : Nat) : ∃ lo hi : Nat, lo ≤ hi ∧ hi = max x y ∧ mn x y = (lo : Int) ∧ mx x y = (hi : Int) := by
  refine ⟨min x y, max x y, by omega, rfl, ?_, ?_⟩
  · unfold mn; split <;> omega
  · unfold mx; split <;> omega

/-- A piece of bytes holds the piece of them. -/
theorem bl_sliced {w : World} {ad : Option Addr} {cap : Nat} {l : List Int} (h : Bl w (.slice ad l.length cap) l) (hcap : l.length ≤ cap) (lo hi : Nat) (hlh : lo ≤ hi) (hhi : hi ≤ l.length) : Bl w (sliced ad lo hi cap 1) ((l.drop lo).take (hi - lo)) := by
  have hlen : ((l.drop lo).take (hi - lo)).length = hi - lo := by simp; omega
  have hlen2 : (List.take (hi - lo) (List.drop lo l)).length = hi - lo := hlen
  rcases h with ⟨e, rfl⟩ | ⟨a, c, e, h2⟩
  · simp only [Value.slice.injEq] at e
    obtain ⟨rfl, _, rfl⟩ := e
    simp at hhi
    subst hhi
    obtain rfl : lo = 0 := by omega
    exact .inl ⟨rfl, rfl⟩
  · simp only [Value.slice.injEq] at e
    obtain ⟨rfl, _, rfl⟩ := e
    refine .inr ⟨if cap = lo then a else a.add (lo * 1), cap - lo, ?_, fun h0 => ?_⟩
    · rw [hlen2]
      unfold sliced
      split <;> rfl
    · rw [hlen2] at h0
      obtain ⟨b, o, rfl, hs⟩ := h2 (by omega)
      by_cases hc : cap = lo
      · omega
      · rw [if_neg hc]
        refine ⟨b, o + lo, by rw [Nat.mul_one]; exact Go.WideShapes.add_plain .., fun k hk => ?_⟩
        rw [hlen2] at hk
        rw [List.getElem_take, List.getElem_drop, Nat.add_assoc]
        exact hs (lo + k) (by omega)
theorem slice_any_run (ad : Option Addr) (n cap : Nat) (lo hi : Option Value) (l h : Nat) (W : World) (hb : (Instr.sliceBounds true n cap lo hi none).run Try.prog W = .ok (l, h, cap) W) : (Instr.sliceAt 32 (.slice ad n cap) lo hi none).run Try.prog W = .ok (sliced ad l h cap 1) W := by
  have hs : (sizeOf 5).run Try.prog W = .ok 1 W := by
    simp [sizeOf]
    rfl
  rw [run_sliceAt_slice W _ _ _ _ _ Try.underlying32, run_slice_any W _ _ _ _ Try.underlying32, hb]
  simp only [Result.andThen]
  rw [show Try.prog.elem 32 = 5 by kernel_rfl, hs]

set_option maxHeartbeats 8000000 in
theorem parts_long (l : List Int) (ad : Option Addr) (cap : Nat) (i k b : Int) (w : World) (hl : 300 < l.length) :
    Calls Try.prog 4 #[.slice ad l.length cap, .int .i64 i, .int .i64 k, .int .u8 b] w fun e w' => e = .returned (.bool true) ∧ Below w.heap.size w w' := by
  have e1 : decide ((300 : Int) < (l.length : Int)) = true := by simp; omega
  have e2 : decide (300 < l.length) = true := by simp; omega
  go_enter Try.func4, Try.ntmps4
  go_wp2_with fail
  refine (awake_c w).mono ?_
  rintro e w3 ⟨rfl, b3⟩
  go_wp2
  go_ret
  exact ⟨rfl, b3⟩

set_option maxHeartbeats 8000000 in
theorem parts_some (l : List Int) (ad : Option Addr) (cap : Nat) (i k b : Int) (w : World) (hl : l.length ≤ 300) (hB : Bl w (.slice ad l.length cap) l) (hc : l.length ≤ cap) (ok : OkB l) (hb : 0 ≤ b ∧ b < 256) :
    Calls Try.prog 4 #[.slice ad l.length cap, .int .i64 i, .int .i64 k, .int .u8 b] w fun e w' => e = .returned (.bool true) ∧ Below w.heap.size w w' := by
  have e1 : decide ((300 : Int) < (l.length : Int)) = false := by simp; omega
  have e2 : decide (300 < l.length) = false := by simp; omega
  have HB := Lib.hid hB
  have HOK := Lib.hid ok
  clear hB ok
  obtain ⟨R, hR⟩ : ∃ R, fnv 14695981039346656037 l = R := ⟨_, rfl⟩
  have HR := Lib.hid hR
  clear hR
  go_enter Try.func4, Try.ntmps4
  go_wp2_with fail
  refine (low_c i ((l.length : Int) + 1) w (by omega) (by omega)).mono ?_
  rintro e w1 ⟨x, rfl, hx0, hx1, rfl⟩
  obtain ⟨x, rfl⟩ : ∃ k : Nat, x = ((k : Nat) : Int) := ⟨x.toNat, by omega⟩
  go_wp2_with fail
  refine (low_c k ((l.length : Int) + 1) w (by omega) (by omega)).mono ?_
  rintro e w1 ⟨y, rfl, hy0, hy1, rfl⟩
  obtain ⟨y, rfl⟩ : ∃ k : Nat, y = ((k : Nat) : Int) := ⟨y.toNat, by omega⟩
  obtain ⟨lo, hi, hlh, hhi, em, eM⟩ := min_max x y
  have hhl : hi ≤ l.length := by omega
  have hmin := min2_run (x : Int) (y : Int)
  have hmax := max2_run (x : Int) (y : Int)
  rw [em] at hmin
  rw [eM] at hmax
  clear em eM hhi hx0 hy0 hy1
  go_wp2_with fail
  clear hmin hmax
  have hof1 : ∀ (W : World) (u : Value) (hu : Bl W u l), Calls Try.prog 8 #[.slice (some ⟨W.heap.size, 0, none⟩) 1 1] (W.alloc (.cells #[u] 32)) fun e w' => e = .returned (.int .u64 R) ∧ W.alloc (.cells #[u] 32) = w' := fun W u hu => by
    have h := of_c [l] _ _ (pl_one (cap := 1) (Bx.new 32 W #[u]) (hu.below (alloc_below _ _))) (by simp) (by simpa using by omega)
    rw [show fnvs 14695981039346656037 [l] = R by rw [← HR.out]; rfl] at h
    exact h
  have HOF1 := Lib.hid hof1
  clear hof1
  refine (HOF1.out _ _ HB.out).mono ?_
  rintro e w1 ⟨rfl, rfl⟩
  go_wp2_with fail
  obtain ⟨A1, N1, C1, hV1⟩ : ∃ A1 N1 C1, sliced ad 0 lo cap 1 = .slice A1 N1 C1 := ⟨_, _, _, rfl⟩
  obtain ⟨A2, N2, C2, hV2⟩ : ∃ A2 N2 C2, sliced ad lo hi cap 1 = .slice A2 N2 C2 := ⟨_, _, _, rfl⟩
  obtain ⟨A3, N3, C3, hV3⟩ : ∃ A3 N3 C3, sliced ad hi l.length cap 1 = .slice A3 N3 C3 := ⟨_, _, _, rfl⟩
  have r1 : ∀ W, (Instr.sliceAt 32 (.slice ad l.length cap) none (some (.int .i64 (lo : Int))) none).run Try.prog W = .ok (.slice A1 N1 C1) W := fun W => by
    rw [← hV1]
    exact slice_any_run ad _ cap _ _ _ _ W (by simp [Instr.sliceBounds, run_sliceBound_if, show lo ≤ cap by omega])
  have r2 : ∀ W, (Instr.sliceAt 32 (.slice ad l.length cap) (some (.int .i64 (lo : Int))) (some (.int .i64 (hi : Int))) none).run Try.prog W = .ok (.slice A2 N2 C2) W := fun W => by
    rw [← hV2]
    exact slice_any_run ad _ cap _ _ _ _ W (by simp [Instr.sliceBounds, run_sliceBound_if, hlh, show hi ≤ cap by omega])
  have r3 : ∀ W, (Instr.sliceAt 32 (.slice ad l.length cap) (some (.int .i64 (hi : Int))) none none).run Try.prog W = .ok (.slice A3 N3 C3) W := fun W => by
    rw [← hV3]
    exact slice_any_run ad _ cap _ _ _ _ W (by simp [Instr.sliceBounds, run_sliceBound_if, hhl])
  obtain ⟨W0, hW0⟩ : ∃ W0, W0 = w.alloc (.cells #[.slice ad l.length cap] 32) := ⟨_, rfl⟩
  rw [← hW0]
  have HB0 : Hid (Bl W0 (.slice ad l.length cap) l) := Lib.hid (by rw [hW0]; exact HB.out.below (alloc_below _ _))
  have HBW : Hid (Below w.heap.size w W0) := Lib.hid (by rw [hW0]; exact alloc_below _ _)
  have HOP : Hid (Calls Try.prog 8 #[.slice (some ⟨W0.heap.size, 0, none⟩) 4 4] ((W0.alloc (.cells #[.slice A1 N1 C1, .slice A2 N2 C2, .slice none 0 0, .slice A3 N3 C3] 32)).drew) fun e w' => e = .returned (.int .u64 R) ∧ Below W0.heap.size W0 w') := Lib.hid (by
    have hx := Bx.new 32 W0 #[.slice A1 N1 C1, .slice A2 N2 C2, .slice none 0 0, .slice A3 N3 C3]
    have p1 : Bl W0 (.slice A1 N1 C1) (l.take lo) := by have := bl_sliced HB0.out hc 0 lo (by omega) (by omega); rwa [hV1, List.drop_zero, Nat.sub_zero] at this
    have p2 : Bl W0 (.slice A2 N2 C2) ((l.drop lo).take (hi - lo)) := by have := bl_sliced HB0.out hc lo hi hlh hhl; rwa [hV2] at this
    have p3 : Bl W0 (.slice A3 N3 C3) (l.drop hi) := by have := bl_sliced HB0.out hc hi l.length hhl (Nat.le_refl _); rwa [hV3, List.take_of_length_le (by simp)] at this
    have hb := alloc_below W0 (.cells #[.slice A1 N1 C1, .slice A2 N2 C2, .slice none 0 0, .slice A3 N3 C3] 32)
    have hp : Pl (W0.alloc (.cells #[.slice A1 N1 C1, .slice A2 N2 C2, .slice none 0 0, .slice A3 N3 C3] 32)).drew (.slice (some ⟨W0.heap.size, 0, none⟩) 4 4) [l.take lo, (l.drop lo).take (hi - lo), [], l.drop hi] :=
      ⟨some ⟨W0.heap.size, 0, none⟩, 4, rfl, fun _ => ⟨W0.heap.size, 0, rfl, fun k hk => by
        match k, hk with
        | 0, _ => exact ⟨_, by rw [Nat.zero_add]; exact hx.cell 0, p1.below hb.drew⟩
        | 1, _ => exact ⟨_, by rw [Nat.zero_add]; exact hx.cell 1, p2.below hb.drew⟩
        | 2, _ => exact ⟨_, by rw [Nat.zero_add]; exact hx.cell 2, .inl ⟨rfl, rfl⟩⟩
        | 3, _ => exact ⟨_, by rw [Nat.zero_add]; exact hx.cell 3, p3.below hb.drew⟩⟩⟩
    refine (of_c _ _ _ hp (by simp) (by
      intro p hp
      simp only [List.mem_cons, List.not_mem_nil, or_false] at hp
      rcases hp with rfl | rfl | rfl | rfl
      all_goals (simp; try omega))).mono ?_
    rintro e w' ⟨rfl, rfl⟩
    exact ⟨by rw [fnvs_parts l lo hi _ hlh, HR.out], hb.drew⟩)
  clear hV1 hV2 hV3 hW0
  clear HB
  go_region_held3 (fun _ => True) (trivial) (first | (go_at_call 8; refine HOP.out.mono ?_; rintro e w1 ⟨rfl, b1⟩))
  have HB1 : Hid (Below w.heap.size w w1) := Lib.hid (HBW.out.trans (b1.mono HBW.out.size))
  have HL1 := Lib.hid (HB0.out.below b1)
  clear b1 HBW HB0 HOP r1 r2 r3 hhl hlh
  by_cases h0 : l.length = 0
  · have f0 : ((l.length : Int) == 0) = true := by simpa using h0
    go_wp2_with fail
    refine (awake_c w1).mono ?_
    rintro e w3 ⟨rfl, b3⟩
    go_wp2
    go_ret
    exact ⟨rfl, HB1.out.trans (b3.mono HB1.out.size)⟩
  · have f0 : ((l.length : Int) == 0) = false := by simpa using h0
    by_cases hb0 : b = 0
    · subst hb0
      go_wp2_with fail
      refine (awake_c w1).mono ?_
      rintro e w3 ⟨rfl, b3⟩
      go_wp2
      go_ret
      exact ⟨rfl, HB1.out.trans (b3.mono HB1.out.size)⟩
    · have f1 : (b == 0) = false := by simpa using hb0
      obtain ⟨vm, w2, happ, hrow, b2⟩ := bcopy_run l _ w1 32 HL1.out (by omega)
      obtain ⟨g, cap2, rfl, hg1, hg2⟩ := hrow.form (by omega)
      have HAPP := Lib.hid happ
      have HROW := Lib.hid hrow
      have HB2 : Hid (Below w.heap.size w w2) := Lib.hid (HB1.out.trans (b2.mono HB1.out.size))
      have hsz := HB1.out.size
      clear happ hrow b2
      go_wp2_with (at_builtin; refine wpList_append_run rfl _ _ 32 rfl _ _ HAPP.out ?_)
      refine (low_c x (l.length : Int) w2 (by omega) (by omega)).mono ?_
      rintro e w3 ⟨n, rfl, hn0, hn1, rfl⟩
      obtain ⟨n, rfl⟩ : ∃ k : Nat, n = ((k : Nat) : Int) := ⟨n.toNat, by omega⟩
      have hnl : n < l.length := by omega
      have hcl := HROW.out.at n hnl
      have hfr := HROW.out.soft n
      have hxb := xor_byte (HOK.out _ (List.getElem_mem hnl)) hb hb0
      obtain ⟨hX1, hX2⟩ := hxb
      have hun := fnv_unlike l n hnl _ HOK.out hX1 hX2
      have HST := Lib.hid (HROW.out.set n (bits .xor .u8 l[n] b))
      have HB3 := Lib.hid (HB2.out.setCell (p := ⟨g, n, none⟩) (by show w.heap.size ≤ g; omega) (.int .u8 (bits .xor .u8 l[n] b)))
      have hl3 : (l.set n (bits .xor .u8 l[n] b)).length = l.length := List.length_set
      generalize l[n] = z at hcl hun HST HB3 hl3 hX1 hX2
      obtain ⟨R2, hR2⟩ : ∃ R2, fnv 14695981039346656037 (l.set n (bits .xor .u8 z b)) = R2 := ⟨_, rfl⟩
      rw [hR2, HR.out] at hun
      have f2 : (R2 != R) = true := by simpa using hun
      have hof2 : ∀ W : World, Bl W (.slice (some ⟨g, 0, none⟩) l.length cap2) (l.set n (bits .xor .u8 z b)) → Calls Try.prog 8 #[.slice (some ⟨W.heap.size, 0, none⟩) 1 1] (W.alloc (.cells #[.slice (some ⟨g, 0, none⟩) l.length cap2] 32)) fun e w' => e = .returned (.int .u64 R2) ∧ W.alloc (.cells #[.slice (some ⟨g, 0, none⟩) l.length cap2] 32) = w' := fun W hu => by
        have h := of_c [l.set n (bits .xor .u8 z b)] _ _ (pl_one (cap := 1) (Bx.new 32 W #[_]) (hu.below (alloc_below _ _))) (by simp) (by simpa using by omega)
        rw [show fnvs 14695981039346656037 [l.set n (bits .xor .u8 z b)] = R2 by rw [← hR2]; rfl] at h
        exact h
      have HOF2 := Lib.hid hof2
      have HBL := Lib.hid (show Bl (w2.setCell ⟨g, n, none⟩ (.int .u8 (bits .xor .u8 z b))) (.slice (some ⟨g, 0, none⟩) l.length cap2) (l.set n (bits .xor .u8 z b)) by have h := HST.out.nl; rwa [hl3] at h)
      clear hof2 hR2 hun hX1 hX2 HST HROW HAPP HOF1 hl3 hn0 hn1
      go_wp2_with fail
      have hsz3 : (w2.setCell ⟨g, n, none⟩ (.int .u8 (bits .xor .u8 z b))).heap.size = w2.heap.size := by simp
      have h2 := HOF2.out _ HBL.out
      rw [hsz3] at h2
      refine h2.mono ?_
      rintro e w4 ⟨rfl, rfl⟩
      clear h2 hsz3
      go_wp2_with fail
      refine (awake_c _).mono ?_
      rintro e w5 ⟨rfl, b5⟩
      go_wp2
      go_ret
      exact ⟨rfl, (HB3.out.alloc HB3.out.size _).trans (b5.mono (by have := HB3.out.size; simp at this ⊢; omega))⟩
end Go.Proofs.Ytgiojpgdjbnbbaa

/-
  followed of the program, by contract: the places that have one so many words on.
-/
import Derived.Test.YtgdajnjfkokmdaaPstPrsI
import Derived.Maps.AppendAt
namespace Go.Proofs.Ytgdajnjfkokmdaa
open Go.RowKit Go.Lib Go.Sort Go.Shelf
set_option maxRecDepth 100000

attribute [local go_sem] Oper.semAt_some

theorem prsint_c (a1 a2 : Option Addr) (n1 c1 n2 c2 : Nat) (fn : Fn) (lb : Array Value) (w : World) : Calls Try.prog 53 #[.slice a1 n1 c1, .slice a2 n2 c2, .func fn #[] lb] w fun e w' =>
    e = .returned (.func (.func 71) #[] #[.pointer (some ⟨w.heap.size, 0, none⟩), .pointer (some ⟨w.heap.size + 1, 0, none⟩), .pointer (some ⟨w.heap.size + 1 + 1, 0, none⟩)]) ∧
    w' = ((w.alloc (.cells #[.slice a1 n1 c1] 35)).alloc (.cells #[.slice a2 n2 c2] 35)).alloc (.cells #[.func fn #[] lb] 75) := by
  go_enter Try.func53, Try.ntmps53
  go_wp2
  go_ret
  exact ⟨by simp, rfl⟩
theorem Kb.of_grown {n₀ Bk : Nat} {a b : World} {r : Option Nat} (h : a.grownBy b r) (hn : n₀ ≤ a.heap.size) (hr : ∀ g, r = some g → n₀ ≤ g ∨ g = Bk) : Kb n₀ Bk a b :=
  ⟨h.os, h.tape, h.output, h.size, fun k hk hne => h.block k (by omega) (fun e => by have := hr k e.symm; omega)⟩
/-- append to a row of one's own whose slice lies in a box, and the box written. -/
theorem boxed_app {W w1 : World} {n₀ Bk : Nat} {t e : TypeId} {size : Nat} {v v' : Value} {k m : Nat} {xs ys : List Value} {tmp : Obj}
    (hv : Boxed W Bk t v) (hte : t ≠ e) (hrow : W.ownsRow n₀ e size v k xs) (hn₀ : n₀ ≤ W.heap.size)
    (hown' : w1.ownsRow n₀ e size v' m ys) (hgrow : (W.alloc tmp).grownBy w1 v.ownBlock) :
    Boxed w1 Bk t v ∧ Boxed (w1.setCell ⟨Bk, 0, none⟩ v') Bk t v' ∧ (w1.setCell ⟨Bk, 0, none⟩ v').ownsRow n₀ e size v' m ys ∧ KeepsOthers W (w1.setCell ⟨Bk, 0, none⟩ v') ∧ Kb n₀ Bk W (w1.setCell ⟨Bk, 0, none⟩ v') := by
  obtain ⟨h1, h2, _, h4, _⟩ := Boxed.appended (n₀ := 0) hv hte (own_mono hrow (Nat.zero_le _)) (Nat.zero_le _) (Nat.zero_le _) (own_mono hown' (Nat.zero_le _)) hgrow
  refine ⟨h1, h2, hown'.kept (grownBy_setCell' w1 Bk v') (.inr (h1.not_row hte hown').symm), h4, ?_⟩
  have ha : n₀ ≤ (W.alloc tmp).heap.size := by simp; omega
  exact ((Kb.of_below (alloc_below W tmp) hn₀).trans (Kb.of_grown hgrow ha (fun g hg => .inl (World.ownsRow.lt hrow g hg).1))).trans
    (Kb.of_grown (grownBy_setCell' w1 Bk v') (Nat.le_trans ha hgrow.size) (fun g hg => .inr (by cases hg; rfl)))
set_option maxHeartbeats 8000000 in
theorem followed_c (l m : List Int) (va vb : Value) (on : Int) (w : World) (ha : Nl w va l) (hb : Nl w vb m) (hn1 : l.length ≤ 100000) (hn2 : m.length ≤ 100000) :
    Calls Try.prog 38 #[va, vb, .int .i64 on] w fun e w' => ∃ v, e = .returned v ∧ Row w' w.heap.size v (folL on l m) ∧ Below w.heap.size w w' := by
  obtain ⟨ad1, cap1, rfl, _⟩ := ha.form
  obtain ⟨ad2, cap2, rfl, _⟩ := hb.form
  have HA := Lib.hid ha
  have HB := Lib.hid hb
  clear ha hb
  have CP := Lib.hid (fun a1 a2 n1 c1 n2 c2 fn lb W => prsint_c a1 a2 n1 c1 n2 c2 fn lb W)
  refine (callsIn_wide (n := 2)).1 ?_
  obtain ⟨i0, hi, hz0, hz1, hz2⟩ := info_parts intInfo
  refine callsIn_of_wp_marks Try.func38 rfl (trivial : Fence.wide.fn _) ?_ rfl
  simp only [Try.ntmps38, List.size_toArray, List.length_cons, List.length_nil, Nat.reduceAdd, Nat.reduceSub, Array.replicate_succ, Array.replicate_zero, List.push_toArray, List.append_toArray, List.nil_append, List.cons_append]
  gi_wp2_with (refine ⟨trivial, ?_⟩; gi_at_call 53; refine (callsIn_wide.2 (CP.out _ _ _ _ _ _ _ _ _)).mono ?_; rintro e w' ⟨rfl, rfl⟩)
  obtain ⟨W5, hW5⟩ : ∃ W5, W5 = (((((w.alloc (.cells #[.int .i64 on] 3)).alloc (.cells #[.slice none 0 0] 35)).alloc (.cells #[.slice ad1 l.length cap1] 35)).alloc (.cells #[.slice ad2 m.length cap2] 35)).alloc (.cells #[.func (.func 54) #[] #[.pointer (some ⟨w.heap.size, 0, none⟩)]] 75)) := ⟨_, rfl⟩
  have hB0 : Below w.heap.size w W5 := by
    rw [hW5]
    exact ((((((Below.refl _ w).alloc (Nat.le_refl _) _).alloc (by simp) _).alloc (by simp; omega) _).alloc (by simp; omega) _).alloc (by simp; omega) _)
  have hsz : W5.heap.size = w.heap.size + 5 := by rw [hW5]; simp
  have b0 : Boxed W5 w.heap.size 3 (.int .i64 on) := by rw [hW5]; exact ((((Boxed.new w 3 _).alloc _).alloc _).alloc _).alloc _
  have b1 : Boxed W5 (w.heap.size + 1) 35 (.slice none 0 0) := by
    rw [hW5]
    have := Boxed.new (w.alloc (.cells #[.int .i64 on] 3)) 35 (.slice none 0 0)
    rw [World.size_alloc] at this
    exact ((this.alloc _).alloc _).alloc _
  have b2 : Boxed W5 (w.heap.size + 1 + 1) 35 (.slice ad1 l.length cap1) := by
    rw [hW5]
    have := Boxed.new ((w.alloc (.cells #[.int .i64 on] 3)).alloc (.cells #[.slice none 0 0] 35)) 35 (.slice ad1 l.length cap1)
    rw [World.size_alloc, World.size_alloc] at this
    exact (this.alloc _).alloc _
  have b3 : Boxed W5 (w.heap.size + 1 + 1 + 1) 35 (.slice ad2 m.length cap2) := by
    rw [hW5]
    have := Boxed.new (((w.alloc (.cells #[.int .i64 on] 3)).alloc (.cells #[.slice none 0 0] 35)).alloc (.cells #[.slice ad1 l.length cap1] 35)) 35 (.slice ad2 m.length cap2)
    rw [World.size_alloc, World.size_alloc, World.size_alloc] at this
    exact this.alloc _
  have b4 : Boxed W5 (w.heap.size + 1 + 1 + 1 + 1) 75 (.func (.func 54) #[] #[.pointer (some ⟨w.heap.size, 0, none⟩)]) := by
    rw [hW5]
    have := Boxed.new ((((w.alloc (.cells #[.int .i64 on] 3)).alloc (.cells #[.slice none 0 0] 35)).alloc (.cells #[.slice ad1 l.length cap1] 35)).alloc (.cells #[.slice ad2 m.length cap2] 35)) 75 (.func (.func 54) #[] #[.pointer (some ⟨w.heap.size, 0, none⟩)])
    rw [World.size_alloc, World.size_alloc, World.size_alloc, World.size_alloc] at this
    exact this
  rw [← hW5]
  clear hW5
  have hseq : SeqStopsK Fence.wide 1 Try.prog 71 #[.pointer (some ⟨w.heap.size + 1 + 1, 0, none⟩), .pointer (some ⟨w.heap.size + 1 + 1 + 1, 0, none⟩), .pointer (some ⟨w.heap.size + 1 + 1 + 1 + 1, 0, none⟩)] (fun x : Int × Int => #[Value.int .i64 x.1, Value.int .i64 x.2]) (Kb W5.heap.size (w.heap.size + 1)) (fun ys => ys = prs (cmpF on) l m) (fun pre => pre <+: prs (cmpF on) l m) l.length W5 :=
    fun ly J Jx W hW hJ _ hY h0 => prsI_in ly _ _ _ w.heap.size (w.heap.size + 1) W5.heap.size on l m _ _ J Jx (by omega) (by omega) W w hW.size (hB0.trans (hW.mono (by omega))) (by omega) (by omega) ⟨by omega, by omega⟩ ⟨by omega, by omega⟩ ⟨by omega, by omega⟩ ⟨by omega, by omega⟩ hJ hY
      ((hW.cell (p := ⟨_, 0, none⟩) b2.lt).trans b2.cell) ((hW.cell (p := ⟨_, 0, none⟩) b3.lt).trans b3.cell) ((hW.cell (p := ⟨_, 0, none⟩) b4.lt).trans b4.cell) ((hW.cell (p := ⟨_, 0, none⟩) b0.lt).trans b0.cell) HA.out HB.out h0
  refine wpIn_rangeFunc_ownG rfl (by omega) (gf := 71) (lb := #[.pointer (some ⟨w.heap.size + 1 + 1, 0, none⟩), .pointer (some ⟨w.heap.size + 1 + 1 + 1, 0, none⟩), .pointer (some ⟨w.heap.size + 1 + 1 + 1 + 1, 0, none⟩)]) rfl (trivial : Fence.wide.fn _) (enters_of Try.func71 (by kernel_rfl) rfl)
    hseq (fun h k => h.trans k) (fun W l o o' hl h h1 h2 => Kb.put (Nat.le_refl _) W l o o' hl h h1 h2) (Below.refl _ _) (fun _ => rfl)
    (fun pre W => (∃ v, Boxed W (w.heap.size + 1) 35 v ∧ W.ownsRow W5.heap.size 3 1 v pre.length (ints (pre.map Prod.fst)) ∧ True) ∧ Below w.heap.size w W ∧ W5.heap.size ≤ W.heap.size)
    (fun _ _ _ => False)
    (OwnFrom.and (Own.from (holdsRow_own W5.heap.size (w.heap.size + 1) 35 3 1 (fun pre : List (Int × Int) => pre.length) (fun pre : List (Int × Int) => ints (pre.map Prod.fst)) (fun _ _ => True)) _) (OwnFrom.and (ownFrom_below (Nat.le_refl _) (by omega)) (fun s W W' row hs hg hr => Nat.le_trans hs hg.size)))
    (fun _ _ _ _ _ hs _ _ => hs)
    ⟨⟨_, b1, World.ownsRow_nil _ _ _ _, trivial⟩, hB0, Nat.le_refl _⟩
    (fun x => { tmps := #[.slice ad1 l.length cap1, .slice ad2 m.length cap2, .int .i64 on, undef, undef, .pointer (some ⟨w.heap.size, 0, none⟩), .slice none 0 0, .pointer (some ⟨w.heap.size + 1, 0, none⟩), .int .i64 x.1, .slice ad1 l.length cap1, .slice ad2 m.length cap2, .func (.func 54) #[] #[.pointer (some ⟨w.heap.size, 0, none⟩)], .func (.func 71) #[] #[.pointer (some ⟨w.heap.size + 1 + 1, 0, none⟩), .pointer (some ⟨w.heap.size + 1 + 1 + 1, 0, none⟩), .pointer (some ⟨w.heap.size + 1 + 1 + 1 + 1, 0, none⟩)], .int .i64 x.1, .int .i64 x.2, undef, undef, undef, undef, undef], defers := [] }) ?assign ?body ?done ?stop
  case assign =>
    intro ly x W K hK
    gi_wp2
    exact hK
  case body =>
    rintro ly pre x W ⟨⟨v, hv, hrow, _⟩, hB, hsz5⟩ hlt
    have hc := hv.cell
    gi_wp2_with (gi_at_builtin; refine wpListIn_append_own _ rfl _ _ 35 rfl W5.heap.size 3 i0 (.int .i64 0) 1 8 Try.underlying35 hi hz0 hz1 hz2 rfl (by decide) _ _ _ rfl (hrow.alloc _) ⟨W.heap.size, 0, none⟩ 1 1 [.int .i64 x.1] rfl rfl (cell_one_new _ _ _) (by simp [Value.oneCell']) (by unfold maxLen; omega) (by omega) (by simp; omega) ?_; intro v' w1 hown' hgrow _; obtain ⟨g', cap', rfl⟩ := ownsRow_succ hown'; obtain ⟨hv1, hv2, hr2, hk2, hb2⟩ := boxed_app hv (by decide) hrow hsz5 hown' hgrow; have hc1 := hv1.cell; have hf1 := hv1.frozen)
    exact ⟨hk2.from _, hb2, ⟨_, hv2, by simpa [ints] using hr2, trivial⟩, hB.trans (hb2.below (by omega) (by omega)), Nat.le_trans hsz5 hb2.size⟩
  case done =>
    rintro D ys W hD rfl ⟨⟨v, hv, hrow, _⟩, hB, _⟩ hK
    have hc := hv.cell
    gi_wp2
    refine ⟨by simp, .inl ⟨_, _, rfl, run_takeDeferred hK, ?_⟩⟩
    exact ⟨_, results_tmp rfl _ _ _, v, rfl, (by unfold Row folL; rw [List.length_map]; exact own_mono (ownsRow_putObj hrow _ hK rfl) hB0.size), hB.trans (belowK_b (w := W5) (by omega) W D _ _ hD hK rfl rfl)⟩
  case stop =>
    rintro D c pre W _ _ h _
    exact h.elim
end Go.Proofs.Ytgdajnjfkokmdaa

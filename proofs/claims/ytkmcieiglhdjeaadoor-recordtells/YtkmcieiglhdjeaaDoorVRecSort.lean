/-
  stable, SortStableFunc of package slices, at records; record's Sort, by contract.
-/
import Derived.Test.YtkmcieiglhdjeaaDoorVRecSymLe
import Derived.Laws.IdiomCopy
namespace Go.Proofs.YtkmcieiglhdjeaaDoor
open Go.RowKit Go.Lib
variable {bxr : Nat}

theorem SMQ.join {d d1 d2 d3 : Nat → Rc} {a m b : Nat} (h1 : a ≤ m) (h2 : m ≤ b) (q1 : SMQ d a m d1) (q2 : SMQ d1 m b d2) (q3 : SMQ d2 a b d3) : SMQ d a b d3 := by
  refine ⟨fun k hk => ?_, q3.srt, ?_⟩
  · rw [q3.out k hk, q2.out k (by omega), q1.out k (by omega)]
  · refine Cls.trans ?_ q3.cls
    rw [seg_split d h1 h2, seg_split d2 h1 h2]
    have e1 : seg d2 a m = seg d1 a m := seg_congr (fun k _ hk => q2.out k (.inl hk))
    have e2 : seg d1 m b = seg d m b := seg_congr (fun k hk _ => q1.out k (.inr hk))
    have c2 := q2.cls
    rw [e2] at c2
    rw [e1]
    exact q1.cls.append c2

set_option maxHeartbeats 8000000 in
set_option maxRecDepth 100000 in
theorem stable_few (g n cap : Nat) (d : Nat → Rc) (w : World) (h : Dx bxr w g n d) (hn : n < 20) :
    Calls Tryd.prog 36 #[.slice (some ⟨g, 0, none⟩) n cap, .int .i64 (n : Int), .func (.func 37) #[] #[.pointer (some ⟨bxr, 0, none⟩)]] w (datT bxr g n w (SMQ d 0 n)) := by
  have HI := Lib.hid (ins_c g n cap 0 n d w h (by omega) (by omega) (Nat.le_refl _))
  have t1 : decide ((20 : Int) ≤ (n : Int)) = false := by simp; omega
  have t2 : decide ((20 : Int) < (n : Int)) = false := by simp; omega
  clear h
  go_enter Tryd.func36, Tryd.ntmps36
  go_wp2
  refine wp_loop_rounds 1 ?_
  rw [rounds_succ]
  go_wp2_with fail
  refine HI.out.mono ?_
  rintro e w1 ⟨rfl, ⟨d1, hd1, hq1⟩, hg1⟩
  go_wp2
  refine wp_loop_rounds 1 ?_
  rw [rounds_succ]
  go_wp2
  go_end0
  exact ⟨rfl, ⟨d1, hd1, hq1⟩, hg1⟩

set_option maxHeartbeats 8000000 in
set_option maxRecDepth 100000 in
theorem stable_many (g n cap : Nat) (d : Nat → Rc) (w : World) (h : Dx bxr w g n d) (hn : 20 ≤ n) (hn2 : n < 40) :
    Calls Tryd.prog 36 #[.slice (some ⟨g, 0, none⟩) n cap, .int .i64 (n : Int), .func (.func 37) #[] #[.pointer (some ⟨bxr, 0, none⟩)]] w (datT bxr g n w (SMQ d 0 n)) := by
  have HI := Lib.hid (ins_c g n cap 0 20 d w h (by omega) (by omega) (by omega))
  have t1 : decide ((20 : Int) ≤ (n : Int)) = true := by simp; omega
  have t2 : decide ((40 : Int) ≤ (n : Int)) = false := by simp; omega
  have t4 : decide ((40 : Int) < (n : Int)) = false := by simp; omega
  clear h
  by_cases h20 : n = 20
  · have t3 : decide ((20 : Int) < (n : Int)) = false := by simp; omega
    have H20 := Lib.hid h20
    clear h20
    go_enter Tryd.func36, Tryd.ntmps36
    go_wp2
    refine wp_loop_rounds 2 ?_
    rw [rounds_succ]
    go_wp2_with fail
    refine HI.out.mono ?_
    rintro e w1 ⟨rfl, ⟨d1, hd1, hq1⟩, hg1⟩
    have HI2 := Lib.hid (ins_c g n cap 20 n d1 w1 hd1 (by omega) hn (Nat.le_refl _))
    have HQ1 := Lib.hid hq1
    have HG1 := Lib.hid hg1
    clear hd1 hq1 hg1
    go_wp2
    rw [rounds_succ]
    go_wp2_with fail
    refine HI2.out.mono ?_
    rintro e w2 ⟨rfl, ⟨d2, hd2, hq2⟩, hg2⟩
    go_wp2
    refine wp_loop_rounds 1 ?_
    rw [rounds_succ]
    go_wp2
    go_end0
    refine ⟨rfl, ⟨d2, hd2, ?_⟩, grown_trans HG1.out hg2⟩
    have e : d2 = d1 := funext (fun k => hq2.out k (by have := H20.out; omega))
    rw [e, H20.out]
    exact HQ1.out
  · have t3 : decide ((20 : Int) < (n : Int)) = true := by simp; omega
    go_enter Tryd.func36, Tryd.ntmps36
    go_wp2
    refine wp_loop_rounds 2 ?_
    rw [rounds_succ]
    go_wp2_with fail
    refine HI.out.mono ?_
    rintro e w1 ⟨rfl, ⟨d1, hd1, hq1⟩, hg1⟩
    have HI2 := Lib.hid (ins_c g n cap 20 n d1 w1 hd1 (by omega) hn (Nat.le_refl _))
    have HQ1 := Lib.hid hq1
    have HG1 := Lib.hid hg1
    clear hd1 hq1 hg1
    go_wp2
    rw [rounds_succ]
    go_wp2_with fail
    refine HI2.out.mono ?_
    rintro e w2 ⟨rfl, ⟨d2, hd2, hq2⟩, hg2⟩
    have HS : Hid (SymC bxr g n cap 0 20 n d2 w2) := Lib.hid (sym_c g n cap (by omega) n 0 20 n d2 w2 (by omega) hd2 (by omega) (by omega) (Nat.le_refl _) (HQ1.out.srt.congr (fun k _ hk => hq2.out k (.inl hk))) hq2.srt)
    have HQ2 := Lib.hid hq2
    have HG2 := Lib.hid (grown_trans HG1.out hg2)
    clear hd2 hq2 hg2
    go_wp2
    refine wp_loop_rounds 2 ?_
    rw [rounds_succ]
    go_wp2
    refine wp_loop_rounds 1 ?_
    rw [rounds_succ]
    go_wp2_with fail
    refine HS.out.mono ?_
    rintro e w3 ⟨rfl, ⟨d3, hd3, hq3⟩, hg3⟩
    go_wp2
    rw [rounds_succ]
    go_wp2
    go_end0
    exact ⟨rfl, ⟨d3, hd3, HQ1.out.join (by omega) (by omega) HQ2.out hq3⟩, grown_trans HG2.out hg3⟩

theorem stable_c (g n cap : Nat) (d : Nat → Rc) (w : World) (h : Dx bxr w g n d) (hn : n < 40) :
    Calls Tryd.prog 36 #[.slice (some ⟨g, 0, none⟩) n cap, .int .i64 (n : Int), .func (.func 37) #[] #[.pointer (some ⟨bxr, 0, none⟩)]] w (datT bxr g n w (SMQ d 0 n)) := by
  by_cases h20 : n < 20
  · exact stable_few g n cap d w h h20
  · exact stable_many g n cap d w h (by omega) hn

theorem sortStable_c (g n cap : Nat) (d : Nat → Rc) (w : World) (h : Dx bxr w g n d) (hn : n < 40) :
    Calls Tryd.prog 25 #[.slice (some ⟨g, 0, none⟩) n cap, .func (.func 37) #[] #[.pointer (some ⟨bxr, 0, none⟩)]] w (datT bxr g n w (SMQ d 0 n)) := by
  have HS := Lib.hid (stable_c g n cap d w h hn)
  clear h
  go_enter Tryd.func25, Tryd.ntmps25
  go_wp2_with fail
  refine HS.out.mono ?_
  rintro e w1 ⟨rfl, h1, hg1⟩
  go_wp2
  go_end0
  exact ⟨rfl, h1, hg1⟩
end Go.Proofs.YtkmcieiglhdjeaaDoor

/-
  Chapter 4's own Read, by contract.
-/
import Derived.Test.YtcnpckdchjjeoaaDoorMRecReadAll
import Derived.Test.YtcnpckdchjjeoaaDoorMFrmGet
namespace Go.Proofs.YtcnpckdchjjeoaaDoor
open Go.RowKit Go.Lib
set_option maxRecDepth 100000
theorem get_any (l : List Int) (v : Value) (at_ : Int) (w : World) (h : BlC w v l) (ho : OkB l) (hl : l.length ≤ 1000000) (hr : at_ ≤ 9223372036854775807) :
    Calls Tryd.prog 48 #[v, .int .i64 at_, .int .i64 1] w fun e w' => ∃ n b, getT n b w e w' := by
  obtain ⟨ad, cap, rfl, hcl, hb⟩ := h
  by_cases h1 : at_ < 0 ∨ (l.length : Int) < at_ + (1 : Nat)
  · exact (get_no l ad cap at_ 1 w hl (by decide) h1 hr).mono fun e w' h => ⟨_, _, h⟩
  · obtain ⟨a, rfl⟩ := Int.eq_ofNat_of_zero_le (show 0 ≤ at_ by omega)
    obtain ⟨b, o, rfl, hby⟩ := hb (by omega)
    exact (get_yes l b o cap a 1 w hby ho hl (by decide) (by omega)).mono fun e w' h => ⟨_, _, h⟩

set_option maxHeartbeats 4000000 in
theorem rread_neg (l : List Int) (ad : Option Addr) (cap : Nat) (at_ : Int) (w : World) (h : BlC w (.slice ad l.length cap) l) (ho : OkB l) (hl : l.length ≤ 1000000) (h0 : at_ < 0) (h1 : -9223372036854775808 ≤ at_) :
    Calls Tryd.prog 66 #[.slice ad l.length cap, .int .i64 at_] w (noT w) := by
  have e0 : decide (at_ < 0) = true := by simpa using h0
  have HG := Lib.hid (fun W (hw : Below w.heap.size w W) => get_any l _ (at_ + 11) W (h.below hw) ho hl (by omega))
  have HBX := Lib.hid (Bx.new 28 w #[.int .i64 0, .int .i64 0, .int .i64 0, .int .i64 0, .string ⟨#[]⟩])
  clear h ho
  go_enter Tryd.func66, Tryd.ntmps66
  go_wp2_with fail
  refine (HG.out _ (alloc_below _ _)).mono ?_
  rintro e w1 ⟨n, b, rfl, b1⟩
  have HB1 : Hid (Below w.heap.size w w1) := Lib.hid (bn (alloc_below _ _) b1)
  have HX1 := Lib.hid (HBX.out.below b1)
  obtain ⟨c0, c1, c2, c3, c4⟩ := HX1.out.five
  have f0 := HX1.out.soft 0
  have f1 := HX1.out.soft 1
  have f2 := HX1.out.soft 2
  have f3 := HX1.out.soft 3
  have f4 := HX1.out.soft 4
  have hlx := HX1.out.lt
  go_wp2
  exact bodyPost_ret (res3 Tryd.results66 _ w.heap.size rfl _ _ _ _ _ _ (zero_five HX1.out _ _ _ _ _)) rfl ⟨rfl, below_five HB1.out (Nat.le_refl _) _ _ _ _ _⟩

set_option maxHeartbeats 4000000 in
theorem rread_short (l : List Int) (ad : Option Addr) (cap : Nat) (at_ q : Int) (w : World) (hq : wrap64 (at_ + 11) = q) (hl : l.length ≤ 1000000) (h0 : 0 ≤ at_) (h2 : q < 0 ∨ (l.length : Int) < q + 1) (hq2 : q ≤ 9223372036854775807) :
    Calls Tryd.prog 66 #[.slice ad l.length cap, .int .i64 at_] w (noT w) := by
  have e0 : decide (at_ < 0) = false := by simpa using h0
  have HG := Lib.hid (fun W => get_no l ad cap q 1 W hl (by decide) h2 hq2)
  have HBX := Lib.hid (Bx.new 28 w #[.int .i64 0, .int .i64 0, .int .i64 0, .int .i64 0, .string ⟨#[]⟩])
  clear h2 hq2
  go_enter Tryd.func66, Tryd.ntmps66
  go_wp2_with fail
  refine (HG.out _).mono ?_
  rintro e w1 ⟨rfl, b1⟩
  have HB1 : Hid (Below w.heap.size w w1) := Lib.hid (bn (alloc_below _ _) b1)
  have HX1 := Lib.hid (HBX.out.below b1)
  obtain ⟨c0, c1, c2, c3, c4⟩ := HX1.out.five
  have f0 := HX1.out.soft 0
  have f1 := HX1.out.soft 1
  have f2 := HX1.out.soft 2
  have f3 := HX1.out.soft 3
  have f4 := HX1.out.soft 4
  have hlx := HX1.out.lt
  go_wp2
  exact bodyPost_ret (res3 Tryd.results66 _ w.heap.size rfl _ _ _ _ _ _ (zero_five HX1.out _ _ _ _ _)) rfl ⟨rfl, below_five HB1.out (Nat.le_refl _) _ _ _ _ _⟩

set_option maxHeartbeats 4000000 in
theorem rread_over_m (ln b o cap a : Nat) (N : Int) (w : World) (hl : ln ≤ 1000000) (h12 : a + 12 ≤ ln) (hn : (ln : Int) - (a : Int) - 12 < N) (HG : Hid (∀ W, Below w.heap.size w W → Calls Tryd.prog 48 #[.slice (some ⟨b, o, none⟩) ln cap, .int .i64 ((a : Int) + 11), .int .i64 1] W (getT N true W))) :
    Calls Tryd.prog 66 #[.slice (some ⟨b, o, none⟩) ln cap, .int .i64 (a : Int)] w (noT w) := by
  have e0 : decide ((a : Int) < 0) = false := by simp
  have e2 : decide ((ln : Int) - (a : Int) - 12 < N) = true := by simpa using hn
  have HBX := Lib.hid (Bx.new 28 w #[.int .i64 0, .int .i64 0, .int .i64 0, .int .i64 0, .string ⟨#[]⟩])
  go_enter Tryd.func66, Tryd.ntmps66
  go_wp2_with fail
  refine (HG.out _ (alloc_below _ _)).mono ?_
  rintro e w1 ⟨rfl, b1⟩
  have HB1 : Hid (Below w.heap.size w w1) := Lib.hid (bn (alloc_below _ _) b1)
  have HX1 := Lib.hid (HBX.out.below b1)
  obtain ⟨c0, c1, c2, c3, c4⟩ := HX1.out.five
  have f0 := HX1.out.soft 0
  have f1 := HX1.out.soft 1
  have f2 := HX1.out.soft 2
  have f3 := HX1.out.soft 3
  have f4 := HX1.out.soft 4
  have hlx := HX1.out.lt
  go_wp2
  exact bodyPost_ret (res3 Tryd.results66 _ w.heap.size rfl _ _ _ _ _ _ (zero_five HX1.out _ _ _ _ _)) rfl ⟨rfl, below_five HB1.out (Nat.le_refl _) _ _ _ _ _⟩

set_option maxHeartbeats 4000000 in
theorem rread_over_e (b o a : Nat) (N : Int) (w : World) (ha : a ≤ 1000000) (hn : 0 < N) (HG : Hid (∀ W, Below w.heap.size w W → Calls Tryd.prog 48 #[.slice (some ⟨b, o, none⟩) (a + 12 : Nat) (a + 12), .int .i64 ((a : Int) + 11), .int .i64 1] W (getT N true W))) :
    Calls Tryd.prog 66 #[.slice (some ⟨b, o, none⟩) (a + 12 : Nat) (a + 12), .int .i64 (a : Int)] w (noT w) := by
  have e0 : decide ((a : Int) < 0) = false := by simp
  have e2 : decide (0 < N) = true := by simpa using hn
  have HBX := Lib.hid (Bx.new 28 w #[.int .i64 0, .int .i64 0, .int .i64 0, .int .i64 0, .string ⟨#[]⟩])
  go_enter Tryd.func66, Tryd.ntmps66
  go_wp2_with fail
  refine (HG.out _ (alloc_below _ _)).mono ?_
  rintro e w1 ⟨rfl, b1⟩
  have HB1 : Hid (Below w.heap.size w w1) := Lib.hid (bn (alloc_below _ _) b1)
  have HX1 := Lib.hid (HBX.out.below b1)
  obtain ⟨c0, c1, c2, c3, c4⟩ := HX1.out.five
  have f0 := HX1.out.soft 0
  have f1 := HX1.out.soft 1
  have f2 := HX1.out.soft 2
  have f3 := HX1.out.soft 3
  have f4 := HX1.out.soft 4
  have hlx := HX1.out.lt
  go_wp2
  exact bodyPost_ret (res3 Tryd.results66 _ w.heap.size rfl _ _ _ _ _ _ (zero_five HX1.out _ _ _ _ _)) rfl ⟨rfl, below_five HB1.out (Nat.le_refl _) _ _ _ _ _⟩

set_option maxHeartbeats 8000000 in
theorem rread_no_m (ln b o cap a n : Nat) (O S W1 C : Int) (T : ByteArray) (w : World) (hl : ln ≤ 1000000) (hcl : ln ≤ cap) (h12 : a + 12 ≤ ln) (hcap : ¬ cap = a + 12) (hn : a + 12 + n ≤ ln)
    (HG : Hid (∀ W, Below w.heap.size w W → Calls Tryd.prog 48 #[.slice (some ⟨b, o, none⟩) ln cap, .int .i64 ((a : Int) + 11), .int .i64 1] W (getT (n : Int) true W))) (HG1 : Hid (∀ W, Below w.heap.size w W → Calls Tryd.prog 48 #[.slice (some ⟨b, o, none⟩) ln cap, .int .i64 (a : Int), .int .i64 1] W (getT O true W))) (HG2 : Hid (∀ W, Below w.heap.size w W → Calls Tryd.prog 48 #[.slice (some ⟨b, o, none⟩) ln cap, .int .i64 ((a : Int) + 1), .int .i64 2] W (getT S true W))) (HG3 : Hid (∀ W, Below w.heap.size w W → Calls Tryd.prog 48 #[.slice (some ⟨b, o, none⟩) ln cap, .int .i64 ((a : Int) + 3), .int .i64 6] W (getT W1 true W))) (HG4 : Hid (∀ W, Below w.heap.size w W → Calls Tryd.prog 48 #[.slice (some ⟨b, o, none⟩) ln cap, .int .i64 ((a : Int) + 9), .int .i64 2] W (getT C true W))) (HCV : Hid (∀ W, Below w.heap.size w W → (convert 33 9 (.slice (some ⟨b, o + (a + 12), none⟩) n (cap - (a + 12)))).run Tryd.prog W = .ok (.string T) W))
    (HM : Hid (∀ W, Below w.heap.size w W → Calls Tryd.prog 42 #[.agg #[.int .i64 O, .int .i64 S, .int .i64 W1, .int .i64 C, .string T]] W fun e w' => e = .returned (.bool false) ∧ Below W.heap.size W w')) :
    Calls Tryd.prog 66 #[.slice (some ⟨b, o, none⟩) ln cap, .int .i64 (a : Int)] w (noT w) := by
  have e0 : decide ((a : Int) < 0) = false := by simp
  have e2 : decide ((ln : Int) - (a : Int) - 12 < (n : Int)) = false := by simp; omega
  have hlt : a + 12 + n ≤ cap := by omega
  have HBX := Lib.hid (Bx.new 28 w #[.int .i64 0, .int .i64 0, .int .i64 0, .int .i64 0, .string ⟨#[]⟩])
  go_enter Tryd.func66, Tryd.ntmps66
  go_wp2_with fail
  refine (HG.out _ (alloc_below _ _)).mono ?_
  rintro e w1 ⟨rfl, b1⟩
  have HB1 : Hid (Below w.heap.size w w1) := Lib.hid (bn (alloc_below _ _) b1)
  have HX1 := Lib.hid (HBX.out.below b1)
  have hlx := HX1.out.lt
  have v1 := HCV.out w1 HB1.out
  clear HCV HG b1 HBX
  go_wp2_with fail
  have HBa : Hid (Below w.heap.size w (w1.alloc (.cells #[.int .i64 0, .int .i64 0, .int .i64 0, .int .i64 0, .string T] 28))) := Lib.hid (HB1.out.alloc HB1.out.size _)
  have HXa : Hid (Bx 28 (w1.alloc (.cells #[.int .i64 0, .int .i64 0, .int .i64 0, .int .i64 0, .string T] 28)) w.heap.size #[.int .i64 0, .int .i64 0, .int .i64 0, .int .i64 0, .string ⟨#[]⟩]) := Lib.hid (HX1.out.alloc _)
  have HRa : Hid (Bx 28 (w1.alloc (.cells #[.int .i64 0, .int .i64 0, .int .i64 0, .int .i64 0, .string T] 28)) w1.heap.size #[.int .i64 0, .int .i64 0, .int .i64 0, .int .i64 0, .string T]) := Lib.hid (Bx.new _ _ _)
  have hww : w.heap.size ≤ w1.heap.size := HB1.out.size
  have hne : w.heap.size ≠ w1.heap.size := by omega
  clear HB1 HX1 v1
  refine (HG1.out _ HBa.out).mono ?_
  rintro e w2 ⟨rfl, b2⟩
  have hr2 : Bx 28 w2 w1.heap.size #[.int .i64 0, .int .i64 0, .int .i64 0, .int .i64 0, .string T] := HRa.out.below b2
  have HXb : Hid (Bx 28 (w2.setCell ⟨w1.heap.size, 0, none⟩ (.int .i64 O)) w.heap.size #[.int .i64 0, .int .i64 0, .int .i64 0, .int .i64 0, .string ⟨#[]⟩]) := Lib.hid ((HXa.out.below b2).setFar hne _)
  have HRb : Hid (Bx 28 (w2.setCell ⟨w1.heap.size, 0, none⟩ (.int .i64 O)) w1.heap.size #[.int .i64 O, .int .i64 0, .int .i64 0, .int .i64 0, .string T]) := Lib.hid (hr2.set 0 _)
  have HBb : Hid (Below w.heap.size w (w2.setCell ⟨w1.heap.size, 0, none⟩ (.int .i64 O))) := Lib.hid ((bn HBa.out b2).setCell hww _)
  have hc2 : w2.cell? ⟨w1.heap.size, 0, none⟩ = some (.int .i64 0) := hr2.cell 0
  have hf2 := hr2.soft 0
  have hl2 := hr2.lt
  clear HXa HRa HBa b2
  clear hr2
  go_wp2_with fail
  have HXa := HXb
  have HRa := HRb
  have HBa := HBb
  clear HXb HRb HBb hc2 hf2 hl2
  refine (HG2.out _ HBa.out).mono ?_
  rintro e w3 ⟨rfl, b3⟩
  have hr3 : Bx 28 w3 w1.heap.size #[.int .i64 O, .int .i64 0, .int .i64 0, .int .i64 0, .string T] := HRa.out.below b3
  have HXb : Hid (Bx 28 (w3.setCell ⟨w1.heap.size, 1, none⟩ (.int .i64 S)) w.heap.size #[.int .i64 0, .int .i64 0, .int .i64 0, .int .i64 0, .string ⟨#[]⟩]) := Lib.hid ((HXa.out.below b3).setFar hne _)
  have HRb : Hid (Bx 28 (w3.setCell ⟨w1.heap.size, 1, none⟩ (.int .i64 S)) w1.heap.size #[.int .i64 O, .int .i64 S, .int .i64 0, .int .i64 0, .string T]) := Lib.hid (hr3.set 1 _)
  have HBb : Hid (Below w.heap.size w (w3.setCell ⟨w1.heap.size, 1, none⟩ (.int .i64 S))) := Lib.hid ((bn HBa.out b3).setCell hww _)
  have hc3 : w3.cell? ⟨w1.heap.size, 1, none⟩ = some (.int .i64 0) := hr3.cell 1
  have hf3 := hr3.soft 1
  have hl3 := hr3.lt
  clear HXa HRa HBa b3
  clear hr3
  go_wp2_with fail
  have HXa := HXb
  have HRa := HRb
  have HBa := HBb
  clear HXb HRb HBb hc3 hf3 hl3
  refine (HG3.out _ HBa.out).mono ?_
  rintro e w4 ⟨rfl, b4⟩
  have hr4 : Bx 28 w4 w1.heap.size #[.int .i64 O, .int .i64 S, .int .i64 0, .int .i64 0, .string T] := HRa.out.below b4
  have HXb : Hid (Bx 28 (w4.setCell ⟨w1.heap.size, 2, none⟩ (.int .i64 W1)) w.heap.size #[.int .i64 0, .int .i64 0, .int .i64 0, .int .i64 0, .string ⟨#[]⟩]) := Lib.hid ((HXa.out.below b4).setFar hne _)
  have HRb : Hid (Bx 28 (w4.setCell ⟨w1.heap.size, 2, none⟩ (.int .i64 W1)) w1.heap.size #[.int .i64 O, .int .i64 S, .int .i64 W1, .int .i64 0, .string T]) := Lib.hid (hr4.set 2 _)
  have HBb : Hid (Below w.heap.size w (w4.setCell ⟨w1.heap.size, 2, none⟩ (.int .i64 W1))) := Lib.hid ((bn HBa.out b4).setCell hww _)
  have hc4 : w4.cell? ⟨w1.heap.size, 2, none⟩ = some (.int .i64 0) := hr4.cell 2
  have hf4 := hr4.soft 2
  have hl4 := hr4.lt
  clear HXa HRa HBa b4
  clear hr4
  go_wp2_with fail
  have HXa := HXb
  have HRa := HRb
  have HBa := HBb
  clear HXb HRb HBb hc4 hf4 hl4
  refine (HG4.out _ HBa.out).mono ?_
  rintro e w5 ⟨rfl, b5⟩
  have hr5 : Bx 28 w5 w1.heap.size #[.int .i64 O, .int .i64 S, .int .i64 W1, .int .i64 0, .string T] := HRa.out.below b5
  have HXb : Hid (Bx 28 (w5.setCell ⟨w1.heap.size, 3, none⟩ (.int .i64 C)) w.heap.size #[.int .i64 0, .int .i64 0, .int .i64 0, .int .i64 0, .string ⟨#[]⟩]) := Lib.hid ((HXa.out.below b5).setFar hne _)
  have HRb : Hid (Bx 28 (w5.setCell ⟨w1.heap.size, 3, none⟩ (.int .i64 C)) w1.heap.size #[.int .i64 O, .int .i64 S, .int .i64 W1, .int .i64 C, .string T]) := Lib.hid (hr5.set 3 _)
  have HBb : Hid (Below w.heap.size w (w5.setCell ⟨w1.heap.size, 3, none⟩ (.int .i64 C))) := Lib.hid ((bn HBa.out b5).setCell hww _)
  have hc5 : w5.cell? ⟨w1.heap.size, 3, none⟩ = some (.int .i64 0) := hr5.cell 3
  have hf5 := hr5.soft 3
  have hl5 := hr5.lt
  clear HXa HRa HBa b5
  have p0 : w5.cell? ⟨w1.heap.size, 0, none⟩ = some (.int .i64 O) := hr5.cell 0
  have p1 : w5.cell? ⟨w1.heap.size, 1, none⟩ = some (.int .i64 S) := hr5.cell 1
  have p2 : w5.cell? ⟨w1.heap.size, 2, none⟩ = some (.int .i64 W1) := hr5.cell 2
  have p4 : w5.cell? ⟨w1.heap.size, 4, none⟩ = some (.string T) := hr5.cell 4
  clear hr5
  go_wp2_with fail
  refine (HM.out _ HBb.out).mono ?_
  rintro e w6 ⟨rfl, b6⟩
  have HX6 := Lib.hid (HXb.out.below b6)
  have HR6 := Lib.hid (HRb.out.below b6)
  have HB6 : Hid (Below w.heap.size w w6) := Lib.hid (bn HBb.out b6)
  clear p0 p1 p2 p4 hc5 hf5 hl5 HXb HRb HBb b6 HM
  obtain ⟨c0, c1, c2, c3, c4⟩ := HX6.out.five
  have f0 := HX6.out.soft 0
  have f1 := HX6.out.soft 1
  have f2 := HX6.out.soft 2
  have f3 := HX6.out.soft 3
  have f4 := HX6.out.soft 4
  have hlx := HX6.out.lt
  go_wp2
  exact bodyPost_ret (res3 Tryd.results66 _ w.heap.size rfl _ _ _ _ _ _ (zero_five HX6.out _ _ _ _ _)) rfl ⟨rfl, below_five HB6.out (Nat.le_refl _) _ _ _ _ _⟩

set_option maxHeartbeats 8000000 in
theorem rread_yes_m (ln b o cap a n : Nat) (O S W1 C : Int) (T : ByteArray) (w : World) (hl : ln ≤ 1000000) (hcl : ln ≤ cap) (h12 : a + 12 ≤ ln) (hcap : ¬ cap = a + 12) (hn : a + 12 + n ≤ ln)
    (HG : Hid (∀ W, Below w.heap.size w W → Calls Tryd.prog 48 #[.slice (some ⟨b, o, none⟩) ln cap, .int .i64 ((a : Int) + 11), .int .i64 1] W (getT (n : Int) true W))) (HG1 : Hid (∀ W, Below w.heap.size w W → Calls Tryd.prog 48 #[.slice (some ⟨b, o, none⟩) ln cap, .int .i64 (a : Int), .int .i64 1] W (getT O true W))) (HG2 : Hid (∀ W, Below w.heap.size w W → Calls Tryd.prog 48 #[.slice (some ⟨b, o, none⟩) ln cap, .int .i64 ((a : Int) + 1), .int .i64 2] W (getT S true W))) (HG3 : Hid (∀ W, Below w.heap.size w W → Calls Tryd.prog 48 #[.slice (some ⟨b, o, none⟩) ln cap, .int .i64 ((a : Int) + 3), .int .i64 6] W (getT W1 true W))) (HG4 : Hid (∀ W, Below w.heap.size w W → Calls Tryd.prog 48 #[.slice (some ⟨b, o, none⟩) ln cap, .int .i64 ((a : Int) + 9), .int .i64 2] W (getT C true W))) (HCV : Hid (∀ W, Below w.heap.size w W → (convert 33 9 (.slice (some ⟨b, o + (a + 12), none⟩) n (cap - (a + 12)))).run Tryd.prog W = .ok (.string T) W))
    (HM : Hid (∀ W, Below w.heap.size w W → Calls Tryd.prog 42 #[.agg #[.int .i64 O, .int .i64 S, .int .i64 W1, .int .i64 C, .string T]] W fun e w' => e = .returned (.bool true) ∧ Below W.heap.size W w')) :
    Calls Tryd.prog 66 #[.slice (some ⟨b, o, none⟩) ln cap, .int .i64 (a : Int)] w (yesT ⟨O, S, W1, C, T⟩ ((a : Int) + 12 + (n : Int)) w) := by
  have e0 : decide ((a : Int) < 0) = false := by simp
  have e2 : decide ((ln : Int) - (a : Int) - 12 < (n : Int)) = false := by simp; omega
  have hlt : a + 12 + n ≤ cap := by omega
  have HBX := Lib.hid (Bx.new 28 w #[.int .i64 0, .int .i64 0, .int .i64 0, .int .i64 0, .string ⟨#[]⟩])
  go_enter Tryd.func66, Tryd.ntmps66
  go_wp2_with fail
  refine (HG.out _ (alloc_below _ _)).mono ?_
  rintro e w1 ⟨rfl, b1⟩
  have HB1 : Hid (Below w.heap.size w w1) := Lib.hid (bn (alloc_below _ _) b1)
  have HX1 := Lib.hid (HBX.out.below b1)
  have hlx := HX1.out.lt
  have v1 := HCV.out w1 HB1.out
  clear HCV HG b1 HBX
  go_wp2_with fail
  have HBa : Hid (Below w.heap.size w (w1.alloc (.cells #[.int .i64 0, .int .i64 0, .int .i64 0, .int .i64 0, .string T] 28))) := Lib.hid (HB1.out.alloc HB1.out.size _)
  have HXa : Hid (Bx 28 (w1.alloc (.cells #[.int .i64 0, .int .i64 0, .int .i64 0, .int .i64 0, .string T] 28)) w.heap.size #[.int .i64 0, .int .i64 0, .int .i64 0, .int .i64 0, .string ⟨#[]⟩]) := Lib.hid (HX1.out.alloc _)
  have HRa : Hid (Bx 28 (w1.alloc (.cells #[.int .i64 0, .int .i64 0, .int .i64 0, .int .i64 0, .string T] 28)) w1.heap.size #[.int .i64 0, .int .i64 0, .int .i64 0, .int .i64 0, .string T]) := Lib.hid (Bx.new _ _ _)
  have hww : w.heap.size ≤ w1.heap.size := HB1.out.size
  have hne : w.heap.size ≠ w1.heap.size := by omega
  clear HB1 HX1 v1
  refine (HG1.out _ HBa.out).mono ?_
  rintro e w2 ⟨rfl, b2⟩
  have hr2 : Bx 28 w2 w1.heap.size #[.int .i64 0, .int .i64 0, .int .i64 0, .int .i64 0, .string T] := HRa.out.below b2
  have HXb : Hid (Bx 28 (w2.setCell ⟨w1.heap.size, 0, none⟩ (.int .i64 O)) w.heap.size #[.int .i64 0, .int .i64 0, .int .i64 0, .int .i64 0, .string ⟨#[]⟩]) := Lib.hid ((HXa.out.below b2).setFar hne _)
  have HRb : Hid (Bx 28 (w2.setCell ⟨w1.heap.size, 0, none⟩ (.int .i64 O)) w1.heap.size #[.int .i64 O, .int .i64 0, .int .i64 0, .int .i64 0, .string T]) := Lib.hid (hr2.set 0 _)
  have HBb : Hid (Below w.heap.size w (w2.setCell ⟨w1.heap.size, 0, none⟩ (.int .i64 O))) := Lib.hid ((bn HBa.out b2).setCell hww _)
  have hc2 : w2.cell? ⟨w1.heap.size, 0, none⟩ = some (.int .i64 0) := hr2.cell 0
  have hf2 := hr2.soft 0
  have hl2 := hr2.lt
  clear HXa HRa HBa b2
  clear hr2
  go_wp2_with fail
  have HXa := HXb
  have HRa := HRb
  have HBa := HBb
  clear HXb HRb HBb hc2 hf2 hl2
  refine (HG2.out _ HBa.out).mono ?_
  rintro e w3 ⟨rfl, b3⟩
  have hr3 : Bx 28 w3 w1.heap.size #[.int .i64 O, .int .i64 0, .int .i64 0, .int .i64 0, .string T] := HRa.out.below b3
  have HXb : Hid (Bx 28 (w3.setCell ⟨w1.heap.size, 1, none⟩ (.int .i64 S)) w.heap.size #[.int .i64 0, .int .i64 0, .int .i64 0, .int .i64 0, .string ⟨#[]⟩]) := Lib.hid ((HXa.out.below b3).setFar hne _)
  have HRb : Hid (Bx 28 (w3.setCell ⟨w1.heap.size, 1, none⟩ (.int .i64 S)) w1.heap.size #[.int .i64 O, .int .i64 S, .int .i64 0, .int .i64 0, .string T]) := Lib.hid (hr3.set 1 _)
  have HBb : Hid (Below w.heap.size w (w3.setCell ⟨w1.heap.size, 1, none⟩ (.int .i64 S))) := Lib.hid ((bn HBa.out b3).setCell hww _)
  have hc3 : w3.cell? ⟨w1.heap.size, 1, none⟩ = some (.int .i64 0) := hr3.cell 1
  have hf3 := hr3.soft 1
  have hl3 := hr3.lt
  clear HXa HRa HBa b3
  clear hr3
  go_wp2_with fail
  have HXa := HXb
  have HRa := HRb
  have HBa := HBb
  clear HXb HRb HBb hc3 hf3 hl3
  refine (HG3.out _ HBa.out).mono ?_
  rintro e w4 ⟨rfl, b4⟩
  have hr4 : Bx 28 w4 w1.heap.size #[.int .i64 O, .int .i64 S, .int .i64 0, .int .i64 0, .string T] := HRa.out.below b4
  have HXb : Hid (Bx 28 (w4.setCell ⟨w1.heap.size, 2, none⟩ (.int .i64 W1)) w.heap.size #[.int .i64 0, .int .i64 0, .int .i64 0, .int .i64 0, .string ⟨#[]⟩]) := Lib.hid ((HXa.out.below b4).setFar hne _)
  have HRb : Hid (Bx 28 (w4.setCell ⟨w1.heap.size, 2, none⟩ (.int .i64 W1)) w1.heap.size #[.int .i64 O, .int .i64 S, .int .i64 W1, .int .i64 0, .string T]) := Lib.hid (hr4.set 2 _)
  have HBb : Hid (Below w.heap.size w (w4.setCell ⟨w1.heap.size, 2, none⟩ (.int .i64 W1))) := Lib.hid ((bn HBa.out b4).setCell hww _)
  have hc4 : w4.cell? ⟨w1.heap.size, 2, none⟩ = some (.int .i64 0) := hr4.cell 2
  have hf4 := hr4.soft 2
  have hl4 := hr4.lt
  clear HXa HRa HBa b4
  clear hr4
  go_wp2_with fail
  have HXa := HXb
  have HRa := HRb
  have HBa := HBb
  clear HXb HRb HBb hc4 hf4 hl4
  refine (HG4.out _ HBa.out).mono ?_
  rintro e w5 ⟨rfl, b5⟩
  have hr5 : Bx 28 w5 w1.heap.size #[.int .i64 O, .int .i64 S, .int .i64 W1, .int .i64 0, .string T] := HRa.out.below b5
  have HXb : Hid (Bx 28 (w5.setCell ⟨w1.heap.size, 3, none⟩ (.int .i64 C)) w.heap.size #[.int .i64 0, .int .i64 0, .int .i64 0, .int .i64 0, .string ⟨#[]⟩]) := Lib.hid ((HXa.out.below b5).setFar hne _)
  have HRb : Hid (Bx 28 (w5.setCell ⟨w1.heap.size, 3, none⟩ (.int .i64 C)) w1.heap.size #[.int .i64 O, .int .i64 S, .int .i64 W1, .int .i64 C, .string T]) := Lib.hid (hr5.set 3 _)
  have HBb : Hid (Below w.heap.size w (w5.setCell ⟨w1.heap.size, 3, none⟩ (.int .i64 C))) := Lib.hid ((bn HBa.out b5).setCell hww _)
  have hc5 : w5.cell? ⟨w1.heap.size, 3, none⟩ = some (.int .i64 0) := hr5.cell 3
  have hf5 := hr5.soft 3
  have hl5 := hr5.lt
  clear HXa HRa HBa b5
  have p0 : w5.cell? ⟨w1.heap.size, 0, none⟩ = some (.int .i64 O) := hr5.cell 0
  have p1 : w5.cell? ⟨w1.heap.size, 1, none⟩ = some (.int .i64 S) := hr5.cell 1
  have p2 : w5.cell? ⟨w1.heap.size, 2, none⟩ = some (.int .i64 W1) := hr5.cell 2
  have p4 : w5.cell? ⟨w1.heap.size, 4, none⟩ = some (.string T) := hr5.cell 4
  clear hr5
  go_wp2_with fail
  refine (HM.out _ HBb.out).mono ?_
  rintro e w6 ⟨rfl, b6⟩
  have HX6 := Lib.hid (HXb.out.below b6)
  have HR6 := Lib.hid (HRb.out.below b6)
  have HB6 : Hid (Below w.heap.size w w6) := Lib.hid (bn HBb.out b6)
  clear p0 p1 p2 p4 hc5 hf5 hl5 HXb HRb HBb b6 HM
  obtain ⟨c0, c1, c2, c3, c4⟩ := HX6.out.five
  have f0 := HX6.out.soft 0
  have f1 := HX6.out.soft 1
  have f2 := HX6.out.soft 2
  have f3 := HX6.out.soft 3
  have f4 := HX6.out.soft 4
  have hlx := HX6.out.lt
  obtain ⟨r0, r1, r2, r3, r4⟩ := HR6.out.five
  have hlr := HR6.out.lt
  go_wp2
  exact bodyPost_ret (res3 Tryd.results66 _ w.heap.size rfl _ _ _ _ _ _ (zero_five HX6.out _ _ _ _ _)) rfl ⟨rfl, below_five HB6.out (Nat.le_refl _) _ _ _ _ _⟩

set_option maxHeartbeats 8000000 in
theorem rread_no_e (b o a : Nat) (O S W1 C : Int) (T : ByteArray) (w : World) (ha : a ≤ 1000000)
    (HG : Hid (∀ W, Below w.heap.size w W → Calls Tryd.prog 48 #[.slice (some ⟨b, o, none⟩) (a + 12 : Nat) (a + 12), .int .i64 ((a : Int) + 11), .int .i64 1] W (getT 0 true W))) (HG1 : Hid (∀ W, Below w.heap.size w W → Calls Tryd.prog 48 #[.slice (some ⟨b, o, none⟩) (a + 12 : Nat) (a + 12), .int .i64 (a : Int), .int .i64 1] W (getT O true W))) (HG2 : Hid (∀ W, Below w.heap.size w W → Calls Tryd.prog 48 #[.slice (some ⟨b, o, none⟩) (a + 12 : Nat) (a + 12), .int .i64 ((a : Int) + 1), .int .i64 2] W (getT S true W))) (HG3 : Hid (∀ W, Below w.heap.size w W → Calls Tryd.prog 48 #[.slice (some ⟨b, o, none⟩) (a + 12 : Nat) (a + 12), .int .i64 ((a : Int) + 3), .int .i64 6] W (getT W1 true W))) (HG4 : Hid (∀ W, Below w.heap.size w W → Calls Tryd.prog 48 #[.slice (some ⟨b, o, none⟩) (a + 12 : Nat) (a + 12), .int .i64 ((a : Int) + 9), .int .i64 2] W (getT C true W))) (HCV : Hid (∀ W, Below w.heap.size w W → (convert 33 9 (.slice (some ⟨b, o, none⟩) 0 0)).run Tryd.prog W = .ok (.string T) W))
    (HM : Hid (∀ W, Below w.heap.size w W → Calls Tryd.prog 42 #[.agg #[.int .i64 O, .int .i64 S, .int .i64 W1, .int .i64 C, .string T]] W fun e w' => e = .returned (.bool false) ∧ Below W.heap.size W w')) :
    Calls Tryd.prog 66 #[.slice (some ⟨b, o, none⟩) (a + 12 : Nat) (a + 12), .int .i64 (a : Int)] w (noT w) := by
  have e0 : decide ((a : Int) < 0) = false := by simp
  have HBX := Lib.hid (Bx.new 28 w #[.int .i64 0, .int .i64 0, .int .i64 0, .int .i64 0, .string ⟨#[]⟩])
  go_enter Tryd.func66, Tryd.ntmps66
  go_wp2_with fail
  refine (HG.out _ (alloc_below _ _)).mono ?_
  rintro e w1 ⟨rfl, b1⟩
  have HB1 : Hid (Below w.heap.size w w1) := Lib.hid (bn (alloc_below _ _) b1)
  have HX1 := Lib.hid (HBX.out.below b1)
  have hlx := HX1.out.lt
  have v1 := HCV.out w1 HB1.out
  clear HCV HG b1 HBX
  go_wp2_with fail
  have HBa : Hid (Below w.heap.size w (w1.alloc (.cells #[.int .i64 0, .int .i64 0, .int .i64 0, .int .i64 0, .string T] 28))) := Lib.hid (HB1.out.alloc HB1.out.size _)
  have HXa : Hid (Bx 28 (w1.alloc (.cells #[.int .i64 0, .int .i64 0, .int .i64 0, .int .i64 0, .string T] 28)) w.heap.size #[.int .i64 0, .int .i64 0, .int .i64 0, .int .i64 0, .string ⟨#[]⟩]) := Lib.hid (HX1.out.alloc _)
  have HRa : Hid (Bx 28 (w1.alloc (.cells #[.int .i64 0, .int .i64 0, .int .i64 0, .int .i64 0, .string T] 28)) w1.heap.size #[.int .i64 0, .int .i64 0, .int .i64 0, .int .i64 0, .string T]) := Lib.hid (Bx.new _ _ _)
  have hww : w.heap.size ≤ w1.heap.size := HB1.out.size
  have hne : w.heap.size ≠ w1.heap.size := by omega
  clear HB1 HX1 v1
  refine (HG1.out _ HBa.out).mono ?_
  rintro e w2 ⟨rfl, b2⟩
  have hr2 : Bx 28 w2 w1.heap.size #[.int .i64 0, .int .i64 0, .int .i64 0, .int .i64 0, .string T] := HRa.out.below b2
  have HXb : Hid (Bx 28 (w2.setCell ⟨w1.heap.size, 0, none⟩ (.int .i64 O)) w.heap.size #[.int .i64 0, .int .i64 0, .int .i64 0, .int .i64 0, .string ⟨#[]⟩]) := Lib.hid ((HXa.out.below b2).setFar hne _)
  have HRb : Hid (Bx 28 (w2.setCell ⟨w1.heap.size, 0, none⟩ (.int .i64 O)) w1.heap.size #[.int .i64 O, .int .i64 0, .int .i64 0, .int .i64 0, .string T]) := Lib.hid (hr2.set 0 _)
  have HBb : Hid (Below w.heap.size w (w2.setCell ⟨w1.heap.size, 0, none⟩ (.int .i64 O))) := Lib.hid ((bn HBa.out b2).setCell hww _)
  have hc2 : w2.cell? ⟨w1.heap.size, 0, none⟩ = some (.int .i64 0) := hr2.cell 0
  have hf2 := hr2.soft 0
  have hl2 := hr2.lt
  clear HXa HRa HBa b2
  clear hr2
  go_wp2_with fail
  have HXa := HXb
  have HRa := HRb
  have HBa := HBb
  clear HXb HRb HBb hc2 hf2 hl2
  refine (HG2.out _ HBa.out).mono ?_
  rintro e w3 ⟨rfl, b3⟩
  have hr3 : Bx 28 w3 w1.heap.size #[.int .i64 O, .int .i64 0, .int .i64 0, .int .i64 0, .string T] := HRa.out.below b3
  have HXb : Hid (Bx 28 (w3.setCell ⟨w1.heap.size, 1, none⟩ (.int .i64 S)) w.heap.size #[.int .i64 0, .int .i64 0, .int .i64 0, .int .i64 0, .string ⟨#[]⟩]) := Lib.hid ((HXa.out.below b3).setFar hne _)
  have HRb : Hid (Bx 28 (w3.setCell ⟨w1.heap.size, 1, none⟩ (.int .i64 S)) w1.heap.size #[.int .i64 O, .int .i64 S, .int .i64 0, .int .i64 0, .string T]) := Lib.hid (hr3.set 1 _)
  have HBb : Hid (Below w.heap.size w (w3.setCell ⟨w1.heap.size, 1, none⟩ (.int .i64 S))) := Lib.hid ((bn HBa.out b3).setCell hww _)
  have hc3 : w3.cell? ⟨w1.heap.size, 1, none⟩ = some (.int .i64 0) := hr3.cell 1
  have hf3 := hr3.soft 1
  have hl3 := hr3.lt
  clear HXa HRa HBa b3
  clear hr3
  go_wp2_with fail
  have HXa := HXb
  have HRa := HRb
  have HBa := HBb
  clear HXb HRb HBb hc3 hf3 hl3
  refine (HG3.out _ HBa.out).mono ?_
  rintro e w4 ⟨rfl, b4⟩
  have hr4 : Bx 28 w4 w1.heap.size #[.int .i64 O, .int .i64 S, .int .i64 0, .int .i64 0, .string T] := HRa.out.below b4
  have HXb : Hid (Bx 28 (w4.setCell ⟨w1.heap.size, 2, none⟩ (.int .i64 W1)) w.heap.size #[.int .i64 0, .int .i64 0, .int .i64 0, .int .i64 0, .string ⟨#[]⟩]) := Lib.hid ((HXa.out.below b4).setFar hne _)
  have HRb : Hid (Bx 28 (w4.setCell ⟨w1.heap.size, 2, none⟩ (.int .i64 W1)) w1.heap.size #[.int .i64 O, .int .i64 S, .int .i64 W1, .int .i64 0, .string T]) := Lib.hid (hr4.set 2 _)
  have HBb : Hid (Below w.heap.size w (w4.setCell ⟨w1.heap.size, 2, none⟩ (.int .i64 W1))) := Lib.hid ((bn HBa.out b4).setCell hww _)
  have hc4 : w4.cell? ⟨w1.heap.size, 2, none⟩ = some (.int .i64 0) := hr4.cell 2
  have hf4 := hr4.soft 2
  have hl4 := hr4.lt
  clear HXa HRa HBa b4
  clear hr4
  go_wp2_with fail
  have HXa := HXb
  have HRa := HRb
  have HBa := HBb
  clear HXb HRb HBb hc4 hf4 hl4
  refine (HG4.out _ HBa.out).mono ?_
  rintro e w5 ⟨rfl, b5⟩
  have hr5 : Bx 28 w5 w1.heap.size #[.int .i64 O, .int .i64 S, .int .i64 W1, .int .i64 0, .string T] := HRa.out.below b5
  have HXb : Hid (Bx 28 (w5.setCell ⟨w1.heap.size, 3, none⟩ (.int .i64 C)) w.heap.size #[.int .i64 0, .int .i64 0, .int .i64 0, .int .i64 0, .string ⟨#[]⟩]) := Lib.hid ((HXa.out.below b5).setFar hne _)
  have HRb : Hid (Bx 28 (w5.setCell ⟨w1.heap.size, 3, none⟩ (.int .i64 C)) w1.heap.size #[.int .i64 O, .int .i64 S, .int .i64 W1, .int .i64 C, .string T]) := Lib.hid (hr5.set 3 _)
  have HBb : Hid (Below w.heap.size w (w5.setCell ⟨w1.heap.size, 3, none⟩ (.int .i64 C))) := Lib.hid ((bn HBa.out b5).setCell hww _)
  have hc5 : w5.cell? ⟨w1.heap.size, 3, none⟩ = some (.int .i64 0) := hr5.cell 3
  have hf5 := hr5.soft 3
  have hl5 := hr5.lt
  clear HXa HRa HBa b5
  have p0 : w5.cell? ⟨w1.heap.size, 0, none⟩ = some (.int .i64 O) := hr5.cell 0
  have p1 : w5.cell? ⟨w1.heap.size, 1, none⟩ = some (.int .i64 S) := hr5.cell 1
  have p2 : w5.cell? ⟨w1.heap.size, 2, none⟩ = some (.int .i64 W1) := hr5.cell 2
  have p4 : w5.cell? ⟨w1.heap.size, 4, none⟩ = some (.string T) := hr5.cell 4
  clear hr5
  go_wp2_with fail
  refine (HM.out _ HBb.out).mono ?_
  rintro e w6 ⟨rfl, b6⟩
  have HX6 := Lib.hid (HXb.out.below b6)
  have HR6 := Lib.hid (HRb.out.below b6)
  have HB6 : Hid (Below w.heap.size w w6) := Lib.hid (bn HBb.out b6)
  clear p0 p1 p2 p4 hc5 hf5 hl5 HXb HRb HBb b6 HM
  obtain ⟨c0, c1, c2, c3, c4⟩ := HX6.out.five
  have f0 := HX6.out.soft 0
  have f1 := HX6.out.soft 1
  have f2 := HX6.out.soft 2
  have f3 := HX6.out.soft 3
  have f4 := HX6.out.soft 4
  have hlx := HX6.out.lt
  go_wp2
  exact bodyPost_ret (res3 Tryd.results66 _ w.heap.size rfl _ _ _ _ _ _ (zero_five HX6.out _ _ _ _ _)) rfl ⟨rfl, below_five HB6.out (Nat.le_refl _) _ _ _ _ _⟩

set_option maxHeartbeats 8000000 in
theorem rread_yes_e (b o a : Nat) (O S W1 C : Int) (T : ByteArray) (w : World) (ha : a ≤ 1000000)
    (HG : Hid (∀ W, Below w.heap.size w W → Calls Tryd.prog 48 #[.slice (some ⟨b, o, none⟩) (a + 12 : Nat) (a + 12), .int .i64 ((a : Int) + 11), .int .i64 1] W (getT 0 true W))) (HG1 : Hid (∀ W, Below w.heap.size w W → Calls Tryd.prog 48 #[.slice (some ⟨b, o, none⟩) (a + 12 : Nat) (a + 12), .int .i64 (a : Int), .int .i64 1] W (getT O true W))) (HG2 : Hid (∀ W, Below w.heap.size w W → Calls Tryd.prog 48 #[.slice (some ⟨b, o, none⟩) (a + 12 : Nat) (a + 12), .int .i64 ((a : Int) + 1), .int .i64 2] W (getT S true W))) (HG3 : Hid (∀ W, Below w.heap.size w W → Calls Tryd.prog 48 #[.slice (some ⟨b, o, none⟩) (a + 12 : Nat) (a + 12), .int .i64 ((a : Int) + 3), .int .i64 6] W (getT W1 true W))) (HG4 : Hid (∀ W, Below w.heap.size w W → Calls Tryd.prog 48 #[.slice (some ⟨b, o, none⟩) (a + 12 : Nat) (a + 12), .int .i64 ((a : Int) + 9), .int .i64 2] W (getT C true W))) (HCV : Hid (∀ W, Below w.heap.size w W → (convert 33 9 (.slice (some ⟨b, o, none⟩) 0 0)).run Tryd.prog W = .ok (.string T) W))
    (HM : Hid (∀ W, Below w.heap.size w W → Calls Tryd.prog 42 #[.agg #[.int .i64 O, .int .i64 S, .int .i64 W1, .int .i64 C, .string T]] W fun e w' => e = .returned (.bool true) ∧ Below W.heap.size W w')) :
    Calls Tryd.prog 66 #[.slice (some ⟨b, o, none⟩) (a + 12 : Nat) (a + 12), .int .i64 (a : Int)] w (yesT ⟨O, S, W1, C, T⟩ ((a : Int) + 12) w) := by
  have e0 : decide ((a : Int) < 0) = false := by simp
  have HBX := Lib.hid (Bx.new 28 w #[.int .i64 0, .int .i64 0, .int .i64 0, .int .i64 0, .string ⟨#[]⟩])
  go_enter Tryd.func66, Tryd.ntmps66
  go_wp2_with fail
  refine (HG.out _ (alloc_below _ _)).mono ?_
  rintro e w1 ⟨rfl, b1⟩
  have HB1 : Hid (Below w.heap.size w w1) := Lib.hid (bn (alloc_below _ _) b1)
  have HX1 := Lib.hid (HBX.out.below b1)
  have hlx := HX1.out.lt
  have v1 := HCV.out w1 HB1.out
  clear HCV HG b1 HBX
  go_wp2_with fail
  have HBa : Hid (Below w.heap.size w (w1.alloc (.cells #[.int .i64 0, .int .i64 0, .int .i64 0, .int .i64 0, .string T] 28))) := Lib.hid (HB1.out.alloc HB1.out.size _)
  have HXa : Hid (Bx 28 (w1.alloc (.cells #[.int .i64 0, .int .i64 0, .int .i64 0, .int .i64 0, .string T] 28)) w.heap.size #[.int .i64 0, .int .i64 0, .int .i64 0, .int .i64 0, .string ⟨#[]⟩]) := Lib.hid (HX1.out.alloc _)
  have HRa : Hid (Bx 28 (w1.alloc (.cells #[.int .i64 0, .int .i64 0, .int .i64 0, .int .i64 0, .string T] 28)) w1.heap.size #[.int .i64 0, .int .i64 0, .int .i64 0, .int .i64 0, .string T]) := Lib.hid (Bx.new _ _ _)
  have hww : w.heap.size ≤ w1.heap.size := HB1.out.size
  have hne : w.heap.size ≠ w1.heap.size := by omega
  clear HB1 HX1 v1
  refine (HG1.out _ HBa.out).mono ?_
  rintro e w2 ⟨rfl, b2⟩
  have hr2 : Bx 28 w2 w1.heap.size #[.int .i64 0, .int .i64 0, .int .i64 0, .int .i64 0, .string T] := HRa.out.below b2
  have HXb : Hid (Bx 28 (w2.setCell ⟨w1.heap.size, 0, none⟩ (.int .i64 O)) w.heap.size #[.int .i64 0, .int .i64 0, .int .i64 0, .int .i64 0, .string ⟨#[]⟩]) := Lib.hid ((HXa.out.below b2).setFar hne _)
  have HRb : Hid (Bx 28 (w2.setCell ⟨w1.heap.size, 0, none⟩ (.int .i64 O)) w1.heap.size #[.int .i64 O, .int .i64 0, .int .i64 0, .int .i64 0, .string T]) := Lib.hid (hr2.set 0 _)
  have HBb : Hid (Below w.heap.size w (w2.setCell ⟨w1.heap.size, 0, none⟩ (.int .i64 O))) := Lib.hid ((bn HBa.out b2).setCell hww _)
  have hc2 : w2.cell? ⟨w1.heap.size, 0, none⟩ = some (.int .i64 0) := hr2.cell 0
  have hf2 := hr2.soft 0
  have hl2 := hr2.lt
  clear HXa HRa HBa b2
  clear hr2
  go_wp2_with fail
  have HXa := HXb
  have HRa := HRb
  have HBa := HBb
  clear HXb HRb HBb hc2 hf2 hl2
  refine (HG2.out _ HBa.out).mono ?_
  rintro e w3 ⟨rfl, b3⟩
  have hr3 : Bx 28 w3 w1.heap.size #[.int .i64 O, .int .i64 0, .int .i64 0, .int .i64 0, .string T] := HRa.out.below b3
  have HXb : Hid (Bx 28 (w3.setCell ⟨w1.heap.size, 1, none⟩ (.int .i64 S)) w.heap.size #[.int .i64 0, .int .i64 0, .int .i64 0, .int .i64 0, .string ⟨#[]⟩]) := Lib.hid ((HXa.out.below b3).setFar hne _)
  have HRb : Hid (Bx 28 (w3.setCell ⟨w1.heap.size, 1, none⟩ (.int .i64 S)) w1.heap.size #[.int .i64 O, .int .i64 S, .int .i64 0, .int .i64 0, .string T]) := Lib.hid (hr3.set 1 _)
  have HBb : Hid (Below w.heap.size w (w3.setCell ⟨w1.heap.size, 1, none⟩ (.int .i64 S))) := Lib.hid ((bn HBa.out b3).setCell hww _)
  have hc3 : w3.cell? ⟨w1.heap.size, 1, none⟩ = some (.int .i64 0) := hr3.cell 1
  have hf3 := hr3.soft 1
  have hl3 := hr3.lt
  clear HXa HRa HBa b3
  clear hr3
  go_wp2_with fail
  have HXa := HXb
  have HRa := HRb
  have HBa := HBb
  clear HXb HRb HBb hc3 hf3 hl3
  refine (HG3.out _ HBa.out).mono ?_
  rintro e w4 ⟨rfl, b4⟩
  have hr4 : Bx 28 w4 w1.heap.size #[.int .i64 O, .int .i64 S, .int .i64 0, .int .i64 0, .string T] := HRa.out.below b4
  have HXb : Hid (Bx 28 (w4.setCell ⟨w1.heap.size, 2, none⟩ (.int .i64 W1)) w.heap.size #[.int .i64 0, .int .i64 0, .int .i64 0, .int .i64 0, .string ⟨#[]⟩]) := Lib.hid ((HXa.out.below b4).setFar hne _)
  have HRb : Hid (Bx 28 (w4.setCell ⟨w1.heap.size, 2, none⟩ (.int .i64 W1)) w1.heap.size #[.int .i64 O, .int .i64 S, .int .i64 W1, .int .i64 0, .string T]) := Lib.hid (hr4.set 2 _)
  have HBb : Hid (Below w.heap.size w (w4.setCell ⟨w1.heap.size, 2, none⟩ (.int .i64 W1))) := Lib.hid ((bn HBa.out b4).setCell hww _)
  have hc4 : w4.cell? ⟨w1.heap.size, 2, none⟩ = some (.int .i64 0) := hr4.cell 2
  have hf4 := hr4.soft 2
  have hl4 := hr4.lt
  clear HXa HRa HBa b4
  clear hr4
  go_wp2_with fail
  have HXa := HXb
  have HRa := HRb
  have HBa := HBb
  clear HXb HRb HBb hc4 hf4 hl4
  refine (HG4.out _ HBa.out).mono ?_
  rintro e w5 ⟨rfl, b5⟩
  have hr5 : Bx 28 w5 w1.heap.size #[.int .i64 O, .int .i64 S, .int .i64 W1, .int .i64 0, .string T] := HRa.out.below b5
  have HXb : Hid (Bx 28 (w5.setCell ⟨w1.heap.size, 3, none⟩ (.int .i64 C)) w.heap.size #[.int .i64 0, .int .i64 0, .int .i64 0, .int .i64 0, .string ⟨#[]⟩]) := Lib.hid ((HXa.out.below b5).setFar hne _)
  have HRb : Hid (Bx 28 (w5.setCell ⟨w1.heap.size, 3, none⟩ (.int .i64 C)) w1.heap.size #[.int .i64 O, .int .i64 S, .int .i64 W1, .int .i64 C, .string T]) := Lib.hid (hr5.set 3 _)
  have HBb : Hid (Below w.heap.size w (w5.setCell ⟨w1.heap.size, 3, none⟩ (.int .i64 C))) := Lib.hid ((bn HBa.out b5).setCell hww _)
  have hc5 : w5.cell? ⟨w1.heap.size, 3, none⟩ = some (.int .i64 0) := hr5.cell 3
  have hf5 := hr5.soft 3
  have hl5 := hr5.lt
  clear HXa HRa HBa b5
  have p0 : w5.cell? ⟨w1.heap.size, 0, none⟩ = some (.int .i64 O) := hr5.cell 0
  have p1 : w5.cell? ⟨w1.heap.size, 1, none⟩ = some (.int .i64 S) := hr5.cell 1
  have p2 : w5.cell? ⟨w1.heap.size, 2, none⟩ = some (.int .i64 W1) := hr5.cell 2
  have p4 : w5.cell? ⟨w1.heap.size, 4, none⟩ = some (.string T) := hr5.cell 4
  clear hr5
  go_wp2_with fail
  refine (HM.out _ HBb.out).mono ?_
  rintro e w6 ⟨rfl, b6⟩
  have HX6 := Lib.hid (HXb.out.below b6)
  have HR6 := Lib.hid (HRb.out.below b6)
  have HB6 : Hid (Below w.heap.size w w6) := Lib.hid (bn HBb.out b6)
  clear p0 p1 p2 p4 hc5 hf5 hl5 HXb HRb HBb b6 HM
  obtain ⟨c0, c1, c2, c3, c4⟩ := HX6.out.five
  have f0 := HX6.out.soft 0
  have f1 := HX6.out.soft 1
  have f2 := HX6.out.soft 2
  have f3 := HX6.out.soft 3
  have f4 := HX6.out.soft 4
  have hlx := HX6.out.lt
  obtain ⟨r0, r1, r2, r3, r4⟩ := HR6.out.five
  have hlr := HR6.out.lt
  go_wp2
  exact bodyPost_ret (res3 Tryd.results66 _ w.heap.size rfl _ _ _ _ _ _ (zero_five HX6.out _ _ _ _ _)) rfl ⟨rfl, below_five HB6.out (Nat.le_refl _) _ _ _ _ _⟩

theorem get_at {l : List Int} {b o cap a : Nat} {w : World} (hb : Byts w b o l) (ho : OkB l) (hl : l.length ≤ 1000000) (k m : Nat) (hm : m ≤ 6) (h : a + k + m ≤ l.length) :
    Hid (∀ W, Below w.heap.size w W → Calls Tryd.prog 48 #[.slice (some ⟨b, o, none⟩) l.length cap, .int .i64 ((a : Int) + (k : Int)), .int .i64 (m : Int)] W (getT (unB 0 (((l.drop a).drop k).take m)) true W)) :=
  Lib.hid (fun W hw => by
    have h1 := get_yes l b o cap (a + k) m W (hb.below hw) ho hl hm h
    rw [List.drop_drop]
    exact h1)

theorem rread_c (l : List Int) (v : Value) (at_ : Int) (w : World) (h : BlC w v l) (ho : OkB l) (hl : l.length ≤ 1000000) (hm : at_ ≤ 9223372036854775807) (hm2 : -9223372036854775808 ≤ at_) (hT : Tabs w) :
    Calls Tryd.prog 66 #[v, .int .i64 at_] w (readT l at_ w) := by
  have hbl := h
  obtain ⟨ad, cap, rfl, hcl, hb⟩ := h
  unfold readT
  by_cases h0 : at_ < 0
  · rw [atOk_neg h0]
    exact rread_neg l ad cap at_ w hbl ho hl h0 hm2
  · obtain ⟨a, rfl⟩ := Int.eq_ofNat_of_zero_le (show 0 ≤ at_ by omega)
    by_cases h1 : (l.length : Int) - (a : Int) < 12
    · rw [atOk_short (by omega) h1]
      exact rread_short l ad cap _ _ w rfl hl (by omega) (by unfold wrap64; omega) (by unfold wrap64; omega)
    · have h12 : a + 12 ≤ l.length := by omega
      obtain ⟨b, o, rfl, hby⟩ := hb (by omega)
      clear hb
      rw [atOk_long h12, Int.toNat_natCast]
      have HG := get_at (cap := cap) hby ho hl 11 1 (by decide) (show a + 11 + 1 ≤ l.length by omega)
      have HG1 := get_at (cap := cap) hby ho hl 0 1 (by decide) (show a + 0 + 1 ≤ l.length by omega)
      have HG2 := get_at (cap := cap) hby ho hl 1 2 (by decide) (show a + 1 + 2 ≤ l.length by omega)
      have HG3 := get_at (cap := cap) hby ho hl 3 6 (by decide) (show a + 3 + 6 ≤ l.length by omega)
      have HG4 := get_at (cap := cap) hby ho hl 9 2 (by decide) (show a + 9 + 2 ≤ l.length by omega)
      rw [show ((0 : Nat) : Int) = 0 from rfl, Int.add_zero] at HG1
      have hN := hdN_bound (l.drop a) (ho.drop a)
      have HGN : Hid (∀ W, Below w.heap.size w W → Calls Tryd.prog 48 #[.slice (some ⟨b, o, none⟩) l.length cap, .int .i64 ((a : Int) + 11), .int .i64 1] W (getT (hdN (l.drop a)) true W)) := HG
      by_cases hn : hdN (l.drop a) ≤ ((l.length - (a + 12) : Nat) : Int)
      · rw [decide_eq_true hn, Bool.true_and]
        have hd : (l.drop a).drop 12 = l.drop (a + 12) := by rw [List.drop_drop]
        have HM : Hid (∀ W, Below w.heap.size w W → Calls Tryd.prog 42 #[.agg #[.int .i64 (rdR (l.drop a)).o, .int .i64 (rdR (l.drop a)).s, .int .i64 (rdR (l.drop a)).w, .int .i64 (rdR (l.drop a)).c, .string (rdR (l.drop a)).t]] W fun e w' => e = .returned (.bool (mayR (rdR (l.drop a)))) ∧ Below W.heap.size W w') := Lib.hid (fun W hw => rcrefmay_c (rdR (l.drop a)) W (by show (strOfNums _).size ≤ _; rw [strOfNums_size, List.length_take]; omega) (hT.below hw))
        by_cases hc : cap = a + 12
        · have e1 : l.length = a + 12 := by omega
          rw [e1] at hn HGN HG1 HG2 HG3 HG4 ⊢
          subst hc
          have e0 : hdN (l.drop a) = 0 := by simp at hn; omega
          have HCV : Hid (∀ W, Below w.heap.size w W → (convert 33 9 (.slice (some ⟨b, o, none⟩) 0 0)).run Tryd.prog W = .ok (.string (rdR (l.drop a)).t) W) := Lib.hid (fun W _ => by
            have h := run_convert_bytes_arg (P := Tryd.prog) W 33 5 Tryd.underlying33 Tryd.underlying5 b o 0 0 [] rfl (fun i hi => by omega) 9 Tryd.underlying9
            rw [h]
            unfold rdR
            rw [e0]
            rfl)
          rw [e0] at HGN
          rw [e0, Int.add_zero]
          cases hM : mayR (rdR (l.drop a))
          · rw [hM] at HM
            exact rread_no_e b o a _ _ _ _ _ w (by omega) HGN HG1 HG2 HG3 HG4 HCV HM
          · rw [hM] at HM
            exact rread_yes_e b o a _ _ _ _ _ w (by omega) HGN HG1 HG2 HG3 HG4 HCV HM
        · obtain ⟨n, hn0⟩ := Int.eq_ofNat_of_zero_le hN.1
          have hn1 : n ≤ l.length - (a + 12) := by rw [hn0] at hn; exact Int.ofNat_le.1 hn
          have HCV : Hid (∀ W, Below w.heap.size w W → (convert 33 9 (.slice (some ⟨b, o + (a + 12), none⟩) n (cap - (a + 12)))).run Tryd.prog W = .ok (.string (rdR (l.drop a)).t) W) := Lib.hid (fun W hW => by
            have h := run_convert_bytes_arg (P := Tryd.prog) W 33 5 Tryd.underlying33 Tryd.underlying5 b (o + (a + 12)) n (cap - (a + 12)) ((l.drop (a + 12)).take n) (by simp; omega) (fun i hi => by
              have h1 := ((hby.drop (a + 12)).below hW) i (by rw [List.length_drop]; omega)
              rw [h1, List.getD_eq_getElem?_getD, List.getElem?_eq_getElem (show i < ((l.drop (a + 12)).take n).length by simp; omega), List.getElem_take]; rfl) 9 Tryd.underlying9
            rw [h]
            unfold rdR
            rw [hn0, hd, Int.toNat_natCast])
          rw [hn0] at HGN
          rw [hn0]
          cases hM : mayR (rdR (l.drop a))
          · rw [hM] at HM
            exact rread_no_m l.length b o cap a n _ _ _ _ _ w hl hcl h12 hc (by omega) HGN HG1 HG2 HG3 HG4 HCV HM
          · rw [hM] at HM
            exact rread_yes_m l.length b o cap a n _ _ _ _ _ w hl hcl h12 hc (by omega) HGN HG1 HG2 HG3 HG4 HCV HM
      · rw [decide_eq_false hn, Bool.false_and]
        by_cases hc : cap = a + 12
        · have e1 : l.length = a + 12 := by omega
          rw [e1] at hn HGN ⊢
          subst hc
          exact rread_over_e b o a _ w (by omega) (by simp at hn; simpa using hn) HGN
        · exact rread_over_m l.length b o cap a _ w hl h12 (by omega) HGN
end Go.Proofs.YtcnpckdchjjeoaaDoor

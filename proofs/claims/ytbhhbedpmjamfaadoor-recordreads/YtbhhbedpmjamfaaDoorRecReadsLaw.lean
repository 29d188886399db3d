/-
  RecordReads, as a call: it answers true.
-/
import Derived.Test.YtbhhbedpmjamfaaDoorRecAwake
namespace Go.Proofs.YtbhhbedpmjamfaaDoor
open Go.RowKit Go.Lib

set_option maxHeartbeats 4000000 in
theorem reads_great (l : List Int) (ad : Option Addr) (cap : Nat) (at_ : Int) (w : World) (hT : Tabs w) (h : 400 < (l.length : Int)) :
    Calls Tryd.prog 5 #[.slice ad l.length cap, .int .i64 at_] w fun e w' => e = .returned (.bool true) ∧ Below w.heap.size w w' := by
  have hA := Lib.hid (awake_c w hT)
  go_enter Tryd.func5, Tryd.ntmps5
  go_wp2_with fail
  refine hA.out.mono ?_
  rintro e w1 ⟨rfl, b1⟩
  go_wp2
  go_ret
  exact ⟨rfl, b1⟩

/-- What Read answers, whatever it is. -/
def ansR (l : List Int) (at_ : Int) : Rc := if atOk l at_ then rdR (l.drop at_.toNat) else ⟨0, 0, 0, 0, ⟨#[]⟩⟩
def ansN (l : List Int) (at_ : Int) : Int := if atOk l at_ then at_ + 12 + hdN (l.drop at_.toNat) else 0
theorem readT_eq (l : List Int) (at_ : Int) (w : World) (e : Ending) (w' : World) (h : readT l at_ w e w') : e = .returned (.tuple #[.agg #[.int .i64 (ansR l at_).o, .int .i64 (ansR l at_).s, .int .i64 (ansR l at_).w, .int .i64 (ansR l at_).c, .string (ansR l at_).t], .int .i64 (ansN l at_), .bool (atOk l at_)]) ∧ Below w.heap.size w w' := by
  unfold readT at h
  unfold ansR ansN
  cases hk : atOk l at_
  · rw [hk] at h
    exact h
  · rw [hk] at h
    exact h

set_option maxHeartbeats 8000000 in
theorem reads_few (l : List Int) (v : Value) (at_ : Int) (w : World) (hT : Tabs w) (h1 : BlC w v l) (h2 : Bl w v l) (ho : OkB l) (hl : ¬ 400 < (l.length : Int)) (hm : -9223372036854775808 ≤ at_ ∧ at_ ≤ 9223372036854775807) :
    Calls Tryd.prog 5 #[v, .int .i64 at_] w fun e w' => e = .returned (.bool true) ∧ Below w.heap.size w w' := by
  have HT := Lib.hid hT
  have HLE := Lib.hid (fun W (hb : Below w.heap.size w W) => blend_c l v W (h2.below hb) (by omega))
  have HRR : Hid (∀ W, Below w.heap.size w W → Calls Tryd.prog 33 #[v, .int .i64 at_] W fun e w' => e = .returned (.tuple #[.agg #[.int .i64 (ansR l at_).o, .int .i64 (ansR l at_).s, .int .i64 (ansR l at_).w, .int .i64 (ansR l at_).c, .string (ansR l at_).t], .int .i64 (ansN l at_), .bool (atOk l at_)]) ∧ Below W.heap.size W w') := Lib.hid (fun W hb => (rread_c l v at_ W (h1.below hb) ho (by omega) hm.2 hm.1 (hT.below hb)).mono fun e w' h => readT_eq l at_ W e w' h)
  have HRD : Hid (∀ W u, Below w.heap.size w W → BlC W u l → Calls Tryd.prog 32 #[u, .int .i64 at_] W fun e w' => e = .returned (.tuple #[.agg #[.int .i64 (ansR l at_).o, .int .i64 (ansR l at_).s, .int .i64 (ansR l at_).w, .int .i64 (ansR l at_).c, .string (ansR l at_).t], .int .i64 (ansN l at_), .bool (atOk l at_)]) ∧ Below W.heap.size W w') := Lib.hid (fun W u hb hu => (read_c l u at_ W hu ho (by omega) hm.2 (hT.below hb)).mono fun e w' h => readT_eq l at_ W e w' h)
  have HV := Lib.hid h2
  obtain ⟨ad, cap, rfl, _⟩ := h2.form
  generalize ansR l at_ = R at HRR HRD
  generalize ansN l at_ = N at HRR HRD
  generalize atOk l at_ = K at HRR HRD
  clear h1 h2 hT ho hm
  go_enter Tryd.func5, Tryd.ntmps5
  go_wp2_with fail
  refine (HLE.out w (Below.refl _ _)).mono ?_
  rintro e w1 ⟨g, rfl, hL, hg, b1⟩
  have HL1 := Lib.hid hL
  have B1 := Lib.hid b1
  clear hL b1
  go_wp2_with fail
  refine (HRD.out w1 _ B1.out ⟨_, _, rfl, by omega, fun h0 => ⟨g, 0, rfl, fun k hk => by rw [Nat.zero_add]; exact HL1.out.at k l[k] (by rw [List.getElem?_append_left hk, List.getElem?_eq_getElem hk])⟩⟩).mono ?_
  rintro e w2 ⟨rfl, b2⟩
  have HL2 := Lib.hid (HL1.out.below b2)
  have B2 := Lib.hid (bn B1.out b2)
  clear b2 B1 HL1
  go_wp2_with fail
  refine (HRR.out _ (bn B2.out (alloc_below _ _))).mono ?_
  rintro e w3 ⟨rfl, b3⟩
  have hx := (Bx.new 27 w2 #[.int .i64 R.o, .int .i64 R.s, .int .i64 R.w, .int .i64 R.c, .string R.t]).below b3
  obtain ⟨c0, c1, c2, c3, c4⟩ := hx.five
  have hlx := hx.lt
  have HL3 := Lib.hid ((HL2.out.below (alloc_below w2 (.cells #[.int .i64 R.o, .int .i64 R.s, .int .i64 R.w, .int .i64 R.c, .string R.t] 27))).below b3)
  have B3 := Lib.hid (bn (bn B2.out (alloc_below w2 (.cells #[.int .i64 R.o, .int .i64 R.s, .int .i64 R.w, .int .i64 R.c, .string R.t] 27))) b3)
  have q := eq_rec R R
  rw [same_self] at q
  have hn : (N == N) = true := by simp
  have hk : (K == K) = true := by simp
  clear hx b3 B2 HL2
  go_wp2_with fail
  refine (bkept_c l l g _ _ (HL3.out.below (alloc_below _ _)) (HV.out.below (bn B3.out (alloc_below _ _))) (by omega)).mono ?_
  rintro e w4 ⟨rfl, b4⟩
  rw [sameB_self]
  have B4 := Lib.hid (bn (bn B3.out (alloc_below _ _)) b4)
  clear b4
  go_wp2_with fail
  refine (awake_c w4 (HT.out.below B4.out)).mono ?_
  rintro e w5 ⟨rfl, b5⟩
  go_wp2
  go_ret
  exact ⟨rfl, bn B4.out b5⟩

end Go.Proofs.YtbhhbedpmjamfaaDoor

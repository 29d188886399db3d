/-
  keys of the program, by contract: the Keys of lists as they stand there.
-/
import Derived.Test.YtgdajnjfkokmdaaPstRow
import Derived.Test.YtgdajnjfkokmdaaPstCmp
namespace Go.Proofs.Ytgdajnjfkokmdaa
open Go.RowKit Go.Lib
set_option maxRecDepth 100000

def kyOf (l : List Pv) : List Ky := l.map fun x => (x.o, x.s)
def kysOf (ls : List Lv) : List Ky := (ls.map fun y => kyOf y.l).flatten
theorem kyOf_len (l : List Pv) : (kyOf l).length = l.length := List.length_map ..
theorem kysOf_len : ∀ (ls : List Lv) (n : Nat), (∀ y ∈ ls, y.l.length ≤ n) → (kysOf ls).length ≤ n * ls.length
  | [], n, _ => by simp [kysOf]
  | y :: r, n, h => by
    have ih := kysOf_len r n (fun z hz => h z (List.mem_cons_of_mem _ hz))
    have h1 := h y (List.mem_cons_self ..)
    have e : kysOf (y :: r) = kyOf y.l ++ kysOf r := rfl
    rw [e, List.length_append, kyOf_len, List.length_cons, Nat.mul_succ]
    omega
theorem kysOf_take (ls : List Lv) (k : Nat) (hk : k < ls.length) : kysOf (ls.take (k + 1)) = kysOf (ls.take k) ++ kyOf ls[k].l := by
  rw [List.take_succ_eq_append_getElem hk]
  unfold kysOf
  rw [List.map_append, List.flatten_append]
  simp
theorem kyOf_take (l : List Pv) (k : Nat) (hk : k < l.length) : kyOf (l.take (k + 1)) = kyOf (l.take k) ++ [(l[k].o, l[k].s)] := by
  rw [List.take_succ_eq_append_getElem hk]
  unfold kyOf
  rw [List.map_append]
  rfl
def keysR (l : List Ky) (w : World) (e : Ending) (w' : World) : Prop := ∃ v, e = .returned v ∧ KRow w' w.heap.size v l ∧ Below w.heap.size w w'
set_option maxHeartbeats 8000000 in
theorem pkeys_c (ls : List Lv) (v : Value) (w : World) (h : LRd w v ls) (hn : ls.length ≤ 10) (hm : ∀ y ∈ ls, y.l.length ≤ 1000) :
    Calls Try.prog 33 #[v] w (keysR (kysOf ls) w) := by
  have HL := Lib.hid h
  have HM := Lib.hid hm
  have hall := kysOf_len ls 1000 hm
  have HN : Hid (∀ k, (kysOf (ls.take k)).length ≤ 10000) := Lib.hid (fun k => by
    have := kysOf_len (ls.take k) 1000 (fun y hy => hm y (List.mem_of_mem_take hy))
    have h2 : (ls.take k).length ≤ 10 := by rw [List.length_take]; omega
    omega)
  obtain ⟨⟨ad, cap, rfl, _, k1⟩, _⟩ := h
  have H1 := Lib.hid k1
  unfold keysR
  clear k1 hm hall
  go_enter Try.func33, Try.ntmps33
  go_wp2
  go_loopw [3, 10] (fun v3 v10 wr => ∃ k : Nat, k ≤ ls.length ∧ v10 = .int .i64 (k : Int) ∧ Hid (KRow wr w.heap.size v3 (kysOf (ls.take k))) ∧ Hid (Below w.heap.size w wr)) (fun _ v10 _ => ls.length - (intOf v10).toNat)
  case atStart => exact ⟨0, by omega, rfl, Lib.hid (KRow.nil _ _), Lib.hid (Below.refl _ _)⟩
  case round =>
    obtain ⟨k, hk, rfl, HR, HB⟩ := hrel
    by_cases hp : k < ls.length
    · obtain ⟨g1, o1, rfl, c1⟩ := H1.out (by omega)
      have a1 := c1 k hp
      have a2 := (HB.out.cell (World.block_lt_of_cell? _ _ a1)).trans a1
      have hgl := World.block_lt_of_cell? _ _ a2
      have p1 := HL.out.2 _ (List.getElem_mem hp)
      have m1 := HM.out _ (List.getElem_mem hp)
      have HT := Lib.hid (kysOf_take ls k hp)
      have HP := Lib.hid hp
      generalize ls[k] = y at a2 p1 m1 HT
      obtain ⟨yv, yl⟩ := y
      simp only at a2 p1 m1 HT
      obtain ⟨ady, capy, rfl, _, k2⟩ := id p1
      have HPP := Lib.hid p1
      have H2 := Lib.hid k2
      have HKN : Hid (∀ j, (kysOf (ls.take k) ++ kyOf (yl.take j)).length ≤ 20000) := Lib.hid (fun j => by
        have := HN.out k
        rw [List.length_append, kyOf_len, List.length_take]
        omega)
      obtain ⟨w0, rfl⟩ : ∃ w0, w0 = wr := ⟨_, rfl⟩
      clear c1 a1 p1 k2
      go_wp2
      go_loopw [3, 16] (fun v3 v16 wr => ∃ (j : Nat) (L : List Ky), j ≤ yl.length ∧ v16 = .int .i64 (j : Int) ∧ Hid (L = kysOf (ls.take k) ++ kyOf (yl.take j)) ∧ Hid (KRow wr w.heap.size v3 L) ∧ Hid (Below w.heap.size w wr)) (fun _ v16 _ => yl.length - (intOf v16).toNat)
      case atStart => exact ⟨0, _, by omega, rfl, Lib.hid (by simp [kyOf]), HR, HB⟩
      case round =>
        obtain ⟨j, L, hj, rfl, HLL, HR2, HB2⟩ := hrel
        by_cases hq : j < yl.length
        · obtain ⟨g2, o2, rfl, c2⟩ := H2.out (by omega)
          have b1 := (c2 j hq).below HB2.out
          have HQ := Lib.hid hq
          have HT2 := Lib.hid (kyOf_take yl j hq)
          generalize yl[j] = x at b1 HT2
          obtain ⟨xo, xs, xa, xn⟩ := x
          obtain ⟨XA, XC, ex, _⟩ := b1.nl.form
          simp only at ex
          subst ex
          have q0 := b1.c0
          have q1 := b1.c1
          have q2 := b1.c2
          simp only at q0 q1 q2 HT2
          have hgl2 := World.block_lt_of_cell? _ _ q0
          have hal := alloc_below wr (.cells #[.int .i64 xo, .int .i64 xs, .slice XA xn.length XC] 37)
          obtain ⟨A, C, w1, h1, h2, h3⟩ := (KRow.below HR2.out hal).push xo xs (by have := HKN.out j; rw [← HLL.out] at this; omega) (Nat.le_trans HB2.out.size hal.size) 25 34
          rw [World.size_alloc] at h1
          have HR5 := Lib.hid h1
          have HR3 := Lib.hid h2
          have HB3 := Lib.hid (HB2.out.trans ((hal.mono HB2.out.size).trans h3))
          clear c2 b1 h1 h2 h3 hal
          go_wp2_with (at_builtin; refine wpList_append_run rfl _ _ 25 rfl _ _ HR5.out ?_; clear HR5)
          go_roundw
          case rel => exact ⟨j + 1, L ++ [(xo, xs)], HQ.out, by go_num, Lib.hid (by rw [HT2.out, HLL.out, List.append_assoc]), HR3, HB3⟩
          case measure => have := HQ.out; simp [intOf]; omega
        · have HE : Hid (kysOf (ls.take k) ++ kyOf (yl.take j) = kysOf (ls.take (k + 1))) := Lib.hid (by rw [HT.out, List.take_of_length_le (show yl.length ≤ j by omega)])
          go_wp2
          go_roundw
          case rel => exact ⟨k + 1, HP.out, by go_num, Lib.hid (by rw [← HE.out, ← HLL.out]; exact HR2.out), HB2⟩
          case measure => have := HP.out; simp [intOf]; omega
    · have HE : Hid (kysOf (ls.take k) = kysOf ls) := Lib.hid (by rw [List.take_of_length_le (show ls.length ≤ k by omega)])
      obtain ⟨A, C, ev, _⟩ := own_form HR.out
      rw [ev] at HR
      subst ev
      go_wp2
      go_ret
      exact ⟨_, rfl, by rw [← HE.out]; exact HR.out, HB.out⟩
end Go.Proofs.Ytgdajnjfkokmdaa

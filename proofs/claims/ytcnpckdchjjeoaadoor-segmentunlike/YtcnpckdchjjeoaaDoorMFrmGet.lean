/-
  Chapter 4's own Get, by contract; bytes as texts.
-/
import Derived.Test.YtcnpckdchjjeoaaDoorMFrmRefLay
namespace Go.Proofs.YtcnpckdchjjeoaaDoor
open Go.RowKit Go.Lib
set_option maxRecDepth 100000
def getT (n : Int) (b : Bool) (w : World) (e : Ending) (w' : World) : Prop := e = .returned (.tuple #[.int .i64 n, .bool b]) ∧ Below w.heap.size w w'

set_option maxHeartbeats 4000000 in
theorem get_no (l : List Int) (ad : Option Addr) (cap : Nat) (at_ : Int) (m : Nat) (w : World) (hl : l.length ≤ 1000000) (hm : m ≤ 6) (h : at_ < 0 ∨ (l.length : Int) < at_ + m) (hr : at_ ≤ 9223372036854775807) :
    Calls Tryd.prog 48 #[.slice ad l.length cap, .int .i64 at_, .int .i64 (m : Int)] w (getT 0 false w) := by
  by_cases h0 : at_ < 0
  · have e0 : decide (at_ < 0) = true := by simpa using h0
    go_enter Tryd.func48, Tryd.ntmps48
    go_wp2
    go_ret2
    exact ⟨rfl, Below.refl _ _⟩
  · have e0 : decide (at_ < 0) = false := by simpa using h0
    by_cases h1 : (l.length : Int) < (m : Int)
    · have e1 : decide ((l.length : Int) < (m : Int)) = true := by simpa using h1
      go_enter Tryd.func48, Tryd.ntmps48
      go_wp2
      go_ret2
      exact ⟨rfl, Below.refl _ _⟩
    · have e1 : decide ((l.length : Int) < (m : Int)) = false := by simpa using h1
      have e2 : decide ((l.length : Int) - (m : Int) < at_) = true := by simp; omega
      go_enter Tryd.func48, Tryd.ntmps48
      go_wp2
      go_ret2
      exact ⟨rfl, Below.refl _ _⟩

set_option maxHeartbeats 4000000 in
theorem get_yes (l : List Int) (b o cap a m : Nat) (w : World) (hb : Byts w b o l) (ho : OkB l) (hl : l.length ≤ 1000000) (hm : m ≤ 6) (h : a + m ≤ l.length) :
    Calls Tryd.prog 48 #[.slice (some ⟨b, o, none⟩) l.length cap, .int .i64 (a : Int), .int .i64 (m : Int)] w (getT (unB 0 ((l.drop a).take m)) true w) := by
  have H := Lib.hid hb
  have HO := Lib.hid ho
  have e0 : decide ((a : Int) < 0) = false := by simp
  have e1 : decide ((l.length : Int) < (m : Int)) = false := by simp; omega
  have e2 : decide ((l.length : Int) - (m : Int) < (a : Int)) = false := by simp; omega
  clear hb ho
  go_enter Tryd.func48, Tryd.ntmps48
  go_wp2
  go_loopw [8, 9] (fun v8 v9 wr => ∃ (k : Nat) (N : Int), k ≤ m ∧ v9 = .int .i64 (k : Int) ∧ v8 = .int .i64 N ∧ Hid (N = unB 0 ((l.drop a).take k)) ∧ wr = w) (fun _ v9 _ => m - (RowKit.intOf v9).toNat)
  case atStart => exact ⟨0, 0, by omega, rfl, rfl, Lib.hid rfl, rfl⟩
  case round =>
    obtain ⟨k, N, hk, rfl, rfl, hN, rfl⟩ := hrel
    by_cases hp : k < m
    · have hkl : k < (l.drop a).length := by rw [List.length_drop]; omega
      have c0 := (H.out.drop a) k hkl
      have hx := (HO.out.drop a).at k hkl
      have hn := unB_lt5 ((l.drop a).take k) ((HO.out.drop a).take k) (by rw [List.length_take]; omega)
      rw [← hN.out] at hn
      have hs := unB_step (l.drop a) k hkl
      rw [← hN.out] at hs
      generalize (l.drop a)[k] = x at c0 hx hs
      rw [Nat.add_assoc] at c0
      have HS := Lib.hid hs
      obtain ⟨n0, n1⟩ := hn
      obtain ⟨x0, x1⟩ := hx
      have hbl : b < wr.heap.size := World.block_lt_of_cell? wr _ c0
      clear hs hN hkl
      go_wp2
      go_roundw
      case rel => exact ⟨k + 1, N * 256 + x, hp, by go_num, rfl, Lib.hid HS.out.symm, trivial⟩
      case measure => simp [RowKit.intOf]; omega
    · have hkk : k = m := by omega
      subst hkk
      go_wp2
      go_ret2
      exact ⟨by rw [← hN.out]; rfl, Below.refl _ _⟩

/-- Bytes, as a text. -/
theorem conv_run {W : World} {A : Option Addr} {N C : Nat} {l : List Int} (h : Bl W (.slice A N C) l) (h0 : 0 < l.length) : (convert 33 9 (.slice A N C)).run Tryd.prog W = .ok (.string (strOfNums l)) W := by
  rcases h with ⟨e, rfl⟩ | ⟨ad, cap, e, h⟩
  · simp at h0
  · simp only [Value.slice.injEq] at e
    obtain ⟨rfl, rfl, rfl⟩ := e
    obtain ⟨b, o, rfl, hs⟩ := h h0
    exact run_convert_bytes_arg (P := Tryd.prog) W 33 5 Tryd.underlying33 Tryd.underlying5 b o l.length C l rfl (fun i hi => by
      rw [hs i hi, List.getD_eq_getElem?_getD, List.getElem?_eq_getElem hi]; rfl) 9 Tryd.underlying9
theorem conv_run2 {W : World} {A : Option Addr} {N C : Nat} {l : List Int} (h : Bl W (.slice A N C) l) (h0 : 0 < l.length) : (Conv.bytesToString (.slice A N C)).run Tryd.prog W = .ok (.string (strOfNums l)) W := by
  have h1 := conv_run h h0
  generalize strOfNums l = S at h1 ⊢
  simp only [convert, go_sem] at h1
  exact h1
theorem str_inj : ∀ {a b : List Int}, OkB a → OkB b → strOfNums a = strOfNums b → a = b := by
  intro a b ha hb e
  unfold strOfNums at e
  have e1 : (a.map fun n => UInt8.ofNat n.toNat) = (b.map fun n => UInt8.ofNat n.toNat) := by simpa using e
  clear e
  induction a generalizing b with
  | nil => cases b with
    | nil => rfl
    | cons y t => simp at e1
  | cons x s ih => cases b with
    | nil => simp at e1
    | cons y t =>
      simp only [List.map_cons, List.cons.injEq] at e1
      have hx := ha x (by simp)
      have hy := hb y (by simp)
      have e2 := congrArg UInt8.toNat e1.1
      simp at e2
      have e3 : x = y := by omega
      subst e3
      rw [ih (fun z hz => ha z (List.mem_cons_of_mem _ hz)) (fun z hz => hb z (List.mem_cons_of_mem _ hz)) e1.2]
theorem unB_split : ∀ (s : List Int) (a : Int), unB a s = a * 256 ^ s.length + unB 0 s
  | [], a => by simp [unB]
  | x :: t, a => by
    rw [unB, unB, unB_split t (a * 256 + x), unB_split t (0 * 256 + x), List.length_cons, Int.pow_succ, Int.add_mul, Int.zero_mul, Int.zero_add, Int.mul_assoc a 256, Int.mul_comm 256 (256 ^ t.length)]
    omega
theorem mul_lt_split {x y P r s : Int} (hr : 0 ≤ r ∧ r < P) (hs : 0 ≤ s ∧ s < P) (h : x * P + r = y * P + s) : ¬ x < y := by
  intro hlt
  have h1 : (x + 1) * P ≤ y * P := Int.mul_le_mul_of_nonneg_right (by omega) (by omega)
  rw [Int.add_mul, Int.one_mul] at h1
  omega
theorem unB_inj : ∀ (s t : List Int), s.length = t.length → OkB s → OkB t → unB 0 s = unB 0 t → s = t
  | [], [], _, _, _, _ => rfl
  | [], _ :: _, h, _, _, _ => by simp at h
  | _ :: _, [], h, _, _, _ => by simp at h
  | x :: s, y :: t, h, hs, ht, e => by
    have h' : s.length = t.length := by simpa using h
    have os : OkB s := fun z hz => hs z (List.mem_cons_of_mem _ hz)
    have ot : OkB t := fun z hz => ht z (List.mem_cons_of_mem _ hz)
    rw [unB, unB, Int.zero_mul, Int.zero_add, Int.zero_add, unB_split s, unB_split t, h'] at e
    have b1 := unB_bound s 0 os (by omega)
    have b2 := unB_bound t 0 ot (by omega)
    rw [Int.zero_add, Int.one_mul] at b1 b2
    rw [h'] at b1
    have n1 := mul_lt_split b1 b2 e
    have n2 := mul_lt_split b2 b1 e.symm
    have hxy : x = y := by omega
    subst hxy
    rw [unB_inj s t h' os ot (by omega)]
/-- Eight bytes are those of a number just if the number is theirs. -/
theorem seal_same {m : List Int} {D : Int} (hm : m.length = 8) (ho : OkB m) (hD : U64 D) : (strOfNums (numB D 8) = strOfNums m) ↔ unB 0 m = D := by
  have hu : unB 0 (numB D 8) = D := un_num D 8 hD.1 (by have := hD.2; simpa using this)
  constructor
  · intro h
    rw [← str_inj (numB_ok D 8) ho h, hu]
  · intro h
    rw [unB_inj (numB D 8) m (by rw [numB_len, hm]) (numB_ok D 8) ho (by rw [hu, h])]
end Go.Proofs.YtcnpckdchjjeoaaDoor

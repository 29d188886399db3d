/-
  take, readHead, by contract: the numbers of bytes.
-/
import Derived.Test.YtchkadifjbmmpaaDoorWRecLay
import Derived.Laws.BitsAllLaws
namespace Go.Proofs.YtchkadifjbmmpaaDoor.R
open Go.RowKit Go.Lib
set_option maxRecDepth 100000

def unB (n : Int) : List Int → Int
  | [] => n
  | x :: t => unB (n * 256 + x) t
def OkB (l : List Int) : Prop := ∀ x ∈ l, 0 ≤ x ∧ x < 256
theorem OkB.at {l : List Int} (h : OkB l) (k : Nat) (hk : k < l.length) : 0 ≤ l[k] ∧ l[k] < 256 := h _ (List.getElem_mem hk)
theorem OkB.take {l : List Int} (h : OkB l) (k : Nat) : OkB (l.take k) := fun x hx => h x (List.mem_of_mem_take hx)
theorem OkB.drop {l : List Int} (h : OkB l) (k : Nat) : OkB (l.drop k) := fun x hx => h x (List.mem_of_mem_drop hx)
theorem unB_append (n : Int) : ∀ (a b : List Int), unB n (a ++ b) = unB (unB n a) b
  | [], b => rfl
  | x :: a, b => by rw [List.cons_append, unB, unB, unB_append]
termination_by a => a.length
theorem unB_bound : ∀ (l : List Int) (n : Int), OkB l → 0 ≤ n → 0 ≤ unB n l ∧ unB n l < (n + 1) * 256 ^ l.length
  | [], n, _, h => by simp [unB]; omega
  | x :: t, n, hl, h => by
    have hx := hl x (List.mem_cons_self ..)
    have ih := unB_bound t (n * 256 + x) (fun y hy => hl y (List.mem_cons_of_mem _ hy)) (by omega)
    rw [unB, List.length_cons, Int.pow_succ]
    refine ⟨ih.1, Int.lt_of_lt_of_le ih.2 ?_⟩
    rw [Int.mul_comm (256 ^ t.length) 256, ← Int.mul_assoc]
    exact Int.mul_le_mul_of_nonneg_right (by omega) (Int.pow_nonneg (by omega))
theorem unB_lt (l : List Int) (h : OkB l) (hn : l.length ≤ 6) : 0 ≤ unB 0 l ∧ unB 0 l < 281474976710656 := by
  have h1 := unB_bound l 0 h (by omega)
  refine ⟨h1.1, Int.lt_of_lt_of_le h1.2 ?_⟩
  have h2 : (256 : Nat) ^ l.length ≤ 256 ^ 6 := Nat.pow_le_pow_right (by decide) hn
  have h3 : ((256 ^ l.length : Nat) : Int) ≤ ((256 ^ 6 : Nat) : Int) := Int.ofNat_le.2 h2
  simpa using h3
theorem unB_lt5 (l : List Int) (h : OkB l) (hn : l.length ≤ 5) : 0 ≤ unB 0 l ∧ unB 0 l < 1099511627776 := by
  have h1 := unB_bound l 0 h (by omega)
  refine ⟨h1.1, Int.lt_of_lt_of_le h1.2 ?_⟩
  have h2 : (256 : Nat) ^ l.length ≤ 256 ^ 5 := Nat.pow_le_pow_right (by decide) hn
  have h3 : ((256 ^ l.length : Nat) : Int) ≤ ((256 ^ 5 : Nat) : Int) := Int.ofNat_le.2 h2
  simpa using h3
theorem unB_step (l : List Int) (k : Nat) (hk : k < l.length) : unB 0 (l.take (k + 1)) = unB 0 (l.take k) * 256 + l[k] := by
  rw [List.take_succ_eq_append_getElem hk, unB_append]
  rfl

theorem or_i64 (n x : Int) (h0 : 0 ≤ n) (h1 : n < 1099511627776) (h2 : 0 ≤ x) (h3 : x < 256) : bits .or .i64 (n * 256) x = n * 256 + x := by
  obtain ⟨N, rfl⟩ := Int.eq_ofNat_of_zero_le h0
  obtain ⟨X, rfl⟩ := Int.eq_ofNat_of_zero_le h2
  show IntKind.i64.wrap ((BitVec.ofInt 64 ((N : Int) * 256) ||| BitVec.ofInt 64 (X : Int)).toNat : Int) = _
  have e : ((N : Int) * 256) = ((N * 256 : Nat) : Int) := by simp
  rw [e, BitVec.toNat_or, ofInt_u64 (N * 256) (by omega), ofInt_u64 X (by omega), IntKind.wrap_i64]
  have h := Nat.shiftLeft_add_eq_or_of_lt (show X < 2 ^ 8 by omega) N
  rw [Nat.shiftLeft_eq] at h
  rw [show N * 256 ||| X = N * 256 + X from h.symm]
  omega

def takeT (n : Int) (v : Value) (w : World) (e : Ending) (w' : World) : Prop := e = .returned (.tuple #[.int .i64 n, v]) ∧ Below w.heap.size w w'

set_option maxHeartbeats 4000000 in
theorem take_mid (l : List Int) (b o cap many : Nat) (w : World) (hb : Byts w b o l) (ho : OkB l) (hm : many ≤ l.length) (hm6 : many ≤ 6) (h0 : 0 < many) (hl : l.length ≤ 1000000) (hcl : l.length ≤ cap) (hcap : ¬ cap = many) :
    Calls Tryd.prog 81 #[.slice (some ⟨b, o, none⟩) l.length cap, .int .i64 (many : Int)] w (takeT (unB 0 (l.take many)) (.slice (some ⟨b, o + many, none⟩) (l.length - many : Nat) (cap - many)) w) := by
  have H := Lib.hid hb
  have HO := Lib.hid ho
  have hc : ¬ cap = 0 := by omega
  have hmc : many ≤ cap := by omega
  clear hb ho
  go_enter Tryd.func81, Tryd.ntmps81
  go_wp2
  go_loopw [6, 13] (fun v6 v13 wr => ∃ (k : Nat) (N : Int), k ≤ many ∧ v13 = .int .i64 (k : Int) ∧ v6 = .int .i64 N ∧ Hid (N = unB 0 (l.take k)) ∧ wr = w) (fun _ v13 _ => many - (RowKit.intOf v13).toNat)
  case atStart => exact ⟨0, 0, by omega, rfl, rfl, Lib.hid rfl, rfl⟩
  case round =>
    obtain ⟨k, N, hk, rfl, rfl, hN, rfl⟩ := hrel
    by_cases hp : k < many
    · have hkl : k < l.length := by omega
      have c0 := H.out k hkl
      have hx := HO.out.at k hkl
      have hn := unB_lt5 (l.take k) (HO.out.take k) (by rw [List.length_take]; omega)
      rw [← hN.out] at hn
      have hs := unB_step l k hkl
      rw [← hN.out] at hs
      generalize l[k] = x at c0 hx hs
      have hor := or_i64 N x hn.1 hn.2 hx.1 hx.2
      have HS := Lib.hid hs
      obtain ⟨n0, n1⟩ := hn
      obtain ⟨x0, x1⟩ := hx
      have hbl : b < wr.heap.size := World.block_lt_of_cell? wr _ c0
      clear hs hN
      go_wp2
      go_roundw
      case rel => exact ⟨k + 1, N * 256 + x, hp, by go_num, rfl, Lib.hid HS.out.symm, trivial⟩
      case measure => simp [RowKit.intOf]; omega
    · have hkk : k = many := by omega
      subst hkk
      go_wp2
      go_quiet (fail)
      go_wp2
      go_ret2
      exact ⟨by rw [← hN.out]; rfl, below_drewN (Below.refl _ _) nq⟩

set_option maxHeartbeats 4000000 in
theorem take_end (l : List Int) (b o : Nat) (w : World) (hb : Byts w b o l) (ho : OkB l) (hm6 : l.length ≤ 6) (h0 : 0 < l.length) :
    Calls Tryd.prog 81 #[.slice (some ⟨b, o, none⟩) l.length l.length, .int .i64 (l.length : Int)] w (takeT (unB 0 (l.take l.length)) (.slice (some ⟨b, o, none⟩) 0 0) w) := by
  have H := Lib.hid hb
  have HO := Lib.hid ho
  have hc : ¬ l.length = 0 := by omega
  clear hb ho
  go_enter Tryd.func81, Tryd.ntmps81
  go_wp2
  go_loopw [6, 13] (fun v6 v13 wr => ∃ (k : Nat) (N : Int), k ≤ l.length ∧ v13 = .int .i64 (k : Int) ∧ v6 = .int .i64 N ∧ Hid (N = unB 0 (l.take k)) ∧ wr = w) (fun _ v13 _ => l.length - (RowKit.intOf v13).toNat)
  case atStart => exact ⟨0, 0, by omega, rfl, rfl, Lib.hid rfl, rfl⟩
  case round =>
    obtain ⟨k, N, hk, rfl, rfl, hN, rfl⟩ := hrel
    by_cases hp : k < l.length
    · have hkl : k < l.length := by omega
      have c0 := H.out k hkl
      have hx := HO.out.at k hkl
      have hn := unB_lt5 (l.take k) (HO.out.take k) (by rw [List.length_take]; omega)
      rw [← hN.out] at hn
      have hs := unB_step l k hkl
      rw [← hN.out] at hs
      generalize l[k] = x at c0 hx hs
      have hor := or_i64 N x hn.1 hn.2 hx.1 hx.2
      have HS := Lib.hid hs
      obtain ⟨n0, n1⟩ := hn
      obtain ⟨x0, x1⟩ := hx
      have hbl : b < wr.heap.size := World.block_lt_of_cell? wr _ c0
      clear hs hN
      go_wp2
      go_roundw
      case rel => exact ⟨k + 1, N * 256 + x, hp, by go_num, rfl, Lib.hid HS.out.symm, trivial⟩
      case measure => simp [RowKit.intOf]; omega
    · have hkk : k = l.length := by omega
      subst hkk
      go_wp2
      go_quiet (fail)
      go_wp2
      go_ret2
      exact ⟨by rw [← hN.out]; rfl, below_drewN (Below.refl _ _) nq⟩
end Go.Proofs.YtchkadifjbmmpaaDoor.R

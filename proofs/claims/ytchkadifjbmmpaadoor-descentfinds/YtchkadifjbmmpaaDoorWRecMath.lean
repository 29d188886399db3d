/-
  PLAIN LEAN: what was laid is read again.
-/
import Derived.Test.YtchkadifjbmmpaaDoorWRecRefRead
namespace Go.Proofs.YtchkadifjbmmpaaDoor.R
open Go.RowKit Go.Lib
set_option maxRecDepth 100000

theorem unB_numB (m : Int) (N : Nat) : ∀ k, unB m (numB (N : Int) k) = m * 256 ^ k + ((N % 256 ^ k : Nat) : Int)
  | 0 => by simp [numB, unB, Nat.mod_one]
  | k + 1 => by
    rw [numB, unB]
    rw [unB_numB _ N k]
    have e : ((N : Int) / 2 ^ (8 * k)) % 256 = ((N / 256 ^ k % 256 : Nat) : Int) := by
      rw [show (2 : Int) ^ (8 * k) = ((256 ^ k : Nat) : Int) from by rw [Int.pow_mul]; simp]
      simp
    rw [e, Nat.pow_succ, Nat.mod_mul, Int.pow_succ, Int.add_mul, Int.mul_assoc m 256, Int.mul_comm 256 (256 ^ k)]
    simp only [Int.natCast_add, Int.natCast_mul, Int.natCast_pow]
    rw [Int.mul_comm ((256 : Nat) ^ k : Int) _]
    simp
    omega
theorem un_num (n : Int) (k : Nat) (h0 : 0 ≤ n) (h1 : n < 256 ^ k) : unB 0 (numB n k) = n := by
  obtain ⟨N, rfl⟩ := Int.eq_ofNat_of_zero_le h0
  rw [unB_numB, Int.zero_mul, Int.zero_add, Nat.mod_eq_of_lt]
  have : ((N : Nat) : Int) < ((256 ^ k : Nat) : Int) := by simpa using h1
  exact Int.ofNat_lt.1 this
theorem numB_ok (n : Int) : ∀ k, OkB (numB n k)
  | 0 => fun x hx => by simp [numB] at hx
  | k + 1 => fun x hx => by
    rw [numB, List.mem_cons] at hx
    rcases hx with rfl | hx
    · omega
    · exact numB_ok n k x hx
theorem OkB.append {a b : List Int} (h : OkB a) (k : OkB b) : OkB (a ++ b) := fun x hx => by
  rcases List.mem_append.1 hx with hx | hx
  · exact h x hx
  · exact k x hx
theorem txt_ok (t : ByteArray) : OkB (txt t) := fun x hx => by
  obtain ⟨b, _, rfl⟩ := List.mem_map.1 hx
  have := b.toNat_lt
  omega
theorem headL_ok (o s w c n : Int) : OkB (headL o s w c n) := ((((numB_ok _ _).append (numB_ok _ _)).append (numB_ok _ _)).append (numB_ok _ _)).append (numB_ok _ _)
theorem layL_ok (r : Rc) : OkB (layL r) := (headL_ok _ _ _ _ _).append (txt_ok _)
theorem str_txt (t : ByteArray) : strOfNums (txt t) = t := by
  have e : ((txt t).map fun n => UInt8.ofNat n.toNat) = t.data.toList := by
    unfold txt
    rw [List.map_map]
    conv => rhs; rw [← List.map_id t.data.toList]
    apply List.map_congr_left
    intro b _
    simp
  unfold strOfNums
  rw [e]

theorem hd_head (o s w c n : Int) (t : List Int) : (headL o s w c n ++ t).take 1 = numB o 1 ∧ ((headL o s w c n ++ t).drop 1).take 2 = numB s 2 ∧ ((headL o s w c n ++ t).drop 3).take 6 = numB w 6 ∧ ((headL o s w c n ++ t).drop 9).take 2 = numB c 2 ∧ ((headL o s w c n ++ t).drop 11).take 1 = numB n 1 ∧ (headL o s w c n ++ t).drop 12 = t := by
  simp [headL, numB]

theorem inB_iff {n m : Int} (h : inB n m = true) : 0 ≤ n ∧ n ≤ m := by
  unfold inB at h
  simpa using h
theorem mayR_bounds {r : Rc} (h : mayR r = true) : (0 ≤ r.o ∧ r.o < 8) ∧ (1 ≤ r.s ∧ r.s ≤ 1023) ∧ (0 ≤ r.w ∧ r.w ≤ 1099511627776) ∧ (0 ≤ r.c ∧ r.c ≤ 65535) ∧ r.t.size ≤ 120 := by
  have hz := mayR_size h
  unfold mayR keyB smayB at h
  simp only [Bool.and_eq_true, decide_eq_true_eq] at h
  have h1 := inB_iff h.2.1.1
  have h2 := inB_iff h.2.1.2
  exact ⟨⟨h.1.1, h.1.2.1⟩, ⟨h.1.2.2.1, h.1.2.2.2⟩, h1, h2, hz⟩

/-- What was laid is read again, whatever stands behind it. -/
theorem lay_read (r : Rc) (t : List Int) (h : mayR r = true) : rdR (layL r ++ t) = r ∧ hdN (layL r ++ t) = (r.t.size : Int) ∧ rdOk (layL r ++ t) = true := by
  obtain ⟨h1, h2, h3, h4, h5⟩ := mayR_bounds h
  have e : layL r ++ t = headL r.o r.s r.w r.c (r.t.size : Int) ++ (txt r.t ++ t) := by unfold layL; rw [List.append_assoc]
  obtain ⟨k1, k2, k3, k4, k5, k6⟩ := hd_head r.o r.s r.w r.c (r.t.size : Int) (txt r.t ++ t)
  have eN : hdN (layL r ++ t) = (r.t.size : Int) := by
    rw [e]; unfold hdN; rw [k5]; exact un_num _ _ (by omega) (by omega)
  have eR : rdR (layL r ++ t) = r := by
    unfold rdR
    rw [eN]
    rw [e]
    unfold hdO hdS hdW hdC
    rw [k1, k2, k3, k4, k6, un_num r.o 1 (by omega) (by omega), un_num r.s 2 (by omega) (by omega), un_num r.w 6 (by omega) (by omega), un_num r.c 2 (by omega) (by omega), Int.toNat_natCast, List.take_append_of_le_length (by rw [txt_len]; exact Nat.le_refl _), List.take_of_length_le (by rw [txt_len]; exact Nat.le_refl _), str_txt]
  refine ⟨eR, eN, ?_⟩
  unfold rdOk
  rw [eR, eN, h, List.length_append, layL_len]
  simp
  omega
theorem lay_at (r : Rc) (a t : List Int) (h : mayR r = true) : atOk (a ++ (layL r ++ t)) (a.length : Int) = true ∧ rdR ((a ++ (layL r ++ t)).drop (a.length : Int).toNat) = r ∧ hdN ((a ++ (layL r ++ t)).drop (a.length : Int).toNat) = (r.t.size : Int) := by
  have e : (a ++ (layL r ++ t)).drop (a.length : Int).toNat = layL r ++ t := by rw [Int.toNat_natCast, List.drop_left]
  obtain ⟨h1, h2, h3⟩ := lay_read r t h
  unfold atOk
  rw [e, h1, h2, h3]
  simp
  omega
theorem lay_cut (r : Rc) (a : List Int) (k : Nat) (h : mayR r = true) (hk : k < (layL r).length) : atOk (a ++ (layL r).take k) (a.length : Int) = false := by
  have e : (a ++ (layL r).take k).drop (a.length : Int).toNat = (layL r).take k := by rw [Int.toNat_natCast, List.drop_left]
  unfold atOk rdOk
  rw [e]
  by_cases h12 : 12 ≤ k
  · have hN : hdN ((layL r).take k) = (r.t.size : Int) := by
      have h1 := (lay_read r [] h).2.1
      rw [List.append_nil] at h1
      rw [← h1]
      have := (take_take12 (layL r)).2.2.2.2
      have h2 := (take_take12 ((layL r).take k)).2.2.2.2
      rw [List.take_take, Nat.min_eq_left h12] at h2
      rw [← h2, this]
    rw [layL_len] at hk
    rw [hN, List.length_take, layL_len, decide_eq_false (show ¬ ((r.t.size : Int) ≤ ((min k (12 + r.t.size) : Nat) : Int) - 12) by omega)]
    simp
  · rw [List.length_take, decide_eq_false (show ¬ 12 ≤ min k (layL r).length by omega)]
    simp
theorem sameR_iff (a b : Rc) : sameR a b = true ↔ a = b := by
  unfold sameR
  constructor
  · intro h
    simp only [Bool.and_eq_true, beq_iff_eq] at h
    obtain ⟨⟨h1, h2⟩, ⟨h3, h4⟩, h5⟩ := h
    have h6 : a.t = b.t := by
      rw [Lib.toList_data, Lib.toList_data] at h5
      have h7 : a.t.data = b.t.data := Array.ext' h5
      cases ha : a.t with | mk da => cases hb : b.t with | mk db => rw [ha, hb] at h7; simp at h7; rw [h7]
    cases a; cases b; simp_all
  · rintro rfl
    simp
theorem lay_inj (a b : Rc) (ha : mayR a = true) (hb : mayR b = true) : sameB (layL a) (layL b) = sameR a b := by
  cases h : sameR a b
  · cases h2 : sameB (layL a) (layL b)
    · rfl
    · rw [sameB_iff] at h2
      have h3 := (lay_read a [] ha).1
      have h4 := (lay_read b [] hb).1
      rw [h2, h4] at h3
      rw [(sameR_iff a b).2 h3.symm] at h
      cases h
  · rw [sameR_iff] at h
    subst h
    exact (sameB_iff _ _).2 rfl

def oneR : Rc := ⟨0, 1, 7, 0, ⟨#[97]⟩⟩
theorem one_may : mayR oneR = true := by decide +kernel
theorem one_lay : layL oneR = [0, 0, 1, 0, 0, 0, 0, 0, 7, 0, 0, 1, 97] := by decide +kernel
theorem one_less : lessR oneR oneR = false := by decide +kernel
theorem same_self (a : Rc) : sameR a a = true := (sameR_iff a a).2 rfl
theorem sameB_self (l : List Int) : sameB l l = true := (sameB_iff l l).2 rfl
end Go.Proofs.YtchkadifjbmmpaaDoor.R

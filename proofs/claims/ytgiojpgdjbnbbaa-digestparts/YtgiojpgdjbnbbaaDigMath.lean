/-
  A sum tells unlike bytes at one place: what is multiplied by an odd number, and what a number is joined with, goes back.
-/
import Derived.Test.YtgiojpgdjbnbbaaDigArgs
namespace Go.Proofs.Ytgiojpgdjbnbbaa
open Go.RowKit Go.Lib

def U64 (h : Int) : Prop := 0 ≤ h ∧ h < 18446744073709551616
theorem stp_u64 (h b : Int) : U64 (stp h b) := by
  unfold stp U64
  rw [IntKind.wrap_u64]
  omega
theorem mul_back {x y : Int} (hx : U64 x) (hy : U64 y) (h : IntKind.u64.wrap (x * 1099511628211) = IntKind.u64.wrap (y * 1099511628211)) : x = y := by
  rw [IntKind.wrap_u64, IntKind.wrap_u64] at h
  have key : ∀ z : Int, U64 z → (z * 1099511628211 % 18446744073709551616) * 14886173955864302971 % 18446744073709551616 = z := by
    intro z hz
    obtain ⟨h0, h1⟩ := hz
    omega
  have h1 := key x hx
  have h2 := key y hy
  rw [h] at h1
  exact h1.symm.trans h2
theorem byte_wrap {b : Int} (h : 0 ≤ b ∧ b < 256) : IntKind.u64.wrap b = b := by rw [IntKind.wrap_u64]; omega
theorem stp_eq {h b : Int} (hh : U64 h) (hb : 0 ≤ b ∧ b < 256) : stp h b = IntKind.u64.wrap (((h.toNat ^^^ b.toNat : Nat) : Int) * 1099511628211) := by
  unfold stp
  rw [byte_wrap hb, u64_xor h b hh.1 hh.2 hb.1 (by omega)]
theorem xor_u64 {h b : Int} (hh : U64 h) (hb : 0 ≤ b ∧ b < 256) : U64 ((h.toNat ^^^ b.toNat : Nat) : Int) := by
  have hx : h.toNat ^^^ b.toNat < 2 ^ 64 := Nat.xor_lt_two_pow (by have := hh.2; omega) (by omega)
  exact ⟨by omega, by omega⟩
theorem xor_left {a b c : Nat} (h : a ^^^ b = a ^^^ c) : b = c := by
  have h2 := congrArg (a ^^^ ·) h
  simpa [← Nat.xor_assoc] using h2
theorem stp_left {h h' b : Int} (hh : U64 h) (hh' : U64 h') (hb : 0 ≤ b ∧ b < 256) (e : stp h b = stp h' b) : h = h' := by
  rw [stp_eq hh hb, stp_eq hh' hb] at e
  have e2 := mul_back (xor_u64 hh hb) (xor_u64 hh' hb) e
  have e3 : h.toNat ^^^ b.toNat = h'.toNat ^^^ b.toNat := by omega
  rw [Nat.xor_comm, Nat.xor_comm h'.toNat] at e3
  have := xor_left e3
  have := hh.1
  have := hh'.1
  omega
theorem stp_right {h b b' : Int} (hh : U64 h) (hb : 0 ≤ b ∧ b < 256) (hb' : 0 ≤ b' ∧ b' < 256) (e : stp h b = stp h b') : b = b' := by
  rw [stp_eq hh hb, stp_eq hh hb'] at e
  have e2 := mul_back (xor_u64 hh hb) (xor_u64 hh hb') e
  have e3 : h.toNat ^^^ b.toNat = h.toNat ^^^ b'.toNat := by omega
  have := xor_left e3
  omega
theorem fnv_u64 : ∀ (l : List Int) (h : Int), U64 h → U64 (fnv h l)
  | [], _, hh => hh
  | x :: t, h, _ => fnv_u64 t _ (stp_u64 h x)
theorem fnv_left : ∀ (l : List Int) (h h' : Int), OkB l → U64 h → U64 h' → fnv h l = fnv h' l → h = h'
  | [], _, _, _, _, _, e => e
  | x :: t, _, _, ok, hh, hh', e =>
    stp_left hh hh' (ok x (List.mem_cons_self ..)) (fnv_left t _ _ (fun y hy => ok y (List.mem_cons_of_mem _ hy)) (stp_u64 _ _) (stp_u64 _ _) e)
theorem begin_u64 : U64 14695981039346656037 := ⟨by decide, by decide⟩

/-- With one byte another one it is another one. -/
theorem fnv_unlike (l : List Int) (n : Nat) (hn : n < l.length) (y : Int) (ok : OkB l) (hy : 0 ≤ y ∧ y < 256) (hne : y ≠ l[n]) : fnv 14695981039346656037 (l.set n y) ≠ fnv 14695981039346656037 l := by
  intro e
  have e1 : l.set n y = l.take n ++ y :: l.drop (n + 1) := List.set_eq_take_append_cons_drop .. |>.trans (if_pos hn)
  have e2 : l = l.take n ++ l[n] :: l.drop (n + 1) := by rw [← List.drop_eq_getElem_cons hn, List.take_append_drop]
  rw [e1] at e
  have e3 : fnv 14695981039346656037 l = fnv 14695981039346656037 (l.take n ++ l[n] :: l.drop (n + 1)) := by rw [← e2]
  rw [e3, fnv_append, fnv_append, fnv, fnv] at e
  have okd : OkB (l.drop (n + 1)) := fun x hx => ok x (List.mem_of_mem_drop hx)
  have h1 := fnv_left _ _ _ okd (stp_u64 _ _) (stp_u64 _ _) e
  exact hne (stp_right (fnv_u64 _ _ begin_u64) hy (ok _ (List.getElem_mem hn)) h1)
theorem xor_byte {x d : Int} (hx : 0 ≤ x ∧ x < 256) (hd : 0 ≤ d ∧ d < 256) (h0 : d ≠ 0) : (0 ≤ bits .xor .u8 x d ∧ bits .xor .u8 x d < 256) ∧ bits .xor .u8 x d ≠ x := by
  rw [u8_xor x d hx.1 hx.2 hd.1 hd.2]
  have hl : x.toNat ^^^ d.toNat < 2 ^ 8 := Nat.xor_lt_two_pow (by omega) (by omega)
  refine ⟨⟨by omega, by omega⟩, fun e => ?_⟩
  have e1 : x.toNat ^^^ d.toNat = x.toNat ^^^ 0 := by rw [Nat.xor_zero]; omega
  have := xor_left e1
  omega
theorem fnvs_parts (l : List Int) (lo hi : Nat) (h : Int) (hlo : lo ≤ hi) : fnvs h [l.take lo, (l.drop lo).take (hi - lo), [], l.drop hi] = fnv h l := by
  simp only [fnvs, fnv]
  rw [← fnv_append, ← fnv_append]
  congr 1
  rw [← List.append_assoc] <;> try rfl
  have e : l.drop hi = (l.drop lo).drop (hi - lo) := by rw [List.drop_drop]; congr 1; omega
  rw [e, List.append_assoc, List.take_append_drop, List.take_append_drop]
end Go.Proofs.Ytgiojpgdjbnbbaa

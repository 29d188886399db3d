/-
  PLAIN LEAN, no program: UTF-8 there and back, and the words of a list of runes: what package tokens is held against.
-/
import Derived.Lib.MapLaws
import Derived.Lib.ValidLaws
import Derived.Lib.CaseU
import Derived.Lib.IsU
namespace Go.Proofs.GvTok
open Go.Lib

def okRune (r : Nat) : Prop := r < 55296 ∨ (57344 ≤ r ∧ r ≤ 1114111)
def encN (r : Nat) : List UInt8 := encodeRune (r : Int)
def enc (rs : List Nat) : List UInt8 := rs.flatMap encN

theorem encN_len (r : Nat) : 1 ≤ (encN r).length ∧ (encN r).length ≤ 4 := by
  have := encodeRuneZ_length (r : Int)
  simpa [encN, encodeRune] using this

theorem u8 (n : Nat) (h : n < 256) : (n.toUInt8).toNat = n := by
  simp; omega

theorem decode_encN (r : Nat) (h : okRune r) (t : List UInt8) : decodeL (encN r ++ t) = (r, (encN r).length) := by
  unfold okRune at h
  rw [decodeL_N]
  unfold encN encodeRune
  by_cases h1 : r ≤ 127
  · rw [encodeRuneZ_one (by omega) (by omega)]
    simp only [List.map_cons, List.map_nil, List.cons_append, List.nil_append, List.getD_cons_zero, List.length_cons, List.length_nil]
    rw [show ((r : Int).toNat) = r from by omega, u8 r (by omega)]
    unfold decodeN
    rw [if_pos (by omega)]
  · by_cases h2 : r ≤ 2047
    · rw [encodeRuneZ_two (by omega) (by omega)]
      simp only [List.map_cons, List.map_nil, List.cons_append, List.nil_append, List.getD_cons_zero, List.getD_cons_succ, List.length_cons, List.length_nil]
      rw [show ((192 + (r : Int) / 64).toNat) = 192 + r / 64 from by omega, show ((128 + (r : Int) % 64).toNat) = 128 + r % 64 from by omega, u8 _ (by omega), u8 _ (by omega)]
      unfold decodeN
      rw [if_neg (by omega), if_pos (by omega), if_pos (by omega)]
      refine Prod.ext ?_ rfl
      show _ = r
      omega
    · by_cases h3 : r ≤ 65535
      · rw [encodeRuneZ_three (by omega)]
        simp only [List.map_cons, List.map_nil, List.cons_append, List.nil_append, List.getD_cons_zero, List.getD_cons_succ, List.length_cons, List.length_nil]
        rw [show ((224 + (r : Int) / 4096).toNat) = 224 + r / 4096 from by omega, show ((128 + (r : Int) / 64 % 64).toNat) = 128 + r / 64 % 64 from by omega, show ((128 + (r : Int) % 64).toNat) = 128 + r % 64 from by omega, u8 _ (by omega), u8 _ (by omega), u8 _ (by omega)]
        unfold decodeN
        rw [if_neg (by omega), if_neg (by omega), if_pos (by omega), if_pos (by omega)]
        refine Prod.ext ?_ rfl
        show _ = r
        omega
      · rw [encodeRuneZ_four (by omega) (by omega)]
        simp only [List.map_cons, List.map_nil, List.cons_append, List.nil_append, List.getD_cons_zero, List.getD_cons_succ, List.length_cons, List.length_nil]
        rw [show ((240 + (r : Int) / 262144).toNat) = 240 + r / 262144 from by omega, show ((128 + (r : Int) / 4096 % 64).toNat) = 128 + r / 4096 % 64 from by omega, show ((128 + (r : Int) / 64 % 64).toNat) = 128 + r / 64 % 64 from by omega, show ((128 + (r : Int) % 64).toNat) = 128 + r % 64 from by omega, u8 _ (by omega), u8 _ (by omega), u8 _ (by omega), u8 _ (by omega)]
        unfold decodeN
        rw [if_neg (by omega), if_neg (by omega), if_neg (by omega), if_pos (by omega), if_pos (by omega)]
        refine Prod.ext ?_ rfl
        show _ = r
        omega

theorem encN_len1 (r : Nat) (h : (encN r).length = 1) : r ≤ 127 := by
  rcases Nat.lt_or_ge 127 r with hc | hc
  · exfalso
    unfold encN encodeRune encodeRuneZ at h
    rw [if_neg (by omega)] at h
    revert h
    repeat' split
    all_goals simp
  · exact hc

theorem enc_nil : enc [] = [] := rfl
theorem enc_cons (r : Nat) (t : List Nat) : enc (r :: t) = encN r ++ enc t := by simp [enc]
theorem enc_append (a b : List Nat) : enc (a ++ b) = enc a ++ enc b := by simp [enc]
theorem encN_ne (r : Nat) (t : List UInt8) : encN r ++ t ≠ [] := by
  have := (encN_len r).1
  intro h
  have : (encN r ++ t).length = 0 := by rw [h]; rfl
  rw [List.length_append] at this
  omega
theorem enc_le (rs : List Nat) : rs.length ≤ (enc rs).length := by
  induction rs with
  | nil => simp
  | cons r t ih => rw [enc_cons, List.length_append, List.length_cons]; have := (encN_len r).1; omega

def Ok (rs : List Nat) : Prop := ∀ r ∈ rs, okRune r
theorem Ok.tail {r : Nat} {t : List Nat} (h : Ok (r :: t)) : Ok t := fun x hx => h x (by simp [hx])
theorem Ok.head {r : Nat} {t : List Nat} (h : Ok (r :: t)) : okRune r := h r (by simp)
theorem Ok.append {a b : List Nat} (ha : Ok a) (hb : Ok b) : Ok (a ++ b) := fun x hx => by
  rcases List.mem_append.1 hx with h | h
  · exact ha x h
  · exact hb x h
theorem Ok.take {a : List Nat} (ha : Ok a) (k : Nat) : Ok (a.take k) := fun x hx => ha x (List.mem_of_mem_take hx)
theorem Ok.drop {a : List Nat} (ha : Ok a) (k : Nat) : Ok (a.drop k) := fun x hx => ha x (List.mem_of_mem_drop hx)

/-- What encodes runes that may be is UTF-8. -/
theorem valid_enc : ∀ (rs : List Nat), Ok rs → validD (enc rs) = true
  | [], _ => rfl
  | r :: t, h => by
    rw [enc_cons, validD_step _ (encN_ne r _), decode_encN r h.head, if_neg, List.drop_left]
    · exact valid_enc t h.tail
    · rintro ⟨a, b⟩
      have := encN_len1 r b
      dsimp only at a
      omega

theorem decode_ok (l : List UInt8) : okRune (decodeL l).1 := by
  rw [decodeL_N]
  have k0 := (l.getD 0 0).toNat_lt
  have k1 := (l.getD 1 0).toNat_lt
  unfold okRune
  rcases decodeN_shape l.length (l.getD 0 0).toNat (l.getD 1 0).toNat (l.getD 2 0).toNat (l.getD 3 0).toNat with ⟨c, e⟩ | ⟨c1, c2, c3, cv, e⟩ | ⟨c1, c2, c3, c4, cv, cs, e⟩ | ⟨c1, c2, c3, c4, c5, cv, cw, e⟩ | e
  all_goals (rw [e]; dsimp only; omega)

/-- What is UTF-8 encodes runes that may be. -/
theorem valid_dec : ∀ (n : Nat) (l : List UInt8), l.length ≤ n → validD l = true → ∃ rs, Ok rs ∧ enc rs = l
  | 0, l, hn, _ => ⟨[], fun x hx => by simp at hx, by rw [List.eq_nil_of_length_eq_zero (by omega : l.length = 0)]; rfl⟩
  | n + 1, l, hn, hv => by
    by_cases hne : l = []
    · exact ⟨[], fun x hx => by simp at hx, hne.symm ▸ rfl⟩
    · rw [validD_step l hne] at hv
      by_cases hb : (decodeL l).1 = 65533 ∧ (decodeL l).2 = 1
      · rw [if_pos hb] at hv; cases hv
      · rw [if_neg hb] at hv
        have hw := decodeL_width l
        have hl : 0 < l.length := List.length_pos_iff.2 hne
        obtain ⟨rs, ho, he⟩ := valid_dec n (l.drop (decodeL l).2) (by rw [List.length_drop]; omega) hv
        refine ⟨(decodeL l).1 :: rs, fun x hx => ?_, ?_⟩
        · rcases List.mem_cons.1 hx with rfl | h
          · exact decode_ok l
          · exact ho x h
        · rw [enc_cons, he]
          unfold encN
          rw [encode_decode l hne hb, List.take_append_drop]

theorem valid_split (l : List UInt8) (hv : validD l = true) : ∃ rs, Ok rs ∧ enc rs = l := valid_dec l.length l (Nat.le_refl _) hv

/-- where the k-th rune begins -/
def plen (rs : List Nat) (k : Nat) : Nat := (enc (rs.take k)).length
theorem plen_zero (rs : List Nat) : plen rs 0 = 0 := by simp [plen, enc]
theorem plen_succ (rs : List Nat) (k : Nat) (hk : k < rs.length) : plen rs (k + 1) = plen rs k + (encN rs[k]).length := by
  unfold plen
  rw [List.take_succ_eq_append_getElem hk, enc_append, List.length_append]
  simp [enc]
theorem plen_all (rs : List Nat) : plen rs rs.length = (enc rs).length := by simp [plen]
theorem plen_add (rs : List Nat) (k : Nat) : plen rs k + (enc (rs.drop k)).length = (enc rs).length := by
  unfold plen
  rw [← List.length_append, ← enc_append, List.take_append_drop]
theorem plen_lt (rs : List Nat) (k : Nat) (hk : k < rs.length) : plen rs k < (enc rs).length := by
  have h := plen_add rs k
  have := enc_le (rs.drop k)
  rw [List.length_drop] at this
  omega
theorem plen_mono (rs : List Nat) (i j : Nat) (h : i ≤ j) : plen rs i ≤ plen rs j := by
  unfold plen
  have : rs.take j = rs.take i ++ (rs.take j).drop i := by
    have h1 := List.take_append_drop i (rs.take j)
    rw [List.take_take, Nat.min_eq_left h] at h1
    exact h1.symm
  rw [this, enc_append, List.length_append]
  omega
theorem enc_drop (rs : List Nat) (k : Nat) : (enc rs).drop (plen rs k) = enc (rs.drop k) := by
  unfold plen
  conv => lhs; arg 2; rw [← List.take_append_drop k rs]
  rw [enc_append, List.drop_left]
theorem enc_take (rs : List Nat) (k : Nat) : (enc rs).take (plen rs k) = enc (rs.take k) := by
  unfold plen
  conv => lhs; arg 2; rw [← List.take_append_drop k rs]
  rw [enc_append, List.take_left]
/-- The bytes from the i-th rune to the j-th. -/
theorem enc_cut (rs : List Nat) (i j : Nat) (h : i ≤ j) : ((enc rs).take (plen rs j)).drop (plen rs i) = enc ((rs.take j).drop i) := by
  rw [enc_take]
  have : plen rs i = plen (rs.take j) i := by unfold plen; rw [List.take_take, Nat.min_eq_left h]
  rw [this, enc_drop]
theorem decode_at_k (rs : List Nat) (ho : Ok rs) (k : Nat) (hk : k < rs.length) : decodeL ((enc rs).drop (plen rs k)) = (rs[k], (encN rs[k]).length) := by
  rw [enc_drop, List.drop_eq_getElem_cons hk, enc_cons, decode_encN _ (ho _ (List.getElem_mem hk))]

/-! ### words -/
def letter (r : Nat) : Bool := isLetterU (r : Int) || isDigitU (r : Int)
def low (rs : List Nat) : List UInt8 := rs.flatMap fun r : Nat => encodeRune (toLowerU (r : Int))
def runs : List Nat → List Nat → List (List Nat)
  | cur, [] => if cur = [] then [] else [cur]
  | cur, r :: t => if letter r = true then runs (cur ++ [r]) t else if cur = [] then runs [] t else cur :: runs [] t
def words (rs : List Nat) : List (List UInt8) := (runs [] rs).map low

theorem low_len (rs : List Nat) : (low rs).length ≤ 4 * rs.length ∧ rs.length ≤ (low rs).length := by
  induction rs with
  | nil => simp [low]
  | cons r t ih =>
    have h := encodeRuneZ_length (toLowerU (r : Int))
    simp only [low, List.flatMap_cons, List.length_append, List.length_cons] at ih ⊢
    have : (encodeRune (toLowerU (r : Int))).length = (encodeRuneZ (toLowerU (r : Int))).length := by simp [encodeRune]
    omega
theorem low_append (a b : List Nat) : low (a ++ b) = low a ++ low b := by simp [low]

theorem runs_nil (cur : List Nat) (h : cur ≠ []) : runs cur [] = [cur] := by simp [runs, h]
theorem runs_nil0 : runs [] [] = [] := by simp [runs]
theorem runs_letter (cur : List Nat) (r : Nat) (t : List Nat) (h : letter r = true) : runs cur (r :: t) = runs (cur ++ [r]) t := by simp [runs, h]
theorem runs_other0 (r : Nat) (t : List Nat) (h : letter r = false) : runs [] (r :: t) = runs [] t := by simp [runs, h]
theorem runs_other (cur : List Nat) (r : Nat) (t : List Nat) (h : letter r = false) (hc : cur ≠ []) : runs cur (r :: t) = cur :: runs [] t := by simp [runs, h, hc]

theorem runs_join (g : Nat) (hg : letter g = false) : ∀ (x cur y : List Nat), runs cur (x ++ g :: y) = runs cur x ++ runs [] y
  | [], cur, y => by
    by_cases hc : cur = []
    · subst hc; simp [runs, hg]
    · simp [runs, hg, hc]
  | r :: t, cur, y => by
    rw [List.cons_append]
    cases hl : letter r
    · by_cases hc : cur = []
      · subst hc; rw [runs_other0 _ _ hl, runs_other0 _ _ hl, runs_join g hg t [] y]
      · rw [runs_other _ _ _ hl hc, runs_other _ _ _ hl hc, runs_join g hg t [] y, List.cons_append]
    · rw [runs_letter _ _ _ hl, runs_letter _ _ _ hl, runs_join g hg t _ y]

theorem runs_ne : ∀ (x cur : List Nat), ∀ u ∈ runs cur x, u ≠ []
  | [], cur, u, hu => by
    by_cases hc : cur = []
    · subst hc; simp [runs] at hu
    · rw [runs_nil cur hc] at hu; simp at hu; subst hu; exact hc
  | r :: t, cur, u, hu => by
    cases hl : letter r
    · by_cases hc : cur = []
      · subst hc; rw [runs_other0 _ _ hl] at hu; exact runs_ne t [] u hu
      · rw [runs_other _ _ _ hl hc] at hu
        rcases List.mem_cons.1 hu with rfl | h
        · exact hc
        · exact runs_ne t [] u h
    · rw [runs_letter _ _ _ hl] at hu; exact runs_ne t _ u hu

theorem runs_all : ∀ (x cur : List Nat), (∀ r ∈ x, letter r = true) → cur ++ x ≠ [] → runs cur x = [cur ++ x]
  | [], cur, _, hc => by rw [List.append_nil] at hc ⊢; exact runs_nil cur hc
  | r :: t, cur, h, hc => by
    rw [runs_letter _ _ _ (h r (by simp)), runs_all t _ (fun q hq => h q (by simp [hq])) (by simp)]
    simp

theorem runs_length : ∀ (x cur : List Nat), (runs cur x).length ≤ cur.length + x.length
  | [], cur => by
    by_cases hc : cur = []
    · subst hc; simp [runs]
    · rw [runs_nil cur hc]
      have := List.length_pos_iff.2 hc
      simp; omega
  | r :: t, cur => by
    cases hl : letter r
    · by_cases hc : cur = []
      · subst hc; rw [runs_other0 _ _ hl]; have := runs_length t []; simp at this ⊢; omega
      · rw [runs_other _ _ _ hl hc]
        have := runs_length t []
        have := List.length_pos_iff.2 hc
        simp at *; omega
    · rw [runs_letter _ _ _ hl]
      have := runs_length t (cur ++ [r])
      simp at *; omega

/-- What is encoded, whatever rune: UTF-8. -/
def fixR (r : Int) : Nat := if (0 ≤ r ∧ r < 55296) ∨ (57344 ≤ r ∧ r ≤ 1114111) then r.toNat else 65533
theorem fixR_ok (r : Int) : okRune (fixR r) := by unfold fixR okRune; split <;> omega
theorem fixR_enc (r : Int) : encN (fixR r) = encodeRune r := by
  unfold fixR encN
  split
  · rw [show ((r.toNat : Nat) : Int) = r from by omega]
  · have h1 : encodeRuneZ r = [239, 191, 189] := encodeRuneZ_bad (by omega)
    have h2 : encodeRuneZ ((65533 : Nat) : Int) = [239, 191, 189] := by decide
    unfold encodeRune
    rw [h1, h2]
theorem low_valid (rs : List Nat) : validD (low rs) = true := by
  have h : low rs = enc (rs.map fun r : Nat => fixR (toLowerU (r : Int))) := by
    unfold low enc
    rw [List.flatMap_map]
    congr 1
    funext r
    exact (fixR_enc _).symm
  rw [h]
  exact valid_enc _ fun x hx => by
    obtain ⟨r, _, rfl⟩ := List.mem_map.1 hx
    exact fixR_ok _

end Go.Proofs.GvTok

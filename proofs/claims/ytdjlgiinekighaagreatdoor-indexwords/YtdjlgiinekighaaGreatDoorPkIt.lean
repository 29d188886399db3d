/-
  PLAIN LEAN, no program: UTF-8 there and back, and the words of a list of runes: what package tokens is held against.
-/
import Derived.Lib.MapLaws
import Derived.Lib.ValidLaws
import Derived.Lib.CaseU
import Derived.Lib.IsU
import Derived.Test.YtdjlgiinekighaaGreatDoorShelf
import Derived.WalkKit
import Derived.Shelf.Unicode.ValidAny
import Derived.WalkMore
import Derived.BigCall
import Derived.Below
import Derived.Lib.Hide
import Derived.Shelf.Unicode.PredsPay
import Derived.OwnWalk
import Derived.Laws.OwnMore
import Derived.WalkSmall
import Derived.Deep.Onto
import Derived.Laws.Cover4
import Derived.Laws.IdiomStrings
import Derived.Deep.AppendLies
namespace Go.Proofs.GvTok
open Go.Lib

def okRune (r : Nat) : Prop := r < 55296 ∨ (57344 ≤ r ∧ r ≤ 1114111)
def encN (r : Nat) : List UInt8 := encodeRune (r : Int)
def enc (rs : List Nat) : List UInt8 := rs.flatMap encN

theorem encN_len (r : Nat) : 1 ≤ (encN r).length ∧ (encN r).length ≤ 4 := by
  have := encodeRuneZ_length (r : Int)
  simpa [encN, encodeRune] using this

theorem u8 (n : Nat) (h : n < 256) : (n.toUInt8).toNat = n := by
  simp; omega

theorem decode_encN (r : Nat) (h : okRune r) (t : List UInt8) : decodeL (encN r ++ t) = (r, (encN r).length) := by
  unfold okRune at h
  rw [decodeL_N]
  unfold encN encodeRune
  by_cases h1 : r ≤ 127
  · rw [encodeRuneZ_one (by omega) (by omega)]
    simp only [List.map_cons, List.map_nil, List.cons_append, List.nil_append, List.getD_cons_zero, List.length_cons, List.length_nil]
    rw [show ((r : Int).toNat) = r from by omega, u8 r (by omega)]
    unfold decodeN
    rw [if_pos (by omega)]
  · by_cases h2 : r ≤ 2047
    · rw [encodeRuneZ_two (by omega) (by omega)]
      simp only [List.map_cons, List.map_nil, List.cons_append, List.nil_append, List.getD_cons_zero, List.getD_cons_succ, List.length_cons, List.length_nil]
      rw [show ((192 + (r : Int) / 64).toNat) = 192 + r / 64 from by omega, show ((128 + (r : Int) % 64).toNat) = 128 + r % 64 from by omega, u8 _ (by omega), u8 _ (by omega)]
      unfold decodeN
      rw [if_neg (by omega), if_pos (by omega), if_pos (by omega)]
      refine Prod.ext ?_ rfl
      show _ = r
      omega
    · by_cases h3 : r ≤ 65535
      · rw [encodeRuneZ_three (by omega)]
        simp only [List.map_cons, List.map_nil, List.cons_append, List.nil_append, List.getD_cons_zero, List.getD_cons_succ, List.length_cons, List.length_nil]
        rw [show ((224 + (r : Int) / 4096).toNat) = 224 + r / 4096 from by omega, show ((128 + (r : Int) / 64 % 64).toNat) = 128 + r / 64 % 64 from by omega, show ((128 + (r : Int) % 64).toNat) = 128 + r % 64 from by omega, u8 _ (by omega), u8 _ (by omega), u8 _ (by omega)]
        unfold decodeN
        rw [if_neg (by omega), if_neg (by omega), if_pos (by omega), if_pos (by omega)]
        refine Prod.ext ?_ rfl
        show _ = r
        omega
      · rw [encodeRuneZ_four (by omega) (by omega)]
        simp only [List.map_cons, List.map_nil, List.cons_append, List.nil_append, List.getD_cons_zero, List.getD_cons_succ, List.length_cons, List.length_nil]
        rw [show ((240 + (r : Int) / 262144).toNat) = 240 + r / 262144 from by omega, show ((128 + (r : Int) / 4096 % 64).toNat) = 128 + r / 4096 % 64 from by omega, show ((128 + (r : Int) / 64 % 64).toNat) = 128 + r / 64 % 64 from by omega, show ((128 + (r : Int) % 64).toNat) = 128 + r % 64 from by omega, u8 _ (by omega), u8 _ (by omega), u8 _ (by omega), u8 _ (by omega)]
        unfold decodeN
        rw [if_neg (by omega), if_neg (by omega), if_neg (by omega), if_pos (by omega), if_pos (by omega)]
        refine Prod.ext ?_ rfl
        show _ = r
        omega

theorem encN_len1 (r : Nat) (h : (encN r).length = 1) : r ≤ 127 := by
  rcases Nat.lt_or_ge 127 r with hc | hc
  · exfalso
    unfold encN encodeRune encodeRuneZ at h
    rw [if_neg (by omega)] at h
    revert h
    repeat' split
    all_goals simp
  · exact hc

theorem enc_nil : enc [] = [] := rfl
theorem enc_cons (r : Nat) (t : List Nat) : enc (r :: t) = encN r ++ enc t := by simp [enc]
theorem enc_append (a b : List Nat) : enc (a ++ b) = enc a ++ enc b := by simp [enc]
theorem encN_ne (r : Nat) (t : List UInt8) : encN r ++ t ≠ [] := by
  have := (encN_len r).1
  intro h
  have : (encN r ++ t).length = 0 := by rw [h]; rfl
  rw [List.length_append] at this
  omega
theorem enc_le (rs : List Nat) : rs.length ≤ (enc rs).length := by
  induction rs with
  | nil => simp
  | cons r t ih => rw [enc_cons, List.length_append, List.length_cons]; have := (encN_len r).1; omega

def Ok (rs : List Nat) : Prop := ∀ r ∈ rs, okRune r
theorem Ok.tail {r : Nat} {t : List Nat} (h : Ok (r :: t)) : Ok t := fun x hx => h x (by simp [hx])
theorem Ok.head {r : Nat} {t : List Nat} (h : Ok (r :: t)) : okRune r := h r (by simp)
theorem Ok.append {a b : List Nat} (ha : Ok a) (hb : Ok b) : Ok (a ++ b) := fun x hx => by
  rcases List.mem_append.1 hx with h | h
  · exact ha x h
  · exact hb x h
theorem Ok.take {a : List Nat} (ha : Ok a) (k : Nat) : Ok (a.take k) := fun x hx => ha x (List.mem_of_mem_take hx)
theorem Ok.drop {a : List Nat} (ha : Ok a) (k : Nat) : Ok (a.drop k) := fun x hx => ha x (List.mem_of_mem_drop hx)

/-- What encodes runes that may be is UTF-8. -/
theorem valid_enc : ∀ (rs : List Nat), Ok rs → validD (enc rs) = true
  | [], _ => rfl
  | r :: t, h => by
    rw [enc_cons, validD_step _ (encN_ne r _), decode_encN r h.head, if_neg, List.drop_left]
    · exact valid_enc t h.tail
    · rintro ⟨a, b⟩
      have := encN_len1 r b
      dsimp only at a
      omega

theorem decode_ok (l : List UInt8) : okRune (decodeL l).1 := by
  rw [decodeL_N]
  have k0 := (l.getD 0 0).toNat_lt
  have k1 := (l.getD 1 0).toNat_lt
  unfold okRune
  rcases decodeN_shape l.length (l.getD 0 0).toNat (l.getD 1 0).toNat (l.getD 2 0).toNat (l.getD 3 0).toNat with ⟨c, e⟩ | ⟨c1, c2, c3, cv, e⟩ | ⟨c1, c2, c3, c4, cv, cs, e⟩ | ⟨c1, c2, c3, c4, c5, cv, cw, e⟩ | e
  all_goals (rw [e]; dsimp only; omega)

/-- What is UTF-8 encodes runes that may be. -/
theorem valid_dec : ∀ (n : Nat) (l : List UInt8), l.length ≤ n → validD l = true → ∃ rs, Ok rs ∧ enc rs = l
  | 0, l, hn, _ => ⟨[], fun x hx => by simp at hx, by rw [List.eq_nil_of_length_eq_zero (by omega : l.length = 0)]; rfl⟩
  | n + 1, l, hn, hv => by
    by_cases hne : l = []
    · exact ⟨[], fun x hx => by simp at hx, hne.symm ▸ rfl⟩
    · rw [validD_step l hne] at hv
      by_cases hb : (decodeL l).1 = 65533 ∧ (decodeL l).2 = 1
      · rw [if_pos hb] at hv; cases hv
      · rw [if_neg hb] at hv
        have hw := decodeL_width l
        have hl : 0 < l.length := List.length_pos_iff.2 hne
        obtain ⟨rs, ho, he⟩ := valid_dec n (l.drop (decodeL l).2) (by rw [List.length_drop]; omega) hv
        refine ⟨(decodeL l).1 :: rs, fun x hx => ?_, ?_⟩
        · rcases List.mem_cons.1 hx with rfl | h
          · exact decode_ok l
          · exact ho x h
        · rw [enc_cons, he]
          unfold encN
          rw [encode_decode l hne hb, List.take_append_drop]

theorem valid_split (l : List UInt8) (hv : validD l = true) : ∃ rs, Ok rs ∧ enc rs = l := valid_dec l.length l (Nat.le_refl _) hv

/-- where the k-th rune begins -/
def plen (rs : List Nat) (k : Nat) : Nat := (enc (rs.take k)).length
theorem plen_zero (rs : List Nat) : plen rs 0 = 0 := by simp [plen, enc]
theorem plen_succ (rs : List Nat) (k : Nat) (hk : k < rs.length) : plen rs (k + 1) = plen rs k + (encN rs[k]).length := by
  unfold plen
  rw [List.take_succ_eq_append_getElem hk, enc_append, List.length_append]
  simp [enc]
theorem plen_all (rs : List Nat) : plen rs rs.length = (enc rs).length := by simp [plen]
theorem plen_add (rs : List Nat) (k : Nat) : plen rs k + (enc (rs.drop k)).length = (enc rs).length := by
  unfold plen
  rw [← List.length_append, ← enc_append, List.take_append_drop]
theorem plen_lt (rs : List Nat) (k : Nat) (hk : k < rs.length) : plen rs k < (enc rs).length := by
  have h := plen_add rs k
  have := enc_le (rs.drop k)
  rw [List.length_drop] at this
  omega
theorem plen_mono (rs : List Nat) (i j : Nat) (h : i ≤ j) : plen rs i ≤ plen rs j := by
  unfold plen
  have : rs.take j = rs.take i ++ (rs.take j).drop i := by
    have h1 := List.take_append_drop i (rs.take j)
    rw [List.take_take, Nat.min_eq_left h] at h1
    exact h1.symm
  rw [this, enc_append, List.length_append]
  omega
theorem enc_drop (rs : List Nat) (k : Nat) : (enc rs).drop (plen rs k) = enc (rs.drop k) := by
  unfold plen
  conv => lhs; arg 2; rw [← List.take_append_drop k rs]
  rw [enc_append, List.drop_left]
theorem enc_take (rs : List Nat) (k : Nat) : (enc rs).take (plen rs k) = enc (rs.take k) := by
  unfold plen
  conv => lhs; arg 2; rw [← List.take_append_drop k rs]
  rw [enc_append, List.take_left]
/-- The bytes from the i-th rune to the j-th. -/
theorem enc_cut (rs : List Nat) (i j : Nat) (h : i ≤ j) : ((enc rs).take (plen rs j)).drop (plen rs i) = enc ((rs.take j).drop i) := by
  rw [enc_take]
  have : plen rs i = plen (rs.take j) i := by unfold plen; rw [List.take_take, Nat.min_eq_left h]
  rw [this, enc_drop]
theorem decode_at_k (rs : List Nat) (ho : Ok rs) (k : Nat) (hk : k < rs.length) : decodeL ((enc rs).drop (plen rs k)) = (rs[k], (encN rs[k]).length) := by
  rw [enc_drop, List.drop_eq_getElem_cons hk, enc_cons, decode_encN _ (ho _ (List.getElem_mem hk))]

/-! ### words -/
def letter (r : Nat) : Bool := isLetterU (r : Int) || isDigitU (r : Int)
def low (rs : List Nat) : List UInt8 := rs.flatMap fun r : Nat => encodeRune (toLowerU (r : Int))
def runs : List Nat → List Nat → List (List Nat)
  | cur, [] => if cur = [] then [] else [cur]
  | cur, r :: t => if letter r = true then runs (cur ++ [r]) t else if cur = [] then runs [] t else cur :: runs [] t
def words (rs : List Nat) : List (List UInt8) := (runs [] rs).map low

theorem low_len (rs : List Nat) : (low rs).length ≤ 4 * rs.length ∧ rs.length ≤ (low rs).length := by
  induction rs with
  | nil => simp [low]
  | cons r t ih =>
    have h := encodeRuneZ_length (toLowerU (r : Int))
    simp only [low, List.flatMap_cons, List.length_append, List.length_cons] at ih ⊢
    have : (encodeRune (toLowerU (r : Int))).length = (encodeRuneZ (toLowerU (r : Int))).length := by simp [encodeRune]
    omega
theorem low_append (a b : List Nat) : low (a ++ b) = low a ++ low b := by simp [low]

theorem runs_nil (cur : List Nat) (h : cur ≠ []) : runs cur [] = [cur] := by simp [runs, h]
theorem runs_nil0 : runs [] [] = [] := by simp [runs]
theorem runs_letter (cur : List Nat) (r : Nat) (t : List Nat) (h : letter r = true) : runs cur (r :: t) = runs (cur ++ [r]) t := by simp [runs, h]
theorem runs_other0 (r : Nat) (t : List Nat) (h : letter r = false) : runs [] (r :: t) = runs [] t := by simp [runs, h]
theorem runs_other (cur : List Nat) (r : Nat) (t : List Nat) (h : letter r = false) (hc : cur ≠ []) : runs cur (r :: t) = cur :: runs [] t := by simp [runs, h, hc]

theorem runs_join (g : Nat) (hg : letter g = false) : ∀ (x cur y : List Nat), runs cur (x ++ g :: y) = runs cur x ++ runs [] y
  | [], cur, y => by
    by_cases hc : cur = []
    · subst hc; simp [runs, hg]
    · simp [runs, hg, hc]
  | r :: t, cur, y => by
    rw [List.cons_append]
    cases hl : letter r
    · by_cases hc : cur = []
      · subst hc; rw [runs_other0 _ _ hl, runs_other0 _ _ hl, runs_join g hg t [] y]
      · rw [runs_other _ _ _ hl hc, runs_other _ _ _ hl hc, runs_join g hg t [] y, List.cons_append]
    · rw [runs_letter _ _ _ hl, runs_letter _ _ _ hl, runs_join g hg t _ y]

theorem runs_ne : ∀ (x cur : List Nat), ∀ u ∈ runs cur x, u ≠ []
  | [], cur, u, hu => by
    by_cases hc : cur = []
    · subst hc; simp [runs] at hu
    · rw [runs_nil cur hc] at hu; simp at hu; subst hu; exact hc
  | r :: t, cur, u, hu => by
    cases hl : letter r
    · by_cases hc : cur = []
      · subst hc; rw [runs_other0 _ _ hl] at hu; exact runs_ne t [] u hu
      · rw [runs_other _ _ _ hl hc] at hu
        rcases List.mem_cons.1 hu with rfl | h
        · exact hc
        · exact runs_ne t [] u h
    · rw [runs_letter _ _ _ hl] at hu; exact runs_ne t _ u hu

theorem runs_all : ∀ (x cur : List Nat), (∀ r ∈ x, letter r = true) → cur ++ x ≠ [] → runs cur x = [cur ++ x]
  | [], cur, _, hc => by rw [List.append_nil] at hc ⊢; exact runs_nil cur hc
  | r :: t, cur, h, hc => by
    rw [runs_letter _ _ _ (h r (by simp)), runs_all t _ (fun q hq => h q (by simp [hq])) (by simp)]
    simp

theorem runs_length : ∀ (x cur : List Nat), (runs cur x).length ≤ cur.length + x.length
  | [], cur => by
    by_cases hc : cur = []
    · subst hc; simp [runs]
    · rw [runs_nil cur hc]
      have := List.length_pos_iff.2 hc
      simp; omega
  | r :: t, cur => by
    cases hl : letter r
    · by_cases hc : cur = []
      · subst hc; rw [runs_other0 _ _ hl]; have := runs_length t []; simp at this ⊢; omega
      · rw [runs_other _ _ _ hl hc]
        have := runs_length t []
        have := List.length_pos_iff.2 hc
        simp at *; omega
    · rw [runs_letter _ _ _ hl]
      have := runs_length t (cur ++ [r])
      simp at *; omega

/-- What is encoded, whatever rune: UTF-8. -/
def fixR (r : Int) : Nat := if (0 ≤ r ∧ r < 55296) ∨ (57344 ≤ r ∧ r ≤ 1114111) then r.toNat else 65533
theorem fixR_ok (r : Int) : okRune (fixR r) := by unfold fixR okRune; split <;> omega
theorem fixR_enc (r : Int) : encN (fixR r) = encodeRune r := by
  unfold fixR encN
  split
  · rw [show ((r.toNat : Nat) : Int) = r from by omega]
  · have h1 : encodeRuneZ r = [239, 191, 189] := encodeRuneZ_bad (by omega)
    have h2 : encodeRuneZ ((65533 : Nat) : Int) = [239, 191, 189] := by decide
    unfold encodeRune
    rw [h1, h2]
theorem low_valid (rs : List Nat) : validD (low rs) = true := by
  have h : low rs = enc (rs.map fun r : Nat => fixR (toLowerU (r : Int))) := by
    unfold low enc
    rw [List.flatMap_map]
    congr 1
    funext r
    exact (fixR_enc _).symm
  rw [h]
  exact valid_enc _ fun x hx => by
    obtain ⟨r, _, rfl⟩ := List.mem_map.1 hx
    exact fixR_ok _

end Go.Proofs.GvTok
/-
  utf8.ValidString at this program.
-/
namespace Go.Proofs.YtdjlgiinekighaaGreatDoor.T
open Go.RowKit Go.Shelf Go.Lib
theorem validString_c (s : ByteArray) (w : World) (hs : s.size ≤ 9223372036854775807) (hT : Lib.Utf8Tabs (Tryz.lays196_ren.g 3) (Tryz.lays196_ren.g 4) w) :
    Calls Tryz.prog 62 #[.string s] w fun e w' => e = .returned (.bool (Lib.validD s.data.toList)) ∧ Below w.heap.size w w' :=
  Any.utf8_ValidString Tryz.lays196 s w hs hT
end Go.Proofs.YtdjlgiinekighaaGreatDoor.T
/-
  The leaves of package tokens: letter, Norm, May, One, by contract.
-/
namespace Go.Proofs.YtdjlgiinekighaaGreatDoor.T
open Go.RowKit Go.Shelf Go.Lib Go.Proofs.GvTok

theorem below_drewN {B : Nat} {a w : World} (h : Below B a w) (n : Nat) : Below B a (w.drewN n) := ⟨h.os, h.tape, h.output, h.size, h.block⟩

/-- The library's six tables are in place. -/
def Tabs (w : World) : Prop :=
  Lib.TabIs Tryz.prog w "unicode.properties" .u8 Lib.propertiesTab ∧ RVar (Tryz.lays200_ren.g 8) letterT w ∧ RVar (Tryz.lays198_ren.g 5) digitT w ∧ CaseVar (Tryz.lays204_ren.g 13) caseA w ∧ Lib.Utf8Tabs (Tryz.lays196_ren.g 3) (Tryz.lays196_ren.g 4) w

theorem caseVar_below {g : Nat} {T : Array CaseRow} {w w' : World} (h : CaseVar g T w) (hb : Below w.heap.size w w') : CaseVar g T w' := by
  have k : ∀ {a : Addr} {v : Value}, w.cell? a = some v → w'.cell? a = some v := fun {a v} hc => (hb.cell (World.block_lt_of_cell? w a hc)).trans hc
  obtain ⟨R, oR, cap, h1, h2⟩ := h
  exact ⟨R, oR, cap, k h1, fun i hi => ⟨k (h2 i hi).1, k (h2 i hi).2.1, k (h2 i hi).2.2.1, k (h2 i hi).2.2.2.1, k (h2 i hi).2.2.2.2⟩⟩
theorem utf8Tabs_below {g3 g4 : Nat} {w w' : World} (h : Lib.Utf8Tabs g3 g4 w) (hb : Below w.heap.size w w') : Lib.Utf8Tabs g3 g4 w' := by
  have k : ∀ {a : Addr} {v : Value}, w.cell? a = some v → w'.cell? a = some v := fun {a v} hc => (hb.cell (World.block_lt_of_cell? w a hc)).trans hc
  exact ⟨fun c hc => k (h.1 c hc), fun i hi => ⟨k (h.2 i hi).1, k (h.2 i hi).2⟩⟩
theorem Tabs.below {w w' : World} (h : Tabs w) (hb : Below w.heap.size w w') : Tabs w' :=
  ⟨TabIs_below (g := Tryz.lays200_ren.g 7) (by kernel_rfl) h.1 hb, RVar_below h.2.1 hb, RVar_below h.2.2.1 hb, caseVar_below h.2.2.2.1 hb, utf8Tabs_below h.2.2.2.2 hb⟩

theorem valid_c (s : ByteArray) (w : World) (hs : s.size ≤ 9223372036854775807) (hT : Tabs w) :
    Calls Tryz.prog 62 #[.string s] w fun e w' => e = .returned (.bool (Lib.validD s.data.toList)) ∧ Below w.heap.size w w' :=
  validString_c s w hs hT.2.2.2.2
theorem isLetter_c (r : Int) (w : World) (hlo : -2147483648 ≤ r) (hhi : r ≤ 2147483647) (hT : Tabs w) :
    Calls Tryz.prog 63 #[.int .i32 r] w fun e w' => e = .returned (.bool (isLetterU r)) ∧ Below w.heap.size w w' :=
  Any.unicode_IsLetter_all Tryz.lays200 (by kernel_rfl) r w hlo hhi hT.1 hT.2.1
theorem isDigit_c (r : Int) (w : World) (hlo : -2147483648 ≤ r) (hhi : r ≤ 2147483647) (hT : Tabs w) :
    Calls Tryz.prog 64 #[.int .i32 r] w fun e w' => e = .returned (.bool (isDigitU r)) ∧ Below w.heap.size w w' :=
  Any.unicode_IsDigit_all Tryz.lays198 r w hlo hhi hT.2.2.1
theorem toLower_c (r : Int) (w : World) (hT : Tabs w) :
    Calls Tryz.prog 65 #[.int .i32 r] w fun e w' => e = .returned (.int .i32 (toLowerU r)) ∧ ∃ q, w' = w.drewN q :=
  Any.unicode_ToLower_laid Tryz.lays204 r w hT.2.2.2.1

set_option maxHeartbeats 1000000 in
theorem letter_c (r : Nat) (w : World) (hhi : r ≤ 1114111) (hT : Tabs w) :
    Calls Tryz.prog 52 #[.int .i32 (r : Int)] w fun e w' => e = .returned (.bool (letter r)) ∧ Below w.heap.size w w' := by
  have cL := isLetter_c (r : Int) w (by omega) (by omega) hT
  have cD : ∀ W1, Below w.heap.size w W1 → Calls Tryz.prog 64 #[.int .i32 (r : Int)] W1 fun e w' => e = .returned (.bool (isDigitU (r : Int))) ∧ Below W1.heap.size W1 w' :=
    fun W1 h1 => isDigit_c (r : Int) W1 (by omega) (by omega) (hT.below h1)
  unfold letter
  clear hT
  cases hl : isLetterU (r : Int) <;> cases hd : isDigitU (r : Int) <;> rw [hl] at cL <;> simp only [hd] at cD
  all_goals (
    go_enter Tryz.func52, Tryz.ntmps52
    go_wp2_with (first
      | (go_at_call 63; refine cL.mono ?_; rintro e W1 ⟨rfl, hb1⟩)
      | (go_at_call 64; refine (cD _ hb1).mono ?_; rintro e W2 ⟨rfl, hb2⟩))
    go_ret
    first
      | exact ⟨rfl, hb1.trans (hb2.mono hb1.size)⟩
      | exact ⟨rfl, hb1⟩)

set_option maxHeartbeats 1000000 in
theorem refletter_c (r : Nat) (w : World) (hhi : r ≤ 1114111) (hT : Tabs w) :
    Calls Tryz.prog 43 #[.int .i32 (r : Int)] w fun e w' => e = .returned (.bool (letter r)) ∧ Below w.heap.size w w' := by
  have cL := isLetter_c (r : Int) w (by omega) (by omega) hT
  have cD : ∀ W1, Below w.heap.size w W1 → Calls Tryz.prog 64 #[.int .i32 (r : Int)] W1 fun e w' => e = .returned (.bool (isDigitU (r : Int))) ∧ Below W1.heap.size W1 w' :=
    fun W1 h1 => isDigit_c (r : Int) W1 (by omega) (by omega) (hT.below h1)
  unfold letter
  clear hT
  cases hl : isLetterU (r : Int) <;> cases hd : isDigitU (r : Int) <;> rw [hl] at cL <;> simp only [hd] at cD
  all_goals (
    go_enter Tryz.func43, Tryz.ntmps43
    go_wp2_with (first
      | (go_at_call 63; refine cL.mono ?_; rintro e W1 ⟨rfl, hb1⟩)
      | (go_at_call 64; refine (cD _ hb1).mono ?_; rintro e W2 ⟨rfl, hb2⟩))
    go_ret
    first
      | exact ⟨rfl, hb1.trans (hb2.mono hb1.size)⟩
      | exact ⟨rfl, hb1⟩)
end Go.Proofs.YtdjlgiinekighaaGreatDoor.T
/-
  tokens.Norm: each rune in lower case, one behind the other; nothing of what is no UTF-8.
-/
namespace Go.Proofs.YtdjlgiinekighaaGreatDoor.T
open Go.RowKit Go.Shelf Go.Lib Go.Proofs.GvTok

theorem extra168 : Builder.Extra Tryz.prog Tryz.lays168_ren :=
  { sizeBuilder := by kernel_rfl, liesBuilder := by kernel_rfl, t5 := Tryz.underlying5, a5 := Tryz.isAgg5, z5 := Tryz.sizeOf5, v5 := Tryz.zeroValue5, infoByte := by kernel_rfl, cellsByte := by kernel_rfl, sizeByte := by kernel_rfl, neB5 := by decide }
theorem extra169 : Builder.Extra Tryz.prog Tryz.lays169_ren :=
  { sizeBuilder := by kernel_rfl, liesBuilder := by kernel_rfl, t5 := Tryz.underlying5, a5 := Tryz.isAgg5, z5 := Tryz.sizeOf5, v5 := Tryz.zeroValue5, infoByte := by kernel_rfl, cellsByte := by kernel_rfl, sizeByte := by kernel_rfl, neB5 := by decide }
theorem writeRune_c (B b : Nat) (bs : List Value) (r : Int) (hr0 : -2147483648 ≤ r) (hr1 : r ≤ 2147483647) (w : World) (h : Lib.IsBuilderF 135 5 B b bs w) (hlen : bs.length + 4 ≤ 140737488355328) (hBw : B ≤ w.heap.size) :
    Calls Tryz.prog 90 #[.pointer (some ⟨b, 0, none⟩), .int .i32 r] w fun e w' => e = .returned (.tuple #[.int .i64 (Lib.runeCells r).length, .nilIface]) ∧ (Lib.BuilderAtF 135 5 B b (.pointer (some ⟨b, 0, none⟩)) (bs ++ Lib.runeCells r) w' ∧ Below B w w' ∧ Lib.OthersKept 5 (some b) w w') :=
  Any.Builder_WriteRune_k Tryz.lays168 extra168 B b bs r hr0 hr1 w h hlen hBw
theorem string_c (B b : Nat) (l : List UInt8) (w : World) (h : Lib.IsBuilderF 135 5 B b (Lib.byteCells l) w) (hBw : B ≤ w.heap.size) :
    Calls Tryz.prog 91 #[.pointer (some ⟨b, 0, none⟩)] w fun e w' => e = .returned (.string ⟨l.toArray⟩) ∧ (Lib.IsBuilderF 135 5 B b (Lib.byteCells l) w' ∧ Below B w w' ∧ Lib.OthersKept 5 (some b) w w') :=
  Any.Builder_String_any_k Tryz.lays169 extra169 B b l w h hBw

theorem toLower_range (r : Nat) (h : r ≤ 1114111) : -2147483648 ≤ toLowerU (r : Int) ∧ toLowerU (r : Int) ≤ 2147483647 := by
  unfold toLowerU
  split
  · split <;> omega
  · unfold toR lookupGo
    cases hi : lookupIdx caseA (r : Int) (caseA.size + 1) 0 caseA.size with
    | none => exact ⟨by simp only [Option.map_none]; omega, by simp only [Option.map_none]; omega⟩
    | some i =>
      obtain ⟨hil, hlo, hhi⟩ := lookupIdx_some caseA (r : Int) _ _ _ i hi
      have hc := convert_fits _ (caseA_row i hil) 1 (by omega) (r : Int) hlo hhi
      simp only [Option.map_some]
      rw [← hc]
      unfold RowKit.wrap32
      omega

set_option maxHeartbeats 1000000 in
theorem norm_bad (s : ByteArray) (w : World) (hs : s.size ≤ 9223372036854775807) (hT : Tabs w) (hv : validD s.data.toList = false) :
    Calls Tryz.prog 73 #[.string s] w fun e w' => e = .returned (.string ⟨#[]⟩) ∧ Below w.heap.size w w' := by
  have cV := valid_c s w hs hT
  rw [hv] at cV
  clear hv
  go_enter Tryz.func73, Tryz.ntmps73
  go_wp2_with (go_at_call 62; refine cV.mono ?_; rintro e w' ⟨rfl, hb⟩)
  go_ret
  exact ⟨rfl, hb⟩

set_option maxHeartbeats 4000000 in
set_option maxRecDepth 1000000 in
theorem norm_ok (rs : List Nat) (s : ByteArray) (w : World) (ho : Ok rs) (he : s.data.toList = enc rs) (hs : s.size ≤ 1099511627776) (hT : Tabs w) :
    Calls Tryz.prog 73 #[.string s] w fun e w' => e = .returned (.string ⟨(low rs).toArray⟩) ∧ Below w.heap.size w w' := by
  have cV := valid_c s w (by omega) hT
  rw [he, valid_enc rs ho] at cV
  have hz : s.size = (enc rs).length := by rw [← he, ← Lib.size_eq]
  have hn : rs.length ≤ 1099511627776 := by have := enc_le rs; omega
  have HD : Hid (∀ k (hk : k < rs.length), Utf8.decode s (plen rs k) = (rs[k], (encN rs[k]).length)) := Lib.hid (fun k hk => by rw [← decodeL_drop, he, decode_at_k rs ho k hk])
  have HZ := Lib.hid hz
  clear he hz
  go_enter Tryz.func73, Tryz.ntmps73
  go_wp2_with (go_at_call 62; refine cV.mono ?_; rintro e w0 ⟨rfl, hb0⟩)
  have hT0 := hT.below hb0
  have hsz0 := hb0.size
  go_loopw [] (fun wr => ∃ (k : Nat), k ≤ rs.length ∧ Lib.IsBuilderF 135 5 w0.heap.size w0.heap.size (Lib.byteCells (low (rs.take k))) wr ∧ wr.heap[w0.heap.size + 1]? = some (.stringIter s (plen rs k)) ∧ Below w0.heap.size w0 wr) (fun wr => s.size - wr.iterPos (w0.heap.size + 1))
  case atStart =>
    refine ⟨0, by omega, (Lib.IsBuilderF.of (Lib.fresh_isBuilder 135 5 w0)).alloc _, ?_, ((Below.refl _ w0).alloc (Nat.le_refl _) _).alloc (by simp) _⟩
    have := World.iter_heap (w0.alloc (.cells #[.pointer none, .slice none 0 0] 135)) s 0
    rw [plen_zero]
    simpa using this
  case round =>
    obtain ⟨k, hk, hI, hit, hbw⟩ := hrel
    have hsz : w0.heap.size + 1 < wr.heap.size := (Array.getElem?_eq_some_iff.1 hit).1
    by_cases hp : k < rs.length
    · have hlt : plen rs k < s.size := by rw [HZ.out]; exact plen_lt rs k hp
      have hr : rs[k] ≤ 1114111 := by have := ho _ (List.getElem_mem hp); unfold okRune at this; omega
      have hnx : ∀ ty, (Instr.next (.pointer (some ⟨w0.heap.size + 1, 0, none⟩)) true ty).run Tryz.prog wr = .ok (.tuple #[.bool true, .int .i64 (plen rs k), .int .i32 (rs[k] : Nat)]) (wr.iterAt (w0.heap.size + 1) s (plen rs (k + 1))) := fun ty => by
        rw [Lib.run_next_any_at wr (w0.heap.size + 1) s (plen rs k) ty hit hlt, HD.out k hp, plen_succ rs k hp]
      have hI2 := hI.iterAt hit (plen rs (k + 1))
      have hit2 := Lib.iterAt_heap wr (w0.heap.size + 1) s (plen rs k) (plen rs (k + 1)) hit
      have hbw2 := Lib.below_iterAt hbw (k := w0.heap.size + 1) (by omega) s (plen rs (k + 1))
      have hsz2 : w0.heap.size ≤ (wr.iterAt (w0.heap.size + 1) s (plen rs (k + 1))).heap.size := by rw [Lib.iterAt_size]; omega
      have hll := low_len (rs.take k)
      rw [List.length_take, Nat.min_eq_left hk] at hll
      have hps := plen_succ rs k hp
      have hel := encN_len rs[k]
      have hpl : plen rs k < plen rs (k + 1) := by omega
      have hple : plen rs (k + 1) ≤ s.size := by rw [HZ.out, ← plen_all rs]; exact plen_mono rs _ _ hp
      clear hps hel
      have cL := toLower_c ((rs[k] : Nat) : Int) _ (hT0.below hbw2)
      obtain ⟨hr0, hr1⟩ := toLower_range rs[k] hr
      have HT2 : Hid (low (rs.take (k + 1)) = low (rs.take k) ++ encodeRune (toLowerU ((rs[k] : Nat) : Int))) := Lib.hid (by rw [List.take_succ_eq_append_getElem hp, low_append]; simp [low])
      generalize toLowerU ((rs[k] : Nat) : Int) = R at cL hr0 hr1 HT2
      go_wp2_with (go_at_call 65; refine cL.mono ?_)
      rintro e W0 ⟨rfl, q, rfl⟩
      go_wp2_with fail
      refine (writeRune_c w0.heap.size w0.heap.size (Lib.byteCells (low (rs.take k))) R hr0 hr1 _ (by exact hI2) (by rw [Lib.byteCells_length]; omega) (by exact hsz2)).mono ?_
      rintro e W1 ⟨rfl, h1, b1, k1⟩
      go_wp2
      have hit3 := k1.iter hit2 (by omega)
      go_roundw
      case rel =>
        refine ⟨k + 1, hp, ?_, hit3, (below_drewN hbw2 q).trans b1⟩
        rw [HT2.out, Lib.byteCells_append, Lib.byteCells_encodeRune]
        exact Or.inr h1
      case measure =>
        simp only [World.iterPos, hit3, hit]
        omega
    · have hkk : k = rs.length := by omega
      subst hkk
      rw [List.take_length] at hI
      rw [plen_all, ← HZ.out] at hit
      have hnx : ∀ ty, (Instr.next (.pointer (some ⟨w0.heap.size + 1, 0, none⟩)) true ty).run Tryz.prog wr = _ := fun ty => Lib.run_next_end_at wr (w0.heap.size + 1) s s.size ty hit (by omega)
      go_wp2_with (go_at_call 91; refine (string_c w0.heap.size w0.heap.size (low rs) _ hI (by omega)).mono ?_)
      rintro e W1 ⟨rfl, _, b1, _⟩
      go_wp2
      go_ret
      exact ⟨rfl, hb0.trans ((hbw.trans b1).mono hsz0)⟩
end Go.Proofs.YtdjlgiinekighaaGreatDoor.T
/-
  tokens.May, tokens.One, tokens.behind, grapevineref1.May, by contract.
-/
namespace Go.Proofs.YtdjlgiinekighaaGreatDoor.T
open Go.RowKit Go.Shelf Go.Lib Go.Proofs.GvTok

def mayB (l : List UInt8) : Bool := decide (l.length ≤ 120) && validD l
theorem mayB_yes {l : List UInt8} (h1 : l.length ≤ 120) (h2 : validD l = true) : mayB l = true := by simp [mayB, h1, h2]

set_option maxHeartbeats 1000000 in
theorem may_c (s : ByteArray) (w : World) (hs : s.size ≤ 9223372036854775807) (hT : Tabs w) :
    Calls Tryz.prog 51 #[.string s] w fun e w' => e = .returned (.bool (mayB s.data.toList)) ∧ Below w.heap.size w w' := by
  have cV := valid_c s w hs hT
  unfold mayB
  rw [← Lib.size_eq]
  generalize validD s.data.toList = V at cV ⊢
  by_cases h : s.size ≤ 120
  · have hz : decide ((s.size : Int) ≤ 120) = true := by simp; omega
    rw [decide_eq_true h, Bool.true_and]
    go_enter Tryz.func51, Tryz.ntmps51
    go_wp2_with (go_at_call 62; refine cV.mono ?_; rintro e w' ⟨rfl, hb⟩)
    go_ret
    exact ⟨rfl, hb⟩
  · have hz : decide ((s.size : Int) ≤ 120) = false := by simp; omega
    rw [decide_eq_false h, Bool.false_and]
    clear cV
    go_enter Tryz.func51, Tryz.ntmps51
    go_wp2
    go_ret
    exact ⟨rfl, Below.refl _ _⟩

set_option maxHeartbeats 1000000 in
theorem refmay_c (s : ByteArray) (w : World) (hs : s.size ≤ 9223372036854775807) (hT : Tabs w) :
    Calls Tryz.prog 41 #[.string s] w fun e w' => e = .returned (.bool (mayB s.data.toList)) ∧ Below w.heap.size w w' := by
  have cV := valid_c s w hs hT
  unfold mayB
  rw [← Lib.size_eq]
  generalize validD s.data.toList = V at cV ⊢
  by_cases h : s.size ≤ 120
  · have hz : decide ((s.size : Int) ≤ 120) = true := by simp; omega
    rw [decide_eq_true h, Bool.true_and]
    go_enter Tryz.func41, Tryz.ntmps41
    go_wp2_with (go_at_call 62; refine cV.mono ?_; rintro e w' ⟨rfl, hb⟩)
    go_ret
    exact ⟨rfl, hb⟩
  · have hz : decide ((s.size : Int) ≤ 120) = false := by simp; omega
    rw [decide_eq_false h, Bool.false_and]
    clear cV
    go_enter Tryz.func41, Tryz.ntmps41
    go_wp2
    go_ret
    exact ⟨rfl, Below.refl _ _⟩

theorem wordInfo : (Tryz.prog.info? 52).map (fun i => (i.zero, i.size, i.bytes)) = some (some (.agg #[.string ⟨#[]⟩, .int .i64 0]), 2, 24) := by kernel_rfl

theorem own_below {w w' : World} {base : Nat} {e : TypeId} {size : Nat} {v : Value} {n : Nat} {xs : List Value} (h : w.ownsRow base e size v n xs) (hb : Below w.heap.size w w') : w'.ownsRow base e size v n xs := by
  cases hv : v.ownBlock with
  | none => exact h.kept (row := none) ⟨hb.os, hb.tape, hb.output, hb.size, fun i hi _ => hb.block i hi⟩ (.inl hv)
  | some g => exact h.kept (row := none) ⟨hb.os, hb.tape, hb.output, hb.size, fun i hi _ => hb.block i hi⟩ (.inr (by rw [hv]; simp))

set_option maxHeartbeats 4000000 in
set_option maxRecDepth 1000000 in
theorem behind_c (rs : List Nat) (s : ByteArray) (w : World) (ho : Ok rs) (he : s.data.toList = enc rs) (hs : s.size ≤ 1099511627776) (hT : Tabs w)
    (B : Nat) (v : Value) (n : Nat) (xs : List Value) (hown : w.ownsRow B 52 2 v n xs) (hn : n ≤ 1000000) (hB : B ≤ w.heap.size) :
    Calls Tryz.prog 53 #[v, .string s] w fun e w' => ∃ v', e = .returned v' ∧ w'.ownsRow B 52 2 v' (n + 1) (xs ++ [.string ⟨(low rs).toArray⟩, .int .i64 n]) ∧ Below B w w' := by
  have cN := norm_ok rs s w ho he hs hT
  obtain ⟨i0, hi, hz0, hz1, hz2⟩ := info_parts wordInfo
  clear he ho
  obtain ⟨ad, cap, rfl⟩ : ∃ ad cap, v = .slice ad n cap := by
    rcases hown.2 with ⟨rfl, rfl⟩ | ⟨g, cap, cur, rfl, _⟩
    · exact ⟨none, 0, rfl⟩
    · exact ⟨_, cap, rfl⟩
  go_enter Tryz.func53, Tryz.ntmps53
  go_wp2_with (first
    | (go_at_call 73; refine cN.mono ?_; rintro e W1 ⟨rfl, b1⟩; have hown1 := own_below hown b1; have hsz1 := b1.size)
    | (at_builtin; refine wpList_append_own _ rfl _ _ 49 rfl B 52 i0 (.agg #[.string ⟨#[]⟩, .int .i64 0]) 2 24 Tryz.underlying49 hi hz0 hz1 hz2 rfl (by decide) _ _ _ rfl (hown1.alloc _) ⟨W1.heap.size, 0, none⟩ 1 1 [.string ⟨(low rs).toArray⟩, .int .i64 (n : Int)] rfl rfl (cell_two_new _ _ _ _) (fun x hx => by simp at hx; rcases hx with rfl | rfl <;> rfl) (by unfold maxLen; omega) (by omega) (by simp; omega) ?_; intro v' w3 hown3 hgrow3 hnil3))
  go_ret
  refine ⟨v', rfl, hown3, ?_⟩
  have hlt := (hown1.alloc (.cells #[.string ⟨(low rs).toArray⟩, .int .i64 (n : Int)] 52)).lt
  exact ((b1.mono hB).alloc (by omega) _).grown hgrow3 (by simp; omega) (fun k hk => (hlt k hk).1)
end Go.Proofs.YtdjlgiinekighaaGreatDoor.T
/-
  tokens.Of: the words of a text that may be; none of others.
-/
namespace Go.Proofs.YtdjlgiinekighaaGreatDoor.T
open Go.RowKit Go.Shelf Go.Lib Go.Proofs.GvTok

def wcells : Nat → List (List UInt8) → List Value
  | _, [] => []
  | i, t :: ts => .string ⟨t.toArray⟩ :: .int .i64 (i : Int) :: wcells (i + 1) ts
theorem wcells_snoc : ∀ (ts : List (List UInt8)) (i : Nat) (t : List UInt8), wcells i (ts ++ [t]) = wcells i ts ++ [.string ⟨t.toArray⟩, .int .i64 ((i + ts.length : Nat) : Int)]
  | [], i, t => by simp [wcells]
  | u :: us, i, t => by
    simp only [List.cons_append, wcells, wcells_snoc us (i + 1) t, List.length_cons]
    rw [show i + 1 + us.length = i + (us.length + 1) from by omega]
theorem wcells_length : ∀ (ts : List (List UInt8)) (i : Nat), (wcells i ts).length = ts.length * 2
  | [], i => rfl
  | u :: us, i => by simp only [wcells, List.length_cons, wcells_length us]; omega

/-- What stands in v: the words ws, in a row of the call's own from block B on. -/
def WordsAt (w : World) (B : Nat) (v : Value) (ws : List (List UInt8)) : Prop := w.ownsRow B 52 2 v ws.length (wcells 0 ws)
theorem WordsAt.below {w w' : World} {B : Nat} {v : Value} {ws : List (List UInt8)} (h : WordsAt w B v ws) (hb : Below w.heap.size w w') : WordsAt w' B v ws := own_below h hb
theorem WordsAt.mono {w : World} {B B' : Nat} {v : Value} {ws : List (List UInt8)} (h : WordsAt w B v ws) (hB : B' ≤ B) : WordsAt w B' v ws := World.ownsRow.mono h hB

def OfInv (rs : List Nat) (k b : Nat) (ins : Bool) (done : List (List Nat)) : Prop :=
  done ++ runs (if ins = true then (rs.take k).drop b else []) (rs.drop k) = runs [] rs ∧ (ins = true → b < k) ∧ b ≤ k
theorem OfInv.start (rs : List Nat) : OfInv rs 0 0 false [] := ⟨by simp, by simp, by omega⟩
theorem OfInv.same_out {rs : List Nat} {k b : Nat} {done : List (List Nat)} (h : OfInv rs k b false done) (hk : k < rs.length) (hl : letter rs[k] = false) : OfInv rs (k + 1) b false done := by
  obtain ⟨h1, h2, h3⟩ := h
  refine ⟨?_, by simp, by omega⟩
  rw [List.drop_eq_getElem_cons hk, if_neg (by simp), runs_other0 _ _ hl] at h1
  rw [if_neg (by simp)]
  exact h1
theorem take_drop_snoc (rs : List Nat) (k b : Nat) (hk : k < rs.length) (hb : b ≤ k) : (rs.take (k + 1)).drop b = (rs.take k).drop b ++ [rs[k]] := by
  rw [List.take_succ_eq_append_getElem hk, List.drop_append_of_le_length (by rw [List.length_take]; omega)]
theorem OfInv.same_in {rs : List Nat} {k b : Nat} {done : List (List Nat)} (h : OfInv rs k b true done) (hk : k < rs.length) (hl : letter rs[k] = true) : OfInv rs (k + 1) b true done := by
  obtain ⟨h1, h2, h3⟩ := h
  refine ⟨?_, fun _ => by omega, by omega⟩
  rw [List.drop_eq_getElem_cons hk, if_pos rfl, runs_letter _ _ _ hl, ← take_drop_snoc rs k b hk h3] at h1
  simpa using h1
theorem OfInv.begin_ {rs : List Nat} {k b : Nat} {done : List (List Nat)} (h : OfInv rs k b false done) (hk : k < rs.length) (hl : letter rs[k] = true) : OfInv rs (k + 1) k true done := by
  obtain ⟨h1, h2, h3⟩ := h
  refine ⟨?_, fun _ => by omega, by omega⟩
  rw [List.drop_eq_getElem_cons hk, if_neg (by simp), runs_letter _ _ _ hl] at h1
  rw [if_pos rfl, take_drop_snoc rs k k hk (Nat.le_refl _)]
  have : (rs.take k).drop k = [] := List.drop_eq_nil_of_le (by rw [List.length_take]; omega)
  rw [this]
  exact h1
theorem cur_ne (rs : List Nat) (k b : Nat) (hk : k ≤ rs.length) (hb : b < k) : (rs.take k).drop b ≠ [] := by
  intro h
  have := List.drop_eq_nil_iff.1 h
  rw [List.length_take] at this
  omega
theorem OfInv.end_ {rs : List Nat} {k b : Nat} {done : List (List Nat)} (h : OfInv rs k b true done) (hk : k < rs.length) (hl : letter rs[k] = false) : OfInv rs (k + 1) k false (done ++ [(rs.take k).drop b]) := by
  obtain ⟨h1, h2, h3⟩ := h
  refine ⟨?_, by simp, by omega⟩
  rw [List.drop_eq_getElem_cons hk, if_pos rfl, runs_other _ _ _ hl (cur_ne rs k b (by omega) (h2 rfl))] at h1
  simpa using h1
theorem OfInv.out {rs : List Nat} {b : Nat} {done : List (List Nat)} (h : OfInv rs rs.length b false done) : done = runs [] rs := by
  have := h.1
  simpa [runs] using this
theorem OfInv.out_in {rs : List Nat} {b : Nat} {done : List (List Nat)} (h : OfInv rs rs.length b true done) : done ++ [rs.drop b] = runs [] rs := by
  have h1 := h.1
  have hb := h.2.1 rfl
  rw [if_pos rfl, List.drop_length, runs_nil _ (cur_ne rs _ b (Nat.le_refl _) hb), List.take_length] at h1
  exact h1
theorem OfInv.len {rs : List Nat} {k b : Nat} {ins : Bool} {done : List (List Nat)} (h : OfInv rs k b ins done) : done.length ≤ rs.length := by
  have h1 := congrArg List.length h.1
  have h2 := runs_length rs []
  rw [List.length_append] at h1
  simp at h2
  omega

theorem of_bad (s : ByteArray) (w : World) (hs : s.size ≤ 9223372036854775807) (hT : Tabs w) (hv : mayB s.data.toList = false) :
    Calls Tryz.prog 29 #[.string s] w fun e w' => e = .returned (.slice none 0 0) ∧ Below w.heap.size w w' := by
  have cM := may_c s w hs hT
  rw [hv] at cM
  clear hv
  go_enter Tryz.func29, Tryz.ntmps29
  go_wp2_with (go_at_call 51; refine cM.mono ?_; rintro e w' ⟨rfl, hb⟩)
  go_ret
  exact ⟨rfl, hb⟩

set_option maxHeartbeats 4000000 in
set_option maxRecDepth 1000000 in
theorem of_ok (rs : List Nat) (s : ByteArray) (w : World) (ho : Ok rs) (he : s.data.toList = enc rs) (hs : s.size ≤ 120) (hT : Tabs w) :
    Calls Tryz.prog 29 #[.string s] w fun e w' => ∃ v, e = .returned v ∧ WordsAt w' w.heap.size v (words rs) ∧ Below w.heap.size w w' := by
  have cM := may_c s w (by omega) hT
  rw [he, mayB_yes (by rw [← he, ← Lib.size_eq]; exact hs) (valid_enc rs ho)] at cM
  have hz : s.size = (enc rs).length := by rw [← he, ← Lib.size_eq]
  have hn : rs.length ≤ 120 := by have := enc_le rs; omega
  have HD : Hid (∀ k (hk : k < rs.length), Utf8.decode s (plen rs k) = (rs[k], (encN rs[k]).length)) := Lib.hid (fun k hk => by rw [← decodeL_drop, he, decode_at_k rs ho k hk])
  have HZ := Lib.hid hz
  have HE := Lib.hid he
  clear he hz
  go_enter Tryz.func29, Tryz.ntmps29
  go_wp2_with (go_at_call 51; refine cM.mono ?_; rintro e w0 ⟨rfl, hb0⟩)
  have hT0 := hT.below hb0
  have hsz0 := hb0.size
  go_loopw [3, 4, 5] (fun v3 v4 v5 wr => ∃ (k b : Nat) (ins : Bool) (done : List (List Nat)), k ≤ rs.length ∧ OfInv rs k b ins done ∧ v4 = .int .i64 ((plen rs b : Nat) : Int) ∧ v5 = .bool ins ∧ WordsAt wr (w0.heap.size + 1) v3 (done.map low) ∧ wr.heap[w0.heap.size]? = some (.stringIter s (plen rs k)) ∧ Below w0.heap.size w0 wr) (fun _ _ _ wr => s.size - wr.iterPos w0.heap.size)
  case atStart =>
    refine ⟨0, 0, false, [], by omega, OfInv.start rs, by rw [plen_zero]; rfl, rfl, World.ownsRow_nil _ _ _ _, ?_, (Below.refl _ w0).alloc (Nat.le_refl _) _⟩
    rw [plen_zero]
    exact World.iter_heap w0 s 0
  case round =>
    obtain ⟨k, b, ins, done, hk, hinv, rfl, rfl, hW, hit, hbw⟩ := hrel
    have hsz : w0.heap.size < wr.heap.size := (Array.getElem?_eq_some_iff.1 hit).1
    have hdl := hinv.len
    by_cases hp : k < rs.length
    · have hlt : plen rs k < s.size := by rw [HZ.out]; exact plen_lt rs k hp
      have hr : rs[k] ≤ 1114111 := by have := ho _ (List.getElem_mem hp); unfold okRune at this; omega
      have hnx : ∀ ty, (Instr.next (.pointer (some ⟨w0.heap.size, 0, none⟩)) true ty).run Tryz.prog wr = .ok (.tuple #[.bool true, .int .i64 (plen rs k), .int .i32 (rs[k] : Nat)]) (wr.iterAt w0.heap.size s (plen rs (k + 1))) := fun ty => by
        rw [Lib.run_next_any_at wr w0.heap.size s (plen rs k) ty hit hlt, HD.out k hp, plen_succ rs k hp]
      have hit2 := Lib.iterAt_heap wr w0.heap.size s (plen rs k) (plen rs (k + 1)) hit
      have hbw2 := Lib.below_iterAt hbw (k := w0.heap.size) (by omega) s (plen rs (k + 1))
      have hW2 : WordsAt (wr.iterAt w0.heap.size s (plen rs (k + 1))) (w0.heap.size + 1) _ (done.map low) := hW.kept (row := some w0.heap.size) ⟨rfl, rfl, rfl, by rw [Lib.iterAt_size]; exact Nat.le_refl _, fun i _ hne => Lib.iterAt_other wr w0.heap.size i s _ (fun e => hne (by rw [e]))⟩ (by
        rcases hv : Value.ownBlock _ with _ | g
        · exact .inl rfl
        · right; intro h; injection h with h; have := (World.ownsRow.lt hW g hv).1; omega)
      have hps := plen_succ rs k hp
      have hel := encN_len rs[k]
      have hpl : plen rs k < plen rs (k + 1) := by omega
      have hple : plen rs (k + 1) ≤ s.size := by rw [HZ.out, ← plen_all rs]; exact plen_mono rs _ _ hp
      clear hps hel
      have cL := letter_c rs[k] _ hr (hT0.below hbw2)
      have HINV := Lib.hid hinv
      have hbk := hinv.2.2
      clear hinv
      cases ins <;> cases hl : letter rs[k] <;> rw [hl] at cL
      · have HI2 := Lib.hid (HINV.out.same_out hp hl)
        clear hl
        go_wp2_with (go_at_call 52; refine cL.mono ?_; rintro e W1 ⟨rfl, b1⟩)
        have hit3 : W1.heap[w0.heap.size]? = some (.stringIter s (plen rs (k + 1))) := by
          rw [b1.block _ (by rw [Lib.iterAt_size]; omega)]; exact hit2
        go_roundw
        case rel => exact ⟨k + 1, b, false, done, hp, HI2.out, rfl, rfl, hW2.below b1, hit3, hbw2.trans (b1.mono hbw2.size)⟩
        case measure =>
          simp only [World.iterPos, hit3, hit]
          omega
      · have HI2 := Lib.hid (HINV.out.begin_ hp hl)
        clear hl
        go_wp2_with (go_at_call 52; refine cL.mono ?_; rintro e W1 ⟨rfl, b1⟩)
        have hit3 : W1.heap[w0.heap.size]? = some (.stringIter s (plen rs (k + 1))) := by
          rw [b1.block _ (by rw [Lib.iterAt_size]; omega)]; exact hit2
        go_roundw
        case rel => exact ⟨k + 1, k, true, done, hp, HI2.out, rfl, rfl, hW2.below b1, hit3, hbw2.trans (b1.mono hbw2.size)⟩
        case measure =>
          simp only [World.iterPos, hit3, hit]
          omega
      · have HI2 := Lib.hid (HINV.out.end_ hp hl)
        clear hl
        have hpm := plen_mono rs b k hbk
        have hle : plen rs k ≤ s.size := by omega
        have hcut : (s.extract (plen rs b) (plen rs k)).data.toList = enc ((rs.take k).drop b) := by rw [Lib.extract_data, HE.out, ← List.drop_take, enc_cut rs b k hbk]
        have HCUT := Lib.hid hcut
        clear hcut
        go_wp2_with (go_at_call 52; refine cL.mono ?_; rintro e W1 ⟨rfl, b1⟩)
        have b01 := hbw2.trans (b1.mono hbw2.size)
        have hs1 : w0.heap.size + 1 ≤ W1.heap.size := by have := b1.size; rw [Lib.iterAt_size] at this; omega
        have cB := behind_c ((rs.take k).drop b) (s.extract (plen rs b) (plen rs k)) W1 ((ho.take k).drop b) HCUT.out (by rw [Lib.size_eq, HCUT.out, ← enc_cut rs b k hbk, List.length_drop, List.length_take, ← HE.out, ← Lib.size_eq]; omega) (hT0.below b01) (w0.heap.size + 1) _ _ _ (hW2.below b1) (by rw [List.length_map]; omega) hs1
        refine cB.mono ?_
        rintro e W2 ⟨v', rfl, hown2, b2⟩
        have hit3 : W2.heap[w0.heap.size]? = some (.stringIter s (plen rs (k + 1))) := by
          rw [b2.block _ (by omega), b1.block _ (by rw [Lib.iterAt_size]; omega)]; exact hit2
        have hW3 : WordsAt W2 (w0.heap.size + 1) v' ((done ++ [(rs.take k).drop b]).map low) := by
          unfold WordsAt
          rw [List.map_append, List.map_cons, List.map_nil, wcells_snoc, List.length_append, Nat.zero_add]
          exact hown2
        clear hown2
        go_wp2
        go_roundw
        case rel => exact ⟨k + 1, k, false, _, hp, HI2.out, rfl, rfl, hW3, hit3, b01.trans (b2.mono (by omega))⟩
        case measure =>
          simp only [World.iterPos, hit3, hit]
          omega
      · have HI2 := Lib.hid (HINV.out.same_in hp hl)
        clear hl
        go_wp2_with (go_at_call 52; refine cL.mono ?_; rintro e W1 ⟨rfl, b1⟩)
        have hit3 : W1.heap[w0.heap.size]? = some (.stringIter s (plen rs (k + 1))) := by
          rw [b1.block _ (by rw [Lib.iterAt_size]; omega)]; exact hit2
        go_roundw
        case rel => exact ⟨k + 1, b, true, done, hp, HI2.out, rfl, rfl, hW2.below b1, hit3, hbw2.trans (b1.mono hbw2.size)⟩
        case measure =>
          simp only [World.iterPos, hit3, hit]
          omega
    · have hkk : k = rs.length := by omega
      subst hkk
      rw [plen_all, ← HZ.out] at hit
      have hnx : ∀ ty, (Instr.next (.pointer (some ⟨w0.heap.size, 0, none⟩)) true ty).run Tryz.prog wr = _ := fun ty => Lib.run_next_end_at wr w0.heap.size s s.size ty hit (by omega)
      have HINV := Lib.hid hinv
      have hbk := hinv.2.2
      clear hinv
      cases ins
      · have HW : Hid (WordsAt wr (w0.heap.size + 1) _ (words rs)) := Lib.hid (by unfold words; rw [← HINV.out.out]; exact hW)
        go_wp2
        go_ret
        exact ⟨_, rfl, HW.out.mono (by omega), hb0.trans (hbw.mono hsz0)⟩
      · have hple : plen rs b ≤ s.size := by rw [HZ.out, ← plen_all rs]; exact plen_mono rs _ _ hbk
        have hcut : (s.extract (plen rs b) s.size).data.toList = enc (rs.drop b) := by rw [Lib.extract_data, HE.out, ← List.drop_take, HZ.out, List.take_length, enc_drop]
        have HCUT := Lib.hid hcut
        clear hcut
        go_wp2_with fail
        have cB := behind_c (rs.drop b) (s.extract (plen rs b) s.size) wr (ho.drop b) HCUT.out (by rw [Lib.size_eq, HCUT.out, ← enc_drop rs b, List.length_drop, ← HZ.out]; omega) (hT0.below hbw) (w0.heap.size + 1) _ _ _ hW (by rw [List.length_map]; omega) hsz
        refine cB.mono ?_
        rintro e W2 ⟨v', rfl, hown2, b2⟩
        have HW : Hid (WordsAt W2 (w0.heap.size + 1) v' (words rs)) := Lib.hid (by
          unfold WordsAt words
          rw [← HINV.out.out_in, List.map_append, List.map_cons, List.map_nil, wcells_snoc, List.length_append, Nat.zero_add]
          exact hown2)
        clear hown2
        go_wp2
        go_ret
        exact ⟨_, rfl, HW.out.mono (by omega), hb0.trans ((hbw.trans (b2.mono (by omega))).mono hsz0)⟩
end Go.Proofs.YtdjlgiinekighaaGreatDoor.T
/-
  Chapter 1's own answer (grapevineref1): runes, Norm, One, Of, by contract.
-/
namespace Go.Proofs.YtdjlgiinekighaaGreatDoor.T
open Go.RowKit Go.Shelf Go.Lib Go.Proofs.GvTok

theorem encode_eq (r : Int) : (Utf8.encode r).data.toList = encodeRune r := by
  unfold Utf8.encode encodeRune Utf8.valid Utf8.runeError
  dsimp only
  by_cases hv : (0 ≤ r ∧ r < 55296) ∨ (57344 ≤ r ∧ r ≤ 1114111)
  · have hb : (decide (0 ≤ r) && decide (r < 55296) || decide (57344 ≤ r) && decide (r ≤ 1114111)) = true := by simpa using hv
    rw [if_pos hb]
    by_cases h1 : r ≤ 127
    · rw [if_pos (by omega), encodeRuneZ_one (by omega) h1]
      simp
    · rw [if_neg (by omega)]
      by_cases h2 : r ≤ 2047
      · rw [if_pos (by omega), encodeRuneZ_two (by omega) h2]
        simp only [List.map_cons, List.map_nil]
        rw [show (192 + r / 64).toNat = 192 + r.toNat / 64 from by omega, show (128 + r % 64).toNat = 128 + r.toNat % 64 from by omega]
      · rw [if_neg (by omega)]
        by_cases h3 : r ≤ 65535
        · rw [if_pos (by omega), encodeRuneZ_three (by omega)]
          simp only [List.map_cons, List.map_nil]
          rw [show (224 + r / 4096).toNat = 224 + r.toNat / 4096 from by omega, show (128 + r / 64 % 64).toNat = 128 + r.toNat / 64 % 64 from by omega, show (128 + r % 64).toNat = 128 + r.toNat % 64 from by omega]
        · rw [if_neg (by omega), encodeRuneZ_four (by omega) (by omega)]
          simp only [List.map_cons, List.map_nil]
          rw [show (240 + r / 262144).toNat = 240 + r.toNat / 262144 from by omega, show (128 + r / 4096 % 64).toNat = 128 + r.toNat / 4096 % 64 from by omega, show (128 + r / 64 % 64).toNat = 128 + r.toNat / 64 % 64 from by omega, show (128 + r % 64).toNat = 128 + r.toNat % 64 from by omega]
  · have hb : ¬ ((decide (0 ≤ r) && decide (r < 55296) || decide (57344 ≤ r) && decide (r ≤ 1114111)) = true) := by simpa using hv
    rw [if_neg hb, encodeRuneZ_bad (by omega)]
    decide

theorem foldl_runes (zs : List Int) : ∀ s : ByteArray, (zs.foldl (fun r n => r ++ Utf8.encode n) s).data.toList = s.data.toList ++ zs.flatMap encodeRune := by
  induction zs with
  | nil => intro s; simp
  | cons z t ih =>
    intro s
    rw [List.foldl_cons, ih, List.flatMap_cons, ByteArray.data_append, Array.toList_append, encode_eq, List.append_assoc]
theorem runesBytes_eq (zs : List Int) : runesBytes zs = ⟨(zs.flatMap encodeRune).toArray⟩ := by
  have h := foldl_runes zs ByteArray.empty
  have h2 : (runesBytes zs).data.toList = zs.flatMap encodeRune := by unfold runesBytes; rw [h]; rfl
  have : runesBytes zs = ⟨(runesBytes zs).data⟩ := rfl
  rw [this, ← h2]

theorem runesFrom_enc (rs : List Nat) (s : ByteArray) (ho : Ok rs) (he : s.data.toList = enc rs) : ∀ (f k : Nat) (acc : Array Value), k ≤ rs.length → rs.length ≤ k + f →
    Conv.runesFrom s f (plen rs k) acc = acc ++ ((rs.drop k).map fun r : Nat => Value.int .i32 (r : Int)).toArray := by
  have hz : s.size = (enc rs).length := by rw [← he, ← Lib.size_eq]
  intro f
  induction f with
  | zero =>
    intro k acc hk hf
    have : k = rs.length := by omega
    subst this
    simp [Conv.runesFrom]
  | succ f ih =>
    intro k acc hk hf
    unfold Conv.runesFrom
    by_cases hp : k < rs.length
    · rw [if_pos (by rw [hz]; exact plen_lt rs k hp)]
      have hd : Utf8.decode s (plen rs k) = (rs[k], (encN rs[k]).length) := by rw [← decodeL_drop, he, decode_at_k rs ho k hp]
      simp only [hd]
      rw [← plen_succ rs k hp, ih (k + 1) _ hp (by omega), List.drop_eq_getElem_cons hp, List.map_cons]
      simp only [Array.push_eq_append, Array.append_assoc, List.append_toArray, List.cons_append, List.nil_append]
      rfl
    · have : k = rs.length := by omega
      subst this
      rw [if_neg (by rw [plen_all, hz]; omega)]
      simp

def zcells (zs : List Int) : List Value := zs.map (Value.int .i32)
/-- The int32s zs stand in v, in a row of the call's own from block B on. -/
def RunesAt (w : World) (B : Nat) (v : Value) (zs : List Int) : Prop := w.ownsRow B 21 1 v zs.length (zcells zs)
def nz (rs : List Nat) : List Int := rs.map fun r : Nat => (r : Int)
theorem nz_length (rs : List Nat) : (nz rs).length = rs.length := by simp [nz]

set_option maxHeartbeats 1000000 in
theorem refrunes_bad (s : ByteArray) (w : World) (hs : s.size ≤ 9223372036854775807) (hT : Tabs w) (hv : validD s.data.toList = false) :
    Calls Tryz.prog 42 #[.string s] w fun e w' => e = .returned (.slice none 0 0) ∧ Below w.heap.size w w' := by
  have cV := valid_c s w hs hT
  rw [hv] at cV
  clear hv
  go_enter Tryz.func42, Tryz.ntmps42
  go_wp2_with (go_at_call 62; refine cV.mono ?_; rintro e w' ⟨rfl, hb⟩)
  go_ret
  exact ⟨rfl, hb⟩

set_option maxHeartbeats 1000000 in
theorem refrunes_ok (rs : List Nat) (s : ByteArray) (w : World) (ho : Ok rs) (he : s.data.toList = enc rs) (hs : s.size ≤ 1099511627776) (hT : Tabs w) :
    Calls Tryz.prog 42 #[.string s] w fun e w' => ∃ g cap, e = .returned (.slice (some ⟨g, 0, none⟩) rs.length cap) ∧ w.heap.size ≤ g ∧ RunesAt w' w.heap.size (.slice (some ⟨g, 0, none⟩) rs.length cap) (nz rs) ∧ Below w.heap.size w w' := by
  have cV := valid_c s w (by omega) hT
  rw [he, valid_enc rs ho] at cV
  have hn : rs.length ≤ s.size := by have := enc_le rs; rw [Lib.size_eq, he]; exact this
  have hrf : Conv.runesFrom s s.size 0 #[] = (zcells (nz rs)).toArray := by
    have := runesFrom_enc rs s ho he s.size 0 #[] (by omega) (by omega)
    rw [plen_zero] at this
    rw [this]
    simp [zcells, nz, Function.comp_def]
  have hlen : (zcells (nz rs)).toArray.size = rs.length := by simp [zcells, nz]
  have hcv : ∀ W : World, (convert 9 84 (.string s)).run Tryz.prog W = _ := fun W => run_runes_of_string W 9 84 21 s Tryz.underlying9 Tryz.underlying84 Tryz.underlying21 (by rw [hrf, hlen]; omega)
  simp only [hrf, hlen] at hcv
  have HL := Lib.hid hlen
  clear hrf he hlen
  go_enter Tryz.func42, Tryz.ntmps42
  go_wp2_with (go_at_call 62; refine cV.mono ?_; rintro e w1 ⟨rfl, hb⟩)
  generalize hcap : grownCap w1 rs.length 0 21 = cap
  have hc1 : rs.length ≤ cap := by rw [← hcap]; exact grownCap_ge _ _ _ _
  have hc2 : cap ≤ maxLen := by rw [← hcap]; exact grownCap_le_maxLen _ _ _ _ (by unfold maxLen; omega)
  clear hcap hcv
  go_ret
  refine ⟨w1.heap.size, cap, rfl, hb.size, ?_, (hb.alloc hb.size _).drew⟩
  refine ⟨by simp [zcells, nz], .inr ⟨w1.heap.size, cap, _, by rw [nz_length], hb.size, heap_alloc_new w1 _, by rw [nz_length]; exact hc1, hc2, ?_, ?_⟩⟩
  · rw [Array.size_append, HL.out, Array.size_replicate]
    omega
  · have hl2 : (zcells (nz rs)).length = rs.length := by simp [zcells, nz]
    rw [nz_length, Array.toList_append]
    show List.take (rs.length * 1) (zcells (nz rs) ++ _) = _
    rw [List.take_append_of_le_length (by omega), List.take_of_length_le (by omega)]

theorem RunesAt.below {w w' : World} {B : Nat} {v : Value} {zs : List Int} (h : RunesAt w B v zs) (hb : Below w.heap.size w w') : RunesAt w' B v zs := own_below h hb
theorem RunesAt.cell {w : World} {B g cap : Nat} {zs : List Int} {n : Nat} (h : RunesAt w B (.slice (some ⟨g, 0, none⟩) n cap) zs) (hn : zs.length = n) (k : Nat) (hk : k < zs.length) : w.cell? ⟨g, k, none⟩ = some (.int .i32 zs[k]) := by
  subst hn
  have h1 := World.ownsRow.cellAt h k (by omega)
  rw [h1, zcells, List.getElem?_map, List.getElem?_eq_getElem hk]
  rfl
theorem RunesAt.frozen {w : World} {B g cap : Nat} {zs : List Int} {n : Nat} (h : RunesAt w B (.slice (some ⟨g, 0, none⟩) n cap) zs) (hn : zs.length = n) (k : Nat) : w.frozen? ⟨g, k, none⟩ = false := by
  subst hn
  exact World.ownsRow.frozenAt h k
theorem add0 (g j : Nat) : (⟨g, 0, none⟩ : Addr).add j = ⟨g, j, none⟩ := by
  unfold Addr.add
  split
  · simp_all
  · simp
theorem RunesAt.set {w : World} {B g cap : Nat} {zs : List Int} {n : Nat} (h : RunesAt w B (.slice (some ⟨g, 0, none⟩) n cap) zs) (hn : zs.length = n) (k : Nat) (z : Int) :
    RunesAt (w.setCell ⟨g, k, none⟩ (.int .i32 z)) B (.slice (some ⟨g, 0, none⟩) n cap) (zs.set k z) := by
  subst hn
  have h1 := (World.ownsRow.stored h k (.int .i32 z)).1
  unfold RunesAt
  rw [List.length_set]
  have e : zcells (zs.set k z) = (zcells zs).set k (.int .i32 z) := by unfold zcells; rw [List.map_set]
  rw [e]
  exact h1

def lowz (rs : List Nat) : List Int := rs.map fun r : Nat => toLowerU (r : Int)
theorem lowz_enc (rs : List Nat) : (lowz rs).flatMap encodeRune = low rs := by unfold lowz low; rw [List.flatMap_map]

theorem midz (rs : List Nat) (k : Nat) (hk : k < rs.length) : (lowz (rs.take k) ++ nz (rs.drop k)).set k (toLowerU ((rs[k] : Nat) : Int)) = lowz (rs.take (k + 1)) ++ nz (rs.drop (k + 1)) := by
  have hl : (lowz (rs.take k)).length = k := by simp [lowz]; omega
  rw [List.drop_eq_getElem_cons hk, List.take_succ_eq_append_getElem hk, List.set_append_right _ _ (by omega), hl, Nat.sub_self]
  simp only [nz, List.map_cons, List.set_cons_zero, lowz, List.map_append, List.map_nil, List.append_assoc, List.cons_append, List.nil_append]
theorem midz_at (rs : List Nat) (k : Nat) (hk : k < rs.length) (h : k < (lowz (rs.take k) ++ nz (rs.drop k)).length) : (lowz (rs.take k) ++ nz (rs.drop k))[k] = ((rs[k] : Nat) : Int) := by
  have hl : (lowz (rs.take k)).length = k := by simp [lowz]; omega
  rw [List.getElem_append_right (by omega)]
  simp [hl, nz]
theorem midz_length (rs : List Nat) (k : Nat) (hk : k ≤ rs.length) : (lowz (rs.take k) ++ nz (rs.drop k)).length = rs.length := by
  simp [lowz, nz]; omega

set_option maxHeartbeats 1000000 in
theorem refnorm_bad (s : ByteArray) (w : World) (hs : s.size ≤ 9223372036854775807) (hT : Tabs w) (hv : validD s.data.toList = false) :
    Calls Tryz.prog 44 #[.string s] w fun e w' => e = .returned (.string ⟨#[]⟩) ∧ Below w.heap.size w w' := by
  have cV := refrunes_bad s w hs hT hv
  have hcv : ∀ W : World, (convert 84 9 (.slice none 0 0)).run Tryz.prog W = .ok (.string .empty) W := fun W => run_convert_runes_nil W 84 9 21 0 0 Tryz.underlying84 Tryz.underlying21 Tryz.underlying9
  clear hv
  go_enter Tryz.func44, Tryz.ntmps44
  go_wp2_with (go_at_call 42; refine cV.mono ?_; rintro e w1 ⟨rfl, hb⟩)
  go_loopw [4] (fun v4 wr => v4 = .int .i64 0 ∧ wr = w1) (fun _ _ => 0)
  case atStart => exact ⟨rfl, rfl⟩
  case round =>
    obtain ⟨rfl, rfl⟩ := hrel
    go_wp2
    go_ret
    exact ⟨rfl, hb⟩

set_option maxHeartbeats 4000000 in
set_option maxRecDepth 1000000 in
theorem refnorm_ok (rs : List Nat) (s : ByteArray) (w : World) (ho : Ok rs) (he : s.data.toList = enc rs) (hs : s.size ≤ 1099511627776) (hT : Tabs w) :
    Calls Tryz.prog 44 #[.string s] w fun e w' => e = .returned (.string ⟨(low rs).toArray⟩) ∧ Below w.heap.size w w' := by
  have cV := refrunes_ok rs s w ho he hs hT
  have hn : rs.length ≤ 1099511627776 := by have := enc_le rs; rw [Lib.size_eq, he] at hs; omega
  clear he
  go_enter Tryz.func44, Tryz.ntmps44
  go_wp2_with (go_at_call 42; refine cV.mono ?_; rintro e w0 ⟨g, cap, rfl, hg, hR0, hb0⟩)
  have hT0 := hT.below hb0
  have hgl : g < w0.heap.size := (World.ownsRow.lt hR0 g rfl).2
  go_loopw [4] (fun v4 wr => ∃ k : Nat, k ≤ rs.length ∧ v4 = .int .i64 (k : Int) ∧ RunesAt wr w.heap.size (.slice (some ⟨g, 0, none⟩) rs.length cap) (lowz (rs.take k) ++ nz (rs.drop k)) ∧ Below w.heap.size w wr) (fun v4 _ => rs.length - (intOf v4).toNat)
  case atStart => exact ⟨0, by omega, rfl, by simpa [lowz] using hR0, hb0⟩
  case round =>
    obtain ⟨k, hk, rfl, hR, hbw⟩ := hrel
    have hml := midz_length rs k hk
    by_cases hp : k < rs.length
    · have hc : wr.cell? ⟨g, k, none⟩ = some (.int .i32 ((rs[k] : Nat) : Int)) := by rw [hR.cell hml k (by omega), midz_at rs k hp]
      have hfz : wr.frozen? ⟨g, k, none⟩ = false := hR.frozen hml k
      have cL := toLower_c ((rs[k] : Nat) : Int) wr (hT.below hbw)
      have HM := Lib.hid (midz rs k hp)
      generalize toLowerU ((rs[k] : Nat) : Int) = R at cL HM
      have hR2 := hR.set hml k R
      rw [HM.out] at hR2
      have hb2 := hbw.setCell (p := ⟨g, k, none⟩) hg (.int .i32 R)
      clear hml
      go_wp2_with (go_at_call 65; refine cL.mono ?_; rintro e W1 ⟨rfl, q, rfl⟩)
      go_roundw
      case rel => exact ⟨k + 1, hp, by go_num, hR2, below_drewN hb2 q⟩
      case measure => simp [intOf]; omega
    · have hkk : k = rs.length := by omega
      subst hkk
      have hcv : ∀ W : World, (∀ p, W.cell? p = wr.cell? p) → (convert 84 9 (.slice (some ⟨g, 0, none⟩) rs.length cap)).run Tryz.prog W = .ok (.string ⟨(low rs).toArray⟩) W := fun W hW => by
        have h := run_convert_runes W 84 9 21 ⟨g, 0, none⟩ rs.length cap (lowz rs) (by simp [lowz]) Tryz.underlying84 Tryz.underlying21 Tryz.underlying9 (by
          intro j hj
          rw [hW]
          have e : lowz (rs.take rs.length) ++ nz (rs.drop rs.length) = lowz rs := by simp [nz]
          rw [e] at hR
          have hll : (lowz rs).length = rs.length := by simp [lowz]
          have := hR.cell hll j hj
          rw [add0, this]
          simp [List.getD, List.getElem?_eq_getElem hj])
        rw [h, List.take_of_length_le (by simp [lowz]), runesBytes_eq, lowz_enc]
      have hcw := hcv wr (fun _ => rfl)
      clear hcv hml
      go_wp2
      go_ret
      exact ⟨rfl, hbw⟩
end Go.Proofs.YtdjlgiinekighaaGreatDoor.T
/-
  Chapter 1's own answer (grapevineref1): One, Of, by contract.
-/
namespace Go.Proofs.YtdjlgiinekighaaGreatDoor.T
open Go.RowKit Go.Shelf Go.Lib Go.Proofs.GvTok

theorem nz_at (rs : List Nat) (k : Nat) (hk : k < rs.length) (h : k < (nz rs).length) : (nz rs)[k] = ((rs[k] : Nat) : Int) := by simp [nz]
theorem nz_append (a b : List Nat) : nz (a ++ b) = nz a ++ nz b := by simp [nz]

def RefInv (q : List Nat) (k b : Nat) (done : List (List Nat)) : Prop :=
  done ++ runs ((q.take k).drop b) (q.drop k) = runs [] q ∧ b ≤ k ∧ (k = q.length → b = k)
theorem drop_take_nil (q : List Nat) (k : Nat) : (q.take k).drop k = [] := List.drop_eq_nil_of_le (by rw [List.length_take]; omega)
theorem RefInv.start (q : List Nat) : RefInv q 0 0 [] := ⟨by simp, by omega, fun _ => rfl⟩
theorem RefInv.yes {q : List Nat} {k b : Nat} {done : List (List Nat)} (h : RefInv q k b done) (hk : k < q.length) (hl : letter q[k] = true) (hlast : ∀ (h : q.length - 1 < q.length), letter (q[q.length - 1]) = false) : RefInv q (k + 1) b done := by
  obtain ⟨h1, h2, h3⟩ := h
  refine ⟨?_, by omega, fun e => ?_⟩
  · rw [List.drop_eq_getElem_cons hk, runs_letter _ _ _ hl, ← take_drop_snoc q k b hk h2] at h1
    exact h1
  · exfalso
    have := hlast (by omega)
    have e2 : q.length - 1 = k := by omega
    simp only [e2] at this
    rw [hl] at this
    cases this
theorem RefInv.no_word {q : List Nat} {k b : Nat} {done : List (List Nat)} (h : RefInv q k b done) (hk : k < q.length) (hl : letter q[k] = false) (hb : ¬ b < k) : RefInv q (k + 1) (k + 1) done := by
  obtain ⟨h1, h2, h3⟩ := h
  refine ⟨?_, by omega, fun _ => rfl⟩
  have e : b = k := by omega
  subst e
  rw [drop_take_nil, List.drop_eq_getElem_cons hk, runs_other0 _ _ hl] at h1
  rw [drop_take_nil]
  exact h1
theorem RefInv.word {q : List Nat} {k b : Nat} {done : List (List Nat)} (h : RefInv q k b done) (hk : k < q.length) (hl : letter q[k] = false) (hb : b < k) : RefInv q (k + 1) (k + 1) (done ++ [(q.take k).drop b]) := by
  obtain ⟨h1, h2, h3⟩ := h
  refine ⟨?_, by omega, fun _ => rfl⟩
  rw [List.drop_eq_getElem_cons hk, runs_other _ _ _ hl (cur_ne q k b (by omega) hb)] at h1
  rw [drop_take_nil, List.append_assoc]
  exact h1
theorem RefInv.out {q : List Nat} {b : Nat} {done : List (List Nat)} (h : RefInv q q.length b done) : done = runs [] q := by
  obtain ⟨h1, h2, h3⟩ := h
  have := h3 rfl
  subst this
  rw [drop_take_nil, List.drop_length, runs_nil0, List.append_nil] at h1
  exact h1
theorem RefInv.len {q : List Nat} {k b : Nat} {done : List (List Nat)} (h : RefInv q k b done) : done.length ≤ q.length := by
  have h1 := congrArg List.length h.1
  have h2 := runs_length q []
  rw [List.length_append] at h1
  simp at h2
  omega

theorem letter_space : letter 32 = false := by decide +kernel
theorem runs_space (rs : List Nat) : runs [] (rs ++ [32]) = runs [] rs := by
  rw [runs_join 32 letter_space rs [] [], runs_nil0, List.append_nil]

theorem addb (g b j : Nat) : (⟨g, b, none⟩ : Addr).add j = ⟨g, b + j, none⟩ := by
  unfold Addr.add
  split
  · simp_all
  · simp
theorem nz_enc (rs : List Nat) : (nz rs).flatMap encodeRune = enc rs := by unfold nz enc encN; rw [List.flatMap_map]
theorem conv_cut (q : List Nat) (W : World) (B g cap b k : Nat) (hR : RunesAt W B (.slice (some ⟨g, 0, none⟩) q.length cap) (nz q)) (hk : k ≤ q.length) :
    (convert 84 9 (.slice (some ⟨g, b, none⟩) (k - b) (cap - b))).run Tryz.prog W = .ok (.string ⟨(enc ((q.take k).drop b)).toArray⟩) W := by
  have hnl := nz_length q
  have h := run_convert_runes W 84 9 21 ⟨g, b, none⟩ (k - b) (cap - b) ((nz q).drop b) (by rw [List.length_drop, nz_length]; omega) Tryz.underlying84 Tryz.underlying21 Tryz.underlying9 (by
    intro j hj
    rw [List.length_drop] at hj
    rw [addb, hR.cell hnl (b + j) (by omega)]
    simp [List.getD, List.getElem?_eq_getElem (show b + j < (nz q).length from by omega)])
  rw [h, runesBytes_eq]
  have : (List.drop b (nz q)).take (k - b) = nz ((q.take k).drop b) := by rw [List.drop_take]; simp [nz]
  rw [this, nz_enc]

theorem refof_bad (s : ByteArray) (w : World) (hs : s.size ≤ 9223372036854775807) (hT : Tabs w) (hv : mayB s.data.toList = false) :
    Calls Tryz.prog 21 #[.string s] w fun e w' => e = .returned (.slice none 0 0) ∧ Below w.heap.size w w' := by
  have cM := refmay_c s w hs hT
  rw [hv] at cM
  clear hv
  go_enter Tryz.func21, Tryz.ntmps21
  go_wp2_with (go_at_call 41; refine cM.mono ?_; rintro e w' ⟨rfl, hb⟩)
  go_ret
  exact ⟨rfl, hb⟩

theorem runeInfo : (Tryz.prog.info? 21).map (fun i => (i.zero, i.size, i.bytes)) = some (some (.int .i32 0), 1, 4) := by kernel_rfl

set_option maxHeartbeats 4000000 in
set_option maxRecDepth 1000000 in
theorem refof_ok (rs : List Nat) (s : ByteArray) (w : World) (ho : Ok rs) (he : s.data.toList = enc rs) (hs : s.size ≤ 120) (hT : Tabs w) :
    Calls Tryz.prog 21 #[.string s] w fun e w' => ∃ v, e = .returned v ∧ WordsAt w' w.heap.size v (words rs) ∧ Below w.heap.size w w' := by
  have cM := refmay_c s w (by omega) hT
  rw [he, mayB_yes (by rw [← he, ← Lib.size_eq]; exact hs) (valid_enc rs ho)] at cM
  have hn : rs.length ≤ 120 := by have := enc_le rs; rw [Lib.size_eq, he] at hs; omega
  have cR : ∀ W1, Below w.heap.size w W1 → Calls Tryz.prog 42 #[.string s] W1 _ := fun W1 h1 => refrunes_ok rs s W1 ho he (by omega) (hT.below h1)
  clear he
  obtain ⟨i0, hi, hz0, hz1, hz2⟩ := info_parts runeInfo
  go_enter Tryz.func21, Tryz.ntmps21
  go_wp2_with (first
    | (go_at_call 41; refine cM.mono ?_; rintro e w0 ⟨rfl, hb0⟩)
    | (go_at_call 42; refine (cR _ hb0).mono ?_; rintro e w1 ⟨g, cap, rfl, hg, hR0, hb1⟩; have hsz1 := hb1.size; have hsz0 := hb0.size)
    | (at_builtin; refine wpList_append_own _ rfl _ _ 84 rfl w0.heap.size 21 i0 (.int .i32 0) 1 4 Tryz.underlying84 hi hz0 hz1 hz2 rfl (by decide) _ rs.length (zcells (nz rs)) rfl (by have := World.ownsRow.alloc hR0 (.cells #[.int .i32 32] 21); rw [nz_length] at this; exact this) ⟨w1.heap.size, 0, none⟩ 1 1 [.int .i32 32] rfl rfl (cell_one_new _ _ _) (fun x hx => by simp at hx; subst hx; rfl) (by unfold maxLen; omega) (by omega) (by simp; omega) ?_; intro v' w3 hown3 hgrow3 hnil3))
  obtain ⟨g3, cap3, rfl, hg3, hlt3⟩ := World.ownsRow.form hown3 (by omega)
  obtain ⟨q, hq⟩ : ∃ q, q = rs ++ [32] := ⟨_, rfl⟩
  have HQ := Lib.hid hq
  have hqo : Ok q := by rw [hq]; exact ho.append (fun x hx => by simp at hx; subst hx; unfold okRune; omega)
  have HQ0 : Hid (q.length = rs.length + 1) := Lib.hid (by rw [hq]; simp)
  have HQ1 : Hid (∀ (h : q.length - 1 < q.length), letter (q[q.length - 1]) = false) := Lib.hid (fun h => by
    subst hq
    have : (rs ++ [32])[(rs ++ [32]).length - 1] = 32 := by simp
    rw [this]; exact letter_space)
  have hR3 : RunesAt w3 w0.heap.size (.slice (some ⟨g3, 0, none⟩) (rs.length + 1) cap3) (nz q) := by
    unfold RunesAt
    rw [nz_length, HQ0.out, hq, nz_append]
    have : zcells (nz rs ++ nz [32]) = zcells (nz rs) ++ [.int .i32 32] := by simp [zcells, nz]
    rw [this]
    exact hown3
  have hb3 : Below w0.heap.size w0 w3 := by
    have hlt := (World.ownsRow.alloc hR0 (.cells #[.int .i32 32] 21)).lt
    exact (hb1.alloc hsz1 _).grown hgrow3 (by simp; omega) (fun k hk => (hlt k hk).1)
  have hwq : Hid (runs [] q = runs [] rs) := Lib.hid (by rw [hq]; exact runs_space rs)
  have hqn : q.length ≤ 121 := by rw [HQ0.out]; omega
  have hcap3 : q.length ≤ cap3 := by
    rcases hown3.2 with ⟨h, _⟩ | ⟨g', cap', cur, h, _, _, hh, _⟩
    · cases h
    · simp only [Value.slice.injEq] at h
      obtain ⟨_, _, rfl⟩ := h
      rw [HQ0.out]; exact hh
  have hT3 := (hT.below hb0).below hb3
  have hsz3 := hb3.size
  rw [← HQ0.out] at hR3
  generalize hm : rs.length + 1 = m
  have hmq : m = q.length := by rw [HQ0.out, hm]
  subst hmq
  clear hm hown3 hgrow3 hnil3 hR0 hq cR
  go_loopw [3, 5, 6] (fun v3 v5 v6 wr => ∃ (k b : Nat) (done : List (List Nat)), k ≤ q.length ∧ RefInv q k b done ∧ v5 = .int .i64 (b : Int) ∧ v6 = .int .i64 (k : Int) ∧ WordsAt wr w3.heap.size v3 (done.map low) ∧ Below w3.heap.size w3 wr) (fun _ _ v6 _ => q.length - (intOf v6).toNat)
  case atStart => exact ⟨0, 0, [], by omega, RefInv.start q, rfl, rfl, World.ownsRow_nil _ _ _ _, Below.refl _ _⟩
  case round =>
    obtain ⟨k, b, done, hk, hinv, rfl, rfl, hW, hbw⟩ := hrel
    have hdl := hinv.len
    have hszw := hbw.size
    have HINV := Lib.hid hinv
    have hbk := hinv.2.1
    clear hinv
    by_cases hp : k < q.length
    · have hr : q[k] ≤ 1114111 := by have := hqo _ (List.getElem_mem hp); unfold okRune at this; omega
      have hR := hR3.below hbw
      have hc : wr.cell? ⟨g3, k, none⟩ = some (.int .i32 ((q[k] : Nat) : Int)) := by rw [hR.cell (nz_length q) k (by rw [nz_length]; exact hp), nz_at q k hp]
      have cL := refletter_c q[k] wr hr (hT3.below hbw)
      cases hl : letter q[k] <;> rw [hl] at cL
      · by_cases hbk2 : b < k
        · have HI2 := Lib.hid (HINV.out.word hp hl hbk2)
          clear hl
          have hbi : decide ((k : Int) > (b : Int)) = true := by simp; omega
          have hcl : (enc ((q.take k).drop b)).length ≤ 1000 := by
            have h4 : ∀ l : List Nat, (enc l).length ≤ 4 * l.length := by
              intro l
              induction l with
              | nil => simp [enc]
              | cons r t ih => rw [enc_cons, List.length_append, List.length_cons]; have := (encN_len r).2; omega
            have := h4 ((q.take k).drop b)
            rw [List.length_drop, List.length_take] at this
            omega
          have cN : ∀ W1, Below wr.heap.size wr W1 → Calls Tryz.prog 44 #[.string ⟨(enc ((q.take k).drop b)).toArray⟩] W1 _ := fun W1 h1 =>
            refnorm_ok ((q.take k).drop b) ⟨(enc ((q.take k).drop b)).toArray⟩ W1 ((hqo.take k).drop b) rfl (by show (enc ((q.take k).drop b)).toArray.size ≤ _; rw [List.size_toArray]; omega) ((hT3.below hbw).below h1)
          have HC : Hid (∀ W1, Below wr.heap.size wr W1 → (convert 84 9 (.slice (some ⟨g3, b, none⟩) (k - b) (cap3 - b))).run Tryz.prog W1 = .ok (.string ⟨(enc ((q.take k).drop b)).toArray⟩) W1) := Lib.hid (fun W1 h1 => conv_cut q W1 w0.heap.size g3 cap3 b k (hR.below h1) hk)
          obtain ⟨D, hD⟩ : ∃ D, D = done.map low := ⟨_, rfl⟩
          have hml : D.length ≤ 121 := by rw [hD, List.length_map]; omega
          rw [← hD] at hW
          have HDD := Lib.hid hD
          clear hD
          obtain ⟨ad, capw, rfl⟩ : ∃ ad cap, u3 = .slice ad D.length cap := by
            rcases hW.2 with ⟨rfl, h0⟩ | ⟨g, cap, cur, rfl, _⟩
            · exact ⟨none, 0, by rw [h0]⟩
            · exact ⟨_, cap, rfl⟩
          obtain ⟨i1, hi1, hy0, hy1, hy2⟩ := info_parts wordInfo
          generalize enc ((q.take k).drop b) = C at cN HC hcl
          generalize hlw : low ((q.take k).drop b) = LW at cN
          have HLW := Lib.hid hlw
          clear hlw
          go_wp2_with (first
            | (go_at_call 43; refine cL.mono ?_; rintro e W1 ⟨rfl, b1⟩; have hcv := HC.out W1 b1)
            | (go_at_call 44; refine (cN _ b1).mono ?_; rintro e W2 ⟨rfl, b2⟩; have hW2 := (hW.below b1).below b2; have hs2 := b2.size; have hs1 := b1.size; unfold WordsAt at hW2)
            | (at_builtin; refine wpList_append_own _ rfl _ _ 49 rfl w3.heap.size 52 i1 (.agg #[.string ⟨#[]⟩, .int .i64 0]) 2 24 Tryz.underlying49 hi1 hy0 hy1 hy2 rfl (by decide) _ _ _ rfl (World.ownsRow.alloc hW2 _) ⟨W2.heap.size, 0, none⟩ 1 1 [.string ⟨LW.toArray⟩, .int .i64 (D.length : Int)] rfl rfl (cell_two_new _ _ _ _) (fun x hx => by simp at hx; rcases hx with rfl | rfl <;> rfl) (by unfold maxLen; omega) (by omega) (by simp; omega) ?_; intro v' w5 hown5 hgrow5 hnil5))
          have hW5 : WordsAt w5 w3.heap.size v' ((done ++ [(q.take k).drop b]).map low) := by
            unfold WordsAt
            rw [List.map_append, List.map_cons, List.map_nil, wcells_snoc, List.length_append, Nat.zero_add, ← HDD.out, HLW.out]
            exact hown5
          have hlt := (World.ownsRow.alloc hW2 (.cells #[.string ⟨LW.toArray⟩, .int .i64 (D.length : Int)] 52)).lt
          have hb5 : Below w3.heap.size w3 w5 := ((hbw.trans ((b1.trans (b2.mono hs1)).mono hszw)).alloc (by omega) _).grown hgrow5 (by simp; omega) (fun k hk => (hlt k hk).1)
          refine ⟨⟨k + 1, k + 1, _, hp, HI2.out, by go_num, by go_num, hW5, hb5⟩, ?_⟩
          simp [intOf]
          omega
        · have HI2 := Lib.hid (HINV.out.no_word hp hl hbk2)
          clear hl
          have hbi : ¬ ((b : Int) < (k : Int)) := by omega
          go_wp2_with (go_at_call 43; refine cL.mono ?_; rintro e W1 ⟨rfl, b1⟩)
          go_roundw
          case rel => exact ⟨k + 1, k + 1, done, hp, HI2.out, by go_num, by go_num, hW.below b1, hbw.trans (b1.mono hbw.size)⟩
          case measure => simp [intOf]; omega
      · have HI2 := Lib.hid (HINV.out.yes hp hl HQ1.out)
        clear hl
        go_wp2_with (go_at_call 43; refine cL.mono ?_; rintro e W1 ⟨rfl, b1⟩)
        go_roundw
        case rel => exact ⟨k + 1, b, done, hp, HI2.out, rfl, by go_num, hW.below b1, hbw.trans (b1.mono hbw.size)⟩
        case measure => simp [intOf]; omega
    · have hkk : k = q.length := by omega
      subst hkk
      have HW : Hid (WordsAt wr w3.heap.size _ (words rs)) := Lib.hid (by unfold words; rw [← hwq.out, ← HINV.out.out]; exact hW)
      go_wp2
      go_ret
      exact ⟨_, rfl, HW.out.mono (by omega), hb0.trans ((hb3.trans (hbw.mono hsz3)).mono hsz0)⟩
end Go.Proofs.YtdjlgiinekighaaGreatDoor.T

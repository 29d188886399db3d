/-
  The names of a ledger's files, and files that stand in a row of them: plain lists.
-/
import Derived.Lib.Atoi
import Derived.Test.YtjmkphnppegegaaGreatDoorPkD
import Derived.Shelf.Small.Wraps
import Derived.Shelf.Strings.Repeat
import Derived.Shelf.Strconv.Atoi
import Derived.Shelf.Strconv.Itoa3
import Derived.Lib.AtoiErrMem
import Derived.Test.YtjmkphnppegegaaGreatDoorShelf9
namespace Go.Proofs.YtjmkphnppegegaaGreatDoor
open Go.RowKit Go.Lib
set_option maxRecDepth 100000

/-- What the names of a ledger's files begin with. -/
def beginN (n : Nat) : List UInt8 := [108, 111, 103, UInt8.ofNat (48 + n), 46]
def tailN (k : Nat) : List UInt8 := [48, 48, 48, 48, 48, 48, 48, 48, UInt8.ofNat (48 + k / 10), UInt8.ofNat (48 + k % 10)]
/-- The name of the file of segment k (below 100). -/
def nameN (n k : Nat) : List UInt8 := beginN n ++ tailN k
theorem u8_lt {a b : Nat} (h : a < b) (hb : b < 10) : UInt8.ofNat (48 + a) < UInt8.ofNat (48 + b) := by
  rw [UInt8.lt_iff_toNat_lt, UInt8.toNat_ofNat', UInt8.toNat_ofNat']
  omega
theorem u8_inj {a b : Nat} (ha : a < 10) (hb : b < 10) (h : UInt8.ofNat (48 + a) = UInt8.ofNat (48 + b)) : a = b := by
  have := congrArg UInt8.toNat h
  rw [UInt8.toNat_ofNat', UInt8.toNat_ofNat'] at this
  omega
theorem nameN_len (n k : Nat) : (nameN n k).length = 15 := rfl
theorem name_lt (n : Nat) {j k : Nat} (h : j < k) (hk : k < 100) : bytesBefore (nameN n j) (nameN n k) = true := by
  simp only [nameN, beginN, tailN, List.cons_append, List.nil_append, bytesBefore, UInt8.lt_irrefl, decide_false, Bool.false_or, beq_self_eq_true, Bool.true_and, Bool.or_eq_true, decide_eq_true_eq, Bool.and_eq_true, beq_iff_eq, Bool.and_false, Bool.or_false]
  by_cases hd : j / 10 < k / 10
  · exact .inl (u8_lt hd (by omega))
  · have e : j / 10 = k / 10 := by omega
    exact .inr ⟨by rw [e], u8_lt (by omega) (by omega)⟩
theorem name_inj {n j k : Nat} (hj : j < 100) (hk : k < 100) (h : nameN n j = nameN n k) : j = k := by
  simp only [nameN, beginN, tailN, List.cons_append, List.nil_append, List.cons.injEq, true_and, and_true] at h
  have h1 := u8_inj (by omega) (by omega) h.1
  have h2 := u8_inj (by omega) (by omega) h.2
  omega
theorem name_ne {n j k : Nat} (hj : j < 100) (hk : k < 100) (h : j ≠ k) : (nameN n j == nameN n k) = false := by
  rw [beq_eq_false_iff_ne]
  exact fun e => h (name_inj hj hk e)
theorem name_ok {n : Nat} (hn : n ≤ 8) {k : Nat} (hk : k < 100) : nameB (nameN n k) = true := by
  have h1 : ∀ n : Fin 10, signB ((UInt8.ofNat (48 + n.val)).toNat : Int) = true := by decide
  have e0 := h1 ⟨n, by omega⟩
  have e1 := h1 ⟨k / 10, by omega⟩
  have e2 := h1 ⟨k % 10, by omega⟩
  have d : ∀ x ∈ ([108, 111, 103, 46, 48] : List UInt8), signB ((x.toNat : Nat) : Int) = true := by decide
  unfold nameB
  rw [nameN_len]
  simp only [nameN, beginN, tailN, List.cons_append, List.nil_append, List.all_cons, List.all_nil, e0, e1, e2, d 108 (by simp), d 111 (by simp), d 103 (by simp), d 46 (by simp), d 48 (by simp), Bool.and_true]
  decide
theorem atoi_tail {k : Nat} (hk : k < 100) : Lib.atoi (tailN k) = some (k : Int) := by
  have h : ∀ k : Fin 100, Lib.atoi (tailN k.val) = some ((k.val : Nat) : Int) := by decide
  exact h ⟨k, hk⟩

/-- Files that stand in a row, from number k on. -/
def filesN (n : Nat) : Nat → List (List Int × Nat) → List Pf
  | _, [] => []
  | k, x :: r => (nameN n k, x) :: filesN n (k + 1) r
theorem files_len (n : Nat) : ∀ (F : List (List Int × Nat)) (k : Nat), (filesN n k F).length = F.length
  | [], _ => rfl
  | x :: r, k => by simp [filesN, files_len n r (k + 1)]
theorem files_app (n : Nat) : ∀ (a b : List (List Int × Nat)) (k : Nat), filesN n k (a ++ b) = filesN n k a ++ filesN n (k + a.length) b
  | [], b, k => by simp [filesN]
  | x :: r, b, k => by
    have := files_app n r b (k + 1)
    simp only [List.cons_append, filesN, this, List.length_cons]
    rw [show k + 1 + r.length = k + (r.length + 1) from by omega]
theorem look_app (s : List UInt8) : ∀ a b : List Pf, lookP s (a ++ b) = (lookP s a).or (lookP s b)
  | [], b => by simp [lookP]
  | y :: r, b => by
    simp only [List.cons_append, lookP, look_app s r b]
    split <;> rfl
theorem look_out (n : Nat) {j : Nat} (hj : j < 100) : ∀ (F : List (List Int × Nat)) (k : Nat), k + F.length ≤ 100 → (j < k ∨ k + F.length ≤ j) → lookP (nameN n j) (filesN n k F) = none
  | [], _, _, _ => rfl
  | x :: r, k, hk, h => by
    simp only [List.length_cons] at hk h
    simp only [filesN, lookP]
    rw [if_neg (by rw [name_ne (by omega) hj (by omega)]; decide)]
    exact look_out n hj r (k + 1) (by omega) (by omega)
theorem look_mid (n : Nat) (a : List (List Int × Nat)) (x : List Int × Nat) (b : List (List Int × Nat)) (k : Nat) (hk : k + a.length < 100) : lookP (nameN n (k + a.length)) (filesN n k (a ++ x :: b)) = some x := by
  rw [files_app, look_app, look_out n hk a k (by omega) (by omega)]
  simp [filesN, lookP]
theorem upd_out (n : Nat) {j : Nat} (hj : j < 100) (g : List Int × Nat) : ∀ (F : List (List Int × Nat)) (k : Nat), k + F.length ≤ 100 → (j < k ∨ k + F.length ≤ j) → updP (nameN n j) g (filesN n k F) = filesN n k F
  | [], _, _, _ => rfl
  | x :: r, k, hk, h => by
    simp only [List.length_cons] at hk h
    have := upd_out n hj g r (k + 1) (by omega) (by omega)
    unfold updP at this ⊢
    simp only [filesN, List.map_cons]
    rw [if_neg (by rw [name_ne (by omega) hj (by omega)]; decide), this]
theorem upd_mid (n : Nat) (a : List (List Int × Nat)) (x g : List Int × Nat) (b : List (List Int × Nat)) (k : Nat) (hk : k + (a.length + 1 + b.length) ≤ 100) : updP (nameN n (k + a.length)) g (filesN n k (a ++ x :: b)) = filesN n k (a ++ g :: b) := by
  have h1 := upd_out n (j := k + a.length) (by omega) g a k (by omega) (by omega)
  have h2 := upd_out n (j := k + a.length) (by omega) g b (k + a.length + 1) (by omega) (by omega)
  rw [files_app, files_app]
  unfold updP at h1 h2 ⊢
  rw [List.map_append, h1]
  simp only [filesN, List.map_cons, beq_self_eq_true, if_true, h2]
theorem del_out (n : Nat) {j : Nat} (hj : j < 100) : ∀ (F : List (List Int × Nat)) (k : Nat), k + F.length ≤ 100 → (j < k ∨ k + F.length ≤ j) → delP (nameN n j) (filesN n k F) = filesN n k F
  | [], _, _, _ => rfl
  | x :: r, k, hk, h => by
    simp only [List.length_cons] at hk h
    have := del_out n hj r (k + 1) (by omega) (by omega)
    unfold delP at this ⊢
    simp only [filesN]
    rw [List.filter_cons, if_pos (by rw [name_ne (by omega) hj (by omega)]; rfl), this]
theorem del_first (n : Nat) (x : List Int × Nat) (r : List (List Int × Nat)) (k : Nat) (hk : k + (r.length + 1) ≤ 100) : delP (nameN n k) (filesN n k (x :: r)) = filesN n (k + 1) r := by
  have := del_out n (j := k) (by omega) r (k + 1) (by omega) (by omega)
  unfold delP at this ⊢
  simp only [filesN]
  rw [List.filter_cons, if_neg (by simp), this]
theorem del_last (n : Nat) (a : List (List Int × Nat)) (x : List Int × Nat) (k : Nat) (hk : k + a.length < 100) : delP (nameN n (k + a.length)) (filesN n k (a ++ [x])) = filesN n k a := by
  have := del_out n hk a k (by omega) (by omega)
  rw [files_app]
  unfold delP at this ⊢
  rw [List.filter_append, this]
  simp [filesN]
theorem ins_end (n : Nat) (g : List Int × Nat) : ∀ (F : List (List Int × Nat)) (k : Nat), k + F.length < 100 → insP (nameN n (k + F.length), g) (filesN n k F) = filesN n k (F ++ [g])
  | [], k, _ => by simp [filesN, insP]
  | x :: r, k, hk => by
    simp only [List.length_cons] at hk
    have ih := ins_end n g r (k + 1) (by omega)
    have hb : bytesBefore (nameN n (k + (r.length + 1))) (nameN n k) = false := by
      rw [Bool.eq_false_iff]
      intro h
      have h2 := name_lt n (j := k) (k := k + (r.length + 1)) (by omega) (by omega)
      have h3 := WideShapes.bytes_trans _ _ _ h h2
      rw [WideAt.bytes_irrefl] at h3
      cases h3
    simp only [List.length_cons, filesN, insP, List.cons_append, hb]
    rw [show k + (r.length + 1) = k + 1 + r.length from by omega, ih]
    rfl
theorem app_last (n : Nat) (a : List (List Int × Nat)) (b l : List Int) (f k : Nat) (hk : k + a.length < 100) : appP (nameN n (k + a.length)) l (filesN n k (a ++ [(b, f)])) = filesN n k (a ++ [(b ++ l, f)]) := by
  unfold appP
  rw [look_mid n a (b, f) [] k hk]
  exact upd_mid n a (b, f) (b ++ l, f) [] k (by simp; omega)
theorem app_new (n : Nat) (F : List (List Int × Nat)) (l : List Int) (k : Nat) (hk : k + F.length < 100) : appP (nameN n (k + F.length)) l (filesN n k F) = filesN n k (F ++ [(l, 0)]) := by
  unfold appP
  rw [look_out n hk F k (by omega) (by omega)]
  exact ins_end n (l, 0) F k hk
theorem sync_mid (n : Nat) (a : List (List Int × Nat)) (b : List Int) (f : Nat) (c : List (List Int × Nat)) (k : Nat) (hk : k + (a.length + 1 + c.length) ≤ 100) : syncs [nameN n (k + a.length)] (filesN n k (a ++ (b, f) :: c)) = filesN n k (a ++ (b, b.length) :: c) := by
  unfold syncs
  simp only [List.foldl_cons, List.foldl_nil]
  unfold syncP
  rw [look_mid n a (b, f) c k (by omega)]
  exact upd_mid n a (b, f) (b, b.length) c k hk
def sumF : List (List Int × Nat) → Nat
  | [] => 0
  | x :: r => x.1.length + sumF r
theorem sumF_app : ∀ a b : List (List Int × Nat), sumF (a ++ b) = sumF a + sumF b
  | [], b => by simp [sumF]
  | x :: r, b => by simp [sumF, sumF_app r b]; omega
theorem used_files (n : Nat) : ∀ (F : List (List Int × Nat)) (k : Nat), usedP (filesN n k F) = sumF F
  | [], _ => rfl
  | x :: r, k => by simp [filesN, usedP, sumF, used_files n r (k + 1)]
/-- A crash, of files of which all but the last are synced. -/
theorem crash_files (n : Nat) (s : Nat) (b : List Int) (f : Nat) (hf : f ≤ b.length) : ∀ (a : List (List Int × Nat)) (k : Nat), (∀ x ∈ a, x.2 = x.1.length) →
    crashP s (filesN n k (a ++ [(b, f)])) = filesN n k (a ++ [(b.take (f + min s (b.length - f)), f + min s (b.length - f))])
  | [], k, _ => by simp [filesN, crashP]
  | x :: r, k, h => by
    have ih := crash_files n s b f hf r (k + 1) (fun y hy => h y (List.mem_cons_of_mem _ hy))
    have hx := h x (List.mem_cons_self ..)
    obtain ⟨x1, x2⟩ := x
    simp only at hx
    subst hx
    simp only [List.cons_append, filesN, crashP, Nat.sub_self, Nat.min_zero, Nat.add_zero, Nat.sub_zero, List.take_length, ih]
end Go.Proofs.YtjmkphnppegegaaGreatDoor
/-
  A drive with the blocks that it owns; each call by contract, over the plain list of its files.
-/
namespace Go.Proofs.YtjmkphnppegegaaGreatDoor
open Go.RowKit Go.Lib
set_option maxRecDepth 100000

/-- At p there is a drive of room m with these files; it owns these blocks. -/
def Dr (w : World) (p : Nat) (P : List Pf) (m : Nat) (own : Nat → Prop) : Prop := ∃ bm L, DrvAt w p bm L m 0 own ∧ L.map pl = P
theorem Step.refl (w : World) (own : Nat → Prop) : Step w own w own := .ofTurn (.refl _ _)
theorem Step.trans {a b c : World} {o1 o2 o3 : Nat → Prop} (h : Step a o1 b o2) (k : Step b o2 c o3) : Step a o1 c o3 := by
  refine ⟨⟨k.turn.os.trans h.turn.os, k.turn.tape.trans h.turn.tape, k.turn.output.trans h.turn.output, Nat.le_trans h.turn.size k.turn.size, fun i hi hn => ?_⟩, fun i hi => k.sub i (h.sub i hi), fun i hi => ?_⟩
  · refine (k.turn.block i (Nat.lt_of_lt_of_le hi h.turn.size) (fun h2 => ?_)).trans (h.turn.block i hi hn)
    rcases h.new i h2 with h3 | h3
    · exact hn h3
    · omega
  · rcases k.new i hi with h2 | h2
    · exact h.new i h2
    · exact .inr (Nat.le_trans h.turn.size h2)
theorem Step.below {a b : World} {o1 o2 : Nat → Prop} {B : Nat} (h : Step a o1 b o2) (hB : B ≤ a.heap.size) (ho : ∀ i, o1 i → B ≤ i) : Below B a b := h.turn.below hB ho
/-- With one block more. -/
def plusB (own : Nat → Prop) (g : Nat) : Nat → Prop := fun i => own i ∨ i = g
theorem Step.plus {w w' : World} {o1 o2 : Nat → Prop} (h : Step w o1 w' o2) (g : Nat) : Step w (plusB o1 g) w' (plusB o2 g) :=
  ⟨h.turn.wide (fun _ _ k => .inl k), fun i hi => hi.imp (h.sub i) id, fun i hi => by
    rcases hi with hi | hi
    · exact (h.new i hi).imp .inl id
    · exact .inl (.inr hi)⟩
theorem Step.gset {w w' : World} {own : Nat → Prop} {g : Nat} (h : Turn (fun i => i = g) w w') : Step w (plusB own g) w' (plusB own g) := .ofTurn (h.wide (fun _ _ k => .inr k))
theorem Step.not {w w' : World} {o1 o2 : Nat → Prop} (h : Step w o1 w' o2) {g : Nat} (hg : ¬ o1 g) (hl : g < w.heap.size) : ¬ o2 g := fun k => by
  rcases h.new g k with k | k
  · exact hg k
  · omega
section
variable {w : World} {p : Nat} {P : List Pf} {m : Nat} {own : Nat → Prop}
theorem Dr.up (h : Dr w p P m own) {i : Nat} (hi : own i) : i < w.heap.size := by
  obtain ⟨_, _, h, _⟩ := h
  exact h.up i hi
theorem Dr.lt (h : Dr w p P m own) : p < w.heap.size := by
  have h' := h
  obtain ⟨_, _, h, _⟩ := h'
  exact h.up p h.op
theorem Dr.us (h : Dr w p P m own) : usedP P ≤ m ∧ m ≤ 1048576 := by
  obtain ⟨_, L, hd, rfl⟩ := h
  exact ⟨by have := hd.us; unfold used at this; omega, hd.mx⟩
theorem Dr.le (h : Dr w p P m own) {s : List UInt8} {a : List Int} {f : Nat} (hs : lookP s P = some (a, f)) : f ≤ a.length ∧ a.length ≤ 1048576 := by
  obtain ⟨_, L, hd, rfl⟩ := h
  obtain ⟨pre, x, post, rfl, _, rfl, rfl⟩ := look_some hs
  exact ⟨(hd.fl x (by simp)).le, hd.most (by simp)⟩
theorem Dr.keep {w' : World} (h : Dr w p P m own) (hs : w.heap.size ≤ w'.heap.size) (hb : ∀ i, own i → w'.heap[i]? = w.heap[i]?) : Dr w' p P m own := by
  obtain ⟨bm, L, hd, hp⟩ := h
  exact ⟨bm, L, hd.keep hs hb, hp⟩
theorem Dr.below {w' : World} (h : Dr w p P m own) (hb : Below w.heap.size w w') : Dr w' p P m own := h.keep hb.size (fun i hi => hb.block i (h.up hi))
theorem Dr.far {w' : World} {S : Nat → Prop} (h : Dr w p P m own) (ht : Turn S w w') (hn : ∀ i, S i → ¬ own i) : Dr w' p P m own :=
  h.keep ht.size (fun i hi => ht.block i (h.up hi) (fun k => hn i k hi))
theorem Dr.drewN (h : Dr w p P m own) (n : Nat) : Dr (w.drewN n) p P m own := h.below (below_drewN (Below.refl _ _) n)
theorem Dr.alloc (h : Dr w p P m own) (o : Obj) : Dr (w.alloc o) p P m own := h.below (alloc_below w o)

theorem dNew (w : World) (m : Nat) (hm : m ≤ 1048576) : Calls Tryz.prog 11 #[.int .i64 (m : Int)] w fun e w' => ∃ p own, e = .returned (.pointer (some ⟨p, 0, none⟩)) ∧ Dr w' p [] m own ∧ (∀ i, own i → w.heap.size ≤ i) ∧ Below w.heap.size w w' := by
  refine (new_c m w hm).mono ?_
  rintro e w' ⟨p, bm, own, rfl, hd, hl, hbl⟩
  exact ⟨p, own, rfl, ⟨bm, [], hd, rfl⟩, hl, hbl⟩

theorem dAppend (h : Dr w p P m own) (s : ByteArray) (hl : s.size ≤ maxLen) (hn : nameB s.data.toList = true) (v : Value) (l : List Int) (hv : Bl w v l) (hf : usedP P + l.length ≤ m) (hL : P.length < maxLen) :
    Calls Tryz.prog 60 #[.pointer (some ⟨p, 0, none⟩), .string s, v] w fun e w' => e = .returned (.int .i64 0) ∧ ∃ own', Dr w' p (appP s.data.toList l P) m own' ∧ Step w own w' own' := by
  obtain ⟨bm, L, hd, rfl⟩ := h
  unfold appP
  cases hlk : lookP s.data.toList (L.map pl) with
  | none =>
    refine (appNew_c p bm L m 0 own w hd s (look_none hlk) hl hn v l hv (by unfold used; omega) (by simpa using hL)).mono ?_
    rintro e w' ⟨rfl, b, V, own', hd', hs⟩
    exact ⟨rfl, own', ⟨bm, _, hd', by rw [ins_pl]; rfl⟩, hs⟩
  | some q =>
    obtain ⟨a, f⟩ := q
    obtain ⟨pre, x, post, rfl, hz, rfl, rfl⟩ := look_some hlk
    refine (appOld_c p bm pre post x m 0 own w hd s hz.symm hl hn v l hv (by unfold used; omega)).mono ?_
    rintro e w' ⟨rfl, V, own', hd', hs⟩
    refine ⟨rfl, own', ⟨bm, _, hd', ?_⟩, hs⟩
    rw [← hz]
    exact (updP_pl (x' := { x with v := V, a := x.a ++ l }) hd.so rfl).symm

theorem dFull (h : Dr w p P m own) (s : ByteArray) (hl : s.size ≤ maxLen) (hn : nameB s.data.toList = true) (v : Value) (l : List Int) (hv : Bl w v l) (hf : m < usedP P + l.length) :
    Calls Tryz.prog 60 #[.pointer (some ⟨p, 0, none⟩), .string s, v] w fun e w' => e = .returned (.int .i64 8) ∧ Below w.heap.size w w' := by
  obtain ⟨bm, L, hd, rfl⟩ := h
  exact appFull_c p bm L m 0 own w hd s hl hn v l hv (by unfold used; omega)

theorem dSync (h : Dr w p P m own) (ss : List (List UInt8)) (v : Value) (hv : Sl w own v ss) (hl : ss.length ≤ 1000000) (hz : ∀ s ∈ ss, s.length ≤ maxLen) (hy : ∀ s ∈ ss, (lookP s P).isSome = true) :
    Calls Tryz.prog 38 #[.pointer (some ⟨p, 0, none⟩), v] w fun e w' => e = .returned (.int .i64 0) ∧ ∃ own', Dr w' p (syncs ss P) m own' ∧ Step w own w' own' := by
  obtain ⟨bm, L, hd, rfl⟩ := h
  refine (sync_c p bm L m 0 own w hd ss v hv hl hz hy).mono ?_
  rintro e w' ⟨rfl, L', hd', hp', _, hs⟩
  exact ⟨rfl, own, ⟨bm, L', hd', hp'⟩, .ofTurn hs⟩

theorem dLoose (h : Dr w p P m own) (s : ByteArray) (hl : s.size ≤ maxLen) (a : List Int) (f : Nat) (hs : lookP s.data.toList P = some (a, f)) :
    Calls Tryz.prog 40 #[.pointer (some ⟨p, 0, none⟩), .string s] w fun e w' => e = .returned (.int .i64 ((a.length - f : Nat) : Int)) ∧ Below w.heap.size w w' := by
  obtain ⟨bm, L, hd, rfl⟩ := h
  obtain ⟨pre, x, post, rfl, hz, rfl, rfl⟩ := look_some hs
  exact looseAt_c p bm pre post x m 0 own w hd s hz.symm hl

theorem dRead (h : Dr w p P m own) (s : ByteArray) (hl : s.size ≤ maxLen) (a : List Int) (f : Nat) (hs : lookP s.data.toList P = some (a, f)) :
    Calls Tryz.prog 47 #[.pointer (some ⟨p, 0, none⟩), .string s] w fun e w' => ∃ A C, e = .returned (.tuple #[.slice A a.length C, .int .i64 0]) ∧ BRow w' w.heap.size (.slice A a.length C) a ∧ Below w.heap.size w w' := by
  obtain ⟨bm, L, hd, rfl⟩ := h
  obtain ⟨pre, x, post, rfl, hz, rfl, rfl⟩ := look_some hs
  refine (readAt_c p bm pre post x m 0 own w hd s hz.symm hl).mono ?_
  rintro e w' ⟨A, C, rfl, hr, hb⟩
  exact ⟨A, C, rfl, hr, hb⟩

theorem dReadNo (h : Dr w p P m own) (s : ByteArray) (hl : s.size ≤ maxLen) (hs : lookP s.data.toList P = none) :
    Calls Tryz.prog 47 #[.pointer (some ⟨p, 0, none⟩), .string s] w fun e w' => e = .returned (.tuple #[.slice none 0 0, .int .i64 13]) ∧ w = w' := by
  obtain ⟨bm, L, hd, rfl⟩ := h
  exact readNo_c p bm L m 0 own w hd s (look_none hs) hl

theorem dUsed (h : Dr w p P m own) : Calls Tryz.prog 26 #[.pointer (some ⟨p, 0, none⟩)] w fun e w' => e = .returned (.int .i64 ((usedP P : Nat) : Int)) ∧ w = w' := by
  obtain ⟨bm, L, hd, rfl⟩ := h
  exact used_c p bm L m 0 own w hd

theorem dCrash (h : Dr w p P m own) (stay : Int) (hst : stay ≤ 9223372036854775807) (hL : P.length ≤ 1000000) :
    Calls Tryz.prog 24 #[.pointer (some ⟨p, 0, none⟩), .int .i64 stay] w fun e w' => e = .returned (.tuple #[]) ∧ ∃ own', Dr w' p (crashP stay.toNat P) m own' ∧ Step w own w' own' := by
  obtain ⟨bm, L, hd, rfl⟩ := h
  have hz : ∀ x ∈ L, x.n.length ≤ maxLen := fun x hx => strKeys_le hd.mp Tryz.underlying9 x.n (by rw [Dof_keys]; exact List.mem_map.2 ⟨x, hx, rfl⟩)
  refine (crash_c p bm L m 0 own w hd stay hst (by simpa using hL) hz).mono ?_
  rintro e w' ⟨rfl, L', hd', hp', hs⟩
  exact ⟨rfl, own, ⟨bm, L', hd', hp'⟩, .ofTurn hs⟩

theorem dCut (h : Dr w p P m own) (s : ByteArray) (hl : s.size ≤ maxLen) (a : List Int) (f : Nat) (hs : lookP s.data.toList P = some (a, f)) (k : Nat) (hk : k ≤ a.length) :
    Calls Tryz.prog 49 #[.pointer (some ⟨p, 0, none⟩), .string s, .int .i64 (k : Int)] w fun e w' => e = .returned (.int .i64 0) ∧ ∃ own', Dr w' p (updP s.data.toList (a.take k, k) P) m own' ∧ Step w own w' own' := by
  obtain ⟨bm, L, hd, rfl⟩ := h
  obtain ⟨pre, x, post, rfl, hz, rfl, rfl⟩ := look_some hs
  refine (cutAt_c p bm pre post x m 0 own w hd s hz.symm hl k hk).mono ?_
  rintro e w' ⟨rfl, V, hd', hs'⟩
  refine ⟨rfl, own, ⟨bm, _, hd', ?_⟩, .ofTurn (hs'.wide (fun i _ hi => hi.elim (fun e => e ▸ hd.op) (fun e => e ▸ (hd.fl x (by simp)).ob)))⟩
  rw [← hz]
  exact (updP_pl (x' := { x with v := V, a := x.a.take k, f := k }) hd.so rfl).symm

theorem dRemove (h : Dr w p P m own) (s : ByteArray) (hl : s.size ≤ maxLen) (a : List Int) (f : Nat) (hs : lookP s.data.toList P = some (a, f)) :
    Calls Tryz.prog 45 #[.pointer (some ⟨p, 0, none⟩), .string s] w fun e w' => e = .returned (.int .i64 0) ∧ ∃ own', Dr w' p (delP s.data.toList P) m own' ∧ Step w own w' own' := by
  obtain ⟨bm, L, hd, rfl⟩ := h
  obtain ⟨pre, x, post, rfl, hz, rfl, rfl⟩ := look_some hs
  refine (removeAt_c p bm pre post x m 0 own w hd s hz.symm hl).mono ?_
  rintro e w' ⟨rfl, hd', hs'⟩
  refine ⟨rfl, own, ⟨bm, _, hd', ?_⟩, .ofTurn (hs'.wide (fun i _ hi => hi.elim (fun e => e ▸ hd.op) (fun e => e ▸ hd.om)))⟩
  rw [← hz]
  exact (delP_pl hd.so).symm

theorem dNames (h : Dr w p P m own) (hL : P.length ≤ 1000000) :
    Calls Tryz.prog 39 #[.pointer (some ⟨p, 0, none⟩)] w fun e w' => ∃ v, e = .returned v ∧ w'.ownsRow w.heap.size 9 1 v (P.map (·.1)).length ((P.map (·.1)).map encStr) ∧ Below w.heap.size w w' := by
  obtain ⟨bm, L, hd, rfl⟩ := h
  refine (names_c p bm L m 0 own w hd (by simpa using hL)).mono ?_
  rintro e w' ⟨v, rfl, hr, hb⟩
  refine ⟨v, rfl, ?_, hb⟩
  have e : (L.map pl).map (·.1) = L.map (·.n) := by rw [List.map_map]; rfl
  rw [e]
  simpa using hr
end
end Go.Proofs.YtjmkphnppegegaaGreatDoor
/-
  A ledger's box; begins, name, number by contract: the names of a ledger's files.
-/
namespace Go.Proofs.YtjmkphnppegegaaGreatDoor
open Go.RowKit Go.Lib Go.Shelf
set_option maxRecDepth 100000

/-- A ledger's box in block g: its drive, how many origins, first, last, size. -/
def LB (w : World) (g p : Nat) (n f l z : Int) : Prop := Bx 64 w g #[.pointer (some ⟨p, 0, none⟩), .int .i64 n, .int .i64 f, .int .i64 l, .int .i64 z]
theorem LB.cells {w : World} {g p : Nat} {n f l z : Int} (h : LB w g p n f l z) :
    w.cell? ⟨g, 0, none⟩ = some (.pointer (some ⟨p, 0, none⟩)) ∧ w.cell? ⟨g, 1, none⟩ = some (.int .i64 n) ∧ w.cell? ⟨g, 2, none⟩ = some (.int .i64 f) ∧ w.cell? ⟨g, 3, none⟩ = some (.int .i64 l) ∧ w.cell? ⟨g, 4, none⟩ = some (.int .i64 z) :=
  ⟨h.cell 0, h.cell 1, h.cell 2, h.cell 3, h.cell 4⟩
theorem extra105 : Builder.Extra Tryz.prog Tryz.lays105_ren :=
  { sizeBuilder := by kernel_rfl, liesBuilder := by kernel_rfl, t5 := Tryz.underlying5, a5 := Tryz.isAgg5, z5 := Tryz.sizeOf5, v5 := Tryz.zeroValue5, infoByte := by kernel_rfl, cellsByte := by kernel_rfl, sizeByte := by kernel_rfl, neB5 := by decide }
theorem itoa_c (i : Nat) (hi : i < 100) (w : World) : Calls Tryz.prog 61 #[.int .i64 i] w fun e w' => e = .returned (.string ⟨(Lib.decDigits i).toArray⟩) ∧ w' = w := Any.strconv_Itoa_small Tryz.lays171 i hi w
theorem repeat_c (s : ByteArray) (c : Nat) (w : World) (hc : c ≤ 9223372036854775807) (hlen : s.size * c ≤ 140737488355328) : Calls Tryz.prog 63 #[.string s, .int .i64 c] w fun e w' => e = .returned (.string ⟨(Lib.repeatL s.data.toList c).toArray⟩) ∧ Below w.heap.size w w' := Any.strings_Repeat Tryz.lays105 extra105 s c w hc hlen
theorem cutp_c (s p : ByteArray) (w : World) : Calls Tryz.prog 70 #[.string s, .string p] w fun e w' => e = .returned (.tuple #[.string ⟨(Lib.trimPrefix s.data.toList p.data.toList).toArray⟩, .bool (Lib.hasPrefix s.data.toList p.data.toList)]) ∧ w' = w := Any.strings_CutPrefix Tryz.lays103 s p w
theorem atoi_c (s : ByteArray) (n : Int) (hl : s.size ≤ 18) (h : Lib.atoi s.data.toList = some n) (w : World) : Calls Tryz.prog 71 #[.string s] w fun e w' => e = .returned (.tuple #[.int .i64 n, .nilIface]) ∧ Below w.heap.size w w' := by
  refine (Any.strconv_Atoi Tryz.lays172 s n hl h w).mono ?_
  rintro e w' ⟨rfl, t, rfl⟩
  exact ⟨rfl, Lib.bytesWorld_below w _ t⟩
theorem bytes_eq {a : ByteArray} {l : List UInt8} (h : a.data.toList = l) : a = ⟨l.toArray⟩ := by
  cases a
  subst h
  rfl
theorem begin_eq {n : Nat} (hn : n < 10) : (⟨#[108, 111, 103]⟩ : ByteArray) ++ ⟨(Lib.decDigits n).toArray⟩ ++ ⟨#[46]⟩ = ⟨(beginN n).toArray⟩ := by
  refine bytes_eq ?_
  rw [ByteArray.data_append, ByteArray.data_append, Array.toList_append, Array.toList_append, Lib.decDigits_one hn]
  rfl
theorem tail_eq {k : Nat} (hk : k < 100) : Lib.repeatL [48] (10 - (Lib.decDigits k).length) ++ Lib.decDigits k = tailN k := by
  by_cases h : k < 10
  · rw [Lib.decDigits_one h]
    have e1 : k / 10 = 0 := by omega
    have e2 : k % 10 = k := by omega
    unfold tailN
    rw [e1, e2]
    rfl
  · rw [Lib.decDigits_two h hk]
    rfl
theorem dec_len {k : Nat} (hk : k < 100) : 1 ≤ (Lib.decDigits k).length ∧ (Lib.decDigits k).length ≤ 2 := by
  by_cases h : k < 10
  · rw [Lib.decDigits_one h]; exact ⟨by simp, by simp⟩
  · rw [Lib.decDigits_two h hk]; exact ⟨by simp, by simp⟩
theorem name_eq {n k : Nat} (hk : k < 100) : (⟨(beginN n).toArray⟩ : ByteArray) ++ ⟨(Lib.repeatL [48] (10 - (Lib.decDigits k).length)).toArray⟩ ++ ⟨(Lib.decDigits k).toArray⟩ = ⟨(nameN n k).toArray⟩ := by
  refine bytes_eq ?_
  rw [ByteArray.data_append, ByteArray.data_append, Array.toList_append, Array.toList_append, List.append_assoc, tail_eq hk]
  rfl

set_option maxHeartbeats 4000000 in
theorem begins_c (w : World) (g p n : Nat) (f l z : Int) (h : LB w g p n f l z) (hn : n < 10) : Calls Tryz.prog 62 #[.pointer (some ⟨g, 0, none⟩)] w fun e w' => e = .returned (.string ⟨(beginN n).toArray⟩) ∧ w = w' := by
  obtain ⟨_, c1, _⟩ := h.cells
  have hlt := h.lt
  have HI := Lib.hid (itoa_c n (by omega) w)
  rw [← begin_eq hn]
  have hsz : (⟨(Lib.decDigits n).toArray⟩ : ByteArray).size ≤ 2 := by have := (dec_len (k := n) (by omega)).2; simpa [ByteArray.size] using this
  generalize (⟨(Lib.decDigits n).toArray⟩ : ByteArray) = D at *
  clear h hn
  go_enter Tryz.func62, Tryz.ntmps62
  go_wp2_with fail
  refine HI.out.mono ?_
  rintro e w1 ⟨rfl, rfl⟩
  go_wp2
  go_ret
  exact ⟨rfl, rfl⟩

set_option maxHeartbeats 4000000 in
theorem lname_c (w : World) (g p n : Nat) (f l z : Int) (h : LB w g p n f l z) (hn : n < 10) (k : Nat) (hk : k < 100) : Calls Tryz.prog 37 #[.pointer (some ⟨g, 0, none⟩), .int .i64 (k : Int)] w fun e w' => e = .returned (.string ⟨(nameN n k).toArray⟩) ∧ Below w.heap.size w w' := by
  have HI := Lib.hid (itoa_c k hk w)
  have HB := Lib.hid (begins_c w g p n f l z h hn)
  obtain ⟨D, hD⟩ : ∃ D : ByteArray, D = ⟨(Lib.decDigits k).toArray⟩ := ⟨_, rfl⟩
  have hsz : D.size = (Lib.decDigits k).length := by rw [hD]; rfl
  have hl := dec_len hk
  obtain ⟨c, hc⟩ : ∃ c : Nat, 10 - D.size = c := ⟨_, rfl⟩
  have hm : max (10 - (D.size : Int)) 0 = (c : Int) := by omega
  have HR := Lib.hid (repeat_c ⟨#[48]⟩ c w (by omega) (by have : (⟨#[48]⟩ : ByteArray).size = 1 := rfl; rw [this]; omega))
  have hs1 : D.size ≤ 2 := by omega
  rw [← name_eq hk, ← hsz, hc, ← hD]
  rw [← hD] at HI
  have hR : (⟨(Lib.repeatL [48] c).toArray⟩ : ByteArray).size ≤ 10 := by have := Lib.repeatL_length [48] c; simp [ByteArray.size, this]; omega
  have hBg : (⟨(beginN n).toArray⟩ : ByteArray).size = 5 := rfl
  have HRe : Hid (Calls Tryz.prog 63 #[.string ⟨#[48]⟩, .int .i64 c] w fun e w' => e = .returned (.string ⟨(Lib.repeatL [48] c).toArray⟩) ∧ Below w.heap.size w w') := HR
  clear HR
  generalize (⟨(Lib.repeatL [48] c).toArray⟩ : ByteArray) = R at *
  generalize (⟨(beginN n).toArray⟩ : ByteArray) = Bg at *
  clear h hn hl hsz hD hc
  go_enter Tryz.func37, Tryz.ntmps37
  go_wp2_with fail
  refine HI.out.mono ?_
  rintro e w1 ⟨rfl, rfl⟩
  go_wp2_with fail
  refine HB.out.mono ?_
  rintro e w2 ⟨rfl, rfl⟩
  go_wp2_with fail
  refine HRe.out.mono ?_
  rintro e w3 ⟨rfl, b3⟩
  go_wp2
  go_ret
  exact ⟨rfl, b3⟩
end Go.Proofs.YtjmkphnppegegaaGreatDoor
/-
  number, bounds by contract; the names of a ledger's files as the drive answers them.
-/
namespace Go.Proofs.YtjmkphnppegegaaGreatDoor
open Go.RowKit Go.Lib
set_option maxRecDepth 100000

/-- The name of a file, as a text. -/
def nmS (n k : Nat) : ByteArray := ⟨(nameN n k).toArray⟩
theorem nm_list (n k : Nat) : (nmS n k).data.toList = nameN n k := encStr_list _
theorem nm_size (n k : Nat) : (nmS n k).size = 15 := by unfold nmS; rw [encStr_size, nameN_len]
theorem nm_le (n k : Nat) : (nmS n k).size ≤ maxLen := by rw [nm_size]; unfold maxLen; omega
theorem nm_ok {n : Nat} (hn : n ≤ 8) {k : Nat} (hk : k < 100) : nameB (nmS n k).data.toList = true := by rw [nm_list]; exact name_ok hn hk
theorem LB.below {w w' : World} {g p : Nat} {n f l z : Int} (h : LB w g p n f l z) (hb : Below w.heap.size w w') : LB w' g p n f l z := Bx.below h hb
theorem LB.lt {w : World} {g p : Nat} {n f l z : Int} (h : LB w g p n f l z) : g < w.heap.size := Bx.lt h
theorem LB.turn {w w' : World} {g p : Nat} {n f l z : Int} {S : Nat → Prop} (h : LB w g p n f l z) (ht : Turn S w w') (hn : ¬ S g) : LB w' g p n f l z := (ht.block g h.lt hn).trans h
theorem LB.setF {w : World} {g p : Nat} {n f l z : Int} (h : LB w g p n f l z) (x : Int) : LB (w.setCell ⟨g, 2, none⟩ (.int .i64 x)) g p n x l z := Bx.set h 2 _
theorem LB.setL {w : World} {g p : Nat} {n f l z : Int} (h : LB w g p n f l z) (x : Int) : LB (w.setCell ⟨g, 3, none⟩ (.int .i64 x)) g p n f x z := Bx.set h 3 _
theorem LB.setZ {w : World} {g p : Nat} {n f l z : Int} (h : LB w g p n f l z) (x : Int) : LB (w.setCell ⟨g, 4, none⟩ (.int .i64 x)) g p n f l x := Bx.set h 4 _
theorem turn_set (w : World) (g k : Nat) (u : Value) : Turn (fun i => i = g) w (w.setCell ⟨g, k, none⟩ u) := Turn.set (S := fun i => i = g) (Turn.refl _ w) (p := ⟨g, k, none⟩) rfl u
theorem nname_c (w : World) (g p n : Nat) (f l z : Int) (h : LB w g p n f l z) (hn : n < 10) (k : Nat) (hk : k < 100) : Calls Tryz.prog 37 #[.pointer (some ⟨g, 0, none⟩), .int .i64 (k : Int)] w fun e w' => e = .returned (.string (nmS n k)) ∧ Below w.heap.size w w' := lname_c w g p n f l z h hn k hk
theorem trim_name (n k : Nat) : Lib.trimPrefix (nameN n k) (beginN n) = tailN k ∧ Lib.hasPrefix (nameN n k) (beginN n) = true := by
  have h : Lib.hasPrefix (nameN n k) (beginN n) = true := by
    unfold Lib.hasPrefix nameN
    exact List.isPrefixOf_iff_prefix.2 (List.prefix_append _ _)
  refine ⟨?_, h⟩
  unfold Lib.trimPrefix
  rw [if_pos h]
  rfl

set_option maxHeartbeats 4000000 in
theorem number_c (w : World) (g p n : Nat) (f l z : Int) (h : LB w g p n f l z) (hn : n < 10) (k : Nat) (hk0 : 1 ≤ k) (hk : k < 100) : Calls Tryz.prog 51 #[.pointer (some ⟨g, 0, none⟩), .string (nmS n k)] w fun e w' => e = .returned (.tuple #[.int .i64 (k : Int), .bool true]) ∧ Below w.heap.size w w' := by
  have HB := Lib.hid (begins_c w g p n f l z h hn)
  have HC := Lib.hid (cutp_c (nmS n k) ⟨(beginN n).toArray⟩ w)
  rw [nm_list, encStr_list, (trim_name n k).1, (trim_name n k).2] at HC
  have HA := Lib.hid (atoi_c ⟨(tailN k).toArray⟩ k (by rw [encStr_size]; show 10 ≤ 18; omega) (by rw [encStr_list]; exact atoi_tail hk) w)
  have hs : (⟨(tailN k).toArray⟩ : ByteArray).size = 10 := by rw [encStr_size]; rfl
  generalize (⟨(tailN k).toArray⟩ : ByteArray) = T at *
  generalize (⟨(beginN n).toArray⟩ : ByteArray) = Bg at *
  have e1 : decide (0 < k) = true := by simp; omega
  have hsi : ((T.size : Nat) : Int) = 10 := by rw [hs]; rfl
  clear h hn
  go_enter Tryz.func51, Tryz.ntmps51
  go_wp2_with fail
  refine HB.out.mono ?_
  rintro e w1 ⟨rfl, rfl⟩
  go_wp2_with fail
  refine HC.out.mono ?_
  rintro e w2 ⟨rfl, rfl⟩
  go_wp2_with fail
  refine HA.out.mono ?_
  rintro e w3 ⟨rfl, b3⟩
  go_wp2
  go_ret2
  exact ⟨rfl, b3⟩

/-- The names of N files from number k on, in a row of one's own. -/
def Nms (w : World) (B : Nat) (v : Value) (n k N : Nat) : Prop :=
  ∃ ad cap, v = .slice ad N cap ∧ (0 < N → ∃ b, B ≤ b ∧ ad = some ⟨b, 0, none⟩ ∧ ∀ j, j < N → w.cell? ⟨b, j, none⟩ = some (.string (nmS n (k + j))))
theorem Nms.turn {w w' : World} {B : Nat} {v : Value} {n k N : Nat} {S : Nat → Prop} (h : Nms w B v n k N) (ht : Turn S w w') (hS : ∀ i, i < w.heap.size → S i → i < B) : Nms w' B v n k N := by
  obtain ⟨ad, cap, h1, h2⟩ := h
  refine ⟨ad, cap, h1, fun h0 => ?_⟩
  obtain ⟨b, hb, e, hc⟩ := h2 h0
  refine ⟨b, hb, e, fun j hj => ?_⟩
  have hlt := World.block_lt_of_cell? w _ (hc j hj)
  exact (World.cell?_of_block (ht.block b hlt (fun k => by have := hS b hlt k; omega))).trans (hc j hj)
theorem Nms.below {w w' : World} {B : Nat} {v : Value} {n k N : Nat} (h : Nms w B v n k N) (hb : Below w.heap.size w w') : Nms w' B v n k N := h.turn (S := fun _ => False) (Turn.ofBelow hb) (fun _ _ k => k.elim)
theorem files_name (n : Nat) : ∀ (F : List (List Int × Nat)) (k j : Nat) (hj : j < ((filesN n k F).map (·.1)).length), ((filesN n k F).map (·.1))[j] = nameN n (k + j)
  | [], k, j, hj => by simp [filesN] at hj
  | x :: r, k, 0, _ => by simp [filesN]
  | x :: r, k, j + 1, hj => by
    have := files_name n r (k + 1) j (by simpa [filesN] using hj)
    simp only [filesN, List.map_cons, List.getElem_cons_succ, this]
    rw [show k + 1 + j = k + (j + 1) from by omega]
theorem fNames {w : World} {p n k m : Nat} {F : List (List Int × Nat)} {own : Nat → Prop} (h : Dr w p (filesN n k F) m own) (hL : F.length ≤ 1000000) :
    Calls Tryz.prog 39 #[.pointer (some ⟨p, 0, none⟩)] w fun e w' => ∃ v, e = .returned v ∧ Nms w' w.heap.size v n k F.length ∧ Below w.heap.size w w' := by
  refine (dNames h (by rw [files_len]; exact hL)).mono ?_
  rintro e w' ⟨v, rfl, hr, hb⟩
  refine ⟨v, rfl, ?_, hb⟩
  have hlen : ((filesN n k F).map (·.1)).length = F.length := by rw [List.length_map, files_len]
  rcases hr.2 with ⟨rfl, h0⟩ | ⟨g, cap, cur, rfl, hg, _⟩
  · exact ⟨none, 0, by rw [← hlen, h0], fun h => by omega⟩
  · refine ⟨_, cap, by rw [hlen], fun _ => ⟨g, hg, rfl, fun j hj => ?_⟩⟩
    have hj' : j < ((filesN n k F).map (·.1)).length := by rw [hlen]; exact hj
    have c := World.ownsRow.cellAt hr j (by omega)
    refine c.trans ?_
    rw [List.getElem?_map, List.getElem?_eq_getElem hj', files_name n F k j hj', Option.map_some, encStr_val]
    rfl

def bF (k j : Nat) : Int := if j = 0 then 1 else k
def bL (k j : Nat) : Int := if j = 0 then 0 else (k : Int) + (j : Int) - 1
set_option maxHeartbeats 4000000 in
theorem bounds_c (w : World) (g p n k m : Nat) (f l z : Int) (F : List (List Int × Nat)) (own : Nat → Prop) (h : LB w g p n f l z) (hd : Dr w p (filesN n k F) m own) (hn : n < 10) (hk0 : 1 ≤ k) (hk : k + F.length ≤ 100) :
    Calls Tryz.prog 46 #[.pointer (some ⟨g, 0, none⟩)] w fun e w' => e = .returned (.tuple #[.int .i64 (bF k F.length), .int .i64 (bL k F.length)]) ∧ Below w.heap.size w w' := by
  obtain ⟨c0, c1, _⟩ := h.cells
  have hlt := h.lt
  have HN := Lib.hid (fNames hd (by omega))
  have HLB := Lib.hid h
  have CN : Hid (∀ W j, Below w.heap.size w W → j < F.length → Calls Tryz.prog 51 #[.pointer (some ⟨g, 0, none⟩), .string (nmS n (k + j))] W fun e w' => e = .returned (.tuple #[.int .i64 ((k + j : Nat) : Int), .bool true]) ∧ Below W.heap.size W w') := Lib.hid (fun W j hW hj => number_c W g p n f l z (HLB.out.below hW) hn (k + j) (by omega) (by omega))
  clear h hd
  go_enter Tryz.func46, Tryz.ntmps46
  go_wp2_with fail
  refine HN.out.mono ?_
  rintro e w1 ⟨v, rfl, hnm, b1⟩
  have HM := Lib.hid hnm
  have HB1 := Lib.hid b1
  obtain ⟨ad, cap, rfl, _⟩ := hnm
  clear b1 HN c0 c1 hlt
  go_wp2
  go_loopw [4, 5, 16] (fun v4 v5 v16 wr => ∃ j : Nat, j ≤ F.length ∧ v16 = .int .i64 (j : Int) ∧ v4 = .int .i64 (bF k j) ∧ v5 = .int .i64 (bL k j) ∧ Hid (Below w1.heap.size w1 wr)) (fun _ _ v16 _ => F.length - (RowKit.intOf v16).toNat)
  case atStart => exact ⟨0, by omega, rfl, rfl, rfl, Lib.hid (Below.refl _ _)⟩
  case round =>
    obtain ⟨j, hj, rfl, rfl, rfl, HB⟩ := hrel
    by_cases hjl : j < F.length
    · obtain ⟨ad2, cap2, e2, hs2⟩ := HM.out.below HB.out
      cases e2
      obtain ⟨b, _, rfl, hc⟩ := hs2 (by omega)
      have ck := hc j hjl
      have HC := Lib.hid (CN.out wr j (bn HB1.out HB.out) hjl)
      have hJ := Lib.hid hjl
      have hltb := World.block_lt_of_cell? _ _ ck
      clear hs2 hc
      have e0 : ((k + j : Nat) : Int) = bL k (j + 1) := by unfold bL; rw [if_neg (by omega)]; omega
      have e3 : bF k 1 = ((k + 0 : Nat) : Int) := by simp [bF]
      cases j with
      | zero =>
        have el : bL k 0 = 0 := rfl
        have ef : bF k 0 = 1 := rfl
        rw [el, ef]
        rw [e0] at HC
        go_wp2_with fail
        refine HC.out.mono ?_
        rintro e w2 ⟨rfl, b2⟩
        have HB2 := Lib.hid (bn HB.out b2)
        clear b2 HC
        go_wp2
        go_roundw
        case rel => exact ⟨1, hJ.out, by go_num, by rw [e3, e0], rfl, HB2⟩
        case measure => have := hJ.out; simp [RowKit.intOf]; omega
      | succ j =>
        have el : (bL k (j + 1) == 0) = false := by unfold bL; rw [if_neg (by omega)]; simp; omega
        have ef : bF k (j + 1) = bF k (j + 1 + 1) := by simp [bF]
        rw [e0] at HC
        have HX : Hid (bL k (j + 1 + 1) = bL k (j + 1 + 1)) := Lib.hid rfl
        obtain ⟨X, hX⟩ : ∃ X, X = bL k (j + 1 + 1) := ⟨_, rfl⟩
        rw [← hX] at HC
        have HXX := Lib.hid hX
        clear hX HX
        generalize bL k (j + 1) = Y at *
        go_wp2_with fail
        refine HC.out.mono ?_
        rintro e w2 ⟨rfl, b2⟩
        have HB2 := Lib.hid (bn HB.out b2)
        clear b2 HC
        go_wp2
        go_roundw
        case rel => exact ⟨j + 1 + 1, hJ.out, by go_num, by first | rfl | rw [ef], by rw [HXX.out], HB2⟩
        case measure => have := hJ.out; simp [RowKit.intOf]; omega
    · obtain rfl : j = F.length := by omega
      go_wp2
      go_ret2
      exact ⟨rfl, bn HB1.out HB.out⟩
end Go.Proofs.YtjmkphnppegegaaGreatDoor
/-
  Sync, Segments, Loose by contract.
-/
namespace Go.Proofs.YtjmkphnppegegaaGreatDoor
open Go.RowKit Go.Lib
set_option maxRecDepth 100000

theorem Sl.one (W : World) (own : Nat → Prop) (s : List UInt8) (T : TypeId) (hn : ¬ own W.heap.size) : Sl (W.alloc (.cells #[.string ⟨s.toArray⟩] T)) own (.slice (some ⟨W.heap.size, 0, none⟩) 1 1) [s] := by
  refine ⟨_, 1, rfl, fun _ => ⟨W.heap.size, 0, rfl, fun k hk => ?_, hn⟩⟩
  match k, hk with
  | 0, _ =>
    have := (Bx.new T W #[.string ⟨s.toArray⟩]).cell 0
    rw [Nat.zero_add]
    exact this
/-- drive.Sync of one name that is there. -/
theorem dSync1 {w : World} {p : Nat} {P : List Pf} {m : Nat} {own : Nat → Prop} (h : Dr w p P m own) (n k : Nat) (T : TypeId) (hy : (lookP (nameN n k) P).isSome = true) :
    Calls Tryz.prog 38 #[.pointer (some ⟨p, 0, none⟩), .slice (some ⟨w.heap.size, 0, none⟩) 1 1] (w.alloc (.cells #[.string (nmS n k)] T)) fun e w' => e = .returned (.int .i64 0) ∧ ∃ own', Dr w' p (syncs [nameN n k] P) m own' ∧ Step w own w' own' := by
  refine (dSync (h.alloc (.cells #[.string (nmS n k)] T)) [nameN n k] _ (Sl.one w own _ T (fun ho => by have := h.up ho; omega)) (by simp) (fun s hs => ?_) (fun s hs => ?_)).mono ?_
  · rw [List.mem_singleton] at hs
    subst hs
    rw [nameN_len]
    unfold maxLen
    omega
  · rw [List.mem_singleton] at hs
    subst hs
    exact hy
  · rintro e w' ⟨rfl, own', hd, hs⟩
    exact ⟨rfl, own', hd, (Step.ofBelow (alloc_below w _)).trans hs⟩
theorem Step.beside {a b c : World} {o1 o2 : Nat → Prop} (hb : Below a.heap.size a b) (h : Step b o1 c o2) : Step a o1 c o2 := (Step.ofBelow hb).trans h

set_option maxHeartbeats 4000000 in
theorem lsync_c (w : World) (g p n K m : Nat) (f z : Int) (P : List Pf) (own : Nat → Prop) (h : LB w g p n f K z) (hd : Dr w p P m own) (hg : ¬ own g) (hn : n < 10) (hK : K < 100) (hy : (lookP (nameN n K) P).isSome = true) :
    Calls Tryz.prog 19 #[.pointer (some ⟨g, 0, none⟩)] w fun e w' => e = .returned (.int .i64 0) ∧ ∃ own', Dr w' p (syncs [nameN n K] P) m own' ∧ Step w own w' own' := by
  have hlt := h.lt
  have HS : Hid (∀ w' : World, Below w.heap.size w w' → w'.cell? ⟨g, 0, none⟩ = some (.pointer (some ⟨p, 0, none⟩)) ∧ w'.cell? ⟨g, 3, none⟩ = some (.int .i64 K)) := Lib.hid (fun w' hb => ⟨(h.below hb).cells.1, (h.below hb).cells.2.2.2.1⟩)
  have CN : Hid (∀ W, Below w.heap.size w W → Calls Tryz.prog 37 #[.pointer (some ⟨g, 0, none⟩), .int .i64 (K : Int)] W fun e w' => e = .returned (.string (nmS n K)) ∧ Below W.heap.size W w') := Lib.hid (fun W hW => nname_c W g p n f K z (h.below hW) hn K hK)
  have CS : Hid (∀ W T, Below w.heap.size w W → Calls Tryz.prog 38 #[.pointer (some ⟨p, 0, none⟩), .slice (some ⟨W.heap.size, 0, none⟩) 1 1] (W.alloc (.cells #[.string (nmS n K)] T)) fun e w' => e = .returned (.int .i64 0) ∧ Hid (∃ own', Dr w' p (syncs [nameN n K] P) m own' ∧ Step w own w' own')) := Lib.hid (fun W T hW => (dSync1 (hd.below hW) n K T hy).mono (by
    rintro e w' ⟨rfl, own', h1, h2⟩
    exact ⟨rfl, Lib.hid ⟨own', h1, h2.beside hW⟩⟩))
  have HT : Hid (∀ w', Hid (∃ own', Dr w' p (syncs [nameN n K] P) m own' ∧ Step w own w' own') → w'.cell? ⟨g, 0, none⟩ = some (.pointer (some ⟨p, 0, none⟩)) ∧ w'.cell? ⟨g, 3, none⟩ = some (.int .i64 K)) := Lib.hid (fun w' hx => by
    obtain ⟨own', _, hs⟩ := hx.out
    exact ⟨(h.turn hs.turn hg).cells.1, (h.turn hs.turn hg).cells.2.2.2.1⟩)
  clear h hd hy hg
  go_enter Tryz.func19, Tryz.ntmps19
  go_wp2_with fail
  go_region_held3 (fun W => W.cell? ⟨g, 0, none⟩ = some (.pointer (some ⟨p, 0, none⟩)) ∧ W.cell? ⟨g, 3, none⟩ = some (.int .i64 K)) (first | exact HS.out _ (by first | assumption | exact (Below.refl _ _).drew | exact Below.refl _ _ | exact bn b2' (alloc_below _ _)) | exact s3)
    (first
    | (go_at_call 38; refine (CS.out _ _ (by first | assumption | exact (Below.refl _ _).drew | exact Below.refl _ _)).mono ?_; rintro e w3 ⟨rfl, h3⟩; have s3 := HT.out w3 h3)
    | (go_at_call 37; refine (CN.out _ (by first | assumption | exact (Below.refl _ _).drew | exact Below.refl _ _)).mono ?_; rintro e w2 ⟨rfl, b2⟩; have b2' : Below w.heap.size w w2 := bn (by first | assumption | exact (Below.refl _ _).drew | exact Below.refl _ _) b2; clear b2)
    | fail)
  all_goals
    go_wp2
    go_ret
    exact ⟨rfl, h3.out⟩

set_option maxHeartbeats 4000000 in
theorem segments_c (w : World) (g p n : Nat) (k a : Nat) (z : Int) (h : LB w g p n k (k + a : Nat) z) (hk : k + a < 100) :
    Calls Tryz.prog 18 #[.pointer (some ⟨g, 0, none⟩)] w fun e w' => e = .returned (.int .i64 ((a + 1 : Nat) : Int)) ∧ Below w.heap.size w w' := by
  have hlt := h.lt
  obtain ⟨_, _, c2, c3, _⟩ := h.cells
  have e1 : ((k + a : Nat) : Int) - (k : Int) = (a : Int) := by omega
  have e2 : (a : Int) + 1 = ((a + 1 : Nat) : Int) := by omega
  clear h
  rw [← e2]
  generalize hX : ((k + a : Nat) : Int) = X at *
  have hb1 : X ≤ 200 := by omega
  have hb2 : (k : Int) ≤ 200 := by omega
  have hb3 : (a : Int) ≤ 200 := by omega
  clear hX e2 hk
  go_enter Tryz.func18, Tryz.ntmps18
  go_wp2_with fail
  go_quiet (fail)
  all_goals
    go_wp2
    go_ret
    exact ⟨rfl, by first | exact Below.refl _ _ | exact (Below.refl _ _).drew | exact below_drewN (Below.refl _ _) _⟩
end Go.Proofs.YtjmkphnppegegaaGreatDoor

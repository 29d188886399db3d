/-
  Bytes: boxes, pieces, numbers in bytes there and back, sums of pieces.
-/
import Derived.Laws.BytesArg
import Derived.Lib.SliceRun
import Derived.Test.YtcnpckdchjjeoaaDoorMDigOf
namespace Go.Proofs.YtcnpckdchjjeoaaDoor
open Go.RowKit Go.Lib
set_option maxRecDepth 100000
theorem alloc_below (w : World) (o : Obj) : Below w.heap.size w (w.alloc o) := (Below.refl _ _).alloc (Nat.le_refl _) _
/-- A box of one's own. -/
def Bx (T : TypeId) (w : World) (g : Nat) (cs : Array Value) : Prop := w.heap[g]? = some (.cells cs T (0, 0))
theorem Bx.lt {T : TypeId} {w : World} {g : Nat} {cs : Array Value} (h : Bx T w g cs) : g < w.heap.size := (Array.getElem?_eq_some_iff.1 h).1
theorem Bx.new (T : TypeId) (w : World) (cs : Array Value) : Bx T (w.alloc (.cells cs T (0, 0))) w.heap.size cs := heap_alloc_new w _
theorem Bx.cell {T : TypeId} {w : World} {g : Nat} {cs : Array Value} (h : Bx T w g cs) (k : Nat) : w.cell? ⟨g, k, none⟩ = cs[k]? := cell_of_row w g k _ _ _ h
theorem Bx.soft {T : TypeId} {w : World} {g : Nat} {cs : Array Value} (h : Bx T w g cs) (k : Nat) : w.frozen? ⟨g, k, none⟩ = false := by
  unfold Bx at h
  simp [World.frozen?, h]
theorem Bx.below {T : TypeId} {w w' : World} {g : Nat} {cs : Array Value} (h : Bx T w g cs) (hb : Below w.heap.size w w') : Bx T w' g cs := (hb.block g h.lt).trans h
theorem Bx.far {T : TypeId} {w w' : World} {g : Nat} {r : Option Nat} {cs : Array Value} (h : Bx T w g cs) (hg : w.grownBy w' r) (hne : some g ≠ r) : Bx T w' g cs := (hg.block g h.lt hne).trans h
theorem Bx.alloc {T : TypeId} {w : World} {g : Nat} {cs : Array Value} (h : Bx T w g cs) (o : Obj) : Bx T (w.alloc o) g cs := (Below.heap_alloc w o g h.lt).trans h
theorem Bx.set {T : TypeId} {w : World} {g : Nat} {cs : Array Value} (h : Bx T w g cs) (k : Nat) (u : Value) : Bx T (w.setCell ⟨g, k, none⟩ u) g (cs.setIfInBounds k u) := by
  unfold Bx at h ⊢
  simp [World.setCell, Array.getElem?_modify, h]
theorem Bx.setFar {T : TypeId} {w : World} {g : Nat} {cs : Array Value} (h : Bx T w g cs) {p : Addr} (hp : g ≠ p.block) (u : Value) : Bx T (w.setCell p u) g cs := (Below.heap_setCell w p u g hp).trans h
theorem alloc_below_of {B : Nat} {w : World} (h : B ≤ w.heap.size) (o : Obj) : Below B w (w.alloc o) := (Below.refl _ _).alloc h _
theorem bn {w a b : World} (h : Below w.heap.size w a) (k : Below a.heap.size a b) : Below w.heap.size w b := h.trans (k.mono h.size)

theorem bl_of_box {T : TypeId} {w : World} {g cap : Nat} {l : List Int} {cs : Array Value} (h : Bx T w g cs) (he : ∀ k (hk : k < l.length), cs[k]? = some (.int .u8 l[k])) : Bl w (.slice (some ⟨g, 0, none⟩) l.length cap) l :=
  .inr ⟨⟨g, 0, none⟩, cap, rfl, fun _ => ⟨g, 0, rfl, fun k hk => by rw [Nat.zero_add, h.cell k, he k hk]⟩⟩
def numB (n : Int) : Nat → List Int
  | 0 => []
  | k + 1 => (n / 2 ^ (8 * k)) % 256 :: numB n k
theorem numB_len (n : Int) : ∀ k, (numB n k).length = k
  | 0 => rfl
  | k + 1 => by simp [numB, numB_len n k]
theorem fnv_append : ∀ (a b : List Int) (h : Int), fnv h (a ++ b) = fnv (fnv h a) b
  | [], b, h => rfl
  | x :: t, b, h => by simp [fnv, fnv_append t b]
/-- A list of one part, just laid. -/
theorem pl_one {T : TypeId} {w : World} {g cap : Nat} {u : Value} {l : List Int} (h : Bx T w g #[u]) (hu : Bl w u l) : Pl w (.slice (some ⟨g, 0, none⟩) 1 cap) [l] :=
  ⟨some ⟨g, 0, none⟩, cap, rfl, fun _ => ⟨g, 0, rfl, fun k hk => by
    match k, hk with
    | 0, _ => exact ⟨u, by rw [Nat.zero_add, h.cell 0]; rfl, hu⟩⟩⟩
theorem pl_one_at {T : TypeId} {w : World} {g cap : Nat} {u : Value} {l : List Int} (hg : g = w.heap.size) (hu : Bl w u l) : Pl (w.alloc (.cells #[u] T (0, 0))) (.slice (some ⟨g, 0, none⟩) 1 cap) [l] := by
  subst hg
  exact pl_one (Bx.new T w _) (hu.below (alloc_below _ _))
def unB (n : Int) : List Int → Int
  | [] => n
  | x :: t => unB (n * 256 + x) t
def OkB (l : List Int) : Prop := ∀ x ∈ l, 0 ≤ x ∧ x < 256
theorem OkB.at {l : List Int} (h : OkB l) (k : Nat) (hk : k < l.length) : 0 ≤ l[k] ∧ l[k] < 256 := h _ (List.getElem_mem hk)
theorem OkB.take {l : List Int} (h : OkB l) (k : Nat) : OkB (l.take k) := fun x hx => h x (List.mem_of_mem_take hx)
theorem OkB.drop {l : List Int} (h : OkB l) (k : Nat) : OkB (l.drop k) := fun x hx => h x (List.mem_of_mem_drop hx)
theorem unB_append (n : Int) : ∀ (a b : List Int), unB n (a ++ b) = unB (unB n a) b
  | [], b => rfl
  | x :: a, b => by rw [List.cons_append, unB, unB, unB_append]
termination_by a => a.length
theorem unB_bound : ∀ (l : List Int) (n : Int), OkB l → 0 ≤ n → 0 ≤ unB n l ∧ unB n l < (n + 1) * 256 ^ l.length
  | [], n, _, h => by simp [unB]; omega
  | x :: t, n, hl, h => by
    have hx := hl x (List.mem_cons_self ..)
    have ih := unB_bound t (n * 256 + x) (fun y hy => hl y (List.mem_cons_of_mem _ hy)) (by omega)
    rw [unB, List.length_cons, Int.pow_succ]
    refine ⟨ih.1, Int.lt_of_lt_of_le ih.2 ?_⟩
    rw [Int.mul_comm (256 ^ t.length) 256, ← Int.mul_assoc]
    exact Int.mul_le_mul_of_nonneg_right (by omega) (Int.pow_nonneg (by omega))
theorem unB_lt (l : List Int) (h : OkB l) (hn : l.length ≤ 6) : 0 ≤ unB 0 l ∧ unB 0 l < 281474976710656 := by
  have h1 := unB_bound l 0 h (by omega)
  refine ⟨h1.1, Int.lt_of_lt_of_le h1.2 ?_⟩
  have h2 : (256 : Nat) ^ l.length ≤ 256 ^ 6 := Nat.pow_le_pow_right (by decide) hn
  have h3 : ((256 ^ l.length : Nat) : Int) ≤ ((256 ^ 6 : Nat) : Int) := Int.ofNat_le.2 h2
  simpa using h3
theorem unB_lt5 (l : List Int) (h : OkB l) (hn : l.length ≤ 5) : 0 ≤ unB 0 l ∧ unB 0 l < 1099511627776 := by
  have h1 := unB_bound l 0 h (by omega)
  refine ⟨h1.1, Int.lt_of_lt_of_le h1.2 ?_⟩
  have h2 : (256 : Nat) ^ l.length ≤ 256 ^ 5 := Nat.pow_le_pow_right (by decide) hn
  have h3 : ((256 ^ l.length : Nat) : Int) ≤ ((256 ^ 5 : Nat) : Int) := Int.ofNat_le.2 h2
  simpa using h3
theorem unB_step (l : List Int) (k : Nat) (hk : k < l.length) : unB 0 (l.take (k + 1)) = unB 0 (l.take k) * 256 + l[k] := by
  rw [List.take_succ_eq_append_getElem hk, unB_append]
  rfl


theorem Byts.drop {w : World} {b o : Nat} {l : List Int} (h : Byts w b o l) (k : Nat) : Byts w b (o + k) (l.drop k) := fun j hj => by
  rw [List.length_drop] at hj
  have h1 := h (k + j) (by omega)
  rw [List.getElem_drop, Nat.add_assoc]
  exact h1
theorem Byts.take {w : World} {b o : Nat} {l : List Int} (h : Byts w b o l) (k : Nat) : Byts w b o (l.take k) := fun j hj => by
  rw [List.length_take] at hj
  have h1 := h j (by omega)
  rw [List.getElem_take]
  exact h1


theorem unB_numB (m : Int) (N : Nat) : ∀ k, unB m (numB (N : Int) k) = m * 256 ^ k + ((N % 256 ^ k : Nat) : Int)
  | 0 => by simp [numB, unB, Nat.mod_one]
  | k + 1 => by
    rw [numB, unB]
    rw [unB_numB _ N k]
    have e : ((N : Int) / 2 ^ (8 * k)) % 256 = ((N / 256 ^ k % 256 : Nat) : Int) := by
      rw [show (2 : Int) ^ (8 * k) = ((256 ^ k : Nat) : Int) from by rw [Int.pow_mul]; simp]
      simp
    rw [e, Nat.pow_succ, Nat.mod_mul, Int.pow_succ, Int.add_mul, Int.mul_assoc m 256, Int.mul_comm 256 (256 ^ k)]
    simp only [Int.natCast_add, Int.natCast_mul, Int.natCast_pow]
    rw [Int.mul_comm ((256 : Nat) ^ k : Int) _]
    simp
    omega
theorem un_num (n : Int) (k : Nat) (h0 : 0 ≤ n) (h1 : n < 256 ^ k) : unB 0 (numB n k) = n := by
  obtain ⟨N, rfl⟩ := Int.eq_ofNat_of_zero_le h0
  rw [unB_numB, Int.zero_mul, Int.zero_add, Nat.mod_eq_of_lt]
  have : ((N : Nat) : Int) < ((256 ^ k : Nat) : Int) := by simpa using h1
  exact Int.ofNat_lt.1 this
theorem numB_ok (n : Int) : ∀ k, OkB (numB n k)
  | 0 => fun x hx => by simp [numB] at hx
  | k + 1 => fun x hx => by
    rw [numB, List.mem_cons] at hx
    rcases hx with rfl | hx
    · omega
    · exact numB_ok n k x hx
theorem OkB.append {a b : List Int} (h : OkB a) (k : OkB b) : OkB (a ++ b) := fun x hx => by
  rcases List.mem_append.1 hx with hx | hx
  · exact h x hx
  · exact k x hx

/-- A piece of bytes holds the piece of them. -/
theorem bl_sliced {w : World} {ad : Option Addr} {cap : Nat} {l : List Int} (h : Bl w (.slice ad l.length cap) l) (hcap : l.length ≤ cap) (lo hi : Nat) (hlh : lo ≤ hi) (hhi : hi ≤ l.length) : Bl w (sliced ad lo hi cap 1) ((l.drop lo).take (hi - lo)) := by
  have hlen : ((l.drop lo).take (hi - lo)).length = hi - lo := by simp; omega
  have hlen2 : (List.take (hi - lo) (List.drop lo l)).length = hi - lo := hlen
  rcases h with ⟨e, rfl⟩ | ⟨a, c, e, h2⟩
  · simp only [Value.slice.injEq] at e
    obtain ⟨rfl, _, rfl⟩ := e
    simp at hhi
    subst hhi
    obtain rfl : lo = 0 := by omega
    exact .inl ⟨rfl, rfl⟩
  · simp only [Value.slice.injEq] at e
    obtain ⟨rfl, _, rfl⟩ := e
    refine .inr ⟨if cap = lo then a else a.add (lo * 1), cap - lo, ?_, fun h0 => ?_⟩
    · rw [hlen2]
      unfold sliced
      split <;> rfl
    · rw [hlen2] at h0
      obtain ⟨b, o, rfl, hs⟩ := h2 (by omega)
      by_cases hc : cap = lo
      · omega
      · rw [if_neg hc]
        refine ⟨b, o + lo, by rw [Nat.mul_one]; exact Go.WideShapes.add_plain .., fun k hk => ?_⟩
        rw [hlen2] at hk
        rw [List.getElem_take, List.getElem_drop, Nat.add_assoc]
        exact hs (lo + k) (by omega)
theorem slice_any_run (ad : Option Addr) (n cap : Nat) (lo hi : Option Value) (l h : Nat) (W : World) (hb : (Instr.sliceBounds true n cap lo hi none).run Tryd.prog W = .ok (l, h, cap) W) : (Instr.sliceAt 33 (.slice ad n cap) lo hi none).run Tryd.prog W = .ok (sliced ad l h cap 1) W := by
  have hs : (sizeOf 5).run Tryd.prog W = .ok 1 W := by
    simp [sizeOf]
    rfl
  rw [run_sliceAt_slice W _ _ _ _ _ Tryd.underlying33, run_slice_any W _ _ _ _ Tryd.underlying33, hb]
  simp only [Result.andThen]
  rw [show Tryd.prog.elem 33 = 5 by kernel_rfl, hs]


def U64 (h : Int) : Prop := 0 ≤ h ∧ h < 18446744073709551616
theorem stp_u64 (h b : Int) : U64 (stp h b) := by
  unfold stp U64
  rw [IntKind.wrap_u64]
  omega
theorem mul_back {x y : Int} (hx : U64 x) (hy : U64 y) (h : IntKind.u64.wrap (x * 1099511628211) = IntKind.u64.wrap (y * 1099511628211)) : x = y := by
  rw [IntKind.wrap_u64, IntKind.wrap_u64] at h
  have key : ∀ z : Int, U64 z → (z * 1099511628211 % 18446744073709551616) * 14886173955864302971 % 18446744073709551616 = z := by
    intro z hz
    obtain ⟨h0, h1⟩ := hz
    omega
  have h1 := key x hx
  have h2 := key y hy
  rw [h] at h1
  exact h1.symm.trans h2
theorem byte_wrap {b : Int} (h : 0 ≤ b ∧ b < 256) : IntKind.u64.wrap b = b := by rw [IntKind.wrap_u64]; omega
theorem stp_eq {h b : Int} (hh : U64 h) (hb : 0 ≤ b ∧ b < 256) : stp h b = IntKind.u64.wrap (((h.toNat ^^^ b.toNat : Nat) : Int) * 1099511628211) := by
  unfold stp
  rw [byte_wrap hb, u64_xor h b hh.1 hh.2 hb.1 (by omega)]
theorem xor_u64 {h b : Int} (hh : U64 h) (hb : 0 ≤ b ∧ b < 256) : U64 ((h.toNat ^^^ b.toNat : Nat) : Int) := by
  have hx : h.toNat ^^^ b.toNat < 2 ^ 64 := Nat.xor_lt_two_pow (by have := hh.2; omega) (by omega)
  exact ⟨by omega, by omega⟩
theorem xor_left {a b c : Nat} (h : a ^^^ b = a ^^^ c) : b = c := by
  have h2 := congrArg (a ^^^ ·) h
  simpa [← Nat.xor_assoc] using h2
theorem stp_left {h h' b : Int} (hh : U64 h) (hh' : U64 h') (hb : 0 ≤ b ∧ b < 256) (e : stp h b = stp h' b) : h = h' := by
  rw [stp_eq hh hb, stp_eq hh' hb] at e
  have e2 := mul_back (xor_u64 hh hb) (xor_u64 hh' hb) e
  have e3 : h.toNat ^^^ b.toNat = h'.toNat ^^^ b.toNat := by omega
  rw [Nat.xor_comm, Nat.xor_comm h'.toNat] at e3
  have := xor_left e3
  have := hh.1
  have := hh'.1
  omega
theorem stp_right {h b b' : Int} (hh : U64 h) (hb : 0 ≤ b ∧ b < 256) (hb' : 0 ≤ b' ∧ b' < 256) (e : stp h b = stp h b') : b = b' := by
  rw [stp_eq hh hb, stp_eq hh hb'] at e
  have e2 := mul_back (xor_u64 hh hb) (xor_u64 hh hb') e
  have e3 : h.toNat ^^^ b.toNat = h.toNat ^^^ b'.toNat := by omega
  have := xor_left e3
  omega
theorem fnv_u64 : ∀ (l : List Int) (h : Int), U64 h → U64 (fnv h l)
  | [], _, hh => hh
  | x :: t, h, _ => fnv_u64 t _ (stp_u64 h x)
theorem fnv_left : ∀ (l : List Int) (h h' : Int), OkB l → U64 h → U64 h' → fnv h l = fnv h' l → h = h'
  | [], _, _, _, _, _, e => e
  | x :: t, _, _, ok, hh, hh', e =>
    stp_left hh hh' (ok x (List.mem_cons_self ..)) (fnv_left t _ _ (fun y hy => ok y (List.mem_cons_of_mem _ hy)) (stp_u64 _ _) (stp_u64 _ _) e)
theorem begin_u64 : U64 14695981039346656037 := ⟨by decide, by decide⟩

/-- With one byte another one it is another one. -/
theorem fnv_unlike (l : List Int) (n : Nat) (hn : n < l.length) (y : Int) (ok : OkB l) (hy : 0 ≤ y ∧ y < 256) (hne : y ≠ l[n]) : fnv 14695981039346656037 (l.set n y) ≠ fnv 14695981039346656037 l := by
  intro e
  have e1 : l.set n y = l.take n ++ y :: l.drop (n + 1) := List.set_eq_take_append_cons_drop .. |>.trans (if_pos hn)
  have e2 : l = l.take n ++ l[n] :: l.drop (n + 1) := by rw [← List.drop_eq_getElem_cons hn, List.take_append_drop]
  rw [e1] at e
  have e3 : fnv 14695981039346656037 l = fnv 14695981039346656037 (l.take n ++ l[n] :: l.drop (n + 1)) := by rw [← e2]
  rw [e3, fnv_append, fnv_append, fnv, fnv] at e
  have okd : OkB (l.drop (n + 1)) := fun x hx => ok x (List.mem_of_mem_drop hx)
  have h1 := fnv_left _ _ _ okd (stp_u64 _ _) (stp_u64 _ _) e
  exact hne (stp_right (fnv_u64 _ _ begin_u64) hy (ok _ (List.getElem_mem hn)) h1)
theorem xor_byte {x d : Int} (hx : 0 ≤ x ∧ x < 256) (hd : 0 ≤ d ∧ d < 256) (h0 : d ≠ 0) : (0 ≤ bits .xor .u8 x d ∧ bits .xor .u8 x d < 256) ∧ bits .xor .u8 x d ≠ x := by
  rw [u8_xor x d hx.1 hx.2 hd.1 hd.2]
  have hl : x.toNat ^^^ d.toNat < 2 ^ 8 := Nat.xor_lt_two_pow (by omega) (by omega)
  refine ⟨⟨by omega, by omega⟩, fun e => ?_⟩
  have e1 : x.toNat ^^^ d.toNat = x.toNat ^^^ 0 := by rw [Nat.xor_zero]; omega
  have := xor_left e1
  omega


/-- Bytes with their room. -/
def Bc (w : World) (v : Value) (l : List Int) : Prop := Bl w v l ∧ ∃ ad cap, v = .slice ad l.length cap ∧ l.length ≤ cap
theorem Bc.below {w w' : World} {v : Value} {l : List Int} (h : Bc w v l) (hb : Below w.heap.size w w') : Bc w' v l := ⟨h.1.below hb, h.2⟩
theorem Bc.nil (w : World) : Bc w (.slice none 0 0) [] := ⟨.inl ⟨rfl, rfl⟩, none, 0, rfl, Nat.le_refl _⟩
theorem BRow.bc {w : World} {B : Nat} {v : Value} {l : List Int} (h : BRow w B v l) : Bc w v l := by
  refine ⟨h.nl, ?_⟩
  rcases h.2 with ⟨rfl, h0⟩ | ⟨g, cap, cur, rfl, _, _, hn, _⟩
  · exact ⟨none, 0, by rw [h0], by omega⟩
  · exact ⟨_, cap, rfl, hn⟩
/-- A piece, as a slice of letters. -/
theorem Bc.piece {w : World} {ad : Option Addr} {cap n : Nat} {l : List Int} (h : Bc w (.slice ad n cap) l) (lo hi : Nat) (hlh : lo ≤ hi) (hhi : hi ≤ l.length) :
    ∃ A C, sliced ad lo hi cap 1 = .slice A (hi - lo) C ∧ ∀ W, Bc W (.slice ad n cap) l → Bc W (.slice A (hi - lo) C) ((l.drop lo).take (hi - lo)) := by
  obtain ⟨h1, a2, c2, e, hc⟩ := h
  simp only [Value.slice.injEq] at e
  obtain ⟨rfl, rfl, rfl⟩ := e
  have hlen : ((l.drop lo).take (hi - lo)).length = hi - lo := by simp; omega
  exact ⟨_, _, rfl, fun W hW => ⟨bl_sliced hW.1 hc lo hi hlh hhi, _, _, by rw [hlen], by rw [hlen]; omega⟩⟩
/-- A piece of a slice, as a step whose answer is known. -/
theorem wpList_slice_run {P : Program} {w : World} {ops : Array Oper} {rest : List Oper} {o : Oper} {a : Act} {Q : Exit → Act → World → Prop} (hgd : o.guard = none) (t : TypeId) (s : Operand) (lo hi : Option Operand)
    (ho : o.op = .slice t s lo hi none) (v' : Value)
    (hr : (Instr.sliceAt t (a.eval s) (lo.map a.eval) (hi.map a.eval) none).run P w = .ok v' w) (h : wpList P ops Q rest (a.put o.dst v') w) : wpList P ops Q (o :: rest) a w :=
  wpList_plain hgd fun _ hK => by
    unfold Oper.wp execOp
    simp only [ho, Option.map_none, Sem.run_bind, Sem.run_pure, Result.andThen_ok, hr]
    exact hK _ _ h
/-- Is there a frame in front, of which kind, and of how many bytes? -/
def fsT : List Int → Option (Int × Nat)
  | a :: k :: h :: m :: r => if a = 71 ∧ 1 ≤ k ∧ (h * 256 + m).toNat + 8 ≤ r.length ∧ unB 0 ((r.drop (h * 256 + m).toNat).take 8) = fnv 14695981039346656037 (a :: k :: h :: m :: r.take (h * 256 + m).toNat) then some (k, (h * 256 + m).toNat) else none
  | _ => none
end Go.Proofs.YtcnpckdchjjeoaaDoor

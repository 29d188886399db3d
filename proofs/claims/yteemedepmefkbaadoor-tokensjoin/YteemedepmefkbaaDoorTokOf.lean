/-
  tokens.Of: the words of a text that may be; none of others.
-/
import Derived.Test.YteemedepmefkbaaDoorTokSmall
namespace Go.Proofs.YteemedepmefkbaaDoor
open Go.RowKit Go.Shelf Go.Lib Go.Proofs.GvTok

def wcells : Nat → List (List UInt8) → List Value
  | _, [] => []
  | i, t :: ts => .string ⟨t.toArray⟩ :: .int .i64 (i : Int) :: wcells (i + 1) ts
theorem wcells_snoc : ∀ (ts : List (List UInt8)) (i : Nat) (t : List UInt8), wcells i (ts ++ [t]) = wcells i ts ++ [.string ⟨t.toArray⟩, .int .i64 ((i + ts.length : Nat) : Int)]
  | [], i, t => by simp [wcells]
  | u :: us, i, t => by
    simp only [List.cons_append, wcells, wcells_snoc us (i + 1) t, List.length_cons]
    rw [show i + 1 + us.length = i + (us.length + 1) from by omega]
theorem wcells_length : ∀ (ts : List (List UInt8)) (i : Nat), (wcells i ts).length = ts.length * 2
  | [], i => rfl
  | u :: us, i => by simp only [wcells, List.length_cons, wcells_length us]; omega

/-- What stands in v: the words ws, in a row of the call's own from block B on. -/
def WordsAt (w : World) (B : Nat) (v : Value) (ws : List (List UInt8)) : Prop := w.ownsRow B 32 2 v ws.length (wcells 0 ws)
theorem WordsAt.below {w w' : World} {B : Nat} {v : Value} {ws : List (List UInt8)} (h : WordsAt w B v ws) (hb : Below w.heap.size w w') : WordsAt w' B v ws := own_below h hb
theorem WordsAt.mono {w : World} {B B' : Nat} {v : Value} {ws : List (List UInt8)} (h : WordsAt w B v ws) (hB : B' ≤ B) : WordsAt w B' v ws := World.ownsRow.mono h hB

def OfInv (rs : List Nat) (k b : Nat) (ins : Bool) (done : List (List Nat)) : Prop :=
  done ++ runs (if ins = true then (rs.take k).drop b else []) (rs.drop k) = runs [] rs ∧ (ins = true → b < k) ∧ b ≤ k
theorem OfInv.start (rs : List Nat) : OfInv rs 0 0 false [] := ⟨by simp, by simp, by omega⟩
theorem OfInv.same_out {rs : List Nat} {k b : Nat} {done : List (List Nat)} (h : OfInv rs k b false done) (hk : k < rs.length) (hl : letter rs[k] = false) : OfInv rs (k + 1) b false done := by
  obtain ⟨h1, h2, h3⟩ := h
  refine ⟨?_, by simp, by omega⟩
  rw [List.drop_eq_getElem_cons hk, if_neg (by simp), runs_other0 _ _ hl] at h1
  rw [if_neg (by simp)]
  exact h1
theorem take_drop_snoc (rs : List Nat) (k b : Nat) (hk : k < rs.length) (hb : b ≤ k) : (rs.take (k + 1)).drop b = (rs.take k).drop b ++ [rs[k]] := by
  rw [List.take_succ_eq_append_getElem hk, List.drop_append_of_le_length (by rw [List.length_take]; omega)]
theorem OfInv.same_in {rs : List Nat} {k b : Nat} {done : List (List Nat)} (h : OfInv rs k b true done) (hk : k < rs.length) (hl : letter rs[k] = true) : OfInv rs (k + 1) b true done := by
  obtain ⟨h1, h2, h3⟩ := h
  refine ⟨?_, fun _ => by omega, by omega⟩
  rw [List.drop_eq_getElem_cons hk, if_pos rfl, runs_letter _ _ _ hl, ← take_drop_snoc rs k b hk h3] at h1
  simpa using h1
theorem OfInv.begin_ {rs : List Nat} {k b : Nat} {done : List (List Nat)} (h : OfInv rs k b false done) (hk : k < rs.length) (hl : letter rs[k] = true) : OfInv rs (k + 1) k true done := by
  obtain ⟨h1, h2, h3⟩ := h
  refine ⟨?_, fun _ => by omega, by omega⟩
  rw [List.drop_eq_getElem_cons hk, if_neg (by simp), runs_letter _ _ _ hl] at h1
  rw [if_pos rfl, take_drop_snoc rs k k hk (Nat.le_refl _)]
  have : (rs.take k).drop k = [] := List.drop_eq_nil_of_le (by rw [List.length_take]; omega)
  rw [this]
  exact h1
theorem cur_ne (rs : List Nat) (k b : Nat) (hk : k ≤ rs.length) (hb : b < k) : (rs.take k).drop b ≠ [] := by
  intro h
  have := List.drop_eq_nil_iff.1 h
  rw [List.length_take] at this
  omega
theorem OfInv.end_ {rs : List Nat} {k b : Nat} {done : List (List Nat)} (h : OfInv rs k b true done) (hk : k < rs.length) (hl : letter rs[k] = false) : OfInv rs (k + 1) k false (done ++ [(rs.take k).drop b]) := by
  obtain ⟨h1, h2, h3⟩ := h
  refine ⟨?_, by simp, by omega⟩
  rw [List.drop_eq_getElem_cons hk, if_pos rfl, runs_other _ _ _ hl (cur_ne rs k b (by omega) (h2 rfl))] at h1
  simpa using h1
theorem OfInv.out {rs : List Nat} {b : Nat} {done : List (List Nat)} (h : OfInv rs rs.length b false done) : done = runs [] rs := by
  have := h.1
  simpa [runs] using this
theorem OfInv.out_in {rs : List Nat} {b : Nat} {done : List (List Nat)} (h : OfInv rs rs.length b true done) : done ++ [rs.drop b] = runs [] rs := by
  have h1 := h.1
  have hb := h.2.1 rfl
  rw [if_pos rfl, List.drop_length, runs_nil _ (cur_ne rs _ b (Nat.le_refl _) hb), List.take_length] at h1
  exact h1
theorem OfInv.len {rs : List Nat} {k b : Nat} {ins : Bool} {done : List (List Nat)} (h : OfInv rs k b ins done) : done.length ≤ rs.length := by
  have h1 := congrArg List.length h.1
  have h2 := runs_length rs []
  rw [List.length_append] at h1
  simp at h2
  omega

theorem of_bad (s : ByteArray) (w : World) (hs : s.size ≤ 9223372036854775807) (hT : Tabs w) (hv : mayB s.data.toList = false) :
    Calls Tryd.prog 7 #[.string s] w fun e w' => e = .returned (.slice none 0 0) ∧ Below w.heap.size w w' := by
  have cM := may_c s w hs hT
  rw [hv] at cM
  clear hv
  go_enter Tryd.func7, Tryd.ntmps7
  go_wp2_with (go_at_call 10; refine cM.mono ?_; rintro e w' ⟨rfl, hb⟩)
  go_ret
  exact ⟨rfl, hb⟩

set_option maxHeartbeats 4000000 in
set_option maxRecDepth 1000000 in
theorem of_ok (rs : List Nat) (s : ByteArray) (w : World) (ho : Ok rs) (he : s.data.toList = enc rs) (hs : s.size ≤ 120) (hT : Tabs w) :
    Calls Tryd.prog 7 #[.string s] w fun e w' => ∃ v, e = .returned v ∧ WordsAt w' w.heap.size v (words rs) ∧ Below w.heap.size w w' := by
  have cM := may_c s w (by omega) hT
  rw [he, mayB_yes (by rw [← he, ← Lib.size_eq]; exact hs) (valid_enc rs ho)] at cM
  have hz : s.size = (enc rs).length := by rw [← he, ← Lib.size_eq]
  have hn : rs.length ≤ 120 := by have := enc_le rs; omega
  have HD : Hid (∀ k (hk : k < rs.length), Utf8.decode s (plen rs k) = (rs[k], (encN rs[k]).length)) := Lib.hid (fun k hk => by rw [← decodeL_drop, he, decode_at_k rs ho k hk])
  have HZ := Lib.hid hz
  have HE := Lib.hid he
  clear he hz
  go_enter Tryd.func7, Tryd.ntmps7
  go_wp2_with (go_at_call 10; refine cM.mono ?_; rintro e w0 ⟨rfl, hb0⟩)
  have hT0 := hT.below hb0
  have hsz0 := hb0.size
  go_loopw [3, 4, 5] (fun v3 v4 v5 wr => ∃ (k b : Nat) (ins : Bool) (done : List (List Nat)), k ≤ rs.length ∧ OfInv rs k b ins done ∧ v4 = .int .i64 ((plen rs b : Nat) : Int) ∧ v5 = .bool ins ∧ WordsAt wr (w0.heap.size + 1) v3 (done.map low) ∧ wr.heap[w0.heap.size]? = some (.stringIter s (plen rs k)) ∧ Below w0.heap.size w0 wr) (fun _ _ _ wr => s.size - wr.iterPos w0.heap.size)
  case atStart =>
    refine ⟨0, 0, false, [], by omega, OfInv.start rs, by rw [plen_zero]; rfl, rfl, World.ownsRow_nil _ _ _ _, ?_, (Below.refl _ w0).alloc (Nat.le_refl _) _⟩
    rw [plen_zero]
    exact World.iter_heap w0 s 0
  case round =>
    obtain ⟨k, b, ins, done, hk, hinv, rfl, rfl, hW, hit, hbw⟩ := hrel
    have hsz : w0.heap.size < wr.heap.size := (Array.getElem?_eq_some_iff.1 hit).1
    have hdl := hinv.len
    by_cases hp : k < rs.length
    · have hlt : plen rs k < s.size := by rw [HZ.out]; exact plen_lt rs k hp
      have hr : rs[k] ≤ 1114111 := by have := ho _ (List.getElem_mem hp); unfold okRune at this; omega
      have hnx : ∀ ty, (Instr.next (.pointer (some ⟨w0.heap.size, 0, none⟩)) true ty).run Tryd.prog wr = .ok (.tuple #[.bool true, .int .i64 (plen rs k), .int .i32 (rs[k] : Nat)]) (wr.iterAt w0.heap.size s (plen rs (k + 1))) := fun ty => by
        rw [Lib.run_next_any_at wr w0.heap.size s (plen rs k) ty hit hlt, HD.out k hp, plen_succ rs k hp]
      have hit2 := Lib.iterAt_heap wr w0.heap.size s (plen rs k) (plen rs (k + 1)) hit
      have hbw2 := Lib.below_iterAt hbw (k := w0.heap.size) (by omega) s (plen rs (k + 1))
      have hW2 : WordsAt (wr.iterAt w0.heap.size s (plen rs (k + 1))) (w0.heap.size + 1) _ (done.map low) := hW.kept (row := some w0.heap.size) ⟨rfl, rfl, rfl, by rw [Lib.iterAt_size]; exact Nat.le_refl _, fun i _ hne => Lib.iterAt_other wr w0.heap.size i s _ (fun e => hne (by rw [e]))⟩ (by
        rcases hv : Value.ownBlock _ with _ | g
        · exact .inl rfl
        · right; intro h; injection h with h; have := (World.ownsRow.lt hW g hv).1; omega)
      have hps := plen_succ rs k hp
      have hel := encN_len rs[k]
      have hpl : plen rs k < plen rs (k + 1) := by omega
      have hple : plen rs (k + 1) ≤ s.size := by rw [HZ.out, ← plen_all rs]; exact plen_mono rs _ _ hp
      clear hps hel
      have cL := letter_c rs[k] _ hr (hT0.below hbw2)
      have HINV := Lib.hid hinv
      have hbk := hinv.2.2
      clear hinv
      cases ins <;> cases hl : letter rs[k] <;> rw [hl] at cL
      · have HI2 := Lib.hid (HINV.out.same_out hp hl)
        clear hl
        go_wp2_with (go_at_call 19; refine cL.mono ?_; rintro e W1 ⟨rfl, b1⟩)
        have hit3 : W1.heap[w0.heap.size]? = some (.stringIter s (plen rs (k + 1))) := by
          rw [b1.block _ (by rw [Lib.iterAt_size]; omega)]; exact hit2
        go_roundw
        case rel => exact ⟨k + 1, b, false, done, hp, HI2.out, rfl, rfl, hW2.below b1, hit3, hbw2.trans (b1.mono hbw2.size)⟩
        case measure =>
          simp only [World.iterPos, hit3, hit]
          omega
      · have HI2 := Lib.hid (HINV.out.begin_ hp hl)
        clear hl
        go_wp2_with (go_at_call 19; refine cL.mono ?_; rintro e W1 ⟨rfl, b1⟩)
        have hit3 : W1.heap[w0.heap.size]? = some (.stringIter s (plen rs (k + 1))) := by
          rw [b1.block _ (by rw [Lib.iterAt_size]; omega)]; exact hit2
        go_roundw
        case rel => exact ⟨k + 1, k, true, done, hp, HI2.out, rfl, rfl, hW2.below b1, hit3, hbw2.trans (b1.mono hbw2.size)⟩
        case measure =>
          simp only [World.iterPos, hit3, hit]
          omega
      · have HI2 := Lib.hid (HINV.out.end_ hp hl)
        clear hl
        have hpm := plen_mono rs b k hbk
        have hle : plen rs k ≤ s.size := by omega
        have hcut : (s.extract (plen rs b) (plen rs k)).data.toList = enc ((rs.take k).drop b) := by rw [Lib.extract_data, HE.out, ← List.drop_take, enc_cut rs b k hbk]
        have HCUT := Lib.hid hcut
        clear hcut
        go_wp2_with (go_at_call 19; refine cL.mono ?_; rintro e W1 ⟨rfl, b1⟩)
        have b01 := hbw2.trans (b1.mono hbw2.size)
        have hs1 : w0.heap.size + 1 ≤ W1.heap.size := by have := b1.size; rw [Lib.iterAt_size] at this; omega
        have cB := behind_c ((rs.take k).drop b) (s.extract (plen rs b) (plen rs k)) W1 ((ho.take k).drop b) HCUT.out (by rw [Lib.size_eq, HCUT.out, ← enc_cut rs b k hbk, List.length_drop, List.length_take, ← HE.out, ← Lib.size_eq]; omega) (hT0.below b01) (w0.heap.size + 1) _ _ _ (hW2.below b1) (by rw [List.length_map]; omega) hs1
        refine cB.mono ?_
        rintro e W2 ⟨v', rfl, hown2, b2⟩
        have hit3 : W2.heap[w0.heap.size]? = some (.stringIter s (plen rs (k + 1))) := by
          rw [b2.block _ (by omega), b1.block _ (by rw [Lib.iterAt_size]; omega)]; exact hit2
        have hW3 : WordsAt W2 (w0.heap.size + 1) v' ((done ++ [(rs.take k).drop b]).map low) := by
          unfold WordsAt
          rw [List.map_append, List.map_cons, List.map_nil, wcells_snoc, List.length_append, Nat.zero_add]
          exact hown2
        clear hown2
        go_wp2
        go_roundw
        case rel => exact ⟨k + 1, k, false, _, hp, HI2.out, rfl, rfl, hW3, hit3, b01.trans (b2.mono (by omega))⟩
        case measure =>
          simp only [World.iterPos, hit3, hit]
          omega
      · have HI2 := Lib.hid (HINV.out.same_in hp hl)
        clear hl
        go_wp2_with (go_at_call 19; refine cL.mono ?_; rintro e W1 ⟨rfl, b1⟩)
        have hit3 : W1.heap[w0.heap.size]? = some (.stringIter s (plen rs (k + 1))) := by
          rw [b1.block _ (by rw [Lib.iterAt_size]; omega)]; exact hit2
        go_roundw
        case rel => exact ⟨k + 1, b, true, done, hp, HI2.out, rfl, rfl, hW2.below b1, hit3, hbw2.trans (b1.mono hbw2.size)⟩
        case measure =>
          simp only [World.iterPos, hit3, hit]
          omega
    · have hkk : k = rs.length := by omega
      subst hkk
      rw [plen_all, ← HZ.out] at hit
      have hnx : ∀ ty, (Instr.next (.pointer (some ⟨w0.heap.size, 0, none⟩)) true ty).run Tryd.prog wr = _ := fun ty => Lib.run_next_end_at wr w0.heap.size s s.size ty hit (by omega)
      have HINV := Lib.hid hinv
      have hbk := hinv.2.2
      clear hinv
      cases ins
      · have HW : Hid (WordsAt wr (w0.heap.size + 1) _ (words rs)) := Lib.hid (by unfold words; rw [← HINV.out.out]; exact hW)
        go_wp2
        go_ret
        exact ⟨_, rfl, HW.out.mono (by omega), hb0.trans (hbw.mono hsz0)⟩
      · have hple : plen rs b ≤ s.size := by rw [HZ.out, ← plen_all rs]; exact plen_mono rs _ _ hbk
        have hcut : (s.extract (plen rs b) s.size).data.toList = enc (rs.drop b) := by rw [Lib.extract_data, HE.out, ← List.drop_take, HZ.out, List.take_length, enc_drop]
        have HCUT := Lib.hid hcut
        clear hcut
        go_wp2_with fail
        have cB := behind_c (rs.drop b) (s.extract (plen rs b) s.size) wr (ho.drop b) HCUT.out (by rw [Lib.size_eq, HCUT.out, ← enc_drop rs b, List.length_drop, ← HZ.out]; omega) (hT0.below hbw) (w0.heap.size + 1) _ _ _ hW (by rw [List.length_map]; omega) hsz
        refine cB.mono ?_
        rintro e W2 ⟨v', rfl, hown2, b2⟩
        have HW : Hid (WordsAt W2 (w0.heap.size + 1) v' (words rs)) := Lib.hid (by
          unfold WordsAt words
          rw [← HINV.out.out_in, List.map_append, List.map_cons, List.map_nil, wcells_snoc, List.length_append, Nat.zero_add]
          exact hown2)
        clear hown2
        go_wp2
        go_ret
        exact ⟨_, rfl, HW.out.mono (by omega), hb0.trans ((hbw.trans (b2.mono (by omega))).mono hsz0)⟩

end Go.Proofs.YteemedepmefkbaaDoor

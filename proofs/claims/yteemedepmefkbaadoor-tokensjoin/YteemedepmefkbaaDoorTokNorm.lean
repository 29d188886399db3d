/-
  tokens.Norm: each rune in lower case, one behind the other; nothing of what is no UTF-8.
-/
import Derived.Test.YteemedepmefkbaaDoorTokWalk1
namespace Go.Proofs.YteemedepmefkbaaDoor
open Go.RowKit Go.Shelf Go.Lib Go.Proofs.GvTok

theorem extra168 : Builder.Extra Tryd.prog Tryd.lays168_ren :=
  { sizeBuilder := by kernel_rfl, liesBuilder := by kernel_rfl, t5 := Tryd.underlying5, a5 := Tryd.isAgg5, z5 := Tryd.sizeOf5, v5 := Tryd.zeroValue5, infoByte := by kernel_rfl, cellsByte := by kernel_rfl, sizeByte := by kernel_rfl, neB5 := by decide }
theorem extra169 : Builder.Extra Tryd.prog Tryd.lays169_ren :=
  { sizeBuilder := by kernel_rfl, liesBuilder := by kernel_rfl, t5 := Tryd.underlying5, a5 := Tryd.isAgg5, z5 := Tryd.sizeOf5, v5 := Tryd.zeroValue5, infoByte := by kernel_rfl, cellsByte := by kernel_rfl, sizeByte := by kernel_rfl, neB5 := by decide }
theorem writeRune_c (B b : Nat) (bs : List Value) (r : Int) (hr0 : -2147483648 ≤ r) (hr1 : r ≤ 2147483647) (w : World) (h : Lib.IsBuilderF 41 5 B b bs w) (hlen : bs.length + 4 ≤ 140737488355328) (hBw : B ≤ w.heap.size) :
    Calls Tryd.prog 23 #[.pointer (some ⟨b, 0, none⟩), .int .i32 r] w fun e w' => e = .returned (.tuple #[.int .i64 (Lib.runeCells r).length, .nilIface]) ∧ (Lib.BuilderAtF 41 5 B b (.pointer (some ⟨b, 0, none⟩)) (bs ++ Lib.runeCells r) w' ∧ Below B w w' ∧ Lib.OthersKept 5 (some b) w w') :=
  Any.Builder_WriteRune_k Tryd.lays168 extra168 B b bs r hr0 hr1 w h hlen hBw
theorem string_c (B b : Nat) (l : List UInt8) (w : World) (h : Lib.IsBuilderF 41 5 B b (Lib.byteCells l) w) (hBw : B ≤ w.heap.size) :
    Calls Tryd.prog 25 #[.pointer (some ⟨b, 0, none⟩)] w fun e w' => e = .returned (.string ⟨l.toArray⟩) ∧ (Lib.IsBuilderF 41 5 B b (Lib.byteCells l) w' ∧ Below B w w' ∧ Lib.OthersKept 5 (some b) w w') :=
  Any.Builder_String_any_k Tryd.lays169 extra169 B b l w h hBw

theorem toLower_range (r : Nat) (h : r ≤ 1114111) : -2147483648 ≤ toLowerU (r : Int) ∧ toLowerU (r : Int) ≤ 2147483647 := by
  unfold toLowerU
  split
  · split <;> omega
  · unfold toR lookupGo
    cases hi : lookupIdx caseA (r : Int) (caseA.size + 1) 0 caseA.size with
    | none => exact ⟨by simp only [Option.map_none]; omega, by simp only [Option.map_none]; omega⟩
    | some i =>
      obtain ⟨hil, hlo, hhi⟩ := lookupIdx_some caseA (r : Int) _ _ _ i hi
      have hc := convert_fits _ (caseA_row i hil) 1 (by omega) (r : Int) hlo hhi
      simp only [Option.map_some]
      rw [← hc]
      unfold RowKit.wrap32
      omega

set_option maxHeartbeats 1000000 in
theorem norm_bad (s : ByteArray) (w : World) (hs : s.size ≤ 9223372036854775807) (hT : Tabs w) (hv : validD s.data.toList = false) :
    Calls Tryd.prog 12 #[.string s] w fun e w' => e = .returned (.string ⟨#[]⟩) ∧ Below w.heap.size w w' := by
  have cV := valid_c s w hs hT
  rw [hv] at cV
  clear hv
  go_enter Tryd.func12, Tryd.ntmps12
  go_wp2_with (go_at_call 18; refine cV.mono ?_; rintro e w' ⟨rfl, hb⟩)
  go_ret
  exact ⟨rfl, hb⟩

set_option maxHeartbeats 4000000 in
set_option maxRecDepth 1000000 in
theorem norm_ok (rs : List Nat) (s : ByteArray) (w : World) (ho : Ok rs) (he : s.data.toList = enc rs) (hs : s.size ≤ 1099511627776) (hT : Tabs w) :
    Calls Tryd.prog 12 #[.string s] w fun e w' => e = .returned (.string ⟨(low rs).toArray⟩) ∧ Below w.heap.size w w' := by
  have cV := valid_c s w (by omega) hT
  rw [he, valid_enc rs ho] at cV
  have hz : s.size = (enc rs).length := by rw [← he, ← Lib.size_eq]
  have hn : rs.length ≤ 1099511627776 := by have := enc_le rs; omega
  have HD : Hid (∀ k (hk : k < rs.length), Utf8.decode s (plen rs k) = (rs[k], (encN rs[k]).length)) := Lib.hid (fun k hk => by rw [← decodeL_drop, he, decode_at_k rs ho k hk])
  have HZ := Lib.hid hz
  clear he hz
  go_enter Tryd.func12, Tryd.ntmps12
  go_wp2_with (go_at_call 18; refine cV.mono ?_; rintro e w0 ⟨rfl, hb0⟩)
  have hT0 := hT.below hb0
  have hsz0 := hb0.size
  go_loopw [] (fun wr => ∃ (k : Nat), k ≤ rs.length ∧ Lib.IsBuilderF 41 5 w0.heap.size w0.heap.size (Lib.byteCells (low (rs.take k))) wr ∧ wr.heap[w0.heap.size + 1]? = some (.stringIter s (plen rs k)) ∧ Below w0.heap.size w0 wr) (fun wr => s.size - wr.iterPos (w0.heap.size + 1))
  case atStart =>
    refine ⟨0, by omega, (Lib.IsBuilderF.of (Lib.fresh_isBuilder 41 5 w0)).alloc _, ?_, ((Below.refl _ w0).alloc (Nat.le_refl _) _).alloc (by simp) _⟩
    have := World.iter_heap (w0.alloc (.cells #[.pointer none, .slice none 0 0] 41)) s 0
    rw [plen_zero]
    simpa using this
  case round =>
    obtain ⟨k, hk, hI, hit, hbw⟩ := hrel
    have hsz : w0.heap.size + 1 < wr.heap.size := (Array.getElem?_eq_some_iff.1 hit).1
    by_cases hp : k < rs.length
    · have hlt : plen rs k < s.size := by rw [HZ.out]; exact plen_lt rs k hp
      have hr : rs[k] ≤ 1114111 := by have := ho _ (List.getElem_mem hp); unfold okRune at this; omega
      have hnx : ∀ ty, (Instr.next (.pointer (some ⟨w0.heap.size + 1, 0, none⟩)) true ty).run Tryd.prog wr = .ok (.tuple #[.bool true, .int .i64 (plen rs k), .int .i32 (rs[k] : Nat)]) (wr.iterAt (w0.heap.size + 1) s (plen rs (k + 1))) := fun ty => by
        rw [Lib.run_next_any_at wr (w0.heap.size + 1) s (plen rs k) ty hit hlt, HD.out k hp, plen_succ rs k hp]
      have hI2 := hI.iterAt hit (plen rs (k + 1))
      have hit2 := Lib.iterAt_heap wr (w0.heap.size + 1) s (plen rs k) (plen rs (k + 1)) hit
      have hbw2 := Lib.below_iterAt hbw (k := w0.heap.size + 1) (by omega) s (plen rs (k + 1))
      have hsz2 : w0.heap.size ≤ (wr.iterAt (w0.heap.size + 1) s (plen rs (k + 1))).heap.size := by rw [Lib.iterAt_size]; omega
      have hll := low_len (rs.take k)
      rw [List.length_take, Nat.min_eq_left hk] at hll
      have hps := plen_succ rs k hp
      have hel := encN_len rs[k]
      have hpl : plen rs k < plen rs (k + 1) := by omega
      have hple : plen rs (k + 1) ≤ s.size := by rw [HZ.out, ← plen_all rs]; exact plen_mono rs _ _ hp
      clear hps hel
      have cL := toLower_c ((rs[k] : Nat) : Int) _ (hT0.below hbw2)
      obtain ⟨hr0, hr1⟩ := toLower_range rs[k] hr
      have HT2 : Hid (low (rs.take (k + 1)) = low (rs.take k) ++ encodeRune (toLowerU ((rs[k] : Nat) : Int))) := Lib.hid (by rw [List.take_succ_eq_append_getElem hp, low_append]; simp [low])
      generalize toLowerU ((rs[k] : Nat) : Int) = R at cL hr0 hr1 HT2
      go_wp2_with (go_at_call 24; refine cL.mono ?_)
      rintro e W0 ⟨rfl, q, rfl⟩
      go_wp2_with fail
      refine (writeRune_c w0.heap.size w0.heap.size (Lib.byteCells (low (rs.take k))) R hr0 hr1 _ (by exact hI2) (by rw [Lib.byteCells_length]; omega) (by exact hsz2)).mono ?_
      rintro e W1 ⟨rfl, h1, b1, k1⟩
      go_wp2
      have hit3 := k1.iter hit2 (by omega)
      go_roundw
      case rel =>
        refine ⟨k + 1, hp, ?_, hit3, (below_drewN hbw2 q).trans b1⟩
        rw [HT2.out, Lib.byteCells_append, Lib.byteCells_encodeRune]
        exact Or.inr h1
      case measure =>
        simp only [World.iterPos, hit3, hit]
        omega
    · have hkk : k = rs.length := by omega
      subst hkk
      rw [List.take_length] at hI
      rw [plen_all, ← HZ.out] at hit
      have hnx : ∀ ty, (Instr.next (.pointer (some ⟨w0.heap.size + 1, 0, none⟩)) true ty).run Tryd.prog wr = _ := fun ty => Lib.run_next_end_at wr (w0.heap.size + 1) s s.size ty hit (by omega)
      go_wp2_with (go_at_call 25; refine (string_c w0.heap.size w0.heap.size (low rs) _ hI (by omega)).mono ?_)
      rintro e W1 ⟨rfl, _, b1, _⟩
      go_wp2
      go_ret
      exact ⟨rfl, hb0.trans ((hbw.trans b1).mono hsz0)⟩

end Go.Proofs.YteemedepmefkbaaDoor

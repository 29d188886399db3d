/-
  Sync of a drive, by contract.
-/
import Derived.Test.YtmhmdnlkkpjdjaaDrvNames
namespace Go.Proofs.Ytmhmdnlkkpjdjaa
open Go.RowKit Go.Lib

def syncP (P : List Pf) (s : List UInt8) : List Pf :=
  match lookP s P with
  | some (a, _) => updP s (a, a.length) P
  | none => P
def syncs (ss : List (List UInt8)) (P : List Pf) : List Pf := ss.foldl syncP P
theorem lookP_upd (s t : List UInt8) (g : List Int × Nat) : ∀ P : List Pf, (lookP t (updP s g P)).isSome = (lookP t P).isSome
  | [] => rfl
  | y :: r => by
    have ih := lookP_upd s t g r
    unfold updP at ih ⊢
    rw [List.map_cons, lookP, lookP]
    by_cases h : (y.1 == s) = true
    · rw [if_pos h]
      dsimp only
      split
      · rfl
      · exact ih
    · rw [if_neg h]
      split
      · rfl
      · exact ih
theorem lookP_sync (s t : List UInt8) (P : List Pf) : (lookP t (syncP P s)).isSome = (lookP t P).isSome := by
  unfold syncP
  split
  · exact lookP_upd ..
  · rfl
theorem lookP_syncs (t : List UInt8) : ∀ (ss : List (List UInt8)) (P : List Pf), (lookP t (syncs ss P)).isSome = (lookP t P).isSome
  | [], _ => rfl
  | s :: r, P => by
    show (lookP t (syncs r (syncP P s))).isSome = _
    rw [lookP_syncs t r, lookP_sync]
theorem syncs_snoc (ss : List (List UInt8)) (s : List UInt8) (P : List Pf) : syncs (ss ++ [s]) P = syncP (syncs ss P) s := by simp [syncs]
theorem encStr_val (l : List UInt8) : encStr l = .string ⟨l.toArray⟩ := rfl
theorem encStr_list (l : List UInt8) : (⟨l.toArray⟩ : ByteArray).data.toList = l := by simp
theorem encStr_size (l : List UInt8) : (⟨l.toArray⟩ : ByteArray).size = l.length := by simp [ByteArray.size]

set_option maxHeartbeats 4000000 in
theorem syncNo_c (p bm : Nat) (L : List Fl) (m ex : Nat) (own : Nat → Prop) (w : World) (h : DrvAt w p bm L m ex own) (ss : List (List UInt8)) (v : Value) (hv : Sl w own v ss) (hl : ss.length ≤ 1000000) (hz : ∀ s ∈ ss, s.length ≤ maxLen) (j : Nat) (hj : j < ss.length) (hno : lookP ss[j] (L.map pl) = none) :
    Calls Try.prog 11 #[.pointer (some ⟨p, 0, none⟩), v] w fun e w' => e = .returned (.int .i64 13) ∧ w = w' := by
  obtain ⟨ad, cap, rfl, hs⟩ := hv
  obtain ⟨b, o, rfl, hs, hn⟩ := hs (by omega)
  have c0 := h.cell0
  have hlt := h.hd.lt
  have HD := Lib.hid h
  have HS := Lib.hid hs
  have HZ := Lib.hid hz
  have HJ := Lib.hid hno
  clear h hs hz hno
  go_enter Try.func11, Try.ntmps11
  go_wp2
  go_loopw [16] (fun v16 wr => ∃ k : Nat, k ≤ j ∧ v16 = .int .i64 (k : Int) ∧ wr = w) (fun v16 _ => ss.length - (RowKit.intOf v16).toNat)
  case atStart => exact ⟨0, by omega, rfl, rfl⟩
  case round =>
    obtain ⟨k, hk, rfl, rfl⟩ := hrel
    have hkl : k < ss.length := by omega
    have ck := HS.out k hkl
    rw [encStr_val] at ck
    have hsz : (⟨ss[k].toArray⟩ : ByteArray).size ≤ maxLen := by rw [encStr_size]; exact HZ.out _ (List.getElem_mem hkl)
    cases hlk : lookP ss[k] (L.map pl) with
    | none =>
      have hf := DrvAt.miss HD.out.mp (s := ⟨ss[k].toArray⟩) (by rw [encStr_list]; exact look_none hlk) hsz
      clear hlk hsz
      generalize ss[k].toArray = S at *
      go_wp2
      go_ret
      exact ⟨rfl, rfl⟩
    | some q =>
      have hkj : k < j := by
        rcases Nat.lt_or_ge k j with h | h
        · exact h
        · obtain rfl : k = j := by omega
          have := HJ.out
          rw [hlk] at this
          cases this
      obtain ⟨a, f⟩ := q
      obtain ⟨pre, x, post, hLx, hz, _, _⟩ := look_some hlk
      have hf := DrvAt.find (pre := pre) (x := x) (post := post) (by rw [← hLx]; exact HD.out.mp) (by rw [← hLx]; exact HD.out.so) (s := ⟨ss[k].toArray⟩) (by rw [encStr_list]; exact hz.symm) hsz
      clear hlk hsz hLx hz
      generalize ss[k].toArray = S at *
      go_wp2
      go_roundw
      case rel => exact ⟨k + 1, hkj, by go_num, by trivial⟩
      case measure => simp [RowKit.intOf]; omega

set_option maxHeartbeats 8000000 in
theorem sync_c (p bm : Nat) (L : List Fl) (m ex : Nat) (own : Nat → Prop) (w : World) (h : DrvAt w p bm L m ex own) (ss : List (List UInt8)) (v : Value) (hv : Sl w own v ss) (hl : ss.length ≤ 1000000) (hz : ∀ s ∈ ss, s.length ≤ maxLen) (hyes : ∀ s ∈ ss, (lookP s (L.map pl)).isSome = true) :
    Calls Try.prog 11 #[.pointer (some ⟨p, 0, none⟩), v] w fun e w' => e = .returned (.int .i64 0) ∧ ∃ L', DrvAt w' p bm L' m ex own ∧ L'.map pl = syncs ss (L.map pl) ∧ L'.length = L.length ∧ Turn own w w' := by
  obtain ⟨ad, cap, rfl, hs⟩ := id hv
  have HV := Lib.hid hv
  have c0 := h.cell0
  have hlt := h.hd.lt
  have HD := Lib.hid h
  have HS := Lib.hid hs
  have HZ := Lib.hid hz
  have HY := Lib.hid hyes
  clear h hs hz hyes hv
  go_enter Try.func11, Try.ntmps11
  go_wp2
  go_loopw [16] (fun v16 wr => ∃ k : Nat, k ≤ ss.length ∧ v16 = .int .i64 (k : Int) ∧ wr = w) (fun v16 _ => ss.length - (RowKit.intOf v16).toNat)
  case atStart => exact ⟨0, by omega, rfl, rfl⟩
  case round =>
    obtain ⟨k, hk, rfl, rfl⟩ := hrel
    by_cases hkl : k < ss.length
    · obtain ⟨b, o, rfl, hs, hn⟩ := HS.out (by omega)
      have ck := hs k hkl
      rw [encStr_val] at ck
      have hsz : (⟨ss[k].toArray⟩ : ByteArray).size ≤ maxLen := by rw [encStr_size]; exact HZ.out _ (List.getElem_mem hkl)
      have hsome := HY.out _ (List.getElem_mem hkl)
      obtain ⟨⟨a, f⟩, hlk⟩ := Option.isSome_iff_exists.1 hsome
      obtain ⟨pre, x, post, hLx, hz, _, _⟩ := look_some hlk
      have hf := DrvAt.find (pre := pre) (x := x) (post := post) (by rw [← hLx]; exact HD.out.mp) (by rw [← hLx]; exact HD.out.so) (s := ⟨ss[k].toArray⟩) (by rw [encStr_list]; exact hz.symm) hsz
      clear hlk hsz hLx hz hsome hs hn
      generalize ss[k].toArray = S at *
      go_wp2
      go_roundw
      case rel => exact ⟨k + 1, hkl, by go_num, by trivial⟩
      case measure => simp [RowKit.intOf]; omega
    · obtain ⟨w0, rfl⟩ : ∃ w0, w0 = wr := ⟨_, rfl⟩
      go_wp2
      clear c0 hlt HS
      go_loopw [34] (fun v34 w2 => ∃ (k : Nat) (L' : List Fl), k ≤ ss.length ∧ v34 = .int .i64 (k : Int) ∧ Hid (DrvAt w2 p bm L' m ex own) ∧ Hid (L'.map pl = syncs (ss.take k) (L.map pl)) ∧ Hid (L'.length = L.length) ∧ Hid (Turn own w0 w2)) (fun v34 _ => ss.length - (RowKit.intOf v34).toNat)
      case atStart => exact ⟨0, L, by omega, rfl, HD, Lib.hid rfl, Lib.hid rfl, Lib.hid (Turn.refl _ _)⟩
      case round =>
        obtain ⟨j, L', hj, rfl, HD', HP', HL', HT'⟩ := hrel
        by_cases hjl : j < ss.length
        · have hv2 := HV.out.turn HT'.out
          obtain ⟨ad2, cap2, e2, hs2⟩ := hv2
          simp only [Value.slice.injEq] at e2
          obtain ⟨rfl, _, rfl⟩ := e2
          obtain ⟨b, o, rfl, hs, hn⟩ := hs2 (by omega)
          have ck := hs j hjl
          rw [encStr_val] at ck
          have hsz : (⟨ss[j].toArray⟩ : ByteArray).size ≤ maxLen := by rw [encStr_size]; exact HZ.out _ (List.getElem_mem hjl)
          have hsome : (lookP ss[j] (L'.map pl)).isSome = true := by rw [HP'.out, lookP_syncs]; exact HY.out _ (List.getElem_mem hjl)
          obtain ⟨⟨a, f⟩, hlk⟩ := Option.isSome_iff_exists.1 hsome
          obtain ⟨pre, x, post, rfl, hz, hxa, hxf⟩ := look_some hlk
          have hf := DrvAt.find1 HD'.out.mp HD'.out.so (s := ⟨ss[j].toArray⟩) (by rw [encStr_list]; exact hz.symm) hsz
          have c0 := HD'.out.cell0
          have hlt := HD'.out.hd.lt
          have hx := HD'.out.fl x (by simp)
          obtain ⟨A0, C0, hxv, _⟩ := hx.form
          have d0 := hx.cell0
          rw [hxv] at d0
          have hltx := hx.lt
          have HC := Lib.hid (settle_c p bm pre post x m ex own wr HD'.out x.a.length (Nat.le_refl _))
          have HN : Hid (∀ V, (pre ++ { x with v := V, a := x.a.take x.a.length, f := x.a.length } :: post).map pl = syncs (ss.take (j + 1)) (L.map pl)) := Lib.hid (fun V => by
            rw [List.take_succ_eq_append_getElem hjl, syncs_snoc, ← HP'.out]
            unfold syncP
            rw [hlk]
            have := updP_pl (x' := { x with v := V, a := x.a.take x.a.length, f := x.a.length }) HD'.out.so rfl
            rw [← this, ← hz, ← hxa]
            simp)
          have HO : Hid (own x.b ∧ own p) := Lib.hid ⟨hx.ob, HD'.out.op⟩
          have HLL : Hid (∀ V, (pre ++ { x with v := V, a := x.a.take x.a.length, f := x.a.length } :: post).length = L.length) := Lib.hid (fun V => by have := HL'.out; simpa using this)
          clear hlk hsz hz hsome hs hn hx hxv HD' HP' HL' hs2 hxa hxf
          generalize ss[j].toArray = S at *
          go_wp2_with fail
          refine HC.out.mono ?_
          rintro e w1 ⟨rfl, V, hD1, hT1⟩
          have HD1 := Lib.hid hD1
          have HT1 : Hid (Turn own w0 w1) := Lib.hid (HT'.out.trans (hT1.wide (fun i _ hi => hi.elim (fun e => e ▸ HO.out.2) (fun e => e ▸ HO.out.1))))
          clear hD1 hT1 HC
          go_wp2
          go_roundw
          case rel => exact ⟨j + 1, _, hjl, by go_num, HD1, Lib.hid (HN.out V), Lib.hid (HLL.out V), HT1⟩
          case measure => simp [RowKit.intOf]; omega
        · have hP := HP'.out
          rw [List.take_of_length_le (by omega)] at hP
          have HP2 := Lib.hid hP
          clear hP HP'
          go_wp2
          go_ret
          exact ⟨rfl, L', HD'.out, HP2.out, HL'.out, HT'.out⟩
end Go.Proofs.Ytmhmdnlkkpjdjaa

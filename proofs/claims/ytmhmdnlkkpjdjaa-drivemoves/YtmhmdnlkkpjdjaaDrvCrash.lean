/-
  Crash of a drive, by contract.
-/
import Derived.Test.YtmhmdnlkkpjdjaaDrvSync
import Derived.Laws.Cover1
namespace Go.Proofs.Ytmhmdnlkkpjdjaa
open Go.RowKit Go.Lib

theorem crash_step (k : Nat) (y : Pf) (r : List Pf) : crashP k (y :: r) = (y.1, y.2.1.take (y.2.2 + min k (y.2.1.length - y.2.2)), y.2.2 + min k (y.2.1.length - y.2.2)) :: crashP (k - min k (y.2.1.length - y.2.2)) r := rfl
def maxZ (s : Int) : Nat := s.toNat
theorem plP (x : Fl) : (pl x).1 = x.n ∧ (pl x).2.1 = x.a ∧ (pl x).2.2 = x.f := ⟨rfl, rfl, rfl⟩

set_option maxHeartbeats 8000000 in
theorem crash_c (p bm : Nat) (L : List Fl) (m ex : Nat) (own : Nat → Prop) (w : World) (h : DrvAt w p bm L m ex own) (stay : Int) (hst : stay ≤ 9223372036854775807) (hL : L.length ≤ 1000000) (hz : ∀ x ∈ L, x.n.length ≤ maxLen) :
    Calls Try.prog 13 #[.pointer (some ⟨p, 0, none⟩), .int .i64 stay] w fun e w' => e = .returned (.tuple #[]) ∧ ∃ L', DrvAt w' p bm L' m ex own ∧ L'.map pl = crashP stay.toNat (L.map pl) ∧ Turn own w w' := by
  have HNM := Lib.hid (names_c p bm L m ex own w h hL)
  obtain ⟨K, hK, hKm⟩ : ∃ K : Nat, stay.toNat = K ∧ max stay 0 = (K : Int) := ⟨stay.toNat, rfl, by omega⟩
  have hK' : K ≤ 9223372036854775807 := by omega
  rw [hK]
  have HD := Lib.hid h
  have HZ := Lib.hid hz
  have hup := Lib.hid h.up
  clear h hz hst hK
  go_enter Try.func13, Try.ntmps13
  go_wp2_with fail
  refine HNM.out.mono ?_
  rintro e w1 ⟨v, rfl, hrow, hb⟩
  have hsl : Sl w1 own v (L.map (·.n)) := Sl.ofRow hrow (fun g hg hn => by have := hup.out g hn; omega)
  rw [List.length_map] at hrow
  have HSL := Lib.hid hsl
  obtain ⟨ad, cap, rfl, hclr⟩ := hsl
  rw [List.length_map] at HSL ⊢
  have HD1 := Lib.hid (HD.out.below hb)
  have HT1 : Hid (Turn own w w1) := Lib.hid (Turn.ofBelow hb)
  clear hrow hb HNM HD hup hclr
  go_wp2
  clear hKm
  go_loopw [1, 15] (fun v1 v15 wr => ∃ (j k : Nat) (D : List Fl), j ≤ L.length ∧ v15 = .int .i64 (j : Int) ∧ v1 = .int .i64 (k : Int) ∧ k ≤ 9223372036854775807 ∧ Hid (DrvAt wr p bm (D ++ L.drop j) m ex own) ∧ Hid (D.map pl ++ crashP k ((L.drop j).map pl) = crashP K (L.map pl)) ∧ Hid (Turn own w1 wr)) (fun _ v15 _ => L.length - (RowKit.intOf v15).toNat)
  case atStart => exact ⟨0, K, [], by omega, rfl, rfl, hK', HD1, Lib.hid rfl, Lib.hid (Turn.refl _ _)⟩
  case round =>
    obtain ⟨j, k, D, hj, rfl, rfl, hk, HD2, HP, HT2⟩ := hrel
    by_cases hjl : j < L.length
    · have hd := HD2.out
      have hp := HP.out
      rw [List.drop_eq_getElem_cons hjl] at hd hp
      obtain ⟨ad2, cap2, e2, hs2⟩ := HSL.out.turn HT2.out
      rw [List.length_map] at hs2
      simp only [List.length_map, Value.slice.injEq] at e2
      obtain ⟨rfl, _, rfl⟩ := e2
      obtain ⟨b, o, rfl, hs, hn⟩ := hs2 (by omega)
      have ck := hs j (by rw [List.length_map]; exact hjl)
      rw [List.getElem_map, encStr_val] at ck
      have hsz : (⟨L[j].n.toArray⟩ : ByteArray).size ≤ maxLen := by rw [encStr_size]; exact HZ.out _ (List.getElem_mem hjl)
      have HJ := Lib.hid hjl
      generalize L[j] = x at hd hp ck hsz
      have hf := DrvAt.find1 hd.mp hd.so (s := ⟨x.n.toArray⟩) (by rw [encStr_list]) hsz
      have c0 := hd.cell0
      have hlt := hd.hd.lt
      have hx := hd.fl x (by simp)
      have HLO := Lib.hid (loose_c x wr own hx (hd.most (by simp)))
      have hle := hx.le
      have hmost := hd.most (x := x) (by simp)
      generalize hN : x.a.length - x.f = N at HLO
      obtain ⟨q, hq, hqm⟩ : ∃ q : Nat, min k N = q ∧ min (k : Int) (N : Int) = (q : Int) := ⟨min k N, rfl, by omega⟩
      have hqk : q ≤ k := by omega
      have hqN : x.f + q ≤ x.a.length := by omega
      have HST : Hid (∀ W, DrvAt W p bm (D ++ x :: L.drop (j + 1)) m ex own → Calls Try.prog 24 #[.pointer (some ⟨p, 0, none⟩), .pointer (some ⟨x.b, 0, none⟩), .int .i64 ((x.f : Int) + (q : Int))] W fun e w' => e = .returned (.tuple #[]) ∧ ∃ v', DrvAt w' p bm (D ++ { x with v := v', a := x.a.take (x.f + q), f := x.f + q } :: L.drop (j + 1)) m ex own ∧ Turn (fun i => i = p ∨ i = x.b) W w') := Lib.hid (fun W hW => by
        have hh := settle_c p bm D (L.drop (j + 1)) x m ex own W hW (x.f + q) hqN
        rw [Int.natCast_add] at hh
        exact hh)
      have HO : Hid (own x.b ∧ own p) := Lib.hid ⟨hx.ob, hd.op⟩
      have HP2 : Hid (∀ V, (D ++ [{ x with v := V, a := x.a.take (x.f + q), f := x.f + q }]).map pl ++ crashP (k - q) ((L.drop (j + 1)).map pl) = crashP K (L.map pl)) := Lib.hid (fun V => by
        rw [← hp, List.map_cons, crash_step, List.map_append, List.append_assoc]
        simp only [pl, hN, hq]
        rfl)
      have HD3 := Lib.hid hd
      have hwq : k - q ≤ 9223372036854775807 := by omega
      have hxf : x.f ≤ 1048576 := by omega
      have hqb : q ≤ 1048576 := by omega
      clear hd hp hs hn hsz hx HD2 HP hs2 hjl hmost hq hqN hN hle
      generalize x.n.toArray = S at *
      go_wp2_with fail
      refine HLO.out.mono ?_
      rintro e w2 ⟨rfl, b2⟩
      have HD4 := Lib.hid (HD3.out.below b2)
      have d1 := (HD4.out.fl x (by simp)).cell1
      have hltx := (HD4.out.fl x (by simp)).lt
      have HT4 : Hid (Turn own w1 w2) := Lib.hid (HT2.out.trans (Turn.ofBelow b2))
      clear b2 HD3 HT2
      go_wp2_with fail
      refine (HST.out w2 HD4.out).mono ?_
      rintro e w3 ⟨rfl, V, hD5, hT5⟩
      have HD5 : Hid (DrvAt w3 p bm ((D ++ [{ x with v := V, a := x.a.take (x.f + q), f := x.f + q }]) ++ L.drop (j + 1)) m ex own) := Lib.hid (by rw [List.append_assoc]; exact hD5)
      have HT5 : Hid (Turn own w1 w3) := Lib.hid (HT4.out.trans (hT5.wide (fun i _ hi => hi.elim (fun e => e ▸ HO.out.2) (fun e => e ▸ HO.out.1))))
      have HP3 := Lib.hid (HP2.out V)
      clear hD5 hT5 HP2 HD4 HT4 HST HLO d1 hltx hqm
      go_wp2
      go_roundw
      case rel => exact ⟨j + 1, k - q, _, HJ.out, by go_num, by rw [Int.ofNat_sub hqk], hwq, HD5, HP3, HT5⟩
      case measure => have := HJ.out; simp [RowKit.intOf]; omega
    · have hd := HD2.out
      have hp := HP.out
      rw [List.drop_eq_nil_of_le (by omega)] at hd hp
      rw [List.append_nil] at hd
      rw [List.map_nil, crashP, List.append_nil] at hp
      have HD3 := Lib.hid hd
      have HP3 := Lib.hid hp
      clear hd hp HD2 HP
      go_wp2
      go_end0
      exact ⟨rfl, D, HD3.out, HP3.out, HT1.out.trans HT2.out⟩
end Go.Proofs.Ytmhmdnlkkpjdjaa

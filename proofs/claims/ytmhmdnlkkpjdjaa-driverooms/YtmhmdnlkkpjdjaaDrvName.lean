/-
  maySign, mayName, by contract.
-/
import Derived.Test.YtmhmdnlkkpjdjaaDrvBase
namespace Go.Proofs.Ytmhmdnlkkpjdjaa
open Go.RowKit Go.Lib

def signB (c : Int) : Bool := (decide (97 ≤ c) && decide (c ≤ 122)) || (decide (48 ≤ c) && decide (c ≤ 57)) || (c == 46)
def nameB (l : List UInt8) : Bool := decide (1 ≤ l.length) && decide (l.length ≤ 20) && l.all (fun c => signB (c.toNat : Int))

set_option maxHeartbeats 4000000 in
theorem sign_c (c : Int) (w : World) : Calls Try.prog 30 #[.int .u8 c] w fun e w' => e = .returned (.bool (signB c)) ∧ w = w' := by
  unfold signB
  generalize h1 : decide (97 ≤ c) = b1
  generalize h2 : decide (c ≤ 122) = b2
  generalize h3 : decide (48 ≤ c) = b3
  generalize h4 : decide (c ≤ 57) = b4
  generalize h5 : (c == 46) = b5
  cases b1 <;> cases b2 <;> cases b3 <;> cases b4 <;> cases b5
  all_goals
    go_enter Try.func30, Try.ntmps30
    go_wp2
    go_ret
    exact ⟨rfl, rfl⟩

set_option maxHeartbeats 4000000 in
theorem name_c (s : ByteArray) (w : World) (hs : s.size ≤ maxLen) : Calls Try.prog 23 #[.string s] w fun e w' => e = .returned (.bool (nameB s.data.toList)) ∧ w = w' := by
  have hl : s.data.toList.length = s.size := Array.length_toList
  unfold maxLen at hs
  by_cases h1 : 1 ≤ s.size
  · have e1 : decide ((s.size : Int) < 1) = false := by simp; omega
    by_cases h2 : s.size ≤ 20
    · have e2 : decide ((20 : Int) < (s.size : Int)) = false := by simp; omega
      have HN : Hid (nameB s.data.toList = s.data.toList.all (fun c => signB (c.toNat : Int))) := Lib.hid (by
        unfold nameB
        rw [hl]
        simp [h1, h2])
      have HL := Lib.hid hl
      clear hl
      generalize hR : nameB s.data.toList = R at HN ⊢
      clear hR
      go_enter Try.func23, Try.ntmps23
      go_wp2
      go_loopw [14] (fun v14 wr => ∃ k : Nat, k ≤ s.size ∧ v14 = .int .i64 (k : Int) ∧ wr = w ∧ Hid (R = (s.data.toList.drop k).all (fun c => signB (c.toNat : Int)))) (fun v14 _ => s.size - (RowKit.intOf v14).toNat)
      case atStart => exact ⟨0, by omega, rfl, rfl, Lib.hid (by rw [List.drop_zero]; exact HN.out)⟩
      case round =>
        obtain ⟨k, hk, rfl, rfl, HK⟩ := hrel
        by_cases hp : k < s.size
        · have hp' : k < s.data.toList.length := by rw [HL.out]; exact hp
          have hK := HK.out
          rw [List.drop_eq_getElem_cons hp', List.all_cons] at hK
          have hb : s.data.toList[k] = s[k] := rfl
          rw [hb] at hK
          have HC := Lib.hid (fun W => sign_c ((s[k].toNat : Nat) : Int) W)
          generalize signB ((s[k].toNat : Nat) : Int) = b at hK HC
          cases b
          · rw [Bool.false_and] at hK
            subst hK
            go_wp2_with fail
            refine (HC.out _).mono ?_
            rintro e w1 ⟨rfl, rfl⟩
            go_wp2
            go_ret
            exact ⟨rfl, rfl⟩
          · rw [Bool.true_and] at hK
            have HK2 := Lib.hid hK
            clear hK HK
            go_wp2_with fail
            refine (HC.out _).mono ?_
            rintro e w1 ⟨rfl, rfl⟩
            go_wp2
            go_roundw
            case rel => exact ⟨k + 1, hp, by go_num, trivial, HK2⟩
            case measure => simp [RowKit.intOf]; omega
        · have hK := HK.out
          rw [List.drop_eq_nil_of_le (by rw [HL.out]; omega), List.all_nil] at hK
          subst hK
          go_wp2
          go_ret
          exact ⟨rfl, rfl⟩
    · have e2 : decide ((20 : Int) < (s.size : Int)) = true := by simp; omega
      have e3 : nameB s.data.toList = false := by unfold nameB; rw [hl]; simp [h2]
      rw [e3]
      go_enter Try.func23, Try.ntmps23
      go_wp2
      go_ret
      exact ⟨rfl, rfl⟩
  · have e1 : decide ((s.size : Int) < 1) = true := by simp; omega
    have e3 : nameB s.data.toList = false := by unfold nameB; rw [hl]; simp [h1]
    rw [e3]
    go_enter Try.func23, Try.ntmps23
    go_wp2
    go_ret
    exact ⟨rfl, rfl⟩
end Go.Proofs.Ytmhmdnlkkpjdjaa

/-
  Chapter 1's own answer (grapevineref1): runes, Norm, One, Of, by contract.
-/
import Derived.Test.YteemedepmefkbaaDoorTokOf
import Derived.Laws.Cover4
import Derived.Laws.IdiomStrings
namespace Go.Proofs.YteemedepmefkbaaDoor
open Go.RowKit Go.Shelf Go.Lib Go.Proofs.GvTok

theorem encode_eq (r : Int) : (Utf8.encode r).data.toList = encodeRune r := by
  unfold Utf8.encode encodeRune Utf8.valid Utf8.runeError
  dsimp only
  by_cases hv : (0 ≤ r ∧ r < 55296) ∨ (57344 ≤ r ∧ r ≤ 1114111)
  · have hb : (decide (0 ≤ r) && decide (r < 55296) || decide (57344 ≤ r) && decide (r ≤ 1114111)) = true := by simpa using hv
    rw [if_pos hb]
    by_cases h1 : r ≤ 127
    · rw [if_pos (by omega), encodeRuneZ_one (by omega) h1]
      simp
    · rw [if_neg (by omega)]
      by_cases h2 : r ≤ 2047
      · rw [if_pos (by omega), encodeRuneZ_two (by omega) h2]
        simp only [List.map_cons, List.map_nil]
        rw [show (192 + r / 64).toNat = 192 + r.toNat / 64 from by omega, show (128 + r % 64).toNat = 128 + r.toNat % 64 from by omega]
      · rw [if_neg (by omega)]
        by_cases h3 : r ≤ 65535
        · rw [if_pos (by omega), encodeRuneZ_three (by omega)]
          simp only [List.map_cons, List.map_nil]
          rw [show (224 + r / 4096).toNat = 224 + r.toNat / 4096 from by omega, show (128 + r / 64 % 64).toNat = 128 + r.toNat / 64 % 64 from by omega, show (128 + r % 64).toNat = 128 + r.toNat % 64 from by omega]
        · rw [if_neg (by omega), encodeRuneZ_four (by omega) (by omega)]
          simp only [List.map_cons, List.map_nil]
          rw [show (240 + r / 262144).toNat = 240 + r.toNat / 262144 from by omega, show (128 + r / 4096 % 64).toNat = 128 + r.toNat / 4096 % 64 from by omega, show (128 + r / 64 % 64).toNat = 128 + r.toNat / 64 % 64 from by omega, show (128 + r % 64).toNat = 128 + r.toNat % 64 from by omega]
  · have hb : ¬ ((decide (0 ≤ r) && decide (r < 55296) || decide (57344 ≤ r) && decide (r ≤ 1114111)) = true) := by simpa using hv
    rw [if_neg hb, encodeRuneZ_bad (by omega)]
    decide

theorem foldl_runes (zs : List Int) : ∀ s : ByteArray, (zs.foldl (fun r n => r ++ Utf8.encode n) s).data.toList = s.data.toList ++ zs.flatMap encodeRune := by
  induction zs with
  | nil => intro s; simp
  | cons z t ih =>
    intro s
    rw [List.foldl_cons, ih, List.flatMap_cons, ByteArray.data_append, Array.toList_append, encode_eq, List.append_assoc]
theorem runesBytes_eq (zs : List Int) : runesBytes zs = ⟨(zs.flatMap encodeRune).toArray⟩ := by
  have h := foldl_runes zs ByteArray.empty
  have h2 : (runesBytes zs).data.toList = zs.flatMap encodeRune := by unfold runesBytes; rw [h]; rfl
  have : runesBytes zs = ⟨(runesBytes zs).data⟩ := rfl
  rw [this, ← h2]

theorem runesFrom_enc (rs : List Nat) (s : ByteArray) (ho : Ok rs) (he : s.data.toList = enc rs) : ∀ (f k : Nat) (acc : Array Value), k ≤ rs.length → rs.length ≤ k + f →
    Conv.runesFrom s f (plen rs k) acc = acc ++ ((rs.drop k).map fun r : Nat => Value.int .i32 (r : Int)).toArray := by
  have hz : s.size = (enc rs).length := by rw [← he, ← Lib.size_eq]
  intro f
  induction f with
  | zero =>
    intro k acc hk hf
    have : k = rs.length := by omega
    subst this
    simp [Conv.runesFrom]
  | succ f ih =>
    intro k acc hk hf
    unfold Conv.runesFrom
    by_cases hp : k < rs.length
    · rw [if_pos (by rw [hz]; exact plen_lt rs k hp)]
      have hd : Utf8.decode s (plen rs k) = (rs[k], (encN rs[k]).length) := by rw [← decodeL_drop, he, decode_at_k rs ho k hp]
      simp only [hd]
      rw [← plen_succ rs k hp, ih (k + 1) _ hp (by omega), List.drop_eq_getElem_cons hp, List.map_cons]
      simp only [Array.push_eq_append, Array.append_assoc, List.append_toArray, List.cons_append, List.nil_append]
      rfl
    · have : k = rs.length := by omega
      subst this
      rw [if_neg (by rw [plen_all, hz]; omega)]
      simp

def zcells (zs : List Int) : List Value := zs.map (Value.int .i32)
/-- The int32s zs stand in v, in a row of the call's own from block B on. -/
def RunesAt (w : World) (B : Nat) (v : Value) (zs : List Int) : Prop := w.ownsRow B 21 1 v zs.length (zcells zs)
def nz (rs : List Nat) : List Int := rs.map fun r : Nat => (r : Int)
theorem nz_length (rs : List Nat) : (nz rs).length = rs.length := by simp [nz]

set_option maxHeartbeats 1000000 in
theorem refrunes_bad (s : ByteArray) (w : World) (hs : s.size ≤ 9223372036854775807) (hT : Tabs w) (hv : validD s.data.toList = false) :
    Calls Tryd.prog 21 #[.string s] w fun e w' => e = .returned (.slice none 0 0) ∧ Below w.heap.size w w' := by
  have cV := valid_c s w hs hT
  rw [hv] at cV
  clear hv
  go_enter Tryd.func21, Tryd.ntmps21
  go_wp2_with (go_at_call 18; refine cV.mono ?_; rintro e w' ⟨rfl, hb⟩)
  go_ret
  exact ⟨rfl, hb⟩

set_option maxHeartbeats 1000000 in
theorem refrunes_ok (rs : List Nat) (s : ByteArray) (w : World) (ho : Ok rs) (he : s.data.toList = enc rs) (hs : s.size ≤ 1099511627776) (hT : Tabs w) :
    Calls Tryd.prog 21 #[.string s] w fun e w' => ∃ g cap, e = .returned (.slice (some ⟨g, 0, none⟩) rs.length cap) ∧ w.heap.size ≤ g ∧ RunesAt w' w.heap.size (.slice (some ⟨g, 0, none⟩) rs.length cap) (nz rs) ∧ Below w.heap.size w w' := by
  have cV := valid_c s w (by omega) hT
  rw [he, valid_enc rs ho] at cV
  have hn : rs.length ≤ s.size := by have := enc_le rs; rw [Lib.size_eq, he]; exact this
  have hrf : Conv.runesFrom s s.size 0 #[] = (zcells (nz rs)).toArray := by
    have := runesFrom_enc rs s ho he s.size 0 #[] (by omega) (by omega)
    rw [plen_zero] at this
    rw [this]
    simp [zcells, nz, Function.comp_def]
  have hlen : (zcells (nz rs)).toArray.size = rs.length := by simp [zcells, nz]
  have hcv : ∀ W : World, (convert 9 36 (.string s)).run Tryd.prog W = _ := fun W => run_runes_of_string W 9 36 21 s Tryd.underlying9 Tryd.underlying36 Tryd.underlying21 (by rw [hrf, hlen]; omega)
  simp only [hrf, hlen] at hcv
  have HL := Lib.hid hlen
  clear hrf he hlen
  go_enter Tryd.func21, Tryd.ntmps21
  go_wp2_with (go_at_call 18; refine cV.mono ?_; rintro e w1 ⟨rfl, hb⟩)
  generalize hcap : grownCap w1 rs.length 0 21 = cap
  have hc1 : rs.length ≤ cap := by rw [← hcap]; exact grownCap_ge _ _ _ _
  have hc2 : cap ≤ maxLen := by rw [← hcap]; exact grownCap_le_maxLen _ _ _ _ (by unfold maxLen; omega)
  clear hcap hcv
  go_ret
  refine ⟨w1.heap.size, cap, rfl, hb.size, ?_, (hb.alloc hb.size _).drew⟩
  refine ⟨by simp [zcells, nz], .inr ⟨w1.heap.size, cap, _, by rw [nz_length], hb.size, heap_alloc_new w1 _, by rw [nz_length]; exact hc1, hc2, ?_, ?_⟩⟩
  · rw [Array.size_append, HL.out, Array.size_replicate]
    omega
  · have hl2 : (zcells (nz rs)).length = rs.length := by simp [zcells, nz]
    rw [nz_length, Array.toList_append]
    show List.take (rs.length * 1) (zcells (nz rs) ++ _) = _
    rw [List.take_append_of_le_length (by omega), List.take_of_length_le (by omega)]

theorem RunesAt.below {w w' : World} {B : Nat} {v : Value} {zs : List Int} (h : RunesAt w B v zs) (hb : Below w.heap.size w w') : RunesAt w' B v zs := own_below h hb
theorem RunesAt.cell {w : World} {B g cap : Nat} {zs : List Int} {n : Nat} (h : RunesAt w B (.slice (some ⟨g, 0, none⟩) n cap) zs) (hn : zs.length = n) (k : Nat) (hk : k < zs.length) : w.cell? ⟨g, k, none⟩ = some (.int .i32 zs[k]) := by
  subst hn
  have h1 := World.ownsRow.cellAt h k (by omega)
  rw [h1, zcells, List.getElem?_map, List.getElem?_eq_getElem hk]
  rfl
theorem RunesAt.frozen {w : World} {B g cap : Nat} {zs : List Int} {n : Nat} (h : RunesAt w B (.slice (some ⟨g, 0, none⟩) n cap) zs) (hn : zs.length = n) (k : Nat) : w.frozen? ⟨g, k, none⟩ = false := by
  subst hn
  exact World.ownsRow.frozenAt h k
theorem add0 (g j : Nat) : (⟨g, 0, none⟩ : Addr).add j = ⟨g, j, none⟩ := by
  unfold Addr.add
  split
  · simp_all
  · simp
theorem RunesAt.set {w : World} {B g cap : Nat} {zs : List Int} {n : Nat} (h : RunesAt w B (.slice (some ⟨g, 0, none⟩) n cap) zs) (hn : zs.length = n) (k : Nat) (z : Int) :
    RunesAt (w.setCell ⟨g, k, none⟩ (.int .i32 z)) B (.slice (some ⟨g, 0, none⟩) n cap) (zs.set k z) := by
  subst hn
  have h1 := (World.ownsRow.stored h k (.int .i32 z)).1
  unfold RunesAt
  rw [List.length_set]
  have e : zcells (zs.set k z) = (zcells zs).set k (.int .i32 z) := by unfold zcells; rw [List.map_set]
  rw [e]
  exact h1

def lowz (rs : List Nat) : List Int := rs.map fun r : Nat => toLowerU (r : Int)
theorem lowz_enc (rs : List Nat) : (lowz rs).flatMap encodeRune = low rs := by unfold lowz low; rw [List.flatMap_map]

theorem midz (rs : List Nat) (k : Nat) (hk : k < rs.length) : (lowz (rs.take k) ++ nz (rs.drop k)).set k (toLowerU ((rs[k] : Nat) : Int)) = lowz (rs.take (k + 1)) ++ nz (rs.drop (k + 1)) := by
  have hl : (lowz (rs.take k)).length = k := by simp [lowz]; omega
  rw [List.drop_eq_getElem_cons hk, List.take_succ_eq_append_getElem hk, List.set_append_right _ _ (by omega), hl, Nat.sub_self]
  simp only [nz, List.map_cons, List.set_cons_zero, lowz, List.map_append, List.map_nil, List.append_assoc, List.cons_append, List.nil_append]
theorem midz_at (rs : List Nat) (k : Nat) (hk : k < rs.length) (h : k < (lowz (rs.take k) ++ nz (rs.drop k)).length) : (lowz (rs.take k) ++ nz (rs.drop k))[k] = ((rs[k] : Nat) : Int) := by
  have hl : (lowz (rs.take k)).length = k := by simp [lowz]; omega
  rw [List.getElem_append_right (by omega)]
  simp [hl, nz]
theorem midz_length (rs : List Nat) (k : Nat) (hk : k ≤ rs.length) : (lowz (rs.take k) ++ nz (rs.drop k)).length = rs.length := by
  simp [lowz, nz]; omega

set_option maxHeartbeats 1000000 in
theorem refnorm_bad (s : ByteArray) (w : World) (hs : s.size ≤ 9223372036854775807) (hT : Tabs w) (hv : validD s.data.toList = false) :
    Calls Tryd.prog 13 #[.string s] w fun e w' => e = .returned (.string ⟨#[]⟩) ∧ Below w.heap.size w w' := by
  have cV := refrunes_bad s w hs hT hv
  have hcv : ∀ W : World, (convert 36 9 (.slice none 0 0)).run Tryd.prog W = .ok (.string .empty) W := fun W => run_convert_runes_nil W 36 9 21 0 0 Tryd.underlying36 Tryd.underlying21 Tryd.underlying9
  clear hv
  go_enter Tryd.func13, Tryd.ntmps13
  go_wp2_with (go_at_call 21; refine cV.mono ?_; rintro e w1 ⟨rfl, hb⟩)
  go_loopw [4] (fun v4 wr => v4 = .int .i64 0 ∧ wr = w1) (fun _ _ => 0)
  case atStart => exact ⟨rfl, rfl⟩
  case round =>
    obtain ⟨rfl, rfl⟩ := hrel
    go_wp2
    go_ret
    exact ⟨rfl, hb⟩

set_option maxHeartbeats 4000000 in
set_option maxRecDepth 1000000 in
theorem refnorm_ok (rs : List Nat) (s : ByteArray) (w : World) (ho : Ok rs) (he : s.data.toList = enc rs) (hs : s.size ≤ 1099511627776) (hT : Tabs w) :
    Calls Tryd.prog 13 #[.string s] w fun e w' => e = .returned (.string ⟨(low rs).toArray⟩) ∧ Below w.heap.size w w' := by
  have cV := refrunes_ok rs s w ho he hs hT
  have hn : rs.length ≤ 1099511627776 := by have := enc_le rs; rw [Lib.size_eq, he] at hs; omega
  clear he
  go_enter Tryd.func13, Tryd.ntmps13
  go_wp2_with (go_at_call 21; refine cV.mono ?_; rintro e w0 ⟨g, cap, rfl, hg, hR0, hb0⟩)
  have hT0 := hT.below hb0
  have hgl : g < w0.heap.size := (World.ownsRow.lt hR0 g rfl).2
  go_loopw [4] (fun v4 wr => ∃ k : Nat, k ≤ rs.length ∧ v4 = .int .i64 (k : Int) ∧ RunesAt wr w.heap.size (.slice (some ⟨g, 0, none⟩) rs.length cap) (lowz (rs.take k) ++ nz (rs.drop k)) ∧ Below w.heap.size w wr) (fun v4 _ => rs.length - (intOf v4).toNat)
  case atStart => exact ⟨0, by omega, rfl, by simpa [lowz] using hR0, hb0⟩
  case round =>
    obtain ⟨k, hk, rfl, hR, hbw⟩ := hrel
    have hml := midz_length rs k hk
    by_cases hp : k < rs.length
    · have hc : wr.cell? ⟨g, k, none⟩ = some (.int .i32 ((rs[k] : Nat) : Int)) := by rw [hR.cell hml k (by omega), midz_at rs k hp]
      have hfz : wr.frozen? ⟨g, k, none⟩ = false := hR.frozen hml k
      have cL := toLower_c ((rs[k] : Nat) : Int) wr (hT.below hbw)
      have HM := Lib.hid (midz rs k hp)
      generalize toLowerU ((rs[k] : Nat) : Int) = R at cL HM
      have hR2 := hR.set hml k R
      rw [HM.out] at hR2
      have hb2 := hbw.setCell (p := ⟨g, k, none⟩) hg (.int .i32 R)
      clear hml
      go_wp2_with (go_at_call 24; refine cL.mono ?_; rintro e W1 ⟨rfl, q, rfl⟩)
      go_roundw
      case rel => exact ⟨k + 1, hp, by go_num, hR2, below_drewN hb2 q⟩
      case measure => simp [intOf]; omega
    · have hkk : k = rs.length := by omega
      subst hkk
      have hcv : ∀ W : World, (∀ p, W.cell? p = wr.cell? p) → (convert 36 9 (.slice (some ⟨g, 0, none⟩) rs.length cap)).run Tryd.prog W = .ok (.string ⟨(low rs).toArray⟩) W := fun W hW => by
        have h := run_convert_runes W 36 9 21 ⟨g, 0, none⟩ rs.length cap (lowz rs) (by simp [lowz]) Tryd.underlying36 Tryd.underlying21 Tryd.underlying9 (by
          intro j hj
          rw [hW]
          have e : lowz (rs.take rs.length) ++ nz (rs.drop rs.length) = lowz rs := by simp [nz]
          rw [e] at hR
          have hll : (lowz rs).length = rs.length := by simp [lowz]
          have := hR.cell hll j hj
          rw [add0, this]
          simp [List.getD, List.getElem?_eq_getElem hj])
        rw [h, List.take_of_length_le (by simp [lowz]), runesBytes_eq, lowz_enc]
      have hcw := hcv wr (fun _ => rfl)
      clear hcv hml
      go_wp2
      go_ret
      exact ⟨rfl, hbw⟩

end Go.Proofs.YteemedepmefkbaaDoor

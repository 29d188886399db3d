/-
  TokensJoin, as a call: it answers true, whatever it is given.
-/
import Derived.Test.YteemedepmefkbaaDoorTokLaws
import Derived.Deep.DeepCutAuto
namespace Go.Proofs.YteemedepmefkbaaDoor
open Go.RowKit Go.Shelf Go.Lib Go.Proofs.GvTok

set_option maxHeartbeats 1000000 in
theorem low6_c (x : Int) (w : World) :
    Calls Tryd.prog 17 #[.int .i64 x, .int .i64 6] w fun e w' => ∃ j : Nat, j < 6 ∧ e = .returned (.int .i64 (j : Int)) ∧ w = w' := by
  go_enter Tryd.func17, Tryd.ntmps17
  go_wp2
  go_ret
  have h0 : 0 ≤ IntKind.u64.wrap x ∧ IntKind.u64.wrap x < 18446744073709551616 := by
    rw [IntKind.wrap_u64]
    omega
  generalize IntKind.u64.wrap x = y at h0
  have h1 : 0 ≤ y.tmod 6 ∧ y.tmod 6 < 6 := ⟨Int.tmod_nonneg _ h0.1, Int.tmod_lt_of_pos _ (by omega)⟩
  generalize y.tmod 6 = z at h1
  refine ⟨z.toNat, by omega, ?_, rfl⟩
  rw [show ((z.toNat : Nat) : Int) = z from by omega]
  show Ending.returned (.int .i64 (wrap64 z)) = _
  rw [show wrap64 z = z from by unfold wrap64; omega]

def SignIs (v : Value) : Prop := ∃ g : Nat, okRune g ∧ letter g = false ∧ v = .string ⟨(enc [g]).toArray⟩ ∧ (enc [g]).length ≤ 4
theorem signs_ok : letter 32 = false ∧ letter 45 = false ∧ letter 46 = false ∧ letter 10 = false ∧ letter 8364 = false ∧ letter 95 = false := by decide +kernel
theorem sign_at (j : Nat) (hj : j < 6) : ∃ v, (#[.string ⟨#[32]⟩, .string ⟨#[45]⟩, .string ⟨#[46]⟩, .string ⟨#[10]⟩, .string ⟨#[226, 130, 172]⟩, .string ⟨#[95]⟩] : Array Value)[j]? = some v ∧ SignIs v := by
  obtain ⟨h0, h1, h2, h3, h4, h5⟩ := signs_ok
  match j, hj with
  | 0, _ => exact ⟨_, rfl, 32, .inl (by decide), h0, by kernel_rfl, by decide +kernel⟩
  | 1, _ => exact ⟨_, rfl, 45, .inl (by decide), h1, by kernel_rfl, by decide +kernel⟩
  | 2, _ => exact ⟨_, rfl, 46, .inl (by decide), h2, by kernel_rfl, by decide +kernel⟩
  | 3, _ => exact ⟨_, rfl, 10, .inl (by decide), h3, by kernel_rfl, by decide +kernel⟩
  | 4, _ => exact ⟨_, rfl, 8364, .inl (by decide), h4, by kernel_rfl, by decide +kernel⟩
  | 5, _ => exact ⟨_, rfl, 95, .inl (by decide), h5, by kernel_rfl, by decide +kernel⟩

set_option maxHeartbeats 4000000 in
set_option maxRecDepth 1000000 in
theorem join_c (a b : ByteArray) (x : Int) (w : World) (ha : a.size ≤ 140737488355328) (hb : b.size ≤ 140737488355328) (hT : Tabs w) :
    Calls Tryd.prog 4 #[.string a, .string b, .int .i64 x] w fun e w' => e = .returned (.bool true) ∧ Below w.heap.size w w' := by
  go_enter Tryd.func4, Tryd.ntmps4
  go_upto_region 1 with fail
  go_cut [7] (fun v7 wx => SignIs v7 ∧ Below w.heap.size w wx)
  case first =>
    go_wp2_with fail
    refine (low6_c x _).mono ?_
    rintro e w1 ⟨j, hj, rfl, rfl⟩
    obtain ⟨v, hv, hS⟩ := sign_at j hj
    have hc : (w.alloc (.cells #[.string ⟨#[32]⟩, .string ⟨#[45]⟩, .string ⟨#[46]⟩, .string ⟨#[10]⟩, .string ⟨#[226, 130, 172]⟩, .string ⟨#[95]⟩] 9)).cell? ⟨w.heap.size, j, none⟩ = some v := by
      rw [cell_of_row _ w.heap.size j _ _ _ (heap_alloc_new w _)]; exact hv
    obtain ⟨g, hg1, hg2, rfl, hg3⟩ := hS
    go_wp2
    go_meet
    exact ⟨⟨g, hg1, hg2, rfl, hg3⟩, (Below.refl _ _).alloc (Nat.le_refl _) _⟩
  case rest =>

    obtain ⟨⟨g, hg1, hg2, rfl, hg3⟩, b1⟩ := hcut
    have hT1 := hT.below b1
    obtain ⟨G, hG⟩ : ∃ G : ByteArray, G = ⟨(enc [g]).toArray⟩ := ⟨_, rfl⟩
    have hGl : G.data.toList = enc [g] := by rw [hG]
    have hGs : G.size ≤ 4 := by rw [Lib.size_eq, hGl]; exact hg3
    rw [← hG]
    clear hG
    have HGL := Lib.hid hGl
    clear hGl
    have cA := fun W (h : Below w.heap.size w W) => awake_c W (hT.below h)
    have HCA := Lib.hid cA
    clear cA
    by_cases hlen : a.size + G.size + b.size ≤ 120
    · have hz : ¬ ((120 : Int) < (a.size : Int) + (G.size : Int) + (b.size : Int)) := by omega
      have cV1 := valid_c a wc (by omega) hT1
      have cV2 := fun W (h : Below w.heap.size w W) => valid_c b W (by omega) (hT.below h)
      cases hva : validD a.data.toList <;> rw [hva] at cV1
      · clear hva cV2
        go_wp2_with fail
        refine cV1.mono ?_
        rintro e w2 ⟨rfl, b2⟩
        have b2' := b1.trans (b2.mono b1.size)
        go_wp2_with fail
        refine (HCA.out _ b2').mono ?_
        rintro e w3 ⟨rfl, b3⟩
        go_wp2
        go_ret
        exact ⟨rfl, b2'.trans (b3.mono b2'.size)⟩
      · cases hvb : validD b.data.toList <;> simp only [hvb] at cV2
        · have HV2 := Lib.hid cV2
          clear hva hvb cV2
          go_wp2_with fail
          refine cV1.mono ?_
          rintro e w2 ⟨rfl, b2⟩
          have b2' := b1.trans (b2.mono b1.size)
          go_wp2_with fail
          refine (HV2.out _ b2').mono ?_
          rintro e w3 ⟨rfl, b3⟩
          have b3' := b2'.trans (b3.mono b2'.size)
          go_wp2_with fail
          refine (HCA.out _ b3').mono ?_
          rintro e w4 ⟨rfl, b4⟩
          go_wp2
          go_ret
          exact ⟨rfl, b3'.trans (b4.mono b3'.size)⟩
        · obtain ⟨ra, hra, hea⟩ := valid_split _ hva
          obtain ⟨rb, hrb, heb⟩ := valid_split _ hvb
          have HEA := Lib.hid hea
          have HEB := Lib.hid heb
          have hbo : Ok (ra ++ g :: rb) := hra.append (fun y hy => by
            rcases List.mem_cons.1 hy with rfl | h
            · exact hg1
            · exact hrb y h)
          have hbe : (a ++ G ++ b).data.toList = enc (ra ++ g :: rb) := by
            rw [ByteArray.data_append, ByteArray.data_append, Array.toList_append, Array.toList_append, HGL.out, ← hea, ← heb, enc_append, enc_cons]
            simp [enc]
          have hbs : (a ++ G ++ b).size ≤ 120 := by rw [ByteArray.size_append, ByteArray.size_append]; exact hlen
          have hww : words (ra ++ g :: rb) = words ra ++ words rb := by
            unfold words
            rw [runs_join g hg2 ra [] rb, List.map_append]
          have hlw : ∀ (r : List Nat) (t : ByteArray), enc r = t.data.toList → t.size ≤ 120 → (words r).length ≤ 120 := by
            intro r t ht hs
            have h1 := runs_length r []
            have h4 := enc_le r
            rw [ht, ← Lib.size_eq] at h4
            simp [words] at h1 ⊢
            omega
          have hxl := hlw ra a hea (by omega)
          have hyl := hlw rb b heb (by omega)
          have HV2 := Lib.hid cV2
          have HBE := Lib.hid hbe
          have HWW := Lib.hid hww
          clear hva hvb cV2 hea heb hbe hww hlw
          go_wp2_with fail
          refine cV1.mono ?_
          rintro e w2 ⟨rfl, b2⟩
          have b2' := b1.trans (b2.mono b1.size)
          go_wp2_with fail
          refine (HV2.out _ b2').mono ?_
          rintro e w3 ⟨rfl, b3⟩
          have b3' := b2'.trans (b3.mono b2'.size)
          go_wp2_with fail
          refine (of_ok ra a w3 hra HEA.out.symm (by omega) (hT.below b3')).mono ?_
          rintro e w4 ⟨vx, rfl, hX, b4⟩
          have b4' := b3'.trans (b4.mono b3'.size)
          go_wp2_with fail
          refine (of_ok rb b w4 hrb HEB.out.symm (by omega) (hT.below b4')).mono ?_
          rintro e w5 ⟨vy, rfl, hY, b5⟩
          have b5' := b4'.trans (b5.mono b4'.size)
          go_wp2_with fail
          refine (of_ok (ra ++ g :: rb) (a ++ G ++ b) w5 hbo HBE.out hbs (hT.below b5')).mono ?_
          rintro e w6 ⟨vz, rfl, hZ, b6⟩
          have b6' := b5'.trans (b6.mono b5'.size)
          obtain ⟨adx, capx, rfl, hXR⟩ := ((hX.below b5).below b6).reads
          obtain ⟨ady, capy, rfl, hYR⟩ := (hY.below b6).reads
          rw [HWW.out] at hZ
          obtain ⟨adz, capz, rfl, hZR⟩ := hZ.reads
          rw [List.length_append]
          have HX := Lib.hid hXR
          have HY := Lib.hid hYR
          have HZ := Lib.hid hZR
          clear hX hY hZ hXR hYR hZR
          generalize words ra = X at HX HZ hxl HWW
          generalize words rb = Y at HY HZ hyl HWW
          clear HWW HV2 HBE
          go_wp2_with fail
          go_loopw [12] (fun v12 wr => ∃ k : Nat, k ≤ X.length + Y.length ∧ v12 = .int .i64 (k : Int) ∧ wr = w6) (fun v12 _ => X.length + Y.length - (intOf v12).toNat)
          case atStart => exact ⟨0, by omega, rfl, rfl⟩
          case round =>
            obtain ⟨k, hk, rfl, rfl⟩ := hrel
            by_cases hp : k < X.length + Y.length
            · obtain ⟨gz, rfl, hcz⟩ := HZ.out (by rw [List.length_append]; omega)
              by_cases hkx : k < X.length
              · obtain ⟨gx, rfl, hcx⟩ := HX.out (by omega)
                have c1 := (hcx k hkx).1
                obtain ⟨c2, c3⟩ := hcz k (by rw [List.length_append]; omega)
                rw [List.getElem_append_left hkx] at c2
                clear hcx hcz HX HY HZ
                generalize X[k] = T at c1 c2
                go_wp2
                exact ⟨⟨k + 1, by omega, by go_num, trivial⟩, by simp [intOf]; omega⟩
              · obtain ⟨m, rfl⟩ : ∃ m, k = X.length + m := ⟨k - X.length, by omega⟩
                obtain ⟨gy, rfl, hcy⟩ := HY.out (by omega)
                have c1 := (hcy m (by omega)).1
                obtain ⟨c2, c3⟩ := hcz (X.length + m) (by rw [List.length_append]; omega)
                rw [List.getElem_append_right (by omega)] at c2
                simp only [Nat.add_sub_cancel_left] at c2
                clear hcy hcz HX HY HZ
                generalize Y[m]'(by omega) = T at c1 c2
                go_wp2
                exact ⟨⟨X.length + m + 1, by omega, by go_num, trivial⟩, by simp [intOf]; omega⟩
            · have hkk : k = X.length + Y.length := by omega
              subst hkk
              go_wp2_with fail
              refine (HCA.out _ b6').mono ?_
              rintro e w7 ⟨rfl, b7⟩
              go_wp2
              go_ret
              exact ⟨rfl, b6'.trans (b7.mono b6'.size)⟩
    · have hz : (120 : Int) < (a.size : Int) + (G.size : Int) + (b.size : Int) := by omega
      go_wp2_with fail
      refine (HCA.out _ b1).mono ?_
      rintro e w2 ⟨rfl, b2⟩
      go_wp2
      go_ret
      exact ⟨rfl, b1.trans (b2.mono b1.size)⟩

end Go.Proofs.YteemedepmefkbaaDoor

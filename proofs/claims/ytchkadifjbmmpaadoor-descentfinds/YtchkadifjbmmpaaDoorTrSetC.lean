/-
  set of package tree, by contract.
-/
import Derived.Test.YtchkadifjbmmpaaDoorTrSet
import Derived.WalkKit
import Derived.WalkMore
import Derived.BigRegion
import Derived.Deep.RegionHeld3
namespace Go.Proofs.YtchkadifjbmmpaaDoor
open Go.RowKit Go.Lib Go.Maps
set_option maxRecDepth 100000
set_option linter.unusedSimpArgs false

theorem take_ok {P : Program} {ops : Array Oper} {Q : Exit → Act → World → Prop} {md : Region.Mode} {S : World → Prop} {i : Nat} {oi : Oper} {d : Nat} {v : Value} {fuel : Nat} {listed : Array Bool} {a : Act} {w : World} (hi : ops[i]? = some oi) (hd : oi.dst = some d)
    (hs : Region.noSelect ops = true) (hf : Region.free md ops listed i = true) (hr : (Region.ready md ops listed).contains i = true)
    (hQ : ∀ c a w, Q (.panic c) (a.put oi.dst v) w → Q (.panic c) a w) (hy : YieldsIf P ops S oi v a) (hS : S w)
    (h : wpAnyH P md ops Q S fuel (listed.setIfInBounds i true) (a.put (some d) v) w) : wpAnyH P md ops Q S (fuel + 1) listed a w :=
  wpAnyH_take hi hs hf hr hQ hy hS (by rw [hd]; exact h)

theorem updF_row (F : Nat → Nat → Int) (o c : Nat) (d : Int) : updF F o c d o = upd1 (F o) c d := by
  funext x
  unfold updF upd1
  by_cases h : x = c
  · rw [if_pos ⟨rfl, h⟩, if_pos h]
  · rw [if_neg (fun e => h e.2), if_neg h]
/-- What set leaves. -/
structure SetIn (F F' : Nat → Nat → Int) (o n : Nat) (d : Int) : Prop where
  far : ∀ o', o' ≠ o → ∀ a, F' o' a = F o' a
  self : F' o (341 + n) = d
  leaf : ∀ m, m < 1024 → m ≠ n → F' o (341 + m) = F o (341 + m)
set_option maxHeartbeats 8000000 in
theorem set_c (p o n : Nat) (d : Int) (mv : Option Nat) (F : Nat → Nat → Int) (w : World) (h : TB w p mv F) (ho : o < 8) (hn : n < 1024) (hc : ∀ a, a < 341 → Cons (F o) a) :
    Calls Tryd.prog 44 #[.pointer (some ⟨p, 1 + 1365 * o, none⟩), .int .i64 (n : Int), .int .u64 d] w fun e w' => e = .returned (.tuple #[]) ∧ ∃ F', TB w' p mv F' ∧ SetIn F F' o n d ∧ (∀ a, a < 341 → Cons (F' o) a) ∧ w.grownBy w' (some p) := by
  have mixed : Tryd.prog.follows .mixedOrders = true := by kernel_rfl
  have H := Lib.hid h
  have HC := Lib.hid hc
  have hb0 : (0 : Int) ≤ ((341 + n : Nat) : Int) := by omega
  have hb1 : ((341 + n : Nat) : Int) < 1365 := by omega
  have hw1 : IntKind.i64.wrap ((341 : Int) + (n : Int)) = ((341 + n : Nat) : Int) := by rw [IntKind.wrap_i64]; omega
  have c0 := h.at ho (show 341 + n < 1365 by omega)
  have s0 := h.soft (1 + 1365 * o + (341 + n))
  have l0 := h.lt
  clear h hc
  generalize hq : 341 + n = q at *
  have HQ := Lib.hid hq
  clear hq
  go_enter Tryd.func44, Tryd.ntmps44
  go_wp2_with fail
  refine (places_c 5 (by omega) w).mono ?_
  rintro e w1 ⟨rfl, rfl⟩
  rw [show pl 5 = 341 from rfl, show pl (5 + 1) = 1365 from rfl]
  go_wp2_with fail
  have T1 : Hid (TB (w1.setCell ⟨p, 1 + 1365 * o + q, none⟩ (.int .u64 d)) p mv (updF F o q d)) := Lib.hid (H.out.set ho (by omega) d)
  have C1 : Hid (∀ b, b < 341 → Cons (updF F o q d o) b ∨ Anc q b) := Lib.hid (by rw [updF_row, ← HQ.out]; exact cons_first d hn HC.out)
  have S1 : Hid (SetIn F (updF F o q d) o n d) := Lib.hid ⟨fun o' ho' a => if_neg (fun e => ho' e.1), if_pos ⟨rfl, HQ.out⟩, fun m hm hmn => if_neg (fun e => by have := HQ.out; omega)⟩
  have G1 : Hid (w1.grownBy (w1.setCell ⟨p, 1 + 1365 * o + q, none⟩ (.int .u64 d)) (some p)) := Lib.hid (grown_set _ _ _ _)
  clear c0 s0 l0 hw1
  go_loopw [8] (fun v8 wr => ∃ (a : Nat) (G : Nat → Nat → Int), a < 1365 ∧ v8 = .int .i64 (a : Int) ∧ Hid (TB wr p mv G) ∧ Hid (∀ b, b < 341 → Cons (G o) b ∨ Anc a b) ∧ Hid (SetIn F G o n d) ∧ Hid (w1.grownBy wr (some p))) (fun v8 _ => (RowKit.intOf v8).toNat)
  case atStart => exact ⟨q, _, by omega, rfl, T1, C1, S1, G1⟩
  case round =>
    obtain ⟨a, G, ha, rfl, HTB, HCO, HSI, HGR⟩ := hrel
    clear T1 C1 S1 G1
    by_cases hp : 0 < a
    · obtain ⟨a1, rfl⟩ : ∃ a1, a = a1 + 1 := ⟨a - 1, by omega⟩
      obtain ⟨c, hc⟩ : ∃ c, c = a1 / 4 := ⟨_, rfl⟩
      have HN := Lib.hid (cons_next HCO.out)
      rw [show (a1 + 1 - 1) / 4 = c from hc.symm] at HN
      have hc2 : c < 341 := by omega
      have hca : c < a1 + 1 := by omega
      have hdv : Int.tdiv (a1 : Int) 4 = (c : Int) := by rw [hc]; rfl
      have hgt : (0 : Int) < (a1 : Int) + 1 := by omega
      have hci : (c : Int) < 1365 := by omega
      have hci0 : (0 : Int) ≤ (c : Int) := by omega
      clear hc
      have hh : IntKind.i64.wrap ((c : Int) * 4 + 1 + 4) = (c : Int) * 4 + 5 := by rw [IntKind.wrap_i64]; omega
      have hsl : ∀ W, (Instr.sliceAt 84 (.pointer (some ⟨p, 1 + 1365 * o, none⟩)) (some (.int .i64 ((c : Int) * 4 + 1))) (some (.int .i64 ((c : Int) * 4 + 5))) none).run Tryd.prog W = .ok (.slice (some ⟨p, 1 + 1365 * o + (4 * c + 1), none⟩) 4 (1364 - 4 * c)) W := fun W => by
        have hal : Tryd.prog.arrayLen 84 = 1365 := by kernel_rfl
        have hel : Tryd.prog.elem 84 = 44 := by kernel_rfl
        have hsz : (sizeOf 44).run Tryd.prog W = .ok 1 W := by simp [sizeOf]; rfl
        have e1 : ((c : Int) * 4 + 1).toNat = 4 * c + 1 := by omega
        have e2 : ((c : Int) * 4 + 5).toNat = 4 * c + 5 := by omega
        rw [run_sliceAt_array_lh W 84 ⟨p, 1 + 1365 * o, none⟩ (by rw [hal, hel]; exact Tryd.underlying84) .i64 .i64 _ _ (by omega) (by omega) (by rw [hal]; omega), hel, hsz, hal, e1, e2]
        simp only [Result.andThen, slicedAt]
        rw [if_neg (by omega), Go.WideShapes.add_plain, Nat.mul_one, show 4 * c + 5 - (4 * c + 1) = 4 by omega, show 1365 - (4 * c + 1) = 1364 - 4 * c by omega]
      have HB0 : Hid (Below wr.heap.size wr wr.drew) := Lib.hid (Below.refl _ _).drew
      have hdg : D.Dl wr (.slice (some ⟨p, 1 + 1365 * o + (4 * c + 1), none⟩) 4 (1364 - 4 * c)) [G o (4 * c + 1), G o (4 * c + 2), G o (4 * c + 3), G o (4 * c + 4)] := ⟨_, _, rfl, fun _ => ⟨p, 1 + 1365 * o + (4 * c + 1), rfl, fun k hk => by
        have hk4 : k < 4 := hk
        have f := HTB.out.at ho (show 4 * c + 1 + k < 1365 by omega)
        rw [show 1 + 1365 * o + (4 * c + 1 + k) = 1 + 1365 * o + (4 * c + 1) + k by omega] at f
        rw [f]
        match k, hk4 with
        | 0, _ => rfl
        | 1, _ => rfl
        | 2, _ => rfl
        | 3, _ => rfl⟩⟩
      have CA := Lib.hid (fun W (hW : Below wr.heap.size wr W) => D.all_c _ _ W (hdg.below hW) (by simp))
      clear hdg
      go_wp2_with fail
      refine wp_region_held_drew (S := fun _ => True) (by kernel_rfl) (trivial) (fun hHeld => ?_)
      refine take_ok (i := 0) (d := 30) (v := ?_) rfl rfl (by kernel_rfl) (by kernel_rfl) (by kernel_rfl) (fun _ _ _ h => h) (Or.inl ⟨by rfl, ?_⟩) (by assumption) ?_
      rotate_left
      · intro w9 hSw
        try dsimp only at hSw
        first | (go_simp; done) | (go_simp; with_reducible rfl)
      try simp only [Act.put, List.setIfInBounds_toArray, List.set_cons_zero, List.set_cons_succ]
      refine take_ok (i := 1) (d := 31) (v := ?_) rfl rfl (by kernel_rfl) (by kernel_rfl) (by kernel_rfl) (fun _ _ _ h => h) (Or.inl ⟨by rfl, ?_⟩) (by assumption) ?_
      rotate_left
      · intro w9 hSw
        try dsimp only at hSw
        first | (go_simp; done) | (go_simp; with_reducible rfl)
      try simp only [Act.put, List.setIfInBounds_toArray, List.set_cons_zero, List.set_cons_succ]
      refine take_ok (i := 2) (d := 32) (v := ?_) rfl rfl (by kernel_rfl) (by kernel_rfl) (by kernel_rfl) (fun _ _ _ h => h) (Or.inl ⟨by rfl, ?_⟩) (by assumption) ?_
      rotate_left
      · intro w9 hSw
        try dsimp only at hSw
        first | (go_simp; done) | (go_simp; with_reducible rfl)
      try simp only [Act.put, List.setIfInBounds_toArray, List.set_cons_zero, List.set_cons_succ]
      refine take_ok (i := 3) (d := 33) (v := ?_) rfl rfl (by kernel_rfl) (by kernel_rfl) (by kernel_rfl) (fun _ _ _ h => h) (Or.inl ⟨by rfl, ?_⟩) (by assumption) ?_
      rotate_left
      · intro w9 hSw
        try dsimp only at hSw
        first | (go_simp; done) | (go_simp; with_reducible rfl)
      try simp only [Act.put, List.setIfInBounds_toArray, List.set_cons_zero, List.set_cons_succ]
      refine take_ok (i := 4) (d := 34) (v := ?_) rfl rfl (by kernel_rfl) (by kernel_rfl) (by kernel_rfl) (fun _ _ _ h => h) (Or.inl ⟨by rfl, ?_⟩) (by assumption) ?_
      rotate_left
      · intro w9 hSw
        try dsimp only at hSw
        first | (go_simp; done) | (go_simp; with_reducible rfl)
      try simp only [Act.put, List.setIfInBounds_toArray, List.set_cons_zero, List.set_cons_succ]
      refine take_ok (i := 5) (d := 35) (v := ?_) rfl rfl (by kernel_rfl) (by kernel_rfl) (by kernel_rfl) (fun _ _ _ h => h) (Or.inl ⟨by rfl, ?_⟩) (by assumption) ?_
      rotate_left
      · intro w9 hSw
        try dsimp only at hSw
        first | (go_simp; done) | (go_simp; with_reducible rfl)
      try simp only [Act.put, List.setIfInBounds_toArray, List.set_cons_zero, List.set_cons_succ]
      refine take_ok (i := 6) (d := 36) (v := ?_) rfl rfl (by kernel_rfl) (by kernel_rfl) (by kernel_rfl) (fun _ _ _ h => h) (Or.inl ⟨by rfl, ?_⟩) (by assumption) ?_
      rotate_left
      · intro w9 hSw
        try dsimp only at hSw
        first | (go_simp; done) | (go_simp; with_reducible rfl)
      try simp only [Act.put, List.setIfInBounds_toArray, List.set_cons_zero, List.set_cons_succ]
      refine take_ok (i := 7) (d := 37) (v := ?_) rfl rfl (by kernel_rfl) (by kernel_rfl) (by kernel_rfl) (fun _ _ _ h => h) (Or.inl ⟨by rfl, ?_⟩) (by assumption) ?_
      rotate_left
      · intro w9 hSw
        try dsimp only at hSw
        first | (go_simp; done) | (go_simp; with_reducible rfl)
      try simp only [Act.put, List.setIfInBounds_toArray, List.set_cons_zero, List.set_cons_succ]
      refine take_ok (i := 9) (d := 39) (v := ?_) rfl rfl (by kernel_rfl) (by kernel_rfl) (by kernel_rfl) (fun _ _ _ h => h) (Or.inl ⟨by rfl, ?_⟩) (by assumption) ?_
      rotate_left
      · intro w9 hSw
        try dsimp only at hSw
        first | (go_simp; done) | (go_simp; with_reducible rfl)
      try simp only [Act.put, List.setIfInBounds_toArray, List.set_cons_zero, List.set_cons_succ]
      refine wpAnyH_ready (rs := [8]) (by kernel_rfl) (by simp) ?_
      refine AllReadyH.cons rfl (fun K hK => ?_) AllReadyH.nil
      go_simp
      refine (CA.out _ (by exact HB0.out)).mono ?_
      rintro e w5 ⟨rfl, b5⟩
      have HB5 : Hid (Below wr.heap.size wr w5) := Lib.hid (bn HB0.out b5)
      have c5 := (HTB.out.below HB5.out).at ho (show c < 1365 by omega)
      have s5 := (HTB.out.below HB5.out).soft (1 + 1365 * o + c)
      have l5 := (HTB.out.below HB5.out).lt
      have T2 : Hid (TB (w5.setCell ⟨p, 1 + 1365 * o + c, none⟩ (.int .u64 (parts (G o) c))) p mv (updF G o c (parts (G o) c))) := Lib.hid ((HTB.out.below HB5.out).set ho (by omega) _)
      have C2 : Hid (∀ b, b < 341 → Cons (updF G o c (parts (G o) c) o) b ∨ Anc c b) := Lib.hid (by rw [updF_row]; exact HN.out)
      have S2 : Hid (SetIn F (updF G o c (parts (G o) c)) o n d) := Lib.hid ⟨fun o' ho' a => (if_neg (fun e => ho' e.1)).trans (HSI.out.far o' ho' a), (if_neg (fun e => by omega)).trans HSI.out.self, fun m hm hmn => (if_neg (fun e => by omega)).trans (HSI.out.leaf m hm hmn)⟩
      have G2 : Hid (w1.grownBy (w5.setCell ⟨p, 1 + 1365 * o + c, none⟩ (.int .u64 (parts (G o) c))) (some p)) := Lib.hid (grown_trans (grown_trans HGR.out (grown_below HB5.out _)) (grown_set _ _ _ _))
      rw [show D.allD [G o (4 * c + 1), G o (4 * c + 2), G o (4 * c + 3), G o (4 * c + 4)] = parts (G o) c from rfl]
      clear b5
      generalize parts (G o) c = pd at *
      refine hK.out _ _ (trivial) (fun hHeld => ?_)
      clear hK K
      try simp only [Act.put, List.setIfInBounds_toArray, List.set_cons_zero, List.set_cons_succ]
      refine take_ok (i := 10) (d := 40) (v := ?_) rfl rfl (by kernel_rfl) (by kernel_rfl) (by kernel_rfl) (fun _ _ _ h => h) (Or.inl ⟨by rfl, ?_⟩) (by assumption) ?_
      rotate_left
      · intro w9 hSw
        try dsimp only at hSw
        first | (go_simp; done) | (go_simp; with_reducible rfl)
      try simp only [Act.put, List.setIfInBounds_toArray, List.set_cons_zero, List.set_cons_succ]
      refine wpAnyH_ready (rs := [11]) (by kernel_rfl) (by simp) ?_
      refine AllReadyH.cons rfl (fun K hK => ?_) AllReadyH.nil
      go_simp
      refine hK.out _ _ (trivial) (fun hHeld => ?_)
      clear hK K
      try simp only [Act.put, List.setIfInBounds_toArray, List.set_cons_zero, List.set_cons_succ]
      refine wpAnyH_done (by kernel_rfl) ?_ _
      go_wp2_with fail
      go_roundw
      case rel => exact ⟨c, _, by omega, rfl, T2, C2, S2, G2⟩
      case measure => simp [RowKit.intOf]; omega
    · obtain rfl : a = 0 := by omega
      have HF : Hid (∀ b, b < 341 → Cons (G o) b) := Lib.hid (fun b hb => (HCO.out b hb).resolve_right fun h => h.no)
      go_wp2_with fail
      go_end0
      exact ⟨rfl, G, HTB.out, HSI.out, HF.out, HGR.out⟩
end Go.Proofs.YtchkadifjbmmpaaDoor

/-
  Get of package tree, by contract.
-/
import Derived.Test.YtchkadifjbmmpaaDoorTrAwk
import Derived.Test.YtchkadifjbmmpaaDoorWRecReadAll
namespace Go.Proofs.YtchkadifjbmmpaaDoor
open Go.RowKit Go.Lib Go.Maps
set_option maxRecDepth 100000
set_option linter.unusedSimpArgs false

/-- What Get tells. -/
def GetS (S : Sb) (k : Ky) (r : R.Rc) (b : Bool) : Prop :=
  (b = true ∧ R.mayR r = true ∧ kyR r = k ∧ (k, R.layL r) ∈ S) ∨ (b = false ∧ k ∉ S.map Prod.fst)
def zeroR : R.Rc := ⟨0, 0, 0, 0, ⟨#[]⟩⟩
theorem get_parts (p mb : Nat) (T : List Kb) (own : Nat → Prop) (k : Ky) (w : World) (h : TrIn w p mb T own) (hS : ∀ x ∈ T.map kbs, ∃ r, R.mayR r = true ∧ x = (kyR r, R.layL r)) (ho : okKy k) (hT : R.Tabs w) :
    ∃ v r n b, (∀ W, Below w.heap.size w W → (Instr.lookup 82 (.map (some mb)) (kyv k) false).run Tryd.prog W = .ok v W) ∧
      (∀ W, Below w.heap.size w W → Calls Tryd.prog 56 #[v, .int .i64 0] W fun e w' => e = .returned (.tuple #[.agg #[.int .i64 r.o, .int .i64 r.s, .int .i64 r.w, .int .i64 r.c, .string r.t], .int .i64 n, .bool b]) ∧ Below W.heap.size W w') ∧ GetS (T.map kbs) k r b := by
  by_cases hin : k ∈ T.map Kb.k
  · obtain ⟨x, hx, rfl⟩ := List.mem_map.1 hin
    obtain ⟨r, hm, e⟩ := hS _ (List.mem_map_of_mem hx)
    simp only [kbs, Prod.mk.injEq] at e
    obtain ⟨ek, eb⟩ := e
    have hat := R.lay_at r [] [] hm
    simp only [List.nil_append, List.append_nil, List.length_nil] at hat
    refine ⟨x.v, r, (0 : Int) + 12 + (r.t.size : Int), true, fun W hW => ((h.below hW).yes hx ho).2, fun W hW => ?_, .inl ⟨rfl, hm, ek.symm, ?_⟩⟩
    · have hr := (h.below hW).tr x hx
      rw [eb] at hr
      have hl : (R.layL r).length ≤ 1000 := by rw [← eb]; exact (h.tl x hx).2
      refine (R.read_c (R.layL r) x.v 0 W (R.BRow.blc hr) (R.layL_ok r) (by omega) (by omega) (hT.below hW)).mono ?_
      intro e w' he
      unfold R.readT at he
      rw [show R.atOk (R.layL r) 0 = true from hat.1, if_pos rfl] at he
      obtain ⟨he1, he2⟩ := he
      rw [show R.rdR ((R.layL r).drop (0 : Int).toNat) = r from hat.2.1, show R.hdN ((R.layL r).drop (0 : Int).toNat) = (r.t.size : Int) from hat.2.2] at he1
      exact ⟨he1, he2⟩
    · rw [← eb]
      exact List.mem_map.2 ⟨x, hx, rfl⟩
  · refine ⟨.slice none 0 0, zeroR, 0, false, fun W hW => ((h.below hW).no ho hin).2, fun W hW => ?_, .inr ⟨rfl, by rw [kbs_fst]; exact hin⟩⟩
    refine (R.read_c [] (.slice none 0 0) 0 W ⟨none, 0, rfl, Nat.le_refl _, fun h0 => by simp at h0⟩ (fun x hx => by cases hx) (by simp) (by omega) (hT.below hW)).mono ?_
    intro e w' he
    unfold R.readT at he
    rw [show R.atOk [] 0 = false from by decide, if_neg (by decide)] at he
    exact he
theorem res2 {fn : Func} (h : fn.results = #[.cell 4 36, .tmp 5]) (tmps : Array Value) (g : Nat) (hp : tmps.getD 4 undef = .pointer (some ⟨g, 0, none⟩)) (a b c d e : Value) (w : World) (hx : R.Bx 36 w g #[a, b, c, d, e]) :
    (results fn tmps).run Tryd.prog w = .ok (.tuple #[.agg #[a, b, c, d, e], tmps.getD 5 undef]) w := by
  have aR := Tryd.isAgg36
  have zR := Tryd.sizeOf36
  obtain ⟨c0, c1, c2, c3, c4⟩ := hx.five
  rw [Array.getD_eq_getD_getElem?] at hp
  simp [results, h, hp, go_sem, aR, zR, c0, c1, c2, c3, c4]
set_option maxHeartbeats 32000000 in
theorem get_c (p : Nat) (S : Sb) (own : Nat → Prop) (o s : Int) (w : World) (h : Tr w p S own) (hS : ∀ x ∈ S, ∃ r, R.mayR r = true ∧ x = (kyR r, R.layL r)) (ho : okKy (o, s)) (hT : R.Tabs w) :
    Calls Tryd.prog 31 #[.pointer (some ⟨p, 0, none⟩), .agg #[.int .i64 o, .int .i64 s]] w fun e w' => ∃ r b, e = .returned (.tuple #[.agg #[.int .i64 r.o, .int .i64 r.s, .int .i64 r.w, .int .i64 r.c, .string r.t], .bool b]) ∧ GetS S (o, s) r b ∧ Below w.heap.size w w' := by
  have mixed : Tryd.prog.follows .mixedOrders = true := by kernel_rfl
  obtain ⟨mb, T, hx, rfl⟩ := h
  obtain ⟨v, r, n, b, h1, h2, h3⟩ := get_parts p mb T own (o, s) w hx hS ho hT
  obtain ⟨w2, hw2⟩ : ∃ w2, w2 = (w.alloc (.cells #[.int .i64 o, .int .i64 s] 32)).alloc (.cells #[.int .i64 0, .int .i64 0, .int .i64 0, .int .i64 0, .string ⟨#[]⟩] 36) := ⟨_, rfl⟩
  have b2 : Below w.heap.size w w2 := by rw [hw2]; exact bn (alloc_below _ _) (alloc_below _ _)
  have k2 : R.Bx 32 w2 w.heap.size #[.int .i64 o, .int .i64 s] := by rw [hw2]; exact (R.Bx.new _ _ _).alloc _
  have z2 : R.Bx 36 w2 (w.heap.size + 1) #[.int .i64 0, .int .i64 0, .int .i64 0, .int .i64 0, .string ⟨#[]⟩] := by
    rw [hw2]
    have := R.Bx.new 36 (w.alloc (.cells #[.int .i64 o, .int .i64 s] 32)) #[.int .i64 0, .int .i64 0, .int .i64 0, .int .i64 0, .string ⟨#[]⟩]
    rwa [World.size_alloc] at this
  have HSC : Hid (∀ W, Below w2.heap.size w2 W → W.cell? ⟨p, 0, none⟩ = some (.map (some mb)) ∧ W.cell? ⟨w.heap.size, 0, none⟩ = some (.int .i64 o) ∧ W.cell? ⟨w.heap.size, 1, none⟩ = some (.int .i64 s) ∧ (Instr.lookup 82 (.map (some mb)) (.agg #[.int .i64 o, .int .i64 s]) false).run Tryd.prog W = .ok v W) := Lib.hid (fun W hW => ⟨(hx.bx.below (bn b2 hW)).map, (k2.below hW).cell 0, (k2.below hW).cell 1, h1 W (bn b2 hW)⟩)
  have HRD : Hid (∀ W, Below w2.heap.size w2 W → Calls Tryd.prog 56 #[v, .int .i64 0] W fun e w' => e = .returned (.tuple #[.agg #[.int .i64 r.o, .int .i64 r.s, .int .i64 r.w, .int .i64 r.c, .string r.t], .int .i64 n, .bool b]) ∧ Below W.heap.size W w') := Lib.hid (fun W hW => h2 W (bn b2 hW))
  have HG := Lib.hid h3
  have HB2 := Lib.hid b2
  have HZ2 := Lib.hid z2
  have HW2 := Lib.hid hw2
  clear hx hS ho hT h1 h2 h3 hw2 b2 k2 z2
  go_enter Tryd.func31, Tryd.ntmps31
  go_wp2_with fail
  rw [← HW2.out]
  clear HW2
  obtain ⟨p0, k0, k1, hlk⟩ := HSC.out w2 (Below.refl _ _)
  have hlk1 := (HSC.out w2.drew (Below.refl _ _).drew).2.2.2
  have hlk2 := (HSC.out _ (alloc_below w2 (.cells #[.int .i64 0, .int .i64 0, .int .i64 0, .int .i64 0, .string ⟨#[]⟩] 36))).2.2.2
  have hlk3 := (HSC.out _ (below_da w2 (.cells #[.int .i64 0, .int .i64 0, .int .i64 0, .int .i64 0, .string ⟨#[]⟩] 36))).2.2.2
  have hlk4 := (HSC.out _ (alloc_below w2 (.cells #[.int .i64 0, .int .i64 0, .int .i64 0, .int .i64 0, .string ⟨#[]⟩] 36)).drew).2.2.2
  have hlp := World.block_lt_of_cell? _ _ p0
  have hlkk := World.block_lt_of_cell? _ _ k0
  clear HSC
  go_region_with (first
    | (go_at_call 56; refine (HRD.out _ (by first | exact alloc_below _ _ | exact (alloc_below _ _).drew | exact below_da _ _)).mono ?_; rintro e wR ⟨rfl, bR0⟩; have zR : R.Bx 36 wR w2.heap.size #[.int .i64 0, .int .i64 0, .int .i64 0, .int .i64 0, .string ⟨#[]⟩] := (by first | exact R.Bx.below (R.Bx.new _ w2 _) bR0 | exact R.Bx.below (w := (w2.alloc _).drew) (R.Bx.new _ w2 _) bR0 | exact R.Bx.below (R.Bx.new _ w2.drew _) bR0); have bR : Below w2.heap.size w2 wR := (by first | exact bn (alloc_below _ _) bR0 | exact bn (alloc_below _ _).drew bR0 | exact bn (below_da _ _) bR0); obtain ⟨c0, c1, c2, c3, c4⟩ := zR.five; have f0 := zR.soft 0; have f1 := zR.soft 1; have f2 := zR.soft 2; have f3 := zR.soft 3; have f4 := zR.soft 4; have hlz := zR.lt)
    | (go_at_call 56; refine (HRD.out _ (by first | exact (Below.refl _ _).drew | exact Below.refl _ _)).mono ?_; rintro e wR ⟨rfl, bR0⟩; have bR : Below w2.heap.size w2 wR := (by first | exact bn (Below.refl _ _).drew bR0 | exact bR0)))
  all_goals first
    | (
      obtain ⟨W5, hW5⟩ : ∃ W5, W5 = ((((wR.setCell ⟨w2.heap.size, 0, none⟩ (.int .i64 r.o)).setCell ⟨w2.heap.size, 1, none⟩ (.int .i64 r.s)).setCell ⟨w2.heap.size, 2, none⟩ (.int .i64 r.w)).setCell ⟨w2.heap.size, 3, none⟩ (.int .i64 r.c)).setCell ⟨w2.heap.size, 4, none⟩ (.string r.t) := ⟨_, rfl⟩
      have x5 : R.Bx 36 W5 w2.heap.size #[.int .i64 r.o, .int .i64 r.s, .int .i64 r.w, .int .i64 r.c, .string r.t] := by rw [hW5]; exact R.zero_five zR _ _ _ _ _
      have b5 : Below w2.heap.size w2 W5 := by rw [hW5]; exact R.below_five bR (Nat.le_refl _) _ _ _ _ _
      rw [← hW5]
      obtain ⟨r0, r1, r2, r3, r4⟩ := x5.five
      have hl5 := x5.lt
      have HZ5 := Lib.hid (HZ2.out.below b5)
      have HB5 : Hid (Below w.heap.size w W5) := Lib.hid (bn HB2.out b5)
      clear hW5 x5 b5 HRD
      obtain ⟨z0, z1, z2, z3, z4⟩ := HZ5.out.five
      have g0 := HZ5.out.soft 0
      have g1 := HZ5.out.soft 1
      have g2 := HZ5.out.soft 2
      have g3 := HZ5.out.soft 3
      have g4 := HZ5.out.soft 4
      have hlz5 := HZ5.out.lt
      go_wp2_with fail
      exact bodyPost_ret (res2 Tryd.results31 _ (w.heap.size + 1) rfl _ _ _ _ _ _ (R.zero_five HZ5.out _ _ _ _ _)) rfl ⟨r, b, rfl, HG.out, R.below_five HB5.out (Nat.le_succ _) _ _ _ _ _⟩)
    | (
      obtain ⟨W5, hW5⟩ : ∃ W5, W5 = wR.alloc (.cells #[.int .i64 r.o, .int .i64 r.s, .int .i64 r.w, .int .i64 r.c, .string r.t] 36) := ⟨_, rfl⟩
      have x5 : R.Bx 36 W5 wR.heap.size #[.int .i64 r.o, .int .i64 r.s, .int .i64 r.w, .int .i64 r.c, .string r.t] := by rw [hW5]; exact R.Bx.new _ wR _
      have b5 : Below w2.heap.size w2 W5 := by rw [hW5]; exact bn bR (alloc_below _ _)
      rw [← hW5]
      obtain ⟨r0, r1, r2, r3, r4⟩ := x5.five
      have hl5 := x5.lt
      have HZ5 := Lib.hid (HZ2.out.below b5)
      have HB5 : Hid (Below w.heap.size w W5) := Lib.hid (bn HB2.out b5)
      clear hW5 x5 b5 HRD
      obtain ⟨z0, z1, z2, z3, z4⟩ := HZ5.out.five
      have g0 := HZ5.out.soft 0
      have g1 := HZ5.out.soft 1
      have g2 := HZ5.out.soft 2
      have g3 := HZ5.out.soft 3
      have g4 := HZ5.out.soft 4
      have hlz5 := HZ5.out.lt
      go_wp2_with fail
      exact bodyPost_ret (res2 Tryd.results31 _ (w.heap.size + 1) rfl _ _ _ _ _ _ (R.zero_five HZ5.out _ _ _ _ _)) rfl ⟨r, b, rfl, HG.out, R.below_five HB5.out (Nat.le_succ _) _ _ _ _ _⟩)
end Go.Proofs.YtchkadifjbmmpaaDoor

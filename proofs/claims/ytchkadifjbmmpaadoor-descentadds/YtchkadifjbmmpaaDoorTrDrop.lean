/-
  Drop, Len of package tree, by contract.
-/
import Derived.Test.YtchkadifjbmmpaaDoorTrPut
namespace Go.Proofs.YtchkadifjbmmpaaDoor
open Go.RowKit Go.Lib Go.Maps
set_option maxRecDepth 100000
set_option linter.unusedSimpArgs false

theorem len_c (p : Nat) (S : Sb) (own : Nat → Prop) (w : World) (h : Tr w p S own) : Calls Tryd.prog 21 #[.pointer (some ⟨p, 0, none⟩)] w fun e w' => e = .returned (.int .i64 (S.length : Int)) ∧ w' = w := by
  obtain ⟨mb, T, hx, hTS⟩ := h
  have p0 := hx.bx.map
  have hpl := hx.bx.lt
  have hlen := fun ty => hx.mp.len Tryd.underlying82 ty
  have hSl : (T.map tb).length = S.length := by rw [← hTS, List.length_map, List.length_map]
  rw [hSl] at hlen
  clear hx hSl
  go_enter Tryd.func21, Tryd.ntmps21
  go_wp2_with fail
  go_ret
  exact ⟨rfl, rfl⟩
def dropS (S : Sb) (k : Ky) : Sb := S.filter fun x => decide (x.1 ≠ k)
def dropSs (S : Sb) (ks : List Ky) : Sb := ks.foldl dropS S
theorem dropSs_next (S : Sb) (ks : List Ky) (i : Nat) (h : i < ks.length) : dropSs S (ks.take (i + 1)) = dropS (dropSs S (ks.take i)) ks[i] := by
  unfold dropSs
  rw [List.take_succ_eq_append_getElem h, List.foldl_append]
  rfl
theorem dropS_len (S : Sb) (k : Ky) : (dropS S k).length ≤ S.length := List.length_filter_le _ _
theorem dropSs_len : ∀ (S : Sb) (ks : List Ky), (dropSs S ks).length ≤ S.length
  | _, [] => Nat.le_refl _
  | S, a :: r => Nat.le_trans (dropSs_len (dropS S a) r) (dropS_len S a)
theorem dropS_no {S : Sb} {k : Ky} (h : k ∉ S.map Prod.fst) : dropS S k = S := by
  refine List.filter_eq_self.2 fun x hx => ?_
  simp only [decide_eq_true_eq]
  exact fun e => h (e ▸ List.mem_map_of_mem hx)
theorem dropS_mid {A B : Sb} {k : Ky} {ts : List Int} (hA : k ∉ A.map Prod.fst) (hB : k ∉ B.map Prod.fst) : dropS (A ++ (k, ts) :: B) k = A ++ B := by
  have h1 := dropS_no hA
  have h2 := dropS_no hB
  unfold dropS at h1 h2 ⊢
  rw [List.filter_append, List.filter_cons, h1, h2]
  simp
theorem leaf_drop (S : Sb) (k : Ky) (o n : Nat) : leafS (dropS S k) o n = if k = ((o : Int), (n : Int)) then 0 else leafS S o n := by
  unfold leafS dropS
  rw [List.find?_filter]
  by_cases h : k = ((o : Int), (n : Int))
  · rw [if_pos h]
    have : (S.find? fun a => decide (decide (a.1 ≠ k) = true ∧ decide (a.1 = ((o : Int), (n : Int))) = true)) = none := by
      rw [List.find?_eq_none]
      intro x _ hd
      simp only [decide_eq_true_eq] at hd
      exact hd.1 (hd.2.trans h.symm)
    rw [this]
  · rw [if_neg h]
    have : (fun a : Ky × List Int => decide (decide (a.1 ≠ k) = true ∧ decide (a.1 = ((o : Int), (n : Int))) = true)) = fun x => decide (x.1 = ((o : Int), (n : Int))) := by
      funext x
      by_cases hx : x.1 = ((o : Int), (n : Int))
      · have hne : x.1 ≠ k := fun e => h (e.symm.trans hx)
        simp [hx, hne]
        exact fun e => h e.symm
      · simp [hx]
    rw [this]
/-- The digests behind set to zero are those without the record. -/
theorem told_drop {S : Sb} {k : Ky} {o n : Nat} {F' : Nat → Nat → Int} (hkn : k = ((o : Int), (n : Int))) (hs : SetIn (treeF S) F' o n 0) (hc : ∀ a, a < 341 → Cons (F' o) a) :
    ∀ o' a, o' < 8 → a < 1365 → F' o' a = treeF (dropS S k) o' a := by
  intro o' a ho' ha
  by_cases h : o' = o
  · subst h
    refine treeF_uniq hc (fun m hm => ?_) 1365 a (by omega) ha
    rw [leaf_drop]
    by_cases hmn : m = n
    · subst hmn
      rw [if_pos hkn, hs.self]
    · rw [hs.leaf m hm hmn, treeF_leaf, if_neg (fun e => hmn (by rw [hkn] at e; have := congrArg Prod.snd e; simp only at this; omega))]
  · rw [hs.far o' h a]
    refine (treeF_same (fun m hm => ?_) a ha).symm
    rw [leaf_drop, if_neg (fun e => h (by rw [hkn] at e; have := congrArg Prod.fst e; simp only at this; omega))]
theorem keyB_ok {k : Ky} (h : R.keyB k.1 k.2 = true) : okKy k := by
  simp only [R.keyB, Bool.and_eq_true, decide_eq_true_eq] at h
  unfold okKy inR
  omega
/-- One record less. -/
theorem TrIn.less {w3 w4 w9 wA wS : World} {p mb : Nat} {A B : List Kb} {x : Kb} {own : Nat → Prop} (h : TrIn w3 p mb (A ++ x :: B) own) (hb4 : Below w3.heap.size w3 w4)
    (hp9 : PM Tryd.prog w9 32 mb ((A ++ B).map tb)) (ht9 : w4.mapTurned w9 mb) (hbA : Below w9.heap.size w9 wA) (hgS : wA.grownBy wS (some p)) {F' : Nat → Nat → Int} (hT : TB wS p (some mb) F') (hF : ∀ o a, o < 8 → a < 1365 → F' o a = treeF ((A ++ B).map kbs) o a) :
    TrIn wS p mb (A ++ B) own ∧ Turn own w3 wS := by
  have hpm := tb_ne_map h.bx h.mp
  have s34 := hb4.size
  have s49 := ht9.grown.size
  have s9A := hbA.size
  have sAS := hgS.size
  have sub : ∀ y ∈ A ++ B, y ∈ A ++ x :: B := fun y hy => by
    rcases List.mem_append.1 hy with hy | hy
    · exact List.mem_append_left _ hy
    · exact List.mem_append_right _ (List.mem_cons_of_mem _ hy)
  have far : ∀ i, i < w3.heap.size → i ≠ mb → i ≠ p → wS.heap[i]? = w3.heap[i]? := fun i hi h1 h2 =>
    (hgS.block i (by omega) (fun e => h2 (Option.some.inj e))).trans ((hbA.block i (by omega)).trans ((turned_block ht9 (by omega) h1).trans (hb4.block i hi)))
  have rows : ∀ {B : Nat} {v : Value} {bs : List Int}, R.BRow w3 B v bs → R.BRow wS B v bs := fun {B v bs} hr => ownsRow_of_block hr fun g hg => far g (World.ownsRow.lt hr g hg).2 (row_ne_map h.mp hr hg) (row_ne_tb h.bx hr hg)
  refine ⟨⟨fun i hi => by have := h.up i hi; omega, h.op, h.om, hT.congr hF, ?_, fun y hy => rows (h.tr y (sub y hy)), fun y hy => h.tw y (sub y hy), fun y hy => h.tk y (sub y hy), fun y hy => h.tl y (sub y hy)⟩, ?_⟩
  · refine hp9.of_block ((hgS.block mb ?_ (fun e => hpm (Option.some.inj e).symm)).trans (hbA.block mb hp9.lt))
    have := hp9.lt
    omega
  · exact ((Turn.ofBelow hb4).trans (Turn.ofTurned ht9 h.om)).trans ((Turn.ofBelow hbA).trans (Turn.ofGrown hgS (fun g e => by cases e; exact h.op)))
/-- A list of Keys as it can be read. -/
def KRd (w : World) (v : Value) (l : List Ky) : Prop :=
  ∃ ad cap, v = .slice ad l.length cap ∧ l.length ≤ cap ∧ (0 < l.length → ∃ b o, ad = some ⟨b, o, none⟩ ∧ ∀ k (hk : k < l.length), w.cell? ⟨b, o + k * 2, none⟩ = some (.int .i64 l[k].1) ∧ w.cell? ⟨b, o + k * 2 + 1, none⟩ = some (.int .i64 l[k].2))
set_option maxHeartbeats 32000000 in
theorem drop_c (p : Nat) (S : Sb) (own : Nat → Prop) (v : Value) (kl : List Ky) (w : World) (h : Tr w p S own) (hkr : ∀ W, Turn own w W → KRd W v kl) (hok : ∀ k ∈ kl, okKy k) (hn : kl.length ≤ 100000) (hSn : S.length ≤ 100000) :
    Calls Tryd.prog 15 #[.pointer (some ⟨p, 0, none⟩), v] w fun e w' => e = .returned (.int .i64 ((S.length : Int) - ((dropSs S kl).length : Int))) ∧ Tr w' p (dropSs S kl) own ∧ Turn own w w' := by
  have mixed : Tryd.prog.follows .mixedOrders = true := by kernel_rfl
  obtain ⟨ad, cap, rfl, _, _⟩ := id (hkr w (Turn.refl _ _))
  obtain ⟨mb, T, hx, hTS⟩ := h
  have p0 := hx.bx.map
  have hpl := hx.bx.lt
  have hlen := fun ty => hx.mp.len Tryd.underlying82 ty
  have hSl : (T.map tb).length = S.length := by rw [← hTS, List.length_map, List.length_map]
  rw [hSl] at hlen
  have H := Lib.hid hx
  have HTS := Lib.hid hTS
  have HKR := Lib.hid hkr
  have HOK := Lib.hid hok
  clear hx hTS hkr hok hSl
  go_enter Tryd.func15, Tryd.ntmps15
  go_wp2_with fail
  clear p0 hpl hlen
  go_loopw [19] (fun v19 wr => ∃ (i : Nat) (T1 : List Kb), i ≤ kl.length ∧ v19 = .int .i64 (i : Int) ∧ Hid (TrIn wr p mb T1 own) ∧ Hid (T1.map kbs = dropSs S (kl.take i)) ∧ Hid (Turn own w wr)) (fun v19 _ => kl.length - (RowKit.intOf v19).toNat)
  case atStart => exact ⟨0, T, by omega, rfl, H, Lib.hid (by rw [HTS.out]; rfl), Lib.hid (Turn.refl _ _)⟩
  case round =>
    obtain ⟨i, T1, hi, rfl, H1, HS1, HTU1⟩ := hrel
    clear H HTS
    by_cases hp : i < kl.length
    · obtain ⟨ad', cap', e, _, ck⟩ := HKR.out wr HTU1.out
      simp only [Value.slice.injEq, true_and] at e
      obtain ⟨rfl, rfl⟩ := e
      obtain ⟨g, o, rfl, dk⟩ := ck (by omega)
      have a1 := dk i hp
      have HNX := Lib.hid (dropSs_next S kl i hp)
      have HKY := Lib.hid (HOK.out _ (List.getElem_mem hp))
      have HP := Lib.hid hp
      generalize kl[i] = k at a1 HNX HKY
      obtain ⟨ko, ks⟩ := k
      obtain ⟨q0, q1⟩ := a1
      simp only at q0 q1
      have hgl := World.block_lt_of_cell? _ _ q0
      obtain ⟨kb, hkb⟩ : ∃ kb, kb = wr.heap.size := ⟨_, rfl⟩
      obtain ⟨w1, hw1⟩ : ∃ w1, w1 = wr.alloc (.cells #[.int .i64 ko, .int .i64 ks] 32) := ⟨_, rfl⟩
      have hal : Below wr.heap.size wr w1 := by rw [hw1]; exact alloc_below _ _
      have bx : R.Bx 32 w1 kb #[.int .i64 ko, .int .i64 ks] := by rw [hw1, hkb]; exact R.Bx.new _ wr _
      have h1 := H1.out.below hal
      have p0 := h1.bx.map
      have hl0 := h1.bx.lt
      have b0 := bx.cell 0
      have b1 := bx.cell 1
      simp only [List.getElem?_toArray, List.getElem?_cons_succ, List.getElem?_cons_zero] at b0 b1
      have hl1 := bx.lt
      have H1b := Lib.hid h1
      have BX := Lib.hid bx
      have HT1 := Lib.hid (HTU1.out.trans (Turn.ofBelow hal))
      by_cases hin : (ko, ks) ∈ T1.map Kb.k
      · obtain ⟨x, hx, hxk⟩ := List.mem_map.1 hin
        obtain ⟨A, B, hAB⟩ := List.append_of_mem hx
        have hlk : ∀ n, (Instr.lookup 82 (.map (some mb)) (.agg #[.int .i64 ko, .int .i64 ks]) true).run Tryd.prog (w1.drewN n) = .ok (.tuple #[x.v, .bool true]) (w1.drewN n) := fun n => by
          have := ((h1.below (below_drewN (Below.refl _ _) n)).yes hx (hxk ▸ HKY.out)).1
          rw [hxk] at this
          exact this
        have hkB := h1.tk x hx
        rw [hxk] at hkB
        have hkB2 := hkB
        simp only [R.keyB, Bool.and_eq_true, decide_eq_true_eq] at hkB2
        obtain ⟨on, hon⟩ := Int.eq_ofNat_of_zero_le hkB2.1
        obtain ⟨sn, hsn⟩ := Int.eq_ofNat_of_zero_le (show (0 : Int) ≤ ks by omega)
        have hon8 : on < 8 := by omega
        have hsn1 : sn < 1024 := by omega
        have hob0 : (0 : Int) ≤ (on : Int) := by omega
        have hob1 : (on : Int) < 8 := by omega
        subst hon hsn
        have hnd : (T1.map Kb.k).Nodup := by
          have := h1.mp.nd
          rw [tb_fst] at this
          exact List.Pairwise.of_map kyv (fun a b hh e => hh (by rw [e])) this
        have hmid : ((on : Int), (sn : Int)) ∉ A.map Kb.k ∧ ((on : Int), (sn : Int)) ∉ B.map Kb.k := by
          rw [hAB, List.map_append, List.map_cons, List.nodup_append, List.nodup_cons] at hnd
          obtain ⟨_, ⟨n2, _⟩, n4⟩ := hnd
          exact ⟨fun hm => n4 _ hm _ (List.mem_cons_self ..) hxk.symm, fun hm => n2 (hxk ▸ hm)⟩
        have HSE : Hid (dropS (T1.map kbs) ((on : Int), (sn : Int)) = (A ++ B).map kbs) := Lib.hid (by
          rw [hAB, List.map_append, List.map_cons, show kbs x = (((on : Int), (sn : Int)), x.bs) from by rw [← hxk]; rfl, dropS_mid (by rw [kbs_fst]; exact hmid.1) (by rw [kbs_fst]; exact hmid.2), List.map_append])
        obtain ⟨VA, VC, hvx, _⟩ := (bl_of_row (h1.tr x hx)).form
        rw [hvx] at hlk
        have HAB := Lib.hid hAB
        have HXK := Lib.hid hxk
        clear hal bx h1 ck dk H1 HTU1 hin hx hxk hkB hkB2 hnd hmid hvx hAB
        go_wp2_with fail
        rw [← hw1, ← hkb]
        clear hw1 hkb q0 q1 hgl
        go_quiet (fail)
        obtain ⟨w3, hw3⟩ : ∃ w3, w3 = w1.drewN nq := ⟨_, rfl⟩
        have b3 : Below w1.heap.size w1 w3 := by rw [hw3]; exact below_drewN (Below.refl _ _) _
        rw [← hw3]
        have H3 : Hid (TrIn w3 p mb (A ++ x :: B) own) := Lib.hid (HAB.out ▸ H1b.out.below b3)
        have BX3 := Lib.hid (BX.out.below b3)
        have HT3 := Lib.hid (HT1.out.trans (Turn.ofBelow b3))
        clear hw3 b3 hlk p0 b0 b1 hl0 hl1 H1b BX HT1
        obtain ⟨kl2, hkl⟩ := kyv_lit ((on : Int), (sn : Int)) HKY.out
        have h3d := H3.out.below (Below.refl _ w3).drew
        have hmp : PM Tryd.prog w3.drew 32 mb (A.map tb ++ (kyv ((on : Int), (sn : Int)), x.v) :: B.map tb) := by
          have := h3d.mp
          rw [List.map_append, List.map_cons, show tb x = (kyv ((on : Int), (sn : Int)), x.v) from by rw [← HXK.out]; rfl] at this
          exact this
        obtain ⟨w9, hd9, hp9, ht9⟩ := hmp.del keyed Tryd.underlying82 hkl 0
        rw [← List.map_append] at hp9
        have hpm := tb_ne_map h3d.bx h3d.mp
        have HD9 : Hid ((Builtin.delete_ #[82, 32] 0 #[.map (some mb), .agg #[.int .i64 (on : Int), .int .i64 (sn : Int)]]).run Tryd.prog w3.drew = .ok (.tuple #[]) w9) := Lib.hid hd9
        have HP9 := Lib.hid hp9
        have HT9 := Lib.hid ht9
        have X9 : R.Bx 32 w9 kb #[.int .i64 (on : Int), .int .i64 (sn : Int)] := (turned_block ht9 (BX3.out.below (Below.refl _ w3).drew).lt (h3d.mp.not_cells (BX3.out.below (Below.refl _ w3).drew))).trans (BX3.out.below (Below.refl _ w3).drew)
        have T9 : Hid (TB w9 p (some mb) (treeF ((A ++ x :: B).map kbs))) := Lib.hid (h3d.bx.of_block (turned_block ht9 h3d.bx.lt hpm))
        have HS9 : Hid (w9.cell? ⟨p, 0, none⟩ = some (.map (some mb)) ∧ w9.cell? ⟨kb, 0, none⟩ = some (.int .i64 (on : Int)) ∧ w9.cell? ⟨kb, 1, none⟩ = some (.int .i64 (sn : Int))) := Lib.hid ⟨T9.out.map, X9.cell 0, X9.cell 1⟩
        have HSC : Hid (∀ W, Below w3.heap.size w3 W → W.cell? ⟨p, 0, none⟩ = some (.map (some mb)) ∧ W.cell? ⟨kb, 0, none⟩ = some (.int .i64 (on : Int)) ∧ W.cell? ⟨kb, 1, none⟩ = some (.int .i64 (sn : Int))) := Lib.hid (fun W hW => ⟨(H3.out.bx.below hW).map, (BX3.out.below hW).cell 0, (BX3.out.below hW).cell 1⟩)
        have HS12 : Hid (∀ W, Below w9.heap.size w9 W → W.cell? ⟨kb, 0, none⟩ = some (.int .i64 (on : Int)) ∧ W.cell? ⟨kb, 1, none⟩ = some (.int .i64 (sn : Int))) := Lib.hid (fun W hW => ⟨(R.Bx.below X9 hW).cell 0, (R.Bx.below X9 hW).cell 1⟩)
        have HKP : Hid (kb ≠ p) := Lib.hid (fun e => by obtain ⟨cs, h1, _⟩ := T9.out; rw [← e] at h1; have h2 : w9.heap[kb]? = _ := X9; rw [h1] at h2; simp only [Option.some.injEq, Obj.cells.injEq] at h2; exact absurd h2.2.1 (by decide))
        have CS : Hid (∀ W, Below w9.heap.size w9 W → Calls Tryd.prog 44 #[.pointer (some ⟨p, 1 + on * 1365, none⟩), .int .i64 (sn : Int), .int .u64 0] W fun e w' => e = .returned (.tuple #[]) ∧ ∃ F', TB w' p (some mb) F' ∧ SetIn (treeF ((A ++ x :: B).map kbs)) F' on sn 0 ∧ (∀ a, a < 341 → Cons (F' on) a) ∧ W.grownBy w' (some p)) := Lib.hid (fun W hW => by
          have := set_c p on sn 0 (some mb) (treeF ((A ++ x :: B).map kbs)) W (T9.out.below hW) hon8 hsn1 (treeF_cons _ _)
          rwa [Nat.mul_comm] at this)
        clear hkl h3d hmp hd9 hp9 ht9 X9
        go_wp2_with fail
        refine wp_region_held_drew (S := fun W => W.cell? ⟨p, 0, none⟩ = some (.map (some mb)) ∧ W.cell? ⟨kb, 0, none⟩ = some (.int .i64 (on : Int)) ∧ W.cell? ⟨kb, 1, none⟩ = some (.int .i64 (sn : Int))) (by kernel_rfl) (HSC.out _ (Below.refl _ _).drew) (fun hHeld => ?_)
        refine take_ok (i := 0) (d := 33) (v := ?_) rfl rfl (by kernel_rfl) (by kernel_rfl) (by kernel_rfl) (fun _ _ _ h => h) (Or.inl ⟨by rfl, ?_⟩) (by assumption) ?_
        rotate_left
        · intro w9 hSw
          try dsimp only at hSw
          first | (go_simp; done) | (go_simp; with_reducible rfl)
        try simp only [Act.put, List.setIfInBounds_toArray, List.set_cons_zero, List.set_cons_succ]
        refine take_ok (i := 1) (d := 34) (v := ?_) rfl rfl (by kernel_rfl) (by kernel_rfl) (by kernel_rfl) (fun _ _ _ h => h) (Or.inl ⟨by rfl, ?_⟩) (by assumption) ?_
        rotate_left
        · intro w9 hSw
          try dsimp only at hSw
          first | (go_simp; done) | (go_simp; with_reducible rfl)
        try simp only [Act.put, List.setIfInBounds_toArray, List.set_cons_zero, List.set_cons_succ]
        refine take_ok (i := 2) (d := 35) (v := ?_) rfl rfl (by kernel_rfl) (by kernel_rfl) (by kernel_rfl) (fun _ _ _ h => h) (Or.inl ⟨by rfl, ?_⟩) (by assumption) ?_
        rotate_left
        · intro w9 hSw
          try dsimp only at hSw
          first | (go_simp; done) | (go_simp; with_reducible rfl)
        try simp only [Act.put, List.setIfInBounds_toArray, List.set_cons_zero, List.set_cons_succ]
        refine take_ok (i := 3) (d := 36) (v := ?_) rfl rfl (by kernel_rfl) (by kernel_rfl) (by kernel_rfl) (fun _ _ _ h => h) (Or.inl ⟨by rfl, ?_⟩) (by assumption) ?_
        rotate_left
        · intro w9 hSw
          try dsimp only at hSw
          first | (go_simp; done) | (go_simp; with_reducible rfl)
        try simp only [Act.put, List.setIfInBounds_toArray, List.set_cons_zero, List.set_cons_succ]
        refine take_ok (i := 4) (d := 37) (v := ?_) rfl rfl (by kernel_rfl) (by kernel_rfl) (by kernel_rfl) (fun _ _ _ h => h) (Or.inl ⟨by rfl, ?_⟩) (by assumption) ?_
        rotate_left
        · intro w9 hSw
          try dsimp only at hSw
          first | (go_simp; done) | (go_simp; with_reducible rfl)
        try simp only [Act.put, List.setIfInBounds_toArray, List.set_cons_zero, List.set_cons_succ]
        refine wpAnyH_ready (rs := [5]) (by kernel_rfl) (by simp) ?_
        refine AllReadyH.cons rfl (fun K hK => ?_) AllReadyH.nil
        refine step_delete_run rfl _ _ _ _ rfl _ _ w9 rfl rfl HD9.out ?_
        refine hK.out _ _ (HS9.out) (fun hHeld => ?_)
        clear hK K
        try simp only [Act.put, List.setIfInBounds_toArray, List.set_cons_zero, List.set_cons_succ]
        refine wpAnyH_done (by kernel_rfl) ?_ _
        clear hHeld HSC HD9 HS9
        go_wp2_with fail
        go_region_held3 (fun W => W.cell? ⟨kb, 0, none⟩ = some (.int .i64 (on : Int)) ∧ W.cell? ⟨kb, 1, none⟩ = some (.int .i64 (sn : Int))) (first | exact hSS | exact HS12.out _ (by first | assumption | exact Below.refl _ _ | exact (Below.refl _ _).drew))
          (first
          | (go_at_call 44; refine (CS.out w9.drew (Below.refl _ _).drew).mono ?_; rintro e wS ⟨rfl, F', t1, s1, c1, g1⟩; have hSS : wS.cell? ⟨kb, 0, none⟩ = some (.int .i64 (on : Int)) ∧ wS.cell? ⟨kb, 1, none⟩ = some (.int .i64 (sn : Int)) := (fun hh => ⟨(D.grown_cell g1 (World.block_lt_of_cell? _ _ hh.1) (fun e => HKP.out (Option.some.inj e))).trans hh.1, (D.grown_cell g1 (World.block_lt_of_cell? _ _ hh.2) (fun e => HKP.out (Option.some.inj e))).trans hh.2⟩) (HS12.out w9.drew (Below.refl _ _).drew))
          | fail)
        have HTP := Lib.hid (told_drop (k := ((on : Int), (sn : Int))) rfl s1 c1)
        obtain ⟨hI, hU⟩ := H3.out.less (Below.refl _ w3).drew HP9.out HT9.out (Below.refl _ w9).drew g1 t1 (by rw [← HSE.out, HAB.out]; exact HTP.out)
        go_wp2_with fail
        go_roundw
        case rel => exact ⟨i + 1, _, HP.out, by go_num, Lib.hid hI, Lib.hid (by rw [HNX.out, ← HS1.out, HSE.out]), Lib.hid (HT3.out.trans hU)⟩
        case measure => have := HP.out; simp [RowKit.intOf]; omega
      · have hlk : ∀ n, (Instr.lookup 82 (.map (some mb)) (.agg #[.int .i64 ko, .int .i64 ks]) true).run Tryd.prog (w1.drewN n) = .ok (.tuple #[.slice none 0 0, .bool false]) (w1.drewN n) := fun n => ((h1.below (below_drewN (Below.refl _ _) n)).no HKY.out hin).1
        have HSE : Hid (dropSs S (kl.take (i + 1)) = dropSs S (kl.take i)) := Lib.hid (by
          rw [HNX.out]
          exact dropS_no (by rw [← HS1.out, kbs_fst]; exact hin))
        clear hal bx h1 ck dk H1 HTU1 hin
        go_wp2_with fail
        rw [← hw1, ← hkb]
        clear hw1 hkb q0 q1 hgl
        go_quiet (fail)
        go_wp2_with fail
        go_roundw
        case rel => exact ⟨i + 1, T1, HP.out, by go_num, Lib.hid (H1b.out.below (below_drewN (Below.refl _ _) _)), Lib.hid (by rw [HSE.out]; exact HS1.out), Lib.hid (HT1.out.trans (Turn.ofBelow (below_drewN (Below.refl _ _) _)))⟩
        case measure => have := HP.out; simp [RowKit.intOf]; omega
    · have hil : i = kl.length := by omega
      subst hil
      have hSS : T1.map kbs = dropSs S kl := by have := HS1.out; rwa [List.take_length] at this
      have p0 := H1.out.bx.map
      have hl0 := H1.out.bx.lt
      have hlen := fun ty => H1.out.mp.len Tryd.underlying82 ty
      have hSl : (T1.map tb).length = (dropSs S kl).length := by rw [← hSS, List.length_map, List.length_map]
      rw [hSl] at hlen
      have hSn2 := dropSs_len S kl
      have HRES : Hid (Tr wr p (dropSs S kl) own) := Lib.hid ⟨mb, T1, H1.out, hSS⟩
      have HTU := HTU1
      clear hSS hSl
      go_wp2_with fail
      go_ret
      exact ⟨by first | rfl | simp, HRES.out, HTU.out⟩
end Go.Proofs.YtchkadifjbmmpaaDoor

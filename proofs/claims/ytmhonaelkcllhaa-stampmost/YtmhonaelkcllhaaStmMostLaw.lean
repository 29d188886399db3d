/-
  StampMost, as a call: it answers true, whatever it is given.
-/
import Derived.Test.YtmhonaelkcllhaaStmRisesLaw
import Derived.Test.YtmhonaelkcllhaaStmLow
import Derived.Deep.AppendLies
import Derived.Deep.RegionLaw
namespace Go.Proofs.Ytmhonaelkcllhaa
open Go.RowKit Go.Lib

/-- append, as a step of a region that draws: what is handed back owns what was there, and what came. -/
theorem step_append_any {P : Program} {w : World} {ops : Array Oper} {o : Oper} {a : Act} {K : Act → World → Prop} {Q : Exit → Act → World → Prop} {E : Prop} (hgd : o.guard = none) (s x : Operand) (t : TypeId)
    (ho : o.op = .call { callee := .builtin .append, args := #[s, x], argTypes := #[t, t] })
    (base : Nat) (e : TypeId) (i : TypeInfo) (z : Value) (size bytes : Nat) (ht : P.underlying t = some (.slice e)) (hi : P.info? e = some i) (hz : i.zero = some z)
    (hsize : i.size = size) (hby : i.bytes = bytes) (hzs : z.cells.size = size) (hsz : 0 < size)
    (v : Value) (n : Nat) (xs : List Value) (hs : a.eval s = v) (hown : w.ownsRow base e size v n xs)
    (ad : Addr) (m c : Nat) (news : List Value) (hx : a.eval x = .slice (some ad) m c) (hl : news.length = m * size) (hnews : ∀ j u, news[j]? = some u → w.cell? (ad.add j) = some u) (h1 : ∀ u ∈ news, u.oneCell' = true)
    (hm : 0 < n + m) (h63 : n + m ≤ maxLen) (hbytes : (n + m) * bytes ≤ 140737488355328) (hbase : base ≤ w.heap.size)
    (h : ∀ g cap w', w'.ownsRow base e size (.slice (some ⟨g, 0, none⟩) (n + m) cap) (n + m) (xs ++ news) → w.grownBy w' v.ownBlock → K (a.put o.dst (.slice (some ⟨g, 0, none⟩) (n + m) cap)) w') :
    if Region.wanted o (yielded ops a.tmps) = true then Oper.wp P o a w K Q else E := by
  have hw : Region.wanted o (yielded ops a.tmps) = true := by simp [Region.wanted, hgd]
  rw [if_pos hw]
  obtain ⟨v', w', hr, h2, h3, _, _⟩ := run_append_own_at (P := P) w base t o.type e i z size bytes ht hi hz hsize hby hzs hsz v n xs hown ad m c news hl hnews h1 h63 hbytes hbase
  obtain ⟨g, cap, rfl, _, _⟩ := h2.form hm
  unfold Oper.wp execOp
  simp only [ho, resolve, invoke, builtin, Sem.run_bind, Sem.run_pure, Result.andThen_ok, List.map_toArray, List.map_cons, List.map_nil, hs, hx, hr]
  exact h g cap w' h2 h3

/-! The greatest one. -/
theorem lessB_iff (a c b d : Int) : lessB a c b d = true ↔ (a < b ∨ (a = b ∧ c < d)) := by
  unfold lessB
  simp
theorem lessB_no {a c b d : Int} (h : lessB a c b d = false) : ¬ (a < b ∨ (a = b ∧ c < d)) := by
  intro h'
  rw [(lessB_iff a c b d).2 h'] at h
  cases h
theorem lessB_no_mk {a c b d : Int} (h : ¬ (a < b ∨ (a = b ∧ c < d))) : lessB a c b d = false := by
  cases h' : lessB a c b d
  · rfl
  · exact absurd ((lessB_iff a c b d).1 h') h
theorem mxF_mem : ∀ (t : List (Int × Int)) (g : Int × Int), mxF g t = g ∨ mxF g t ∈ t
  | [], _ => .inl rfl
  | p :: t, g => by
    rw [mxF]
    rcases mxF_mem t (if lessB g.1 g.2 p.1 p.2 then p else g) with h | h
    · rw [h]
      split
      · exact .inr (List.mem_cons_self ..)
      · exact .inl rfl
    · exact .inr (List.mem_cons_of_mem _ h)
theorem mxF_top : ∀ (t : List (Int × Int)) (g : Int × Int), lessB (mxF g t).1 (mxF g t).2 g.1 g.2 = false ∧ ∀ p ∈ t, lessB (mxF g t).1 (mxF g t).2 p.1 p.2 = false
  | [], g => ⟨lessB_no_mk (by simp only [mxF]; omega), fun _ h => by cases h⟩
  | p :: t, g => by
    rw [mxF]
    have h := mxF_top t (if lessB g.1 g.2 p.1 p.2 then p else g)
    generalize mxF (if lessB g.1 g.2 p.1 p.2 then p else g) t = M at h
    cases hl : lessB g.1 g.2 p.1 p.2
    · rw [hl] at h
      simp only [Bool.false_eq_true, if_false] at h
      have e1 := lessB_no hl
      have e2 := lessB_no h.1
      refine ⟨h.1, fun q hq => ?_⟩
      rcases List.mem_cons.1 hq with rfl | hq
      · exact lessB_no_mk (by omega)
      · exact h.2 q hq
    · rw [hl] at h
      simp only [if_true] at h
      have e1 := (lessB_iff _ _ _ _).1 hl
      have e2 := lessB_no h.1
      refine ⟨lessB_no_mk (by omega), fun q hq => ?_⟩
      rcases List.mem_cons.1 hq with rfl | hq
      · exact h.1
      · exact h.2 q hq
theorem mxL_mem (l : List (Int × Int)) (h : l ≠ []) : mxL l ∈ l := by
  cases l with
  | nil => exact absurd rfl h
  | cons p t =>
    rw [mxL]
    rcases mxF_mem t p with h | h
    · rw [h]; exact List.mem_cons_self ..
    · exact List.mem_cons_of_mem _ h
theorem mxL_top (l : List (Int × Int)) (p : Int × Int) (h : p ∈ l) : lessB (mxL l).1 (mxL l).2 p.1 p.2 = false := by
  cases l with
  | nil => cases h
  | cons q t =>
    rw [mxL]
    rcases List.mem_cons.1 h with rfl | h
    · exact (mxF_top t p).1
    · exact (mxF_top t q).2 p h
theorem mxL_same (l l' : List (Int × Int)) (h : l ≠ []) (hm : ∀ p, p ∈ l ↔ p ∈ l') : mxL l' = mxL l := by
  have h' : l' ≠ [] := by
    intro e
    obtain ⟨p, hp⟩ := List.exists_mem_of_ne_nil l h
    have := (hm p).1 hp
    rw [e] at this
    cases this
  have a1 := lessB_no (mxL_top l _ ((hm _).2 (mxL_mem l' h')))
  have a2 := lessB_no (mxL_top l' _ ((hm _).1 (mxL_mem l h)))
  exact Prod.ext (by omega) (by omega)
theorem mxL_turn (l : List (Int × Int)) (h : l ≠ []) (j : Nat) : mxL (l.drop j ++ l.take j) = mxL l :=
  mxL_same l _ h (fun p => by
    rw [List.mem_append, or_comm, ← List.mem_append, List.take_append_drop])

set_option maxHeartbeats 1000000 in
theorem most_many (ad : Option Addr) (n cap : Nat) (turn : Int) (w : World) (hn : 30 < n) :
    Calls Try.prog 7 #[.slice ad n cap, .int .i64 turn] w fun e w' => e = .returned (.bool true) ∧ Below w.heap.size w w' := by
  have hz3 : decide (30 < n) = true := by simpa using hn
  go_enter Try.func7, Try.ntmps7
  go_wp2_with fail
  refine (awake_c _).mono ?_
  rintro e w4 ⟨rfl, b4⟩
  go_wp2
  go_ret
  exact ⟨rfl, b4⟩

set_option maxHeartbeats 1000000 in
theorem most_none (ad : Option Addr) (cap : Nat) (turn : Int) (w : World) :
    Calls Try.prog 7 #[.slice ad 0 cap, .int .i64 turn] w fun e w' => e = .returned (.bool true) ∧ Below w.heap.size w w' := by
  go_enter Try.func7, Try.ntmps7
  go_wp2_with fail
  refine (max_none ad cap w).mono ?_
  rintro e w1 ⟨rfl, b1⟩
  have hs1 := b1.size
  have e0 : (mxL []).1 = 0 := rfl
  have e1 : (mxL []).2 = 0 := rfl
  rw [e0, e1]
  clear e0 e1
  go_wp2_with fail
  refine (awake_c _).mono ?_
  rintro e w4 ⟨rfl, b4⟩
  go_wp2
  go_ret
  exact ⟨rfl, (b1.alloc hs1 _).trans (b4.mono (by simp; omega))⟩

theorem sts_new1 (w : World) (n : Nat) (hn : w.heap.size = n) (s t : Int) : Sts (w.alloc (.cells #[.int .i64 s, .int .i64 t] 23)) n 0 [(s, t)] := by
  subst hn
  intro k hk
  rw [cell_of_row _ w.heap.size _ _ _ _ (heap_alloc_new w _), cell_of_row _ w.heap.size _ _ _ _ (heap_alloc_new w _)]
  have hk2 : k < 1 := hk
  match k, hk2 with
  | 0, _ => exact ⟨rfl, rfl⟩

def hasB (l : List (Int × Int)) (p : Int × Int) : Bool := l.any fun q => q.1 == p.1 && q.2 == p.2
theorem hasB_snoc (l : List (Int × Int)) (q p : Int × Int) : hasB (l ++ [q]) p = (hasB l p || (q.1 == p.1 && q.2 == p.2)) := by simp [hasB]
theorem hasB_mem (l : List (Int × Int)) (p : Int × Int) (h : p ∈ l) : hasB l p = true := by
  unfold hasB
  rw [List.any_eq_true]
  exact ⟨p, h, by simp⟩

theorem stampInfo : (Try.prog.info? 23).map (fun i => (i.zero, i.size, i.bytes)) = some (some (.agg #[.int .i64 0, .int .i64 0]), 2, 16) := by kernel_rfl
/-- The cells of stamps, one behind the other. -/
def cs2 : List (Int × Int) → List Value
  | [] => []
  | p :: t => .int .i64 p.1 :: .int .i64 p.2 :: cs2 t
theorem cs2_len : ∀ l : List (Int × Int), (cs2 l).length = l.length * 2
  | [] => rfl
  | p :: t => by simp [cs2, cs2_len t]; omega
theorem cs2_one : ∀ (l : List (Int × Int)), ∀ u ∈ cs2 l, u.oneCell' = true
  | [], _, h => by cases h
  | p :: t, u, h => by
    simp only [cs2, List.mem_cons] at h
    rcases h with rfl | rfl | h
    · rfl
    · rfl
    · exact cs2_one t u h
theorem cs2_app : ∀ (l l' : List (Int × Int)), cs2 l ++ cs2 l' = cs2 (l ++ l')
  | [], _ => rfl
  | p :: t, l' => by simp [cs2, cs2_app t l']
theorem cs2_at : ∀ (l : List (Int × Int)) (k : Nat) (hk : k < l.length), (cs2 l)[k * 2]? = some (.int .i64 l[k].1) ∧ (cs2 l)[k * 2 + 1]? = some (.int .i64 l[k].2)
  | [], _, hk => by simp at hk
  | p :: t, 0, _ => by simp [cs2]
  | p :: t, k + 1, hk => by
    have h := cs2_at t k (by simpa using hk)
    rw [show (k + 1) * 2 = k * 2 + 1 + 1 from by omega]
    simp only [cs2, List.getElem?_cons_succ, List.getElem_cons_succ]
    exact h
theorem Sts.news {w : World} {b o : Nat} : ∀ {l : List (Int × Int)}, Sts w b o l → ∀ i u, (cs2 l)[i]? = some u → w.cell? ⟨b, o + i, none⟩ = some u := by
  intro l h i u hu
  have hi : i < (cs2 l).length := (List.getElem?_eq_some_iff.1 hu).1
  rw [cs2_len] at hi
  have hk : i / 2 < l.length := by omega
  have h1 := cs2_at l (i / 2) hk
  have h2 := h (i / 2) hk
  rcases Nat.mod_two_eq_zero_or_one i with e | e
  · rw [show i / 2 * 2 = i from by omega] at h1 h2
    rw [h1.1] at hu
    rw [h2.1, hu]
  · rw [show i / 2 * 2 + 1 = i from by omega] at h1
    rw [show o + i / 2 * 2 + 1 = o + i from by omega] at h2
    rw [h1.2] at hu
    rw [h2.2, hu]
theorem Sts.drop {w : World} {b o : Nat} {l : List (Int × Int)} (h : Sts w b o l) (j : Nat) : Sts w b (o + j * 2) (l.drop j) := by
  intro k hk
  have h1 := h (j + k) (by simp at hk; omega)
  rw [show o + (j + k) * 2 = o + j * 2 + k * 2 from by omega] at h1
  simpa [List.getElem_drop] using h1
theorem Sts.take {w : World} {b o : Nat} {l : List (Int × Int)} (h : Sts w b o l) (j : Nat) : Sts w b o (l.take j) := by
  intro k hk
  have h1 := h k (by simp at hk; omega)
  simpa [List.getElem_take] using h1

set_option maxHeartbeats 16000000 in
set_option maxRecDepth 100000 in
theorem most_some (l : List (Int × Int)) (b o cap : Nat) (turn : Int) (w : World) (hn : l.length ≤ 30) (h0 : 0 < l.length) (hcap : l.length ≤ cap) (hS : Sts w b o l) :
    Calls Try.prog 7 #[.slice (some ⟨b, o, none⟩) l.length cap, .int .i64 turn] w fun e w' => e = .returned (.bool true) ∧ Below w.heap.size w w' := by
  have hz3 : decide (30 < l.length) = false := by simpa using hn
  have hz0 : ((l.length : Int) == 0) = false := beq_eq_false_iff_ne.2 (by omega)
  have CM := Lib.hid (max_c l (.slice (some ⟨b, o, none⟩) l.length cap) w (by omega) ⟨_, cap, rfl, hcap, fun _ => ⟨b, o, rfl, hS⟩⟩)
  have HS := Lib.hid hS
  have hbw0 : b < w.heap.size := World.block_lt_of_cell? w _ (hS 0 h0).1
  have hne : l ≠ [] := by intro e; rw [e] at h0; simp at h0
  have HTOP := Lib.hid (fun k (hk : k < l.length) => mxL_top l l[k] (List.getElem_mem hk))
  have HMEM := Lib.hid (hasB_mem l (mxL l) (mxL_mem l hne))
  have HTURN := Lib.hid (fun j => mxL_turn l hne j)
  unfold maxT at CM
  clear hS hne
  generalize mxL l = XY at CM HTOP HMEM HTURN
  obtain ⟨X, Y⟩ := XY
  simp only at CM HTOP
  go_enter Try.func7, Try.ntmps7
  go_wp2_with fail
  refine CM.out.mono ?_
  rintro e w1 ⟨rfl, b1⟩
  have hs1 := b1.size
  have HB1 := Lib.hid b1
  clear b1 CM
  go_wp2
  obtain ⟨tb, htb⟩ : ∃ tb, tb = w1.heap.size := ⟨_, rfl⟩
  have KT1 : Hid (Clk 23 (w1.alloc (.cells #[.int .i64 X, .int .i64 Y] 23)) tb X Y) := Lib.hid (by rw [htb]; exact heap_alloc_new w1 _)
  rw [← htb]
  have htw : w.heap.size ≤ tb := by omega
  clear htb
  go_loopw [6, 7] (fun v6 v7 wr => ∃ (k : Nat), k ≤ l.length ∧ v7 = .int .i64 (k : Int) ∧ v6 = .bool (hasB (l.take k) (X, Y)) ∧ Clk 23 wr tb X Y ∧ Below w.heap.size w wr) (fun _ v7 _ => l.length - (intOf v7).toNat)
  case atStart => exact ⟨0, by omega, rfl, rfl, KT1.out, HB1.out.alloc hs1 _⟩
  case round =>
    obtain ⟨k, hk, rfl, rfl, kt, hbw⟩ := hrel
    have hlt := kt.lt
    have hsw := hbw.size
    have t0 := kt.cell0
    have t1 := kt.cell1
    have KT := Lib.hid kt
    clear kt KT1 HB1
    by_cases hp : k < l.length
    · obtain ⟨c0, c1⟩ := HS.out k hp
      have d0 := (hbw.cell (World.block_lt_of_cell? w _ c0)).trans c0
      have d1 := (hbw.cell (World.block_lt_of_cell? w _ c1)).trans c1
      have htop := HTOP.out k hp
      have hnext : hasB (l.take (k + 1)) (X, Y) = (hasB (l.take k) (X, Y) || (l[k].1 == X && l[k].2 == Y)) := by
        rw [List.take_succ_eq_append_getElem hp, hasB_snoc]
      clear c0 c1
      generalize l[k] = u at d0 d1 htop hnext
      obtain ⟨U, V⟩ := u
      simp only at d0 d1 htop hnext
      have hbl : b < wr.heap.size := World.block_lt_of_cell? wr _ d0
      generalize hasB (l.take k) (X, Y) = HK at hnext
      have HNEXT := Lib.hid hnext
      clear hnext
      go_upto_region 10 with fail
      go_cut [6] (fun v6 wc => v6 = .bool (HK || (U == X && V == Y)) ∧ ∃ q, wc = wr.drewN q)
      case first =>
        cases HK
        · by_cases e1 : U = X
          · have f1 : (U == X) = true := by simpa using e1
            by_cases e2 : V = Y
            · have f2 : (V == Y) = true := by simpa using e2
              clear e1 e2
              go_quiet (fail)
              go_wp2_with fail
              go_meet
              exact ⟨by rw [f1, f2]; rfl, nq, rfl⟩
            · have f2 : (V == Y) = false := by simpa using e2
              clear e1 e2
              go_quiet (fail)
              go_wp2_with fail
              go_meet
              exact ⟨by rw [f1, f2]; rfl, nq, rfl⟩
          · have f1 : (U == X) = false := by simpa using e1
            clear e1
            go_quiet (fail)
            go_wp2_with fail
            go_meet
            exact ⟨by rw [f1]; rfl, nq, rfl⟩
        · go_quiet (fail)
          go_wp2_with fail
          go_meet
          exact ⟨rfl, nq, rfl⟩
      case rest =>
        obtain ⟨rfl, q, rfl⟩ := hcut
        have KT2 : Hid (Clk 23 (wr.drewN q) tb X Y) := Lib.hid (by exact KT.out)
        have HB2 : Hid (Below w.heap.size w (wr.drewN q)) := Lib.hid (below_drewN hbw q)
        have HC2 : Hid ((wr.drewN q).cell? ⟨b, o + k * 2, none⟩ = some (.int .i64 U) ∧ (wr.drewN q).cell? ⟨b, o + k * 2 + 1, none⟩ = some (.int .i64 V)) := Lib.hid ⟨d0, d1⟩
        rw [← HNEXT.out]
        generalize wr.drewN q = W5 at KT2 HB2 HC2
        clear t0 t1 d0 d1 KT hbw hlt hsw hbl HNEXT
        have HS5 : Hid (∀ w' : World, Below W5.heap.size W5 w' → w'.cell? ⟨tb, 0, none⟩ = some (.int .i64 X) ∧ w'.cell? ⟨tb, 1, none⟩ = some (.int .i64 Y) ∧ w'.cell? ⟨b, o + k * 2, none⟩ = some (.int .i64 U) ∧ w'.cell? ⟨b, o + k * 2 + 1, none⟩ = some (.int .i64 V)) := Lib.hid (fun w' hb => by
          have kk : ∀ {a : Addr} {v : Value}, W5.cell? a = some v → w'.cell? a = some v := fun {a v} hc => (hb.cell (World.block_lt_of_cell? W5 a hc)).trans hc
          exact ⟨(KT2.out.below hb).cell0, (KT2.out.below hb).cell1, kk HC2.out.1, kk HC2.out.2⟩)
        have HM1 : Hid (∀ (B : Nat) (W : World), Sts W B 0 [(U, V)] → Calls Try.prog 15 #[.slice (some ⟨B, 0, none⟩) 1 1] W fun e w' => e = .returned (.agg #[.int .i64 U, .int .i64 V]) ∧ Below W.heap.size W w') := Lib.hid (fun B W h => max_one (U, V) B 0 W h)
        go_wp2
        go_region_held3 (fun w' => w'.cell? ⟨tb, 0, none⟩ = some (.int .i64 X) ∧ w'.cell? ⟨tb, 1, none⟩ = some (.int .i64 Y) ∧ w'.cell? ⟨b, o + k * 2, none⟩ = some (.int .i64 U) ∧ w'.cell? ⟨b, o + k * 2 + 1, none⟩ = some (.int .i64 V)) (exact HS5.out _ (by first | assumption | exact (Below.refl _ _).drew | exact b6'.alloc b6'.size _))
          (first
          | (go_at_call 13; refine (less_c _ _ _ _ _).mono ?_; rintro e w6 ⟨rfl, b6⟩; have b6' : Below W5.heap.size W5 w6 := Below.next (by exact (Below.refl _ _).drew) b6; clear b6)
          | (go_at_call 15; refine (HM1.out _ _ (by exact sts_new1 _ _ rfl _ _)).mono ?_; rintro e w7 ⟨rfl, b7⟩; have b7' : Below W5.heap.size W5 w7 := Below.next (by exact b6'.alloc b6'.size _) b7; clear b7))
        have KT7 := Lib.hid (KT2.out.below b7')
        have HB7 := Lib.hid (HB2.out.trans (b7'.mono HB2.out.size))
        clear b6' b7' HS5 HM1 HC2 KT2 HB2
        go_wp2
        go_roundw
        case rel => exact ⟨k + 1, hp, by go_num, rfl, KT7.out, HB7.out⟩
        case measure => simp [intOf]; omega
    · have hkk : k = l.length := by omega
      subst hkk
      rw [List.take_length, HMEM.out]
      go_wp2_with fail
      refine (low_c turn l.length wr (by omega) (by omega)).mono ?_
      rintro e w3 ⟨r, rfl, hr0, hr1, rfl⟩
      obtain ⟨j, rfl⟩ := Int.eq_ofNat_of_zero_le hr0
      have hj : j < l.length := by omega
      have hj1 : ¬ cap = j := by omega
      have hj2 : j ≤ cap := by omega
      have hj3 : j ≤ l.length := by omega
      clear hr0 hr1 t0 t1
      obtain ⟨i0, hi, hz0', hz1, hz2⟩ := info_parts stampInfo
      have HSW : Hid (Sts wr b o l) := Lib.hid (fun k hk => ⟨(hbw.cell (World.block_lt_of_cell? w _ (HS.out k hk).1)).trans (HS.out k hk).1, (hbw.cell (World.block_lt_of_cell? w _ (HS.out k hk).2)).trans (HS.out k hk).2⟩)
      have h8 : Hid (∀ i u, (cs2 (l.drop j))[i]? = some u → wr.drew.cell? ((⟨b, o + j * 2, none⟩ : Addr).add i) = some u) := Lib.hid (fun i u hu => by
        rw [Go.WideShapes.add_plain]
        exact (HSW.out.drop j).news i u hu)
      have h8b : Hid (∀ i u, (cs2 (l.take j))[i]? = some u → wr.drew.cell? ((⟨b, o, none⟩ : Addr).add i) = some u) := Lib.hid (fun i u hu => by
        rw [Go.WideShapes.add_plain]
        exact (HSW.out.take j).news i u hu)
      go_wp2_with fail
      go_region_law (first
        | (refine step_append_any rfl _ _ 24 rfl wr.heap.size 23 i0 (.agg #[.int .i64 0, .int .i64 0]) 2 16 Try.underlying24 hi hz0' hz1 hz2 rfl (by decide) (.slice (some ⟨g8, 0, none⟩) (l.length - j) cap8) (l.length - j) _ rfl hown8.out ⟨b, o, none⟩ j cap (cs2 (l.take j)) rfl (by rw [cs2_len, List.length_take]; omega) (by exact h9.out) (cs2_one _) (by omega) (by unfold maxLen; omega) (by omega) (by exact hz8) ?_; intro g9 cap9 w9 hown9 hgr9; have HOWN9 := Lib.hid hown9; have HGR9 := Lib.hid hgr9; clear hown9 hgr9)
        | (refine step_append_any rfl _ _ 24 rfl wr.heap.size 23 i0 (.agg #[.int .i64 0, .int .i64 0]) 2 16 Try.underlying24 hi hz0' hz1 hz2 rfl (by decide) (.slice none 0 0) 0 [] rfl ⟨rfl, .inl ⟨rfl, rfl⟩⟩ ⟨b, o + j * 2, none⟩ (l.length - j) (cap - j) (cs2 (l.drop j)) rfl (by rw [cs2_len, List.length_drop]) (by exact h8.out) (cs2_one _) (by omega) (by unfold maxLen; omega) (by omega) (by exact Nat.le_refl _) ?_; intro g8 cap8 w8 hown8' hgr8'; have hown8 : Hid (w8.ownsRow wr.heap.size 23 2 (.slice (some ⟨g8, 0, none⟩) (l.length - j) cap8) (l.length - j) (cs2 (l.drop j))) := Lib.hid (by simpa using hown8'); have hgr8 := Lib.hid hgr8'; have hz8 : wr.heap.size ≤ w8.heap.size := hgr8'.size; have h9 : Hid (∀ i u, (cs2 (l.take j))[i]? = some u → w8.cell? ((⟨b, o, none⟩ : Addr).add i) = some u) := Lib.hid (fun i u hu => hgr8.out.cell (h8b.out i u hu) (by show _ ≠ Option.none; simp)); clear hown8' hgr8'))
      have hg8 : wr.heap.size ≤ g8 := by
        obtain ⟨g, c, e, h1, _⟩ := hown8.out.form (by omega)
        simp only [Value.slice.injEq, Option.some.injEq, Addr.mk.injEq] at e
        omega
      have hgr9 : w8.grownBy w9 (some g8) := HGR9.out
      have KT9 : Hid (Clk 23 w9 tb X Y) := Lib.hid (by
        have k8 : Clk 23 w8 tb X Y := (hgr8.out.block tb hlt (by show _ ≠ Option.none; simp)).trans KT.out
        exact k8.far hgr9 (by omega))
      have HB9 : Hid (Below w.heap.size w w9) := Lib.hid (by
        have k8 : Below w.heap.size wr w8 := ⟨hgr8.out.os, hgr8.out.tape, hgr8.out.output, hgr8.out.size, fun i hi => hgr8.out.block i (by show i < wr.heap.size; omega) (by show _ ≠ Option.none; simp)⟩
        exact (hbw.trans k8).trans (below_of_grown hgr9 (by omega) (by omega)))
      have hL : (l.drop j ++ l.take j).length = l.length := by simp; omega
      have HMX : Hid (∀ W, Below w9.heap.size w9 W → Calls Try.prog 15 #[.slice (some ⟨g9, 0, none⟩) l.length cap9] W fun e w' => e = .returned (.agg #[.int .i64 X, .int .i64 Y]) ∧ Below W.heap.size W w') := Lib.hid (fun W hb => by
        have hnj : l.length - j + j = l.length := by omega
        have hown := HOWN9.out
        rw [hnj, cs2_app] at hown
        obtain ⟨_, _, e, _, _⟩ := hown.form (by omega)
        have hst : Sts w9 g9 0 (l.drop j ++ l.take j) := fun k hk => by
          rw [hL] at hk
          have h1 := cs2_at (l.drop j ++ l.take j) k (by rw [hL]; exact hk)
          rw [Nat.zero_add]
          exact ⟨(World.ownsRow.cellAt hown (k * 2) (by omega)).trans h1.1, (World.ownsRow.cellAt hown (k * 2 + 1) (by omega)).trans h1.2⟩
        have hcap9 : l.length ≤ cap9 := by
          rcases hown.2 with ⟨e, _⟩ | ⟨g, c, cur, e, _, _, h4, _⟩
          · cases e
          · simp only [Value.slice.injEq] at e
            omega
        have h := max_c (l.drop j ++ l.take j) (.slice (some ⟨g9, 0, none⟩) l.length cap9) W (by rw [hL]; omega) ⟨_, cap9, by rw [hL], by rw [hL]; exact hcap9, fun _ => ⟨g9, 0, rfl, hst.below hb⟩⟩
        unfold maxT at h
        rw [HTURN.out j] at h
        exact h)
      have HS9 : Hid (∀ w' : World, Below w9.heap.size w9 w' → w'.cell? ⟨tb, 0, none⟩ = some (.int .i64 X) ∧ w'.cell? ⟨tb, 1, none⟩ = some (.int .i64 Y)) := Lib.hid (fun w' hb => ⟨(KT9.out.below hb).cell0, (KT9.out.below hb).cell1⟩)
      clear hgr9 hL hg8 hown8 hgr8 h9 hz8 HOWN9 HGR9 h8 h8b HSW hi hz0' hz1 hz2 KT
      go_wp2
      go_region_held3 (fun w' => w'.cell? ⟨tb, 0, none⟩ = some (.int .i64 X) ∧ w'.cell? ⟨tb, 1, none⟩ = some (.int .i64 Y)) (exact HS9.out _ (by first | assumption | exact (Below.refl _ _).drew | exact Below.refl _ _))
        (first
        | (go_at_call 15; refine (HMX.out _ (by exact (Below.refl _ _).drew)).mono ?_; rintro e w6 ⟨rfl, b6⟩; have b6' : Below w9.heap.size w9 w6 := Below.next (by exact (Below.refl _ _).drew) b6; clear b6)
        | (go_at_call 10; refine (awake_c _).mono ?_; rintro e w7 ⟨rfl, b7⟩; have b7' : Below w9.heap.size w9 w7 := Below.next (by exact b6') b7; clear b7))
      go_wp2
      go_ret
      exact ⟨rfl, HB9.out.trans (b7'.mono HB9.out.size)⟩

end Go.Proofs.Ytmhonaelkcllhaa

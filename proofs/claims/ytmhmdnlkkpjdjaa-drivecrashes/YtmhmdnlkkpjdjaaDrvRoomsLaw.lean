/-
  The law on room, walked.
-/
import Derived.Test.YtmhmdnlkkpjdjaaDrvNums
namespace Go.Proofs.Ytmhmdnlkkpjdjaa
open Go.RowKit Go.Lib

def AB (P : List Pf) : Prop := ∀ x ∈ P, x.1 = [97] ∨ x.1 = [98]
theorem usedP_ins (x : Pf) : ∀ P : List Pf, usedP (insP x P) = usedP P + x.2.1.length
  | [] => by simp [insP, usedP]
  | y :: r => by
    rw [insP]
    split
    · simp [usedP]; omega
    · simp [usedP, usedP_ins x r]; omega
theorem insP_mem {x y : Pf} : ∀ {P : List Pf}, y ∈ insP x P → y = x ∨ y ∈ P
  | [], h => by simpa [insP] using h
  | z :: r, h => by
    rw [insP] at h
    split at h
    · simpa using h
    · rcases List.mem_cons.1 h with rfl | h
      · exact .inr (List.mem_cons_self ..)
      · rcases insP_mem h with h | h
        · exact .inl h
        · exact .inr (List.mem_cons_of_mem _ h)
theorem insP_len (x : Pf) : ∀ P : List Pf, (insP x P).length = P.length + 1
  | [] => rfl
  | y :: r => by
    rw [insP]
    split
    · rfl
    · simp [insP_len x r]
theorem lookP_none {s : List UInt8} : ∀ {P : List Pf}, (∀ x ∈ P, x.1 ≠ s) → lookP s P = none
  | [], _ => rfl
  | y :: r, h => by
    rw [lookP, if_neg (by simpa using h y (List.mem_cons_self ..))]
    exact lookP_none (fun x hx => h x (List.mem_cons_of_mem _ hx))
theorem lookP_insP {x : Pf} : ∀ {P : List Pf}, (∀ y ∈ P, y.1 ≠ x.1) → lookP x.1 (insP x P) = some x.2
  | [], _ => by simp [insP, lookP]
  | y :: r, h => by
    rw [insP]
    split
    · rw [lookP, if_pos (by simp)]
    · rw [lookP, if_neg (by simpa using h y (List.mem_cons_self ..))]
      exact lookP_insP (fun z hz => h z (List.mem_cons_of_mem _ hz))
theorem lookP_mem {s : List UInt8} {q : List Int × Nat} : ∀ {P : List Pf}, lookP s P = some q → (s, q) ∈ P
  | y :: r, h => by
    rw [lookP] at h
    split at h
    · rename_i hy
      obtain ⟨n, g⟩ := y
      simp at hy h
      subst hy h
      exact List.mem_cons_self ..
    · exact List.mem_cons_of_mem _ (lookP_mem h)

theorem usedP_upd {s : List UInt8} {a a' : List Int} {f f' : Nat} {P : List Pf} (h : lookP s P = some (a, f)) (hn : (P.map (·.1)).Nodup) : usedP (updP s (a', f') P) + a.length = usedP P + a'.length := by
  induction P with
  | nil => cases h
  | cons y r ih =>
    rw [lookP] at h
    rw [List.map_cons, List.nodup_cons] at hn
    unfold updP at ih ⊢
    rw [List.map_cons]
    split at h
    · rename_i hy
      rw [if_pos hy]
      have e : r.map (fun y : Pf => if (y.1 == s) = true then (y.1, (a', f')) else y) = r := by
        have : ∀ z ∈ r, ¬ (z.1 == s) = true := fun z hz he => hn.1 (List.mem_map.2 ⟨z, hz, by simp at hy he; rw [he, hy]⟩)
        conv => rhs; rw [← List.map_id r]
        exact List.map_congr_left fun z hz => by rw [if_neg (this z hz)]; rfl
      rw [e]
      have e2 : y.2 = (a, f) := by simpa using h
      simp [usedP, e2]
      omega
    · rename_i hy
      rw [if_neg hy]
      have := ih h hn.2
      simp only [usedP]
      omega
theorem usedP_del {s : List UInt8} {a : List Int} {f : Nat} {P : List Pf} (h : lookP s P = some (a, f)) (hn : (P.map (·.1)).Nodup) : usedP (delP s P) + a.length = usedP P := by
  induction P with
  | nil => cases h
  | cons y r ih =>
    rw [lookP] at h
    rw [List.map_cons, List.nodup_cons] at hn
    unfold delP at ih ⊢
    rw [List.filter_cons]
    split at h
    · rename_i hy
      have e : r.filter (fun y : Pf => !(y.1 == s)) = r := by
        refine List.filter_eq_self.2 fun z hz => ?_
        have : ¬ (z.1 == s) = true := fun he => hn.1 (List.mem_map.2 ⟨z, hz, by simp at hy he; rw [he, hy]⟩)
        simpa using this
      rw [e, hy]
      have e2 : y.2 = (a, f) := by simpa using h
      simp [usedP, e2]
      omega
    · rename_i hy
      have := ih h hn.2
      have hy' : (y.1 == s) = false := by simpa using hy
      rw [hy']
      simp only [Bool.not_false, if_true, usedP]
      omega
theorem Ses.drew {w0 w : World} {p : Nat} {P : List Pf} {m : Nat} {G : List (Value × List Int)} {T : List (Value × List (List UInt8))} (h : Ses w0 w p P m G T) : Ses w0 w.drew p P m G T := h.below (Below.refl _ _).drew
theorem Bl.drew1 {w : World} {v : Value} {l : List Int} (h : Bl w v l) : Bl w.drew v l := h
theorem made_bl {n : Nat} (hn : n ≤ 1000000) {W : World} {g : Nat} (h : W.heap[g]? = some (.cells (madeCells #[.int .u8 0] n) 5 (0, 0))) : Bl W (.slice (some ⟨g, 0, none⟩) n n) (List.replicate n 0) := by
  have h0 := (made_row n hn W).nl
  have e : (madeCells #[Value.int .u8 0] n) = Array.replicate n (Value.int .u8 0) := by
    apply Array.ext
    · simp [madeCells]
    · intro i h1 h2
      simp [madeCells, Nat.mod_one]
  rw [e] at h
  have := bl_of_box (T := 5) (cap := n) (l := List.replicate n 0) (w := W) (g := g) h (fun k hk => by
    simp at hk
    simp [hk])
  rw [List.length_replicate] at this
  exact this
theorem new2A (w : World) (a b : Obj) : ((w.alloc a).alloc b).drew.heap[w.heap.size + 1]? = some b := by
  have := heap_alloc_new (w.alloc a) b
  rw [show (w.alloc a).heap.size = w.heap.size + 1 by simp] at this
  exact this
theorem new2B (w : World) (a b : Obj) : ((w.alloc a).alloc b).drew.heap[w.heap.size]? = some a :=
  (Below.heap_alloc (w.alloc a) b w.heap.size (by simp)).trans (heap_alloc_new w a)
theorem Ses.nodup {w0 w : World} {p : Nat} {P : List Pf} {m : Nat} {G : List (Value × List Int)} {T : List (Value × List (List UInt8))} (h : Ses w0 w p P m G T) : (P.map (·.1)).Nodup := by
  obtain ⟨_, L, _, hd, rfl, _⟩ := h
  have e : (L.map pl).map (·.1) = L.map (·.n) := by rw [List.map_map]; rfl
  rw [e, List.nodup_iff_pairwise_ne, List.pairwise_map]
  exact hd.so.imp fun hxy e => by rw [e, WideAt.bytes_irrefl] at hxy; cases hxy
theorem updP_mem {s : List UInt8} {g : List Int × Nat} {P : List Pf} {x : Pf} (h : x ∈ updP s g P) : ∃ y ∈ P, x.1 = y.1 := by
  obtain ⟨y, hy, rfl⟩ := List.mem_map.1 h
  refine ⟨y, hy, ?_⟩
  split <;> rfl
theorem appP_facts {s : List UInt8} {l : List Int} {P : List Pf} (hn : (P.map (·.1)).Nodup) : usedP (appP s l P) = usedP P + l.length ∧ (appP s l P).length ≤ P.length + 1 ∧ ∀ x ∈ appP s l P, x.1 = s ∨ ∃ y ∈ P, x.1 = y.1 := by
  unfold appP
  cases hlk : lookP s P with
  | none =>
    refine ⟨by rw [usedP_ins], by rw [insP_len]; omega, fun x hx => ?_⟩
    rcases insP_mem hx with rfl | hx
    · exact .inl rfl
    · exact .inr ⟨x, hx, rfl⟩
  | some q =>
    obtain ⟨a, f⟩ := q
    have h1 := usedP_upd (a' := a ++ l) (f' := f) hlk hn
    refine ⟨?_, by simp [updP], fun x hx => .inr (updP_mem hx)⟩
    simp only [List.length_append] at h1
    show usedP (updP s (a ++ l, f) P) = _
    omega

set_option maxHeartbeats 16000000 in
set_option maxRecDepth 4000 in
theorem rooms_main (most : Int) (l : List Int) (cut : Int) (A1 : Option Addr) (C1 : Nat) (w : World) (hl : 0 < l.length → ∃ b o, A1 = some ⟨b, o, none⟩ ∧ Nums w b o l) (h1 : l.length ≤ 40) :
    Calls Try.prog 5 #[.int .i64 most, .slice A1 l.length C1, .int .i64 cut] w fun e w' => e = .returned (.bool true) ∧ Below w.heap.size w w' := by
  have HAW := Lib.hid (awake_c)
  have e1 : decide ((40 : Int) < (l.length : Int)) = false := by simp; omega
  have HL := Lib.hid hl
  clear hl
  go_enter Try.func5, Try.ntmps5
  go_wp2_with fail
  refine (low_c most 500 w (by decide) (by decide)).mono ?_
  rintro e w1 ⟨M, rfl, hM0, hM1, rfl⟩
  obtain ⟨m, rfl⟩ := Int.eq_ofNat_of_zero_le hM0
  have hm : m < 500 := by omega
  clear hM0 hM1
  go_wp2_with fail
  refine (sNew w w m (by omega) (Below.refl _ _)).mono ?_
  rintro e w1 ⟨p, rfl, h1⟩
  have S1 := Lib.hid h1
  clear h1
  go_wp2
  go_loopw [8, 9] (fun v8 v9 wr => ∃ (u i : Nat) (P : List Pf), i ≤ l.length ∧ v9 = .int .i64 (i : Int) ∧ v8 = .int .i64 (u : Int) ∧ u ≤ m ∧ Hid (Ses w wr p P m [] []) ∧ Hid (usedP P = u) ∧ Hid (AB P) ∧ Hid (P.length ≤ i)) (fun _ v9 _ => l.length - (RowKit.intOf v9).toNat)
  case atStart => exact ⟨0, 0, [], by omega, rfl, rfl, by omega, S1, Lib.hid rfl, Lib.hid (fun x hx => by cases hx), Lib.hid (Nat.le_refl _)⟩
  case round =>
    obtain ⟨u, i, P, hi, rfl, rfl, hu, HS, HU, HAB, HPL⟩ := hrel
    by_cases hp : i < l.length
    · obtain ⟨b, o, rfl, hnum⟩ := HL.out (by omega)
      have ci := (hnum.below HS.out.bl) i hp
      have hbl := World.block_lt_of_cell? _ _ ci
      clear hnum
      generalize l[i] = z at ci
      go_wp2_with fail
      refine (low_c z 41 wr (by decide) (by decide)).mono ?_
      rintro e w2 ⟨N, rfl, hN0, hN1, rfl⟩
      obtain ⟨n, rfl⟩ := Int.eq_ofNat_of_zero_le hN0
      have hn : n < 41 := by omega
      clear hN0 hN1
      have hmk := make_run n (by omega)
      generalize hMC : madeCells #[Value.int .u8 0] n = MC at hmk
      go_wp2_with fail
      rcases Nat.mod_two_eq_zero_or_one i with hmod | hmod
      · have hrem : ((i : Int).tmod 2) = 0 := by
          have := Int.ofNat_tmod i 2
          rw [hmod] at this
          exact this.symm
        by_cases hfit : u + n ≤ m
        · have e5 : decide ((n : Int) ≤ (m : Int) - (u : Int)) = true := by simp; omega
          have HND := Lib.hid HS.out.nodup
          have HAP : Hid (∀ (W : World) (g : Nat), Below wr.heap.size wr W → W.heap[g]? = some (.cells MC 5 (0, 0)) → Calls Try.prog 10 #[.pointer (some ⟨p, 0, none⟩), .string ⟨#[97]⟩, .slice (some ⟨g, 0, none⟩) n n] W fun e w' => e = .returned (.int .i64 0) ∧ Ses w w' p (appP [97] (List.replicate n 0) P) m [] []) := Lib.hid (fun W g hB hG => sAppend (HS.out.below hB) ⟨#[97]⟩ (by decide) (by decide) _ (List.replicate n 0) (made_bl (by omega) (by rw [hMC]; exact hG)) (by rw [HU.out, List.length_replicate]; exact hfit) (by have := HPL.out; unfold maxLen; omega))
          have HUS : Hid (∀ W, Ses w W p (appP [97] (List.replicate n 0) P) m [] [] → Calls Try.prog 15 #[.pointer (some ⟨p, 0, none⟩)] W fun e w' => e = .returned (.int .i64 ((u : Int) + (n : Int))) ∧ W = w') := Lib.hid (fun W hW => by
            have hh := sUsed hW
            rw [(appP_facts HND.out).1, HU.out, List.length_replicate, Int.natCast_add] at hh
            exact hh)
          clear hmod hMC
          go_region_with (first | (go_at_call 10; refine (HAP.out _ _ (((Below.refl _ _).alloc (Nat.le_refl _) _).alloc (by simp) _).drew (by first | exact new2A _ _ _ | exact new2B _ _ _)).mono ?_; rintro e w3 ⟨rfl, h3⟩; have S9 := Lib.hid h3; clear h3))
          all_goals
            clear hrem hmk HAP HS
            go_wp2_with fail
            refine (HUS.out _ S9.out).mono ?_
            rintro e w4 ⟨rfl, rfl⟩
            go_wp2
            go_roundw
            case rel => exact ⟨u + n, i + 1, (appP [97] (List.replicate n 0) P), hp, by go_num, by rw [Int.natCast_add], hfit, S9, Lib.hid (by rw [(appP_facts HND.out).1, HU.out, List.length_replicate]), Lib.hid (fun x hx => by
                rcases (appP_facts HND.out).2.2 x hx with h | ⟨y, hy, h⟩
                · rw [h]; exact .inl rfl
                · rw [h]; exact HAB.out y hy), Lib.hid (by have := (appP_facts (s := [97]) (l := List.replicate n (0 : Int)) HND.out).2.1; have := HPL.out; omega)⟩
            case measure => simp [RowKit.intOf]; omega
        · have e5 : decide ((n : Int) ≤ (m : Int) - (u : Int)) = false := by simp; omega
          have HND := Lib.hid HS.out.nodup
          have HAP : Hid (∀ (W : World) (g : Nat), Below wr.heap.size wr W → W.heap[g]? = some (.cells MC 5 (0, 0)) → Calls Try.prog 10 #[.pointer (some ⟨p, 0, none⟩), .string ⟨#[97]⟩, .slice (some ⟨g, 0, none⟩) n n] W fun e w' => e = .returned (.int .i64 8) ∧ Ses w w' p P m [] []) := Lib.hid (fun W g hB hG => sFull (HS.out.below hB) ⟨#[97]⟩ (by decide) (by decide) _ (List.replicate n 0) (made_bl (by omega) (by rw [hMC]; exact hG)) (by rw [HU.out, List.length_replicate]; omega))
          have HUS : Hid (∀ W, Ses w W p P m [] [] → Calls Try.prog 15 #[.pointer (some ⟨p, 0, none⟩)] W fun e w' => e = .returned (.int .i64 (u : Int)) ∧ W = w') := Lib.hid (fun W hW => by
            have hh := sUsed hW
            rw [HU.out] at hh
            exact hh)
          clear hmod hMC
          go_region_with (first | (go_at_call 10; refine (HAP.out _ _ (((Below.refl _ _).alloc (Nat.le_refl _) _).alloc (by simp) _).drew (by first | exact new2A _ _ _ | exact new2B _ _ _)).mono ?_; rintro e w3 ⟨rfl, h3⟩; have S9 := Lib.hid h3; clear h3))
          all_goals
            clear hrem hmk HAP HS
            go_wp2_with fail
            refine (HUS.out _ S9.out).mono ?_
            rintro e w4 ⟨rfl, rfl⟩
            go_wp2
            go_roundw
            case rel => exact ⟨u, i + 1, P, hp, by go_num, rfl, hu, S9, HU, HAB, Lib.hid (by have := HPL.out; omega)⟩
            case measure => simp [RowKit.intOf]; omega
      · have hrem : ((i : Int).tmod 2) = 1 := by
          have := Int.ofNat_tmod i 2
          rw [hmod] at this
          exact this.symm
        by_cases hfit : u + n ≤ m
        · have e5 : decide ((n : Int) ≤ (m : Int) - (u : Int)) = true := by simp; omega
          have HND := Lib.hid HS.out.nodup
          have HAP : Hid (∀ (W : World) (g : Nat), Below wr.heap.size wr W → W.heap[g]? = some (.cells MC 5 (0, 0)) → Calls Try.prog 10 #[.pointer (some ⟨p, 0, none⟩), .string ⟨#[98]⟩, .slice (some ⟨g, 0, none⟩) n n] W fun e w' => e = .returned (.int .i64 0) ∧ Ses w w' p (appP [98] (List.replicate n 0) P) m [] []) := Lib.hid (fun W g hB hG => sAppend (HS.out.below hB) ⟨#[98]⟩ (by decide) (by decide) _ (List.replicate n 0) (made_bl (by omega) (by rw [hMC]; exact hG)) (by rw [HU.out, List.length_replicate]; exact hfit) (by have := HPL.out; unfold maxLen; omega))
          have HUS : Hid (∀ W, Ses w W p (appP [98] (List.replicate n 0) P) m [] [] → Calls Try.prog 15 #[.pointer (some ⟨p, 0, none⟩)] W fun e w' => e = .returned (.int .i64 ((u : Int) + (n : Int))) ∧ W = w') := Lib.hid (fun W hW => by
            have hh := sUsed hW
            rw [(appP_facts HND.out).1, HU.out, List.length_replicate, Int.natCast_add] at hh
            exact hh)
          clear hmod hMC
          go_region_with (first | (go_at_call 10; refine (HAP.out _ _ (((Below.refl _ _).alloc (Nat.le_refl _) _).alloc (by simp) _).drew (by first | exact new2A _ _ _ | exact new2B _ _ _)).mono ?_; rintro e w3 ⟨rfl, h3⟩; have S9 := Lib.hid h3; clear h3))
          all_goals
            clear hrem hmk HAP HS
            go_wp2_with fail
            refine (HUS.out _ S9.out).mono ?_
            rintro e w4 ⟨rfl, rfl⟩
            go_wp2
            go_roundw
            case rel => exact ⟨u + n, i + 1, (appP [98] (List.replicate n 0) P), hp, by go_num, by rw [Int.natCast_add], hfit, S9, Lib.hid (by rw [(appP_facts HND.out).1, HU.out, List.length_replicate]), Lib.hid (fun x hx => by
                rcases (appP_facts HND.out).2.2 x hx with h | ⟨y, hy, h⟩
                · rw [h]; exact .inr rfl
                · rw [h]; exact HAB.out y hy), Lib.hid (by have := (appP_facts (s := [98]) (l := List.replicate n (0 : Int)) HND.out).2.1; have := HPL.out; omega)⟩
            case measure => simp [RowKit.intOf]; omega
        · have e5 : decide ((n : Int) ≤ (m : Int) - (u : Int)) = false := by simp; omega
          have HND := Lib.hid HS.out.nodup
          have HAP : Hid (∀ (W : World) (g : Nat), Below wr.heap.size wr W → W.heap[g]? = some (.cells MC 5 (0, 0)) → Calls Try.prog 10 #[.pointer (some ⟨p, 0, none⟩), .string ⟨#[98]⟩, .slice (some ⟨g, 0, none⟩) n n] W fun e w' => e = .returned (.int .i64 8) ∧ Ses w w' p P m [] []) := Lib.hid (fun W g hB hG => sFull (HS.out.below hB) ⟨#[98]⟩ (by decide) (by decide) _ (List.replicate n 0) (made_bl (by omega) (by rw [hMC]; exact hG)) (by rw [HU.out, List.length_replicate]; omega))
          have HUS : Hid (∀ W, Ses w W p P m [] [] → Calls Try.prog 15 #[.pointer (some ⟨p, 0, none⟩)] W fun e w' => e = .returned (.int .i64 (u : Int)) ∧ W = w') := Lib.hid (fun W hW => by
            have hh := sUsed hW
            rw [HU.out] at hh
            exact hh)
          clear hmod hMC
          go_region_with (first | (go_at_call 10; refine (HAP.out _ _ (((Below.refl _ _).alloc (Nat.le_refl _) _).alloc (by simp) _).drew (by first | exact new2A _ _ _ | exact new2B _ _ _)).mono ?_; rintro e w3 ⟨rfl, h3⟩; have S9 := Lib.hid h3; clear h3))
          all_goals
            clear hrem hmk HAP HS
            go_wp2_with fail
            refine (HUS.out _ S9.out).mono ?_
            rintro e w4 ⟨rfl, rfl⟩
            go_wp2
            go_roundw
            case rel => exact ⟨u, i + 1, P, hp, by go_num, rfl, hu, S9, HU, HAB, Lib.hid (by have := HPL.out; omega)⟩
            case measure => simp [RowKit.intOf]; omega
    · clear HL
      cases hlk : lookP [97] P with
      | none =>
        have S2 := Lib.hid (sReadNo HS.out ⟨#[97]⟩ (by decide) hlk)
        have S3 := Lib.hid (sCutNo HS.out ⟨#[97]⟩ (by decide) hlk 0)
        have SB := Lib.hid HS.out.bl
        clear hlk HS HU HAB HPL
        go_wp2_with fail
        refine S2.out.mono ?_
        rintro e w2 ⟨rfl, rfl⟩
        go_wp2_with fail
        refine S3.out.mono ?_
        rintro e w3 ⟨rfl, rfl⟩
        go_wp2_with fail
        refine (HAW.out _).mono ?_
        rintro e w4 ⟨rfl, b4⟩
        go_wp2
        go_ret
        exact ⟨rfl, bn SB.out b4⟩
      | some qq =>
        obtain ⟨a, f⟩ := qq
        have S2 := Lib.hid (sRead HS.out ⟨#[97]⟩ (by decide) a f hlk)
        have hal := (HS.out.le hlk).2
        have HND := Lib.hid HS.out.nodup
        have hau : a.length ≤ u := by
          have h1 := usedP_del hlk HND.out
          have := HU.out
          omega
        have HLK := Lib.hid hlk
        clear hlk HS
        go_wp2_with fail
        refine S2.out.mono ?_
        rintro e w2 ⟨A2, C2, rfl, h2⟩
        have S3 := Lib.hid h2
        clear h2 S2
        go_wp2_with fail
        refine (low_c cut ((a.length : Int) + 1) w2 (by omega) (by omega)).mono ?_
        rintro e w3 ⟨CC, rfl, hC0, hC1, rfl⟩
        obtain ⟨c, rfl⟩ := Int.eq_ofNat_of_zero_le hC0
        have hc : c ≤ a.length := by omega
        clear hC0 hC1
        have S4 := Lib.hid (sCut S3.out ⟨#[97]⟩ (by decide) a f HLK.out c hc)
        clear S3
        go_wp2_with fail
        refine S4.out.mono ?_
        rintro e w4 ⟨rfl, h4⟩
        obtain ⟨q, hq⟩ : ∃ q : Nat, (m : Int) - (u : Int) + (a.length : Int) - (c : Int) = (q : Int) := ⟨m - u + a.length - c, by omega⟩
        have hqm : q ≤ 1000 := by omega
        have hmk := make_run q (by omega)
        have hup := usedP_upd (a' := a.take c) (f' := c) HLK.out HND.out
        rw [HU.out, List.length_take, Nat.min_eq_left hc] at hup
        have hno : lookP [99] (updP [97] (a.take c, c) P) = none := lookP_none (fun x hx => by
          obtain ⟨y, hy, e⟩ := updP_mem hx
          rw [e]
          rcases HAB.out y hy with h | h <;> rw [h] <;> decide)
        have hap : appP [99] (List.replicate q 0) (updP [97] (a.take c, c) P) = insP ([99], List.replicate q 0, 0) (updP [97] (a.take c, c) P) := by unfold appP; rw [hno]
        have hpl : (updP [97] (a.take c, c) P).length ≤ 40 := by have := HPL.out; simp [updP]; omega
        have S5 := Lib.hid (sAppend (h4.alloc (.cells (madeCells #[.int .u8 0] q) 5)) ⟨#[99]⟩ (by decide) (by decide) _ (List.replicate q 0) (made_row q (by omega) w4).nl (by rw [List.length_replicate]; omega) (by unfold maxLen; omega))
        have hus2 : usedP (appP [99] (List.replicate q 0) (updP [97] (a.take c, c) P)) = m := by rw [hap, usedP_ins, List.length_replicate]; omega
        have HUS2 := Lib.hid hus2
        have hlk3 : lookP [99] (appP [99] (List.replicate q 0) (updP [97] (a.take c, c) P)) = some (List.replicate q 0, 0) := by
          rw [hap]
          exact lookP_insP (x := ([99], List.replicate q 0, 0)) (fun x hx => by
            obtain ⟨y, hy, e⟩ := updP_mem hx
            rw [e]
            rcases HAB.out y hy with h | h <;> rw [h] <;> (dsimp only; decide))
        have HLK3 := Lib.hid hlk3
        clear h4 S4 hup hno hpl hus2 hlk3 hap
        generalize appP [99] (List.replicate q 0) (updP [97] (a.take c, c) P) = P5 at *
        generalize madeCells #[.int .u8 0] q = MC at *
        go_wp2_with fail
        refine S5.out.mono ?_
        rintro e w5 ⟨rfl, h5⟩
        have S6 := Lib.hid (sUsed h5)
        rw [HUS2.out] at S6
        have S7 := Lib.hid (sRemove h5 ⟨#[99]⟩ (by decide) (List.replicate q 0) 0 HLK3.out)
        have hdl := usedP_del HLK3.out h5.nodup
        rw [HUS2.out, List.length_replicate] at hdl
        have HDL : Hid (((usedP (delP [99] P5) : Nat) : Int) = (u : Int) - (a.length : Int) + (c : Int)) := Lib.hid (by omega)
        clear h5 S5 hdl HLK3 HUS2 hmk hq
        go_wp2_with fail
        refine S6.out.mono ?_
        rintro e w6 ⟨rfl, rfl⟩
        go_wp2_with fail
        refine S7.out.mono ?_
        rintro e w7 ⟨rfl, h7⟩
        have S8 := Lib.hid (sUsed h7)
        have S8b : Hid (Below w.heap.size w w7) := Lib.hid h7.bl
        rw [HDL.out] at S8
        clear h7 S7 S6
        go_wp2_with fail
        refine S8.out.mono ?_
        rintro e w8 ⟨rfl, rfl⟩
        go_wp2_with fail
        refine (HAW.out _).mono ?_
        rintro e w9 ⟨rfl, b9⟩
        go_wp2
        go_ret
        exact ⟨rfl, bn S8b.out b9⟩

set_option maxHeartbeats 4000000 in
theorem rooms_c (most : Int) (l : List Int) (cut : Int) (v : Value) (w : World) (hl : Nl w v l) :
    Calls Try.prog 5 #[.int .i64 most, v, .int .i64 cut] w fun e w' => e = .returned (.bool true) ∧ Below w.heap.size w w' := by
  obtain ⟨A1, C1, rfl, hl2⟩ := hl.form
  clear hl
  by_cases h1 : l.length ≤ 40
  · exact rooms_main most l cut A1 C1 w hl2 h1
  · have e1 : decide ((40 : Int) < (l.length : Int)) = true := by simp; omega
    have HAW := Lib.hid (awake_c)
    clear hl2
    go_enter Try.func5, Try.ntmps5
    go_wp2_with fail
    refine (HAW.out _).mono ?_
    rintro e w1 ⟨rfl, b1⟩
    go_wp2
    go_ret
    exact ⟨rfl, b1⟩
end Go.Proofs.Ytmhmdnlkkpjdjaa

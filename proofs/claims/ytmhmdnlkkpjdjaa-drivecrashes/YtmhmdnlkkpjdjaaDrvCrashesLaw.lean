/-
  The law on crashes of several files, walked.
-/
import Derived.Test.YtmhmdnlkkpjdjaaDrvCrsMod
import Derived.Test.YtmhmdnlkkpjdjaaDrvTexts
namespace Go.Proofs.Ytmhmdnlkkpjdjaa
open Go.RowKit Go.Lib

theorem slice_txt_run (ad : Addr) (n : Nat) (hn : n ≤ 5) (W : World) : (Instr.sliceAt 39 (.slice (some ad) 5 5) none (some (.int .i64 (n : Int))) none).run Try.prog W = .ok (.slice (some ad) n 5) W := by
  have hs : (sizeOf 9).run Try.prog W = .ok 1 W := by
    simp [sizeOf]
    rfl
  have hb : (Instr.sliceBounds true 5 5 none (some (.int .i64 (n : Int))) none).run Try.prog W = .ok (0, n, 5) W := by
    have e1 : ¬ (5 : Int) < (n : Int) := by omega
    simp [Instr.sliceBounds, go_sem, e1]
  rw [run_sliceAt_slice W _ _ _ _ _ Try.underlying39, run_slice_any W _ _ _ _ Try.underlying39, hb]
  simp only [Result.andThen]
  rw [show Try.prog.elem 39 = 9 by kernel_rfl, hs]
  exact congrArg (fun v => Result.ok v W) (sliced_zero (some ad) n 5)
def lit5 : Obj := .cells #[.string ⟨#[97]⟩, .string ⟨#[98]⟩, .string ⟨#[99]⟩, .string ⟨#[100]⟩, .string ⟨#[101]⟩] 9
theorem Ses.names {w0 w : World} {p : Nat} {P : List Pf} {m : Nat} {G : List (Value × List Int)} (h : Ses w0 w p P m G []) (n : Nat) (hn : n ≤ 5) : Ses w0 (w.alloc lit5) p P m G [(.slice (some ⟨w.heap.size, 0, none⟩) n 5, ns5.take n)] := by
  have hb := alloc_below w lit5
  obtain ⟨bm, L, own, hd, hp, hl, hbl, hg, ht⟩ := h
  refine ⟨bm, L, own, hd.below hb, hp, hl, bn hbl hb, fun x hx => (hg x hx).step (.ofBelow hb), fun x hx => ?_⟩
  rcases List.mem_cons.1 hx with rfl | hx
  · refine ⟨some ⟨w.heap.size, 0, none⟩, 5, by rw [ns_len hn], fun _ => ⟨w.heap.size, 0, rfl, fun k hk => ?_, fun ho => ?_⟩⟩
    · rw [Nat.zero_add]
      have hc := (Bx.new 9 w #[.string ⟨#[97]⟩, .string ⟨#[98]⟩, .string ⟨#[99]⟩, .string ⟨#[100]⟩, .string ⟨#[101]⟩]).cell k
      refine hc.trans ?_
      have hk5 : k < 5 := by have : k < n := (ns_len hn) ▸ hk; omega
      have e : (ns5.take n)[k] = ns5[k]'(by simpa [ns5] using hk5) := List.getElem_take
      rw [e]
      match k, hk5 with
      | 0, _ => rfl
      | 1, _ => rfl
      | 2, _ => rfl
      | 3, _ => rfl
      | 4, _ => rfl
    · have := hd.up _ ho
      omega
  · cases hx
theorem Ses.nameAt {w0 w : World} {p : Nat} {P : List Pf} {m : Nat} {G : List (Value × List Int)} {T : List (Value × List (List UInt8))} (h : Ses w0 w p P m G T) {g n : Nat} (hn : n ≤ 5) (hm : (.slice (some ⟨g, 0, none⟩) n 5, ns5.take n) ∈ T) (i : Nat) (hi : i < n) :
    w.cell? ⟨g, i, none⟩ = some (.string ⟨((ns5.take n)[i]'(by rw [ns_len hn]; exact hi)).toArray⟩) := by
  obtain ⟨own, ad, cap, e, hs⟩ := h.t hm
  simp only [Value.slice.injEq] at e
  obtain ⟨rfl, _, rfl⟩ := e
  obtain ⟨b, o, e, hs, _⟩ := hs (by rw [ns_len hn]; omega)
  simp only [Option.some.injEq, Addr.mk.injEq] at e
  obtain ⟨rfl, rfl, _⟩ := e
  have := hs i (by rw [ns_len hn]; exact hi)
  rw [Nat.zero_add] at this
  exact this

theorem Ses.sub {w0 w : World} {p : Nat} {P : List Pf} {m : Nat} {G : List (Value × List Int)} {T T' : List (Value × List (List UInt8))} (h : Ses w0 w p P m G T) (hs : ∀ x ∈ T', x ∈ T) : Ses w0 w p P m G T' := by
  obtain ⟨bm, L, own, hd, hp, hl, hbl, hg, ht⟩ := h
  exact ⟨bm, L, own, hd, hp, hl, hbl, hg, fun x hx => ht x (hs x hx)⟩
theorem Ses.subG {w0 w : World} {p : Nat} {P : List Pf} {m : Nat} {G G' : List (Value × List Int)} {T : List (Value × List (List UInt8))} (h : Ses w0 w p P m G T) (hs : ∀ x ∈ G', x ∈ G) : Ses w0 w p P m G' T := by
  obtain ⟨bm, L, own, hd, hp, hl, hbl, hg, ht⟩ := h
  exact ⟨bm, L, own, hd, hp, hl, hbl, fun x hx => hg x (hs x hx), ht⟩
section
variable {w : World} {p : Nat} {T : List (Value × List (List UInt8))}
theorem rApp1 {x : List UInt8} {N : List (List UInt8)} (hu : NUp (x :: N)) (hx : x ∈ ns5) (ps : List (List Int × List Int)) (F : List Int) (v : Value) (hv : Bl w v F) (hus : usedP (files N ps) + F.length ≤ 2000) (hN : N.length ≤ 5) (W : World) (h : Ses w W p (files N ps) 2000 [] T) :
    Calls Try.prog 10 #[.pointer (some ⟨p, 0, none⟩), .string ⟨x.toArray⟩, v] W fun e w' => e = .returned (.int .i64 0) ∧ Ses w w' p ((x, F, 0) :: files N ps) 2000 [] T := by
  have hh := sAppend h ⟨x.toArray⟩ (by rw [encStr_size]; exact (ns_name x hx).2) (by rw [encStr_list]; exact (ns_name x hx).1) v F (hv.below h.bl) hus (by
    have : (files N ps).length ≤ N.length := by unfold files; simp; omega
    unfold maxLen
    omega)
  rw [encStr_list, app_front hu] at hh
  exact hh
theorem rSync {x : List UInt8} {R : List Pf} (hR : ∀ y ∈ R, y.1 ≠ x) (hx : x ∈ ns5) (F : List Int) (W : World) (h : Ses w W p ((x, F, 0) :: R) 2000 [] T) :
    Calls Try.prog 11 #[.pointer (some ⟨p, 0, none⟩), .slice (some ⟨W.heap.size, 0, none⟩) 1 1] (W.alloc (.cells #[.string ⟨x.toArray⟩] 9)) fun e w' => e = .returned (.int .i64 0) ∧ Ses w w' p ((x, F, F.length) :: R) 2000 [] T := by
  have h' := h.text ⟨x.toArray⟩ 9
  rw [encStr_list] at h'
  refine (sSync h' [x] _ (List.mem_cons_self ..) (by simp) (fun s hs => by simp at hs; subst hs; exact (ns_name _ hx).2) (fun s hs => by simp at hs; subst hs; rw [look_head]; rfl)).mono ?_
  rintro e w' ⟨rfl, hw⟩
  rw [sync_head hR] at hw
  exact ⟨rfl, hw.sub (fun y hy => List.mem_cons_of_mem _ hy)⟩
theorem rApp2 {x : List UInt8} {R : List Pf} (hR : ∀ y ∈ R, y.1 ≠ x) (hx : x ∈ ns5) (F G : List Int) (v : Value) (hv : Bl w v G) (hus : usedP R + F.length + G.length ≤ 2000) (hN : R.length ≤ 5) (W : World) (h : Ses w W p ((x, F, F.length) :: R) 2000 [] T) :
    Calls Try.prog 10 #[.pointer (some ⟨p, 0, none⟩), .string ⟨x.toArray⟩, v] W fun e w' => e = .returned (.int .i64 0) ∧ Ses w w' p ((x, F ++ G, F.length) :: R) 2000 [] T := by
  have hh := sAppend h ⟨x.toArray⟩ (by rw [encStr_size]; exact (ns_name x hx).2) (by rw [encStr_list]; exact (ns_name x hx).1) v G (hv.below h.bl) (by simp only [usedP]; omega) (by unfold maxLen; simp; omega)
  rw [encStr_list, app_head hR] at hh
  exact hh
theorem rLoose {x : List UInt8} {R : List Pf} (hx : x ∈ ns5) (F G : List Int) (W : World) (h : Ses w W p ((x, F ++ G, F.length) :: R) 2000 [] T) :
    Calls Try.prog 12 #[.pointer (some ⟨p, 0, none⟩), .string ⟨x.toArray⟩] W fun e w' => e = .returned (.int .i64 (G.length : Int)) ∧ Ses w w' p ((x, F ++ G, F.length) :: R) 2000 [] T := by
  have hh := sLoose h ⟨x.toArray⟩ (by rw [encStr_size]; exact (ns_name x hx).2) (F ++ G) F.length (by rw [encStr_list]; exact look_head ..)
  rw [show (F ++ G).length - F.length = G.length by simp] at hh
  exact hh
end
/-- Parts, each with its room. -/
def Pq (w : World) (v : Value) (ps : List (List Int)) : Prop := ∃ ad cap, v = .slice ad ps.length cap ∧ (0 < ps.length → ∃ b o, ad = some ⟨b, o, none⟩ ∧ ∀ k (hk : k < ps.length), ∃ u, w.cell? ⟨b, o + k, none⟩ = some u ∧ Bc w u ps[k])
theorem pl_at {w : World} {A : Option Addr} {C : Nat} {ls : List (List Int)} (h : Pq w (.slice A ls.length C) ls) (j : Nat) (hj : j < ls.length) : ∃ b o u, A = some ⟨b, o, none⟩ ∧ w.cell? ⟨b, o + j, none⟩ = some u ∧ Bc w u ls[j] := by
  obtain ⟨ad, cap, e, hp⟩ := h
  simp only [Value.slice.injEq] at e
  obtain ⟨rfl, _, rfl⟩ := e
  obtain ⟨b, o, rfl, hs⟩ := hp (by omega)
  obtain ⟨u, hu, hb⟩ := hs j hj
  exact ⟨b, o, u, rfl, hu, hb⟩

theorem take_ok {P : Program} {ops : Array Oper} {Q : Exit → Act → World → Prop} {md : Region.Mode} {S : World → Prop} {i : Nat} {oi : Oper} {d : Nat} {v : Value} {fuel : Nat} {listed : Array Bool} {a : Act} {w : World} (hi : ops[i]? = some oi) (hd : oi.dst = some d)
    (hs : Region.noSelect ops = true) (hf : Region.free md ops listed i = true) (hr : (Region.ready md ops listed).contains i = true)
    (hQ : ∀ c a w, Q (.panic c) (a.put oi.dst v) w → Q (.panic c) a w) (hy : YieldsIf P ops S oi v a) (hS : S w)
    (h : wpAnyH P md ops Q S fuel (listed.setIfInBounds i true) (a.put (some d) v) w) : wpAnyH P md ops Q S (fuel + 1) listed a w :=
  wpAnyH_take hi hs hf hr hQ hy hS (by rw [hd]; exact h)

set_option maxHeartbeats 16000000 in
set_option maxRecDepth 4000 in
theorem crashes_main (ls ms : List (List Int)) (stay : Int) (A1 A2 : Option Addr) (C1 C2 : Nat) (w : World) (h1 : Pq w (.slice A1 ls.length C1) ls) (h2 : Pq w (.slice A2 ms.length C2) ms) (hl : ls.length ≤ 5) (hm : ms.length ≤ ls.length) (hz : ∀ q ∈ ls, q.length ≤ maxLen) (hz2 : ∀ q ∈ ms, q.length ≤ maxLen) :
    Calls Try.prog 7 #[.slice A1 ls.length C1, .slice A2 ms.length C2, .int .i64 stay] w fun e w' => e = .returned (.bool true) ∧ Below w.heap.size w w' := by
  have HAW := Lib.hid (awake_c)
  have e1 : decide ((5 : Int) < (ls.length : Int)) = false := by simp; omega
  have e2 : decide (ls.length < ms.length) = false := by simp; omega
  have H1 := Lib.hid h1
  have H2 := Lib.hid h2
  have HZ := Lib.hid hz
  have HZ2 := Lib.hid hz2
  clear h1 h2 hz hz2
  go_enter Try.func7, Try.ntmps7
  go_wp2_with fail
  refine (sNew w w 2000 (by decide) (Below.refl _ _)).mono ?_
  rintro e w1 ⟨p, rfl, h1⟩
  have S1 : Hid (Ses w (w1.alloc (.cells #[.string ⟨#[97]⟩, .string ⟨#[98]⟩, .string ⟨#[99]⟩, .string ⟨#[100]⟩, .string ⟨#[101]⟩] 9)) p [] 2000 [] [(.slice (some ⟨w1.heap.size, 0, none⟩) ls.length 5, ns5.take ls.length)]) := Lib.hid (h1.names ls.length hl)
  have hsl := slice_txt_run ⟨w1.heap.size, 0, none⟩ ls.length hl
  have HSL := Lib.hid hsl
  clear h1 hsl
  go_wp2_with (refine wpList_slice_run rfl 39 _ _ _ rfl _ (HSL.out _) ?_)
  clear HSL
  generalize w1.alloc (.cells #[.string ⟨#[97]⟩, .string ⟨#[98]⟩, .string ⟨#[99]⟩, .string ⟨#[100]⟩, .string ⟨#[101]⟩] 9) = WN at S1 ⊢
  generalize w1.heap.size = g at S1 ⊢
  have HNL : Hid ((ns5.take ls.length).length = ls.length) := Lib.hid (ns_len hl)
  have HPL : Hid ((prs ls ms).length = ls.length) := Lib.hid (prs_len ls ms)
  go_loopw [9, 10] (fun v9 v10 wr => ∃ k : Nat, k ≤ ls.length ∧ v10 = .int .i64 ((k : Int) - 1) ∧ v9 = .int .i64 ((looseS ((prs ls ms).drop k) : Nat) : Int) ∧ Hid (Ses w wr p (files ((ns5.take ls.length).drop k) ((prs ls ms).drop k)) 2000 [] [(.slice (some ⟨g, 0, none⟩) ls.length 5, ns5.take ls.length)]) ∧ Hid (∀ q ∈ (prs ls ms).drop k, q.1.length ≤ 60 ∧ q.2.length ≤ 60)) (fun _ v10 _ => (RowKit.intOf v10 + 1).toNat)
  case atStart =>
    refine ⟨ls.length, Nat.le_refl _, rfl, ?_, Lib.hid ?_, Lib.hid ?_⟩
    · rw [List.drop_eq_nil_of_le (by rw [HPL.out]; exact Nat.le_refl _)]; rfl
    · rw [List.drop_eq_nil_of_le (by rw [HNL.out]; exact Nat.le_refl _), List.drop_eq_nil_of_le (by rw [HPL.out]; exact Nat.le_refl _)]; exact S1.out
    · rw [List.drop_eq_nil_of_le (by rw [HPL.out]; exact Nat.le_refl _)]; intro q hq; cases hq
  case round =>
    obtain ⟨k, hk, rfl, rfl, HS, HB⟩ := hrel
    cases k with
    | zero =>
      have hfb := firm_bound _ HB.out
      rw [List.drop_zero] at hfb
      have HBB : Hid (∀ q ∈ prs ls ms, q.1.length ≤ 60 ∧ q.2.length ≤ 60) := Lib.hid (by have := HB.out; rwa [List.drop_zero] at this)
      have hS := HS.out
      rw [List.drop_zero, List.drop_zero] at hS
      rw [List.drop_zero]
      have hlL : looseS (prs ls ms) ≤ 300 := by rw [HPL.out] at hfb; omega
      have hlF : firmS (prs ls ms) ≤ 300 := by rw [HPL.out] at hfb; omega
      have SU := Lib.hid (sUsed hS)
      rw [used_files _ _ (by rw [HNL.out, HPL.out])] at SU
      have HS0 := Lib.hid hS
      obtain ⟨ps, hps⟩ : ∃ ps, prs ls ms = ps := ⟨_, rfl⟩
      rw [hps] at hlL hlF SU HS0 HPL HBB ⊢
      have HPS := Lib.hid hps
      have HLE : Hid (∀ i, (_ : i < ls.length) → (prs ls ms)[i]? = some (ls[i], ms[i]?.getD [])) := Lib.hid (fun i hi => by rw [List.getElem?_eq_getElem (by rw [prs_len]; exact hi), prs_at ls ms i hi])
      rw [hps] at HLE
      clear hfb hS HS HB hps hk
      generalize hLS : looseS ps = LS at *
      generalize hFS : firmS ps = FS at *
      have HLS := Lib.hid hLS
      have HFS := Lib.hid hFS
      clear hLS hFS
      go_wp2_with fail
      refine (low_c stay ((LS : Int) + 3) wr (by omega) (by omega)).mono ?_
      rintro e w2 ⟨SS, rfl, hs0, hs1, rfl⟩
      obtain ⟨s, rfl⟩ := Int.eq_ofNat_of_zero_le hs0
      have hsb : s ≤ 303 := by omega
      clear hs0 hs1
      go_wp2_with fail
      refine SU.out.mono ?_
      rintro e w2 ⟨rfl, rfl⟩
      have SC := Lib.hid (sCrash HS0.out (s : Int) (by omega) (by
        unfold files
        simp only [List.length_zipWith, HPL.out]
        omega))
      rw [Int.toNat_natCast, crash_files] at SC
      clear SU HS0
      go_wp2_with fail
      refine SC.out.mono ?_
      rintro e w3 ⟨rfl, h3⟩
      have S3 := Lib.hid h3
      clear h3 SC
      go_wp2
      have HCNA : Hid (∀ (W : World) (P' : List Pf) (G : List (Value × List Int)), Ses w W p P' 2000 G [(.slice (some ⟨g, 0, none⟩) ls.length 5, ns5.take ls.length)] → ∀ i, i < ls.length → W.cell? ⟨g, i, none⟩ = some (.string ⟨((ns5.take ls.length)[i]?.getD []).toArray⟩)) := Lib.hid (fun W P' G hW i hi => by
        rw [hW.nameAt hl (List.mem_cons_self ..) i hi, List.getElem?_eq_getElem (by rw [ns_len hl]; exact hi)]
        rfl)
      have HSUB : Hid (∀ s ∈ ns5.take ls.length, s ∈ ns5) := Lib.hid (fun s hs => ns_mem hs)
      have HUP : Hid (NUp (ns5.take ls.length)) := Lib.hid (ns_up _)
      have HUC : Hid (usedP (crs s (ns5.take ls.length) ps) = FS + min s LS) := Lib.hid (by rw [used_crs _ _ _ (by rw [HNL.out, HPL.out]), HFS.out, HLS.out])
      clear S1
      generalize ns5.take ls.length = N5 at *
      generalize hCR : crs s N5 ps = CR at *
      have HCR := Lib.hid hCR
      clear hCR
      go_loopw [12, 13] (fun v12 v13 wr => ∃ (i left : Nat), i ≤ ls.length ∧ v13 = .int .i64 (i : Int) ∧ v12 = .int .i64 (left : Int) ∧ left ≤ 303 ∧ Hid (left = s - looseS (ps.take i)) ∧ Hid (Ses w wr p CR 2000 [] [(.slice (some ⟨g, 0, none⟩) ls.length 5, N5)])) (fun _ v13 _ => ls.length - (RowKit.intOf v13).toNat)
      case atStart => exact ⟨0, s, by omega, rfl, rfl, hsb, Lib.hid (by simp [looseS]), S3⟩
      case round =>
        obtain ⟨i, left, hi, rfl, rfl, hlb, HLF, HS⟩ := hrel
        clear S3
        by_cases hil : i < ls.length
        · have hiN : i < N5.length := by rw [HNL.out]; exact hil
          have hiP : i < ps.length := by rw [HPL.out]; exact hil
          have hpi := HLE.out i hil
          rw [List.getElem?_eq_getElem hiP] at hpi
          have hpi' : ps[i] = (ls[i], ms[i]?.getD []) := Option.some.inj hpi
          have hlk := look_crs s N5 ps HUP.out i hiN hiP
          rw [hpi', ← HLF.out, HCR.out] at hlk
          have hlt := looseS_take ps i hiP
          rw [hpi'] at hlt
          dsimp only at hlt
          have hxm : N5[i] ∈ ns5 := HSUB.out _ (List.getElem_mem hiN)
          have hcn1 : ∀ (W : World) (P' : List Pf) (G : List (Value × List Int)), Ses w W p P' 2000 G [(.slice (some ⟨g, 0, none⟩) ls.length 5, N5)] → W.cell? ⟨g, i, none⟩ = some (.string ⟨N5[i].toArray⟩) := fun W P' G hW => by
            have := HCNA.out W P' G hW i hil
            rw [List.getElem?_eq_getElem hiN, Option.getD_some] at this
            exact this
          have HCN := Lib.hid hcn1
          obtain ⟨b1, o1, uF, rfl, cF, hF⟩ := pl_at H1.out i hil
          have cF' := (HS.out.bl.cell (World.block_lt_of_cell? _ _ cF)).trans cF
          have hltF := World.block_lt_of_cell? _ _ cF'
          have hFm := HZ.out _ (List.getElem_mem hil)
          obtain ⟨aF, kF, rfl, _⟩ := hF.1.form
          have HLK := Lib.hid hlk
          have HLT := Lib.hid hlt
          have HIN := Lib.hid (⟨hiN, hiP⟩ : i < N5.length ∧ i < ps.length)
          generalize N5[i] = X at *
          have HF := Lib.hid hF.1
          have hbb := HBB.out _ (List.getElem_mem hiP)
          rw [hpi'] at hbb
          have hF60 : ls[i].length ≤ 60 := hbb.1
          have hG60 : (ms[i]?.getD []).length ≤ 60 := hbb.2
          generalize ls[i] = F at *
          clear hpi hpi' hlk hlt hcn1 cF hF hiN hiP hbb
          obtain ⟨vm, wA, hap1, hrA, hbA⟩ := bcopy_run F (.slice aF F.length kF) wr 22 (HF.out.below HS.out.bl) (by omega)
          have HAP1 := Lib.hid hap1
          clear hap1
          by_cases him : i < ms.length
          · obtain ⟨b2, o2, uG, rfl, cG, hG⟩ := pl_at H2.out i him
            rw [List.getElem?_eq_getElem him, Option.getD_some] at HLK HLT hG60
            obtain ⟨aG, kG, e9, hkG⟩ := hG.2
            subst e9
            have cG1 := ((bn HS.out.bl hbA).cell (World.block_lt_of_cell? _ _ cG)).trans cG
            have hltG := World.block_lt_of_cell? _ _ cG1
            obtain ⟨K, hK, hKm⟩ : ∃ K : Nat, min left ms[i].length = K ∧ min (left : Int) (ms[i].length : Int) = (K : Int) := ⟨min left ms[i].length, rfl, by omega⟩
            rw [hK] at HLK
            have hKG : K ≤ ms[i].length := by omega
            have hKl : K ≤ left := by omega
            have hsl := slice_to_run aG ms[i].length kG K hKG hkG
            have hGt := (hG.below (bn HS.out.bl hbA)).upto K hKG
            obtain ⟨A9, N9, C9, wB, hap2, hrB, hbB⟩ := bapp_run F (ms[i].take K) vm (.slice aG K kG) wA 22 wr.heap.size hrA hGt.1 (by simp; omega) hbA.size
            obtain ⟨_, _, e9, hc9⟩ := hrB.bc.2
            simp only [Value.slice.injEq] at e9
            obtain ⟨rfl, rfl, rfl⟩ := e9
            have HAP2 := Lib.hid hap2
            have HSL := Lib.hid hsl
            have SB := Lib.hid (HS.out.plus (hbA.trans hbB) hrB)
            have cn3 := HCN.out _ _ _ SB.out
            have hg3 := World.block_lt_of_cell? _ _ cn3
            have hDl : (F ++ ms[i].take K).length ≤ 120 := by simp; omega
            have HLX : Hid (left - K = s - looseS (ps.take (i + 1))) := Lib.hid (by have := HLF.out; have := HLT.out; omega)
            have HRD := Lib.hid (sRead SB.out ⟨X.toArray⟩ (by rw [encStr_size]; exact (ns_name X hxm).2) _ _ (by rw [encStr_list]; exact HLK.out))
            generalize hD : F ++ ms[i].take K = D at *
            generalize hGl : ms[i].length = gl at *
            have HFK : Hid (F.length + K = D.length) := Lib.hid (by rw [← hD]; simp; omega)
            clear hap2 hsl hGt hrB hbB hrA hbA cG hG HS hD hGl hK
            go_wp2_with (first | (at_builtin; first | refine wpList_append_run rfl _ _ 22 rfl _ _ HAP1.out ?_ | refine wpList_append_run rfl _ _ 22 rfl _ _ HAP2.out ?_) | (refine wpList_slice_run rfl 22 _ _ _ rfl _ (HSL.out _) ?_))
            refine HRD.out.mono ?_
            rintro e w4 ⟨A4, C4, rfl, h4⟩
            have SX := Lib.hid (bsame_c D D (.slice A4 D.length C4) (.slice A9 D.length C9) w4 (h4.g (by simp)).1 (h4.g (by simp)).1 (by omega))
            rw [sameB_self] at SX
            have S4 := Lib.hid h4
            clear h4 HRD SB cn3 hg3 HAP1 HAP2 HSL hKm
            go_wp2_with fail
            refine SX.out.mono ?_
            rintro e w5 ⟨rfl, b5⟩
            have h5 := S4.out.below b5
            have cn5 := HCN.out _ _ _ h5
            have hg5 := World.block_lt_of_cell? _ _ cn5
            have HLO := Lib.hid (sLoose h5 ⟨X.toArray⟩ (by rw [encStr_size]; exact (ns_name X hxm).2) _ _ (by rw [encStr_list]; exact HLK.out))
            rw [show D.length - (F.length + K) = 0 by have := HFK.out; omega] at HLO
            have HLO2 : Hid (Calls Try.prog 12 #[.pointer (some ⟨p, 0, none⟩), .string ⟨X.toArray⟩] w5 fun e w' => e = .returned (.int .i64 0) ∧ Ses w w' p CR 2000 [] [(.slice (some ⟨g, 0, none⟩) ls.length 5, N5)]) := Lib.hid (HLO.out.mono (fun e w' h => ⟨h.1, h.2.subG (fun x hx => by cases hx)⟩))
            clear HLO h5 b5 SX S4
            go_wp2_with fail
            refine HLO2.out.mono ?_
            rintro e w6 ⟨rfl, h6⟩
            have S6 := Lib.hid h6
            clear h6 HLO2 cn5 hg5
            go_wp2
            go_roundw
            case rel => exact ⟨i + 1, left - K, hil, by go_num, by rw [Int.ofNat_sub hKl], by omega, HLX, S6⟩
            case measure => simp [RowKit.intOf]; omega
          · rw [List.getElem?_eq_none (by omega), Option.getD_none] at HLK HLT hG60
            have e5 : decide (i < ms.length) = false := by simp; omega
            simp only [List.length_nil, Nat.min_zero, List.take_nil, List.append_nil, Nat.add_zero] at HLK HLT
            obtain ⟨A9, C9, rfl, hc9⟩ := hrA.bc.2
            have SB := Lib.hid (HS.out.plus hbA hrA)
            have cn3 := HCN.out _ _ _ SB.out
            have hg3 := World.block_lt_of_cell? _ _ cn3
            have HLX : Hid (left = s - looseS (ps.take (i + 1))) := Lib.hid (by have := HLF.out; have := HLT.out; omega)
            have HRD := Lib.hid (sRead SB.out ⟨X.toArray⟩ (by rw [encStr_size]; exact (ns_name X hxm).2) _ _ (by rw [encStr_list]; exact HLK.out))
            clear hrA hbA HS
            go_wp2_with (at_builtin; refine wpList_append_run rfl _ _ 22 rfl _ _ HAP1.out ?_)
            refine HRD.out.mono ?_
            rintro e w4 ⟨A4, C4, rfl, h4⟩
            have SX := Lib.hid (bsame_c F F (.slice A4 F.length C4) (.slice A9 F.length C9) w4 (h4.g (by simp)).1 (h4.g (by simp)).1 (by omega))
            rw [sameB_self] at SX
            have S4 := Lib.hid h4
            clear h4 HRD SB cn3 hg3 HAP1
            go_wp2_with fail
            refine SX.out.mono ?_
            rintro e w5 ⟨rfl, b5⟩
            have h5 := S4.out.below b5
            have cn5 := HCN.out _ _ _ h5
            have hg5 := World.block_lt_of_cell? _ _ cn5
            have HLO := Lib.hid (sLoose h5 ⟨X.toArray⟩ (by rw [encStr_size]; exact (ns_name X hxm).2) _ _ (by rw [encStr_list]; exact HLK.out))
            rw [Nat.sub_self] at HLO
            have HLO2 : Hid (Calls Try.prog 12 #[.pointer (some ⟨p, 0, none⟩), .string ⟨X.toArray⟩] w5 fun e w' => e = .returned (.int .i64 0) ∧ Ses w w' p CR 2000 [] [(.slice (some ⟨g, 0, none⟩) ls.length 5, N5)]) := Lib.hid (HLO.out.mono (fun e w' h => ⟨h.1, h.2.subG (fun x hx => by cases hx)⟩))
            clear HLO h5 b5 SX S4
            go_wp2_with fail
            refine HLO2.out.mono ?_
            rintro e w6 ⟨rfl, h6⟩
            have S6 := Lib.hid h6
            clear h6 HLO2 cn5 hg5
            go_wp2
            go_roundw
            case rel => exact ⟨i + 1, left, hil, by go_num, rfl, hlb, HLX, S6⟩
            case measure => simp [RowKit.intOf]; omega
        · have SU := Lib.hid (sUsed HS.out)
          rw [HUC.out] at SU
          obtain ⟨MN, hMN, hMNm⟩ : ∃ MN : Nat, min s LS = MN ∧ min (s : Int) (LS : Int) = (MN : Int) := ⟨min s LS, rfl, by omega⟩
          rw [hMN, Int.natCast_add] at SU
          have SB := Lib.hid HS.out.bl
          have hMNb : MN ≤ 303 := by omega
          clear HS hMN
          go_wp2_with fail
          refine SU.out.mono ?_
          rintro e w4 ⟨rfl, rfl⟩
          go_wp2_with fail
          refine (HAW.out _).mono ?_
          rintro e w5 ⟨rfl, b5⟩
          go_wp2
          go_ret
          exact ⟨rfl, bn SB.out b5⟩
    | succ j =>
      have hj : j < ls.length := by omega
      have ej : ((j + 1 : Nat) : Int) - 1 = (j : Int) := by omega
      rw [ej]
      clear ej
      have hjN : j < (ns5.take ls.length).length := by rw [HNL.out]; exact hj
      have hjP : j < (prs ls ms).length := by rw [HPL.out]; exact hj
      have hcn := HS.out.nameAt hl (List.mem_cons_self ..) j hj
      have hgl := World.block_lt_of_cell? _ _ hcn
      have hcnA : ∀ (W : World) (P' : List Pf), Ses w W p P' 2000 [] [(.slice (some ⟨g, 0, none⟩) ls.length 5, ns5.take ls.length)] → W.cell? ⟨g, j, none⟩ = some (.string ⟨(ns5.take ls.length)[j].toArray⟩) := fun W P' hW => hW.nameAt hl (List.mem_cons_self ..) j hj
      have hxm : (ns5.take ls.length)[j] ∈ ns5 := ns_mem (List.getElem_mem hjN)
      have hup : NUp ((ns5.take ls.length)[j] :: (ns5.take ls.length).drop (j + 1)) := by
        rw [← List.drop_eq_getElem_cons hjN]
        exact List.Pairwise.sublist (List.drop_sublist ..) (ns_up _)
      have hfb := firm_bound _ HB.out
      have hlen : ((prs ls ms).drop (j + 1)).length ≤ 4 := by rw [List.length_drop, HPL.out]; omega
      have hlenN : ((ns5.take ls.length).drop (j + 1)).length ≤ 4 := by rw [List.length_drop, HNL.out]; omega
      have huf := used_files ((ns5.take ls.length).drop (j + 1)) ((prs ls ms).drop (j + 1)) (by rw [List.length_drop, List.length_drop, HPL.out, HNL.out])
      have HUF : Hid (usedP (files ((ns5.take ls.length).drop (j + 1)) ((prs ls ms).drop (j + 1))) ≤ 480) := Lib.hid (by omega)
      have hRl : (files ((ns5.take ls.length).drop (j + 1)) ((prs ls ms).drop (j + 1))).length ≤ 4 := by unfold files; simp only [List.length_zipWith]; omega
      have HNX : Hid (files ((ns5.take ls.length).drop j) ((prs ls ms).drop j) = fl1 (ns5.take ls.length)[j] (ls[j], ms[j]?.getD []) :: files ((ns5.take ls.length).drop (j + 1)) ((prs ls ms).drop (j + 1))) := Lib.hid (by
        rw [List.drop_eq_getElem_cons hjN, List.drop_eq_getElem_cons hjP, ← prs_at ls ms j hj]
        rfl)
      have HBX : Hid ((prs ls ms).drop j = (ls[j], ms[j]?.getD []) :: (prs ls ms).drop (j + 1)) := Lib.hid (by rw [List.drop_eq_getElem_cons hjP, ← prs_at ls ms j hj])
      have hR := files_ne hup ((prs ls ms).drop (j + 1))
      obtain ⟨b1, o1, uF, rfl, cF, hF⟩ := pl_at H1.out j hj
      have cF' := (HS.out.bl.cell (World.block_lt_of_cell? _ _ cF)).trans cF
      have hltF := World.block_lt_of_cell? _ _ cF'
      have hFm := HZ.out _ (List.getElem_mem hj)
      obtain ⟨aF, kF, rfl, _⟩ := hF.1.form
      have HL0 : Hid (looseS ((prs ls ms).drop j) = looseS ((prs ls ms).drop (j + 1)) + (ms[j]?.getD []).length) := Lib.hid (by rw [HBX.out]; simp only [looseS]; omega)
      unfold maxLen at hFm
      have HCF : Hid (∀ (W : World) (P' : List Pf), Ses w W p P' 2000 [] [(.slice (some ⟨g, 0, none⟩) ls.length 5, ns5.take ls.length)] → W.cell? ⟨b1, o1 + j, none⟩ = some (.slice aF ls[j].length kF)) := Lib.hid (fun W P' hW => (hW.bl.cell (World.block_lt_of_cell? _ _ cF)).trans cF)
      have hlo : looseS ((prs ls ms).drop (j + 1)) ≤ 240 := by omega
      clear cF hlen hfb huf
      generalize (ns5.take ls.length)[j] = X at *
      generalize (ns5.take ls.length).drop (j + 1) = N1 at *
      generalize hps1 : (prs ls ms).drop (j + 1) = ps1 at *
      generalize hR1 : files N1 ps1 = R1 at *
      have HF := Lib.hid hF.1
      have HCN := Lib.hid hcnA
      clear hF hcnA
      generalize ls[j] = F at *
      have HR := Lib.hid hR
      have HR1 := Lib.hid hR1
      have HUP := Lib.hid hup
      clear hR hR1 hup hps1
      by_cases hF60 : F.length ≤ 60
      · have e3 : decide ((60 : Int) < (F.length : Int)) = false := by simp; omega
        by_cases hjm : j < ms.length
        · obtain ⟨b2, o2, uG, rfl, cG, hG⟩ := pl_at H2.out j hjm
          have cG' := (HS.out.bl.cell (World.block_lt_of_cell? _ _ cG)).trans cG
          have hltG := World.block_lt_of_cell? _ _ cG'
          have hGm := HZ2.out _ (List.getElem_mem hjm)
          obtain ⟨aG, kG, rfl, _⟩ := hG.1.form
          unfold maxLen at hGm
          rw [List.getElem?_eq_getElem hjm, Option.getD_some] at HNX HBX HL0
          have HG := Lib.hid hG.1
          clear hG
          generalize ms[j] = G at *
          by_cases hG60 : G.length ≤ 60
          · have e4 : decide ((60 : Int) < (G.length : Int)) = false := by simp; omega
            have HCG : Hid (∀ (W : World) (P' : List Pf), Ses w W p P' 2000 [] [(.slice (some ⟨g, 0, none⟩) ls.length 5, ns5.take ls.length)] → W.cell? ⟨b2, o2 + j, none⟩ = some (.slice aG G.length kG)) := Lib.hid (fun W P' hW => (hW.bl.cell (World.block_lt_of_cell? _ _ cG)).trans cG)
            clear cG
            have HA1 := Lib.hid (rApp1 HUP.out hxm ps1 F _ HF.out (by rw [HR1.out]; have := HUF.out; omega) (by omega) wr.drew (by rw [HR1.out]; exact HS.out.drew))
            rw [HR1.out] at HA1
            have HSY := Lib.hid (fun W h => rSync (w := w) (p := p) (T := [(.slice (some ⟨g, 0, none⟩) ls.length 5, ns5.take ls.length)]) HR.out hxm F W h)
            have HA3 := Lib.hid (fun W h => rApp2 (w := w) (p := p) (T := [(.slice (some ⟨g, 0, none⟩) ls.length 5, ns5.take ls.length)]) HR.out hxm F G _ HG.out (by have := HUF.out; omega) (by omega) W h)
            have HLO := Lib.hid (fun W h => rLoose (w := w) (p := p) (T := [(.slice (some ⟨g, 0, none⟩) ls.length 5, ns5.take ls.length)]) (R := R1) hxm F G W h)
            have HSX : Hid (∀ (W : World) (P' : List Pf), Ses w W p P' 2000 [] [(.slice (some ⟨g, 0, none⟩) ls.length 5, ns5.take ls.length)] → W.cell? ⟨g, j, none⟩ = some (.string ⟨X.toArray⟩) ∧ W.cell? ⟨b1, o1 + j, none⟩ = some (.slice aF F.length kF) ∧ W.cell? ⟨b2, o2 + j, none⟩ = some (.slice aG G.length kG)) := Lib.hid (fun W P' hW => ⟨HCN.out W P' hW, HCF.out W P' hW, HCG.out W P' hW⟩)
            have Q0 : Ses w wr.drew p R1 2000 [] [(.slice (some ⟨g, 0, none⟩) ls.length 5, ns5.take ls.length)] := HS.out.drew
            go_wp2_with fail
            clear HS cF' cG' hcn hltF hltG hgl
            go_region_held3 (fun W => W.cell? ⟨g, j, none⟩ = some (.string ⟨X.toArray⟩) ∧ W.cell? ⟨b1, o1 + j, none⟩ = some (.slice aF F.length kF) ∧ W.cell? ⟨b2, o2 + j, none⟩ = some (.slice aG G.length kG)) (first | exact HSX.out _ _ Q3 | exact HSX.out _ _ Q2 | exact HSX.out _ _ (Q1.alloc _) | exact HSX.out _ _ Q1 | exact HSX.out _ _ Q0)
              (first
                | (go_at_call 10; refine (HA3.out _ Q2).mono ?_; rintro e w6 ⟨rfl, Q3⟩)
                | (go_at_call 11; refine (HSY.out _ Q1).mono ?_; rintro e w5 ⟨rfl, Q2⟩)
                | (go_at_call 10; refine HA1.out.mono ?_; rintro e w4 ⟨rfl, Q1⟩))
            have cn3 := HCN.out _ _ Q3
            have hg3 := World.block_lt_of_cell? _ _ cn3
            clear HA1 HSY HA3 HSX
            go_wp2_with fail
            refine (HLO.out _ Q3).mono ?_
            rintro e w7 ⟨rfl, Q4⟩
            have HQ4 := Lib.hid Q4
            clear Q0 Q1 Q2 Q3 Q4
            go_wp2
            go_roundw
            case rel => exact ⟨j, by omega, rfl, by rw [HL0.out, Int.natCast_add], Lib.hid (by rw [HNX.out]; exact HQ4.out), Lib.hid (fun q hq => by
              rw [HBX.out] at hq
              rcases List.mem_cons.1 hq with rfl | hq
              · exact ⟨hF60, hG60⟩
              · exact HB.out q hq)⟩
            case measure => simp [RowKit.intOf]
          · have e4 : decide ((60 : Int) < (G.length : Int)) = true := by simp; omega
            have HBL := Lib.hid HS.out.bl
            clear HS
            go_wp2_with fail
            refine (HAW.out _).mono ?_
            rintro e w2 ⟨rfl, b2⟩
            go_wp2
            go_ret
            exact ⟨rfl, bn HBL.out b2⟩
        · have e5 : decide (j < ms.length) = false := by simp; omega
          rw [List.getElem?_eq_none (by omega), Option.getD_none] at HNX HBX HL0
          have HA1 := Lib.hid (rApp1 HUP.out hxm ps1 F _ HF.out (by rw [HR1.out]; have := HUF.out; omega) (by omega) wr.drew (by rw [HR1.out]; exact HS.out.drew))
          rw [HR1.out] at HA1
          have HSY := Lib.hid (fun W h => rSync (w := w) (p := p) (T := [(.slice (some ⟨g, 0, none⟩) ls.length 5, ns5.take ls.length)]) HR.out hxm F W h)
          have HLO := Lib.hid (fun W h => rLoose (w := w) (p := p) (T := [(.slice (some ⟨g, 0, none⟩) ls.length 5, ns5.take ls.length)]) (R := R1) hxm F [] W h)
          have HSX : Hid (∀ (W : World) (P' : List Pf), Ses w W p P' 2000 [] [(.slice (some ⟨g, 0, none⟩) ls.length 5, ns5.take ls.length)] → W.cell? ⟨g, j, none⟩ = some (.string ⟨X.toArray⟩) ∧ W.cell? ⟨b1, o1 + j, none⟩ = some (.slice aF F.length kF)) := Lib.hid (fun W P' hW => ⟨HCN.out W P' hW, HCF.out W P' hW⟩)
          have Q0 : Ses w wr.drew p R1 2000 [] [(.slice (some ⟨g, 0, none⟩) ls.length 5, ns5.take ls.length)] := HS.out.drew
          go_wp2_with fail
          clear HS cF' hcn hltF hgl
          refine wp_region_held_drew (S := fun W => W.cell? ⟨g, j, none⟩ = some (.string ⟨X.toArray⟩) ∧ W.cell? ⟨b1, o1 + j, none⟩ = some (.slice aF F.length kF)) (by kernel_rfl) (HSX.out _ _ Q0) (fun hHeld => ?_)
          refine take_ok (i := 0) (d := 64) (v := ?_) rfl rfl (by kernel_rfl) (by kernel_rfl) (by kernel_rfl) (fun _ _ _ h => h) (Or.inl ⟨by rfl, ?_⟩) (by assumption) ?_
          rotate_left
          · intro w9 hSw
            try dsimp only at hSw
            first | (go_simp; done) | (go_simp; with_reducible rfl)
          try simp only [Act.put, List.setIfInBounds_toArray, List.set_cons_zero, List.set_cons_succ]
          refine take_ok (i := 1) (d := 65) (v := ?_) rfl rfl (by kernel_rfl) (by kernel_rfl) (by kernel_rfl) (fun _ _ _ h => h) (Or.inl ⟨by rfl, ?_⟩) (by assumption) ?_
          rotate_left
          · intro w9 hSw
            try dsimp only at hSw
            first | (go_simp; done) | (go_simp; with_reducible rfl)
          try simp only [Act.put, List.setIfInBounds_toArray, List.set_cons_zero, List.set_cons_succ]
          refine take_ok (i := 2) (d := 66) (v := ?_) rfl rfl (by kernel_rfl) (by kernel_rfl) (by kernel_rfl) (fun _ _ _ h => h) (Or.inl ⟨by rfl, ?_⟩) (by assumption) ?_
          rotate_left
          · intro w9 hSw
            try dsimp only at hSw
            first | (go_simp; done) | (go_simp; with_reducible rfl)
          try simp only [Act.put, List.setIfInBounds_toArray, List.set_cons_zero, List.set_cons_succ]
          refine take_ok (i := 3) (d := 67) (v := ?_) rfl rfl (by kernel_rfl) (by kernel_rfl) (by kernel_rfl) (fun _ _ _ h => h) (Or.inl ⟨by rfl, ?_⟩) (by assumption) ?_
          rotate_left
          · intro w9 hSw
            try dsimp only at hSw
            first | (go_simp; done) | (go_simp; with_reducible rfl)
          try simp only [Act.put, List.setIfInBounds_toArray, List.set_cons_zero, List.set_cons_succ]
          refine take_ok (i := 4) (d := 68) (v := ?_) rfl rfl (by kernel_rfl) (by kernel_rfl) (by kernel_rfl) (fun _ _ _ h => h) (Or.inl ⟨by rfl, ?_⟩) (by assumption) ?_
          rotate_left
          · intro w9 hSw
            try dsimp only at hSw
            first | (go_simp; done) | (go_simp; with_reducible rfl)
          try simp only [Act.put, List.setIfInBounds_toArray, List.set_cons_zero, List.set_cons_succ]
          refine take_ok (i := 5) (d := 69) (v := ?_) rfl rfl (by kernel_rfl) (by kernel_rfl) (by kernel_rfl) (fun _ _ _ h => h) (Or.inl ⟨by rfl, ?_⟩) (by assumption) ?_
          rotate_left
          · intro w9 hSw
            try dsimp only at hSw
            first | (go_simp; done) | (go_simp; with_reducible rfl)
          try simp only [Act.put, List.setIfInBounds_toArray, List.set_cons_zero, List.set_cons_succ]
          refine take_ok (i := 6) (d := 70) (v := ?_) rfl rfl (by kernel_rfl) (by kernel_rfl) (by kernel_rfl) (fun _ _ _ h => h) (Or.inl ⟨by rfl, ?_⟩) (by assumption) ?_
          rotate_left
          · intro w9 hSw
            try dsimp only at hSw
            first | (go_simp; done) | (go_simp; with_reducible rfl)
          try simp only [Act.put, List.setIfInBounds_toArray, List.set_cons_zero, List.set_cons_succ]
          refine take_ok (i := 7) (d := 71) (v := ?_) rfl rfl (by kernel_rfl) (by kernel_rfl) (by kernel_rfl) (fun _ _ _ h => h) (Or.inl ⟨by rfl, ?_⟩) (by assumption) ?_
          rotate_left
          · intro w9 hSw
            try dsimp only at hSw
            first | (go_simp; done) | (go_simp; with_reducible rfl)
          try simp only [Act.put, List.setIfInBounds_toArray, List.set_cons_zero, List.set_cons_succ]
          refine take_ok (i := 8) (d := 72) (v := ?_) rfl rfl (by kernel_rfl) (by kernel_rfl) (by kernel_rfl) (fun _ _ _ h => h) (Or.inl ⟨by rfl, ?_⟩) (by assumption) ?_
          rotate_left
          · intro w9 hSw
            try dsimp only at hSw
            first | (go_simp; done) | (go_simp; with_reducible rfl)
          try simp only [Act.put, List.setIfInBounds_toArray, List.set_cons_zero, List.set_cons_succ]
          refine wpAnyH_ready (rs := [9]) (by kernel_rfl) (by simp) ?_
          refine AllReadyH.cons rfl (fun K hK => ?_) AllReadyH.nil
          go_simp
          refine HA1.out.mono ?_
          rintro e w4 ⟨rfl, Q1⟩
          refine hK.out _ _ (HSX.out _ _ Q1) (fun hHeld => ?_)
          clear hK K
          try simp only [Act.put, List.setIfInBounds_toArray, List.set_cons_zero, List.set_cons_succ]
          refine take_ok (i := 10) (d := 74) (v := ?_) rfl rfl (by kernel_rfl) (by kernel_rfl) (by kernel_rfl) (fun _ _ _ h => h) (Or.inl ⟨by rfl, ?_⟩) (by assumption) ?_
          rotate_left
          · intro w9 hSw
            try dsimp only at hSw
            first | (go_simp; done) | (go_simp; with_reducible rfl)
          try simp only [Act.put, List.setIfInBounds_toArray, List.set_cons_zero, List.set_cons_succ]
          refine take_ok (i := 11) (d := 75) (v := ?_) rfl rfl (by kernel_rfl) (by kernel_rfl) (by kernel_rfl) (fun _ _ _ h => h) (Or.inl ⟨by rfl, ?_⟩) (by assumption) ?_
          rotate_left
          · intro w9 hSw
            try dsimp only at hSw
            first | (go_simp; done) | (go_simp; with_reducible rfl)
          try simp only [Act.put, List.setIfInBounds_toArray, List.set_cons_zero, List.set_cons_succ]
          refine take_ok (i := 12) (d := 76) (v := ?_) rfl rfl (by kernel_rfl) (by kernel_rfl) (by kernel_rfl) (fun _ _ _ h => h) (Or.inl ⟨by rfl, ?_⟩) (by assumption) ?_
          rotate_left
          · intro w9 hSw
            try dsimp only at hSw
            first | (go_simp; done) | (go_simp; with_reducible rfl)
          try simp only [Act.put, List.setIfInBounds_toArray, List.set_cons_zero, List.set_cons_succ]
          refine take_ok (i := 13) (d := 77) (v := ?_) rfl rfl (by kernel_rfl) (by kernel_rfl) (by kernel_rfl) (fun _ _ _ h => h) (Or.inl ⟨by rfl, ?_⟩) (by assumption) ?_
          rotate_left
          · intro w9 hSw
            try dsimp only at hSw
            first | (go_simp; done) | (go_simp; with_reducible rfl)
          try simp only [Act.put, List.setIfInBounds_toArray, List.set_cons_zero, List.set_cons_succ]
          refine take_ok (i := 14) (d := 78) (v := ?_) rfl rfl (by kernel_rfl) (by kernel_rfl) (by kernel_rfl) (fun _ _ _ h => h) (Or.inl ⟨by rfl, ?_⟩) (by assumption) ?_
          rotate_left
          · intro w9 hSw
            try dsimp only at hSw
            first | (go_simp; done) | (go_simp; with_reducible rfl)
          try simp only [Act.put, List.setIfInBounds_toArray, List.set_cons_zero, List.set_cons_succ]
          refine take_ok (i := 15) (d := 79) (v := ?_) rfl rfl (by kernel_rfl) (by kernel_rfl) (by kernel_rfl) (fun _ _ _ h => h) (Or.inl ⟨by rfl, ?_⟩) (by assumption) ?_
          rotate_left
          · intro w9 hSw
            try dsimp only at hSw
            first | (go_simp; done) | (go_simp; with_reducible rfl)
          try simp only [Act.put, List.setIfInBounds_toArray, List.set_cons_zero, List.set_cons_succ]
          refine take_ok (i := 16) (d := 80) (v := ?_) rfl rfl (by kernel_rfl) (by kernel_rfl) (by kernel_rfl) (fun _ _ _ h => h) (Or.inl ⟨by rfl, ?_⟩) (by assumption) ?_
          rotate_left
          · intro w9 hSw
            try dsimp only at hSw
            first | (go_simp; done) | (go_simp; with_reducible rfl)
          try simp only [Act.put, List.setIfInBounds_toArray, List.set_cons_zero, List.set_cons_succ]
          refine wpAnyH_ready (rs := [17]) (by kernel_rfl) (by simp) ?_
          refine AllReadyH.cons rfl (fun K hK => ?_) AllReadyH.nil
          go_simp
          refine hK.out _ _ (HSX.out _ _ (Q1.alloc _)) (fun hHeld => ?_)
          clear hK K
          try simp only [Act.put, List.setIfInBounds_toArray, List.set_cons_zero, List.set_cons_succ]
          refine wpAnyH_ready (rs := [18]) (by kernel_rfl) (by simp) ?_
          refine AllReadyH.cons rfl (fun K hK => ?_) AllReadyH.nil
          go_simp
          refine (HSY.out _ Q1).mono ?_
          rintro e w5 ⟨rfl, Q2⟩
          refine hK.out _ _ (HSX.out _ _ Q2) (fun hHeld => ?_)
          clear hK K
          try simp only [Act.put, List.setIfInBounds_toArray, List.set_cons_zero, List.set_cons_succ]
          refine take_ok (i := 19) (d := 83) (v := ?_) rfl rfl (by kernel_rfl) (by kernel_rfl) (by kernel_rfl) (fun _ _ _ h => h) (Or.inl ⟨by rfl, ?_⟩) (by assumption) ?_
          rotate_left
          · intro w9 hSw
            try dsimp only at hSw
            first | (go_simp; done) | (go_simp; with_reducible rfl)
          try simp only [Act.put, List.setIfInBounds_toArray, List.set_cons_zero, List.set_cons_succ]
          refine take_ok (i := 20) (d := 84) (v := ?_) rfl rfl (by kernel_rfl) (by kernel_rfl) (by kernel_rfl) (fun _ _ _ h => h) (Or.inl ⟨by rfl, ?_⟩) (by assumption) ?_
          rotate_left
          · intro w9 hSw
            try dsimp only at hSw
            first | (go_simp; done) | (go_simp; with_reducible rfl)
          try simp only [Act.put, List.setIfInBounds_toArray, List.set_cons_zero, List.set_cons_succ]
          refine take_ok (i := 21) (d := 85) (v := ?_) rfl rfl (by kernel_rfl) (by kernel_rfl) (by kernel_rfl) (fun _ _ _ h => h) (Or.inl ⟨by rfl, ?_⟩) (by assumption) ?_
          rotate_left
          · intro w9 hSw
            try dsimp only at hSw
            first | (go_simp; done) | (go_simp; with_reducible rfl)
          try simp only [Act.put, List.setIfInBounds_toArray, List.set_cons_zero, List.set_cons_succ]
          refine take_ok (i := 22) (d := 86) (v := ?_) rfl rfl (by kernel_rfl) (by kernel_rfl) (by kernel_rfl) (fun _ _ _ h => h) (Or.inl ⟨by rfl, ?_⟩) (by assumption) ?_
          rotate_left
          · intro w9 hSw
            try dsimp only at hSw
            first | (go_simp; done) | (go_simp; with_reducible rfl)
          try simp only [Act.put, List.setIfInBounds_toArray, List.set_cons_zero, List.set_cons_succ]
          refine take_ok (i := 23) (d := 87) (v := ?_) rfl rfl (by kernel_rfl) (by kernel_rfl) (by kernel_rfl) (fun _ _ _ h => h) (Or.inl ⟨by rfl, ?_⟩) (by assumption) ?_
          rotate_left
          · intro w9 hSw
            try dsimp only at hSw
            first | (go_simp; done) | (go_simp; with_reducible rfl)
          try simp only [Act.put, List.setIfInBounds_toArray, List.set_cons_zero, List.set_cons_succ]
          refine take_ok (i := 24) (d := 88) (v := ?_) rfl rfl (by kernel_rfl) (by kernel_rfl) (by kernel_rfl) (fun _ _ _ h => h) (Or.inl ⟨by rfl, ?_⟩) (by assumption) ?_
          rotate_left
          · intro w9 hSw
            try dsimp only at hSw
            first | (go_simp; done) | (go_simp; with_reducible rfl)
          try simp only [Act.put, List.setIfInBounds_toArray, List.set_cons_zero, List.set_cons_succ]
          refine take_ok (i := 25) (d := 89) (v := ?_) rfl rfl (by kernel_rfl) (by kernel_rfl) (by kernel_rfl) (fun _ _ _ h => h) (Or.inl ⟨by rfl, ?_⟩) (by assumption) ?_
          rotate_left
          · intro w9 hSw
            try dsimp only at hSw
            first | (go_simp; done) | (go_simp; with_reducible rfl)
          try simp only [Act.put, List.setIfInBounds_toArray, List.set_cons_zero, List.set_cons_succ]
          refine take_ok (i := 26) (d := 90) (v := ?_) rfl rfl (by kernel_rfl) (by kernel_rfl) (by kernel_rfl) (fun _ _ _ h => h) (Or.inl ⟨by rfl, ?_⟩) (by assumption) ?_
          rotate_left
          · intro w9 hSw
            try dsimp only at hSw
            first | (go_simp; done) | (go_simp; with_reducible rfl)
          try simp only [Act.put, List.setIfInBounds_toArray, List.set_cons_zero, List.set_cons_succ]
          refine take_ok (i := 27) (d := 91) (v := undef) rfl rfl (by kernel_rfl) (by kernel_rfl) (by kernel_rfl) (fun _ _ _ h => h) (Or.inr ⟨by rfl, rfl⟩) (by assumption) ?_
          try simp only [Act.put, List.setIfInBounds_toArray, List.set_cons_zero, List.set_cons_succ]
          refine take_ok (i := 28) (d := 92) (v := undef) rfl rfl (by kernel_rfl) (by kernel_rfl) (by kernel_rfl) (fun _ _ _ h => h) (Or.inr ⟨by rfl, rfl⟩) (by assumption) ?_
          try simp only [Act.put, List.setIfInBounds_toArray, List.set_cons_zero, List.set_cons_succ]
          refine take_ok (i := 29) (d := 93) (v := undef) rfl rfl (by kernel_rfl) (by kernel_rfl) (by kernel_rfl) (fun _ _ _ h => h) (Or.inr ⟨by rfl, rfl⟩) (by assumption) ?_
          try simp only [Act.put, List.setIfInBounds_toArray, List.set_cons_zero, List.set_cons_succ]
          refine take_ok (i := 30) (d := 94) (v := undef) rfl rfl (by kernel_rfl) (by kernel_rfl) (by kernel_rfl) (fun _ _ _ h => h) (Or.inr ⟨by rfl, rfl⟩) (by assumption) ?_
          try simp only [Act.put, List.setIfInBounds_toArray, List.set_cons_zero, List.set_cons_succ]
          refine take_ok (i := 31) (d := 95) (v := undef) rfl rfl (by kernel_rfl) (by kernel_rfl) (by kernel_rfl) (fun _ _ _ h => h) (Or.inr ⟨by rfl, rfl⟩) (by assumption) ?_
          try simp only [Act.put, List.setIfInBounds_toArray, List.set_cons_zero, List.set_cons_succ]
          refine take_ok (i := 32) (d := 96) (v := undef) rfl rfl (by kernel_rfl) (by kernel_rfl) (by kernel_rfl) (fun _ _ _ h => h) (Or.inr ⟨by rfl, rfl⟩) (by assumption) ?_
          try simp only [Act.put, List.setIfInBounds_toArray, List.set_cons_zero, List.set_cons_succ]
          refine take_ok (i := 33) (d := 97) (v := undef) rfl rfl (by kernel_rfl) (by kernel_rfl) (by kernel_rfl) (fun _ _ _ h => h) (Or.inr ⟨by rfl, rfl⟩) (by assumption) ?_
          try simp only [Act.put, List.setIfInBounds_toArray, List.set_cons_zero, List.set_cons_succ]
          refine take_ok (i := 34) (d := 98) (v := undef) rfl rfl (by kernel_rfl) (by kernel_rfl) (by kernel_rfl) (fun _ _ _ h => h) (Or.inr ⟨by rfl, rfl⟩) (by assumption) ?_
          try simp only [Act.put, List.setIfInBounds_toArray, List.set_cons_zero, List.set_cons_succ]
          refine take_ok (i := 35) (d := 99) (v := undef) rfl rfl (by kernel_rfl) (by kernel_rfl) (by kernel_rfl) (fun _ _ _ h => h) (Or.inr ⟨by rfl, rfl⟩) (by assumption) ?_
          try simp only [Act.put, List.setIfInBounds_toArray, List.set_cons_zero, List.set_cons_succ]
          refine take_ok (i := 36) (d := 100) (v := undef) rfl rfl (by kernel_rfl) (by kernel_rfl) (by kernel_rfl) (fun _ _ _ h => h) (Or.inr ⟨by rfl, rfl⟩) (by assumption) ?_
          try simp only [Act.put, List.setIfInBounds_toArray, List.set_cons_zero, List.set_cons_succ]
          refine take_ok (i := 37) (d := 101) (v := undef) rfl rfl (by kernel_rfl) (by kernel_rfl) (by kernel_rfl) (fun _ _ _ h => h) (Or.inr ⟨by rfl, rfl⟩) (by assumption) ?_
          try simp only [Act.put, List.setIfInBounds_toArray, List.set_cons_zero, List.set_cons_succ]
          refine take_ok (i := 38) (d := 102) (v := ?_) rfl rfl (by kernel_rfl) (by kernel_rfl) (by kernel_rfl) (fun _ _ _ h => h) (Or.inl ⟨by rfl, ?_⟩) (by assumption) ?_
          rotate_left
          · intro w9 hSw
            try dsimp only at hSw
            first | (go_simp; done) | (go_simp; with_reducible rfl)
          try simp only [Act.put, List.setIfInBounds_toArray, List.set_cons_zero, List.set_cons_succ]
          refine take_ok (i := 39) (d := 103) (v := ?_) rfl rfl (by kernel_rfl) (by kernel_rfl) (by kernel_rfl) (fun _ _ _ h => h) (Or.inl ⟨by rfl, ?_⟩) (by assumption) ?_
          rotate_left
          · intro w9 hSw
            try dsimp only at hSw
            first | (go_simp; done) | (go_simp; with_reducible rfl)
          try simp only [Act.put, List.setIfInBounds_toArray, List.set_cons_zero, List.set_cons_succ]
          refine wpAnyH_done (by kernel_rfl) ?_ _
          rw [← List.append_nil F] at Q2
          have HQ2 : Hid (Ses w w5 p ((X, F ++ [], F.length) :: R1) 2000 [] [(.slice (some ⟨g, 0, none⟩) ls.length 5, ns5.take ls.length)]) := Lib.hid (by rw [List.append_nil] at Q2 ⊢; exact Q2)
          have cn3 := HCN.out _ _ Q2
          have hg3 := World.block_lt_of_cell? _ _ cn3
          clear HA1 HSY HSX Q0 Q1 Q2 hHeld
          go_wp2_with fail
          refine (HLO.out _ HQ2.out).mono ?_
          rintro e w7 ⟨rfl, Q4⟩
          have HQ4 := Lib.hid Q4
          clear Q4 HQ2
          go_wp2
          go_roundw
          case rel => exact ⟨j, by omega, rfl, by rw [HL0.out]; rfl, Lib.hid (by rw [HNX.out]; exact HQ4.out), Lib.hid (fun q hq => by
            rw [HBX.out] at hq
            rcases List.mem_cons.1 hq with rfl | hq
            · exact ⟨hF60, by simp⟩
            · exact HB.out q hq)⟩
          case measure => simp [RowKit.intOf]
      · have e3 : decide ((60 : Int) < (F.length : Int)) = true := by simp; omega
        have HBL := Lib.hid HS.out.bl
        clear HS
        go_wp2_with fail
        refine (HAW.out _).mono ?_
        rintro e w2 ⟨rfl, b2⟩
        go_wp2
        go_ret
        exact ⟨rfl, bn HBL.out b2⟩

set_option maxHeartbeats 4000000 in
set_option maxRecDepth 4000 in
theorem crashes_c (ls ms : List (List Int)) (stay : Int) (v1 v2 : Value) (w : World) (h1 : Pq w v1 ls) (h2 : Pq w v2 ms) (hz : ∀ q ∈ ls, q.length ≤ maxLen) (hz2 : ∀ q ∈ ms, q.length ≤ maxLen) :
    Calls Try.prog 7 #[v1, v2, .int .i64 stay] w fun e w' => e = .returned (.bool true) ∧ Below w.heap.size w w' := by
  obtain ⟨A1, C1, rfl, _⟩ := id h1
  obtain ⟨A2, C2, rfl, _⟩ := id h2
  have HAW := Lib.hid (awake_c)
  by_cases hl : ls.length ≤ 5
  · by_cases hm : ms.length ≤ ls.length
    · exact crashes_main ls ms stay A1 A2 C1 C2 w h1 h2 hl hm hz hz2
    · have e1 : decide ((5 : Int) < (ls.length : Int)) = false := by simp; omega
      have e2 : decide (ls.length < ms.length) = true := by simp; omega
      clear h1 h2 hz hz2
      go_enter Try.func7, Try.ntmps7
      go_wp2_with fail
      refine (HAW.out _).mono ?_
      rintro e w1 ⟨rfl, b1⟩
      go_wp2
      go_ret
      exact ⟨rfl, b1⟩
  · have e1 : decide ((5 : Int) < (ls.length : Int)) = true := by simp; omega
    clear h1 h2 hz hz2
    go_enter Try.func7, Try.ntmps7
    go_wp2_with fail
    refine (HAW.out _).mono ?_
    rintro e w1 ⟨rfl, b1⟩
    go_wp2
    go_ret
    exact ⟨rfl, b1⟩
end Go.Proofs.Ytmhmdnlkkpjdjaa

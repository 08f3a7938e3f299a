/- The contract of the document's many, of an object. -/
import Derived.Test.YtpgllcdcpdeicaaGreatDoorJvGr
import Derived.Deep.RegionLaw
namespace Go.Proofs.YtpgllcdcpdeicaaGreatDoor.Jv
open Jt
open Go.RowKit Go.ChangeMaps Go.MapKept Go.WideMaps
set_option linter.unusedSimpArgs false
set_option linter.unusedVariables false

set_option maxRecDepth 100000 in
set_option maxHeartbeats 16000000 in
theorem many_t (s : ByteArray) (a p g F : Nat) (op mo : Int) (w : World) (h : w.heap[g]? = some (obQ s ⟨a, 0, p⟩)) (hs : s.size ≤ 1000) (ha : a ≤ s.size) (hF : 2 * (s.size - a) + 2 ≤ F) (ho : 0 ≤ op) (hom : op < mo) (hmo : mo ≤ 16) (HV : Hid (∀ f, f < F → VQ g s mo f)) :
    Calls Tryz.prog 26 #[.pointer (some ⟨g, 0, none⟩), .int .i64 1, .int .i64 op, .int .i64 mo] w (MaQ g s (if (isQ s.data.toList 2 ⟨a, 0, p⟩).1 then (.mk 5 false 0 [] [] [], (isQ s.data.toList 2 ⟨a, 0, p⟩).2) else loopQ s.data.toList F true (mo - (op + 1)) [] [] ⟨a, 0, p⟩) w) := by
  have hsl := Lib.size_eq s
  have hgl : g < w.heap.size := (Array.getElem?_eq_some_iff.1 h).1
  have hq : IntKind.i64.wrap (op + 1) = op + 1 := by rw [IntKind.wrap_i64]; omega
  obtain ⟨W0, hW0, hk0, hv0, hb0, hz0⟩ := two_w w
  have HW0 := Lib.hid hW0
  obtain ⟨W1, hW1⟩ : ∃ W1, W1 = W0.setCell ⟨w.heap.size + 1, 0, none⟩ (.int .i64 5) := ⟨_, rfl⟩
  have hG1 : Grw (fun j => j = w.heap.size + 1) W0 W1 := by rw [hW1]; exact gr_one W0 _ 0 _
  have HK1 : Hid (W1.heap[w.heap.size]? = some zW) := (hG1.block (by omega) (by omega)).trans hk0
  have HV1 : Hid (W1.heap[w.heap.size + 1]? = some (obW (.int .i64 5) (.bool false) (.int .i64 0) (.string ⟨#[]⟩) (.slice none 0 0) (.slice none 0 0))) := by
    rw [hW1]; have := blk_set hv0 0 (.int .i64 5); exact Lib.hid (by simpa using this)
  have HZ1 : Hid (W1.heap.size = w.heap.size + 2) := by rw [hW1]; exact Lib.hid (by simpa using hz0)
  have HB1 : Hid (Below w.heap.size w W1) := ⟨hG1.1.trans hb0.os, hG1.2.1.trans hb0.tape, hG1.2.2.1.trans hb0.output, Nat.le_trans hb0.size hG1.size, fun j hj => (hG1.block (by omega) (by omega)).trans (hb0.block j hj)⟩
  have HW1 := Lib.hid hW1
  obtain ⟨v0, v1, v2, v3, v4, v5⟩ := cells6 hv0
  have f0 := frz hv0 0
  clear hW1 hG1
  have HGL := Lib.hid hgl
  have HR1 : Hid (W1.heap[g]? = some (obQ s ⟨a, 0, p⟩)) := (HB1.out.block g hgl).trans h
  have HP : Hid (LP g (w.heap.size + 1) W1) := ⟨by have := HZ1.out; omega, by have := HZ1.out; omega, by omega⟩
  have HC1 : Hid (LC g (w.heap.size + 1) s 5 ⟨a, 0, p⟩ [] [] (.slice none 0 0) (.slice none 0 0) W1 W1) := LC.start HR1.out HV1.out
  have HI : Hid (∀ st W, W.heap[g]? = some (obQ s st) → st.at' ≤ s.size → Calls Tryz.prog 41 #[.pointer (some ⟨g, 0, none⟩), .int .i64 2] W fun e w' => e = .returned (.bool (isQ s.data.toList 2 st).1) ∧ QsQ g s (isQ s.data.toList 2 st).2 W w') := fun st W hW hle => is_c s st g 2 W hW hs hle
  have HM : Hid (∀ st W, W.heap[g]? = some (obQ s st) → st.at' ≤ s.size → Calls Tryz.prog 43 #[.pointer (some ⟨g, 0, none⟩), .int .i64 6] W fun e w' => e = .returned (.tuple #[]) ∧ QsQ g s (mustQ s.data.toList 6 st) W w') := fun st W hW hle => must_c s st g 6 W hW hs hle
  have HX := Lib.hid (HI.out ⟨a, 0, p⟩ W1 HR1.out ha)
  have HS := Lib.hid hs
  have HSL := Lib.hid hsl
  have HKY : Hid (∀ (st : QS) (ks : List (List UInt8)) (xs : List JV) (vi vk : Value) (wr : World), LC g (w.heap.size + 1) s 5 st ks xs vi vk W1 wr → st.at' ≤ s.size → ks.length ≤ 1000 → Calls Tryz.prog 42 #[.pointer (some ⟨g, 0, none⟩), .pointer (some ⟨w.heap.size + 1, 0, none⟩)] wr fun e w' => e = .returned (.tuple #[]) ∧ ∃ vk2, LC g (w.heap.size + 1) s 5 (keyQ s.data.toList ks st) (ks ++ [(tokA s.data.toList st.at').1.t]) xs vi vk2 W1 w') := by
    intro st ks xs vi vk wr hc hle hkl
    refine Calls.mono (key_c s st g (w.heap.size + 1) W1.heap.size ks _ _ _ _ vi vk wr hc.hg hc.hv hc.ky HP.out.ne (fun j hj => ⟨by have := (hc.lt.2 j hj).1; have := HP.out.hg; omega, by have := (hc.lt.2 j hj).1; have := HP.out.hq; omega⟩) hc.gr.size hs hle (by omega)) ?_
    rintro e w' ⟨he, g1, c1, h1, h2, h3, h4, h5⟩
    exact ⟨he, _, hc.key HP.out h1 h2 h3 h4 h5⟩
  clear hW0 hk0 hv0 hb0 h hs hsl
  cases hb : (isQ s.data.toList 2 ⟨a, 0, p⟩).1 with
  | true =>
    rw [if_pos rfl]
    rw [hb] at HX
    clear hb
    go_enter Tryz.func26, Tryz.ntmps26
    go_upto_region 3 with (fail)
    rw [← HW0.out]
    go_upto_region 4 with (fail)
    rw [← HW1.out]
    clear v0 v1 v2 v3 v4 v5 f0
    go_upto_region 5 with (go_at_call 41; (with_reducible refine HX.out.mono ?_); rintro e w1 ⟨rfl, hq1⟩; have HQ1 := Lib.hid hq1; clear hq1)
    have HC2 := Lib.hid (HC1.out.qs HP.out HQ1.out)
    obtain ⟨HZKa, HZVa, HZXa, HZMa⟩ := fin_m HC2.out HGL.out HB1.out HZ1.out HK1.out
    obtain ⟨u0, u1, u2, u3, u4, u5⟩ := cells6 HZVa.out
    obtain ⟨y0, y1, y2, y3, y4, y5⟩ := cells6 HZKa.out
    have z0 := frz HZKa.out 0
    have z1 := frz HZKa.out 1
    have z2 := frz HZKa.out 2
    have z3 := frz HZKa.out 3
    have z4 := frz HZKa.out 4
    have z5 := frz HZKa.out 5
    go_wp2_with fail
    obtain ⟨d0, d1, d2, d3, d4, d5⟩ := cells6 HZXa.out
    clear u0 u1 u2 u3 u4 u5 y0 y1 y2 y3 y4 y5 z0 z1 z2 z3 z4 z5
    (with_reducible refine bodyPost_ret (v := .agg #[.int .i64 5, .bool false, .int .i64 0, .string ⟨#[]⟩, .slice none 0 0, .slice none 0 0]) (by simp [results, Tryz.results26, go_sem, d0, d1, d2, d3, d4, d5]) rfl ?_)
    exact HZMa.out
  | false =>
    simp only [Bool.false_eq_true, if_false]
    have hst := isQ_f hb
    rw [hb, hst] at HX
    clear hb hst
    obtain ⟨R, hRe⟩ : ∃ R, loopQ s.data.toList F true (mo - (op + 1)) [] [] ⟨a, 0, p⟩ = R := ⟨_, rfl⟩
    rw [hRe]
    have HRE := Lib.hid hRe
    have HFA : Hid (2 * (s.size - a) + 2 ≤ F ∧ a ≤ s.size) := ⟨hF, ha⟩
    clear hRe hF ha
    go_enter Tryz.func26, Tryz.ntmps26
    go_upto_region 3 with (fail)
    rw [← HW0.out]
    go_upto_region 4 with (fail)
    rw [← HW1.out]
    clear v0 v1 v2 v3 v4 v5 f0
    go_upto_region 6 with (go_at_call 41; (with_reducible refine HX.out.mono ?_); rintro e w1 ⟨rfl, hq1⟩; have HQ1 := Lib.hid hq1; clear hq1)
    have HL0 : Hid (LQ g (w.heap.size + 1) s true 5 (mo - (op + 1)) R F [] [] ⟨a, 0, p⟩ (.slice none 0 0) (.slice none 0 0) W1 w1) := ⟨HC1.out.qs HP.out HQ1.out, HRE.out, HFA.out.2, fun _ => ⟨HFA.out.1, Nat.zero_le _⟩, Nat.le_refl _⟩
    clear HX HQ1 HC1 HRE HFA HR1 HV1
    go_loopw [10] (fun _ wr => ∃ (f : Nat) (ks : List (List UInt8)) (xs : List JV) (st : QS) (vi vk : Value), Hid (f ≤ F ∧ LQ g (w.heap.size + 1) s true 5 (mo - (op + 1)) R f ks xs st vi vk W1 wr)) (fun _ wr => msQ g s.size wr)
    case atStart => exact ⟨F, [], [], _, _, _, Lib.hid ⟨Nat.le_refl _, HL0.out⟩⟩
    case round =>
      clear HL0
      obtain ⟨f, ks, xs, st, vi, vk, HLF⟩ := hrel
      have HFF : Hid (f ≤ F) := HLF.out.1
      have HL := Lib.hid HLF.out.2
      clear HLF
      obtain ⟨a1, b1, p1⟩ := st
      obtain ⟨⟨aoi, ci, e1⟩, aok, ck, e2⟩ := HL.out.lc.form
      obtain ⟨n, hn⟩ : ∃ n, n = xs.length := ⟨_, rfl⟩
      obtain ⟨m, hm⟩ : ∃ m, m = ks.length := ⟨_, rfl⟩
      have HN : Hid (xs.length = n) := hn.symm
      rw [← hn] at e1
      rw [← hm] at e2
      subst e1
      subst e2
      clear hn hm
      obtain ⟨c0, c1, c2, c3⟩ := cells4q HL.out.lc.hg
      by_cases hb1 : b1 = 0
      · subst hb1
        obtain ⟨f', rfl⟩ : ∃ f', f = f' + 1 := ⟨f - 1, by have := (HL.out.fu rfl).1; omega⟩
        have HNQ := Lib.hid (many_nx (k := 2) (room := mo - (op + 1)) (l := s.data.toList) (n := s.size) (f := f') (m := n) (st := ⟨a1, 0, p1⟩) (st1 := keyQ s.data.toList ks ⟨a1, 0, p1⟩) HSL.out.symm rfl (HL.out.fu rfl).1 (by rw [← HN.out]; exact (HL.out.fu rfl).2) (by rw [HSL.out]; exact keyQ_fw (by rw [← HSL.out]; exact HL.out.le)))
        have HRS := Lib.hid HL.out.rs
        rw [loopQ_t rfl] at HRS
        have HFK : Hid ((keyQ s.data.toList ks ⟨a1, 0, p1⟩).at' ≤ s.size) := by
          show _ ≤ _
          rw [HSL.out]; exact (keyQ_fw (by rw [← HSL.out]; exact HL.out.le)).2.1
        have HKW := Lib.hid (HKY.out _ _ _ _ _ wr HL.out.lc HL.out.le (by have := HL.out.kl; have := (HL.out.fu rfl).2; have := HL.out.le; have := HS.out; omega))
        have HKL1 : Hid ((ks ++ [(tokA s.data.toList (QS.at' ⟨a1, 0, p1⟩)).1.t]).length ≤ n + 1) := by
          show _ ≤ _
          rw [List.length_append]; have := HL.out.kl; have := HN.out; simp; omega
        generalize keyQ s.data.toList ks ⟨a1, 0, p1⟩ = st1 at HNQ HRS HKW HFK
        generalize ks ++ [(tokA s.data.toList (QS.at' ⟨a1, 0, p1⟩)).1.t] = ks1 at HRS HKW HKL1
        have HVW := Lib.hid (fun W (hW : W.heap[g]? = some (obQ s st1)) => HV.out f' (by have := HFF.out; omega) st1 (op + 1) W hW HFK.out (by omega) (by omega) HNQ.out.1.1 HNQ.out.1.2)
        have HLE : Hid ((valQ s.data.toList f' (mo - (op + 1)) st1).2.at' ≤ s.size) := HNQ.out.2.1.2.1
        generalize valQ s.data.toList f' (mo - (op + 1)) st1 = r2 at HNQ HRS HVW HLE
        obtain ⟨X, st2⟩ := r2
        dsimp only at HNQ HRS HLE
        have HKL : Hid (ks.length ≤ xs.length ∧ xs.length ≤ 1000) := ⟨HL.out.kl, by have := (HL.out.fu rfl).2; have := HL.out.le; have := HS.out; omega⟩
        have HMS : Hid (msQ g s.size wr = s.size + 1 - a1) := by
          show _ = _
          rw [msQ_is HL.out.lc.hg, if_pos rfl]
        clear HL
        go_upto_region 9 with (go_at_call 42; (with_reducible refine HKW.out.mono ?_); rintro e w2 ⟨rfl, vk2, hl2⟩; have HL2 := Lib.hid hl2; clear hl2)
        obtain ⟨-, aok2, ck2, e2⟩ := HL2.out.form
        obtain ⟨m2, hm⟩ : ∃ m2, m2 = ks1.length := ⟨_, rfl⟩
        have HK9 := HKL1
        rw [← hm] at e2
        subst e2
        clear hm HKW
        have HVV := Lib.hid (HVW.out w2 HL2.out.hg)
        have HVL : Hid ((∀ j, (Value.slice aoi n ci).ownBlock = some j → j < w2.heap.size) ∧ ∀ j, (Value.slice aok2 m2 ck2).ownBlock = some j → j < w2.heap.size) := ⟨fun j hj => (HL2.out.lt.1 j hj).2, fun j hj => (HL2.out.lt.2 j hj).2⟩
        have HZ2 : Hid (W1.heap.size ≤ w2.heap.size) := HL2.out.gr.size
        clear HVW
        unfold MaQ at HVV
        dsimp only at HVV
        go_upto_region 10 with (go_at_call 12; (with_reducible refine HVV.out.mono ?_); rintro e w4 ⟨xk, xb, xn, xt, xo, xl, xq, yo, yl, yq, rfl, hr4, hq4⟩; have HR4 := Lib.hid hr4; have HL4 := Lib.hid (HL2.out.qs HP.out hq4); clear hr4 hq4)
        clear HVV c0 c1 c2 c3
        obtain ⟨W5, hW5, hk5, hb5⟩ := one_r w4 xk xb xn xt xo xl xq yo yl yq
        have HW5 := Lib.hid hW5
        have HX5 := Lib.hid hk5
        have HL5 := Lib.hid (HL4.out.be HP.out hb5)
        have HPRE : Hid (∃ css, W5.ownsRow W1.heap.size 31 6 (.slice aoi n ci) n (List.flatten css) ∧ RepA (fun j => (W1.heap.size ≤ j ∧ (Value.slice aok2 m2 ck2).ownBlock ≠ some j) ∧ (Value.slice aoi n ci).ownBlock ≠ some j) W5 (xs ++ [X]) (css ++ [c6 xk xb xn xt xo xl xq yo yl yq])) := by
          have := LC.pre HL5.out (Rep.keep (Kep.of hb5) _ HR4.out) HZ2.out HVL.out.1 HVL.out.2
          rw [HN.out] at this
          exact Lib.hid this
        obtain ⟨css, ho5, ha5⟩ := HPRE.out
        have HO5 := Lib.hid ho5
        have HA5 := Lib.hid ha5
        have hs5 : w4.heap.size < W5.heap.size := (Array.getElem?_eq_some_iff.1 hk5).1
        clear hW5 hk5 hb5 HPRE ho5 ha5 HR4 HL4 HVL
        rw [← HW5.out]
        obtain ⟨i0, hi, hz0', hz1, hz2⟩ := info_parts infoR
        obtain ⟨x0, x1, x2, x3, x4, x5⟩ := cells6 HX5.out
        have m4 := cell_of_row _ _ 4 _ _ _ HL5.out.hv
        obtain ⟨WB, hWB⟩ : ∃ WB, WB = ((W5.alloc (.cells #[.int .i64 0, .bool false, .int .i64 0, .string ⟨#[]⟩, .slice none 0 0, .slice none 0 0] 31)).drew) := ⟨_, rfl⟩
        have HBB : Hid (Below W5.heap.size W5 WB) := by rw [hWB]; exact Lib.hid (((Below.refl _ _).alloc (Nat.le_refl _) _).drew)
        have HOB : Hid (WB.ownsRow W1.heap.size 31 6 (.slice aoi n ci) n (List.flatten css)) := by rw [hWB]; exact Lib.hid ((HO5.out.alloc _).drew)
        have HNB : Hid (WB.heap[W5.heap.size]? = some (.cells #[.int .i64 0, .bool false, .int .i64 0, .string ⟨#[]⟩, .slice none 0 0, .slice none 0 0] 31 (0, 0))) := by rw [hWB]; exact Lib.hid (heap_alloc_new W5 (.cells #[.int .i64 0, .bool false, .int .i64 0, .string ⟨#[]⟩, .slice none 0 0, .slice none 0 0] 31))
        have HWB := Lib.hid hWB
        have hlB : W1.heap.size ≤ WB.heap.size := by have := HBB.out.size; have := HL5.out.gr.size; omega
        have n4 := World.new_ne W5 _ m4
        have n0 := World.new_ne W5 _ x0
        have l5 : w.heap.size + 1 < W5.heap.size := by have := HL5.out.gr.size; have := HP.out.hq; omega
        have hnn : n ≤ 1000 := by have := HKL.out.2; have := HN.out; omega
        have hn1 : n + 1 ≤ maxLen := by have : (10000 : Nat) ≤ maxLen := (by decide); omega
        have hni : (n : Int) < (n : Int) + 1 := by omega
        have hni0 : (0 : Int) ≤ (n : Int) := by omega
        have hn2 : (n + 1) * 88 ≤ 140737488355328 := by omega
        have HVQ : Hid (∀ j, (Value.slice aoi n ci).ownBlock = some j → j ≠ w.heap.size + 1) := fun j hj e => by have := (HL5.out.lt.1 j hj).1; have := HP.out.hq; omega
        clear hWB
        go_region_law (rw [← HWB.out]; refine step_append_lies _ rfl _ _ 29 rfl W1.heap.size 31 i0 _ 6 88 Tryz.underlying29 hi hz0' hz1 hz2 rfl (by decide) _ _ _ rfl HOB.out ⟨W5.heap.size, 0, none⟩ 1 1 [.int .i64 0, .bool false, .int .i64 0, .string ⟨#[]⟩, .slice none 0 0, .slice none 0 0] rfl rfl (World.news_of_block HNB.out) (by simp [Value.oneCell']) (by decide) hn1 hn2 hlB _ rfl ?_; intro g1 cg1 V hown hgrow hat hlt; obtain ⟨⟨hgp, hVP⟩, hCE, hFZ⟩ := rt_ap (v := .slice aoi n ci) hown hgrow HBB.out HL5.out.hv HVQ.out hat; have hgp2 : w.heap.size + 1 ≠ g1 := Ne.symm hgp; have f4 := frz hVP 4; obtain ⟨k0, k1, k2, k3, k4, k5⟩ := hCE; have f0 := hFZ (n * 6); have f1 := hFZ (n * 6 + 1); have f2 := hFZ (n * 6 + 2); have f3 := hFZ (n * 6 + 3); have f5 := hFZ (n * 6 + 4); have f6 := hFZ (n * 6 + 5); have p4 := cell_of_row _ _ 4 _ _ _ hVP; obtain ⟨Wa, Wb, hWa, hWb, hIA, hIB⟩ := rt_fin2 (vi := .slice aoi n ci) HBB.out hown hgrow hat hlt hVP hgp (.int .i64 xk) (.bool xb) (.int .i64 xn) (.string xt) (.slice xo xl xq) (.slice yo yl yq); have HIA := Lib.hid hIA; have HIB := Lib.hid hIB; have HWa := Lib.hid hWa; have HWb := Lib.hid hWb; clear hFZ hIA hIB hWa hWb hown hgrow hat hlt hVP)
        all_goals
          clear x0 x1 x2 x3 x4 x5 m4 n4 n0 k0 k1 k2 k3 k4 k5 f0 f1 f2 f3 f4 f5 f6 p4
          first
            | (rw [← HWa.out]; clear HWa HWb HIB; revert HIA; generalize Wa = W6; intro HIO)
            | (rw [← HWb.out]; clear HWa HWb HIA; revert HIB; generalize Wb = W6; intro HIO)
          obtain ⟨ao6, cc6, hl6⟩ := LC.app HL5.out HP.out HN.out HA5.out HIO.out
          have HL6 := Lib.hid hl6
          clear hl6 HIO HA5 HO5 HBB HOB HNB HWB HL5
          have HIX := Lib.hid (HI.out st2 W6 HL6.out.hg HLE.out)
          cases hb2 : (isQ s.data.toList 2 st2).1 with
          | true =>
            have HRT : Hid (R = (.mk 5 false 0 [] (xs ++ [X]) ks1, (isQ s.data.toList 2 st2).2)) := by
              show _ = _
              rw [← HRS.out, if_pos hb2]
            rw [hb2] at HIX
            go_upto_region 12 with (go_at_call 41; (with_reducible refine HIX.out.mono ?_); rintro e w7 ⟨rfl, hq7⟩; have HQ7 := Lib.hid hq7; clear hq7)
            have HL7 := Lib.hid (HL6.out.qs HP.out HQ7.out)
            obtain ⟨HZKb, HZVb, HZXb, HZMb⟩ := fin_m HL7.out HGL.out HB1.out HZ1.out HK1.out
            obtain ⟨u0, u1, u2, u3, u4, u5⟩ := cells6 HZVb.out
            obtain ⟨y0, y1, y2, y3, y4, y5⟩ := cells6 HZKb.out
            have z0 := frz HZKb.out 0
            have z1 := frz HZKb.out 1
            have z2 := frz HZKb.out 2
            have z3 := frz HZKb.out 3
            have z4 := frz HZKb.out 4
            have z5 := frz HZKb.out 5
            go_wp2_with fail
            obtain ⟨d0, d1, d2, d3, d4, d5⟩ := cells6 HZXb.out
            clear u0 u1 u2 u3 u4 u5 y0 y1 y2 y3 y4 y5 z0 z1 z2 z3 z4 z5
            (with_reducible refine bodyPost_ret (v := .agg #[.int .i64 5, .bool false, .int .i64 0, .string ⟨#[]⟩, .slice ao6 (n + 1) cc6, .slice aok2 m2 ck2]) (by simp [results, Tryz.results26, go_sem, d0, d1, d2, d3, d4, d5]) rfl ?_)
            rw [HRT.out]
            exact HZMb.out
          | false =>
            have hst := isQ_f hb2
            rw [hb2, if_neg (by decide), hst] at HRS
            rw [hb2, hst] at HIX
            rw [hst] at HNQ
            go_upto_region 13 with (go_at_call 41; (with_reducible refine HIX.out.mono ?_); rintro e w7 ⟨rfl, hq7⟩; have HQ7 := Lib.hid hq7; clear hq7)
            have HL7 := Lib.hid (HL6.out.qs HP.out HQ7.out)
            have HMX := Lib.hid (HM.out st2 w7 HL7.out.hg HLE.out)
            go_wp2_with (go_at_call 43; (with_reducible refine HMX.out.mono ?_); rintro e w8 ⟨rfl, hq8⟩; have HQ8 := Lib.hid hq8; clear hq8)
            have HL8 := Lib.hid (HL7.out.qs HP.out HQ8.out)
            go_roundw
            case rel => exact ⟨f', ks1, xs ++ [X], _, _, _, Lib.hid ⟨by have := HFF.out; omega, HL8.out, HRS.out, HNQ.out.2.2.2.1, fun e => by rw [List.length_append, HN.out]; exact HNQ.out.2.2.2.2.1 e, by rw [List.length_append, HN.out]; exact HK9.out⟩⟩
            case measure =>
              rw [HMS.out, msQ_is HL8.out.hg]
              exact HNQ.out.2.2.2.2.2
      · have e1 : (b1 == 0) = false := by simpa using hb1
        have HRT : Hid (R = (.mk 5 false 0 [] xs ks, ⟨a1, b1, p1⟩)) := by
          show _ = _
          rw [← HL.out.rs, loopQ_bad hb1]
          rfl
        have HLC := Lib.hid HL.out.lc
        clear HL hb1
        go_upto_region 14 with (fail)
        clear c0 c1 c2 c3
        obtain ⟨HZKc, HZVc, HZXc, HZMc⟩ := fin_m HLC.out HGL.out HB1.out HZ1.out HK1.out
        obtain ⟨u0, u1, u2, u3, u4, u5⟩ := cells6 HZVc.out
        obtain ⟨y0, y1, y2, y3, y4, y5⟩ := cells6 HZKc.out
        have z0 := frz HZKc.out 0
        have z1 := frz HZKc.out 1
        have z2 := frz HZKc.out 2
        have z3 := frz HZKc.out 3
        have z4 := frz HZKc.out 4
        have z5 := frz HZKc.out 5
        go_wp2_with fail
        obtain ⟨d0, d1, d2, d3, d4, d5⟩ := cells6 HZXc.out
        clear u0 u1 u2 u3 u4 u5 y0 y1 y2 y3 y4 y5 z0 z1 z2 z3 z4 z5
        (with_reducible refine bodyPost_ret (v := .agg #[.int .i64 5, .bool false, .int .i64 0, .string ⟨#[]⟩, .slice aoi n ci, .slice aok m ck]) (by simp [results, Tryz.results26, go_sem, d0, d1, d2, d3, d4, d5]) rfl ?_)
        rw [HRT.out]
        exact HZMc.out
end Go.Proofs.YtpgllcdcpdeicaaGreatDoor.Jv

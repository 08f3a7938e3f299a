/- LabelPick's walk: for every slice of pairs and every slice of names that came in, where the tables lie as the program's text lays them. -/
import Derived.Test.YtjgbfpkjkglfnaaDoorLbQ
import Derived.Deep.Strs
import Derived.Deep.RegionHeld3
namespace Go.Proofs.YtjgbfpkjkglfnaaDoor.Lb
open Go.RowKit Ch Jt Go.ChangeShapes Go.WideShapes
set_option linter.unusedSimpArgs false
set_option linter.unusedVariables false

def IsStrs (w : World) (a : Option Addr) (len : Nat) (ts : List ByteArray) : Prop := ts.length = len ∧ len ≤ maxLen ∧ (∀ t ∈ ts, t.size ≤ maxLen) ∧
  (ts ≠ [] → ∃ b off, a = some ⟨b, off, none⟩ ∧ b < w.heap.size ∧ ∀ i (hi : i < ts.length), w.cell? ⟨b, off + i, none⟩ = some (.string ts[i]))
theorem strs_of {H : Type} {enc : TypeId × Value → H} {W : World} {a : Option Addr} {len cap : Nat} {d : DataW H} {p : List MemPlace} (h : DataW.Trod enc Tryd.prog W 0 (fun _ => true) true 46 (.slice a len cap) d p) : ∃ ts, IsStrs W a len ts := by
  obtain ⟨fuel, hf⟩ := h
  rcases Deep.open_strs Tryd.underlying46 Tryd.underlying9 (by kernel_rfl) hf with ⟨hcs, _⟩ | ⟨x, l, c, m, Sx, hcs, hb, hl, hm, hmm, _, hx⟩
  · simp [Value.cells] at hcs
    obtain ⟨rfl, rfl, rfl⟩ := hcs
    exact ⟨[], rfl, by unfold maxLen; omega, fun t ht => by simp at ht, fun h => absurd rfl h⟩
  · simp [Value.cells] at hcs
    obtain ⟨rfl, rfl, rfl⟩ := hcs
    have hlm : len ≤ m := by rw [hmm]; simp; exact hl
    refine ⟨(List.range len).map Sx, by simp, Nat.le_trans hl hm, fun t ht => ?_, fun hne => ?_⟩
    · obtain ⟨i, hi, rfl⟩ := List.mem_map.1 ht
      exact (hx i (by have := List.mem_range.1 hi; omega)).2
    · have hp : 0 < len := by
        rcases Nat.eq_zero_or_pos len with h | h
        · subst h; simp at hne
        · exact h
      obtain ⟨b, off, spot⟩ := x
      have hc := (hx 0 (by omega)).1
      have hspot : spot = none := by simpa [Addr.add] using World.cell?_spot hc
      subst hspot
      have e : ∀ j, (⟨b, off, none⟩ : Addr).add j = ⟨b, off + j, none⟩ := fun j => by unfold Addr.add; split <;> simp_all
      refine ⟨b, off, rfl, ?_, fun i hi => ?_⟩
      · have := World.block_lt_of_cell? W _ hc
        simpa [Addr.add] using this
      · have hi' : i < len := by simpa using hi
        have h0 := (hx i (by omega)).1
        rw [e] at h0
        simp only [List.getElem_map, List.getElem_range]
        exact h0
theorem IsStrs.rd {w : World} {a : Option Addr} {cap : Nat} {ts : List ByteArray} (h : IsStrs w a ts.length ts) : RdS (.slice a ts.length cap) ts w :=
  ⟨a, cap, rfl, fun h0 => h.2.2.2 (by intro e; rw [e] at h0; exact absurd h0 (Nat.lt_irrefl _))⟩
theorem ofz_cases (fs : List FB) : (ofZ fs = 0 ∧ Asc (ofA fs) ∧ Onc (ofA fs)) ∨ ((ofZ fs = 3 ∨ ofZ fs = 10) ∧ ofA fs = []) := by
  unfold ofZ ofA
  by_cases hb : fs.any badB = true
  · simp [hb]
  · by_cases ho : Onc fs
    · rw [if_neg hb, if_pos ho, if_neg hb, if_pos ho]
      exact .inl ⟨rfl, srt_asc fs, (onc_iff (srt_perm fs)).2 ho⟩
    · simp [hb, ho]
theorem pck_none (gs : List FB) : pckL gs [] = [] := by
  unfold pckL inN
  simp
/-- is it one of the first k names? -/
theorem in_step {ss : List ByteArray} {k : Nat} (hk : k < ss.length) (s : ByteArray) : inN (ss.take (k + 1)) s = (inN (ss.take k) s || decide (ss[k] = s)) := by
  rw [List.take_succ_eq_append_getElem hk, inN_snoc]
set_option maxRecDepth 100000 in
set_option maxHeartbeats 16000000 in
theorem walkP (a : Option Addr) (len cap : Nat) (ts : List FB) (an : Option Addr) (lenn cpn : Nat) (ss : List ByteArray) (w : World) (hP : IsPrs w a len ts) (hS : IsStrs w an lenn ss) (hE : Ev w) :
    Calls Tryd.prog 4 #[.slice a len cap, .slice an lenn cpn] w fun e w' => e = .returned (.bool true) ∧ Below w.heap.size w w' := by
  obtain rfl := hP.1
  obtain rfl := hS.1
  have hsm := hS.2.1
  unfold maxLen at hsm
  have HS := Lib.hid (IsStrs.rd (cap := cpn) hS)
  have HPC := Lib.hid (Pairs_c a cap ts w hP)
  have HE := Lib.hid hE
  clear hP hE hS
  have hf6 := prK_len ts (Nat.le_refl 6)
  have HSF : Hid (∀ x ∈ prK ts 6, x.1.size ≤ 20 ∧ x.2.size ≤ 30) := fun x hx => prK_short hx
  revert HPC hf6 HSF
  generalize prK ts 6 = fs
  intro HPC hf6 HSF
  obtain ⟨ir, hir, hra, hrb, hrc⟩ := info_parts infoR
  go_enter Tryd.func4, Tryd.ntmps4
  go_wp2_with fail
  refine HPC.out.mono ?_
  rintro e w1 ⟨vo, vw, rfl, ho, _, hb1⟩
  have HB1 := Lib.hid hb1
  have HSS : Hid (∀ x ∈ fs, smallF x) := fun x hx => by have := HSF.out x hx; exact ⟨by omega, by omega⟩
  obtain ⟨ao, cpo, hv⟩ := own_lenF ho
  subst hv
  have HOF1 := Lib.hid (Of_c (.slice ao fs.length cpo) fs w1 (HE.out.go HB1.out) ho.rd (by omega) HSS.out)
  clear hb1 ho HPC
  go_wp2_with fail
  (with_reducible refine HOF1.out.mono ?_)
  intro e w3 h3
  obtain ⟨a1, c1, hpl, rfl, hr1, hb3⟩ := of_uni h3
  have HB3 : Hid (Below w.heap.size w w3) := HB1.out.trans (hb3.mono HB1.out.size)
  obtain ⟨W3, hW3, hk3, hbw3⟩ : ∃ W3, W3 = w3.alloc (.cells #[.slice a1 (ofA fs).length c1] 27) ∧ W3.heap[w3.heap.size]? = some (.cells #[.slice a1 (ofA fs).length c1] 27 (0, 0)) ∧ Below w3.heap.size w3 W3 := ⟨_, rfl, heap_alloc_new w3 _, (Below.refl _ _).alloc (Nat.le_refl _) _⟩
  have hl3 : w3.heap.size < W3.heap.size := (Array.getElem?_eq_some_iff.1 hk3).1
  have HBW3 : Hid (Below w.heap.size w W3) := HB3.out.trans (hbw3.mono HB3.out.size)
  have HR3 := Lib.hid (hr1.go hbw3)
  have HW3 := Lib.hid hW3
  have HK3 := Lib.hid hk3
  have hgl := ofA_len fs
  have HPL := Lib.hid hpl
  have HZC := Lib.hid (ofz_cases fs)
  clear h3 hr1 hb3 HOF1 hW3 hk3 hbw3 HB3 HB1 hpl
  revert HR3 HK3 hgl HW3 HZC
  generalize ofA fs = gs
  generalize ofZ fs = z
  intro HR3 HW3 HK3 hgl HZC
  have d0 := cell_of_row _ _ 0 _ _ _ HK3.out
  rcases HZC.out with ⟨rfl, ha, ho⟩ | ⟨hz, rfl⟩
  · have HA := Lib.hid ha
    have HO := Lib.hid ho
    clear ha ho HZC
    have HPN := Lib.hid (Plain_c a1 c1 gs W3 HR3.out HPL.out (by omega))
    go_wp2_with fail
    rw [← HW3.out]
    clear HW3
    refine HPN.out.mono ?_
    rintro e w4 ⟨v4, rfl, ho4, hb4⟩
    obtain ⟨a4, c4, hv⟩ := own_lenF ho4
    subst hv
    have HR4 := Lib.hid ho4.rd
    have HB4 : Hid (Below w.heap.size w w4) := HBW3.out.trans (hb4.mono HBW3.out.size)
    have HK4 : Hid (w4.heap[w3.heap.size]? = some (.cells #[.slice a1 gs.length c1] 27 (0, 0))) := (hb4.block _ hl3).trans HK3.out
    have HRS4 := Lib.hid (HR3.out.go hb4)
    clear ho4 hb4 HPN HK3 HR3 d0
    go_wp2
    go_loopw [9, 36] (fun wv v V => ∃ k : Nat, k ≤ gs.length ∧ v = .int .i64 k ∧ Hid (OwF 48 w4.heap.size wv (pckL (gs.take k) ss) V) ∧ Hid (Below w4.heap.size w4 V)) (fun _ v _ => gs.length - (intOf v).toNat)
    case atStart => exact ⟨0, by omega, rfl, Lib.hid (World.ownsRow_nil _ _ _ _), Lib.hid (Below.refl _ _)⟩
    case round =>
      rename World => V
      obtain ⟨k, hk, rfl, HOW, HB⟩ := hrel
      obtain ⟨aop, cpp, hv⟩ := own_lenF HOW.out
      subst hv
      have hbz := HB.out.size
      have HBV : Hid (Below w.heap.size w V) := HB4.out.trans (HB.out.mono HB4.out.size)
      by_cases hkt : k < gs.length
      · obtain ⟨g, off, rfl, hg, hat⟩ := rdf_at2 (HR4.out.go HB.out) (by omega)
        obtain ⟨p0, p1⟩ := hat k hkt
        have HST : Hid (pckL (gs.take (k + 1)) ss = pckL (gs.take k) ss ++ (if inN ss gs[k].1 = true then [gs[k]] else [])) := pck_snoc hkt
        have hk0 : (0 : Int) ≤ (k : Int) := by omega
        have hkl : (k : Int) < (gs.length : Int) := by omega
        have hgn : g ≠ V.heap.size := by omega
        have HPL : Hid ((pckL (gs.take k) ss).length ≤ k) := by
          show _ ≤ _
          have h1 := List.length_filter_le (fun x : FB => inN ss x.1) (gs.take k)
          rw [List.length_take] at h1
          unfold pckL; omega
        clear hat
        obtain ⟨⟨x, y⟩, hxy⟩ : ∃ f : FB, gs[k] = f := ⟨_, rfl⟩
        rw [hxy] at p0 p1 HST
        simp only at p0 p1 HST
        clear hxy
        obtain ⟨WX, hWX, hkX, hbX⟩ : ∃ WX, WX = V.alloc (.cells #[.string x, .string y] 48) ∧ WX.heap[V.heap.size]? = some (.cells #[.string x, .string y] 48 (0, 0)) ∧ Below V.heap.size V WX := ⟨_, rfl, heap_alloc_new V _, (Below.refl _ _).alloc (Nat.le_refl _) _⟩
        have HWX := Lib.hid hWX
        have HKX := Lib.hid hkX
        have HLX : Hid (V.heap.size < WX.heap.size) := (Array.getElem?_eq_some_iff.1 hkX).1
        have HBX : Hid (Below w4.heap.size w4 WX) := HB.out.trans (hbX.mono HB.out.size)
        have HBWX : Hid (Below w.heap.size w WX) := HBV.out.trans (hbX.mono HBV.out.size)
        have HOX := Lib.hid (HOW.out.go hbX)
        clear hWX hkX hbX
        go_wp2
        rw [← HWX.out]
        clear HWX p0 p1
        go_loopw [12, 42] (fun iv v Y => ∃ j : Nat, j ≤ ss.length ∧ v = .int .i64 j ∧ iv = .bool (inN (ss.take j) x) ∧ Hid (Below WX.heap.size WX Y)) (fun _ v _ => ss.length - (intOf v).toNat)
        case atStart => exact ⟨0, by omega, rfl, rfl, Lib.hid (Below.refl _ _)⟩
        case round =>
          rename World => Y
          obtain ⟨j, hj, rfl, rfl, HBY⟩ := hrel
          have HKY : Hid (Y.heap[V.heap.size]? = some (.cells #[.string x, .string y] 48 (0, 0))) := (HBY.out.block _ HLX.out).trans HKX.out
          have HBWY : Hid (Below w.heap.size w Y) := HBWX.out.trans (HBY.out.mono HBWX.out.size)
          by_cases hjt : j < ss.length
          · obtain ⟨g2, off2, rfl, hg2, hat2⟩ := rds_at (HS.out.go HBWY.out) (by omega)
            have q0 := hat2 j hjt
            obtain ⟨x0, _⟩ := cell2 HKY.out
            have HIN := Lib.hid (in_step hjt x)
            have hj0 : (0 : Int) ≤ (j : Int) := by omega
            have hjl : (j : Int) < (ss.length : Int) := by omega
            clear hat2
            cases hb : inN (ss.take j) x with
            | true =>
              have HIN2 : Hid (inN (ss.take (j + 1)) x = true) := by show _ = _; rw [HIN.out, hb]; rfl
              clear hb HIN
              go_wp2
              go_roundw
              case rel => exact ⟨j + 1, by omega, by go_num, by rw [HIN2.out], HBY⟩
              case measure => simp [intOf]; omega
            | false =>
              rw [hb, Bool.false_or] at HIN
              clear hb
              by_cases he : ss[j] = x
              · rw [decide_eq_true he] at HIN
                rw [he] at q0
                clear he
                go_wp2
                go_roundw
                case rel => exact ⟨j + 1, by omega, by go_num, by rw [HIN.out], HBY⟩
                case measure => simp [intOf]; omega
              · rw [decide_eq_false he] at HIN
                have hne : (ss[j].toList == x.toList) = false := by
                  rw [Lib.toList_data, Lib.toList_data]
                  exact beq_eq_false_iff_ne.2 (fun h => he (ba_ext h))
                clear he
                revert q0 hne
                generalize ss[j] = s
                intro q0 hne
                go_wp2
                go_roundw
                case rel => exact ⟨j + 1, by omega, by go_num, by rw [HIN.out], HBY⟩
                case measure => simp [intOf]; omega
          · have hte : ss.take j = ss := List.take_of_length_le (by omega)
            rw [hte]
            clear hte
            have HOY := Lib.hid (HOX.out.go HBY.out)
            have HBY4 : Hid (Below w4.heap.size w4 Y) := HBX.out.trans (HBY.out.mono HBX.out.size)
            obtain ⟨e0, e1⟩ := cell2 HKY.out
            cases hb : inN ss x with
            | true =>
              rw [hb, if_pos rfl] at HST
              obtain ⟨fs1, hf1⟩ : ∃ fs1, fs1 = pckL (gs.take k) ss := ⟨_, rfl⟩
              rw [← hf1] at HOY HST HPL ⊢
              obtain ⟨W5, hW5, hk5, hb5⟩ : ∃ W5, W5 = Y.alloc (.cells #[.string x, .string y] 48) ∧ W5.heap[Y.heap.size]? = some (.cells #[.string x, .string y] 48 (0, 0)) ∧ Below Y.heap.size Y W5 := ⟨_, rfl, heap_alloc_new Y _, (Below.refl _ _).alloc (Nat.le_refl _) _⟩
              have HW5 := Lib.hid hW5
              have HB5 : Hid (Below w4.heap.size w4 W5) := HBY4.out.trans (hb5.mono HBY4.out.size)
              have IO := Lib.hid (HOY.out.go hb5)
              have DC := Lib.hid (two_cell hk5)
              have D3 : Hid (fs1.length + 1 ≤ maxLen) := by show _ ≤ _; unfold maxLen; have := HPL.out; omega
              have D4 : Hid ((fs1.length + 1) * 32 ≤ 140737488355328) := by show _ ≤ _; have := HPL.out; omega
              have E1 : Hid (w4.heap.size ≤ W5.heap.size) := HB5.out.size
              clear hW5 hk5 hb5 hb hf1
              go_wp2_with (at_builtin; rw [← HW5.out]; refine wpList_append_own _ rfl _ _ 22 rfl w4.heap.size 48 ir _ 2 32 Tryd.underlying22 hir hra hrb hrc rfl (by decide) _ _ _ rfl IO.out ⟨Y.heap.size, 0, none⟩ 1 1 [.string x, .string y] rfl rfl DC.out two_ok D3.out D4.out E1.out ?_)
              intro v1 V1 hown1 hgrow1 _
              have HBV1 : Hid (Below w4.heap.size w4 V1) := HB5.out.grown hgrow1 HB5.out.size (fun k hk => (IO.out.lt k hk).1)
              have JO : Hid (OwF 48 w4.heap.size v1 (pckL (gs.take (k + 1)) ss) V1) := by
                show OwF _ _ _ _ _
                rw [HST.out]; unfold OwF; rw [fC_snoc, List.length_append]
                exact hown1
              clear hown1 hgrow1
              go_wp2
              go_roundw
              case rel => exact ⟨k + 1, by omega, by go_num, JO, HBV1⟩
              case measure => simp [intOf]; omega
            | false =>
              rw [hb, if_neg (by decide), List.append_nil] at HST
              have JO : Hid (OwF 48 w4.heap.size (.slice aop (pckL (gs.take k) ss).length cpp) (pckL (gs.take (k + 1)) ss) Y) := by
                show OwF _ _ _ _ _
                rw [HST.out]; exact HOY.out
              clear hb
              go_wp2
              go_roundw
              case rel => exact ⟨k + 1, by omega, by go_num, JO, HBY4⟩
              case measure => simp [intOf]; omega
      · have hte : gs.take k = gs := List.take_of_length_le (by omega)
        rw [hte] at HOW ⊢
        clear hte
        have HKV : Hid (V.heap[w3.heap.size]? = some (.cells #[.slice a1 gs.length c1] 27 (0, 0))) := (HB.out.block _ (Array.getElem?_eq_some_iff.1 HK4.out).1).trans HK4.out
        have d0 := cell_of_row _ _ 0 _ _ _ HKV.out
        have HRV := Lib.hid (HRS4.out.go HB.out)
        have HSV := Lib.hid (HS.out.go HBV.out)
        have HWV := Lib.hid HOW.out.rd
        have hpl : (pckL gs ss).length ≤ 1000 := Nat.le_trans (List.length_filter_le _ _) (by omega)
        have HPK := Lib.hid (Pick_c a1 an c1 cpn gs ss V HRV.out HSV.out HA.out HO.out (by omega) (by omega))
        have HPK2 := Lib.hid (fun W h1 => Pick_c a1 none c1 0 gs [] W h1 ⟨none, 0, rfl, fun h => absurd h (Nat.lt_irrefl _)⟩ HA.out HO.out (by omega) (by simp))
        rw [pck_none] at HPK2
        revert hpl HPK HWV
        generalize pckL gs ss = fw
        intro HWV hpl HPK
        go_wp2_with fail
        refine HPK.out.mono ?_
        rintro e w5 ⟨a2, c2, hp2, rfl, hr2, hb5⟩
        have HB5 : Hid (Below w.heap.size w w5) := HBV.out.trans (hb5.mono HBV.out.size)
        have HK5 : Hid (w5.heap[w3.heap.size]? = some (.cells #[.slice a1 gs.length c1] 27 (0, 0))) := (hb5.block _ (Array.getElem?_eq_some_iff.1 HKV.out).1).trans HKV.out
        have HRV5 := Lib.hid (HRV.out.go hb5)
        have HW5 := Lib.hid (HWV.out.go hb5)
        have HPN := Lib.hid (Plain_c a2 c2 fw w5 hr2 hp2 hpl)
        clear hb5 hr2 hp2 d0 HPK HKV HRV HWV
        go_wp2_with fail
        refine HPN.out.mono ?_
        rintro e w6 ⟨v6, rfl, ho6, hb6⟩
        obtain ⟨a6, c6, hv6⟩ := own_lenF ho6
        subst hv6
        have HB6 : Hid (Below w.heap.size w w6) := HB5.out.trans (hb6.mono HB5.out.size)
        have HK6 : Hid (w6.heap[w3.heap.size]? = some (.cells #[.slice a1 gs.length c1] 27 (0, 0))) := (hb6.block _ (Array.getElem?_eq_some_iff.1 HK5.out).1).trans HK5.out
        have HRV6 := Lib.hid (HRV5.out.go hb6)
        have HSM := Lib.hid (RSame_c a6 aop c6 cpp fw w6 ho6.rd (HW5.out.go hb6) hpl)
        clear hb6 ho6 HPN HK5 HRV5 HW5
        go_wp2_with fail
        refine HSM.out.mono ?_
        rintro e w7 ⟨rfl, hb7⟩
        have HB7 : Hid (Below w.heap.size w w7) := HB6.out.trans (hb7.mono HB6.out.size)
        have HK7 : Hid (w7.heap[w3.heap.size]? = some (.cells #[.slice a1 gs.length c1] 27 (0, 0))) := (hb7.block _ (Array.getElem?_eq_some_iff.1 HK6.out).1).trans HK6.out
        have HRV7 := Lib.hid (HRV6.out.go hb7)
        have d7 := cell_of_row _ _ 0 _ _ _ HK7.out
        clear hb7 HSM HK6 HRV6
        go_wp2_with fail
        refine (HPK2.out w7 HRV7.out).mono ?_
        rintro e w8 ⟨a8, c8, _, rfl, hr8, hb8⟩
        have HB8 : Hid (Below w.heap.size w w8) := HB7.out.trans (hb8.mono HB7.out.size)
        have HSE := Lib.hid (Same_c a8 none c8 0 [] [] w8 hr8 ⟨none, 0, rfl, fun h => absurd h (Nat.lt_irrefl _)⟩ (by simp) (by simp))
        rw [decide_eq_true (rfl : ([] : List FB) = [])] at HSE
        clear hb8 hr8 d7 HPK2 HK7 HRV7
        go_wp2_with fail
        refine HSE.out.mono ?_
        rintro e w9 ⟨rfl, hb9⟩
        have HB9 : Hid (Below w.heap.size w w9) := HB8.out.trans (hb9.mono HB8.out.size)
        have HAW := Lib.hid (awake_c w9 (HE.out.go HB9.out))
        clear hb9 HSE
        go_wp2_with fail
        refine HAW.out.mono ?_
        rintro e w10 ⟨rfl, hb10⟩
        have HB10 : Hid (Below w.heap.size w w10) := HB9.out.trans (hb10.mono HB9.out.size)
        clear hb10 HAW
        go_wp2
        go_ret
        exact ⟨rfl, HB10.out⟩
  · have HLN := Lib.hid (Len_c a1 0 c1 W3 (by decide))
    have hz0 : z ≠ 0 := by rcases hz with h | h <;> omega
    have hzd : (z == 0) = false := beq_eq_false_iff_ne.2 hz0
    have hzd2 : (z != 0) = true := by simp [hz0]
    rw [show ([] : List FB).length = 0 from rfl] at HW3
    clear HZC hz
    go_wp2_with fail
    rw [← HW3.out]
    clear HW3
    refine HLN.out.mono ?_
    rintro e w5 ⟨rfl, hb5⟩
    have HB5 : Hid (Below w.heap.size w w5) := HBW3.out.trans (hb5.mono HBW3.out.size)
    clear hb5 HLN d0
    have HAW := Lib.hid (awake_c w5 (HE.out.go HB5.out))
    go_wp2_with fail
    refine HAW.out.mono ?_
    rintro e w6 ⟨rfl, hb6⟩
    have HB6 : Hid (Below w.heap.size w w6) := HB5.out.trans (hb6.mono HB5.out.size)
    clear hb6 HAW
    go_wp2
    go_ret
    exact ⟨rfl, HB6.out⟩
end Go.Proofs.YtjgbfpkjkglfnaaDoor.Lb

/- The contract of package pct's Target: rows of parts and pairs of the call's own, few and each of at most a thousand bytes. -/
import Derived.Test.YtflhapnanhbcgaaDoorPcTgP
import Derived.Test.YtflhapnanhbcgaaDoorPcEnc
import Derived.Test.YtflhapnanhbcgaaDoorPcBlK
namespace Go.Proofs.YtflhapnanhbcgaaDoor.Pc
open Go.RowKit Jt
set_option linter.unusedSimpArgs false
set_option linter.unusedVariables false

theorem prC_atT : ∀ (ps : List PairL) (k : Nat) (hk : k < ps.length), (prC ps)[k * 2]? = some (.string (mkS ps[k].1)) ∧ (prC ps)[k * 2 + 1]? = some (.string (mkS ps[k].2))
  | [], k, hk => by simp at hk
  | x :: ps, 0, _ => ⟨rfl, rfl⟩
  | x :: ps, k + 1, hk => by
    have ih := prC_atT ps k (by simpa using hk)
    have e : prC (x :: ps) = .string (mkS x.1) :: .string (mkS x.2) :: prC ps := rfl
    rw [e, show (k + 1) * 2 = k * 2 + 2 by omega]
    exact ih
theorem own_lenT {T : TypeId} {B k n : Nat} {v : Value} {xs : List Value} {w : World} (h : w.ownsRow B T k v n xs) : ∃ ao cap, v = .slice ao n cap := by
  rcases h.2 with ⟨rfl, h0⟩ | ⟨g, cap, cur, rfl, _⟩
  · exact ⟨_, 0, by rw [h0]⟩
  · exact ⟨_, _, rfl⟩
theorem owp_atT {T : TypeId} {B : Nat} {v : Value} {ps : List PairL} {w : World} (h : OwP T B v ps w) (hn : 0 < ps.length) : ∃ g cap, v = .slice (some ⟨g, 0, none⟩) ps.length cap ∧ g < w.heap.size ∧ ps.length ≤ cap ∧ ∀ i (hi : i < ps.length), w.cell? ⟨g, i * 2, none⟩ = some (.string (mkS ps[i].1)) ∧ w.cell? ⟨g, i * 2 + 1, none⟩ = some (.string (mkS ps[i].2)) := by
  rcases h.2 with ⟨rfl, h0⟩ | ⟨g, cap, cur, rfl, hB, hg, hc, hcm, hsz, htk⟩
  · omega
  · refine ⟨g, cap, rfl, (Array.getElem?_eq_some_iff.1 hg).1, hc, fun i hi => ?_⟩
    have hl := prC_len ps
    rw [cell_of_row _ _ _ _ _ _ hg, cell_of_row _ _ _ _ _ _ hg]
    have hp := prC_atT ps i hi
    rw [← htk, List.getElem?_take_of_lt (by omega), List.getElem?_take_of_lt (by omega), Array.getElem?_toList, Array.getElem?_toList] at hp
    exact hp
theorem ows_atT {B : Nat} {v : Value} {ps : List (List UInt8)} {w : World} (h : OwS B v ps w) (hn : 0 < ps.length) : ∃ g cap, v = .slice (some ⟨g, 0, none⟩) ps.length cap ∧ g < w.heap.size ∧ ps.length ≤ cap ∧ ∀ i (hi : i < ps.length), w.cell? ⟨g, i, none⟩ = some (.string (mkS ps[i])) := by
  rcases h.2 with ⟨rfl, h0⟩ | ⟨g, cap, cur, rfl, hB, hg, hc, hcm, hsz, htk⟩
  · omega
  · refine ⟨g, cap, rfl, (Array.getElem?_eq_some_iff.1 hg).1, hc, fun i hi => ?_⟩
    have hl : (stV ps).length = ps.length := by unfold stV; simp
    rw [cell_of_row _ _ _ _ _ _ hg]
    have hp : (stV ps)[i]? = some (.string (mkS ps[i])) := by unfold stV; simp [hi]
    rw [← htk, List.getElem?_take_of_lt (by omega), Array.getElem?_toList] at hp
    exact hp
theorem enc_lenT (l : List UInt8) : (encL l).length ≤ 3 * l.length := enc_len l
theorem pth_lenT : ∀ (ps : List (List UInt8)), (∀ p ∈ ps, p.length ≤ 1000) → (pthL ps).length ≤ 3001 * ps.length
  | [], _ => by simp [pthL]
  | p :: r, h => by
    have h1 := enc_len p
    have h2 := h p (by simp)
    have h3 := pth_lenT r (fun q hq => h q (by simp [hq]))
    rw [pthL]; simp only [List.length_cons, List.length_append]; omega
theorem qrs_lenT : ∀ (c : UInt8) (l : List PairL), (∀ x ∈ l, x.1.length ≤ 1000 ∧ x.2.length ≤ 1000) → (qrsL c l).length ≤ 6002 * l.length
  | _, [], _ => by simp [qrsL]
  | c, x :: r, h => by
    have h1 := enc_len x.1
    have h2 := enc_len x.2
    have h0 := h x (by simp)
    have h3 := qrs_lenT 38 r (fun q hq => h q (by simp [hq]))
    rw [qrsL]; unfold prtL; simp only [List.length_cons, List.length_append]; omega
/-- what the head of the builder holds behind k parts -/
def hdT (ps : List (List UInt8)) (k : Nat) : List UInt8 := if ps.take k = [] then [47] else pthL (ps.take k)
theorem hdT_snoc {ps : List (List UInt8)} {k : Nat} (hk : k < ps.length) : hdT ps (k + 1) = (if k = 0 then [47] else hdT ps k ++ [47]) ++ encL ps[k] := by
  unfold hdT
  rw [List.take_succ_eq_append_getElem hk]
  have e : ¬ (ps.take k ++ [ps[k]] = []) := fun h => by have := congrArg List.length h; rw [List.length_append] at this; simp at this
  rw [if_neg e, pth_snoc]
  by_cases h0 : k = 0
  · subst h0; rw [if_pos rfl, List.take_zero]; rfl
  · rw [if_neg h0]
    have e2 : ¬ (ps.take k = []) := by
      intro h
      have := congrArg List.length h
      rw [List.length_take, List.length_nil] at this; omega
    rw [if_neg e2]; simp
theorem hdT_len (ps : List (List UInt8)) (k : Nat) (h : ∀ p ∈ ps, p.length ≤ 1000) (hn : ps.length ≤ 20) : (hdT ps k).length ≤ 60030 := by
  unfold hdT
  have h1 := pth_lenT (ps.take k) (fun p hp => h p (List.mem_of_mem_take hp))
  have h2 : (ps.take k).length ≤ ps.length := List.length_take_le' _ _
  by_cases e : ps.take k = []
  · rw [if_pos e]; simp
  · rw [if_neg e]; omega
theorem hdT_all (ps : List (List UInt8)) (l : List PairL) : hdT ps ps.length ++ qrsL 63 l = tgtL ps l := by
  unfold hdT tgtL; rw [List.take_length]
theorem qrsT_snoc {l : List PairL} {k : Nat} (hk : k < l.length) : qrsL 63 (l.take (k + 1)) = qrsL 63 (l.take k) ++ [if k = 0 then 63 else 38] ++ encL l[k].1 ++ [61] ++ encL l[k].2 := by
  rw [List.take_succ_eq_append_getElem hk, qrs_snoc]
  have e : (if l.take k = [] then (63 : UInt8) else 38) = if k = 0 then 63 else 38 := by
    by_cases h0 : k = 0
    · subst h0; rfl
    · have e2 : ¬ (l.take k = []) := by
        intro h
        have := congrArg List.length h
        rw [List.length_take, List.length_nil] at this; omega
      rw [if_neg e2, if_neg h0]
  rw [e]; unfold prtL; simp
theorem ahd_int (k : Nat) : (if k = 0 then (63 : Int) else 38) = (((if k = 0 then 63 else 38 : UInt8)).toNat : Int) := by
  by_cases h : k = 0
  · rw [if_pos h, if_pos h]; rfl
  · rw [if_neg h, if_neg h]; rfl
set_option maxRecDepth 100000 in
set_option maxHeartbeats 4000000 in
theorem Target_c (va vb : Value) (ps : List (List UInt8)) (l : List PairL) (B1 B2 : Nat) (w : World) (h1 : OwS B1 va ps w) (h2 : OwP 28 B2 vb l w)
    (hp : ∀ p ∈ ps, p.length ≤ 1000) (hq : ∀ x ∈ l, x.1.length ≤ 1000 ∧ x.2.length ≤ 1000) (hpn : ps.length ≤ 20) (hqn : l.length ≤ 20) :
    Calls Tryd.prog 5 #[va, vb] w fun e w' => e = .returned (.string (mkS (tgtL ps l))) ∧ Below w.heap.size w w' := by
  have HO1 := Lib.hid h1
  have HO2 := Lib.hid h2
  have HP := Lib.hid hp
  have HQ := Lib.hid hq
  obtain ⟨ao1, cap1, hv1⟩ := own_lenT h1
  obtain ⟨ao2, cap2, hv2⟩ := own_lenT h2
  subst hv1 hv2
  clear h1 h2 hp hq
  have hs := stood
  have HN : Hid (Bld w.heap.size [] _) := Bld.new w
  have HB0 := Lib.hid ((Below.refl w.heap.size w).alloc (Nat.le_refl _) (.cells #[.pointer none, .slice none 0 0] 41))
  have HWB := Lib.hid (fun (W : World) (l : List UInt8) (c : UInt8) (z : Int) (hz : z = (c.toNat : Int)) (hl : l.length ≤ 900000) (h : Bld w.heap.size l W) => wbyte_c w.heap.size l c z hz W h (by omega))
  go_enter Tryd.func5, Tryd.ntmps5
  go_wp2_with (go_at_call 11; refine (HWB.out _ [] 47 _ rfl (by simp) HN.out).mono ?_; rintro e w3 ⟨rfl, hbl3, hb3⟩; have HBL3 := Lib.hid hbl3; have HB3 := Lib.hid (HB0.out.trans hb3); clear hbl3 hb3)
  clear HN HB0
  go_loopw [14] (fun v wr => ∃ j : Nat, j ≤ ps.length ∧ v = .int .i64 j ∧ Bld w.heap.size (hdT ps j) wr ∧ Below w.heap.size w wr) (fun v _ => ps.length - (intOf v).toNat)
  case atStart => exact ⟨0, by omega, rfl, HBL3.out, HB3.out⟩
  case round =>
    clear HBL3 HB3
    obtain ⟨j, hj, rfl, hbld, hB⟩ := hrel
    have HBL := Lib.hid hbld
    have HB := Lib.hid hB
    clear hbld
    by_cases hlt : j < ps.length
    · obtain ⟨g1, c1, e1, hg1, hc1, hat1⟩ := ows_atT HO1.out (by omega)
      injection e1 with e1a e1b e1c
      subst e1a e1c
      have p0 : wr.cell? ⟨g1, j, none⟩ = some (.string (mkS ps[j])) := (hB.cell (p := ⟨g1, j, none⟩) hg1).trans (hat1 j hlt)
      have hpl := HP.out _ (List.getElem_mem hlt)
      have HE := Lib.hid (fun W => Encode_c (mkS ps[j]) W (by rw [size_mkS]; omega))
      rw [data_mkS] at HE
      have hsn := hdT_snoc hlt
      have hln := hdT_len ps j HP.out hpn
      have hen := enc_len ps[j]
      have HWS := Lib.hid (fun (W : World) (l : List UInt8) (s : ByteArray) (hl : l.length + s.size ≤ 900000) (h : Bld w.heap.size l W) => wstr_c w.heap.size l s W h (by omega))
      have hel : (encL ps[j]).length ≤ 3000 := by omega
      clear hB hat1 hpl hen
      revert p0 HE hsn hel
      generalize encL ps[j] = en
      generalize mkS ps[j] = x
      intro p0 HE hsn hel
      have hj0 : (0 : Int) ≤ (j : Int) := by omega
      have hjl : (j : Int) < (ps.length : Int) := by omega
      by_cases h0 : j = 0
      · subst h0
        rw [if_pos rfl] at hsn
        have HSN := Lib.hid hsn
        clear hsn
        go_wp2_with fail
        refine (HE.out _).mono ?_
        rintro e w2 ⟨rfl, hb2⟩
        have HBL2 := Lib.hid (HBL.out.go hb2)
        have HB2 : Hid (Below w.heap.size w w2) := HB.out.trans (hb2.mono HB.out.size)
        clear hb2
        go_wp2_with fail
        refine (HWS.out _ [47] (mkS en) (by rw [size_mkS]; simp; omega) HBL2.out).mono ?_
        rintro e w3 ⟨rfl, hbl3, hb3⟩
        have HBL3 := Lib.hid hbl3
        have HB3 := Lib.hid (HB2.out.trans hb3)
        clear hbl3 hb3
        go_wp2
        go_roundw
        case rel => exact ⟨1, by omega, by go_num, by rw [HSN.out]; have := HBL3.out; rw [data_mkS] at this; exact this, HB3.out⟩
        case measure => simp [intOf]; omega
      · rw [if_neg h0] at hsn
        have HSN := Lib.hid hsn
        clear hsn
        have hj1 : (0 : Int) < (j : Int) := by omega
        go_wp2_with fail
        refine (HWB.out _ (hdT ps j) 47 _ rfl (by omega) HBL.out).mono ?_
        rintro e w1 ⟨rfl, hbl1, hb1⟩
        have HBL1 := Lib.hid hbl1
        have HB1 := Lib.hid (HB.out.trans hb1)
        clear hbl1 hb1
        go_wp2_with fail
        refine (HE.out _).mono ?_
        rintro e w2 ⟨rfl, hb2⟩
        have HBL2 := Lib.hid (HBL1.out.go hb2)
        have HB2 : Hid (Below w.heap.size w w2) := HB1.out.trans (hb2.mono HB1.out.size)
        clear hb2
        go_wp2_with fail
        refine (HWS.out _ (hdT ps j ++ [47]) (mkS en) (by rw [size_mkS]; simp; omega) HBL2.out).mono ?_
        rintro e w3 ⟨rfl, hbl3, hb3⟩
        have HBL3 := Lib.hid hbl3
        have HB3 := Lib.hid (HB2.out.trans hb3)
        clear hbl3 hb3
        go_wp2
        go_roundw
        case rel => exact ⟨j + 1, by omega, by go_num, by rw [HSN.out]; have := HBL3.out; rw [data_mkS] at this; exact this, HB3.out⟩
        case measure => simp [intOf]; omega
    · have hje : j = ps.length := by omega
      subst hje
      have hd0 := hdT_len ps ps.length HP.out hpn
      go_wp2
      go_loopw [8, 28] (fun u v wr => ∃ k : Nat, k ≤ l.length ∧ v = .int .i64 k ∧ u = .int .u8 (((if k = 0 then 63 else 38 : UInt8)).toNat : Int) ∧ Bld w.heap.size (hdT ps ps.length ++ qrsL 63 (l.take k)) wr ∧ Below w.heap.size w wr) (fun _ v _ => l.length - (intOf v).toNat)
      case atStart => exact ⟨0, by omega, rfl, rfl, by rw [List.take_zero, qrsL, List.append_nil]; exact HBL.out, HB.out⟩
      case round =>
        clear HBL HB hB
        obtain ⟨k, hk, rfl, rfl, hbld, hB⟩ := hrel
        have HBL := Lib.hid hbld
        have HB := Lib.hid hB
        clear hbld
        by_cases hlt : k < l.length
        · obtain ⟨g1, c1, e1, hg1, hc1, hat1⟩ := owp_atT HO2.out (by omega)
          injection e1 with e1a e1b e1c
          subst e1a e1c
          have p0 := (hB.cell (p := ⟨g1, k * 2, none⟩) hg1).trans (hat1 k hlt).1
          have p1 := (hB.cell (p := ⟨g1, k * 2 + 1, none⟩) hg1).trans (hat1 k hlt).2
          have hq0 := HQ.out _ (List.getElem_mem hlt)
          have HE1 := Lib.hid (fun W => Encode_c (mkS l[k].1) W (by rw [size_mkS]; omega))
          have HE2 := Lib.hid (fun W => Encode_c (mkS l[k].2) W (by rw [size_mkS]; omega))
          rw [data_mkS] at HE1 HE2
          have hsn := qrsT_snoc hlt
          have hln := qrs_lenT 63 (l.take k) (fun x hx => HQ.out x (List.mem_of_mem_take hx))
          have htl : (l.take k).length ≤ l.length := List.length_take_le' _ _
          have hen1 := enc_len l[k].1
          have hen2 := enc_len l[k].2
          have HWS := Lib.hid (fun (W : World) (l : List UInt8) (s : ByteArray) (hl : l.length + s.size ≤ 900000) (h : Bld w.heap.size l W) => wstr_c w.heap.size l s W h (by omega))
          have hel1 : (encL l[k].1).length ≤ 3000 := by omega
          have hel2 : (encL l[k].2).length ≤ 3000 := by omega
          have hal : (hdT ps ps.length ++ qrsL 63 (l.take k)).length ≤ 300000 := by rw [List.length_append]; omega
          have hsn2 : hdT ps ps.length ++ qrsL 63 (l.take (k + 1)) = hdT ps ps.length ++ qrsL 63 (l.take k) ++ [if k = 0 then 63 else 38] ++ encL l[k].1 ++ [61] ++ encL l[k].2 := by rw [hsn]; simp only [List.append_assoc]
          have HSN := Lib.hid hsn2
          clear hB hat1 hq0 hen1 hen2 hsn hsn2 hln htl
          revert p0 p1 HE1 HE2 HSN hel1 hel2 hal HBL
          generalize hdT ps ps.length ++ qrsL 63 (l.take k) = acc
          generalize encL l[k].1 = en1
          generalize encL l[k].2 = en2
          generalize mkS l[k].1 = x
          generalize mkS l[k].2 = y
          generalize (if k = 0 then (63 : UInt8) else 38) = ah
          intro HBL p0 p1 HE1 HE2 hel1 hel2 hal HSN
          have hk0 : (0 : Int) ≤ (k : Int) := by omega
          have hkl : (k : Int) < (l.length : Int) := by omega
          have HAL := Lib.hid (heap_alloc_new wr (.cells #[.string x, .string y] 28))
          have hsz := HB.out.size
          have HBA : Hid (Below w.heap.size w (wr.alloc (.cells #[.string x, .string y] 28))) := HB.out.alloc hsz _
          have HBLA := Lib.hid (HBL.out.go ((Below.refl wr.heap.size wr).alloc (Nat.le_refl _) (.cells #[.string x, .string y] 28)))
          have hsa : (wr.alloc (.cells #[.string x, .string y] 28)).heap.size = wr.heap.size + 1 := by simp
          go_wp2_with fail
          refine (wbyteK_c w.heap.size acc ah _ rfl _ HBLA.out (by omega)).mono ?_
          rintro e w1 ⟨rfl, hbl1, hb1, hk1⟩
          have HBL1 := Lib.hid hbl1
          have HB1 := Lib.hid (HBA.out.trans hb1)
          have hblt := HBL.out.lt
          have hne : (some wr.heap.size : Option Nat) ≠ some w.heap.size := by intro h; injection h; omega
          have hp1 := hk1 _ _ HAL.out hne (by intro c fz h; injection h with _ h2; exact absurd h2 (by decide))
          have q0 : w1.cell? ⟨wr.heap.size, 0, none⟩ = some (.string x) := by rw [Lib.cell_of_heap hp1]; rfl
          have HP1 := Lib.hid hp1
          have hs1 : wr.heap.size < w1.heap.size := (Array.getElem?_eq_some_iff.1 hp1).1
          clear hbl1 hb1 hk1 hp1 p0 p1 HAL HBLA HBA hsa
          go_wp2_with fail
          refine (HE1.out _).mono ?_
          rintro e w2 ⟨rfl, hb2⟩
          have HBL2 := Lib.hid (HBL1.out.go hb2)
          have HB2 : Hid (Below w.heap.size w w2) := HB1.out.trans (hb2.mono HB1.out.size)
          have HP2 : Hid (w2.heap[wr.heap.size]? = _) := (hb2.block _ hs1).trans HP1.out
          clear hb2 q0 HP1 HBL1 HB1
          go_wp2_with fail
          refine (wstrK_c w.heap.size (acc ++ [ah]) (mkS en1) _ HBL2.out (by rw [size_mkS]; simp; omega)).mono ?_
          rintro e w3 ⟨rfl, hbl3, hb3, hk3⟩
          rw [data_mkS] at hbl3
          have HBL3 := Lib.hid hbl3
          have HB3 := Lib.hid (HB2.out.trans hb3)
          have HP3 := Lib.hid (hk3 _ _ HP2.out hne (by intro c fz h; injection h with _ h2; exact absurd h2 (by decide)))
          clear hbl3 hb3 hk3 HP2 HBL2 HB2
          go_wp2_with fail
          refine (wbyteK_c w.heap.size (acc ++ [ah] ++ en1) 61 _ rfl _ HBL3.out (by simp; omega)).mono ?_
          rintro e w4 ⟨rfl, hbl4, hb4, hk4⟩
          have HBL4 := Lib.hid hbl4
          have HB4 := Lib.hid (HB3.out.trans hb4)
          have hp4 := hk4 _ _ HP3.out hne (by intro c fz h; injection h with _ h2; exact absurd h2 (by decide))
          have q1 : w4.cell? ⟨wr.heap.size, 1, none⟩ = some (.string y) := by rw [Lib.cell_of_heap hp4]; rfl
          clear hbl4 hb4 hk4 hp4 HP3 HBL3 HB3
          go_wp2_with fail
          refine (HE2.out _).mono ?_
          rintro e w5 ⟨rfl, hb5⟩
          have HBL5 := Lib.hid (HBL4.out.go hb5)
          have HB5 : Hid (Below w.heap.size w w5) := HB4.out.trans (hb5.mono HB4.out.size)
          clear hb5 q1 HBL4 HB4
          go_wp2_with fail
          refine (wstrK_c w.heap.size (acc ++ [ah] ++ en1 ++ [61]) (mkS en2) _ HBL5.out (by rw [size_mkS]; simp; omega)).mono ?_
          rintro e w6 ⟨rfl, hbl6, hb6, _⟩
          rw [data_mkS] at hbl6
          have HBL6 := Lib.hid hbl6
          have HB6 := Lib.hid (HB5.out.trans hb6)
          clear hbl6 hb6 HBL5 HB5
          go_wp2
          go_roundw
          case rel => exact ⟨k + 1, by omega, by go_num, rfl, by rw [HSN.out]; exact HBL6.out, HB6.out⟩
          case measure => simp [intOf]; omega
        · have hke : k = l.length := by omega
          subst hke
          have HST := Lib.hid (str_c w.heap.size _ wr HBL.out)
          rw [List.take_length, hdT_all] at HST
          generalize (if l.length = 0 then (63 : UInt8) else 38) = ah
          go_wp2_with (go_at_call 14; refine HST.out.mono ?_; rintro e w4 ⟨rfl, hb4⟩; have HB4 := Lib.hid hb4; clear hb4)
          go_ret
          exact ⟨rfl, HB.out.trans HB4.out⟩
end Go.Proofs.YtflhapnanhbcgaaDoor.Pc

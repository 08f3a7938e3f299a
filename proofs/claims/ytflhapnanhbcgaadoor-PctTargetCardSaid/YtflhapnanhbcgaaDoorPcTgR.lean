/- The contract of the document's Target: rows of parts and pairs of the call's own, few and each of at most a thousand bytes. -/
import Derived.Test.YtflhapnanhbcgaaDoorPcFnd
import Derived.Test.YtflhapnanhbcgaaDoorPcEncR
namespace Go.Proofs.YtflhapnanhbcgaaDoor.Pc
open Go.RowKit Jt
set_option linter.unusedSimpArgs false
set_option linter.unusedVariables false

theorem pthT_snoc {ps : List (List UInt8)} {k : Nat} (hk : k < ps.length) : pthL (ps.take (k + 1)) = pthL (ps.take k) ++ [47] ++ encL ps[k] := by
  rw [List.take_succ_eq_append_getElem hk, pth_snoc]; simp
theorem pthT_len (ps : List (List UInt8)) (k : Nat) (h : ∀ p ∈ ps, p.length ≤ 1000) (hn : ps.length ≤ 20) : (pthL (ps.take k)).length ≤ 60030 := by
  have h1 := pth_lenT (ps.take k) (fun p hp => h p (List.mem_of_mem_take hp))
  have h2 : (ps.take k).length ≤ ps.length := List.length_take_le' _ _
  omega
/-- what lies while a pair's text is made -/
def TR (w : World) (g : Nat) (x y : ByteArray) (W : World) : Prop := Below w.heap.size w W ∧ W.heap[g]? = some (.cells #[.string x, .string y] 27 (0, 0))
theorem TR.drew {w : World} {g : Nat} {x y : ByteArray} {W : World} (h : TR w g x y W) : TR w g x y W.drew := ⟨h.1.drew, h.2⟩
theorem TR.go {w : World} {g : Nat} {x y : ByteArray} {W W' : World} (h : TR w g x y W) (hb : Below W.heap.size W W') : TR w g x y W' :=
  ⟨h.1.trans (hb.mono h.1.size), (hb.block g (Array.getElem?_eq_some_iff.1 h.2).1).trans h.2⟩
theorem TR.c {w : World} {g : Nat} {x y : ByteArray} {W : World} (h : TR w g x y W) : W.cell? ⟨g, 0, none⟩ = some (.string x) ∧ W.cell? ⟨g, 1, none⟩ = some (.string y) :=
  ⟨by rw [Lib.cell_of_heap h.2]; rfl, by rw [Lib.cell_of_heap h.2]; rfl⟩
theorem owp_atR {T : TypeId} {B : Nat} {v : Value} {ps : List PairL} {w : World} (h : OwP T B v ps w) (hn : 0 < ps.length) : ∃ g cap, v = .slice (some ⟨g, 0, none⟩) ps.length cap ∧ g < w.heap.size ∧ ps.length ≤ cap ∧ ∀ i (hi : i < ps.length), w.cell? ⟨g, i * 2, none⟩ = some (.string (mkS ps[i].1)) ∧ w.cell? ⟨g, i * 2 + 1, none⟩ = some (.string (mkS ps[i].2)) := owp_atT h hn
set_option maxRecDepth 100000 in
set_option maxHeartbeats 8000000 in
theorem TargetR_c (va vb : Value) (ps : List (List UInt8)) (l : List PairL) (B1 B2 : Nat) (w : World) (h1 : OwS B1 va ps w) (h2 : OwP 27 B2 vb l w)
    (hp : ∀ p ∈ ps, p.length ≤ 1000) (hq : ∀ x ∈ l, x.1.length ≤ 1000 ∧ x.2.length ≤ 1000) (hpn : ps.length ≤ 20) (hqn : l.length ≤ 20) :
    Calls Tryd.prog 6 #[va, vb] w fun e w' => e = .returned (.string (mkS (tgtL ps l))) ∧ Below w.heap.size w w' := by
  have HO1 := Lib.hid h1
  have HO2 := Lib.hid h2
  have HP := Lib.hid hp
  have HQ := Lib.hid hq
  obtain ⟨ao1, cap1, hv1⟩ := own_lenT h1
  obtain ⟨ao2, cap2, hv2⟩ := own_lenT h2
  subst hv1 hv2
  clear h1 h2 hp hq
  have hs := stood
  go_enter Tryd.func6, Tryd.ntmps6
  go_wp2
  go_loopw [5, 12] (fun o v wr => ∃ (j : Nat) (t : ByteArray), j ≤ ps.length ∧ v = .int .i64 j ∧ o = .string t ∧ t = mkS (pthL (ps.take j)) ∧ Below w.heap.size w wr) (fun _ v _ => ps.length - (intOf v).toNat)
  case atStart => exact ⟨0, _, by omega, rfl, rfl, rfl, Below.refl _ _⟩
  case round =>
    obtain ⟨j, t, hj, rfl, rfl, htt, hB⟩ := hrel
    have HB := Lib.hid hB
    have HTT := Lib.hid htt
    have hpl := pthT_len ps j HP.out hpn
    have hts : t.size ≤ 60030 := by rw [htt, size_mkS]; exact hpl
    clear htt hpl
    by_cases hlt : j < ps.length
    · obtain ⟨g1, c1, e1, hg1, hc1, hat1⟩ := ows_atT HO1.out (by omega)
      injection e1 with e1a e1b e1c
      subst e1a e1c
      have p0 : wr.cell? ⟨g1, j, none⟩ = some (.string (mkS ps[j])) := (hB.cell (p := ⟨g1, j, none⟩) hg1).trans (hat1 j hlt)
      have hpl := HP.out _ (List.getElem_mem hlt)
      have HE := Lib.hid (fun W => EncodeR_c (mkS ps[j]) W (by rw [size_mkS]; omega))
      rw [data_mkS] at HE
      have HSN : Hid (t ++ mkS [47] ++ mkS (encL ps[j]) = mkS (pthL (ps.take (j + 1)))) := by
        show _ = _
        rw [pthT_snoc hlt, HTT.out, mkS_app, mkS_app]
      have hen := enc_len ps[j]
      have hel : (encL ps[j]).length ≤ 3000 := by omega
      clear hB hat1 hpl hen
      revert p0 HE HSN hel
      generalize encL ps[j] = en
      generalize mkS ps[j] = x
      intro p0 HE HSN hel
      have hes : (mkS en).size ≤ 3000 := by rw [size_mkS]; exact hel
      revert HE HSN hes
      generalize mkS en = y
      intro HE HSN hes
      have hj0 : (0 : Int) ≤ (j : Int) := by omega
      have hjl : (j : Int) < (ps.length : Int) := by omega
      go_wp2_with (go_at_call 15; refine (HE.out _).mono ?_; rintro e w2 ⟨rfl, hb2⟩; have HB2 : Hid (Below w.heap.size w w2) := HB.out.trans (hb2.mono HB.out.size); clear hb2)
      go_roundw
      case rel => exact ⟨j + 1, _, by omega, by go_num, rfl, HSN.out, HB2.out⟩
      case measure => simp [intOf]; omega
    · have hje : j = ps.length := by omega
      subst hje
      have hd0 := hdT_len ps ps.length HP.out hpn
      have HC : Hid ((t.toList.isEmpty = true ∧ mkS [47] = mkS (hdT ps ps.length)) ∨ (t.toList.isEmpty = false ∧ t = mkS (hdT ps ps.length))) := by
        show _ ∨ _
        rw [HTT.out, Lib.toList_data, data_mkS]
        unfold hdT
        rw [List.take_length]
        cases ps with
        | nil => exact .inl ⟨rfl, rfl⟩
        | cons p r => exact .inr ⟨rfl, by rw [if_neg (by simp)]⟩
      clear hB HTT
      rcases HC.out with ⟨he, ht⟩ | ⟨he, ht⟩
      all_goals
        have HT := Lib.hid ht
        clear ht HC
        go_wp2
        go_loopw [5, 26] (fun o v wr => ∃ (k : Nat) (t : ByteArray), k ≤ l.length ∧ v = .int .i64 k ∧ o = .string t ∧ t = mkS (hdT ps ps.length ++ qrsL 63 (l.take k)) ∧ Below w.heap.size w wr) (fun _ v _ => l.length - (intOf v).toNat)
        case atStart => exact ⟨0, _, by omega, rfl, rfl, by rw [List.take_zero, qrsL, List.append_nil]; exact HT.out, HB.out⟩
        case round =>
          clear HT he
          obtain ⟨k, t, hk, rfl, rfl, htt, hB⟩ := hrel
          have HB := Lib.hid hB
          have HTT := Lib.hid htt
          have hln := qrs_lenT 63 (l.take k) (fun x hx => HQ.out x (List.mem_of_mem_take hx))
          have htl : (l.take k).length ≤ l.length := List.length_take_le' _ _
          have hts : t.size ≤ 300000 := by rw [htt, size_mkS, List.length_append]; omega
          clear htt hln htl
          by_cases hlt : k < l.length
          · obtain ⟨g1, c1, e1, hg1, hc1, hat1⟩ := owp_atR HO2.out (by omega)
            injection e1 with e1a e1b e1c
            subst e1a e1c
            have p0 := (hB.cell (p := ⟨g1, k * 2, none⟩) hg1).trans (hat1 k hlt).1
            have p1 := (hB.cell (p := ⟨g1, k * 2 + 1, none⟩) hg1).trans (hat1 k hlt).2
            have hq0 := HQ.out _ (List.getElem_mem hlt)
            have HE1 := Lib.hid (fun W => EncodeR_c (mkS l[k].1) W (by rw [size_mkS]; omega))
            have HE2 := Lib.hid (fun W => EncodeR_c (mkS l[k].2) W (by rw [size_mkS]; omega))
            rw [data_mkS] at HE1 HE2
            have HSN : Hid (t ++ mkS [if k = 0 then 63 else 38] ++ mkS (encL l[k].1) ++ mkS [61] ++ mkS (encL l[k].2) = mkS (hdT ps ps.length ++ qrsL 63 (l.take (k + 1)))) := by
              show _ = _
              rw [qrsT_snoc hlt, HTT.out, mkS_app, mkS_app, mkS_app, mkS_app]; simp only [List.append_assoc]
            have hen1 := enc_len l[k].1
            have hen2 := enc_len l[k].2
            have hel1 : (mkS (encL l[k].1)).size ≤ 3000 := by rw [size_mkS]; omega
            have hel2 : (mkS (encL l[k].2)).size ≤ 3000 := by rw [size_mkS]; omega
            clear hB hat1 hq0 hen1 hen2 HTT
            revert p0 p1 HE1 HE2 HSN hel1 hel2
            generalize mkS (encL l[k].1) = en1
            generalize mkS (encL l[k].2) = en2
            generalize mkS l[k].1 = x
            generalize mkS l[k].2 = y
            intro p0 p1 HE1 HE2 HSN hel1 hel2
            have hk0 : (0 : Int) ≤ (k : Int) := by omega
            have hkl : (k : Int) < (l.length : Int) := by omega
            have hsz := HB.out.size
            by_cases h0 : k = 0
            · subst h0
              have HSN2 : Hid (t ++ (⟨#[63]⟩ : ByteArray) ++ en1 ++ (⟨#[61]⟩ : ByteArray) ++ en2 = mkS (hdT ps ps.length ++ qrsL 63 (l.take (0 + 1)))) := HSN.out
              clear HSN
              obtain ⟨W0, hW0, HK⟩ : ∃ W0, W0 = wr.alloc (.cells #[.string x, .string y] 27) ∧ Hid (TR w wr.heap.size x y W0) := ⟨_, rfl, HB.out.alloc hsz _, heap_alloc_new wr _⟩
              have HWE := Lib.hid hW0
              clear hW0
              have HKD : Hid (TR w wr.heap.size x y W0.drew) := HK.out.drew
              have c0 := HK.out.c
              go_wp2_with fail
              rw [← HWE.out]
              clear HWE HB p0 p1
              have hts2 : (t ++ (⟨#[63]⟩ : ByteArray)).size ≤ 300001 := by rw [ByteArray.size_append]; show _ + 1 ≤ _; omega
              revert HSN2 hts2
              generalize t ++ (⟨#[63]⟩ : ByteArray) = t0
              intro HSN2 hts2
              have z1 : (t0 ++ en1).size ≤ 310000 := by rw [ByteArray.size_append]; omega
              have z2 : (t0 ++ en1 ++ (⟨#[61]⟩ : ByteArray)).size ≤ 310001 := by rw [ByteArray.size_append]; show _ + 1 ≤ _; omega
              have hA1 : ∀ W, (Op.stringOp .add t0 en1).run Tryd.prog W = .ok (.string (t0 ++ en1)) W := fun W => run_string_add_sum W _ _ (by omega)
              have hA2 : ∀ W, (Op.stringOp .add (t0 ++ en1) ⟨#[61]⟩).run Tryd.prog W = .ok (.string (t0 ++ en1 ++ (⟨#[61]⟩ : ByteArray))) W := fun W => run_string_add_sum W _ _ (by show _ + 1 ≤ _; omega)
              have hA3 : ∀ W, (Op.stringOp .add (t0 ++ en1 ++ (⟨#[61]⟩ : ByteArray)) en2).run Tryd.prog W = .ok (.string (t0 ++ en1 ++ (⟨#[61]⟩ : ByteArray) ++ en2)) W := fun W => run_string_add_sum W _ _ (by omega)
              have hz1 : (9223372036854775807 < t0.size + en1.size) = False := by simp only [eq_iff_iff, iff_false]; omega
              have hz2 : (9223372036854775807 < (t0 ++ en1).size + 1) = False := by simp only [eq_iff_iff, iff_false]; omega
              have hz3 : (9223372036854775807 < (t0 ++ en1 ++ (⟨#[61]⟩ : ByteArray)).size + en2.size) = False := by simp only [eq_iff_iff, iff_false]; omega
              clear z1 z2
              revert hA1 hA2 hA3 hz1 hz2 hz3 HSN2
              generalize t0 ++ en1 ++ (⟨#[61]⟩ : ByteArray) ++ en2 = r3
              generalize t0 ++ en1 ++ (⟨#[61]⟩ : ByteArray) = r2
              generalize t0 ++ en1 = r1
              intro HSN2 hA1 hA2 hA3 hz1 hz2 hz3
              go_region_held3 (fun V => V.cell? ⟨wr.heap.size, 0, none⟩ = some (.string x) ∧ V.cell? ⟨wr.heap.size, 1, none⟩ = some (.string y))
                (first | (with_reducible exact g0) | (with_reducible exact e0) | (with_reducible exact HKD.out.c) | exact c0)
                (first
                  | (go_at_call 15; (with_reducible refine (HE1.out W0.drew).mono ?_); rintro e w3 ⟨rfl, hb3⟩; have HK3 := Lib.hid (HKD.out.go hb3); have e0 := HK3.out.c; clear hb3)
                  | (go_at_call 15; (with_reducible refine (HE2.out w3).mono ?_); rintro e w5 ⟨rfl, hb5⟩; have HK5 := Lib.hid (HK3.out.go hb5); have g0 := HK5.out.c; clear hb5))
              all_goals
                clear g0
                go_wp2
                go_roundw
                case rel => exact ⟨1, _, by omega, by go_num, rfl, HSN2.out, HK5.out.1⟩
                case measure => simp [intOf]; omega
            · have hk1 : (0 : Int) < (k : Int) := by omega
              rw [if_neg h0] at HSN
              have HSN2 : Hid (t ++ (⟨#[38]⟩ : ByteArray) ++ en1 ++ (⟨#[61]⟩ : ByteArray) ++ en2 = mkS (hdT ps ps.length ++ qrsL 63 (l.take (k + 1)))) := HSN.out
              clear HSN
              obtain ⟨W0, hW0, HK⟩ : ∃ W0, W0 = wr.alloc (.cells #[.string x, .string y] 27) ∧ Hid (TR w wr.heap.size x y W0) := ⟨_, rfl, HB.out.alloc hsz _, heap_alloc_new wr _⟩
              have HWE := Lib.hid hW0
              clear hW0
              have HKD : Hid (TR w wr.heap.size x y W0.drew) := HK.out.drew
              have c0 := HK.out.c
              go_wp2_with fail
              rw [← HWE.out]
              clear HWE HB p0 p1
              have hts2 : (t ++ (⟨#[38]⟩ : ByteArray)).size ≤ 300001 := by rw [ByteArray.size_append]; show _ + 1 ≤ _; omega
              revert HSN2 hts2
              generalize t ++ (⟨#[38]⟩ : ByteArray) = t0
              intro HSN2 hts2
              have z1 : (t0 ++ en1).size ≤ 310000 := by rw [ByteArray.size_append]; omega
              have z2 : (t0 ++ en1 ++ (⟨#[61]⟩ : ByteArray)).size ≤ 310001 := by rw [ByteArray.size_append]; show _ + 1 ≤ _; omega
              have hA1 : ∀ W, (Op.stringOp .add t0 en1).run Tryd.prog W = .ok (.string (t0 ++ en1)) W := fun W => run_string_add_sum W _ _ (by omega)
              have hA2 : ∀ W, (Op.stringOp .add (t0 ++ en1) ⟨#[61]⟩).run Tryd.prog W = .ok (.string (t0 ++ en1 ++ (⟨#[61]⟩ : ByteArray))) W := fun W => run_string_add_sum W _ _ (by show _ + 1 ≤ _; omega)
              have hA3 : ∀ W, (Op.stringOp .add (t0 ++ en1 ++ (⟨#[61]⟩ : ByteArray)) en2).run Tryd.prog W = .ok (.string (t0 ++ en1 ++ (⟨#[61]⟩ : ByteArray) ++ en2)) W := fun W => run_string_add_sum W _ _ (by omega)
              have hz1 : (9223372036854775807 < t0.size + en1.size) = False := by simp only [eq_iff_iff, iff_false]; omega
              have hz2 : (9223372036854775807 < (t0 ++ en1).size + 1) = False := by simp only [eq_iff_iff, iff_false]; omega
              have hz3 : (9223372036854775807 < (t0 ++ en1 ++ (⟨#[61]⟩ : ByteArray)).size + en2.size) = False := by simp only [eq_iff_iff, iff_false]; omega
              clear z1 z2
              revert hA1 hA2 hA3 hz1 hz2 hz3 HSN2
              generalize t0 ++ en1 ++ (⟨#[61]⟩ : ByteArray) ++ en2 = r3
              generalize t0 ++ en1 ++ (⟨#[61]⟩ : ByteArray) = r2
              generalize t0 ++ en1 = r1
              intro HSN2 hA1 hA2 hA3 hz1 hz2 hz3
              go_region_held3 (fun V => V.cell? ⟨wr.heap.size, 0, none⟩ = some (.string x) ∧ V.cell? ⟨wr.heap.size, 1, none⟩ = some (.string y))
                (first | (with_reducible exact g0) | (with_reducible exact e0) | (with_reducible exact HKD.out.c) | exact c0)
                (first
                  | (go_at_call 15; (with_reducible refine (HE1.out W0.drew).mono ?_); rintro e w3 ⟨rfl, hb3⟩; have HK3 := Lib.hid (HKD.out.go hb3); have e0 := HK3.out.c; clear hb3)
                  | (go_at_call 15; (with_reducible refine (HE2.out w3).mono ?_); rintro e w5 ⟨rfl, hb5⟩; have HK5 := Lib.hid (HK3.out.go hb5); have g0 := HK5.out.c; clear hb5))
              all_goals
                clear g0
                go_wp2
                go_roundw
                case rel => exact ⟨k + 1, _, by omega, by go_num, rfl, HSN2.out, HK5.out.1⟩
                case measure => simp [intOf]; omega
          · have hke : k = l.length := by omega
            subst hke
            have hta : t = mkS (tgtL ps l) := by rw [HTT.out, List.take_length, hdT_all]
            clear HTT hB
            go_wp2
            go_ret
            exact ⟨congrArg (fun x => Ending.returned (.string x)) hta, HB.out⟩
end Go.Proofs.YtflhapnanhbcgaaDoor.Pc

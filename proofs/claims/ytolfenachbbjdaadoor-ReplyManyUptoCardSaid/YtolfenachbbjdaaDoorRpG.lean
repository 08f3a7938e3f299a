/- The contract of the document's Encode: for replies whose fields have at most two million bytes each. -/
import Derived.Test.YtolfenachbbjdaaDoorRpF
namespace Go.Proofs.YtolfenachbbjdaaDoor.Rp
open Go.RowKit Ch Hd
set_option linter.unusedSimpArgs false
set_option linter.unusedVariables false

set_option maxRecDepth 100000 in
set_option maxHeartbeats 8000000 in
theorem encR (n : Int) (ao : Option Addr) (cap : Nat) (fs : List FB) (body pr rs s1 s2 s3 s4 pb : ByteArray) (bb : Bool) (w : World)
    (HRD : Hid (RdF (.slice ao fs.length cap) fs w)) (HS : Hid (∀ f ∈ fs, smallF f)) (hm : fs.length ≤ 1000000)
    (hbody : body.size ≤ 2000000) (hpb : pb.size ≤ 100) (hs4 : s4.size ≤ 1000) (r : ByteArray) (HRES : Hid (mkS (s4.data.toList ++ fs.flatMap fldB ++ tailL bb pb body) = r)) (HTL : Hid ((fs.flatMap fldB).length ≤ 40000000))
    (HPR : Hid (∀ W, Calls Tryd.prog 30 #[.int .i64 n] W fun e w' => e = .returned (.string pr) ∧ Below W.heap.size W w'))
    (HPB : Hid (∀ W, Calls Tryd.prog 30 #[.int .i64 (body.size : Int)] W fun e w' => e = .returned (.string pb) ∧ Below W.heap.size W w'))
    (HRS : Hid (∀ W, Calls Tryd.prog 21 #[.int .i64 n] W fun e w' => e = .returned (.string rs) ∧ Below W.heap.size W w'))
    (HB : Hid (∀ W, Calls Tryd.prog 19 #[.int .i64 n] W fun e w' => e = .returned (.bool bb) ∧ W = w'))
    (hA1 : ∀ W, (Op.stringOp .add ⟨#[72, 84, 84, 80, 47, 49, 46, 49, 32]⟩ pr).run Tryd.prog W = .ok (.string s1) W)
    (hA2 : ∀ W, (Op.stringOp .add s1 ⟨#[32]⟩).run Tryd.prog W = .ok (.string s2) W)
    (hA3 : ∀ W, (Op.stringOp .add s2 rs).run Tryd.prog W = .ok (.string s3) W)
    (hA4 : ∀ W, (Op.stringOp .add s3 ⟨#[13, 10]⟩).run Tryd.prog W = .ok (.string s4) W)
    (hz1 : (9223372036854775807 < 9 + pr.size) = False) (hz2 : (9223372036854775807 < s1.size + 1) = False) (hz3 : (9223372036854775807 < s2.size + rs.size) = False) (hz4 : (9223372036854775807 < s3.size + 2) = False) :
    Calls Tryd.prog 13 #[.agg #[.int .i64 n, .slice ao fs.length cap, .string body]] w fun e w' => e = .returned (.string r) ∧ Below w.heap.size w w' := by
  have HBS : Hid (body.size ≤ 2000000) := hbody
  have HPS : Hid (pb.size ≤ 100) := hpb
  have HS4 : Hid (s4.data.toList.length ≤ 1000) := by show _ ≤ _; rw [← Lib.size_eq]; exact hs4
  obtain ⟨W0, hW0, HK⟩ : ∃ W0, W0 = (w.alloc (.cells #[.int .i64 n, .slice ao fs.length cap, .string body] 24)) ∧ Hid (EQ w n (.slice ao fs.length cap) body W0) := ⟨_, rfl, EQ.new _ _ _ _⟩
  have HWE := Lib.hid hW0
  clear hW0
  have HKD : Hid (EQ w n (.slice ao fs.length cap) body W0.drew) := HK.out.drew
  have c0 := HK.out.c0
  go_enter Tryd.func13, Tryd.ntmps13
  go_wp2_with fail
  rw [← HWE.out]
  clear HWE
  go_region_held3 (fun V => V.cell? ⟨w.heap.size, 0, none⟩ = some (.int .i64 n))
    (first | (with_reducible exact g0) | (with_reducible exact e0) | (with_reducible exact b0) | exact c0)
    (first
      | (go_at_call 30; (with_reducible refine (HPR.out W0.drew).mono ?_); rintro e w3 ⟨rfl, hb3⟩; have HK3 := Lib.hid (HKD.out.go hb3); have e0 := HK3.out.c0; clear hb3)
      | (go_at_call 21; (with_reducible refine (HRS.out W0.drew).mono ?_); rintro e w4 ⟨rfl, hb4⟩; have HK4 := Lib.hid (HKD.out.go hb4); have b0 := HK4.out.c0; clear hb4)
      | (go_at_call 21; (with_reducible refine (HRS.out w3).mono ?_); rintro e w5 ⟨rfl, hb5⟩; have HK5 := Lib.hid (HK3.out.go hb5); have g0 := HK5.out.c0; clear hb5)
      | (go_at_call 30; (with_reducible refine (HPR.out w4).mono ?_); rintro e w5 ⟨rfl, hb5⟩; have HK5 := Lib.hid (HK4.out.go hb5); have g0 := HK5.out.c0; clear hb5))
  all_goals
    clear g0
    have k1 := (cells3 HK5.out.2).2.1
    go_wp2
    go_loopw [3, 19] (fun sv i wr => ∃ (j : Nat) (x : ByteArray), j ≤ fs.length ∧ i = .int .i64 j ∧ sv = .string x ∧ Hid (x.data.toList = s4.data.toList ++ (fs.take j).flatMap fldB) ∧ Hid (EQ w n (.slice ao fs.length cap) body wr)) (fun _ i _ => fs.length - (intOf i).toNat)
    case atStart => exact ⟨0, s4, by omega, rfl, rfl, Lib.hid (by simp), HK5⟩
    case round =>
      obtain ⟨j, sv, hj, rfl, rfl, HX, HKR⟩ := hrel
      have hsz : sv.size ≤ 40001000 := by rw [Lib.size_eq, HX.out, List.length_append]; have := HS4.out; have := HTL.out; have := flat_le fs j; omega
      by_cases hlt : j < fs.length
      · obtain ⟨ao', cap', e, hc⟩ := HRD.out.go HKR.out.1
        injection e with ea eb ec
        subst ea ec
        obtain ⟨g, off, rfl, hg, hat⟩ := hc (by omega)
        obtain ⟨k0, k1'⟩ := hat j hlt
        have hj0 : (0 : Int) ≤ (j : Int) := by omega
        have hjl : (j : Int) < (fs.length : Int) := by omega
        obtain ⟨hx, hy⟩ := HS.out _ (List.getElem_mem hlt)
        have HSN : Hid ((sv ++ fs[j].1 ++ ⟨#[58, 32]⟩ ++ fs[j].2 ++ ⟨#[13, 10]⟩ : ByteArray).data.toList = s4.data.toList ++ (fs.take (j + 1)).flatMap fldB) := by
          show _ = _
          rw [flat_snoc hlt, ← List.append_assoc, ← HX.out]
          simp [fldB]
        have HKA := Lib.hid (HKR.out.go ((Below.refl wr.heap.size wr).alloc (Nat.le_refl _) (.cells #[.string fs[j].1, .string fs[j].2] 64)))
        clear hat hc k1
        revert k0 k1' hx hy HSN HKA
        generalize fs[j].1 = x
        generalize fs[j].2 = y
        intro k0 k1' hx hy HSN HKA
        go_wp2
        go_roundw
        case rel => exact ⟨j + 1, _, by omega, by go_num, rfl, HSN, HKA⟩
        case measure => simp [intOf]; omega
      · have hje : j = fs.length := by omega
        subst hje
        have HXL : Hid (sv.data.toList = s4.data.toList ++ fs.flatMap fldB) := by
          have h := HX.out
          rw [List.take_length] at h
          exact h
        clear HX k1
        obtain ⟨k0, k1, k2⟩ := cells3 HKR.out.2
        cases bb with
        | true =>
          have HRR : Hid (sv ++ ⟨#[13, 10]⟩ ++ body = r) := by
            show _ = _
            rw [← HRES.out, ← HXL.out]
            exact mkS_of (by simp [tailL])
          clear HRES
          go_wp2_with fail
          refine (HB.out _).mono ?_
          rintro e w6 ⟨rfl, hw⟩
          rw [← hw]; clear hw
          go_wp2
          go_ret
          exact ⟨by rw [← HRR.out]; rfl, HKR.out.1⟩
        | false =>
          have HRR : Hid (sv ++ ⟨#[67, 111, 110, 116, 101, 110, 116, 45, 76, 101, 110, 103, 116, 104, 58, 32]⟩ ++ pb ++ ⟨#[13, 10]⟩ ++ ⟨#[13, 10]⟩ ++ body = r) := by
            show _ = _
            rw [← HRES.out, ← HXL.out]
            exact mkS_of (by simp [tailL, fldB])
          clear HRES
          go_wp2_with fail
          refine (HB.out _).mono ?_
          rintro e w6 ⟨rfl, hw⟩
          rw [← hw]; clear hw
          go_wp2_with fail
          refine (HPB.out _).mono ?_
          rintro e w7 ⟨rfl, hb7⟩
          have HK7 := Lib.hid (HKR.out.go hb7)
          clear hb7 k0 k1 k2
          obtain ⟨k0, k1, k2⟩ := cells3 HK7.out.2
          go_wp2
          go_ret
          exact ⟨by rw [← HRR.out]; rfl, HK7.out.1⟩
theorem EncodeR_c (n : Int) (v : Value) (fs : List FB) (body : ByteArray) (w : World) (hn0 : -9223372036854775808 ≤ n) (hn1 : n ≤ 9223372036854775807) (hR : RdF v fs w) (hs : ∀ f ∈ fs, smallF f) (hbody : body.size ≤ 2000000) (hm : fs.length ≤ 1000000) (htl : (fs.flatMap fldB).length ≤ 40000000) :
    Calls Tryd.prog 13 #[.agg #[.int .i64 n, v, .string body]] w fun e w' => e = .returned (.string (mkS (encL n fs body))) ∧ Below w.heap.size w w' := by
  have HRD := hR
  obtain ⟨ao, cap, rfl, _⟩ := hR
  have e1 := itoa_sz n hn0 hn1
  have e2 := rsn_sz n
  have e3 := itoa_sz (body.size : Int) (by omega) (by omega)
  have z1 : (ByteArray.mk #[72, 84, 84, 80, 47, 49, 46, 49, 32] ++ mkS (Lib.itoa n)).size ≤ 109 := by rw [ByteArray.size_append]; show 9 + _ ≤ _; omega
  have z2 : (ByteArray.mk #[72, 84, 84, 80, 47, 49, 46, 49, 32] ++ mkS (Lib.itoa n) ++ ByteArray.mk #[32]).size ≤ 110 := by rw [ByteArray.size_append]; show _ + 1 ≤ _; omega
  have z3 : (ByteArray.mk #[72, 84, 84, 80, 47, 49, 46, 49, 32] ++ mkS (Lib.itoa n) ++ ByteArray.mk #[32] ++ mkS (rsnL n)).size ≤ 160 := by rw [ByteArray.size_append]; omega
  have z4 : (ByteArray.mk #[72, 84, 84, 80, 47, 49, 46, 49, 32] ++ mkS (Lib.itoa n) ++ ByteArray.mk #[32] ++ mkS (rsnL n) ++ ByteArray.mk #[13, 10]).size ≤ 162 := by rw [ByteArray.size_append]; show _ + 2 ≤ _; omega
  have H := encR n ao cap fs body (mkS (Lib.itoa n)) (mkS (rsnL n)) _ _ _ _ (mkS (Lib.itoa body.size)) (barB n) w (Lib.hid HRD) (Lib.hid hs) hm hbody e3 (by exact Nat.le_trans z4 (by omega)) _ (Lib.hid rfl) (Lib.hid htl)
    (Lib.hid (fun W => Nu.print_r n W hn0 hn1)) (Lib.hid (fun W => Nu.print_r _ W (by omega) (by omega))) (Lib.hid (fun W => ReasonR_c n W)) (Lib.hid (fun W => BareR_c n W))
    (fun W => run_string_add_sum W _ _ (by show 9 + _ ≤ _; omega)) (fun W => run_string_add_sum W _ _ (by show _ + 1 ≤ _; omega)) (fun W => run_string_add_sum W _ _ (by omega)) (fun W => run_string_add_sum W _ _ (by show _ + 2 ≤ _; omega))
    (by simp; omega) (by simp only [eq_iff_iff, iff_false]; omega) (by simp only [eq_iff_iff, iff_false]; omega) (by simp only [eq_iff_iff, iff_false]; omega)
  rw [top_data] at H
  exact H
end Go.Proofs.YtolfenachbbjdaaDoor.Rp

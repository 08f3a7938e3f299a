/- The contract of package reply's Encode: for replies whose fields have at most two million bytes each, where the library's tables lie as the program's text lays them. -/
import Derived.Test.YtolfenachbbjdaaDoorRpC
import Derived.Test.YtolfenachbbjdaaDoorNuBack
import Derived.Lib.ItoaLen
namespace Go.Proofs.YtolfenachbbjdaaDoor.Rp
open Go.RowKit Ch Hd
set_option linter.unusedSimpArgs false
set_option linter.unusedVariables false

/-- what lies while Encode writes: the reply's own block, the builder -/
def EK (w : World) (n : Int) (v : Value) (body : ByteArray) (b : Nat) (l : List UInt8) (V : World) : Prop :=
  Below w.heap.size w V ∧ V.heap[w.heap.size]? = some (.cells #[.int .i64 n, v, .string body] 31 (0, 0)) ∧ w.heap.size < b ∧ Jt.Bld b l V
theorem EK.go {w V V' : World} {n : Int} {v : Value} {body : ByteArray} {b : Nat} {l : List UInt8} (h : EK w n v body b l V) (hb : Below V.heap.size V V') : EK w n v body b l V' :=
  ⟨h.1.trans (hb.mono h.1.size), (hb.block _ (Array.getElem?_eq_some_iff.1 h.2.1).1).trans h.2.1, h.2.2.1, h.2.2.2.go hb⟩
theorem EK.wr {w V V' : World} {n : Int} {v : Value} {body : ByteArray} {b : Nat} {l l' : List UInt8} (h : EK w n v body b l V) (hB : Jt.Bld b l' V') (hb : Below b V V') : EK w n v body b l' V' :=
  ⟨h.1.trans (hb.mono (Nat.le_of_lt h.2.2.1)), (hb.block _ h.2.2.1).trans h.2.1, h.2.2.1, hB⟩
theorem EK.c0 {w V : World} {n : Int} {v : Value} {body : ByteArray} {b : Nat} {l : List UInt8} (h : EK w n v body b l V) : V.cell? ⟨w.heap.size, 0, none⟩ = some (.int .i64 n) := (cells3 h.2.1).1
theorem EK.bld {w V : World} {n : Int} {v : Value} {body : ByteArray} {b : Nat} {l : List UInt8} (h : EK w n v body b l V) : Jt.Bld b l V := h.2.2.2
theorem EK.drew {w V : World} {n : Int} {v : Value} {body : ByteArray} {b : Nat} {l : List UInt8} (h : EK w n v body b l V) : EK w n v body b l V.drew := h.go (by refine ⟨rfl, rfl, rfl, Nat.le_refl _, fun _ _ => rfl⟩)
theorem in3 {w W : World} {a b c : Value} {T : TypeId} (hb : Below (w.alloc (.cells #[a, b, c] T)).heap.size (w.alloc (.cells #[a, b, c] T)) W) : W.heap[w.heap.size]? = some (.cells #[a, b, c] T (0, 0)) ∧ w.heap.size < W.heap.size ∧ Below w.heap.size w W := by
  have hk := heap_alloc_new w (.cells #[a, b, c] T)
  have hl : w.heap.size < (w.alloc (.cells #[a, b, c] T)).heap.size := by rw [World.size_alloc]; exact Nat.lt_succ_self _
  exact ⟨(hb.block _ hl).trans hk, Nat.lt_of_lt_of_le hl hb.size, ((Below.refl _ _).alloc (Nat.le_refl _) _).trans (hb.mono (Nat.le_of_lt hl))⟩
theorem flat_le (fs : List FB) (j : Nat) : ((fs.take j).flatMap fldB).length ≤ (fs.flatMap fldB).length := by
  conv => rhs; rw [← List.take_append_drop j fs, List.flatMap_append, List.length_append]
  omega
theorem flat_snoc {fs : List FB} {j : Nat} (hj : j < fs.length) : (fs.take (j + 1)).flatMap fldB = (fs.take j).flatMap fldB ++ fldB fs[j] := by
  rw [List.take_succ_eq_append_getElem hj, List.flatMap_append]; simp
def tailL (bb : Bool) (pb body : ByteArray) : List UInt8 := (if bb then [] else fldB (⟨#[67, 111, 110, 116, 101, 110, 116, 45, 76, 101, 110, 103, 116, 104]⟩, pb)) ++ [13, 10] ++ body.data.toList
set_option maxRecDepth 100000 in
set_option maxHeartbeats 2000000 in
theorem enc_no (n : Int) (ao : Option Addr) (cap : Nat) (fs : List FB) (body : ByteArray) (w : World)
    (HRT : Hid (Calls Tryd.prog 23 #[.agg #[.int .i64 n, .slice ao fs.length cap, .string body]] (w.alloc (.cells #[.int .i64 n, .slice ao fs.length cap, .string body] 31)) fun e w' => e = .returned (.bool false) ∧ Below (w.alloc (.cells #[.int .i64 n, .slice ao fs.length cap, .string body] 31)).heap.size (w.alloc (.cells #[.int .i64 n, .slice ao fs.length cap, .string body] 31)) w')) :
    Calls Tryd.prog 9 #[.agg #[.int .i64 n, .slice ao fs.length cap, .string body]] w fun e w' => e = .returned (.tuple #[.string ⟨#[]⟩, .int .i64 3]) ∧ Below w.heap.size w w' := by
  go_enter Tryd.func9, Tryd.ntmps9
  go_wp2_with fail
  refine HRT.out.mono ?_
  rintro e w1 ⟨rfl, hb1⟩
  have HB := Lib.hid (in3 hb1).2.2
  clear hb1
  go_wp2
  go_ret2
  exact ⟨rfl, HB.out⟩
set_option maxRecDepth 100000 in
set_option maxHeartbeats 8000000 in
theorem enc_ok (n : Int) (ao : Option Addr) (cap : Nat) (fs : List FB) (body pr rs s1 s2 s3 s4 pb : ByteArray) (bb : Bool) (w : World)
    (HRD : Hid (RdF (.slice ao fs.length cap) fs w)) (HS : Hid (∀ f ∈ fs, smallF f)) (HT : Hid (Nu.Tabs w)) (hm : fs.length ≤ 1000000)
    (hbody : body.size ≤ 2000000) (hpb : pb.size ≤ 100) (hs4 : s4.size ≤ 1000) (r : ByteArray) (HRES : Hid (mkS (s4.data.toList ++ fs.flatMap fldB ++ tailL bb pb body) = r)) (HTL : Hid ((fs.flatMap fldB).length ≤ 40000000))
    (HRT : Hid (Calls Tryd.prog 23 #[.agg #[.int .i64 n, .slice ao fs.length cap, .string body]] (w.alloc (.cells #[.int .i64 n, .slice ao fs.length cap, .string body] 31)) fun e w' => e = .returned (.bool true) ∧ Below (w.alloc (.cells #[.int .i64 n, .slice ao fs.length cap, .string body] 31)).heap.size (w.alloc (.cells #[.int .i64 n, .slice ao fs.length cap, .string body] 31)) w'))
    (HPR : Hid (∀ W, Nu.Tabs W → Calls Tryd.prog 25 #[.int .i64 n] W fun e w' => e = .returned (.string pr) ∧ Below W.heap.size W w'))
    (HPB : Hid (∀ W, Nu.Tabs W → Calls Tryd.prog 25 #[.int .i64 (body.size : Int)] W fun e w' => e = .returned (.string pb) ∧ Below W.heap.size W w'))
    (HRS : Hid (∀ W, Calls Tryd.prog 20 #[.int .i64 n] W fun e w' => e = .returned (.string rs) ∧ W = w'))
    (HB : Hid (∀ W, Calls Tryd.prog 22 #[.int .i64 n] W fun e w' => e = .returned (.bool bb) ∧ W = w'))
    (hA1 : ∀ W, (Op.stringOp .add ⟨#[72, 84, 84, 80, 47, 49, 46, 49, 32]⟩ pr).run Tryd.prog W = .ok (.string s1) W)
    (hA2 : ∀ W, (Op.stringOp .add s1 ⟨#[32]⟩).run Tryd.prog W = .ok (.string s2) W)
    (hA3 : ∀ W, (Op.stringOp .add s2 rs).run Tryd.prog W = .ok (.string s3) W)
    (hA4 : ∀ W, (Op.stringOp .add s3 ⟨#[13, 10]⟩).run Tryd.prog W = .ok (.string s4) W)
    (hz1 : (9223372036854775807 < 9 + pr.size) = False) (hz2 : (9223372036854775807 < s1.size + 1) = False) (hz3 : (9223372036854775807 < s2.size + rs.size) = False) (hz4 : (9223372036854775807 < s3.size + 2) = False) :
    Calls Tryd.prog 9 #[.agg #[.int .i64 n, .slice ao fs.length cap, .string body]] w fun e w' => e = .returned (.tuple #[.string r, .int .i64 0]) ∧ Below w.heap.size w w' := by
  have HBS : Hid (body.size ≤ 2000000) := hbody
  have HPS : Hid (pb.size ≤ 100) := hpb
  have HS4 : Hid (s4.data.toList.length ≤ 1000) := by show _ ≤ _; rw [← Lib.size_eq]; exact hs4
  have HZ4 : Hid (([] : List UInt8).length + s4.size ≤ 100000000) := by show 0 + _ ≤ _; omega
  go_enter Tryd.func9, Tryd.ntmps9
  go_wp2_with fail
  refine HRT.out.mono ?_
  rintro e w1 ⟨rfl, hb1⟩
  obtain ⟨W2, hW2, HK⟩ : ∃ W2, W2 = w1.alloc (.cells #[.pointer none, .slice none 0 0] 54) ∧ Hid (EK w n (.slice ao fs.length cap) body w1.heap.size [] W2) :=
    ⟨_, rfl, (in3 hb1).2.2.alloc (in3 hb1).2.2.size _, (((Below.refl w1.heap.size w1).alloc (Nat.le_refl _) _).block _ (in3 hb1).2.1).trans (in3 hb1).1, (in3 hb1).2.1, Jt.Bld.new w1⟩
  have HWE := Lib.hid hW2
  have HKD : Hid (EK w n (.slice ao fs.length cap) body w1.heap.size [] W2.drew) := HK.out.drew
  have HTD : Hid (Nu.Tabs W2.drew) := HT.out.go HKD.out.1
  have HWR : Hid (∀ (l : List UInt8) (x : ByteArray) (W : World), Jt.Bld w1.heap.size l W → l.length + x.size ≤ 100000000 → Calls Tryd.prog 24 #[.pointer (some ⟨w1.heap.size, 0, none⟩), .string x] W fun e w' => e = .returned (.tuple #[.int .i64 x.size, .nilIface]) ∧ Jt.Bld w1.heap.size (l ++ x.data.toList) w' ∧ Below w1.heap.size W w') := fun l x W h hl => Jt.wstr_c _ l x W h hl
  have c0 := HK.out.c0
  clear hb1 hW2 HK
  go_wp2_with fail
  rw [← HWE.out]
  clear HWE
  go_region_held3 (fun V => V.cell? ⟨w.heap.size, 0, none⟩ = some (.int .i64 n))
    (first | exact g0 | exact e0 | exact c0)
    (first
      | (go_at_call 25; (with_reducible refine (HPR.out W2.drew HTD.out).mono ?_); rintro e w3 ⟨rfl, hb3⟩; have HK3 := Lib.hid (HKD.out.go hb3); have e0 := HK3.out.c0; clear hb3)
      | (go_at_call 20; (with_reducible refine (HRS.out _).mono ?_); rintro e w4 ⟨rfl, hw⟩; rw [← hw]; clear hw)
      | (go_at_call 24; (with_reducible refine (HWR.out [] s4 w3 HK3.out.bld HZ4.out).mono ?_); rintro e w5 ⟨rfl, hB5, hb5⟩; have HK5 : Hid (EK w n (.slice ao fs.length cap) body w1.heap.size s4.data.toList w5) := HK3.out.wr hB5 hb5; have g0 := HK5.out.c0; clear hB5 hb5))
  all_goals
    clear c0 e0 g0
    have k1 := (cells3 HK5.out.2.1).2.1
    go_wp2
    go_loopw [24] (fun i wr => ∃ j : Nat, j ≤ fs.length ∧ i = .int .i64 j ∧ Hid (EK w n (.slice ao fs.length cap) body w1.heap.size (s4.data.toList ++ (fs.take j).flatMap fldB) wr)) (fun i _ => fs.length - (intOf i).toNat)
    case atStart => exact ⟨0, by omega, rfl, Lib.hid (by have := HK5.out; simpa using this)⟩
    case round =>
      obtain ⟨j, hj, rfl, HKR⟩ := hrel
      by_cases hlt : j < fs.length
      · obtain ⟨ao', cap', e, hc⟩ := HRD.out.go HKR.out.1
        injection e with ea eb ec
        subst ea ec
        obtain ⟨g, off, rfl, hg, hat⟩ := hc (by omega)
        obtain ⟨k0, k1'⟩ := hat j hlt
        have hj0 : (0 : Int) ≤ (j : Int) := by omega
        have hjl : (j : Int) < (fs.length : Int) := by omega
        have HF := Lib.hid (HS.out _ (List.getElem_mem hlt))
        have HSN := Lib.hid (flat_snoc hlt)
        have HLE := Lib.hid (Nat.le_trans (flat_le fs j) HTL.out)
        have HKA := Lib.hid (HKR.out.go ((Below.refl wr.heap.size wr).alloc (Nat.le_refl _) (.cells #[.string fs[j].1, .string fs[j].2] 61)))
        have HPT := Lib.hid (fun W hB => put_c w1.heap.size (s4.data.toList ++ (fs.take j).flatMap fldB) fs[j].1 fs[j].2 W hB HF.out.1 HF.out.2 (by rw [List.length_append]; have := HS4.out; have := HLE.out; omega))
        have HPE : Hid (s4.data.toList ++ (fs.take j).flatMap fldB ++ fldB (fs[j].1, fs[j].2) = s4.data.toList ++ (fs.take (j + 1)).flatMap fldB) := by
          show _ = _
          rw [HSN.out, List.append_assoc]
        clear hat hc HF HSN HLE k1
        revert k0 k1' HKA HPT HPE
        generalize fs[j].1 = x
        generalize fs[j].2 = y
        intro k0 k1' HKA HPT HPE
        go_wp2_with fail
        refine (HPT.out _ HKA.out.2.2.2).mono ?_
        rintro e w6 ⟨rfl, hB6, hb6⟩
        have HK6 := Lib.hid (HKA.out.wr hB6 hb6)
        rw [HPE.out] at HK6
        clear hB6 hb6
        go_wp2
        go_roundw
        case rel => exact ⟨j + 1, by omega, by go_num, HK6⟩
        case measure => simp [intOf]; omega
      · have hje : j = fs.length := by omega
        subst hje
        have HKL : Hid (EK w n (.slice ao fs.length cap) body w1.heap.size (s4.data.toList ++ fs.flatMap fldB) wr) := by
          have h := HKR.out
          rw [List.take_length] at h
          exact h
        have HLL : Hid ((s4.data.toList ++ fs.flatMap fldB).length ≤ 40001000) := by
          show _ ≤ _
          rw [List.length_append]
          have := HS4.out; have := HTL.out; omega
        clear HKR k1
        generalize s4.data.toList ++ fs.flatMap fldB = L at HKL HLL HRES
        obtain ⟨k0, k1, k2⟩ := cells3 HKL.out.2.1
        cases bb with
        | true =>
          go_wp2_with fail
          refine (HB.out _).mono ?_
          rintro e w6 ⟨rfl, hw⟩
          rw [← hw]; clear hw
          go_wp2_with fail
          refine (HWR.out L ⟨#[13, 10]⟩ _ HKL.out.2.2.2 (by have := HLL.out; show _ + 2 ≤ _; omega)).mono ?_
          rintro e w9 ⟨rfl, hB9, hb9⟩
          have HK9 : Hid (EK w n (.slice ao fs.length cap) body w1.heap.size (L ++ [13, 10]) w9) := HKL.out.wr hB9 hb9
          clear hB9 hb9 k0 k1 k2
          obtain ⟨k0, k1, k2⟩ := cells3 HK9.out.2.1
          have HL9 : Hid ((L ++ [13, 10]).length ≤ 40003000) := by
            show _ ≤ _
            rw [List.length_append]
            have := HLL.out
            show _ + 2 ≤ _
            omega
          go_wp2_with fail
          refine (HWR.out (L ++ [13, 10]) body _ HK9.out.2.2.2 (by have := HL9.out; have := HBS.out; omega)).mono ?_
          rintro e w10 ⟨rfl, hB10, hb10⟩
          obtain ⟨LF, HLF, HK10⟩ : ∃ LF : List UInt8, Hid (LF = L ++ [13, 10] ++ body.data.toList) ∧ Hid (EK w n (.slice ao fs.length cap) body w1.heap.size LF w10) := ⟨_, Lib.hid rfl, Lib.hid (HK9.out.wr hB10 hb10)⟩
          clear hB10 hb10 k0 k1 k2
          go_wp2_with fail
          refine (Jt.str_c w1.heap.size LF _ HK10.out.2.2.2).mono ?_
          rintro e w11 ⟨rfl, hb11⟩
          have HBF : Hid (Below w.heap.size w w11) := HK10.out.1.trans (hb11.mono (Nat.le_of_lt HK10.out.2.2.1))
          clear hb11
          go_wp2
          go_ret2
          exact ⟨by rw [← HRES.out, show L ++ tailL true pb body = LF by rw [HLF.out]; simp [tailL]]; rfl, HBF.out⟩
        | false =>
          go_wp2_with fail
          refine (HB.out _).mono ?_
          rintro e w6 ⟨rfl, hw⟩
          rw [← hw]; clear hw
          go_wp2_with fail
          refine (HPB.out _ (HT.out.go HKL.out.1)).mono ?_
          rintro e w7 ⟨rfl, hb7⟩
          have HK7 := Lib.hid (HKL.out.go hb7)
          clear hb7 k0 k1 k2
          obtain ⟨k0, k1, k2⟩ := cells3 HK7.out.2.1
          go_wp2_with fail
          refine (put_c w1.heap.size L ⟨#[67, 111, 110, 116, 101, 110, 116, 45, 76, 101, 110, 103, 116, 104]⟩ pb w7 HK7.out.2.2.2 (by show (14 : Nat) ≤ _; omega) (by have := HPS.out; omega) (by have := HLL.out; omega)).mono ?_
          rintro e w8 ⟨rfl, hB8, hb8⟩
          have HK8 := Lib.hid (HK7.out.wr hB8 hb8)
          clear hB8 hb8 k0 k1 k2
          have HL8 : Hid ((L ++ fldB (⟨#[67, 111, 110, 116, 101, 110, 116, 45, 76, 101, 110, 103, 116, 104]⟩, pb)).length ≤ 40002000) := by
            show _ ≤ _
            rw [List.length_append, fld_len]
            have := HLL.out; have := HPS.out; have : (ByteArray.mk #[67, 111, 110, 116, 101, 110, 116, 45, 76, 101, 110, 103, 116, 104]).size = 14 := rfl
            simp only
            omega
          obtain ⟨k0, k1, k2⟩ := cells3 HK8.out.2.1
          go_wp2_with fail
          refine (HWR.out (L ++ fldB (⟨#[67, 111, 110, 116, 101, 110, 116, 45, 76, 101, 110, 103, 116, 104]⟩, pb)) ⟨#[13, 10]⟩ _ HK8.out.2.2.2 (by have := HL8.out; show _ + 2 ≤ _; omega)).mono ?_
          rintro e w9 ⟨rfl, hB9, hb9⟩
          have HK9 : Hid (EK w n (.slice ao fs.length cap) body w1.heap.size ((L ++ fldB (⟨#[67, 111, 110, 116, 101, 110, 116, 45, 76, 101, 110, 103, 116, 104]⟩, pb)) ++ [13, 10]) w9) := HK8.out.wr hB9 hb9
          clear hB9 hb9 k0 k1 k2
          obtain ⟨k0, k1, k2⟩ := cells3 HK9.out.2.1
          have HL9 : Hid (((L ++ fldB (⟨#[67, 111, 110, 116, 101, 110, 116, 45, 76, 101, 110, 103, 116, 104]⟩, pb)) ++ [13, 10]).length ≤ 40003000) := by
            show _ ≤ _
            rw [List.length_append]
            have := HL8.out
            show _ + 2 ≤ _
            omega
          go_wp2_with fail
          refine (HWR.out ((L ++ fldB (⟨#[67, 111, 110, 116, 101, 110, 116, 45, 76, 101, 110, 103, 116, 104]⟩, pb)) ++ [13, 10]) body _ HK9.out.2.2.2 (by have := HL9.out; have := HBS.out; omega)).mono ?_
          rintro e w10 ⟨rfl, hB10, hb10⟩
          obtain ⟨LF, HLF, HK10⟩ : ∃ LF : List UInt8, Hid (LF = (L ++ fldB (⟨#[67, 111, 110, 116, 101, 110, 116, 45, 76, 101, 110, 103, 116, 104]⟩, pb)) ++ [13, 10] ++ body.data.toList) ∧ Hid (EK w n (.slice ao fs.length cap) body w1.heap.size LF w10) := ⟨_, Lib.hid rfl, Lib.hid (HK9.out.wr hB10 hb10)⟩
          clear hB10 hb10 k0 k1 k2
          go_wp2_with fail
          refine (Jt.str_c w1.heap.size LF _ HK10.out.2.2.2).mono ?_
          rintro e w11 ⟨rfl, hb11⟩
          have HBF : Hid (Below w.heap.size w w11) := HK10.out.1.trans (hb11.mono (Nat.le_of_lt HK10.out.2.2.1))
          clear hb11
          go_wp2
          go_ret2
          exact ⟨by rw [← HRES.out, show L ++ tailL false pb body = LF by rw [HLF.out]; simp [tailL]]; rfl, HBF.out⟩
theorem itoa_sz (n : Int) (h0 : -9223372036854775808 ≤ n) (h1 : n ≤ 9223372036854775807) : (mkS (Lib.itoa n)).size ≤ 100 := by rw [size_mkS]; have := Lib.itoa_length_le n h0 h1; omega
theorem rsn_sz (n : Int) : (mkS (rsnL n)).size ≤ 50 := by
  rw [size_mkS]
  rcases rs_cases n with rfl | rfl | rfl | rfl | rfl | rfl | rfl | rfl | rfl | rfl | rfl | rfl | rfl | rfl | rfl | rfl | rfl | rfl | ⟨h0, h1, h2, h3, h4, h5, h6, h7, h8, h9, h10, h11, h12, h13, h14, h15, h16, h17⟩
  case inr.inr.inr.inr.inr.inr.inr.inr.inr.inr.inr.inr.inr.inr.inr.inr.inr.inr => unfold rsnL; rw [if_neg h0, if_neg h1, if_neg h2, if_neg h3, if_neg h4, if_neg h5, if_neg h6, if_neg h7, if_neg h8, if_neg h9, if_neg h10, if_neg h11, if_neg h12, if_neg h13, if_neg h14, if_neg h15, if_neg h16, if_neg h17]; decide
  all_goals decide
/-- a reply's bytes -/
def topL (n : Int) : List UInt8 := [72, 84, 84, 80, 47, 49, 46, 49, 32] ++ Lib.itoa n ++ [32] ++ rsnL n ++ [13, 10]
def encL (n : Int) (fs : List FB) (body : ByteArray) : List UInt8 := topL n ++ fs.flatMap fldB ++ tailL (barB n) (mkS (Lib.itoa body.size)) body
theorem top_data (n : Int) : (ByteArray.mk #[72, 84, 84, 80, 47, 49, 46, 49, 32] ++ mkS (Lib.itoa n) ++ ByteArray.mk #[32] ++ mkS (rsnL n) ++ ByteArray.mk #[13, 10]).data.toList = topL n := by
  simp [topL, data_mkS]
theorem Encode_c (n : Int) (v : Value) (fs : List FB) (body : ByteArray) (w : World) (hn0 : -9223372036854775808 ≤ n) (hn1 : n ≤ 9223372036854775807) (hR : RdF v fs w) (hs : ∀ f ∈ fs, smallF f) (hT : Nu.Tabs w) (hbody : body.size ≤ 2000000) (hm : fs.length ≤ 1000000) (htl : (fs.flatMap fldB).length ≤ 40000000) :
    Calls Tryd.prog 9 #[.agg #[.int .i64 n, v, .string body]] w fun e w' => (e = if rightB n fs body then .returned (.tuple #[.string (mkS (encL n fs body)), .int .i64 0]) else .returned (.tuple #[.string ⟨#[]⟩, .int .i64 3])) ∧ Below w.heap.size w w' := by
  have HRD := hR
  obtain ⟨ao, cap, rfl, _⟩ := hR
  have hba := (Below.refl w.heap.size w).alloc (Nat.le_refl _) (.cells #[.int .i64 n, .slice ao fs.length cap, .string body] 31)
  have HRT := right_c n (.slice ao fs.length cap) fs body (w.alloc (.cells #[.int .i64 n, .slice ao fs.length cap, .string body] 31)) (HRD.go hba) hm hs
  cases hq : rightB n fs body with
  | false =>
    rw [hq] at HRT
    rw [if_neg (by simp)]
    exact enc_no n ao cap fs body w (Lib.hid HRT)
  | true =>
    rw [hq] at HRT
    rw [if_pos rfl]
    have e1 := itoa_sz n hn0 hn1
    have e2 := rsn_sz n
    have e3 := itoa_sz (body.size : Int) (by omega) (by omega)
    have z1 : (ByteArray.mk #[72, 84, 84, 80, 47, 49, 46, 49, 32] ++ mkS (Lib.itoa n)).size ≤ 109 := by rw [ByteArray.size_append]; show 9 + _ ≤ _; omega
    have z2 : (ByteArray.mk #[72, 84, 84, 80, 47, 49, 46, 49, 32] ++ mkS (Lib.itoa n) ++ ByteArray.mk #[32]).size ≤ 110 := by rw [ByteArray.size_append]; show _ + 1 ≤ _; omega
    have z3 : (ByteArray.mk #[72, 84, 84, 80, 47, 49, 46, 49, 32] ++ mkS (Lib.itoa n) ++ ByteArray.mk #[32] ++ mkS (rsnL n)).size ≤ 160 := by rw [ByteArray.size_append]; omega
    have z4 : (ByteArray.mk #[72, 84, 84, 80, 47, 49, 46, 49, 32] ++ mkS (Lib.itoa n) ++ ByteArray.mk #[32] ++ mkS (rsnL n) ++ ByteArray.mk #[13, 10]).size ≤ 162 := by rw [ByteArray.size_append]; show _ + 2 ≤ _; omega
    have H := enc_ok n ao cap fs body (mkS (Lib.itoa n)) (mkS (rsnL n)) _ _ _ _ (mkS (Lib.itoa body.size)) (barB n) w (Lib.hid HRD) (Lib.hid hs) (Lib.hid hT) hm hbody e3 (by exact Nat.le_trans z4 (by omega)) _ (Lib.hid rfl) (Lib.hid htl) (Lib.hid HRT)
      (Lib.hid (fun W h => Nu.print_c n W hn0 hn1 h)) (Lib.hid (fun W h => Nu.print_c _ W (by omega) (by omega) h)) (Lib.hid (fun W => Reason_c n W)) (Lib.hid (fun W => Bare_c n W))
      (fun W => run_string_add_sum W _ _ (by show 9 + _ ≤ _; omega)) (fun W => run_string_add_sum W _ _ (by show _ + 1 ≤ _; omega)) (fun W => run_string_add_sum W _ _ (by omega)) (fun W => run_string_add_sum W _ _ (by show _ + 2 ≤ _; omega))
      (by simp; omega) (by simp only [eq_iff_iff, iff_false]; omega) (by simp only [eq_iff_iff, iff_false]; omega) (by simp only [eq_iff_iff, iff_false]; omega)
    rw [top_data] at H
    exact H
end Go.Proofs.YtolfenachbbjdaaDoor.Rp

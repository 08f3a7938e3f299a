/- Contracts of the document's Right and Encode: for replies whose fields have at most two million bytes each. -/
import Derived.Test.YtolfenachbbjdaaDoorRpE
namespace Go.Proofs.YtolfenachbbjdaaDoor.Rp
open Go.RowKit Ch Hd
set_option linter.unusedSimpArgs false
set_option linter.unusedVariables false

theorem neqRef (a b c d : ByteArray) (W : World) : (binOp .neq 64 (.agg #[.string a, .string b]) (.agg #[.string c, .string d])).run Tryd.prog W = .ok (.bool (!decide (a.data.toList = c.data.toList ∧ b.data.toList = d.data.toList))) W := by
  have u9 := Tryd.underlying9
  have hS : Tryd.prog.underlying 64 = some (.struct (Tryd.prog.fieldsOf 64)) := by kernel_rfl
  have hp : Tryd.prog.stoodInHeld 64 = false := by kernel_rfl
  rw [run_neq_struct, show (10000 : Nat) = 9999 + 1 from rfl, run_equalIn_agg W 9999 64 _ _ hS hp]
  simp only [Program.fieldsOf, Tryd.underlying64]
  go_simp
  simp only [Lib.toList_data]
  by_cases h1 : a.data = c.data <;> by_cases h2 : b.data = d.data <;> simp [h1, h2]
def EQ (w : World) (n : Int) (v : Value) (body : ByteArray) (V : World) : Prop := Below w.heap.size w V ∧ V.heap[w.heap.size]? = some (.cells #[.int .i64 n, v, .string body] 24 (0, 0))
theorem EQ.lt {w V : World} {n : Int} {v : Value} {body : ByteArray} (h : EQ w n v body V) : w.heap.size < V.heap.size := (Array.getElem?_eq_some_iff.1 h.2).1
theorem EQ.go {w V V' : World} {n : Int} {v : Value} {body : ByteArray} (h : EQ w n v body V) (hb : Below V.heap.size V V') : EQ w n v body V' := ⟨h.1.trans (hb.mono h.1.size), (hb.block _ h.lt).trans h.2⟩
theorem EQ.drew {w V : World} {n : Int} {v : Value} {body : ByteArray} (h : EQ w n v body V) : EQ w n v body V.drew := h.go (by refine ⟨rfl, rfl, rfl, Nat.le_refl _, fun _ _ => rfl⟩)
theorem EQ.c0 {w V : World} {n : Int} {v : Value} {body : ByteArray} (h : EQ w n v body V) : V.cell? ⟨w.heap.size, 0, none⟩ = some (.int .i64 n) := (cells3 h.2).1
theorem EQ.new (w : World) (n : Int) (v : Value) (body : ByteArray) : EQ w n v body (w.alloc (.cells #[.int .i64 n, v, .string body] 24)) := ⟨(Below.refl _ _).alloc (Nat.le_refl _) _, heap_alloc_new w _⟩
set_option maxRecDepth 100000 in
set_option maxHeartbeats 8000000 in
theorem rtR_loop (n : Int) (ao : Option Addr) (cap : Nat) (fs : List FB) (body : ByteArray) (w : World) (HRD : Hid (RdF (.slice ao fs.length cap) fs w)) (hm : fs.length ≤ 1000000) (HS : Hid (∀ f ∈ fs, smallF f)) (q : Bool)
    (hn1 : decide (n < 200) = false) (hn2 : decide (599 < n) = false) (HB : Hid (∀ W, Calls Tryd.prog 19 #[.int .i64 n] W fun e w' => e = .returned (.bool q) ∧ W = w')) (hq : q = false ∨ body.toList.isEmpty = true) (r : Bool) (HRES : Hid ((!fs.any pB) = r)) :
    Calls Tryd.prog 11 #[.agg #[.int .i64 n, .slice ao fs.length cap, .string body]] w fun e w' => e = .returned (.bool r) ∧ Below w.heap.size w w' := by
  have HK0 := Lib.hid (EQ.new w n (.slice ao fs.length cap) body)
  cases q with
  | false =>
    clear hq
    go_enter Tryd.func11, Tryd.ntmps11
    go_wp2_with (first
      | (go_at_call 19; refine (HB.out _).mono ?_; rintro e w1 ⟨rfl, hw⟩; rw [← hw]; clear hw))
    go_loopw [28] (fun i wr => ∃ j : Nat, j ≤ fs.length ∧ i = .int .i64 j ∧ Hid (EQ w n (.slice ao fs.length cap) body wr) ∧ Hid (∀ k (hk : k < fs.length), k < j → pB fs[k] = false)) (fun i _ => fs.length - (intOf i).toNat)
    case atStart => exact ⟨0, by omega, rfl, HK0, Lib.hid (fun k hk h => absurd h (Nat.not_lt_zero _))⟩
    case round =>
      obtain ⟨j, hj, rfl, HKR, HN⟩ := hrel
      by_cases hlt : j < fs.length
      · obtain ⟨ao', cap', e, hc⟩ := HRD.out.go HKR.out.1
        injection e with ea eb ec
        subst ea ec
        obtain ⟨g, off, rfl, hg, hat⟩ := hc (by omega)
        obtain ⟨k0, k1⟩ := hat j hlt
        have hj0 : (0 : Int) ≤ (j : Int) := by omega
        have hjl : (j : Int) < (fs.length : Int) := by omega
        have HF := Lib.hid (HS.out _ (List.getElem_mem hlt))
        have HKA := Lib.hid (HKR.out.go ((Below.refl wr.heap.size wr).alloc (Nat.le_refl _) (.cells #[.string fs[j].1, .string fs[j].2] 64)))
        have HO := fun W => OfFieldR_c (encF fs[j]) W (encF_sz HF.out)
        have HA := Lib.hid (fun (hp : pB fs[j] = true) => show fs.any pB = true from by rw [List.any_eq_true]; exact ⟨fs[j], List.getElem_mem hlt, hp⟩)
        have HN2 := Lib.hid (fun (hp : pB fs[j] = false) => any_take hlt HN.out hp)
        have HLW := fun W => low_r fs[j].1 W (by have := HF.out.1; omega)
        have hx : fs[j].1.size ≤ 2000000 := HF.out.1
        have hy : fs[j].2.size ≤ 2000000 := HF.out.2
        unfold encF at HO
        have HPB := Lib.hid (show pB fs[j] = (!rbB fs[j] || decide (lowL fs[j].1.data.toList = clL)) from rfl)
        unfold rbB encF at HPB
        clear hat hc HF HN
        revert k0 k1 HKA HO HA HN2 HLW hx hy HPB
        generalize pB fs[j] = pj
        generalize fs[j].1 = x
        generalize fs[j].2 = y
        intro k0 k1 HKA HO HA HN2 HLW hx hy HPB
        cases hz : ofL (x ++ ⟨#[58]⟩ ++ y).data.toList with
        | none =>
          simp only [ofV_no hz] at HO
          have HO2 := Lib.hid HO
          have HR2 : Hid (r = false) := by
            have h := HPB.out; rw [hz] at h
            have h2 : pj = true := by rw [h]; simp
            show _ = _
            rw [← HRES.out, HA.out h2]; rfl
          clear HO HA HN2 HLW HPB hz
          go_wp2_with fail
          refine (HO2.out _).mono ?_
          rintro e w2 ⟨rfl, hb2⟩
          obtain ⟨c0, c1, hl, _⟩ := in2 hb2
          have HK2 := Lib.hid (HKA.out.go hb2)
          clear hb2
          go_wp2
          go_ret
          exact ⟨by rw [HR2.out]; rfl, HK2.out.1.alloc HK2.out.1.size _⟩
        | some z =>
          simp only [ofV_yes hz] at HO
          have HO2 := Lib.hid HO
          have hE := fun W => neqRef (mkS z.1) (mkS z.2) x y W
          have hdec : decide ((mkS z.1).data.toList = x.data.toList ∧ (mkS z.2).data.toList = y.data.toList) = decide (some z = some (x.data.toList, y.data.toList)) :=
            decide_eq_decide.2 ⟨fun hh => by obtain ⟨z1, z2⟩ := z; have h1 : z1 = _ := hh.1; have h2 : z2 = _ := hh.2; rw [h1, h2], fun hh => by injection hh with hh; rw [hh]; exact ⟨rfl, rfl⟩⟩
          rw [hdec] at hE
          have hPB := HPB.out
          rw [hz] at hPB
          clear HO hz HPB hdec
          revert HO2 hE hPB
          generalize decide (some z = some (x.data.toList, y.data.toList)) = d
          generalize mkS z.1 = za
          generalize mkS z.2 = zb
          intro HO2 hE hPB
          cases d with
          | false =>
            have hE2 : ∀ W, (binOp .neq 64 (.agg #[.string za, .string zb]) (.agg #[.string x, .string y])).run Tryd.prog W = .ok (.bool true) W := hE
            have HR2 : Hid (r = false) := by
              have h2 : pj = true := by rw [hPB]; rfl
              show _ = _
              rw [← HRES.out, HA.out h2]; rfl
            clear HA HN2 HLW hPB hE
            go_wp2_with fail
            refine (HO2.out _).mono ?_
            rintro e w2 ⟨rfl, hb2⟩
            obtain ⟨c0, c1, hl, _⟩ := in2 hb2
            have hn : wr.heap.size ≠ w2.heap.size := by omega
            have HK2 := Lib.hid (HKA.out.go hb2)
            clear hb2
            go_wp2
            go_ret
            exact ⟨by rw [HR2.out]; rfl, HK2.out.1.alloc HK2.out.1.size _⟩
          | true =>
            have hE2 : ∀ W, (binOp .neq 64 (.agg #[.string za, .string zb]) (.agg #[.string x, .string y])).run Tryd.prog W = .ok (.bool false) W := hE
            clear hE
            by_cases hlw : lowL x.data.toList = clL
            · rw [hlw] at HLW
              have HLW2 : Hid (∀ W, Calls Tryd.prog 29 #[.string x] W fun e w' => e = .returned (.string ⟨#[99, 111, 110, 116, 101, 110, 116, 45, 108, 101, 110, 103, 116, 104]⟩) ∧ Below W.heap.size W w') := HLW
              have HR2 : Hid (r = false) := by
                have h2 : pj = true := by rw [hPB, hlw]; simp
                show _ = _
                rw [← HRES.out, HA.out h2]; rfl
              clear HA HN2 HLW hPB hlw
              go_wp2_with fail
              refine (HO2.out _).mono ?_
              rintro e w2 ⟨rfl, hb2⟩
              obtain ⟨c0, c1, hl, _⟩ := in2 hb2
              have hn : wr.heap.size ≠ w2.heap.size := by omega
              have HK2 := Lib.hid (HKA.out.go hb2)
              have HK3 := Lib.hid (HK2.out.go ((Below.refl w2.heap.size w2).alloc (Nat.le_refl _) (.cells #[.string za, .string zb] 64)))
              clear hb2
              go_wp2_with fail
              refine (HLW2.out _).mono ?_
              rintro e w4 ⟨rfl, hb4⟩
              have HK4 := Lib.hid (HK3.out.go hb4)
              clear hb4
              go_wp2
              go_ret
              exact ⟨by rw [HR2.out]; rfl, HK4.out.1⟩
            · have HLW2 := Lib.hid HLW
              have hne : ((mkS (lowL x.data.toList)).toList == [99, 111, 110, 116, 101, 110, 116, 45, 108, 101, 110, 103, 116, 104]) = false := by rw [Lib.toList_data, data_mkS]; exact beq_eq_false_iff_ne.2 hlw
              have HN3 : Hid (∀ k (hk : k < fs.length), k < j + 1 → pB fs[k] = false) := HN2.out (by rw [hPB, decide_eq_false hlw]; rfl)
              clear HA HN2 HLW hPB hlw
              revert HLW2 hne
              generalize mkS (lowL x.data.toList) = lw
              intro HLW2 hne
              go_wp2_with fail
              refine (HO2.out _).mono ?_
              rintro e w2 ⟨rfl, hb2⟩
              obtain ⟨c0, c1, hl, _⟩ := in2 hb2
              have hn : wr.heap.size ≠ w2.heap.size := by omega
              have HK2 := Lib.hid (HKA.out.go hb2)
              have HK3 := Lib.hid (HK2.out.go ((Below.refl w2.heap.size w2).alloc (Nat.le_refl _) (.cells #[.string za, .string zb] 64)))
              clear hb2
              go_wp2_with fail
              refine (HLW2.out _).mono ?_
              rintro e w4 ⟨rfl, hb4⟩
              have HK4 := Lib.hid (HK3.out.go hb4)
              clear hb4
              go_wp2
              go_roundw
              case rel => exact ⟨j + 1, by omega, by go_num, HK4, HN3⟩
              case measure => simp [intOf]; omega
      · have HR2 : Hid (r = true) := by
          have h : fs.any pB = false := by
            rw [List.any_eq_false]
            intro f hf
            obtain ⟨k, hk, rfl⟩ := List.mem_iff_getElem.1 hf
            rw [HN.out k hk (by omega)]; simp
          show _ = _
          rw [← HRES.out, h]; rfl
        go_wp2
        go_ret
        exact ⟨by rw [HR2.out]; rfl, HKR.out.1⟩
  | true =>
    have he : body.toList.isEmpty = true := by rcases hq with h | h; exact absurd h (by decide); exact h
    clear hq
    go_enter Tryd.func11, Tryd.ntmps11
    go_wp2_with (first
      | (go_at_call 19; refine (HB.out _).mono ?_; rintro e w1 ⟨rfl, hw⟩; rw [← hw]; clear hw))
    go_loopw [28] (fun i wr => ∃ j : Nat, j ≤ fs.length ∧ i = .int .i64 j ∧ Hid (EQ w n (.slice ao fs.length cap) body wr) ∧ Hid (∀ k (hk : k < fs.length), k < j → pB fs[k] = false)) (fun i _ => fs.length - (intOf i).toNat)
    case atStart => exact ⟨0, by omega, rfl, HK0, Lib.hid (fun k hk h => absurd h (Nat.not_lt_zero _))⟩
    case round =>
      obtain ⟨j, hj, rfl, HKR, HN⟩ := hrel
      by_cases hlt : j < fs.length
      · obtain ⟨ao', cap', e, hc⟩ := HRD.out.go HKR.out.1
        injection e with ea eb ec
        subst ea ec
        obtain ⟨g, off, rfl, hg, hat⟩ := hc (by omega)
        obtain ⟨k0, k1⟩ := hat j hlt
        have hj0 : (0 : Int) ≤ (j : Int) := by omega
        have hjl : (j : Int) < (fs.length : Int) := by omega
        have HF := Lib.hid (HS.out _ (List.getElem_mem hlt))
        have HKA := Lib.hid (HKR.out.go ((Below.refl wr.heap.size wr).alloc (Nat.le_refl _) (.cells #[.string fs[j].1, .string fs[j].2] 64)))
        have HO := fun W => OfFieldR_c (encF fs[j]) W (encF_sz HF.out)
        have HA := Lib.hid (fun (hp : pB fs[j] = true) => show fs.any pB = true from by rw [List.any_eq_true]; exact ⟨fs[j], List.getElem_mem hlt, hp⟩)
        have HN2 := Lib.hid (fun (hp : pB fs[j] = false) => any_take hlt HN.out hp)
        have HLW := fun W => low_r fs[j].1 W (by have := HF.out.1; omega)
        have hx : fs[j].1.size ≤ 2000000 := HF.out.1
        have hy : fs[j].2.size ≤ 2000000 := HF.out.2
        unfold encF at HO
        have HPB := Lib.hid (show pB fs[j] = (!rbB fs[j] || decide (lowL fs[j].1.data.toList = clL)) from rfl)
        unfold rbB encF at HPB
        clear hat hc HF HN
        revert k0 k1 HKA HO HA HN2 HLW hx hy HPB
        generalize pB fs[j] = pj
        generalize fs[j].1 = x
        generalize fs[j].2 = y
        intro k0 k1 HKA HO HA HN2 HLW hx hy HPB
        cases hz : ofL (x ++ ⟨#[58]⟩ ++ y).data.toList with
        | none =>
          simp only [ofV_no hz] at HO
          have HO2 := Lib.hid HO
          have HR2 : Hid (r = false) := by
            have h := HPB.out; rw [hz] at h
            have h2 : pj = true := by rw [h]; simp
            show _ = _
            rw [← HRES.out, HA.out h2]; rfl
          clear HO HA HN2 HLW HPB hz
          go_wp2_with fail
          refine (HO2.out _).mono ?_
          rintro e w2 ⟨rfl, hb2⟩
          obtain ⟨c0, c1, hl, _⟩ := in2 hb2
          have HK2 := Lib.hid (HKA.out.go hb2)
          clear hb2
          go_wp2
          go_ret
          exact ⟨by rw [HR2.out]; rfl, HK2.out.1.alloc HK2.out.1.size _⟩
        | some z =>
          simp only [ofV_yes hz] at HO
          have HO2 := Lib.hid HO
          have hE := fun W => neqRef (mkS z.1) (mkS z.2) x y W
          have hdec : decide ((mkS z.1).data.toList = x.data.toList ∧ (mkS z.2).data.toList = y.data.toList) = decide (some z = some (x.data.toList, y.data.toList)) :=
            decide_eq_decide.2 ⟨fun hh => by obtain ⟨z1, z2⟩ := z; have h1 : z1 = _ := hh.1; have h2 : z2 = _ := hh.2; rw [h1, h2], fun hh => by injection hh with hh; rw [hh]; exact ⟨rfl, rfl⟩⟩
          rw [hdec] at hE
          have hPB := HPB.out
          rw [hz] at hPB
          clear HO hz HPB hdec
          revert HO2 hE hPB
          generalize decide (some z = some (x.data.toList, y.data.toList)) = d
          generalize mkS z.1 = za
          generalize mkS z.2 = zb
          intro HO2 hE hPB
          cases d with
          | false =>
            have hE2 : ∀ W, (binOp .neq 64 (.agg #[.string za, .string zb]) (.agg #[.string x, .string y])).run Tryd.prog W = .ok (.bool true) W := hE
            have HR2 : Hid (r = false) := by
              have h2 : pj = true := by rw [hPB]; rfl
              show _ = _
              rw [← HRES.out, HA.out h2]; rfl
            clear HA HN2 HLW hPB hE
            go_wp2_with fail
            refine (HO2.out _).mono ?_
            rintro e w2 ⟨rfl, hb2⟩
            obtain ⟨c0, c1, hl, _⟩ := in2 hb2
            have hn : wr.heap.size ≠ w2.heap.size := by omega
            have HK2 := Lib.hid (HKA.out.go hb2)
            clear hb2
            go_wp2
            go_ret
            exact ⟨by rw [HR2.out]; rfl, HK2.out.1.alloc HK2.out.1.size _⟩
          | true =>
            have hE2 : ∀ W, (binOp .neq 64 (.agg #[.string za, .string zb]) (.agg #[.string x, .string y])).run Tryd.prog W = .ok (.bool false) W := hE
            clear hE
            by_cases hlw : lowL x.data.toList = clL
            · rw [hlw] at HLW
              have HLW2 : Hid (∀ W, Calls Tryd.prog 29 #[.string x] W fun e w' => e = .returned (.string ⟨#[99, 111, 110, 116, 101, 110, 116, 45, 108, 101, 110, 103, 116, 104]⟩) ∧ Below W.heap.size W w') := HLW
              have HR2 : Hid (r = false) := by
                have h2 : pj = true := by rw [hPB, hlw]; simp
                show _ = _
                rw [← HRES.out, HA.out h2]; rfl
              clear HA HN2 HLW hPB hlw
              go_wp2_with fail
              refine (HO2.out _).mono ?_
              rintro e w2 ⟨rfl, hb2⟩
              obtain ⟨c0, c1, hl, _⟩ := in2 hb2
              have hn : wr.heap.size ≠ w2.heap.size := by omega
              have HK2 := Lib.hid (HKA.out.go hb2)
              have HK3 := Lib.hid (HK2.out.go ((Below.refl w2.heap.size w2).alloc (Nat.le_refl _) (.cells #[.string za, .string zb] 64)))
              clear hb2
              go_wp2_with fail
              refine (HLW2.out _).mono ?_
              rintro e w4 ⟨rfl, hb4⟩
              have HK4 := Lib.hid (HK3.out.go hb4)
              clear hb4
              go_wp2
              go_ret
              exact ⟨by rw [HR2.out]; rfl, HK4.out.1⟩
            · have HLW2 := Lib.hid HLW
              have hne : ((mkS (lowL x.data.toList)).toList == [99, 111, 110, 116, 101, 110, 116, 45, 108, 101, 110, 103, 116, 104]) = false := by rw [Lib.toList_data, data_mkS]; exact beq_eq_false_iff_ne.2 hlw
              have HN3 : Hid (∀ k (hk : k < fs.length), k < j + 1 → pB fs[k] = false) := HN2.out (by rw [hPB, decide_eq_false hlw]; rfl)
              clear HA HN2 HLW hPB hlw
              revert HLW2 hne
              generalize mkS (lowL x.data.toList) = lw
              intro HLW2 hne
              go_wp2_with fail
              refine (HO2.out _).mono ?_
              rintro e w2 ⟨rfl, hb2⟩
              obtain ⟨c0, c1, hl, _⟩ := in2 hb2
              have hn : wr.heap.size ≠ w2.heap.size := by omega
              have HK2 := Lib.hid (HKA.out.go hb2)
              have HK3 := Lib.hid (HK2.out.go ((Below.refl w2.heap.size w2).alloc (Nat.le_refl _) (.cells #[.string za, .string zb] 64)))
              clear hb2
              go_wp2_with fail
              refine (HLW2.out _).mono ?_
              rintro e w4 ⟨rfl, hb4⟩
              have HK4 := Lib.hid (HK3.out.go hb4)
              clear hb4
              go_wp2
              go_roundw
              case rel => exact ⟨j + 1, by omega, by go_num, HK4, HN3⟩
              case measure => simp [intOf]; omega
      · have HR2 : Hid (r = true) := by
          have h : fs.any pB = false := by
            rw [List.any_eq_false]
            intro f hf
            obtain ⟨k, hk, rfl⟩ := List.mem_iff_getElem.1 hf
            rw [HN.out k hk (by omega)]; simp
          show _ = _
          rw [← HRES.out, h]; rfl
        go_wp2
        go_ret
        exact ⟨by rw [HR2.out]; rfl, HKR.out.1⟩
set_option maxRecDepth 100000 in
set_option maxHeartbeats 2000000 in
theorem RightR_c (n : Int) (v : Value) (fs : List FB) (body : ByteArray) (w : World) (hR : RdF v fs w) (hm : fs.length ≤ 1000000) (hs : ∀ f ∈ fs, smallF f) :
    Calls Tryd.prog 11 #[.agg #[.int .i64 n, v, .string body]] w fun e w' => e = .returned (.bool (rightB n fs body)) ∧ Below w.heap.size w w' := by
  have HB := Lib.hid (fun W => BareR_c n W)
  have HRD := Lib.hid hR
  obtain ⟨ao, cap, rfl, _⟩ := hR
  have HBA := Lib.hid (EQ.new w n (.slice ao fs.length cap) body).1
  by_cases h1 : n < 200
  · have e : rightB n fs body = false := by unfold rightB; rw [decide_eq_false (by omega : ¬ 200 ≤ n)]; rfl
    have e1 : decide (n < 200) = true := decide_eq_true h1
    rw [e]
    clear e
    go_enter Tryd.func11, Tryd.ntmps11
    go_wp2
    go_ret
    exact ⟨rfl, HBA.out⟩
  by_cases h2 : 599 < n
  · have e : rightB n fs body = false := by unfold rightB; rw [decide_eq_false (by omega : ¬ n ≤ 599)]; simp
    have e1 : decide (n < 200) = false := decide_eq_false h1
    have e2 : decide (599 < n) = true := decide_eq_true h2
    rw [e]
    clear e
    go_enter Tryd.func11, Tryd.ntmps11
    go_wp2
    go_ret
    exact ⟨rfl, HBA.out⟩
  have e1 : decide (n < 200) = false := decide_eq_false h1
  have e2 : decide (599 < n) = false := decide_eq_false h2
  have hn1 : decide (200 ≤ n) = true := decide_eq_true (by omega)
  have hn2 : decide (n ≤ 599) = true := decide_eq_true (by omega)
  have e : rightB n fs body = (!(barB n && !body.toList.isEmpty) && !fs.any pB) := by unfold rightB; rw [hn1, hn2]; rfl
  rw [e]
  clear e hn1 hn2
  by_cases hc : barB n = false ∨ body.toList.isEmpty = true
  · have e : (!(barB n && !body.toList.isEmpty) && !fs.any pB) = !fs.any pB := by rcases hc with h | h <;> rw [h] <;> simp
    rw [e]
    exact rtR_loop n ao cap fs body w HRD hm (Lib.hid hs) (barB n) e1 e2 HB hc _ (Lib.hid rfl)
  · have h3 : barB n = true := by cases h : barB n; exact absurd (.inl h) hc; rfl
    have h4 : body.toList.isEmpty = false := by cases h : body.toList.isEmpty; rfl; exact absurd (.inr h) hc
    rw [h3, h4]
    rw [h3] at HB
    show Calls _ _ _ _ fun e w' => e = .returned (.bool false) ∧ _
    clear hc h3 hs
    go_enter Tryd.func11, Tryd.ntmps11
    go_wp2_with (first
      | (go_at_call 19; refine (HB.out _).mono ?_; rintro e w1 ⟨rfl, hw⟩; rw [← hw]; clear hw))
    go_ret
    exact ⟨rfl, HBA.out⟩
end Go.Proofs.YtolfenachbbjdaaDoor.Rp

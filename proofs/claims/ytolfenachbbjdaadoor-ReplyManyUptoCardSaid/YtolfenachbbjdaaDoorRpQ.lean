/- The contract of the law's Same at one reply twice; how many bytes fields have that came in; a right reply's bytes, with whatever behind them, and their beginnings, are within Parse's bounds. -/
import Derived.Test.YtolfenachbbjdaaDoorRpP
namespace Go.Proofs.YtolfenachbbjdaaDoor.Rp
open Go.RowKit Ch Hd Go.ChangeShapes Go.WideShapes
set_option linter.unusedSimpArgs false
set_option linter.unusedVariables false

set_option maxRecDepth 100000 in
set_option maxHeartbeats 8000000 in
theorem Same_c (n : Int) (a1 a2 : Option Addr) (c1 c2 : Nat) (fs : List FB) (body : ByteArray) (w : World) (hA : RdF (.slice a1 fs.length c1) fs w) (hB : RdF (.slice a2 fs.length c2) fs w) (hm : fs.length ≤ 2000) (hs : Tryd.prog.stoodInHeld 64 = false) :
    Calls Tryd.prog 15 #[.agg #[.int .i64 n, .slice a1 fs.length c1, .string body], .agg #[.int .i64 n, .slice a2 fs.length c2, .string body]] w fun e w' => e = .returned (.bool true) ∧ Below w.heap.size w w' := by
  have HA := Lib.hid hA
  have HB := Lib.hid hB
  have HB0 : Hid (Below w.heap.size w ((w.alloc (.cells #[.int .i64 n, .slice a1 fs.length c1, .string body] 24)).alloc (.cells #[.int .i64 n, .slice a2 fs.length c2, .string body] 24))) := ((Below.refl _ _).alloc (Nat.le_refl _) _).alloc (by simp) _
  have HR0 : Hid (((w.alloc (.cells #[.int .i64 n, .slice a1 fs.length c1, .string body] 24)).alloc (.cells #[.int .i64 n, .slice a2 fs.length c2, .string body] 24)).heap[w.heap.size]? = some (.cells #[.int .i64 n, .slice a1 fs.length c1, .string body] 24 (0, 0))) := heap_old _ (heap_alloc_new w _)
  have HA0 := Lib.hid (HA.out.go HB0.out)
  have HC0 := Lib.hid (HB.out.go HB0.out)
  clear hA hB HA HB
  go_enter Tryd.func15, Tryd.ntmps15
  go_wp2
  generalize (w.alloc (.cells #[.int .i64 n, .slice a1 fs.length c1, .string body] 24)).alloc (.cells #[.int .i64 n, .slice a2 fs.length c2, .string body] 24) = W0 at HB0 HR0 HA0 HC0 ⊢
  go_loopw [31] (fun i wr => ∃ j : Nat, j ≤ fs.length ∧ i = .int .i64 j ∧ Below W0.heap.size W0 wr) (fun i _ => fs.length - (intOf i).toNat)
  case atStart => exact ⟨0, by omega, rfl, Below.refl _ _⟩
  case round =>
    obtain ⟨j, hj, rfl, hB⟩ := hrel
    have HB := Lib.hid hB
    have hsz := hB.size
    by_cases hlt : j < fs.length
    · obtain ⟨ao1, d1, e1, hc1⟩ := HA0.out
      injection e1 with e1a e1b e1c
      subst e1a e1c
      obtain ⟨f1, o1, rfl, hl1, hat1⟩ := hc1 (by omega)
      obtain ⟨ao2, d2, e2, hc2⟩ := HC0.out
      injection e2 with e2a e2b e2c
      subst e2a e2c
      obtain ⟨f2, o2, rfl, hl2, hat2⟩ := hc2 (by omega)
      have p0 : wr.cell? ⟨f1, o1 + j * 2, none⟩ = some (.string fs[j].1) := (hB.cell (p := ⟨f1, o1 + j * 2, none⟩) hl1).trans (hat1 j hlt).1
      have p1 : wr.cell? ⟨f1, o1 + j * 2 + 1, none⟩ = some (.string fs[j].2) := (hB.cell (p := ⟨f1, o1 + j * 2 + 1, none⟩) hl1).trans (hat1 j hlt).2
      have q0 : wr.cell? ⟨f2, o2 + j * 2, none⟩ = some (.string fs[j].1) := (hB.cell (p := ⟨f2, o2 + j * 2, none⟩) hl2).trans (hat2 j hlt).1
      have q1 : wr.cell? ⟨f2, o2 + j * 2 + 1, none⟩ = some (.string fs[j].2) := (hB.cell (p := ⟨f2, o2 + j * 2 + 1, none⟩) hl2).trans (hat2 j hlt).2
      have hk0 : w.heap.size < W0.heap.size := (Array.getElem?_eq_some_iff.1 HR0.out).1
      have k3 : wr.cell? ⟨w.heap.size, 1, none⟩ = some (.slice (some ⟨f1, o1, none⟩) fs.length c1) := (hB.cell (p := ⟨w.heap.size, 1, none⟩) hk0).trans (cell_of_row _ _ 1 _ _ _ HR0.out)
      have hn1 : f1 < wr.heap.size := by omega
      have hm1 : f1 ≠ wr.heap.size := by omega
      have hn2 : w.heap.size < wr.heap.size := by omega
      have hm2 : w.heap.size ≠ wr.heap.size := by omega
      have hj0 : (0 : Int) ≤ (j : Int) := by omega
      have hjl : (j : Int) < (fs.length : Int) := by omega
      clear hat1 hat2 hB hc1 hc2
      revert p0 p1 q0 q1
      generalize fs[j].1 = ya
      generalize fs[j].2 = yb
      intro p0 p1 q0 q1
      have HB1 : Hid (Below W0.heap.size W0 (wr.alloc (.cells #[.string ya, .string yb] 64))) := HB.out.alloc hsz _
      go_wp2_with fail
      go_quiet (fail)
      go_wp2
      go_roundw
      case rel => exact ⟨j + 1, by omega, by go_num, ⟨HB1.out.os, HB1.out.tape, HB1.out.output, HB1.out.size, HB1.out.block⟩⟩
      case measure => simp [intOf]; omega
    · have HBE := Lib.hid (HB0.out.trans (hB.mono HB0.out.size))
      clear hB
      go_wp2
      go_ret
      exact ⟨rfl, HBE.out⟩
theorem bulk_sum {H : Type} {g : Nat → DataW H} {q : Nat → FB} : ∀ (L : List Nat), (∀ i ∈ L, (q i).1.size + (q i).2.size + 3 ≤ Rows.uptoBulk (g i)) → 3 * ((L.map q).flatMap fldB).length ≤ 4 * Rows.uptoBulkAll (L.map g)
  | [], _ => by simp
  | x :: r, h => by
    have ih := bulk_sum r (fun i hi => h i (List.mem_cons_of_mem _ hi))
    have hx := h x (List.mem_cons_self ..)
    have hl := fld_len (q x)
    rw [List.map_cons, List.map_cons, List.flatMap_cons, List.length_append]
    simp only [Rows.uptoBulkAll]
    omega
/-- a slice of fields that came in, and how many bytes they have -/
theorem flds_of2 {H : Type} {enc : TypeId × Value → H} {W : World} {v : Value} {n : Nat} {x : DataW H × List MemPlace} (h : DataW.trod enc Tryd.prog W 0 (fun _ => true) true n 22 [v] = some x) :
    ∃ (ao : Option Addr) (cap : Nat) (fs : List FB), v = .slice ao fs.length cap ∧ RdF v fs W ∧ fs.length ≤ cap ∧ cap ≤ maxLen ∧ 3 * (fs.flatMap fldB).length ≤ 4 * Rows.uptoBulk x.1 := by
  rcases Deep.open_slice_pairs Tryd.underlying22 Tryd.underlying64 (by kernel_rfl) rfl rfl (by kernel_rfl) (by kernel_rfl) h with ⟨hcs, _⟩ | ⟨a, len, cap, m, k, V0, V1, D0, D1, P0, P1, hcs, hb, hl, hm, hmm, hx, hat⟩
  · obtain rfl : v = .slice none 0 0 := by simpa using hcs
    exact ⟨none, 0, [], rfl, RdF.nil W, Nat.le_refl _, by unfold maxLen; omega, by simp⟩
  · obtain rfl : v = .slice (some a) len cap := by simpa using hcs
    have hlm : len ≤ m := by rw [hmm]; simp; exact hl
    have each : ∀ i, i < len → ∃ t : FB, W.cell? (a.add (i * 2)) = some (.string t.1) ∧ W.cell? (a.add (i * 2 + 1)) = some (.string t.2) ∧ t.1.size + t.2.size + 3 ≤ Rows.uptoBulk (.agg [D0 i, D1 i]) := by
      intro i hi
      obtain ⟨h0, h1, h2, h3⟩ := hat i (by omega)
      obtain ⟨s0, e0, q0, hs0⟩ := DataW.trod_string Tryd.underlying9 h2
      obtain ⟨s1, e1, q1, hs1⟩ := DataW.trod_string Tryd.underlying9 h3
      have e0' : V0 i = .string s0 := by simpa using e0
      have e1' : V1 i = .string s1 := by simpa using e1
      refine ⟨(s0, s1), by rw [h0, e0'], by rw [h1, e1'], ?_⟩
      have d0 : D0 i = .lit (.string s0.data.toList) := by simpa using congrArg Prod.fst q0
      have d1 : D1 i = .lit (.string s1.data.toList) := by simpa using congrArg Prod.fst q1
      have ez0 := Lib.size_eq s0
      have ez1 := Lib.size_eq s1
      simp only [Rows.uptoBulk, Rows.uptoBulkAll, d0, d1]
      show s0.size + s1.size + 3 ≤ _
      omega
    obtain ⟨q, hq⟩ := Deep.choose_lt each
    have hlen : ((List.range len).map q).length = len := by simp
    refine ⟨some a, cap, (List.range len).map q, by rw [hlen], ⟨some a, cap, by rw [hlen], fun hne => ?_⟩, by rw [hlen]; exact hl, hm, ?_⟩
    · rw [hlen] at hne
      obtain ⟨b, off, spot⟩ := a
      have hc := (hq 0 hne).1
      have hspot : spot = none := by simpa [Addr.add] using World.cell?_spot hc
      subst hspot
      refine ⟨b, off, rfl, ?_, fun i hi => ?_⟩
      · have := World.block_lt_of_cell? W _ hc
        simpa [Addr.add] using this
      · have hi' : i < len := by simpa using hi
        obtain ⟨h0, h1, _⟩ := hq i hi'
        have e : ∀ j, (⟨b, off, none⟩ : Addr).add j = ⟨b, off + j, none⟩ := fun j => by unfold Addr.add; split <;> simp_all
        rw [e] at h0 h1
        simp only [List.getElem_map, List.getElem_range]
        exact ⟨h0, by rw [Nat.add_assoc]; exact h1⟩
    · have hs := bulk_sum (g := fun i => DataW.agg [D0 i, D1 i]) (q := q) (List.range len) (fun i hi => (hq i (List.mem_range.1 hi)).2.2)
      rw [hx]
      simp only [Rows.uptoBulk]
      omega
theorem encL_len (n : Int) (hn0 : -9223372036854775808 ≤ n) (hn1 : n ≤ 9223372036854775807) (fs : List FB) (body : ByteArray) (hb : body.size ≤ 200) : (encL n fs body).length ≤ (fs.flatMap fldB).length + 1000 ∧ (encL n fs body).length ≠ 0 := by
  have h1 := Lib.itoa_length_le n hn0 hn1
  have h2 := rsn_sz n
  rw [size_mkS] at h2
  have h3 := Lib.itoa_length_le (body.size : Int) (by omega) (by omega)
  have h4 := Lib.size_eq body
  unfold encL topL tailL
  simp only [List.length_append, List.length_cons, List.length_nil]
  cases barB n with
  | true => simp; omega
  | false =>
    have h5 := fld_len (⟨#[67, 111, 110, 116, 101, 110, 116, 45, 76, 101, 110, 103, 116, 104]⟩, mkS (Lib.itoa (body.size : Int)))
    rw [size_mkS] at h5
    have h6 : (ByteArray.mk #[67, 111, 110, 116, 101, 110, 116, 45, 76, 101, 110, 103, 116, 104]).size = 14 := rfl
    simp only at h5
    simp only [if_neg (show ¬ (false = true) by decide)]
    omega
/-- texts whose head is a right reply's are within bounds -/
theorem paOk_lines {n : Int} {fs : List FB} {body : ByteArray} (h : rightB n fs body = true) (hb : body.size ≤ 2000000) (hf : fs.length ≤ 2000) (hfl : (fs.flatMap fldB).length ≤ 40000000) (s : ByteArray) (t : List UInt8) (hs : s.size ≤ 1500000)
    (hc : (Lib.cut s.data.toList endE).2.2 = true → Lib.cut s.data.toList endE = (joinL (linesL n fs body.size), t, true)) : PaOk s := by
  obtain ⟨⟨k, rfl, hk⟩, hpB, hrb, hbar⟩ := right_parts h
  have hne : linesL (k : Int) fs body.size ≠ [] := by simp [linesL]
  have hok := lines_ok (k := k) (m := body.size) hrb
  refine ⟨hs, fun ht => ?_⟩
  have hc := hc ht
  have hsp : spl (topB s) = (linesL (k : Int) fs body.size).map mkS := by unfold topB; rw [hc]; exact spl_join hne (fun y hy => (hok y hy).1)
  obtain ⟨x, hx, _, hz⟩ := len_last (k := k) (m := body.size) hpB (by omega) 0
  rw [hsp]
  refine ⟨?_, ?_, (ol_lines hrb (by omega) body).2, fun m y hy => ?_⟩
  · rw [List.length_map]
    unfold linesL
    rw [List.length_cons, List.length_append, List.length_map]
    split
    · simp; omega
    · simp; omega
  · rw [last_map hx, data_mkS]; exact hz
  · rw [(ol_lines hrb (by omega) _).1] at hy
    injection hy with hy
    rw [← hy]; exact hfl
theorem paOk_back {n : Int} {fs : List FB} {body : ByteArray} (h : rightB n fs body = true) (hb : body.size ≤ 2000000) (hf : fs.length ≤ 2000) (hfl : (fs.flatMap fldB).length ≤ 40000000) (s : ByteArray) (more : List UInt8) (hs : s.data.toList = encL n fs body ++ more) (hsz : s.size ≤ 1500000) : PaOk s := by
  refine paOk_lines h hb hf hfl s (body.data.toList ++ more) hsz fun _ => ?_
  obtain ⟨⟨k, rfl, hk⟩, hpB, hrb, hbar⟩ := right_parts h
  rw [hs, enc_lines, List.append_assoc, List.append_assoc, cut4 (by simp [linesL]) (lines_ok hrb)]
theorem paOk_more {n : Int} {fs : List FB} {body : ByteArray} (h : rightB n fs body = true) (hb : body.size ≤ 2000000) (hf : fs.length ≤ 2000) (hfl : (fs.flatMap fldB).length ≤ 40000000) (s : ByteArray) {j : Nat} (hs : s.data.toList = (encL n fs body).take j) (hsz : s.size ≤ 1500000) : PaOk s := by
  refine paOk_lines h hb hf hfl s (body.data.toList.take (j - ((joinL (linesL n fs body.size)).length + 4))) hsz fun ht => ?_
  obtain ⟨⟨k, rfl, hk⟩, hpB, hrb, hbar⟩ := right_parts h
  have hne : linesL (k : Int) fs body.size ≠ [] := by simp [linesL]
  have hok := lines_ok (k := k) (m := body.size) hrb
  rw [enc_lines] at hs
  rcases Nat.lt_or_ge j ((joinL (linesL (k : Int) fs body.size)).length + 4) with g | g
  · rw [hs, cut4_none hne hok _ g] at ht; cases ht
  · obtain ⟨i, rfl⟩ : ∃ i, j = (joinL (linesL (k : Int) fs body.size)).length + (4 + i) := ⟨j - ((joinL (linesL (k : Int) fs body.size)).length + 4), by omega⟩
    have e4 : endE.length = 4 := rfl
    have hs2 : s.data.toList = joinL (linesL (k : Int) fs body.size) ++ (endE ++ body.data.toList.take i) := by
      rw [hs, List.take_append, List.take_of_length_le (by omega), Nat.add_sub_cancel_left, List.take_append, List.take_of_length_le (by omega), e4, Nat.add_sub_cancel_left]
    rw [hs2, cut4 hne hok]
    have e5 : (joinL (linesL (k : Int) fs body.size)).length + (4 + i) - ((joinL (linesL (k : Int) fs body.size)).length + 4) = i := by omega
    rw [e5]
end Go.Proofs.YtolfenachbbjdaaDoor.Rp

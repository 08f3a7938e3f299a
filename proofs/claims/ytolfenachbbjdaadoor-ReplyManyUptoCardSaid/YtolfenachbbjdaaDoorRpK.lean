/- Contracts of the library's Cut, Split and CutPrefix at package reply's texts, of package reply's length, and of the document's Empty; for texts of at most a thousand bytes, where the library's variable MaxLen holds a number. -/
import Derived.Test.YtolfenachbbjdaaDoorRpI
import Derived.Test.YtolfenachbbjdaaDoorRpJ
namespace Go.Proofs.YtolfenachbbjdaaDoor.Rp
open Go.RowKit Ch Hd
set_option linter.unusedSimpArgs false
set_option linter.unusedVariables false

def endE : List UInt8 := [13, 10, 13, 10]
theorem cut4_c (s : ByteArray) (w : World) (hs : s.size ≤ 5000000) (hM : Mx w) : Calls Tryd.prog 31 #[.string s, .string ⟨#[13, 10, 13, 10]⟩] w fun e w' => e = .returned (.tuple #[.string (mkS (Lib.cut s.data.toList endE).1), .string (mkS (Lib.cut s.data.toList endE).2.1), .bool (Lib.cut s.data.toList endE).2.2]) ∧ ∃ n, w' = w.drewN n := by
  obtain ⟨m, hm⟩ := hM
  exact Any.strings_Cut Tryd.lays145 s ⟨#[13, 10, 13, 10]⟩ m w (by omega) hm
theorem info9' : (Tryd.prog.info? 9).map (fun i => (i.zero, i.size, i.bytes)) = some (some (.string ByteArray.empty), 1, 16) := by kernel_rfl
/-- lines that can be read -/
def LnS (g o : Nat) (ps : List ByteArray) (w : World) : Prop := g < w.heap.size ∧ ∀ i (hi : i < ps.length), w.cell? ⟨g, o + i, none⟩ = some (.string ps[i])
theorem LnS.go {g o : Nat} {ps : List ByteArray} {w W : World} (h : LnS g o ps w) (hb : Below w.heap.size w W) : LnS g o ps W := ⟨Nat.lt_of_lt_of_le h.1 hb.size, fun i hi => (hb.cell (p := ⟨g, o + i, none⟩) h.1).trans (h.2 i hi)⟩
/-- the lines of a text -/
def spl (s : ByteArray) : List ByteArray := Lib.splitB ⟨#[13, 10]⟩ 0 (Lib.countB s ⟨#[13, 10]⟩) s
theorem splB_sz : ∀ (k : Nat) (s : ByteArray), ∀ p ∈ Lib.splitB ⟨#[13, 10]⟩ 0 k s, p.size ≤ s.size
  | 0, s, p, h => by
    rw [Lib.splitB_zero] at h
    obtain rfl : p = s := by simpa using h
    exact Nat.le_refl _
  | k + 1, s, p, h => by
    rcases Lib.indexB_cases s ⟨#[13, 10]⟩ with hx | ⟨i, hi, _⟩
    · rw [Lib.splitB_miss _ _ _ _ hx] at h
      obtain rfl : p = s := by simpa using h
      exact Nat.le_refl _
    · rw [Lib.splitB_hit _ _ _ _ i hi] at h
      rcases List.mem_cons.1 h with rfl | h
      · rw [ByteArray.size_extract]; omega
      · have := splB_sz k _ p h
        rw [ByteArray.size_extract] at this
        omega
theorem spl_sz (s : ByteArray) : ∀ p ∈ spl s, p.size ≤ s.size := splB_sz _ s
theorem spl_len (s : ByteArray) : 1 ≤ (spl s).length ∧ (spl s).length ≤ s.size + 1 := by
  have h1 : 1 ≤ (ByteArray.mk #[13, 10]).size := by show 1 ≤ 2; omega
  have hlen : (spl s).length = _ := Lib.splitB_all ⟨#[13, 10]⟩ h1 0 _ s rfl
  have := Lib.countB_le ⟨#[13, 10]⟩ h1 s.size s (Nat.le_refl _)
  omega
theorem split_c (s : ByteArray) (w : World) (hs : s.size ≤ 5000000) (hM : Mx w) : Calls Tryd.prog 32 #[.string s, .string ⟨#[13, 10]⟩] w fun e w' => e = .returned (.slice (some ⟨w.heap.size, 0, none⟩) (spl s).length (spl s).length) ∧ LnS w.heap.size 0 (spl s) w' ∧ Below w.heap.size w w' := by
  obtain ⟨m, hm⟩ := hM
  have h1 : 1 ≤ (ByteArray.mk #[13, 10]).size := by show 1 ≤ 2; omega
  have hlen : (spl s).length = Lib.countB s ⟨#[13, 10]⟩ + 1 := Lib.splitB_all ⟨#[13, 10]⟩ h1 0 _ s rfl
  have c := Any.strings_Split Tryd.lays146 info9' s ⟨#[13, 10]⟩ m w (by omega) hm h1
  rw [← hlen] at c
  refine c.mono ?_
  rintro e w' ⟨he, hw⟩
  refine ⟨he, ?_, ?_⟩
  · rw [hw]
    refine ⟨by rw [World.size_alloc]; exact Nat.lt_succ_self _, fun i hi => ?_⟩
    rw [Nat.zero_add, cell_of_row _ _ i _ _ _ (heap_alloc_new w _)]
    show (((spl s).map Value.string).toArray)[i]? = _
    rw [List.getElem?_toArray, List.getElem?_map, List.getElem?_eq_getElem hi]; rfl
  · rw [hw]; exact (Below.refl _ _).alloc (Nat.le_refl _) _
theorem cutp_c (s p : ByteArray) (w : World) : Calls Tryd.prog 49 #[.string s, .string p] w fun e w' => e = .returned (.tuple #[.string (mkS (Lib.trimPrefix s.data.toList p.data.toList)), .bool (Lib.hasPrefix s.data.toList p.data.toList)]) ∧ w' = w := Any.strings_CutPrefix Tryd.lays103 s p w
theorem hasp_c (s p : ByteArray) (w : World) : Calls Tryd.prog 35 #[.string s, .string p] w fun e w' => e = .returned (.bool (Lib.hasPrefix s.data.toList p.data.toList)) ∧ w' = w := Any.strings_HasPrefix Tryd.lays99 s p w
theorem trim_len (l : List UInt8) : (trimL l).length ≤ l.length := by
  unfold trimL
  rw [List.length_reverse]
  have h1 := (List.dropWhile_sublist spU (l := (l.dropWhile spU).reverse)).length_le
  have h2 := (List.dropWhile_sublist spU (l := l)).length_le
  rw [List.length_reverse] at h1
  omega
theorem of_len {l : List UInt8} {z : List UInt8 × List UInt8} (h : ofL l = some z) : z.1.length ≤ l.length ∧ z.2.length ≤ l.length := by
  unfold ofL at h
  split at h
  · injection h with h
    obtain ⟨h1, h2⟩ := cutP_len 58 l
    have h3 := trim_len (cutP 58 l).2
    rw [← h]
    exact ⟨h1, by show (trimL _).length ≤ _; omega⟩
  · cases h
def rN (l : List UInt8) : Int := Nu.rdN 10 2147483647 l
def rE (l : List UInt8) : Int := Nu.rdE 10 2147483647 l
/-- how long a body is by a line -/
def lenL (l : List UInt8) (come : Int) : Option Int := match ofL l with
  | none => some 0
  | some z => if lowL z.1 = clL then (if rE z.2 = 5 ∨ come < rN z.2 then none else some (rN z.2)) else some 0
def lenV (q : Option Int) : Ending := match q with
  | none => .returned (.tuple #[.int .i64 0, .bool false])
  | some n => .returned (.tuple #[.int .i64 n, .bool true])
set_option maxRecDepth 100000 in
set_option maxHeartbeats 2000000 in
theorem len_a (s : ByteArray) (come : Int) (w : World) (HO : Hid (∀ W, Calls Tryd.prog 47 #[.string s] W fun e w' => e = .returned (.tuple #[.agg #[.string ⟨#[]⟩, .string ⟨#[]⟩], .bool false]) ∧ Below W.heap.size W w')) :
    Calls Tryd.prog 33 #[.string s, .int .i64 come] w fun e w' => e = .returned (.tuple #[.int .i64 0, .bool true]) ∧ Below w.heap.size w w' := by
  go_enter Tryd.func33, Tryd.ntmps33
  go_wp2_with fail
  refine (HO.out _).mono ?_
  rintro e w1 ⟨rfl, hb1⟩
  have HB := Lib.hid (hb1.alloc hb1.size (.cells #[.string ⟨#[]⟩, .string ⟨#[]⟩] 61))
  clear hb1
  go_wp2
  go_ret2
  exact ⟨rfl, HB.out⟩
set_option maxRecDepth 100000 in
set_option maxHeartbeats 2000000 in
theorem len_b (s a b : ByteArray) (come : Int) (w : World) (HO : Hid (∀ W, Calls Tryd.prog 47 #[.string s] W fun e w' => e = .returned (.tuple #[.agg #[.string a, .string b], .bool true]) ∧ Below W.heap.size W w'))
    (HS : Hid (∀ W, Calls Tryd.prog 39 #[.string a, .string ⟨#[67, 111, 110, 116, 101, 110, 116, 45, 76, 101, 110, 103, 116, 104]⟩] W fun e w' => e = .returned (.bool false) ∧ Below W.heap.size W w')) :
    Calls Tryd.prog 33 #[.string s, .int .i64 come] w fun e w' => e = .returned (.tuple #[.int .i64 0, .bool true]) ∧ Below w.heap.size w w' := by
  go_enter Tryd.func33, Tryd.ntmps33
  go_wp2_with fail
  refine (HO.out _).mono ?_
  rintro e w1 ⟨rfl, hb1⟩
  have HB := Lib.hid (hb1.alloc hb1.size (.cells #[.string a, .string b] 61))
  clear hb1
  go_wp2_with fail
  refine (HS.out _).mono ?_
  rintro e w2 ⟨rfl, hb2⟩
  have HB2 := Lib.hid (HB.out.trans (hb2.mono HB.out.size))
  clear hb2
  go_wp2
  go_ret2
  exact ⟨rfl, HB2.out⟩
set_option maxRecDepth 100000 in
set_option maxHeartbeats 2000000 in
theorem len_d (s a b : ByteArray) (come n e0 : Int) (w : World) (HO : Hid (∀ W, Calls Tryd.prog 47 #[.string s] W fun e w' => e = .returned (.tuple #[.agg #[.string a, .string b], .bool true]) ∧ Below W.heap.size W w'))
    (HS : Hid (∀ W, Calls Tryd.prog 39 #[.string a, .string ⟨#[67, 111, 110, 116, 101, 110, 116, 45, 76, 101, 110, 103, 116, 104]⟩] W fun e w' => e = .returned (.bool true) ∧ Below W.heap.size W w'))
    (HZ : Hid (∀ W, Calls Tryd.prog 48 #[.string b] W fun e w' => e = .returned (.tuple #[.int .i64 n, .int .i64 e0]) ∧ W = w')) :
    Calls Tryd.prog 33 #[.string s, .int .i64 come] w fun e w' => e = (if e0 = 5 ∨ come < n then .returned (.tuple #[.int .i64 0, .bool false]) else .returned (.tuple #[.int .i64 n, .bool true])) ∧ Below w.heap.size w w' := by
  by_cases h5 : e0 = 5
  · have e1 : (e0 == 5) = true := beq_iff_eq.2 h5
    rw [if_pos (.inl h5)]
    clear h5
    go_enter Tryd.func33, Tryd.ntmps33
    go_wp2_with fail
    refine (HO.out _).mono ?_
    rintro e w1 ⟨rfl, hb1⟩
    have HB := Lib.hid hb1
    clear hb1
    go_wp2_with fail
    refine (HS.out _).mono ?_
    rintro e w2 ⟨rfl, hb2⟩
    obtain ⟨c0, c1, hl, hB⟩ := in2 hb2
    have HB2 := Lib.hid (HB.out.trans (hB.mono HB.out.size))
    clear hb2 hB
    go_wp2_with fail
    refine (HZ.out _).mono ?_
    rintro e w3 ⟨rfl, hw⟩
    rw [← hw]; clear hw
    go_wp2
    go_ret2
    exact ⟨rfl, HB2.out⟩
  · have e1 : (e0 == 5) = false := beq_eq_false_iff_ne.2 h5
    by_cases hc : come < n
    · have e2 : decide (come < n) = true := decide_eq_true hc
      rw [if_pos (.inr hc)]
      clear h5 hc
      go_enter Tryd.func33, Tryd.ntmps33
      go_wp2_with fail
      refine (HO.out _).mono ?_
      rintro e w1 ⟨rfl, hb1⟩
      have HB := Lib.hid hb1
      clear hb1
      go_wp2_with fail
      refine (HS.out _).mono ?_
      rintro e w2 ⟨rfl, hb2⟩
      obtain ⟨c0, c1, hl, hB⟩ := in2 hb2
      have HB2 := Lib.hid (HB.out.trans (hB.mono HB.out.size))
      clear hb2 hB
      go_wp2_with fail
      refine (HZ.out _).mono ?_
      rintro e w3 ⟨rfl, hw⟩
      rw [← hw]; clear hw
      go_wp2
      go_ret2
      exact ⟨rfl, HB2.out⟩
    · have e2 : decide (come < n) = false := decide_eq_false hc
      rw [if_neg (fun h => by rcases h with h | h; exact h5 h; exact hc h)]
      clear h5 hc
      go_enter Tryd.func33, Tryd.ntmps33
      go_wp2_with fail
      refine (HO.out _).mono ?_
      rintro e w1 ⟨rfl, hb1⟩
      have HB := Lib.hid hb1
      clear hb1
      go_wp2_with fail
      refine (HS.out _).mono ?_
      rintro e w2 ⟨rfl, hb2⟩
      obtain ⟨c0, c1, hl, hB⟩ := in2 hb2
      have HB2 := Lib.hid (HB.out.trans (hB.mono HB.out.size))
      clear hb2 hB
      go_wp2_with fail
      refine (HZ.out _).mono ?_
      rintro e w3 ⟨rfl, hw⟩
      rw [← hw]; clear hw
      go_wp2
      go_ret2
      exact ⟨rfl, HB2.out⟩
theorem len_c (s : ByteArray) (come : Int) (w : World) (hs : s.size ≤ 5000000) (hd : ∀ z, ofL s.data.toList = some z → lowL z.1 = clL → z.2.length ≤ 1000) : Calls Tryd.prog 33 #[.string s, .int .i64 come] w fun e w' => e = lenV (lenL s.data.toList come) ∧ Below w.heap.size w w' := by
  have HO := fun W => OfField_c s W hs
  unfold lenL
  cases hz : ofL s.data.toList with
  | none =>
    simp only [ofV_no hz] at HO
    exact len_a s come w (Lib.hid HO)
  | some z =>
    simp only [ofV_yes hz] at HO
    have hl := of_len hz
    have e1 : (mkS z.1).size ≤ 5000000 := by rw [size_mkS]; have := Lib.size_eq s; omega
    have HS := fun W => same_c (mkS z.1) ⟨#[67, 111, 110, 116, 101, 110, 116, 45, 76, 101, 110, 103, 116, 104]⟩ W e1 (by show (14 : Nat) ≤ _; omega)
    have ed : decide (lowL (mkS z.1).data.toList = lowL (ByteArray.mk #[67, 111, 110, 116, 101, 110, 116, 45, 76, 101, 110, 103, 116, 104]).data.toList) = decide (lowL z.1 = clL) := by
      show decide (lowL z.1 = lowL [67, 111, 110, 116, 101, 110, 116, 45, 76, 101, 110, 103, 116, 104]) = _
      rw [cl_low]
    simp only [ed] at HS
    simp only
    by_cases hn : lowL z.1 = clL
    · rw [if_pos hn]
      simp only [decide_eq_true hn] at HS
      have e2 : (mkS z.2).size ≤ 1000 := by rw [size_mkS]; exact hd z hz hn
      have H := len_d s (mkS z.1) (mkS z.2) come (rN z.2) (rE z.2) w (Lib.hid HO) (Lib.hid HS) (Lib.hid (fun W => Nu.size_c (mkS z.2) W e2))
      refine H.mono fun e w' hh => ⟨?_, hh.2⟩
      rw [hh.1]
      by_cases hc : rE z.2 = 5 ∨ come < rN z.2
      · rw [if_pos hc, if_pos hc]; rfl
      · rw [if_neg hc, if_neg hc]; rfl
    · rw [if_neg hn]
      simp only [decide_eq_false hn] at HS
      exact len_b s (mkS z.1) (mkS z.2) come w (Lib.hid HO) (Lib.hid HS)
end Go.Proofs.YtolfenachbbjdaaDoor.Rp

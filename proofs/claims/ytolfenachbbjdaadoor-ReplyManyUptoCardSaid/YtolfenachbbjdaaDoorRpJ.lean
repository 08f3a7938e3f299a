/- The contract of the law's own small function cut; what the walks are told of a slice of fields that came in. -/
import Derived.Test.YtolfenachbbjdaaDoorRpH
import Derived.Deep.SlicePairs
import Derived.ShutString
import Derived.ChangeOld
namespace Go.Proofs.YtolfenachbbjdaaDoor.Rp
open Go.RowKit Ch Hd Go.ChangeShapes Go.WideShapes
set_option linter.unusedSimpArgs false
set_option linter.unusedVariables false

theorem RdF.take {ao : Option Addr} {cap : Nat} {fs : List FB} {w : World} (h : RdF (.slice ao fs.length cap) fs w) (hl : 6 < fs.length) : ∃ g off, ao = some ⟨g, off, none⟩ ∧ RdF (.slice (some ⟨g, off, none⟩) 6 cap) (fs.take 6) w := by
  obtain ⟨ao', cap', e, hc⟩ := h
  injection e with ea eb ec
  subst ea ec
  obtain ⟨g, off, rfl, hg, hat⟩ := hc (by omega)
  have e6 : (fs.take 6).length = 6 := by rw [List.length_take]; omega
  refine ⟨g, off, rfl, _, cap, by rw [e6], fun _ => ⟨g, off, rfl, hg, fun i hi => ?_⟩⟩
  have h2 := hat i (by omega)
  rw [List.getElem_take]
  exact h2
theorem ext200 (s : ByteArray) : s.extract 0 200 = mkS (s.data.toList.take 200) := mkS_of (by rw [Lib.extract_data]; simp)
set_option maxRecDepth 100000 in
set_option maxHeartbeats 2000000 in
theorem cut_ss (n : Int) (ao : Option Addr) (m cap : Nat) (body : ByteArray) (w : World) (hm : cap ≤ 9223372036854775807) (hb : body.size ≤ 9223372036854775807) (h6 : ¬ 6 < m) (h2 : ¬ 200 < body.size) :
    Calls Tryd.prog 8 #[.agg #[.int .i64 n, (.slice ao m cap), .string body]] w fun e w' => e = .returned (.agg #[.int .i64 n, (.slice ao m cap), .string body]) ∧ Below w.heap.size w w' := by
  have hz : ∀ o, (w.alloc o).heap.size = w.heap.size + 1 := fun o => by simp
  have hb0 := (Below.refl w.heap.size w).alloc (Nat.le_refl _) (.cells #[.int .i64 n, (.slice ao m cap), .string body] 24)
  have HB : Hid (Below w.heap.size w ((w.alloc (.cells #[.int .i64 n, (.slice ao m cap), .string body] 24)).alloc (.cells #[.int .i64 n, (.slice ao m cap), .string body] 24))) := hb0.alloc hb0.size _
  have hk := heap_alloc_new (w.alloc (.cells #[.int .i64 n, (.slice ao m cap), .string body] 24)) (.cells #[.int .i64 n, (.slice ao m cap), .string body] 24)
  rw [hz] at hk
  have HD := Lib.hid (cells3 hk)
  have e6 : (m : Int) ≤ 6 := by omega
  have e2 : (body.size : Int) ≤ 200 := by omega
  clear hk hb0
  go_enter Tryd.func8, Tryd.ntmps8
  go_wp2
  obtain ⟨d0, d1, d2⟩ := HD.out
  (with_reducible refine bodyPost_ret (v := .agg #[.int .i64 n, (.slice ao m cap), .string body]) (by simp [results, Tryd.results8, go_sem, d0, d1, d2]) rfl ⟨rfl, HB.out⟩)
set_option maxRecDepth 100000 in
set_option maxHeartbeats 2000000 in
theorem cut_sl (n : Int) (ao : Option Addr) (m cap : Nat) (body : ByteArray) (w : World) (hm : cap ≤ 9223372036854775807) (hb : body.size ≤ 9223372036854775807) (h6 : ¬ 6 < m) (h2 : 200 < body.size) :
    Calls Tryd.prog 8 #[.agg #[.int .i64 n, (.slice ao m cap), .string body]] w fun e w' => e = .returned (.agg #[.int .i64 n, (.slice ao m cap), .string (body.extract 0 200)]) ∧ Below w.heap.size w w' := by
  have hz : ∀ o, (w.alloc o).heap.size = w.heap.size + 1 := fun o => by simp
  have hb0 := (Below.refl w.heap.size w).alloc (Nat.le_refl _) (.cells #[.int .i64 n, (.slice ao m cap), .string (body.extract 0 200)] 24)
  have HB : Hid (Below w.heap.size w ((w.alloc (.cells #[.int .i64 n, (.slice ao m cap), .string (body.extract 0 200)] 24)).alloc (.cells #[.int .i64 n, (.slice ao m cap), .string (body.extract 0 200)] 24))) := hb0.alloc hb0.size _
  have hk := heap_alloc_new (w.alloc (.cells #[.int .i64 n, (.slice ao m cap), .string (body.extract 0 200)] 24)) (.cells #[.int .i64 n, (.slice ao m cap), .string (body.extract 0 200)] 24)
  rw [hz] at hk
  have HD := Lib.hid (cells3 hk)
  have e6 : (m : Int) ≤ 6 := by omega
  have e2 : (200 : Int) < (body.size : Int) := by omega
  clear hk hb0
  go_enter Tryd.func8, Tryd.ntmps8
  go_wp2
  obtain ⟨d0, d1, d2⟩ := HD.out
  (with_reducible refine bodyPost_ret (v := .agg #[.int .i64 n, (.slice ao m cap), .string (body.extract 0 200)]) (by simp [results, Tryd.results8, go_sem, d0, d1, d2]) rfl ⟨rfl, HB.out⟩)
set_option maxRecDepth 100000 in
set_option maxHeartbeats 2000000 in
theorem cut_ls (n : Int) (g off : Nat) (m cap : Nat) (body : ByteArray) (w : World) (hm : cap ≤ 9223372036854775807) (hb : body.size ≤ 9223372036854775807) (h6 : 6 < m) (hc : m ≤ cap) (h2 : ¬ 200 < body.size) :
    Calls Tryd.prog 8 #[.agg #[.int .i64 n, (.slice (some ⟨g, off, none⟩) m cap), .string body]] w fun e w' => e = .returned (.agg #[.int .i64 n, (.slice (some ⟨g, off, none⟩) 6 cap), .string body]) ∧ Below w.heap.size w w' := by
  have hz : ∀ o, (w.alloc o).heap.size = w.heap.size + 1 := fun o => by simp
  have hb0 := (Below.refl w.heap.size w).alloc (Nat.le_refl _) (.cells #[.int .i64 n, (.slice (some ⟨g, off, none⟩) 6 cap), .string body] 24)
  have HB : Hid (Below w.heap.size w ((w.alloc (.cells #[.int .i64 n, (.slice (some ⟨g, off, none⟩) 6 cap), .string body] 24)).alloc (.cells #[.int .i64 n, (.slice (some ⟨g, off, none⟩) 6 cap), .string body] 24))) := hb0.alloc hb0.size _
  have hk := heap_alloc_new (w.alloc (.cells #[.int .i64 n, (.slice (some ⟨g, off, none⟩) 6 cap), .string body] 24)) (.cells #[.int .i64 n, (.slice (some ⟨g, off, none⟩) 6 cap), .string body] 24)
  rw [hz] at hk
  have HD := Lib.hid (cells3 hk)
  have e6 : (6 : Int) < (m : Int) := by omega
  have e2 : (body.size : Int) ≤ 200 := by omega
  clear hk hb0
  go_enter Tryd.func8, Tryd.ntmps8
  go_wp2
  obtain ⟨d0, d1, d2⟩ := HD.out
  (with_reducible refine bodyPost_ret (v := .agg #[.int .i64 n, (.slice (some ⟨g, off, none⟩) 6 cap), .string body]) (by simp [results, Tryd.results8, go_sem, d0, d1, d2]) rfl ⟨rfl, HB.out⟩)
set_option maxRecDepth 100000 in
set_option maxHeartbeats 2000000 in
theorem cut_ll (n : Int) (g off : Nat) (m cap : Nat) (body : ByteArray) (w : World) (hm : cap ≤ 9223372036854775807) (hb : body.size ≤ 9223372036854775807) (h6 : 6 < m) (hc : m ≤ cap) (h2 : 200 < body.size) :
    Calls Tryd.prog 8 #[.agg #[.int .i64 n, (.slice (some ⟨g, off, none⟩) m cap), .string body]] w fun e w' => e = .returned (.agg #[.int .i64 n, (.slice (some ⟨g, off, none⟩) 6 cap), .string (body.extract 0 200)]) ∧ Below w.heap.size w w' := by
  have hz : ∀ o, (w.alloc o).heap.size = w.heap.size + 1 := fun o => by simp
  have hb0 := (Below.refl w.heap.size w).alloc (Nat.le_refl _) (.cells #[.int .i64 n, (.slice (some ⟨g, off, none⟩) 6 cap), .string (body.extract 0 200)] 24)
  have HB : Hid (Below w.heap.size w ((w.alloc (.cells #[.int .i64 n, (.slice (some ⟨g, off, none⟩) 6 cap), .string (body.extract 0 200)] 24)).alloc (.cells #[.int .i64 n, (.slice (some ⟨g, off, none⟩) 6 cap), .string (body.extract 0 200)] 24))) := hb0.alloc hb0.size _
  have hk := heap_alloc_new (w.alloc (.cells #[.int .i64 n, (.slice (some ⟨g, off, none⟩) 6 cap), .string (body.extract 0 200)] 24)) (.cells #[.int .i64 n, (.slice (some ⟨g, off, none⟩) 6 cap), .string (body.extract 0 200)] 24)
  rw [hz] at hk
  have HD := Lib.hid (cells3 hk)
  have e6 : (6 : Int) < (m : Int) := by omega
  have e2 : (200 : Int) < (body.size : Int) := by omega
  clear hk hb0
  go_enter Tryd.func8, Tryd.ntmps8
  go_wp2
  obtain ⟨d0, d1, d2⟩ := HD.out
  (with_reducible refine bodyPost_ret (v := .agg #[.int .i64 n, (.slice (some ⟨g, off, none⟩) 6 cap), .string (body.extract 0 200)]) (by simp [results, Tryd.results8, go_sem, d0, d1, d2]) rfl ⟨rfl, HB.out⟩)
theorem cut_c (n : Int) (ao : Option Addr) (cap : Nat) (fs : List FB) (body : ByteArray) (w : World) (hR : RdF (.slice ao fs.length cap) fs w) (hc : fs.length ≤ cap) (hm : cap ≤ 9223372036854775807) (hb : body.size ≤ 9223372036854775807) :
    ∃ aq cq, RdF (.slice aq (fs.take 6).length cq) (fs.take 6) w ∧ ∀ W, Calls Tryd.prog 8 #[.agg #[.int .i64 n, .slice ao fs.length cap, .string body]] W fun e w' => e = .returned (.agg #[.int .i64 n, .slice aq (fs.take 6).length cq, .string (mkS (body.data.toList.take 200))]) ∧ Below W.heap.size W w' := by
  by_cases h6 : 6 < fs.length
  · obtain ⟨g, off, rfl, hr⟩ := hR.take h6
    have e6 : (fs.take 6).length = 6 := by rw [List.length_take]; omega
    refine ⟨_, cap, by rw [e6]; exact hr, fun W => ?_⟩
    rw [e6]
    by_cases h2 : 200 < body.size
    · rw [← ext200]; exact cut_ll n g off fs.length cap body W hm hb h6 hc h2
    · have e2 : mkS (body.data.toList.take 200) = body := (mkS_of (by rw [List.take_of_length_le (by rw [← Lib.size_eq]; omega)])).symm
      rw [e2]; exact cut_ls n g off fs.length cap body W hm hb h6 hc h2
  · have ef : fs.take 6 = fs := List.take_of_length_le (by omega)
    rw [ef]
    refine ⟨ao, cap, hR, fun W => ?_⟩
    by_cases h2 : 200 < body.size
    · rw [← ext200]; exact cut_sl n ao fs.length cap body W hm hb h6 h2
    · have e2 : mkS (body.data.toList.take 200) = body := (mkS_of (by rw [List.take_of_length_le (by rw [← Lib.size_eq]; omega)])).symm
      rw [e2]; exact cut_ss n ao fs.length cap body W hm hb h6 h2
theorem bulk_part {H : Type} {d : DataW H} {l : List (DataW H)} (h : d ∈ l) : Rows.uptoBulk d ≤ Rows.uptoBulkAll l := by
  induction l with
  | nil => cases h
  | cons x r ih =>
    simp only [Rows.uptoBulkAll]
    cases List.mem_cons.1 h with
    | inl e => subst e; omega
    | inr e => have := ih e; omega
/-- a slice of fields that came in -/
theorem flds_of {H : Type} {enc : TypeId × Value → H} {W : World} {v : Value} {n : Nat} {x : DataW H × List MemPlace} (h : DataW.trod enc Tryd.prog W 0 (fun _ => true) true n 22 [v] = some x) :
    ∃ (ao : Option Addr) (cap : Nat) (fs : List FB), v = .slice ao fs.length cap ∧ RdF v fs W ∧ fs.length ≤ cap ∧ cap ≤ maxLen ∧ ∀ f ∈ fs, f.1.size + f.2.size ≤ Rows.uptoBulk x.1 := by
  rcases Deep.open_slice_pairs Tryd.underlying22 Tryd.underlying64 (by kernel_rfl) rfl rfl (by kernel_rfl) (by kernel_rfl) h with ⟨hcs, _⟩ | ⟨a, len, cap, m, k, V0, V1, D0, D1, P0, P1, hcs, hb, hl, hm, hmm, hx, hat⟩
  · obtain rfl : v = .slice none 0 0 := by simpa using hcs
    exact ⟨none, 0, [], rfl, RdF.nil W, Nat.le_refl _, by unfold maxLen; omega, fun f hf => by cases hf⟩
  · obtain rfl : v = .slice (some a) len cap := by simpa using hcs
    have hlm : len ≤ m := by rw [hmm]; simp; exact hl
    have each : ∀ i, i < len → ∃ t : FB, W.cell? (a.add (i * 2)) = some (.string t.1) ∧ W.cell? (a.add (i * 2 + 1)) = some (.string t.2) ∧ t.1.size + t.2.size ≤ Rows.uptoBulk x.1 := by
      intro i hi
      obtain ⟨h0, h1, h2, h3⟩ := hat i (by omega)
      obtain ⟨s0, e0, q0, hs0⟩ := DataW.trod_string Tryd.underlying9 h2
      obtain ⟨s1, e1, q1, hs1⟩ := DataW.trod_string Tryd.underlying9 h3
      have e0' : V0 i = .string s0 := by simpa using e0
      have e1' : V1 i = .string s1 := by simpa using e1
      refine ⟨(s0, s1), by rw [h0, e0'], by rw [h1, e1'], ?_⟩
      have hp := bulk_part (d := .agg [D0 i, D1 i]) (l := (List.range len).map fun i => .agg [D0 i, D1 i]) (List.mem_map.2 ⟨i, List.mem_range.2 hi, rfl⟩)
      have d0 : D0 i = .lit (.string s0.data.toList) := by simpa using congrArg Prod.fst q0
      have d1 : D1 i = .lit (.string s1.data.toList) := by simpa using congrArg Prod.fst q1
      have ez0 := Lib.size_eq s0
      have ez1 := Lib.size_eq s1
      rw [hx]
      simp only [Rows.uptoBulk, Rows.uptoBulkAll, d0, d1] at hp ⊢
      show s0.size + s1.size ≤ _
      omega
    obtain ⟨q, hq⟩ := Deep.choose_lt each
    have hlen : ((List.range len).map q).length = len := by simp
    refine ⟨some a, cap, (List.range len).map q, by rw [hlen], ⟨some a, cap, by rw [hlen], fun hne => ?_⟩, by rw [hlen]; exact hl, hm, fun f hf => ?_⟩
    · rw [hlen] at hne
      obtain ⟨b, off, spot⟩ := a
      have hc := (hq 0 hne).1
      have hspot : spot = none := by simpa [Addr.add] using World.cell?_spot hc
      subst hspot
      refine ⟨b, off, rfl, ?_, fun i hi => ?_⟩
      · have := World.block_lt_of_cell? W _ hc
        simpa [Addr.add] using this
      · have hi' : i < len := by simpa using hi
        obtain ⟨h0, h1, _⟩ := hq i hi'
        have e : ∀ j, (⟨b, off, none⟩ : Addr).add j = ⟨b, off + j, none⟩ := fun j => by unfold Addr.add; split <;> simp_all
        rw [e] at h0 h1
        simp only [List.getElem_map, List.getElem_range]
        exact ⟨h0, by rw [Nat.add_assoc]; exact h1⟩
    · obtain ⟨i, hi, rfl⟩ := List.mem_map.1 hf
      exact (hq i (List.mem_range.1 hi)).2.2
end Go.Proofs.YtolfenachbbjdaaDoor.Rp

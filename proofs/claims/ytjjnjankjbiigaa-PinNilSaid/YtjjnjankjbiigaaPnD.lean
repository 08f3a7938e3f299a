/- Contracts of package pin's Keep, Add: at all pins of the call's own, and at none; no other condition. -/
import Derived.Test.YtjjnjankjbiigaaPnC
namespace Go.Proofs.Ytjjnjankjbiigaa.Pn
open Go.RowKit Go.Lib Go.Maps
set_option linter.unusedSimpArgs false
set_option linter.unusedVariables false

theorem max_if (a b : Int) : max a b = if a < b then b else a := by rw [Int.max_def]; split <;> split <;> omega
theorem Keep_nil (i u : Int) (w : World) : Calls Try.prog 17 #[.pointer none, .int .i64 i, .int .i64 u] w fun e w' => e = .returned (.bool false) ∧ w' = w := by
  go_enter Try.func17, Try.ntmps17
  go_wp2
  go_ret
  exact ⟨rfl, rfl⟩
set_option maxRecDepth 100000 in
set_option maxHeartbeats 2000000 in
theorem Keep_c {B c : Nat} {mb : Option Nat} {m : Int} {l : List Pin} {w : World} (h : IsPn B c mb m l w) {i : Int} (u : Int) (hi : (Lit.int .i64 i).wf = true) (hm : cnt l < maxLen) : Calls Try.prog 17 #[.pointer (some ⟨c, 0, none⟩), .int .i64 i, .int .i64 u] w (DrQ B c mb m (keepL l i u) (.bool (hb l i)) w) := by
  obtain ⟨c0, c1, c2⟩ := cells3 h.ob
  have hcl := h.lt
  have hl := h.look hi
  obtain ⟨W, hW, hk, hbw⟩ := new2 w (.int .i64 (rv l i)) (.int .i64 (ut l i)) 52
  cases hh : hb l i with
  | false =>
    rw [hh] at hl
    rw [keepL_none hh]
    have H := Lib.hid h
    have HW := Lib.hid hW
    have HB := Lib.hid hbw
    clear h hh hW hk hbw
    generalize rv l i = r at *
    generalize ut l i = t at *
    go_enter Try.func17, Try.ntmps17
    go_upto_region 4 with (fail)
    rw [← HW.out]
    go_wp2
    go_ret
    exact ⟨rfl, H.out.go HB.out, Ch.of HB.out⟩
  | true =>
    rw [hh] at hl
    obtain ⟨b, rfl, hB, hS⟩ := h.held hh
    obtain ⟨W1, hW1⟩ : ∃ W1, W1 = W.setCell ⟨w.heap.size, 1, none⟩ (.int .i64 (max (ut l i) u)) := ⟨_, rfl⟩
    have hk1 : W1.heap[w.heap.size]? = some (.cells #[.int .i64 (rv l i), .int .i64 (max (ut l i) u)] 52 (0, 0)) := by rw [hW1]; simpa using blk_set hk 1 (.int .i64 (max (ut l i) u))
    have hb1 : Below w.heap.size w W1 := by
      rw [hW1]
      exact hbw.trans ⟨rfl, rfl, rfl, by simp [World.setCell], fun k hk => set_oth _ _ _ _ (by omega)⟩
    have hS1 : SetP b (l := l) W1.drew := by exact hS.keep (hb1.block _ hS.lt)
    have hst := hS1.store (l' := keepL l i u) (r := rv l i) (u := max (ut l i) u) hi hm (fun j => by
      rw [att_keep]
      by_cases e : j = i
      · subst e
        obtain ⟨x, hx⟩ := Option.isSome_iff_exists.1 hh
        unfold rv ut
        rw [hx]; simp
      · simp only [e, if_false]
        cases att l j <;> rfl)
    obtain ⟨W2, hr, hS2, hg2⟩ := hst
    obtain ⟨d0, d1⟩ := cells2 hk
    have f1 := frzB hk 1
    obtain ⟨e0, e1⟩ := cells2 hk1
    have hc1 := (hb1.block _ hcl).trans h.ob
    obtain ⟨k0, k1, k2⟩ := cells3 hc1
    have HCH : Hid (Ch c (some b) w W2) := (Ch.of (hb1.trans ((bdr W1).mono hb1.size))).tr (Ch.grown hg2)
    have HOB : Hid (W2.heap[c]? = some (.cells #[.int .i64 m, .int .i64 (l.length : Nat), .map (some b)] 48 (0, 0))) := by
      show _ = _
      rw [hg2.block c (Nat.lt_of_lt_of_le hcl hb1.size) (fun e => h.ne e.symm)]; exact hc1
    have H := Lib.hid h
    have HW := Lib.hid hW
    have HW1 := Lib.hid hW1
    have HB := Lib.hid hB
    have HS2 := Lib.hid hS2
    have hcn : c ≠ w.heap.size := by omega
    clear h hh hW hbw hW1 hk1 hb1 hS1 hS hS2 hg2 hc1 hB hk
    generalize rv l i = r at *
    generalize ut l i = t at *
    rw [max_if] at HW1 e1 hr
    go_enter Try.func17, Try.ntmps17
    go_upto_region 4 with (fail)
    rw [← HW.out]
    go_upto_region 6 with (fail)
    rw [← HW1.out]
    clear hl HW HW1 d0 d1 f1 c0 c1 c2 hi hm
    generalize (if t < u then u else t) = z at *
    go_region
    all_goals
      go_wp2
      go_ret
      refine ⟨rfl, ⟨?_, H.out.ne, .inr ⟨b, rfl, HB.out, HS2.out⟩⟩, HCH.out⟩
      rw [keepL_len]
      exact HOB.out
theorem Add_nil (r u : Int) (w : World) : Calls Try.prog 16 #[.pointer none, .int .i64 r, .int .i64 u] w fun e w' => e = .returned (.tuple #[.int .i64 0, .int .i64 2]) ∧ w' = w := by
  go_enter Try.func16, Try.ntmps16
  go_wp2
  exact bodyPost_ret (v := .tuple #[.int .i64 0, .int .i64 2]) (by simp [results, Try.results16, go_sem]) rfl ⟨rfl, rfl⟩
theorem Add_arg (c : Nat) {r : Int} (u : Int) (w : World) (hr : r < 0) : Calls Try.prog 16 #[.pointer (some ⟨c, 0, none⟩), .int .i64 r, .int .i64 u] w fun e w' => e = .returned (.tuple #[.int .i64 0, .int .i64 1]) ∧ w' = w := by
  go_enter Try.func16, Try.ntmps16
  go_wp2
  exact bodyPost_ret (v := .tuple #[.int .i64 0, .int .i64 1]) (by simp [results, Try.results16, go_sem]) rfl ⟨rfl, rfl⟩
/-- len of the map, in every world where it lies so -/
theorem IsPn.len {B c : Nat} {mb : Option Nat} {m : Int} {l : List Pin} {w : World} (h : IsPn B c mb m l w) (ty : TypeId) : (Builtin.len_ #[46] ty #[.map mb]).run Try.prog w = .ok (.int .i64 (cnt l)) w := by
  rcases h.mp with ⟨rfl, rfl⟩ | ⟨b, rfl, hB, hS⟩
  · exact Maps.len_nil Try.underlying46 ty
  · exact hS.len ty
set_option maxRecDepth 100000 in
set_option maxHeartbeats 2000000 in
theorem Add_full {B c : Nat} {mb : Option Nat} {m : Int} {l : List Pin} {w : World} (h : IsPn B c mb m l w) {r : Int} (u : Int) (hr : 0 ≤ r) (hf : max m 1 ≤ (cnt l : Int)) : Calls Try.prog 16 #[.pointer (some ⟨c, 0, none⟩), .int .i64 r, .int .i64 u] w fun e w' => e = .returned (.tuple #[.int .i64 0, .int .i64 7]) ∧ Below w.heap.size w w' := by
  obtain ⟨c0, c1, c2⟩ := cells3 h.ob
  have hr0 : ¬ r < 0 := by omega
  have hl1 : (Builtin.len_ #[46] 3 #[.map mb]).run Try.prog w.drew = .ok (.int .i64 (cnt l)) w.drew := (h.go (bdr w)).len _
  clear h
  by_cases hm1 : m < 1
  · have hf1 : (1 : Int) ≤ (cnt l : Int) := by omega
    clear hf
    generalize cnt l = k at *
    go_enter Try.func16, Try.ntmps16
    go_upto_region 5 with (fail)
    go_region
    all_goals
      go_wp2
      exact bodyPost_ret (v := .tuple #[.int .i64 0, .int .i64 7]) (by simp [results, Try.results16, go_sem]) rfl ⟨rfl, bdr w⟩
  · have hf1 : m ≤ (cnt l : Int) := by omega
    clear hf
    generalize cnt l = k at *
    go_enter Try.func16, Try.ntmps16
    go_upto_region 5 with (fail)
    go_region
    all_goals
      go_wp2
      exact bodyPost_ret (v := .tuple #[.int .i64 0, .int .i64 7]) (by simp [results, Try.results16, go_sem]) rfl ⟨rfl, bdr w⟩
end Go.Proofs.Ytjjnjankjbiigaa.Pn

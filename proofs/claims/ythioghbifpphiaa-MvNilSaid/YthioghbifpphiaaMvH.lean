/- The law's awake (chapter 19's example) answers yes; no condition. -/
import Derived.Test.YthioghbifpphiaaMvG
namespace Go.Proofs.Ythioghbifpphiaa.Mv
open Go.RowKit Go.Lib Go.Maps
open Go.Proofs.Ythioghbifpphiaa.Cn
set_option linter.unusedSimpArgs false
set_option linter.unusedVariables false

abbrev va : ByteArray := ⟨#[49]⟩
abbrev vb2 : ByteArray := ⟨#[50]⟩
abbrev l1 : List Ver := [(1, va, false)]
abbrev l2 : List Ver := [(1, va, false), (2, vb2, false)]
theorem S1.upd {B c b d N : Nat} {gb : Option Nat} {l : List Ver} {rev fl vs rev' vs' : Int} {w V : World} (h : S1 B c b d N gb l rev fl vs w) (hs : V.heap[c]? = some (obS rev' fl (.map (some b)) 1 vs')) (ho : ∀ k, k < w.heap.size → k ≠ c → V.heap[k]? = w.heap[k]?) : S1 B c b d N gb l rev' fl vs' V := by
  refine ⟨hs, h.hm.keep (ho b h.hm.lt h.cb.symm), ?_, h.cb, h.cd, h.bd, h.gc, h.gb', h.asc, h.lo⟩
  have hbase := h.hc.base
  have hcl := h.hc.lt
  obtain ⟨v, all, k, g1, g2, g3, g4, g5, g6⟩ := h.hc
  refine ⟨v, all, k, g1, g2, g3, g4, (ho d hcl h.cd.symm).trans g5, g6.1, ?_⟩
  rcases g6.2 with h6 | ⟨g, cap, cur, e1, e2, e3, e4⟩
  · exact .inl h6
  · have hg : gb = some g := by rw [← g1, e1]; rfl
    exact .inr ⟨g, cap, cur, e1, e2, (ho g (hbase g hg).2 (fun e => h.gc (by rw [hg, e]))).trans e3, e4⟩
theorem commit_0 (B c a : Nat) (w : World) (h : w.heap[c]? = some (obS 0 0 (.map none) 0 0)) (ha : w.heap[a]? = some (obC va)) (hac : a ≠ c) (hB : B ≤ c) :
    Calls Try.prog 20 #[.pointer (some ⟨c, 0, none⟩), .slice (some ⟨a, 0, none⟩) 1 1] w fun e w' => e = .returned (.tuple #[.int .i64 1, .int .i64 0]) ∧ (∃ b d gb, S1 B c b d 1 gb l1 1 0 1 w') ∧ Below B w w' := by
  have h0 : (0 : Int) + 1 = 1 := rfl
  have := commit_g B c a va 0 0 0 0 1 (.map none) false w (fun V => ∃ b d gb, S1 B c b d 1 gb l1 1 0 1 V) h ha hac hB (by omega) (by omega) (by omega) rfl
    (Lib.hid fun V hV => has_0 c 0 0 0 0 V ((hV.block c (Array.getElem?_eq_some_iff.1 h).1).trans h))
    (Lib.hid fun V hV _ _ => by
      rw [h0] at hV
      refine (put_0 B c va 1 0 1 V hV hB (by omega)).mono ?_
      rintro e w' ⟨he, b, d, gb, h1, h2⟩
      exact ⟨he, ⟨b, d, gb, h1⟩, h2⟩)
    (Lib.hid fun V ⟨b, d, gb, hV⟩ => ⟨_, hV.hs⟩)
  exact this
theorem commit_1 {B c b d : Nat} {gb : Option Nat} (a : Nat) (w : World) (h : S1 B c b d 1 gb l1 1 0 1 w) (ha : w.heap[a]? = some (obC vb2)) (hac : a ≠ c) :
    Calls Try.prog 20 #[.pointer (some ⟨c, 0, none⟩), .slice (some ⟨a, 0, none⟩) 1 1] w fun e w' => e = .returned (.tuple #[.int .i64 2, .int .i64 0]) ∧ (∃ gb', S1 B c b d 2 gb' l2 2 0 2 w') ∧ Below B w w' := by
  have h0 : (1 : Int) + 1 = 2 := rfl
  have hcl : c < w.heap.size := (Array.getElem?_eq_some_iff.1 h.hs).1
  have := commit_g B c a vb2 1 0 1 1 1 (.map (some b)) true w (fun V => ∃ gb', S1 B c b d 2 gb' l2 2 0 2 V) h.hs ha hac h.lo.1 (by omega) (by omega) (by omega) rfl
    (Lib.hid fun V hV => has_1 (h.kept hV) (by omega))
    (Lib.hid fun V hV ho hz => by
      rw [h0] at hV
      have hS := h.upd hV ho
      refine (put_1 vb2 hS (by omega) (by have := h.lo.1; omega) (by omega) true rfl (fun _ => by show (1 : Int) < 2; omega)).mono ?_
      rintro e w' ⟨he, gb', h1, h2⟩
      exact ⟨he, ⟨gb', h1⟩, h2⟩)
    (Lib.hid fun V ⟨gb', hV⟩ => ⟨_, hV.hs⟩)
  exact this
theorem eqI (b1 b2 : ByteArray) (a c : Int) (d1 d2 : ByteArray) (W : World) : (binOp .eql 49 (.agg #[.string b1, .string d1, .int .i64 a]) (.agg #[.string b2, .string d2, .int .i64 c])).run Try.prog W = .ok (.bool (decide (b1.data.toList = b2.data.toList ∧ d1.data.toList = d2.data.toList ∧ a = c))) W := by
  have hS : Try.prog.underlying 49 = some (.struct (Try.prog.fieldsOf 49)) := by kernel_rfl
  have hp : Try.prog.stoodInHeld 49 = false := by kernel_rfl
  have u9 := Try.underlying9
  have u2 := Try.underlying2
  rw [run_eql_struct, show (10000 : Nat) = 9999 + 1 from rfl, run_equalIn_agg W 9999 49 _ _ hS hp]
  simp only [Program.fieldsOf, Try.underlying49]
  go_simp
  simp only [Lib.toList_data]
  by_cases h1 : a = c <;> by_cases h2 : b1.data = b2.data <;> by_cases h3 : d1.data = d2.data <;> simp [h1, h2, h3]
set_option maxRecDepth 100000 in
set_option maxHeartbeats 8000000 in
theorem awake_c (w : World) : Calls Try.prog 18 #[] w fun e w' => e = .returned (.bool true) ∧ Below w.heap.size w w' := by
  have HN := Lib.hid (New_m w)
  go_enter Try.func18, Try.ntmps18
  go_upto_region 2 with (go_at_call 7; (with_reducible refine HN.out.mono ?_); rintro e w1 ⟨rfl, hs1, hb1⟩; have HS1 := Lib.hid hs1; have HB1 := Lib.hid hb1; clear hs1 hb1)
  obtain ⟨c, hc⟩ : ∃ c, c = w.heap.size + 1 := ⟨_, rfl⟩
  have HC : Hid (w.heap.size ≤ c) := by show _ ≤ _; omega
  rw [← hc] at HS1 ⊢
  obtain ⟨W2, hW2, hk2, hb2⟩ := Cn.new3 w1 (.string kb) (.string va) (.bool false) 57
  have HW2 := Lib.hid hW2
  have HS2 : Hid (W2.heap[c]? = some (obS 0 0 (.map none) 0 0)) := (hb2.block c (Array.getElem?_eq_some_iff.1 HS1.out).1).trans HS1.out
  have hcw : c < w1.heap.size := (Array.getElem?_eq_some_iff.1 HS1.out).1
  have HB2 := Lib.hid (btr HB1.out hb2)
  have HC2 := Lib.hid (commit_0 w.heap.size c w1.heap.size W2 HS2.out hk2 (by omega) HC.out)
  clear hW2 hk2 hb2 hc HN
  go_upto_region 3 with (first | (go_at_call 20; rw [← HW2.out]; (with_reducible refine HC2.out.mono ?_); rintro e w3 ⟨rfl, ⟨b, d, gb, hs3⟩, hb3⟩; have HS3 := Lib.hid hs3; have HB3 := Lib.hid (HB2.out.trans hb3); clear hs3 hb3))
  clear HC2
  obtain ⟨W4, hW4, hk4, hb4⟩ := Cn.new3 w3 (.string kb) (.string vb2) (.bool false) 57
  have HW4 := Lib.hid hW4
  have hcw3 : c < w3.heap.size := (Array.getElem?_eq_some_iff.1 HS3.out.hs).1
  have HB4 := Lib.hid (HB3.out.trans (hb4.mono HB3.out.size))
  have HC4 := Lib.hid (commit_1 w3.heap.size W4 (HS3.out.kept hb4) hk4 (by omega))
  clear hW4 hk4 hb4
  go_upto_region 4 with (first | (go_at_call 20; rw [← HW4.out]; (with_reducible refine HC4.out.mono ?_); rintro e w5 ⟨rfl, ⟨gb5, hs5⟩, hb5⟩; have HS5 := Lib.hid hs5; have HB5 := Lib.hid (HB4.out.trans hb5); clear hs5 hb5))
  clear HC4
  have HG5 := Lib.hid (get_ok 1 HS5.out (by omega) (by omega) (by omega) (by omega) rfl)
  rw [show atV l2 1 = (1, va, false) from rfl] at HG5
  go_upto_region 5 with (go_at_call 19; (with_reducible refine HG5.out.mono ?_); rintro e w6 ⟨rfl, hb6⟩; have HB6 := Lib.hid hb6; clear hb6)
  obtain ⟨W7, hW7, hk7, hb7⟩ := Cn.new3 w6 (.string kb) (.string va) (.int .i64 1) 49
  have HW7 := Lib.hid hW7
  have hb57 := btr HB6.out hb7
  have HS7 := Lib.hid (HS5.out.kept hb57)
  have HX7 := Lib.hid hk7
  have HB7 := Lib.hid (HB5.out.trans (hb57.mono HB5.out.size))
  have HP7 := Lib.hid (compact_1 2 HS7.out (by omega) HB7.out.size (by omega) (by omega) (by decide) (by omega) (by decide))
  clear hW7 hk7 hb7 hb57 HG5
  rw [← HW7.out]
  go_upto_region 6 with (go_at_call 22; (with_reducible refine HP7.out.mono ?_); rintro e w8 ⟨rfl, ⟨gb8, hs8⟩, hb8, ho8⟩; have HS8 := Lib.hid hs8; have HO8 := Lib.hid ho8; have HB8 := Lib.hid (HB7.out.trans hb8); clear hs8 hb8 ho8)
  have HX8 : Hid (w8.heap[w6.heap.size]? = some (.cells #[.string kb, .string va, .int .i64 1] 49 (0, 0))) := by
    have hc5 : c < w5.heap.size := (Array.getElem?_eq_some_iff.1 HS5.out.hs).1
    have hd5 := HS5.out.hc.lt
    have hg5 := HS5.out.hc.base
    have h6 := HB6.out.size
    exact (HO8.out w6.heap.size (Array.getElem?_eq_some_iff.1 HX7.out).1 (by omega) (by omega) (fun e => by have := (hg5 _ e.symm).2; omega)).trans HX7.out
  have HG8 := Lib.hid (get_no (.pointer (some ⟨c, 0, none⟩)) kb 1 9 w8 (by decide) (Lib.hid fun W hW => ref_gone c 2 2 1 _ 1 _ W (HS8.out.kept hW).hs (by omega) (by omega) (by omega)))
  clear HP7 HS7 HX7
  go_upto_region 6 with (fail)
  go_upto_region 7 with (go_at_call 19; (with_reducible refine HG8.out.mono ?_); rintro e w9 ⟨rfl, hb9⟩; have HB9 := Lib.hid hb9; clear hb9)
  obtain ⟨W10, hW10, hk10, hb10⟩ := Cn.new3 w9 (.string ⟨#[]⟩) (.string ⟨#[]⟩) (.int .i64 0) 49
  have HW10 := Lib.hid hW10
  have hb810 := btr HB9.out hb10
  obtain ⟨x0, x1, x2⟩ := Cn.cells3 ((hb810.block _ (Array.getElem?_eq_some_iff.1 HX8.out).1).trans HX8.out)
  have HB10 := Lib.hid (HB8.out.trans (hb810.mono HB8.out.size))
  have heq : ∀ W : World, (binOp .eql 49 (.agg #[.string kb, .string va, .int .i64 1]) (.agg #[.string kb, .string va, .int .i64 1])).run Try.prog W = .ok (.bool true) W := fun W => by rw [eqI]; simp
  clear hW10 hk10 hb10 hb810 HG8
  rw [← HW10.out]
  go_wp2
  go_ret
  exact ⟨rfl, HB10.out⟩
end Go.Proofs.Ythioghbifpphiaa.Mv

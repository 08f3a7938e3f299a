/- The contract of Next of package utf: what it answers of any bytes; where the tables lie as the program's text lays them. -/
import Derived.Test.YtkphainopofejaaDoorUtJoin
import Derived.StillTailTactics
import Derived.Deep.RegionHeld3
namespace Go.Proofs.YtkphainopofejaaDoor.Ut
open Go.RowKit
set_option linter.unusedSimpArgs false
set_option linter.unusedVariables false

def lo2 (z : Int) : Int := if z = 224 then 160 else if z = 240 then 144 else 128
def hi2 (z : Int) : Int := if z = 237 then 159 else if z = 244 then 143 else 191
/-- how many bytes a rune has that begins so; none: 0 -/
def szI (z : Int) : Nat := if z ≤ 127 then 1 else if z < 194 then 0 else if z ≤ 223 then 2 else if z ≤ 239 then 3 else if z ≤ 244 then 4 else 0
def gd (zs : List Int) (j : Nat) : Int := zs.getD j 0
/-- may the byte at place j stand there? -/
def okAt (zs : List Int) (j : Nat) : Prop := if j = 1 then lo2 (gd zs 0) ≤ gd zs 1 ∧ gd zs 1 ≤ hi2 (gd zs 0) else 128 ≤ gd zs j ∧ gd zs j ≤ 191
instance (zs : List Int) (j : Nat) : Decidable (okAt zs j) := by unfold okAt; infer_instance
/-- do the bytes up to place h go on? -/
def okTo (zs : List Int) (h : Nat) : Prop := ∀ j, j < h → 1 ≤ j → okAt zs j
instance (zs : List Int) (h : Nat) : Decidable (okTo zs h) := by unfold okTo; infer_instance
def valT (zs : List Int) (n : Nat) : Int :=
  if n = 1 then gd zs 0 else if n = 2 then 64 * (gd zs 0 - 192) + gd zs 1 - 128 else if n = 3 then 64 * (64 * (gd zs 0 - 224) + gd zs 1 - 128) + gd zs 2 - 128
  else 64 * (64 * (64 * (gd zs 0 - 240) + gd zs 1 - 128) + gd zs 2 - 128) + gd zs 3 - 128
/-- the document's answer: the rune and how many bytes; 0: none; -1: a beginning -/
def nextR (zs : List Int) : Int × Int :=
  if szI (gd zs 0) = 0 then (0, 0) else if okTo zs (min zs.length (szI (gd zs 0))) then (if zs.length < szI (gd zs 0) then (0, -1) else (valT zs (szI (gd zs 0)), szI (gd zs 0))) else (0, 0)

theorem row_mem {z : Int} {f : Fst} (h : rowOf z = some f) : f ∈ rowsL ∧ f.a ≤ z ∧ z ≤ f.b := by
  unfold rowOf at h
  have h2 := List.find?_some h
  exact ⟨List.mem_of_find?_eq_some h, of_decide_eq_true h2⟩
theorem row_some {z : Int} {f : Fst} (h0 : 0 ≤ z) (h : rowOf z = some f) : f.s = szI z ∧ 1 ≤ szI z ∧ szI z ≤ 4 ∧ (2 ≤ szI z → f.l = lo2 z ∧ f.h = hi2 z) := by
  obtain ⟨hm, ha, hb⟩ := row_mem h
  simp only [rowsL, List.mem_cons, List.mem_nil_iff, or_false] at hm
  unfold szI lo2 hi2
  rcases hm with rfl | rfl | rfl | rfl | rfl | rfl | rfl | rfl | rfl
  all_goals (simp only at ha hb ⊢; split <;> (try split) <;> (try split) <;> (try split) <;> (try split) <;> first | omega | (refine ⟨by omega, by omega, by omega, fun _ => ⟨?_, ?_⟩⟩ <;> (repeat' split) <;> omega) | skip)
theorem row_none {z : Int} (h0 : 0 ≤ z) (h : rowOf z = none) : szI z = 0 := by
  unfold rowOf at h
  rw [List.find?_eq_none] at h
  have hh : ∀ f ∈ rowsL, ¬ (f.a ≤ z ∧ z ≤ f.b) := fun f hf hc => h f hf (by unfold hitB; simpa using hc)
  simp only [rowsL, List.mem_cons, List.mem_nil_iff, or_false, forall_eq_or_imp, forall_eq] at hh
  unfold szI
  obtain ⟨a0, a1, a2, a3, a4, a5, a6, a7, a8⟩ := hh
  repeat' split
  all_goals omega

def tup3 (r n e : Int) : Ending := .returned (.tuple #[.int .i32 r, .int .i64 n, .int .i64 e])

theorem next_nil (A : Option Addr) (cap : Nat) (w : World) : Calls Tryd.prog 79 #[.slice A 0 cap] w fun e w' => e = tup3 0 0 6 ∧ Below w.heap.size w w' := by
  unfold tup3
  go_enter Tryd.func79, Tryd.ntmps79
  go_wp2
  go_ret3
  exact ⟨rfl, Below.refl _ _⟩

theorem firstOf_no (c : Int) (w : World) (hT : Tabs w) (h0 : 0 ≤ c) (h1 : c ≤ 255) (h : rowOf c = none) : Calls Tryd.prog 85 #[.int .u8 c] w fun e w' => e = .returned (.tuple #[fstV zeroF, .bool false]) ∧ Below w.heap.size w w' :=
  (firstOf_c c w hT h0 h1).mono fun e w' hp => by unfold FPost at hp; rw [h] at hp; exact hp
theorem firstOf_yes (c : Int) (f : Fst) (w : World) (hT : Tabs w) (h0 : 0 ≤ c) (h1 : c ≤ 255) (h : rowOf c = some f) : Calls Tryd.prog 85 #[.int .u8 c] w fun e w' => e = .returned (.tuple #[fstV f, .bool true]) ∧ Below w.heap.size w w' :=
  (firstOf_c c w hT h0 h1).mono fun e w' hp => by unfold FPost at hp; rw [h] at hp; exact hp

theorem next_no (b off n cap : Nat) (z : Int) (w : World) (hT : Tabs w) (hc : w.cell? ⟨b, off, none⟩ = some (.int .u8 z)) (hn : 0 < n) (hm : n ≤ maxLen) (h0 : 0 ≤ z) (h1 : z ≤ 255) (h : rowOf z = none) :
    Calls Tryd.prog 79 #[.slice (some ⟨b, off, none⟩) n cap] w fun e w' => e = tup3 0 0 3 ∧ Below w.heap.size w w' := by
  unfold maxLen at hm
  unfold tup3
  have hn' : (0 : Int) < (n : Int) := by omega
  have hne : ((n : Int) == 0) = false := by simp; omega
  have HF := Lib.hid (firstOf_no z w hT h0 h1 h)
  clear h
  go_enter Tryd.func79, Tryd.ntmps79
  go_wp2_with fail
  refine HF.out.mono ?_
  rintro e w1 ⟨rfl, hb⟩
  simp only [fstV, zeroF]
  have HB := Lib.hid hb
  clear hb
  go_wp2
  go_ret3
  exact ⟨rfl, HB.out.alloc HB.out.size _⟩

theorem okTo_succ {zs : List Int} {k : Nat} (h : okTo zs k) (hk : okAt zs k) : okTo zs (k + 1) := by
  intro j hj h1
  by_cases e : j = k
  · subst e; exact hk
  · exact h j (by omega) h1
theorem go_ok {zs : List Int} {fa fb fs fl fh : Int} {k : Nat} (h1 : 1 ≤ k) (hl : fl = lo2 (gd zs 0)) (hh : fh = hi2 (gd zs 0)) : goB ⟨fa, fb, fs, fl, fh⟩ k (gd zs k) = decide (okAt zs k) := by
  unfold goB okAt
  by_cases e : k = 1
  · subst e; simp [hl, hh]
  · have e2 : ¬ ((k : Int) = 1) := by omega
    simp [e, e2]
theorem gd_at {zs : List Int} {j : Nat} (h : j < zs.length) : zs[j] = gd zs j := by unfold gd; simp [List.getD, List.getElem?_eq_getElem h]
theorem bts_at {w : World} {b off : Nat} {zs : List Int} (h : Bts w b off zs) (j : Nat) (hj : j < zs.length) : w.cell? ⟨b, off + j, none⟩ = some (.int .u8 (gd zs j)) := by rw [← gd_at hj]; exact h j hj
theorem join_c (b off cap n : Nat) (zs : List Int) (w : World) (hT : Tabs w) (hB : Bts w b off zs) (hn : n ≤ zs.length) (hc : n ≤ cap) (hm : cap ≤ 9223372036854775807) (h1 : 1 ≤ n) (h4 : n ≤ 4) (hz : 0 ≤ gd zs 0) (hs : szI (gd zs 0) = n) (hok : okTo zs n) :
    Calls Tryd.prog 87 #[.slice (some ⟨b, off, none⟩) n cap] w fun e w' => e = .returned (.int .i32 (valT zs n)) ∧ Below w.heap.size w w' := by
  have hmm : cap ≤ maxLen := by unfold maxLen; omega
  have hlo : 128 ≤ lo2 (gd zs 0) := by unfold lo2; (repeat' split) <;> omega
  have hhi : hi2 (gd zs 0) ≤ 191 := by unfold hi2; (repeat' split) <;> omega
  have c0 := bts_at hB 0 (by omega)
  simp only [Nat.add_zero] at c0
  have hr : (n = 1 ∧ gd zs 0 ≤ 127) ∨ (n = 2 ∧ 194 ≤ gd zs 0 ∧ gd zs 0 ≤ 223) ∨ (n = 3 ∧ 224 ≤ gd zs 0 ∧ gd zs 0 ≤ 239) ∨ (n = 4 ∧ 240 ≤ gd zs 0 ∧ gd zs 0 ≤ 244) := by
    unfold szI at hs
    (repeat' split at hs) <;> omega
  rcases hr with ⟨rfl, h⟩ | ⟨rfl, h, h'⟩ | ⟨rfl, h, h'⟩ | ⟨rfl, h, h'⟩
  · exact join1 b off cap _ w hT c0 hc hmm hz h
  · have o1 := hok 1 (by omega) (by omega)
    simp only [okAt, if_true] at o1
    exact join2 b off cap _ _ w hT c0 (bts_at hB 1 (by omega)) hc hmm h h' (by omega) (by omega)
  · have o1 := hok 1 (by omega) (by omega)
    have o2 := hok 2 (by omega) (by omega)
    simp only [okAt, if_true] at o1
    simp only [okAt, if_neg (show ¬ (2 : Nat) = 1 by decide)] at o2
    exact join3 b off cap _ _ _ w hT c0 (bts_at hB 1 (by omega)) (bts_at hB 2 (by omega)) hc hmm h h' (by omega) (by omega) (by omega) (by omega)
  · have o1 := hok 1 (by omega) (by omega)
    have o2 := hok 2 (by omega) (by omega)
    have o3 := hok 3 (by omega) (by omega)
    simp only [okAt, if_true] at o1
    simp only [okAt, if_neg (show ¬ (2 : Nat) = 1 by decide)] at o2
    simp only [okAt, if_neg (show ¬ (3 : Nat) = 1 by decide)] at o3
    exact join4 b off cap _ _ _ _ w hT c0 (bts_at hB 1 (by omega)) (bts_at hB 2 (by omega)) (bts_at hB 3 (by omega)) hc hmm h h' (by omega) (by omega) (by omega) (by omega) (by omega) (by omega)
theorem byt_at {zs : List Int} (h : Byt zs) (j : Nat) (hj : j < zs.length) : 0 ≤ gd zs j ∧ gd zs j ≤ 255 := by rw [← gd_at hj]; exact h.at j hj

set_option maxRecDepth 100000 in
set_option maxHeartbeats 4000000 in
theorem next_more (b off n cap s : Nat) (zs : List Int) (z fa fb fl fh : Int) (w : World) (hT : Tabs w) (hB : Bts w b off zs) (hbw : b < w.heap.size) (hy : Byt zs) (hn : Hid (zs.length = n)) (hp : 0 < n) (hm : n ≤ cap) (hcm : cap ≤ maxLen)
    (HZ : Hid (gd zs 0 = z)) (h00 : 0 ≤ z) (h01 : z ≤ 255) (c0 : w.cell? ⟨b, off, none⟩ = some (.int .u8 z)) (HSZ : Hid (szI z = s)) (hs1 : 1 ≤ s) (hs4 : s ≤ 4) (HL : Hid (2 ≤ s → fl = lo2 z ∧ fh = hi2 z))
    (HF : Hid (Calls Tryd.prog 85 #[.int .u8 z] w fun e w' => e = .returned (.tuple #[fstV ⟨fa, fb, s, fl, fh⟩, .bool true]) ∧ Below w.heap.size w w')) (hns : n < s) :
    Calls Tryd.prog 79 #[.slice (some ⟨b, off, none⟩) n cap] w fun e w' => ((e = tup3 0 0 3 ∧ ¬ okTo zs n) ∨ (e = tup3 0 0 11 ∧ okTo zs n)) ∧ Below w.heap.size w w' := by
  unfold maxLen at hcm
  have HB0 := Lib.hid hB
  have HY := Lib.hid hy
  have HT := Lib.hid hT
  have HBW := Lib.hid hbw
  clear hB hy hT hbw
  have hn' : (0 : Int) < (n : Int) := by omega
  have hne : ((n : Int) == 0) = false := by simp; omega
  have hns' : (n : Int) < (s : Int) := by omega
  go_enter Tryd.func79, Tryd.ntmps79
  go_wp2_with fail
  refine HF.out.mono ?_
  rintro e w1 ⟨rfl, hb⟩
  clear HF c0
  have HB := Lib.hid hb
  clear hb
  simp only [fstV]
  go_wp2
  have HD : Hid (∃ Wf, Wf = w1.alloc (.cells #[.int .u8 fa, .int .u8 fb, .int .i64 (s : Int), .int .u8 fl, .int .u8 fh] 159) ∧ Wf.heap[w1.heap.size]? = some (.cells #[.int .u8 fa, .int .u8 fb, .int .i64 (s : Int), .int .u8 fl, .int .u8 fh] 159 (0, 0)) ∧ w1.heap.size < Wf.heap.size ∧ Below w.heap.size w Wf) :=
    ⟨_, rfl, heap_alloc_new _ _, by simp, HB.out.alloc HB.out.size _⟩
  obtain ⟨Wf, hWf, hblk, hgl, hbf⟩ := HD.out
  rw [← hWf]
  clear hWf HD HB
  have HBK := Lib.hid hblk
  have HBF := Lib.hid hbf
  have HGL := Lib.hid hgl
  clear hblk hbf hgl
  revert HBK HGL
  generalize w1.heap.size = g
  intro HBK HGL
  go_loopw [8] (fun i wr => ∃ k : Nat, 1 ≤ k ∧ k ≤ n ∧ i = .int .i64 k ∧ okTo zs k ∧ Below Wf.heap.size Wf wr) (fun i _ => n - (intOf i).toNat)
  case atStart => exact ⟨1, by omega, by omega, rfl, fun j hj h1 => by omega, Below.refl _ _⟩
  case round =>
    obtain ⟨k, hk1, hk, rfl, hok, hW⟩ := hrel
    have HO := Lib.hid hok
    have HW := Lib.hid hW
    have hzk : n ≤ zs.length := by have := hn.out; omega
    clear hok hW
    have d0 : wr.cell? ⟨g, 0, none⟩ = some (.int .u8 fa) := (HW.out.cell (p := ⟨g, 0, none⟩) HGL.out).trans (blk_cell HBK.out 0)
    have d1 : wr.cell? ⟨g, 1, none⟩ = some (.int .u8 fb) := (HW.out.cell (p := ⟨g, 1, none⟩) HGL.out).trans (blk_cell HBK.out 1)
    have d2 : wr.cell? ⟨g, 2, none⟩ = some (.int .i64 (s : Int)) := (HW.out.cell (p := ⟨g, 2, none⟩) HGL.out).trans (blk_cell HBK.out 2)
    have d3 : wr.cell? ⟨g, 3, none⟩ = some (.int .u8 fl) := (HW.out.cell (p := ⟨g, 3, none⟩) HGL.out).trans (blk_cell HBK.out 3)
    have d4 : wr.cell? ⟨g, 4, none⟩ = some (.int .u8 fh) := (HW.out.cell (p := ⟨g, 4, none⟩) HGL.out).trans (blk_cell HBK.out 4)
    have HWW : Hid (Below w.heap.size w wr) := HBF.out.trans (HW.out.mono HBF.out.size)
    by_cases hlt : k < n
    · have HBA : Hid (wr.cell? ⟨b, off + k, none⟩ = some (.int .u8 (gd zs k))) := (HWW.out.cell (p := ⟨b, off + k, none⟩) HBW.out).trans (bts_at HB0.out k (by omega))
      have hby := byt_at HY.out k (by omega)
      have HGO : Hid (goB ⟨fa, fb, s, fl, fh⟩ k (gd zs k) = decide (okAt zs k)) := by
        obtain ⟨hl, hh⟩ := HL.out (by omega)
        exact go_ok hk1 (by rw [HZ.out]; exact hl) (by rw [HZ.out]; exact hh)
      revert HBA hby HGO
      generalize gd zs k = y
      intro HBA hby HGO
      obtain ⟨hy0, hy1⟩ := hby
      have hba := HBA.out
      have hk0' : (0 : Int) ≤ (k : Int) := by omega
      have hkn' : (k : Int) < (n : Int) := by omega
      by_cases hoa : okAt zs k
      · have HGC : Hid (∀ W : World, Calls Tryd.prog 86 #[.agg #[.int .u8 fa, .int .u8 fb, .int .i64 (s : Int), .int .u8 fl, .int .u8 fh], .int .i64 (k : Int), .int .u8 y] W fun e w' => e = .returned (.bool true) ∧ Below W.heap.size W w') := fun W => by
          have h := goes_c ⟨fa, fb, s, fl, fh⟩ k y W hy0 hy1
          rw [HGO.out, decide_eq_true hoa] at h
          exact h
        have HOA := Lib.hid hoa
        clear hoa
        go_wp2
        go_still_tail 6, (by kernel_rfl)
        change wpList _ _ _ _ _ wr.drew
        have HW2 : Hid (Below Wf.heap.size Wf wr.drew) := HW.out.drew
        revert HW2
        generalize wr.drew = w2
        intro HW2
        go_wp2_with (go_at_call 86; refine (HGC.out _).mono ?_; rintro e w3 ⟨rfl, hb3⟩; have HB3 := Lib.hid hb3; clear hb3)
        go_roundw
        case rel => exact ⟨k + 1, by omega, by omega, by go_num, okTo_succ HO.out HOA.out, HW2.out.trans (HB3.out.mono HW2.out.size)⟩
        case measure => simp [intOf]; omega
      · have HGC : Hid (∀ W : World, Calls Tryd.prog 86 #[.agg #[.int .u8 fa, .int .u8 fb, .int .i64 (s : Int), .int .u8 fl, .int .u8 fh], .int .i64 (k : Int), .int .u8 y] W fun e w' => e = .returned (.bool false) ∧ Below W.heap.size W w') := fun W => by
          have h := goes_c ⟨fa, fb, s, fl, fh⟩ k y W hy0 hy1
          rw [HGO.out, decide_eq_false hoa] at h
          exact h
        have HOA := Lib.hid hoa
        clear hoa
        go_wp2
        go_still_tail 6, (by kernel_rfl)
        change wpList _ _ _ _ _ wr.drew
        have HW2 : Hid (Below w.heap.size w wr.drew) := HWW.out.drew
        revert HW2
        generalize wr.drew = w2
        intro HW2
        go_wp2_with (go_at_call 86; refine (HGC.out _).mono ?_; rintro e w3 ⟨rfl, hb3⟩; have HB3 := Lib.hid hb3; clear hb3)
        go_ret3
        exact ⟨Or.inl ⟨rfl, fun h => HOA.out (h k hlt hk1)⟩, HW2.out.trans (HB3.out.mono HW2.out.size)⟩
    · have hkH : k = n := by omega
      subst hkH
      go_wp2
      go_ret3
      exact ⟨Or.inr ⟨rfl, HO.out⟩, HWW.out⟩

set_option maxRecDepth 100000 in
set_option maxHeartbeats 4000000 in
theorem next_all (b off n cap s : Nat) (zs : List Int) (z fa fb fl fh : Int) (w : World) (hT : Tabs w) (hB : Bts w b off zs) (hbw : b < w.heap.size) (hy : Byt zs) (hn : Hid (zs.length = n)) (hp : 0 < n) (hm : n ≤ cap) (hcm : cap ≤ maxLen)
    (HZ : Hid (gd zs 0 = z)) (h00 : 0 ≤ z) (h01 : z ≤ 255) (c0 : w.cell? ⟨b, off, none⟩ = some (.int .u8 z)) (HSZ : Hid (szI z = s)) (hs1 : 1 ≤ s) (hs4 : s ≤ 4) (HL : Hid (2 ≤ s → fl = lo2 z ∧ fh = hi2 z))
    (HF : Hid (Calls Tryd.prog 85 #[.int .u8 z] w fun e w' => e = .returned (.tuple #[fstV ⟨fa, fb, s, fl, fh⟩, .bool true]) ∧ Below w.heap.size w w')) (hns : s < n) :
    Calls Tryd.prog 79 #[.slice (some ⟨b, off, none⟩) n cap] w fun e w' => ((e = tup3 0 0 3 ∧ ¬ okTo zs s) ∨ (e = tup3 (valT zs s) s 0 ∧ okTo zs s)) ∧ Below w.heap.size w w' := by
  unfold maxLen at hcm
  have HB0 := Lib.hid hB
  have HY := Lib.hid hy
  have HT := Lib.hid hT
  have HBW := Lib.hid hbw
  clear hB hy hT hbw
  have hn' : (0 : Int) < (n : Int) := by omega
  have hne : ((n : Int) == 0) = false := by simp; omega
  have hns' : (s : Int) < (n : Int) := by omega
  go_enter Tryd.func79, Tryd.ntmps79
  go_wp2_with fail
  refine HF.out.mono ?_
  rintro e w1 ⟨rfl, hb⟩
  clear HF c0
  have HB := Lib.hid hb
  clear hb
  simp only [fstV]
  go_wp2
  have HD : Hid (∃ Wf, Wf = w1.alloc (.cells #[.int .u8 fa, .int .u8 fb, .int .i64 (s : Int), .int .u8 fl, .int .u8 fh] 159) ∧ Wf.heap[w1.heap.size]? = some (.cells #[.int .u8 fa, .int .u8 fb, .int .i64 (s : Int), .int .u8 fl, .int .u8 fh] 159 (0, 0)) ∧ w1.heap.size < Wf.heap.size ∧ Below w.heap.size w Wf) :=
    ⟨_, rfl, heap_alloc_new _ _, by simp, HB.out.alloc HB.out.size _⟩
  obtain ⟨Wf, hWf, hblk, hgl, hbf⟩ := HD.out
  rw [← hWf]
  clear hWf HD HB
  have HBK := Lib.hid hblk
  have HBF := Lib.hid hbf
  have HGL := Lib.hid hgl
  clear hblk hbf hgl
  revert HBK HGL
  generalize w1.heap.size = g
  intro HBK HGL
  go_loopw [8] (fun i wr => ∃ k : Nat, 1 ≤ k ∧ k ≤ s ∧ i = .int .i64 k ∧ okTo zs k ∧ Below Wf.heap.size Wf wr) (fun i _ => s - (intOf i).toNat)
  case atStart => exact ⟨1, by omega, by omega, rfl, fun j hj h1 => by omega, Below.refl _ _⟩
  case round =>
    obtain ⟨k, hk1, hk, rfl, hok, hW⟩ := hrel
    have HO := Lib.hid hok
    have HW := Lib.hid hW
    have hzk : s ≤ zs.length := by have := hn.out; omega
    clear hok hW
    have d0 : wr.cell? ⟨g, 0, none⟩ = some (.int .u8 fa) := (HW.out.cell (p := ⟨g, 0, none⟩) HGL.out).trans (blk_cell HBK.out 0)
    have d1 : wr.cell? ⟨g, 1, none⟩ = some (.int .u8 fb) := (HW.out.cell (p := ⟨g, 1, none⟩) HGL.out).trans (blk_cell HBK.out 1)
    have d2 : wr.cell? ⟨g, 2, none⟩ = some (.int .i64 (s : Int)) := (HW.out.cell (p := ⟨g, 2, none⟩) HGL.out).trans (blk_cell HBK.out 2)
    have d3 : wr.cell? ⟨g, 3, none⟩ = some (.int .u8 fl) := (HW.out.cell (p := ⟨g, 3, none⟩) HGL.out).trans (blk_cell HBK.out 3)
    have d4 : wr.cell? ⟨g, 4, none⟩ = some (.int .u8 fh) := (HW.out.cell (p := ⟨g, 4, none⟩) HGL.out).trans (blk_cell HBK.out 4)
    have HWW : Hid (Below w.heap.size w wr) := HBF.out.trans (HW.out.mono HBF.out.size)
    by_cases hlt : k < s
    · have HBA : Hid (wr.cell? ⟨b, off + k, none⟩ = some (.int .u8 (gd zs k))) := (HWW.out.cell (p := ⟨b, off + k, none⟩) HBW.out).trans (bts_at HB0.out k (by omega))
      have hby := byt_at HY.out k (by omega)
      have HGO : Hid (goB ⟨fa, fb, s, fl, fh⟩ k (gd zs k) = decide (okAt zs k)) := by
        obtain ⟨hl, hh⟩ := HL.out (by omega)
        exact go_ok hk1 (by rw [HZ.out]; exact hl) (by rw [HZ.out]; exact hh)
      revert HBA hby HGO
      generalize gd zs k = y
      intro HBA hby HGO
      obtain ⟨hy0, hy1⟩ := hby
      have hba := HBA.out
      have hk0' : (0 : Int) ≤ (k : Int) := by omega
      have hkn' : (k : Int) < (n : Int) := by omega
      by_cases hoa : okAt zs k
      · have HGC : Hid (∀ W : World, Calls Tryd.prog 86 #[.agg #[.int .u8 fa, .int .u8 fb, .int .i64 (s : Int), .int .u8 fl, .int .u8 fh], .int .i64 (k : Int), .int .u8 y] W fun e w' => e = .returned (.bool true) ∧ Below W.heap.size W w') := fun W => by
          have h := goes_c ⟨fa, fb, s, fl, fh⟩ k y W hy0 hy1
          rw [HGO.out, decide_eq_true hoa] at h
          exact h
        have HOA := Lib.hid hoa
        clear hoa
        go_wp2
        go_still_tail 6, (by kernel_rfl)
        change wpList _ _ _ _ _ wr.drew
        have HW2 : Hid (Below Wf.heap.size Wf wr.drew) := HW.out.drew
        revert HW2
        generalize wr.drew = w2
        intro HW2
        go_wp2_with (go_at_call 86; refine (HGC.out _).mono ?_; rintro e w3 ⟨rfl, hb3⟩; have HB3 := Lib.hid hb3; clear hb3)
        go_roundw
        case rel => exact ⟨k + 1, by omega, by omega, by go_num, okTo_succ HO.out HOA.out, HW2.out.trans (HB3.out.mono HW2.out.size)⟩
        case measure => simp [intOf]; omega
      · have HGC : Hid (∀ W : World, Calls Tryd.prog 86 #[.agg #[.int .u8 fa, .int .u8 fb, .int .i64 (s : Int), .int .u8 fl, .int .u8 fh], .int .i64 (k : Int), .int .u8 y] W fun e w' => e = .returned (.bool false) ∧ Below W.heap.size W w') := fun W => by
          have h := goes_c ⟨fa, fb, s, fl, fh⟩ k y W hy0 hy1
          rw [HGO.out, decide_eq_false hoa] at h
          exact h
        have HOA := Lib.hid hoa
        clear hoa
        go_wp2
        go_still_tail 6, (by kernel_rfl)
        change wpList _ _ _ _ _ wr.drew
        have HW2 : Hid (Below w.heap.size w wr.drew) := HWW.out.drew
        revert HW2
        generalize wr.drew = w2
        intro HW2
        go_wp2_with (go_at_call 86; refine (HGC.out _).mono ?_; rintro e w3 ⟨rfl, hb3⟩; have HB3 := Lib.hid hb3; clear hb3)
        go_ret3
        exact ⟨Or.inl ⟨rfl, fun h => HOA.out (h k hlt hk1)⟩, HW2.out.trans (HB3.out.mono HW2.out.size)⟩
    · have hkH : k = s := by omega
      subst hkH
      have HTW : Hid (Tabs wr) := HT.out.below HWW.out HT.out.two
      have HBW2 : Hid (Bts wr b off zs) := HB0.out.below HWW.out HBW.out
      have hkc : (k : Int) ≤ (cap : Int) := by omega
      have HJ : Hid (∀ W : World, Tabs W → Bts W b off zs → Calls Tryd.prog 87 #[.slice (some ⟨b, off, none⟩) k cap] W fun e w' => e = .returned (.int .i32 (valT zs k)) ∧ Below W.heap.size W w') :=
        fun W hTW hBW => join_c b off cap k zs W hTW hBW (by omega) (by omega) hcm (by omega) hs4 (by rw [HZ.out]; exact h00) (by rw [HZ.out]; exact HSZ.out) HO.out
      go_wp2_with (go_at_call 87; refine (HJ.out _ HTW.out HBW2.out).mono ?_; rintro e w3 ⟨rfl, hb3⟩; have HB3 := Lib.hid hb3; clear hb3)
      go_ret3
      exact ⟨Or.inr ⟨rfl, HO.out⟩, HWW.out.trans (HB3.out.mono HWW.out.size)⟩

set_option maxRecDepth 100000 in
set_option maxHeartbeats 4000000 in
theorem next_eq (b off cap s : Nat) (zs : List Int) (z fa fb fl fh : Int) (w : World) (hT : Tabs w) (hB : Bts w b off zs) (hbw : b < w.heap.size) (hy : Byt zs) (hn : Hid (zs.length = s)) (hp : 0 < s) (hm : s ≤ cap) (hcm : cap ≤ maxLen)
    (HZ : Hid (gd zs 0 = z)) (h00 : 0 ≤ z) (h01 : z ≤ 255) (c0 : w.cell? ⟨b, off, none⟩ = some (.int .u8 z)) (HSZ : Hid (szI z = s)) (hs1 : 1 ≤ s) (hs4 : s ≤ 4) (HL : Hid (2 ≤ s → fl = lo2 z ∧ fh = hi2 z))
    (HF : Hid (Calls Tryd.prog 85 #[.int .u8 z] w fun e w' => e = .returned (.tuple #[fstV ⟨fa, fb, s, fl, fh⟩, .bool true]) ∧ Below w.heap.size w w'))  :
    Calls Tryd.prog 79 #[.slice (some ⟨b, off, none⟩) s cap] w fun e w' => ((e = tup3 0 0 3 ∧ ¬ okTo zs s) ∨ (e = tup3 (valT zs s) s 0 ∧ okTo zs s)) ∧ Below w.heap.size w w' := by
  unfold maxLen at hcm
  have HB0 := Lib.hid hB
  have HY := Lib.hid hy
  have HT := Lib.hid hT
  have HBW := Lib.hid hbw
  clear hB hy hT hbw
  have hn' : (0 : Int) < (s : Int) := by omega
  have hne : ((s : Int) == 0) = false := by simp; omega
  go_enter Tryd.func79, Tryd.ntmps79
  go_wp2_with fail
  refine HF.out.mono ?_
  rintro e w1 ⟨rfl, hb⟩
  clear HF c0
  have HB := Lib.hid hb
  clear hb
  simp only [fstV]
  go_wp2
  have HD : Hid (∃ Wf, Wf = w1.alloc (.cells #[.int .u8 fa, .int .u8 fb, .int .i64 (s : Int), .int .u8 fl, .int .u8 fh] 159) ∧ Wf.heap[w1.heap.size]? = some (.cells #[.int .u8 fa, .int .u8 fb, .int .i64 (s : Int), .int .u8 fl, .int .u8 fh] 159 (0, 0)) ∧ w1.heap.size < Wf.heap.size ∧ Below w.heap.size w Wf) :=
    ⟨_, rfl, heap_alloc_new _ _, by simp, HB.out.alloc HB.out.size _⟩
  obtain ⟨Wf, hWf, hblk, hgl, hbf⟩ := HD.out
  rw [← hWf]
  clear hWf HD HB
  have HBK := Lib.hid hblk
  have HBF := Lib.hid hbf
  have HGL := Lib.hid hgl
  clear hblk hbf hgl
  revert HBK HGL
  generalize w1.heap.size = g
  intro HBK HGL
  go_loopw [8] (fun i wr => ∃ k : Nat, 1 ≤ k ∧ k ≤ s ∧ i = .int .i64 k ∧ okTo zs k ∧ Below Wf.heap.size Wf wr) (fun i _ => s - (intOf i).toNat)
  case atStart => exact ⟨1, by omega, by omega, rfl, fun j hj h1 => by omega, Below.refl _ _⟩
  case round =>
    obtain ⟨k, hk1, hk, rfl, hok, hW⟩ := hrel
    have HO := Lib.hid hok
    have HW := Lib.hid hW
    have hzk : s ≤ zs.length := by have := hn.out; omega
    clear hok hW
    have d0 : wr.cell? ⟨g, 0, none⟩ = some (.int .u8 fa) := (HW.out.cell (p := ⟨g, 0, none⟩) HGL.out).trans (blk_cell HBK.out 0)
    have d1 : wr.cell? ⟨g, 1, none⟩ = some (.int .u8 fb) := (HW.out.cell (p := ⟨g, 1, none⟩) HGL.out).trans (blk_cell HBK.out 1)
    have d2 : wr.cell? ⟨g, 2, none⟩ = some (.int .i64 (s : Int)) := (HW.out.cell (p := ⟨g, 2, none⟩) HGL.out).trans (blk_cell HBK.out 2)
    have d3 : wr.cell? ⟨g, 3, none⟩ = some (.int .u8 fl) := (HW.out.cell (p := ⟨g, 3, none⟩) HGL.out).trans (blk_cell HBK.out 3)
    have d4 : wr.cell? ⟨g, 4, none⟩ = some (.int .u8 fh) := (HW.out.cell (p := ⟨g, 4, none⟩) HGL.out).trans (blk_cell HBK.out 4)
    have HWW : Hid (Below w.heap.size w wr) := HBF.out.trans (HW.out.mono HBF.out.size)
    by_cases hlt : k < s
    · have HBA : Hid (wr.cell? ⟨b, off + k, none⟩ = some (.int .u8 (gd zs k))) := (HWW.out.cell (p := ⟨b, off + k, none⟩) HBW.out).trans (bts_at HB0.out k (by omega))
      have hby := byt_at HY.out k (by omega)
      have HGO : Hid (goB ⟨fa, fb, s, fl, fh⟩ k (gd zs k) = decide (okAt zs k)) := by
        obtain ⟨hl, hh⟩ := HL.out (by omega)
        exact go_ok hk1 (by rw [HZ.out]; exact hl) (by rw [HZ.out]; exact hh)
      revert HBA hby HGO
      generalize gd zs k = y
      intro HBA hby HGO
      obtain ⟨hy0, hy1⟩ := hby
      have hba := HBA.out
      have hk0' : (0 : Int) ≤ (k : Int) := by omega
      have hkn' : (k : Int) < (s : Int) := by omega
      by_cases hoa : okAt zs k
      · have HGC : Hid (∀ W : World, Calls Tryd.prog 86 #[.agg #[.int .u8 fa, .int .u8 fb, .int .i64 (s : Int), .int .u8 fl, .int .u8 fh], .int .i64 (k : Int), .int .u8 y] W fun e w' => e = .returned (.bool true) ∧ Below W.heap.size W w') := fun W => by
          have h := goes_c ⟨fa, fb, s, fl, fh⟩ k y W hy0 hy1
          rw [HGO.out, decide_eq_true hoa] at h
          exact h
        have HOA := Lib.hid hoa
        clear hoa
        go_wp2
        go_still_tail 6, (by kernel_rfl)
        change wpList _ _ _ _ _ wr.drew
        have HW2 : Hid (Below Wf.heap.size Wf wr.drew) := HW.out.drew
        revert HW2
        generalize wr.drew = w2
        intro HW2
        go_wp2_with (go_at_call 86; refine (HGC.out _).mono ?_; rintro e w3 ⟨rfl, hb3⟩; have HB3 := Lib.hid hb3; clear hb3)
        go_roundw
        case rel => exact ⟨k + 1, by omega, by omega, by go_num, okTo_succ HO.out HOA.out, HW2.out.trans (HB3.out.mono HW2.out.size)⟩
        case measure => simp [intOf]; omega
      · have HGC : Hid (∀ W : World, Calls Tryd.prog 86 #[.agg #[.int .u8 fa, .int .u8 fb, .int .i64 (s : Int), .int .u8 fl, .int .u8 fh], .int .i64 (k : Int), .int .u8 y] W fun e w' => e = .returned (.bool false) ∧ Below W.heap.size W w') := fun W => by
          have h := goes_c ⟨fa, fb, s, fl, fh⟩ k y W hy0 hy1
          rw [HGO.out, decide_eq_false hoa] at h
          exact h
        have HOA := Lib.hid hoa
        clear hoa
        go_wp2
        go_still_tail 6, (by kernel_rfl)
        change wpList _ _ _ _ _ wr.drew
        have HW2 : Hid (Below w.heap.size w wr.drew) := HWW.out.drew
        revert HW2
        generalize wr.drew = w2
        intro HW2
        go_wp2_with (go_at_call 86; refine (HGC.out _).mono ?_; rintro e w3 ⟨rfl, hb3⟩; have HB3 := Lib.hid hb3; clear hb3)
        go_ret3
        exact ⟨Or.inl ⟨rfl, fun h => HOA.out (h k hlt hk1)⟩, HW2.out.trans (HB3.out.mono HW2.out.size)⟩
    · have hkH : k = s := by omega
      subst hkH
      have HTW : Hid (Tabs wr) := HT.out.below HWW.out HT.out.two
      have HBW2 : Hid (Bts wr b off zs) := HB0.out.below HWW.out HBW.out
      have hkc : (k : Int) ≤ (cap : Int) := by omega
      have HJ : Hid (∀ W : World, Tabs W → Bts W b off zs → Calls Tryd.prog 87 #[.slice (some ⟨b, off, none⟩) k cap] W fun e w' => e = .returned (.int .i32 (valT zs k)) ∧ Below W.heap.size W w') :=
        fun W hTW hBW => join_c b off cap k zs W hTW hBW (by omega) (by omega) hcm (by omega) hs4 (by rw [HZ.out]; exact h00) (by rw [HZ.out]; exact HSZ.out) HO.out
      go_wp2_with (go_at_call 87; refine (HJ.out _ HTW.out HBW2.out).mono ?_; rintro e w3 ⟨rfl, hb3⟩; have HB3 := Lib.hid hb3; clear hb3)
      go_ret3
      exact ⟨Or.inr ⟨rfl, HO.out⟩, HWW.out.trans (HB3.out.mono HWW.out.size)⟩

end Go.Proofs.YtkphainopofejaaDoor.Ut

/- The law NoteTurns answers yes; no other condition. -/
import Derived.Test.YtneogelhdikcaaaNtS
import Derived.Deep.RegionHeld3
namespace Go.Proofs.Ytneogelhdikcaaa.Nt
open Go.RowKit Go.Lib Go.Maps
set_option linter.unusedSimpArgs false
set_option linter.unusedVariables false

/-- does a group fire, by the last entry of it? -/
def stt (g : Tx) (l : List Ent) : Bool := l.foldl (fun b x => if x.2.2.1 = g then x.2.2.2 else b) false
theorem stt_snoc (g : Tx) (l : List Ent) (x : Ent) : stt g (l ++ [x]) = if x.2.2.1 = g then x.2.2.2 else stt g l := by unfold stt; rw [List.foldl_append]; rfl
theorem stt_none {g : Tx} : ∀ (l m : List Ent), (∀ x ∈ m, x.2.2.1 ≠ g) → stt g (l ++ m) = stt g l := by
  intro l m
  induction m generalizing l with
  | nil => intro _; simp
  | cons x m ih =>
    intro h
    rw [show l ++ x :: m = (l ++ [x]) ++ m by simp, ih (l ++ [x]) (fun y hy => h y (List.mem_cons_of_mem _ hy)), stt_snoc, if_neg (h x (List.mem_cons_self ..))]
/-- entries are in turn -/
def Turn (l : List Ent) : Prop := ∀ i (h : i < l.length), l[i].2.2.2 ≠ stt l[i].2.2.1 (l.take i)
theorem Turn.snoc {l : List Ent} (h : Turn l) (x : Ent) (hx : x.2.2.2 ≠ stt x.2.2.1 l) : Turn (l ++ [x]) := fun i hi => by
  rcases Nat.lt_or_ge i l.length with q | q
  · rw [List.getElem_append_left q, List.take_append_of_le_length (Nat.le_of_lt q)]
    exact h i q
  · have e : i = l.length := by rw [List.length_append] at hi; simp at hi; omega
    subst e
    rw [List.take_left]
    have : (l ++ [x])[l.length] = x := by simp
    rw [this]; exact hx
/-- numbers given to what is told keep all in turn -/
theorem turn_nums {old now : List Tx} (rev : Int) : ∀ (tl : List TB) (l : List Ent) (n : Nat), AscG tl → (∀ x ∈ tl, x.2 = decide (x.1 ∈ now) ∧ decide (x.1 ∈ now) ≠ decide (x.1 ∈ old)) → Turn l → (∀ x ∈ tl, stt x.1 l = decide (x.1 ∈ old)) →
    Turn (l ++ nums rev n tl) ∧ (∀ g, stt g (l ++ nums rev n tl) = if (∃ x ∈ tl, x.1 = g) then decide (g ∈ now) else stt g l)
  | [], l, n, _, _, ht, _ => by
    refine ⟨by simpa [nums] using ht, fun g => ?_⟩
    simp [nums]
  | x :: tl, l, n, ha, hx, ht, hs => by
    obtain ⟨ha1, ha2⟩ := List.pairwise_cons.1 ha
    obtain ⟨hx1, hx2⟩ := hx x (List.mem_cons_self ..)
    have hsx := hs x (List.mem_cons_self ..)
    have e : l ++ nums rev n (x :: tl) = (l ++ [((n : Int) + 1, rev, x.1, x.2)]) ++ nums rev (n + 1) tl := by rw [nums]; simp
    rw [e]
    have ht2 := ht.snoc ((n : Int) + 1, rev, x.1, x.2) (by show x.2 ≠ stt x.1 l; rw [hx1, hsx]; exact hx2)
    obtain ⟨h1, h2⟩ := turn_nums rev tl (l ++ [((n : Int) + 1, rev, x.1, x.2)]) (n + 1) ha2 (fun y hy => hx y (List.mem_cons_of_mem _ hy)) ht2 (fun y hy => by
      rw [stt_snoc, if_neg (tlt_ne (ha1 y hy))]
      exact hs y (List.mem_cons_of_mem _ hy))
    refine ⟨h1, fun g => ?_⟩
    rw [h2 g, stt_snoc]
    by_cases hg : ∃ y ∈ tl, y.1 = g
    · have hg2 : ∃ y ∈ x :: tl, y.1 = g := by obtain ⟨y, hy, hh⟩ := hg; exact ⟨y, List.mem_cons_of_mem _ hy, hh⟩
      rw [if_pos hg, if_pos hg2]
    · rw [if_neg hg]
      by_cases hxg : x.1 = g
      · rw [if_pos hxg, if_pos ⟨x, List.mem_cons_self .., hxg⟩]
        show x.2 = _
        rw [hx1, hxg]
      · have hg2 : ¬ ∃ y ∈ x :: tl, y.1 = g := by
          rintro ⟨y, hy, hh⟩
          rcases List.mem_cons.1 hy with rfl | hy
          · exact hxg hh
          · exact hg ⟨y, hy, hh⟩
        rw [if_neg hxg, if_neg hg2]
theorem all_turn (f : Nat → Int) (ls : List (List Tx)) : ∀ j, Turn (allL f ls j) ∧ ∀ g, stt g (allL f ls j) = decide (g ∈ nowL ls j)
  | 0 => ⟨fun i h => by simp [allL] at h, fun g => by simp [allL, nowL, stt]⟩
  | k + 1 => by
    obtain ⟨h1, h2⟩ := all_turn f ls k
    have e1 : nowL ls (k + 1) = canon ((ls.getD k []).take 8) := rfl
    have e2 : allL f ls (k + 1) = allL f ls k ++ nums (f k) (allL f ls k).length (told (nowL ls (k + 1)) (nowL ls k)) := rfl
    have ha : Asc (nowL ls (k + 1)) := nowL_asc ls (k + 1)
    obtain ⟨h3, h4⟩ := turn_nums (old := nowL ls k) (now := nowL ls (k + 1)) (f k) (told (nowL ls (k + 1)) (nowL ls k)) (allL f ls k) (allL f ls k).length (told_asc ha) (fun x hx => by
      rcases mem_told.1 hx with ⟨a, b, c⟩ | ⟨a, b, c⟩
      · rw [c, decide_eq_true a, decide_eq_false b]; exact ⟨rfl, by decide⟩
      · rw [c, decide_eq_true a, decide_eq_false b]; exact ⟨rfl, by decide⟩) h1 (fun x _ => h2 x.1)
    rw [e2]
    refine ⟨h3, fun g => ?_⟩
    rw [h4 g]
    split
    · rfl
    · rename_i hg
      rw [h2 g]
      by_cases a : g ∈ nowL ls (k + 1)
      · by_cases b : g ∈ nowL ls k
        · rw [decide_eq_true a, decide_eq_true b]
        · exact absurd ⟨(g, true), mem_told.2 (.inl ⟨a, b, rfl⟩), rfl⟩ hg
      · by_cases b : g ∈ nowL ls k
        · exact absurd ⟨(g, false), mem_told.2 (.inr ⟨b, a, rfl⟩), rfl⟩ hg
        · rw [decide_eq_false a, decide_eq_false b]
/-- no entry of a group from one place on to another -/
def non (g : Tx) (all : List Ent) (i k : Nat) : Bool := (((all.take k).drop (i + 1)).all fun y => !decide (y.2.2.1 = g))
theorem non_low {g : Tx} {all : List Ent} {i k : Nat} (h : k ≤ i + 1) : non g all i k = true := by
  unfold non
  rw [List.drop_of_length_le (by rw [List.length_take]; omega)]; rfl
theorem non_succ {g : Tx} {all : List Ent} {i k : Nat} (hk : k < all.length) (h : i < k) : non g all i (k + 1) = (non g all i k && !decide (all[k].2.2.1 = g)) := by
  unfold non
  rw [List.take_succ_eq_append_getElem hk, List.drop_append_of_le_length (by rw [List.length_take]; omega), List.all_append]
  simp
theorem non_end {g : Tx} {all : List Ent} {i : Nat} (hi : i < all.length) (hg : all[i].2.2.1 = g) (h : non g all i all.length = true) : stt g all = all[i].2.2.2 := by
  have e : all = (all.take i ++ [all[i]]) ++ all.drop (i + 1) := by
    rw [← List.take_succ_eq_append_getElem hi, List.take_append_drop]
  have e2 : stt g all = stt g ((all.take i ++ [all[i]]) ++ all.drop (i + 1)) := by rw [← e]
  rw [e2, stt_none, stt_snoc, if_pos hg]
  intro x hx
  unfold non at h
  rw [List.take_length, List.all_eq_true] at h
  have := h x hx
  simpa using this
/-- what the loop over all knows of before -/
theorem stt_take_succ {g : Tx} {all : List Ent} {k : Nat} (hk : k < all.length) : stt g (all.take (k + 1)) = if all[k].2.2.1 = g then all[k].2.2.2 else stt g (all.take k) := by
  rw [List.take_succ_eq_append_getElem hk, stt_snoc]
theorem lists_of2 {H : Type} {enc : TypeId × Value → H} {W : World} {a : Option Addr} {len cap : Nat} {d : DataW H} {p : List MemPlace} (h : DataW.Trod enc Try.prog W 0 (fun _ => true) true 22 (.slice a len cap) d p) : ∃ ls, IsLs W (.slice a len cap) ls ∧ ls.length ≤ maxLen := by
  obtain ⟨ls, hls⟩ := lists_of h
  refine ⟨ls, hls, ?_⟩
  obtain ⟨ao, cp, e, _⟩ := hls
  injection e with _ e2 _
  obtain ⟨fuel, hf⟩ := h
  rcases Deep.open_slice1 Try.underlying22 (by kernel_rfl) hf with ⟨hcs, _⟩ | ⟨x, l, c, m, n, V, D, Pl, hcs, hb, hl, hm, hmm, _, hx⟩
  · simp [Value.cells] at hcs
    obtain ⟨_, h2, _⟩ := hcs
    unfold maxLen; omega
  · simp [Value.cells] at hcs
    obtain ⟨_, h2, h3⟩ := hcs
    omega
set_option maxRecDepth 100000 in
set_option maxHeartbeats 8000000 in
theorem turns_law (v : Value) (ls : List (List Tx)) (w : World) (h : IsLs w v ls) (hlm : ls.length ≤ maxLen) :
    Calls Try.prog 4 #[v] w fun e w' => e = .returned (.bool true) ∧ Below w.heap.size w w' := by
  obtain ⟨ao, cap, rfl, hat⟩ := h
  have HAT := Lib.hid hat
  unfold maxLen at hlm
  clear hat
  go_enter Try.func4, Try.ntmps4
  go_wp2_with fail
  refine (New_n 1000 w).mono ?_
  rintro e w1 ⟨rfl, hn1, hb1⟩
  have K0 := Lib.hid hn1
  have HB0 := Lib.hid hb1
  clear hn1 hb1
  obtain ⟨c, hc⟩ : ∃ c, c = w.heap.size := ⟨_, rfl⟩
  rw [← hc] at K0
  rw [← hc]
  have HC := Lib.hid hc
  have e0 : Hid (Below c w w1) := by rw [hc]; exact HB0
  clear HB0 hc
  go_wp2
  go_loopw [17] (fun iv wr => ∃ (j n : Nat) (gb mb : Option Nat), j ≤ ls.length ∧ n ≤ 20 ∧ (j < 20 → n = j) ∧ iv = .int .i64 j ∧ Hid (IsNo c c gb mb 1000 (nowL ls n) (allL (fun k => (k : Int)) ls n) wr) ∧ Hid (Below c w wr)) (fun iv _ => ls.length - (intOf iv).toNat)
  case atStart => exact ⟨0, 0, none, none, by omega, by omega, fun _ => rfl, rfl, K0, e0⟩
  case round =>
    obtain ⟨j, n, gb, mb, hj, hn20, hnj, rfl, HK, HB⟩ := hrel
    clear e0 K0
    have hal := allL_len (fun k => (k : Int)) ls n
    by_cases hlt : j < ls.length
    · obtain ⟨g, off, hao, hg, hcells⟩ := HAT.out (by omega)
      obtain ⟨u, p0', hts⟩ := hcells j hlt
      have p0 := (HB.out.cell (p := ⟨g, off + j, none⟩) (by rw [HC.out]; exact hg)).trans p0'
      have hjl : (j : Int) < (ls.length : Int) := by omega
      have hj0 : (0 : Int) ≤ (j : Int) := by omega
      by_cases h20 : j < 20
      · have h20' : (j : Int) < 20 := by omega
        obtain rfl : n = j := hnj h20
        have hgd : (ls.getD n []).take 8 = ls[n].take 8 := by rw [List.getD_eq_getElem?_getD, List.getElem?_eq_getElem hlt]; rfl
        obtain ⟨g8, hg8⟩ : ∃ g8, g8 = ls[n].take 8 := ⟨_, rfl⟩
        have hl8 : g8.length ≤ 8 := by rw [hg8, List.length_take]; omega
        have HF1 : Hid (Calls Try.prog 10 #[u] wr fun e w' => w' = wr ∧ ∃ v', e = .returned v' ∧ IsTs wr v' g8) := by rw [hg8]; exact few_c u _ wr (hts.go (by rw [← HC.out]; exact HB.out))
        have HJ : Hid (∀ gb mb W, IsNo c c gb mb 1000 (canon g8) (stepE (allL (fun k => (k : Int)) ls n) (nowL ls n) (n : Int) g8) W → IsNo c c gb mb 1000 (nowL ls (n + 1)) (allL (fun k => (k : Int)) ls (n + 1)) W) := fun gb mb W h => by
          have e1 : nowL ls (n + 1) = canon g8 := by show canon ((ls.getD n []).take 8) = _; rw [hgd, hg8]
          have e2 : allL (fun k => (k : Int)) ls (n + 1) = stepE (allL (fun k => (k : Int)) ls n) (nowL ls n) (n : Int) g8 := by show stepE _ _ _ ((ls.getD n []).take 8) = _; rw [hgd, hg8]
          rw [e1, e2]; exact h
        subst hao
        clear p0' hcells hts hgd hg8 h20 hnj
        go_wp2_with fail
        (with_reducible refine HF1.out.mono ?_)
        rintro e w3 ⟨hw3, v3, rfl, hts⟩
        rw [hw3]
        clear hw3 w3
        obtain ⟨a3, c3, rfl, hlc, hsz3, hr3, _⟩ := hts
        have HST := Lib.hid (Step_n HK.out (allL_seq _ ls n) (by have := HK.out.lt; omega) (n : Int) a3 c3 g8 hr3 (by omega) hsz3 (by have := nowL_len ls n; omega) (by omega) (by omega))
        clear hlc hsz3 hr3 HF1
        go_wp2_with fail
        (with_reducible refine HST.out.mono ?_)
        rintro e w4 ⟨v4, mb4, gb4, rfl, _, hno4, hch4, _, _, _⟩
        have HK4 := Lib.hid (HJ.out _ _ _ hno4)
        have HB4 : Hid (Below c w w4) := HB.out.trans (hch4.below (by have := HK.out.lt; omega) (Nat.le_refl _) (fun g hg => (HK.out.row g hg).1))
        clear hno4 hch4 HST HK HB HJ
        go_wp2
        go_roundw
        case rel => exact ⟨n + 1, n + 1, _, _, by omega, by omega, fun _ => rfl, by go_num, HK4, HB4⟩
        case measure => simp [intOf]; omega
      · have h20' : ¬ (j : Int) < 20 := by omega
        subst hao
        clear p0' hcells hts
        go_wp2
        go_roundw
        case rel => exact ⟨j + 1, n, _, _, by omega, hn20, fun h => by omega, by go_num, HK, HB⟩
        case measure => simp [intOf]; omega
    · have hjl : ¬ (j : Int) < (ls.length : Int) := by omega
      obtain ⟨all, hall⟩ : ∃ all, all = allL (fun k => (k : Int)) ls n := ⟨_, rfl⟩
      have hseq := allL_seq (fun k => (k : Int)) ls n
      obtain ⟨htn, hst⟩ := all_turn (fun k => (k : Int)) ls n
      have HS : Hid (Calls Try.prog 17 #[.pointer (some ⟨c, 0, none⟩), .int .i64 0] wr fun e w' => ∃ v, e = .returned (.tuple #[v, .int .i64 0]) ∧ RdE v all w' ∧ Below wr.heap.size wr w') := by
        refine (Since_n HK.out (by omega) 0).mono ?_
        rintro e w' ⟨v, rfl, h1, h2⟩
        have e1 : ((allL (fun k => (k : Int)) ls n).length - (max 1000 1 : Int).toNat : Nat) = 0 := by have : (max 1000 1 : Int).toNat = 1000 := rfl; omega
        unfold sinL at h1
        unfold sinZ
        rw [e1] at h1
        rw [e1]
        rw [if_neg (by omega), if_neg (by omega)] at h1
        rw [if_neg (by omega), if_neg (by omega)]
        refine ⟨v, rfl, ?_, h2⟩
        rw [hall]
        simpa using h1
      rw [← hall] at hal hseq htn hst
      obtain ⟨now, hnow⟩ : ∃ now, now = nowL ls n := ⟨_, rfl⟩
      have hasc := nowL_asc ls n
      have hnl := nowL_len ls n
      rw [← hnow] at hst hasc hnl
      have HFI : Hid (∀ V, Below wr.heap.size wr V → Calls Try.prog 16 #[.pointer (some ⟨c, 0, none⟩)] V (FrQ now V)) := fun V hV => by rw [hnow]; exact Firing_c (HK.out.go hV) (nowL_asc ls n)
      have hal2 : all.length ≤ 320 := by omega
      have HSEQ := Lib.hid hseq
      have HTN := Lib.hid htn
      have HST := Lib.hid hst
      have HALL := Lib.hid hall
      have hcw : c ≤ wr.heap.size := Nat.le_of_lt HK.out.lt
      clear hall hseq htn hst hnow HK hal hasc
      go_wp2_with fail
      (with_reducible refine HS.out.mono ?_)
      rintro e w2 ⟨v2, rfl, hr2, hb2⟩
      obtain ⟨wo, hwo⟩ : ∃ wo, wo = wr := ⟨_, rfl⟩
      subst hwo
      have HR2 := Lib.hid hr2
      have HB2 := Lib.hid hb2
      obtain ⟨a2, c2, rfl, _⟩ := hr2
      clear hb2 HS
      go_wp2
      go_loopw [39] (fun iv wr => ∃ (i : Nat), i ≤ all.length ∧ iv = .int .i64 i ∧ Hid (Below w2.heap.size w2 wr)) (fun iv _ => all.length - (intOf iv).toNat)
      case atStart => exact ⟨0, by omega, rfl, Lib.hid (Below.refl _ _)⟩
      case round =>
        obtain ⟨i, hi, rfl, HBW⟩ := hrel
        have hB5 : Below wo.heap.size wo wr := HB2.out.trans (HBW.out.mono HB2.out.size)
        by_cases hil : i < all.length
        · obtain ⟨q1, o1, rfl, hq1, hat1⟩ := (HR2.out.go HBW.out).at (by omega)
          have hi0 : (0 : Int) ≤ (i : Int) := by omega
          have hil' : (i : Int) < (all.length : Int) := by omega
          obtain ⟨p0, p1, p2, p3⟩ := cell4 hat1 hil
          have hx0 := HSEQ.out i hil
          have hx3 := HTN.out i hil
          have HNE : Hid (non all[i].2.2.1 all i all.length = true → decide (all[i].2.2.1 ∈ now) = all[i].2.2.2) := fun h => by rw [← HST.out, non_end hil rfl h]
          obtain ⟨⟨x0, x1, x2, x3⟩, hx⟩ : ∃ x : Ent, all[i] = x := ⟨_, rfl⟩
          rw [hx] at p0 p1 p2 p3 hx0 hx3 HNE
          simp only at p0 p1 p2 p3 hx0 hx3 HNE
          subst hx0
          obtain ⟨WX, hWX, hkX, hbX⟩ := new4 wr (.int .i64 ((i : Int) + 1)) (.int .i64 x1) (.string (mkS x2)) (.bool x3) 47
          have HKX := Lib.hid hkX
          have HWX := Lib.hid hWX
          have HBX : Hid (Below w2.heap.size w2 WX) := HBW.out.trans (hbX.mono HBW.out.size)
          have HXL : Hid (wr.heap.size < WX.heap.size) := (Array.getElem?_eq_some_iff.1 hkX).1
          have HX3 := Lib.hid hx3
          clear hat1 hx hWX hkX hbX hx3 hB5
          go_upto_region 14 with (fail)
          rw [← HWX.out]
          clear p0 p1 p2 p3
          go_wp2
          obtain ⟨wq, hwq⟩ : ∃ wq, wq = wr := ⟨_, rfl⟩
          subst hwq
          obtain ⟨xb, hxb⟩ : ∃ xb, xb = wq.heap.size := ⟨_, rfl⟩
          rw [← hxb] at HKX HXL ⊢
          clear hxb
          go_loopw [10, 11, 46] (fun bv lv kv wr => ∃ (k : Nat) (b l : Bool), k ≤ all.length ∧ bv = .bool b ∧ lv = .bool l ∧ kv = .int .i64 k ∧ Hid (b = stt x2 (all.take (min k i))) ∧ Hid (l = non x2 all i k) ∧ Hid (Below WX.heap.size WX wr)) (fun _ _ kv _ => all.length - (intOf kv).toNat)
          case atStart => exact ⟨0, false, true, by omega, rfl, rfl, rfl, by show _ = _; simp [stt], by show _ = _; rw [non_low (by omega)], Lib.hid (Below.refl _ _)⟩
          case round =>
            obtain ⟨k, b, l, hk, rfl, rfl, rfl, HBE, HLA, HBZ⟩ := hrel
            have hkx : wr.heap[xb]? = some (.cells #[.int .i64 ((i : Int) + 1), .int .i64 x1, .string (mkS x2), .bool x3] 47 (0, 0)) := (HBZ.out.block xb HXL.out).trans HKX.out
            have hxw : xb < wr.heap.size := Nat.lt_of_lt_of_le HXL.out HBZ.out.size
            obtain ⟨d0, d1, d2, d3⟩ := cells4 hkx
            by_cases hkl : k < all.length
            · obtain ⟨q2, o2, e, hq2, hat2⟩ := ((HR2.out.go HBX.out).go HBZ.out).at (by omega)
              injection e with e; injection e with e1 e2; subst e1 e2
              obtain ⟨p0, p1, p2, p3⟩ := cell4 hat2 hkl
              have hk0 : (0 : Int) ≤ (k : Int) := by omega
              have hkl' : (k : Int) < (all.length : Int) := by omega
              have hsk := stt_take_succ (g := x2) hkl
              have hnk := fun h => non_succ (g := x2) (i := i) hkl h
              obtain ⟨⟨y0, y1, y2, y3⟩, hy⟩ : ∃ y : Ent, all[k] = y := ⟨_, rfl⟩
              rw [hy] at p0 p1 p2 p3 hsk hnk
              simp only at p0 p1 p2 p3 hsk hnk
              obtain ⟨WY, hWY, hkY, hbY⟩ := new4 wr (.int .i64 y0) (.int .i64 y1) (.string (mkS y2)) (.bool y3) 47
              obtain ⟨f0, f1, f2, f3⟩ := cells4 hkY
              obtain ⟨x0', x1', x2', x3'⟩ := cells4 ((hbY.block xb hxw).trans hkx)
              have HWY := Lib.hid hWY
              have HBY : Hid (Below WX.heap.size WX WY) := HBZ.out.trans (hbY.mono HBZ.out.size)
              have hxn : xb ≠ wr.heap.size := by omega
              have heq : ((mkS y2).toList == (mkS x2).toList) = decide (y2 = x2) := beq_mk _ _
              clear hat2 hy hWY hkY hbY hkx d0 d1 d2 d3
              by_cases hki : k < i
              · have hki1 : (k : Int) < (i : Int) := by omega
                have hki2 : (k : Int) ≤ (i : Int) := by omega
                have hmin : min (k + 1) i = k + 1 := by omega
                have hmin2 : min k i = k := by omega
                have HLA2 : Hid (l = non x2 all i (k + 1)) := by show _ = _; rw [HLA.out, non_low (by omega), non_low (by omega)]
                have hlt2 : l = true := by rw [HLA.out, non_low (by omega)]
                rw [hmin2] at HBE
                by_cases hye : y2 = x2
                · rw [decide_eq_true hye] at heq
                  rw [if_pos hye] at hsk
                  have HBE2 : Hid (y3 = stt x2 (all.take (min (k + 1) i))) := by show _ = _; rw [hmin, hsk]
                  subst hlt2
                  clear hsk hnk hye
                  go_upto_region 19 with (fail)
                  rw [← HWY.out]
                  clear p0 p1 p2 p3
                  go_wp2
                  go_roundw
                  case rel => exact ⟨k + 1, y3, true, by omega, rfl, rfl, by go_num, HBE2, HLA2, HBY⟩
                  case measure => simp [intOf]; omega
                · rw [decide_eq_false hye] at heq
                  rw [if_neg hye] at hsk
                  have HBE2 : Hid (b = stt x2 (all.take (min (k + 1) i))) := by show _ = _; rw [hmin, hsk]; exact HBE.out
                  subst hlt2
                  clear hsk hnk hye
                  go_upto_region 19 with (fail)
                  rw [← HWY.out]
                  clear p0 p1 p2 p3
                  go_wp2
                  go_roundw
                  case rel => exact ⟨k + 1, b, true, by omega, rfl, rfl, by go_num, HBE2, HLA2, HBY⟩
                  case measure => simp [intOf]; omega
              · have hki1 : ¬ (k : Int) < (i : Int) := by omega
                have HBE2 : Hid (b = stt x2 (all.take (min (k + 1) i))) := by
                  show _ = _
                  rw [show min (k + 1) i = min k i by omega]; exact HBE.out
                by_cases hke : k ≤ i
                · have hki2 : (k : Int) ≤ (i : Int) := by omega
                  have HLA2 : Hid (l = non x2 all i (k + 1)) := by show _ = _; rw [HLA.out, non_low (by omega), non_low (by omega)]
                  have hlt2 : l = true := by rw [HLA.out, non_low (by omega)]
                  subst hlt2
                  clear hsk hnk heq
                  go_upto_region 19 with (fail)
                  rw [← HWY.out]
                  clear p0 p1 p2 p3
                  go_wp2
                  go_roundw
                  case rel => exact ⟨k + 1, b, true, by omega, rfl, rfl, by go_num, HBE2, HLA2, HBY⟩
                  case measure => simp [intOf]; omega
                · have hki2 : ¬ (k : Int) ≤ (i : Int) := by omega
                  have HLA2 : Hid (∀ l', l' = (l && !decide (y2 = x2)) → l' = non x2 all i (k + 1)) := fun l' hl' => by rw [hl', hnk (by omega), HLA.out]
                  clear hsk hnk
                  cases l with
                  | false =>
                    have HLA3 : Hid (false = non x2 all i (k + 1)) := HLA2.out false (by simp)
                    clear heq HLA2
                    go_upto_region 19 with (fail)
                    rw [← HWY.out]
                    clear p0 p1 p2 p3
                    go_wp2
                    go_roundw
                    case rel => exact ⟨k + 1, b, false, by omega, rfl, rfl, by go_num, HBE2, HLA3, HBY⟩
                    case measure => simp [intOf]; omega
                  | true =>
                    by_cases hye : y2 = x2
                    · rw [decide_eq_true hye] at heq
                      have HLA3 : Hid (false = non x2 all i (k + 1)) := HLA2.out false (by rw [decide_eq_true hye]; rfl)
                      clear HLA2 hye
                      go_upto_region 19 with (fail)
                      rw [← HWY.out]
                      clear p0 p1 p2 p3
                      go_wp2
                      go_roundw
                      case rel => exact ⟨k + 1, b, false, by omega, rfl, rfl, by go_num, HBE2, HLA3, HBY⟩
                      case measure => simp [intOf]; omega
                    · rw [decide_eq_false hye] at heq
                      have HLA3 : Hid (true = non x2 all i (k + 1)) := HLA2.out true (by rw [decide_eq_false hye]; rfl)
                      clear HLA2 hye
                      go_upto_region 19 with (fail)
                      rw [← HWY.out]
                      clear p0 p1 p2 p3
                      go_wp2
                      go_roundw
                      case rel => exact ⟨k + 1, b, true, by omega, rfl, rfl, by go_num, HBE2, HLA3, HBY⟩
                      case measure => simp [intOf]; omega
            · have hkl' : ¬ (k : Int) < (all.length : Int) := by omega
              have hkk : k = all.length := by omega
              have hbx : x3 ≠ b := by
                have h1 := HBE.out
                rw [hkk, show min all.length i = i by omega] at h1
                rw [h1]; exact HX3.out
              have HBF : Hid (Below w2.heap.size w2 wr) := HBX.out.trans (HBZ.out.mono HBX.out.size)
              have HFW : Hid (Calls Try.prog 16 #[.pointer (some ⟨c, 0, none⟩)] wr.drew (FrQ now wr.drew)) := HFI.out _ ((HB2.out.trans (HBF.out.mono HB2.out.size)).trans ((bdr wr).mono (HB2.out.trans (HBF.out.mono HB2.out.size)).size))
              have hlx : l = true → decide (x2 ∈ now) = x3 := fun h => HNE.out (by rw [← hkk, ← HLA.out, h])
              have HKXW := Lib.hid hkx
              have HXW := Lib.hid hxw
              clear hkx HBE HLA HBZ hkk HX3 HNE
              have hcs : (x3 = true ∧ b = false) ∨ (x3 = false ∧ b = true) := by cases x3 <;> cases b <;> simp at hbx ⊢
              have hwi : IntKind.i64.wrap ((i : Int) + 1) = (i : Int) + 1 := by rw [IntKind.wrap_i64]; omega
              clear hbx
              cases l with
              | false =>
                rcases hcs with ⟨hx3e, hbe⟩ | ⟨hx3e, hbe⟩
                · obtain rfl : x3 = true := hx3e
                  obtain rfl : b = false := hbe
                  have HB5 : Hid (∀ n, Below w2.heap.size w2 (wr.drewN n)) := fun n => HBF.out.trans ((bdrN wr n).mono HBF.out.size)
                  go_wp2_with fail
                  go_quiet (fail)
                  go_wp2_with fail
                  go_roundw
                  case rel => exact ⟨i + 1, by omega, by go_num, Lib.hid (HB5.out _)⟩
                  case measure => simp [intOf]; omega
                · obtain rfl : x3 = false := hx3e
                  obtain rfl : b = true := hbe
                  have HB5 : Hid (∀ n, Below w2.heap.size w2 (wr.drewN n)) := fun n => HBF.out.trans ((bdrN wr n).mono HBF.out.size)
                  go_wp2_with fail
                  go_quiet (fail)
                  go_wp2_with fail
                  go_roundw
                  case rel => exact ⟨i + 1, by omega, by go_num, Lib.hid (HB5.out _)⟩
                  case measure => simp [intOf]; omega
              | true =>
                rcases hcs with ⟨hx3e, hbe⟩ | ⟨hx3e, hbe⟩
                · obtain rfl : x3 = true := hx3e
                  obtain rfl : b = false := hbe
                  have hd := hlx rfl
                  have HS0 : Hid (wr.cell? ⟨xb, 0, none⟩ = some (.int .i64 ((i : Int) + 1)) ∧ wr.cell? ⟨xb, 2, none⟩ = some (.string (mkS x2)) ∧ wr.cell? ⟨xb, 3, none⟩ = some (.bool true)) := ⟨d0, d2, d3⟩
                  go_wp2_with fail
                  go_region_held3 (fun V => V.cell? ⟨xb, 0, none⟩ = some (.int .i64 ((i : Int) + 1)) ∧ V.cell? ⟨xb, 2, none⟩ = some (.string (mkS x2)) ∧ V.cell? ⟨xb, 3, none⟩ = some (.bool true)) (first | (with_reducible exact ⟨d0, d2, d3⟩) | exact HS0.out | exact HS5.out) (first | (go_at_call 16; (with_reducible refine HFW.out.mono ?_); rintro e w5 ⟨v5, rfl, hr5, hb5⟩; have HH5 : Hid (Calls Try.prog 20 #[v5, .string (mkS x2)] w5 fun e w' => e = .returned (.bool true) ∧ w' = w5) := (by have := Has_r v5 now x2 w5 hr5 (by omega); rw [hd] at this; exact this); have HB5 : Hid (Below w2.heap.size w2 w5) := (by have h1 := HBF.out.drew; exact h1.trans (hb5.mono h1.size)); have HS5 : Hid (w5.cell? ⟨xb, 0, none⟩ = some (.int .i64 ((i : Int) + 1)) ∧ w5.cell? ⟨xb, 2, none⟩ = some (.string (mkS x2)) ∧ w5.cell? ⟨xb, 3, none⟩ = some (.bool true)) := ⟨(hb5.cell (p := ⟨xb, 0, none⟩) HXW.out).trans d0, (hb5.cell (p := ⟨xb, 2, none⟩) HXW.out).trans d2, (hb5.cell (p := ⟨xb, 3, none⟩) HXW.out).trans d3⟩; clear hr5 hb5) | (go_at_call 20; (with_reducible refine HH5.out.mono ?_); rintro e w6 ⟨rfl, hw6⟩; rw [hw6]; clear hw6 w6))
                  all_goals
                    go_wp2
                    go_roundw
                    case rel => exact ⟨i + 1, by omega, by go_num, HB5⟩
                    case measure => simp [intOf]; omega
                · obtain rfl : x3 = false := hx3e
                  obtain rfl : b = true := hbe
                  have hd := hlx rfl
                  have HS0 : Hid (wr.cell? ⟨xb, 0, none⟩ = some (.int .i64 ((i : Int) + 1)) ∧ wr.cell? ⟨xb, 2, none⟩ = some (.string (mkS x2)) ∧ wr.cell? ⟨xb, 3, none⟩ = some (.bool false)) := ⟨d0, d2, d3⟩
                  go_wp2_with fail
                  go_region_held3 (fun V => V.cell? ⟨xb, 0, none⟩ = some (.int .i64 ((i : Int) + 1)) ∧ V.cell? ⟨xb, 2, none⟩ = some (.string (mkS x2)) ∧ V.cell? ⟨xb, 3, none⟩ = some (.bool false)) (first | (with_reducible exact ⟨d0, d2, d3⟩) | exact HS0.out | exact HS5.out) (first | (go_at_call 16; (with_reducible refine HFW.out.mono ?_); rintro e w5 ⟨v5, rfl, hr5, hb5⟩; have HH5 : Hid (Calls Try.prog 20 #[v5, .string (mkS x2)] w5 fun e w' => e = .returned (.bool false) ∧ w' = w5) := (by have := Has_r v5 now x2 w5 hr5 (by omega); rw [hd] at this; exact this); have HB5 : Hid (Below w2.heap.size w2 w5) := (by have h1 := HBF.out.drew; exact h1.trans (hb5.mono h1.size)); have HS5 : Hid (w5.cell? ⟨xb, 0, none⟩ = some (.int .i64 ((i : Int) + 1)) ∧ w5.cell? ⟨xb, 2, none⟩ = some (.string (mkS x2)) ∧ w5.cell? ⟨xb, 3, none⟩ = some (.bool false)) := ⟨(hb5.cell (p := ⟨xb, 0, none⟩) HXW.out).trans d0, (hb5.cell (p := ⟨xb, 2, none⟩) HXW.out).trans d2, (hb5.cell (p := ⟨xb, 3, none⟩) HXW.out).trans d3⟩; clear hr5 hb5) | (go_at_call 20; (with_reducible refine HH5.out.mono ?_); rintro e w6 ⟨rfl, hw6⟩; rw [hw6]; clear hw6 w6))
                  all_goals
                    go_wp2
                    go_roundw
                    case rel => exact ⟨i + 1, by omega, by go_num, HB5⟩
                    case measure => simp [intOf]; omega
        · have hil' : ¬ (i : Int) < (all.length : Int) := by omega
          have HBF : Hid (Below w.heap.size w wr) := by
            rw [← HC.out]
            exact HB.out.trans (hB5.mono hcw)
          clear hB5 HBW
          go_wp2_with fail
          refine (awake_c wr).mono ?_
          rintro e w8 ⟨rfl, hb8⟩
          have HB8 : Hid (Below w.heap.size w w8) := HBF.out.trans (hb8.mono HBF.out.size)
          clear hb8 HBF
          go_wp2
          go_ret
          exact ⟨rfl, HB8.out⟩
end Go.Proofs.Ytneogelhdikcaaa.Nt

/- The document's Step: at every outbox of the call's own, whatever groups; no other condition. -/
import Derived.Test.YtneogelhdikcaaaNtO
namespace Go.Proofs.Ytneogelhdikcaaa.Nt
open Go.RowKit Go.Lib Go.Maps
set_option linter.unusedSimpArgs false
set_option linter.unusedVariables false

/-- told of the first j groups -/
def tlj (now old : List Tx) (j : Nat) : List TB := (((inss now old).take j).filter (dif now old)).map fun g => (g, decide (g ∈ now))
theorem tlj_zero (now old : List Tx) : tlj now old 0 = [] := by simp [tlj]
theorem tlj_all (now old : List Tx) : tlj now old (inss now old).length = told now old := by unfold tlj told; rw [List.take_length]
theorem tlj_yes {now old : List Tx} {j : Nat} (hj : j < (inss now old).length) (h : dif now old (inss now old)[j] = true) : tlj now old (j + 1) = tlj now old j ++ [((inss now old)[j], decide ((inss now old)[j] ∈ now))] := by
  unfold tlj
  rw [List.take_succ_eq_append_getElem hj, List.filter_append, List.map_append, List.filter_cons_of_pos h]; simp
theorem tlj_no {now old : List Tx} {j : Nat} (hj : j < (inss now old).length) (h : dif now old (inss now old)[j] = false) : tlj now old (j + 1) = tlj now old j := by
  unfold tlj
  rw [List.take_succ_eq_append_getElem hj, List.filter_append, List.map_append, List.filter_cons_of_neg (by rw [h]; decide)]; simp
theorem tlj_len {now old : List Tx} (j : Nat) : (tlj now old j).length ≤ j := by
  unfold tlj
  rw [List.length_map]
  exact Nat.le_trans (List.length_filter_le _ _) (by rw [List.length_take]; omega)
theorem nums_snoc (rev : Int) (n : Nat) (l : List TB) (x : TB) : nums rev n (l ++ [x]) = nums rev n l ++ [((n : Int) + (l.length : Int) + 1, rev, x.1, x.2)] := by
  rw [nums_app]
  simp [nums]
def SrQ (B d : Nat) (ga nb : Option Nat) (M : Int) (now : List Tx) (all : List Ent) (rev : Int) (gs : List Tx) (w : World) (e : Ending) (w' : World) : Prop :=
  ∃ v ga' nb', e = .returned v ∧ RdE v (nums rev all.length (told (canon gs) now)) w' ∧ IsRb B d ga' nb' M (canon gs) (stepE all now rev gs) w' ∧ Ch d ga w w' ∧ NewB ga ga' w ∧ NewB nb nb' w
theorem OwG.ch {B d k n : Nat} {ga : Option Nat} {v : Value} {cs : List Value} {w W : World} (h : OwG B k n v cs w) (hc : Ch d ga w W) (h1 : v.ownBlock ≠ some d) (h2 : ∀ g, v.ownBlock = some g → ga ≠ some g) : OwG B k n v cs W :=
  h.kept hc.size (fun g hg => hc.block g (h.lt g hg).2 (fun e => h1 (by rw [hg, e])) (fun e => h2 g hg e.symm))
abbrev obX (x : Ent) : Obj := .cells #[.int .i64 x.1, .int .i64 x.2.1, .string (mkS x.2.2.1), .bool x.2.2.2] 55
theorem src_x (x : Ent) (w : World) : Rd 1 (eC [x]) (.slice (some ⟨w.heap.size, 0, none⟩) 1 1) (w.alloc (obX x)).drew :=
  ⟨_, _, rfl, fun _ => ⟨w.heap.size, 0, rfl, by simp, fun j u hu => by
    rw [Nat.zero_add]
    have e : eC [x] = [Value.int .i64 x.1, .int .i64 x.2.1, .string (mkS x.2.2.1), .bool x.2.2.2] := rfl
    rw [e] at hu
    have := cell_of_row _ _ j _ _ _ (heap_alloc_new w (obX x))
    rw [show (w.alloc (obX x)).drew.cell? ⟨w.heap.size, j, none⟩ = (w.alloc (obX x)).cell? ⟨w.heap.size, j, none⟩ from rfl, this]
    simpa using hu⟩⟩
/-- the worlds of an entry more: in the answer, and in All -/
theorem step_w {B B2 d : Nat} {ga ga' nb : Option Nat} {M : Int} {old : List Tx} {L0 XJ : List Ent} {vA vN vL : Value} {w2 wr : World} (hk : wr.heap[d]? = some (.cells #[vA, .int .i64 M, vN] 36 (0, 0))) (hoA : OwL B vA L0 wr) (eA : vA.ownBlock = ga') (hoN : OwT B vN old wr) (eN : vN.ownBlock = nb)
    (hne : ga' ≠ some d) (hnne : nb ≠ some d) (hap : ∀ g, nb = some g → ga' ≠ some g) (hnw : ∀ g, nb = some g → g < w2.heap.size)
    (hOL : OwL B2 vL XJ wr) (hLG : ∀ g, vL.ownBlock = some g → ga' ≠ some g ∧ w2.heap.size ≤ g) (hC : Ch d ga w2 wr) (hN : NewB ga ga' w2) (hB : B ≤ w2.heap.size) (hB2 : B2 ≤ w2.heap.size) (hd : d < w2.heap.size) (x : Ent) (hl0 : L0.length ≤ 1000000) (hlx : XJ.length ≤ 1000000) :
    ∃ g5 o5 c5 W5 v6 W6 ga7, (∀ ty, (Builtin.append_ #[32, 32] ty #[vL, .slice (some ⟨wr.heap.size, 0, none⟩) 1 1]).run Try.prog (wr.alloc (obX x)).drew = .ok (.slice (some ⟨g5, o5, none⟩) (XJ.length + 1) c5) W5) ∧
      W5.rangeAt g5 (o5 + XJ.length * 4) (encE x) ∧ g5 < W5.heap.size ∧ XJ.length + 1 ≤ c5 ∧ W5.heap[d]? = some (.cells #[vA, .int .i64 M, vN] 36 (0, 0)) ∧
      (∀ ty, (Builtin.append_ #[32, 32] ty #[vA, .slice (some ⟨W5.heap.size, 0, none⟩) 1 1]).run Try.prog (W5.alloc (obX x)).drew = .ok v6 W6) ∧ (∃ a n c, v6 = .slice a n c) ∧
      W6.heap[d]? = some (.cells #[vA, .int .i64 M, vN] 36 (0, 0)) ∧ IsRb B d ga7 nb M old (L0 ++ [x]) (W6.setCell ⟨d, 0, none⟩ v6) ∧ OwL B2 (.slice (some ⟨g5, o5, none⟩) (XJ.length + 1) c5) (XJ ++ [x]) (W6.setCell ⟨d, 0, none⟩ v6) ∧
      (∀ g, (Value.slice (some ⟨g5, o5, none⟩) (XJ.length + 1) c5).ownBlock = some g → ga7 ≠ some g ∧ w2.heap.size ≤ g) ∧ Ch d ga w2 (W6.setCell ⟨d, 0, none⟩ v6) ∧ NewB ga ga7 w2 := by
  obtain ⟨i0, hi, hz0, hz1, hz2⟩ := info_parts infoRE
  have hs2 := hC.size
  have hdw : d < wr.heap.size := (Array.getElem?_eq_some_iff.1 hk).1
  have bB : Below wr.heap.size wr (wr.alloc (obX x)).drew := ((Below.refl _ _).alloc (Nat.le_refl _) _).drew
  have sB : (wr.alloc (obX x)).drew.heap.size = wr.heap.size + 1 := by simp
  obtain ⟨v5, W5, r5, o5, g5, n5⟩ := ap_run (t := 32) Try.underlying32 hi hz0 hz1 hz2 rfl (hOL.go bB) (src_x x wr) (by rfl) (eC_one _) (by omega) (by unfold maxLen; omega) (by show (XJ.length + 1) * 40 ≤ 140737488355328; omega)
  rw [← eC_app] at o5
  have hvL : ∀ g, vL.ownBlock = some g → g ≠ d ∧ ga' ≠ some g ∧ nb ≠ some g := fun g hg => ⟨by have := (hLG g hg).2; omega, (hLG g hg).1, fun e => by have := hnw g e; have := (hLG g hg).2; omega⟩
  have hb5 : ∀ g, g < wr.heap.size → vL.ownBlock ≠ some g → W5.heap[g]? = wr.heap[g]? := fun g hg hn => (g5.block g (by omega) (fun e => hn e.symm)).trans (bB.block g hg)
  have hk5 : W5.heap[d]? = some (.cells #[vA, .int .i64 M, vN] 36 (0, 0)) := (hb5 d hdw (fun e => (hvL d e).1 rfl)).trans hk
  have hs5 : wr.heap.size < W5.heap.size := by have := g5.size; omega
  have hA5 : OwL B vA L0 W5 := hoA.kept (Nat.le_of_lt hs5) (fun g hg => hb5 g (hoA.lt g hg).2 (fun e => (hvL g e).2.1 (eA.symm.trans hg)))
  have hv5 : ∀ g, v5.ownBlock = some g → ga' ≠ some g ∧ w2.heap.size ≤ g ∧ g ≠ d ∧ nb ≠ some g := fun g hg => by
    rcases n5 with e | e
    · rw [e] at hg; exact ⟨(hLG g hg).1, (hLG g hg).2, (hvL g hg).1, (hvL g hg).2.2⟩
    · rw [e] at hg
      injection hg with hg
      refine ⟨fun e2 => ?_, by omega, by omega, fun e2 => by have := hnw g e2; omega⟩
      have := (hoA.lt g (eA.trans e2)).2
      omega
  have bB2 : Below W5.heap.size W5 (W5.alloc (obX x)).drew := ((Below.refl _ _).alloc (Nat.le_refl _) _).drew
  have sB2 : (W5.alloc (obX x)).drew.heap.size = W5.heap.size + 1 := by simp
  obtain ⟨v6, W6, r6, o6, g6, n6⟩ := ap_run (t := 32) Try.underlying32 hi hz0 hz1 hz2 rfl (hA5.go bB2) (src_x x W5) (by rfl) (eC_one _) (by omega) (by unfold maxLen; omega) (by show (L0.length + 1) * 40 ≤ 140737488355328; omega)
  rw [← eC_app] at o6
  have hb6 : ∀ g, g < W5.heap.size → ga' ≠ some g → W6.heap[g]? = W5.heap[g]? := fun g hg hn => (g6.block g (by omega) (fun e => hn (eA.symm.trans e.symm))).trans (bB2.block g hg)
  have hs6 : W5.heap.size < W6.heap.size := by have := g6.size; omega
  have hk6 : W6.heap[d]? = some (.cells #[vA, .int .i64 M, vN] 36 (0, 0)) := (hb6 d (by omega) hne).trans hk5
  have h6d : v6.ownBlock ≠ some d := fun e => by
    rcases n6 with e2 | e2
    · exact hne (by rw [← eA, ← e2, e])
    · rw [e2] at e; injection e with e; omega
  obtain ⟨a5, c5, rfl, hc5, hn5⟩ := o5.form
  obtain ⟨gg, oo, rfl⟩ : ∃ gg oo, a5 = some ⟨gg, oo, none⟩ := by
    rcases o5.2 with ⟨e, e0⟩ | ⟨gg, oo, cc, e, _⟩
    · omega
    · injection e with e; exact ⟨gg, oo, e⟩
  have hr5 : W5.rangeAt gg oo (eC (XJ ++ [x])) ∧ gg < W5.heap.size := by
    obtain ⟨g', o', e, h1, h2⟩ := o5.rd.at (by omega)
    injection e with e; injection e with e1 e2; subst e1 e2
    exact ⟨h2, h1⟩
  have hlen1 : (XJ ++ [x]).length = XJ.length + 1 := by simp
  have hlen2 : (L0 ++ [x]).length = L0.length + 1 := by simp
  have h7 : ∀ g, g ≠ d → (W6.setCell ⟨d, 0, none⟩ v6).heap[g]? = W6.heap[g]? := fun g hg => set_oth _ _ _ _ hg
  have s7 : (W6.setCell ⟨d, 0, none⟩ v6).heap.size = W6.heap.size := size_set _ _ _
  have n7 : NewB ga v6.ownBlock w2 := by
    rcases n6 with e2 | e2
    · rw [e2, eA]; exact hN
    · exact .inr (.inr ⟨_, e2, by omega⟩)
  refine ⟨gg, oo, c5, W5, v6, W6, v6.ownBlock, r5, fun j u hu => ?_, hr5.2, hc5, hk5, r6, by obtain ⟨a, c, e, _⟩ := o6.form; exact ⟨_, _, _, e⟩, hk6, ⟨⟨v6, vN, by simpa using blk_set hk6 0 v6, ?_, rfl, ?_, eN⟩, h6d, hnne, fun g hg e => ?_⟩, ?_, fun g hg => ⟨fun e => ?_, (hv5 g hg).2.1⟩, ?_, n7⟩
  · have := hr5.1 (XJ.length * 4 + j) u (by rw [eC_app, List.getElem?_append_right (by rw [eC_len]; omega), eC_len, show XJ.length * 4 + j - XJ.length * 4 = j by omega]; simpa [eC] using hu)
    rwa [← Nat.add_assoc] at this
  · show OwG _ _ _ _ _ _
    rw [hlen2]
    exact o6.kept (by rw [s7]; exact Nat.le_refl _) (fun g hg => h7 g (fun e => h6d (by rw [hg, e])))
  · refine hoN.kept (by omega) (fun g hg => ?_)
    have hgn := eN.symm.trans hg
    have hg1 := (hoN.lt g hg).2
    rw [h7 g (fun e => hnne (by rw [hgn, e])), hb6 g (by omega) (hap g hgn), hb5 g hg1 (fun e => (hvL g e).2.2 hgn)]
  · rcases n6 with e2 | e2
    · exact hap g hg (by rw [← eA, ← e2, e])
    · rw [e2] at e; injection e with e; have := hnw g hg; omega
  · show OwG _ _ _ _ _ _
    rw [hlen1]
    refine o5.kept (by omega) (fun g hg => ?_)
    have hg1 := (o5.lt g hg).2
    rw [h7 g (hv5 g hg).2.2.1, hb6 g hg1 (hv5 g hg).1]
  · rcases n6 with e2 | e2
    · exact (hv5 g hg).1 (by rw [← eA, ← e2, e])
    · rw [e2] at e; injection e with e; have := (o5.lt g hg).2; omega
  · refine ⟨?_, ?_, ?_, by omega, fun k hk1 hk2 hk3 => ?_⟩
    · exact g6.os.trans (g5.os.trans hC.os)
    · exact g6.tape.trans (g5.tape.trans hC.tape)
    · exact g6.output.trans (g5.output.trans hC.output)
    · have hga : ga' ≠ some k := by
        rcases hN with e | e | ⟨q, e, hq⟩
        · rw [e]; exact fun e => hk3 e.symm
        · rw [e]; intro e; cases e
        · rw [e]; intro e; injection e with e; omega
      rw [h7 k hk2, hb6 k (by omega) hga, hb5 k (by omega) (fun e => by have := (hLG k e).2; omega)]
      exact hC.block k hk1 hk2 hk3
set_option maxRecDepth 100000 in
set_option maxHeartbeats 8000000 in
theorem Step_r {B d : Nat} {ga nb : Option Nat} {M : Int} {old : List Tx} {all : List Ent} {w : World} (h : IsRb B d ga nb M old all w) (hB : B ≤ w.heap.size) (rev : Int) (ao : Option Addr) (cap : Nat) (gs : List Tx)
    (hR : RdT (.slice ao gs.length cap) gs w) (hl : gs.length ≤ 1000) (hnw : old.length ≤ 1000) (ha : all.length ≤ 500000) :
    Calls Try.prog 11 #[.pointer (some ⟨d, 0, none⟩), .int .i64 rev, .slice ao gs.length cap] w (SrQ B d ga nb M old all rev gs w) := by
  have HH := Lib.hid h
  have HR := Lib.hid hR
  have hdl := h.lt
  clear h hR
  go_enter Try.func11, Try.ntmps11
  go_wp2
  go_loopw [7, 18] (fun u iv wr => ∃ (v : Value) (j : Nat), j ≤ gs.length ∧ v = u ∧ iv = .int .i64 j ∧ Hid (OwT w.heap.size v (canon (gs.take j)) wr) ∧ Hid (Below w.heap.size w wr)) (fun _ iv _ => gs.length - (intOf iv).toNat)
  case atStart => exact ⟨_, 0, by omega, rfl, rfl, Lib.hid (OwG.nil _ _ _), Lib.hid (Below.refl _ _)⟩
  case round =>
    obtain ⟨v, j, hj, rfl, rfl, HO, HB⟩ := hrel
    by_cases hlt : j < gs.length
    · obtain ⟨g, o, hao, hg, hat⟩ := HR.out.at (by omega)
      have p0 := (HB.out.cell (p := ⟨g, o + j, none⟩) hg).trans (cellT hat hlt)
      have hj0 : (0 : Int) ≤ (j : Int) := by omega
      have hjl : (j : Int) < (gs.length : Int) := by omega
      have hcl := canon_len (gs.take j)
      rw [List.length_take] at hcl
      have hsn : ins (canon (gs.take j)) gs[j] = canon (gs.take (j + 1)) := by rw [List.take_succ_eq_append_getElem hlt]; exact (inss_snoc _ _ _).symm
      have HP := Lib.hid (put_r w.heap.size v (canon (gs.take j)) gs[j] wr HO.out HB.out.size (by omega))
      rw [hsn] at HP
      subst hao
      generalize gs[j] = t at *
      clear hat hsn
      go_wp2_with fail
      (with_reducible refine HP.out.mono ?_)
      rintro e w3 ⟨v3, rfl, ho3, hb3, _⟩
      have HO3 := Lib.hid ho3
      have HB3 : Hid (Below w.heap.size w w3) := HB.out.trans (hb3.mono HB.out.size)
      clear ho3 hb3 HP HO HB
      go_wp2
      go_roundw
      case rel => exact ⟨_, j + 1, by omega, rfl, by go_num, HO3, HB3⟩
      case measure => simp [intOf]; omega
    · have hjl : ¬ (j : Int) < (gs.length : Int) := by omega
      have hjj : gs.take j = gs := List.take_of_length_le (by omega)
      rw [hjj] at HO
      obtain ⟨now, hnow⟩ : ∃ now, now = canon gs := ⟨_, rfl⟩
      have hnl : now.length ≤ 1000 := by have := canon_len gs; rw [hnow]; omega
      rw [← hnow] at HO
      obtain ⟨vA, vN, hk, hoA, eA, hoN, eN⟩ := (HH.out.go (HB.out)).ex
      obtain ⟨aN, cN, rfl, _, _⟩ := hoN.form
      obtain ⟨c0, c1, c2⟩ := cells3 hk
      have HON := Lib.hid hoN
      have HNOW := Lib.hid hnow
      obtain ⟨wo, hwo⟩ : ∃ wo, wo = wr := ⟨_, rfl⟩
      subst hwo
      have HKo := Lib.hid hk
      have HOA := Lib.hid hoA
      clear hjj hjl hj hnow hk hoA hoN
      go_wp2
      clear c0 c1 c2
      go_loopw [10, 32] (fun u iv wr => ∃ (vB : Value) (j : Nat), j ≤ old.length ∧ vB = u ∧ iv = .int .i64 j ∧ Hid (OwT w.heap.size vB (inss now (old.take j)) wr) ∧ Hid (Below wo.heap.size wo wr)) (fun _ iv _ => old.length - (intOf iv).toNat)
      case atStart => exact ⟨_, 0, by omega, rfl, rfl, HO, Lib.hid (Below.refl _ _)⟩
      case round =>
        obtain ⟨vB, j, hj, rfl, rfl, HOb, HBb⟩ := hrel
        by_cases hlt : j < old.length
        · obtain ⟨g, o, hao, hg, hat⟩ := HON.out.rd.at (by omega)
          have p0 := (HBb.out.cell (p := ⟨g, o + j, none⟩) hg).trans (cellT hat hlt)
          have hj0 : (0 : Int) ≤ (j : Int) := by omega
          have hjl : (j : Int) < (old.length : Int) := by omega
          have hcl := inss_len (old.take j) now
          rw [List.length_take] at hcl
          have hsn : ins (inss now (old.take j)) old[j] = inss now (old.take (j + 1)) := by rw [List.take_succ_eq_append_getElem hlt]; exact (inss_snoc _ _ _).symm
          have HP := Lib.hid (put_r w.heap.size vB (inss now (old.take j)) old[j] wr HOb.out (Nat.le_trans HB.out.size HBb.out.size) (by omega))
          rw [hsn] at HP
          subst hao
          generalize old[j] = t at *
          clear hat hsn
          go_wp2_with fail
          (with_reducible refine HP.out.mono ?_)
          rintro e w3 ⟨v3, rfl, ho3, hb3, _⟩
          have HO3 := Lib.hid ho3
          have HB3 : Hid (Below wo.heap.size wo w3) := HBb.out.trans (hb3.mono HBb.out.size)
          clear ho3 hb3 HP HOb HBb
          go_wp2
          go_roundw
          case rel => exact ⟨_, j + 1, by omega, rfl, by go_num, HO3, HB3⟩
          case measure => simp [intOf]; omega
        · have hjl : ¬ (j : Int) < (old.length : Int) := by omega
          have hjj : old.take j = old := List.take_of_length_le (by omega)
          rw [hjj] at HOb
          obtain ⟨both, hboth⟩ : ∃ both, both = inss now old := ⟨_, rfl⟩
          have hbl : both.length ≤ 2000 := by have := inss_len old now; rw [hboth]; omega
          rw [← hboth] at HOb
          have HBOTH := Lib.hid hboth
          obtain ⟨w2, hw2⟩ : ∃ w2, w2 = wr := ⟨_, rfl⟩
          subst hw2
          have HOW2 := Lib.hid (HO.out.go HBb.out)
          have HRB2 := Lib.hid ((HH.out.go HB.out).go HBb.out)
          have HBW2 : Hid (Below w.heap.size w w2) := HB.out.trans (HBb.out.mono HB.out.size)
          obtain ⟨aB, cB, rfl, _, _⟩ := HOb.out.form
          obtain ⟨aW, cW, rfl, _, _⟩ := HOW2.out.form
          clear hjj hjl hj hboth HO HBb HB HKo HOA HON eA eN
          go_wp2
          have hOA2 : ∃ ga2, ga2 = ga := ⟨_, rfl⟩
          have HNW : Hid ((Value.slice aW now.length cW).ownBlock ≠ some d ∧ ∀ g, (Value.slice aW now.length cW).ownBlock = some g → ga ≠ some g) := ⟨fun e => by have := (HOW2.out.lt d e).1; omega, fun g hg e => by have := (HOW2.out.lt g hg).1; have := (HH.out.row g e).2; omega⟩
          have HNB : Hid ((Value.slice aB both.length cB).ownBlock ≠ some d ∧ ∀ g, (Value.slice aB both.length cB).ownBlock = some g → ga ≠ some g) := ⟨fun e => by have := (HOb.out.lt d e).1; omega, fun g hg e => by have := (HOb.out.lt g hg).1; have := (HH.out.row g e).2; omega⟩
          clear hOA2
          go_loopw [13, 42] (fun u iv wr => ∃ (vL : Value) (j : Nat) (ga' : Option Nat), j ≤ both.length ∧ vL = u ∧ iv = .int .i64 j ∧ Hid (IsRb B d ga' nb M old (all ++ nums rev all.length (tlj now old j)) wr) ∧ Hid (OwL w.heap.size vL (nums rev all.length (tlj now old j)) wr) ∧ Hid (∀ g, vL.ownBlock = some g → ga' ≠ some g ∧ w2.heap.size ≤ g) ∧ Hid (Ch d ga w2 wr) ∧ Hid (NewB ga ga' w2)) (fun _ iv _ => both.length - (intOf iv).toNat)
          case atStart => exact ⟨_, 0, ga, by omega, rfl, rfl, by rw [tlj_zero]; simpa [nums] using HRB2, by rw [tlj_zero]; exact Lib.hid (OwG.nil _ _ _), Lib.hid (fun g h => by cases h), Lib.hid (Ch.of (Below.refl _ _)), .inl rfl⟩
          case round =>
            obtain ⟨vL, j, ga', hj, rfl, rfl, HRB, HOL, HLG, HC, HNG⟩ := hrel
            by_cases hlt : j < both.length
            · have hOB := HOb.out.ch HC.out HNB.out.1 HNB.out.2
              have hOW := HOW2.out.ch HC.out HNW.out.1 HNW.out.2
              obtain ⟨g, o, hao, hg, hat⟩ := hOB.rd.at (by omega)
              have p0 := cellT hat hlt
              have hj0 : (0 : Int) ≤ (j : Int) := by omega
              have hjl : (j : Int) < (both.length : Int) := by omega
              obtain ⟨vA, vN, hk, hoA, eA, hoN, eN⟩ := HRB.out.ex
              obtain ⟨aN, cN, rfl, _, _⟩ := hoN.form
              obtain ⟨c0, c1, c2⟩ := cells3 hk
              have hjb : j < (inss now old).length := by rw [← HBOTH.out]; exact hlt
              have hbj : both[j] = (inss now old)[j] := by simp [HBOTH.out]
              have H1 := Lib.hid (Has_r (.slice aW now.length cW) now both[j] wr.drew (hOW.go (bdr wr)).rd (by omega))
              have H2 := Lib.hid (Has_r (.slice aN old.length cN) old both[j] wr.drew (hoN.go (bdr wr)).rd (by omega))
              subst hao
              have HK := Lib.hid hk
              cases hd : dif now old both[j] with
              | false =>
                have HT : Hid (tlj now old (j + 1) = tlj now old j) := tlj_no hjb (by rw [← hbj]; exact hd)
                have HRB5 := Lib.hid (HRB.out.go (bdr wr))
                have HOL5 := Lib.hid (HOL.out.go (bdr wr))
                have HC5 := Lib.hid (HC.out.chain (bdr wr))
                unfold dif at hd
                clear hOB hOW hat hk hoA eA hoN eN hjb hbj HRB HOL HC
                revert H1 H2 hd
                generalize decide (both[j] ∈ now) = b1
                generalize decide (both[j] ∈ old) = b2
                generalize both[j] = t at *
                intro H1 H2 hd
                go_upto_region 17 with (fail)
                cases b1 <;> cases b2 <;> simp at hd
                all_goals
                  go_region_held3 (fun V => V.cell? ⟨d, 2, none⟩ = some (.slice aN old.length cN)) (first | (with_reducible exact c2) | exact cell_of_row _ _ 2 _ _ _ HK.out) (first | (go_at_call 20; (with_reducible refine H1.out.mono ?_); rintro e w1 ⟨rfl, rfl⟩) | (go_at_call 20; (with_reducible refine H2.out.mono ?_); rintro e w1 ⟨rfl, rfl⟩))
                  all_goals
                    go_wp2
                    go_roundw
                    case rel => exact ⟨_, j + 1, ga', by omega, rfl, by go_num, by rw [HT.out]; exact HRB5, by rw [HT.out]; exact HOL5, HLG, HC5, HNG⟩
                    case measure => simp [intOf]; omega
              | true =>
                have HT : Hid (tlj now old (j + 1) = tlj now old j ++ [(both[j], decide (both[j] ∈ now))]) := by
                  show _ = _
                  rw [tlj_yes hjb (by rw [← hbj]; exact hd), ← hbj]
                obtain ⟨XJ, hXJ⟩ : ∃ XJ, XJ = nums rev all.length (tlj now old j) := ⟨_, rfl⟩
                obtain ⟨L0, hL0⟩ : ∃ L0, L0 = all ++ XJ := ⟨_, rfl⟩
                have hxl : XJ.length ≤ 2000 := by rw [hXJ, nums_len]; have := tlj_len (now := now) (old := old) j; omega
                have hll : L0.length ≤ 600000 := by rw [hL0, List.length_append]; omega
                have hxe : nums rev all.length (tlj now old (j + 1)) = XJ ++ [((L0.length : Int) + 1, rev, both[j], decide (both[j] ∈ now))] := by
                  rw [HT.out, nums_snoc, ← hXJ]
                  have : (all.length : Int) + ((tlj now old j).length : Nat) = (L0.length : Nat) := by rw [hL0, List.length_append, hXJ, nums_len]; omega
                  simp only
                  rw [this]
                have hle : all ++ nums rev all.length (tlj now old (j + 1)) = L0 ++ [((L0.length : Int) + 1, rev, both[j], decide (both[j] ∈ now))] := by
                  rw [hxe, ← List.append_assoc, ← hL0]
                have HXE := Lib.hid hxe
                have HLE := Lib.hid hle
                rw [← hXJ, ← hL0] at hoA
                rw [← hXJ] at HOL
                unfold dif at hd
                have hnnb := HRB2.out.row2
                have hL0l : (L0.length : Int) ≤ 600000 := by omega
                obtain ⟨aL, cL, rfl, _, _⟩ := HOL.out.form
                obtain ⟨aA, cA, rfl, _, _⟩ := hoA.form
                have hkd : wr.drew.heap[d]? = some (.cells #[.slice aA L0.length cA, .int .i64 M, .slice aN old.length cN] 36 (0, 0)) := hk
                obtain ⟨g5, o5, c5, W5, v6, W6, ga7, r5, q5, hg5, hc5, hk5, r6, ⟨a6, n6, c6, rfl⟩, hk6, hRB7, hOL7, hLG7, hC7, hN7⟩ := step_w hkd (hoA.go (bdr wr)) eA (hoN.go (bdr wr)) eN HRB.out.ne HRB.out.nne HRB.out.ap (fun g hg => (hnnb g hg).2) (HOL.out.go (bdr wr)) HLG.out (HC.out.chain (bdr wr)) HNG.out (Nat.le_trans hB HBW2.out.size) HBW2.out.size (by have := HRB2.out.lt; exact this) ((L0.length : Int) + 1, rev, both[j], decide (both[j] ∈ now)) (by omega) (by omega)
                have H3 := Lib.hid (Has_r (.slice aW now.length cW) now both[j] wr.drew.drew ((hOW.go (bdr wr)).go (bdr _)).rd (by omega))
                obtain ⟨k0, k1, k2⟩ := cells3 hk5
                obtain ⟨m0, m1, m2⟩ := cells3 hk6
                have fm0 := frzB hk6 0
                have q0 : W5.cell? ⟨g5, o5 + XJ.length * 4, none⟩ = some (.int .i64 ((L0.length : Int) + 1)) := q5 0 _ rfl
                have q1 : W5.cell? ⟨g5, o5 + XJ.length * 4 + 1, none⟩ = some (.int .i64 rev) := q5 1 _ rfl
                have q2 : W5.cell? ⟨g5, o5 + XJ.length * 4 + 2, none⟩ = some (.string (mkS both[j])) := q5 2 _ rfl
                have q3 : W5.cell? ⟨g5, o5 + XJ.length * 4 + 3, none⟩ = some (.bool (decide (both[j] ∈ now))) := q5 3 _ rfl
                have n0 := World.new_ne W5 _ k0
                have hd5 : d < W5.heap.size := (Array.getElem?_eq_some_iff.1 hk5).1
                have R5 : Hid (∀ ty, (Builtin.append_ #[32, 32] ty #[.slice aL XJ.length cL, .slice (some ⟨wr.heap.size, 0, none⟩) 1 1]).run Try.prog (wr.alloc (.cells #[.int .i64 ((L0.length : Int) + 1), .int .i64 rev, .string (mkS both[j]), .bool (decide (both[j] ∈ now))] 55)).drew.drew = .ok (.slice (some ⟨g5, o5, none⟩) (XJ.length + 1) c5) W5) := r5
                have CA0 : Hid ((wr.alloc (.cells #[.int .i64 ((L0.length : Int) + 1), .int .i64 rev, .string (mkS both[j]), .bool (decide (both[j] ∈ now))] 55)).cell? ⟨d, 0, none⟩ = some (.slice aA L0.length cA)) := Lib.cell?_alloc_some _ c0
                have hwn : IntKind.i64.wrap ((L0.length : Int) + 1) = (L0.length : Int) + 1 := by rw [IntKind.wrap_i64]; omega
                have R6 := Lib.hid r6
                have HRB7 : Hid (IsRb B d ga7 nb M old (all ++ nums rev all.length (tlj now old (j + 1))) (W6.setCell ⟨d, 0, none⟩ (.slice a6 n6 c6))) := by rw [HLE.out]; exact hRB7
                have HOL7 : Hid (OwL w.heap.size (.slice (some ⟨g5, o5, none⟩) (XJ.length + 1) c5) (nums rev all.length (tlj now old (j + 1))) (W6.setCell ⟨d, 0, none⟩ (.slice a6 n6 c6))) := by rw [HXE.out]; exact hOL7
                have HLG7 := Lib.hid hLG7
                have HC7 := Lib.hid hC7
                have HN7 := Lib.hid hN7
                have i1 : (XJ.length : Int) + 1 ≤ 3000 := by omega
                have i0 : (0 : Int) ≤ (XJ.length : Int) := by omega
                have hwx : IntKind.i64.wrap (XJ.length : Int) = (XJ.length : Int) := by rw [IntKind.wrap_i64]; omega
                have hwx2 : (XJ.length : Int) < (XJ.length : Int) + 1 := by omega
                have i2 : (0 : Int) ≤ (L0.length : Int) := by omega
                clear hOB hOW hat hk hkd hoA eA hoN eN hjb hbj HRB HOL HC hXJ hL0 hxe hle r5 r6 q5 hk5 hk6 hRB7 hOL7 hLG7 hC7 hN7 HT HXE HLE hnnb hll hxl hg5 hc5
                revert H1 H2 hd q3 R5 R6 H3 CA0
                generalize decide (both[j] ∈ now) = b1
                generalize decide (both[j] ∈ old) = b2
                generalize both[j] = t at *
                generalize XJ.length = nx at *
                generalize L0.length = nl at *
                intro H1 H2 hd H3 q3 R5 CA0 R6
                go_upto_region 17 with (fail)
                cases b1 <;> cases b2 <;> simp at hd
                all_goals
                  go_region_held3 (fun V => V.cell? ⟨d, 2, none⟩ = some (.slice aN old.length cN)) (first | (with_reducible exact c2) | exact cell_of_row _ _ 2 _ _ _ HK.out) (first | (go_at_call 20; (with_reducible refine H1.out.mono ?_); rintro e w1 ⟨rfl, rfl⟩) | (go_at_call 20; (with_reducible refine H2.out.mono ?_); rintro e w1 ⟨rfl, rfl⟩))
                  all_goals
                    go_wp2_with fail
                    go_region_held3 (fun V => V.cell? ⟨d, 0, none⟩ = some (.slice aA nl cA)) (first | (with_reducible exact c0) | exact cell_of_row _ _ 0 _ _ _ HK.out | exact CA0.out | exact k0) (first | (go_at_call 20; (with_reducible refine H3.out.mono ?_); rintro e w1 ⟨rfl, rfl⟩) | (refine step_append_eq rfl _ _ 32 rfl rfl rfl R5.out ?_))
                    all_goals
                      clear c0 c1 c2 H1 H2 H3 p0
                      go_wp2_with fail
                      go_region_law (refine step_append_eq rfl _ _ 32 rfl rfl rfl R6.out ?_)
                      all_goals
                        go_wp2
                        go_roundw
                        case rel => exact ⟨_, j + 1, ga7, by omega, rfl, by go_num, HRB7, HOL7, HLG7, HC7, HN7⟩
                        case measure => simp [intOf]; omega
            · have hjl : ¬ (j : Int) < (both.length : Int) := by omega
              have hjj : j = both.length := by omega
              have htl : tlj now old j = told now old := by rw [hjj, HBOTH.out]; exact tlj_all _ _
              rw [htl] at HRB HOL
              have hOW := HOW2.out.ch HC.out HNW.out.1 HNW.out.2
              obtain ⟨vA, vN, hk, hoA, eA, hoN, eN⟩ := HRB.out.ex
              obtain ⟨c0, c1, c2⟩ := cells3 hk
              have f2 := frzB hk 2
              obtain ⟨W7, hW7⟩ : ∃ W7, W7 = wr.setCell ⟨d, 2, none⟩ (.slice aW now.length cW) := ⟨_, rfl⟩
              have h7 : ∀ g, g ≠ d → W7.heap[g]? = wr.heap[g]? := fun g hg => by rw [hW7]; exact set_oth _ _ _ _ hg
              have s7 : wr.heap.size ≤ W7.heap.size := by rw [hW7, size_set]; exact Nat.le_refl _
              have h27 : w2.heap.size ≤ W7.heap.size := Nat.le_trans HC.out.size s7
              have hgan : ∀ g, (Value.slice aW now.length cW).ownBlock = some g → ga' ≠ some g := fun g hg e => by
                rcases HNG.out with e2 | e2 | ⟨q, e2, hq⟩
                · exact HNW.out.2 g hg (e2 ▸ e)
                · rw [e2] at e; cases e
                · rw [e2] at e; injection e with e; have := (HOW2.out.lt g hg).2; omega
              have hvL : ∀ g, vL.ownBlock = some g → g ≠ d := fun g hg => by have := (HLG.out g hg).2; have := HRB2.out.lt; omega
              have HF : Hid (SrQ B d ga nb M old all rev gs w (.returned vL) W7) := by
                refine ⟨vL, ga', (Value.slice aW now.length cW).ownBlock, rfl, ?_, ?_, ?_, ?_, ?_⟩
                · rw [← HNOW.out]
                  exact (HOL.out.kept s7 (fun g hg => h7 g (hvL g hg))).rd
                · unfold stepE
                  rw [← HNOW.out]
                  refine ⟨⟨vA, _, by rw [hW7]; simpa using blk_set hk 2 (.slice aW now.length cW), hoA.kept s7 (fun g hg => h7 g (fun e => HRB.out.ne (by rw [← eA, hg, e]))), eA, ?_, rfl⟩, HRB.out.ne, HNW.out.1, hgan⟩
                  exact (hOW.mono hB).kept s7 (fun g hg => h7 g (fun e => HNW.out.1 (by rw [hg, e])))
                · refine ((Ch.of HBW2.out).tr HC.out).tr ?_
                  rw [hW7]; exact Ch.set _ _ _
                · exact HNG.out.lift HBW2.out.size
                · cases hb : (Value.slice aW now.length cW).ownBlock with
                  | none => exact .inr (.inl rfl)
                  | some g => exact .inr (.inr ⟨g, rfl, (HOW2.out.lt g hb).1⟩)
              have HW7 := Lib.hid hW7
              clear hW7 h7 s7 h27 hgan hvL hOW hk hoA eA hoN eN HRB HOL HLG HC HNG htl hjj
              go_wp2
              rw [← HW7.out]
              go_ret
              exact HF.out
end Go.Proofs.Ytneogelhdikcaaa.Nt

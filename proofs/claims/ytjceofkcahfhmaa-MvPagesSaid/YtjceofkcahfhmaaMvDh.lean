/- The document's store: put; no other condition. -/
import Derived.Test.YtjceofkcahfhmaaMvDf
namespace Go.Proofs.Ytjceofkcahfhmaa.Mv
open Go.RowKit Go.Lib Go.Maps Go.Shelf Go.Sort
open Go.Proofs.Ytjceofkcahfhmaa.Cn
set_option linter.unusedSimpArgs false
set_option linter.unusedVariables false

/-- a version more of a key -/
def ixOf : List Key → Key → Nat
  | [], _ => 0
  | n :: ns, k => if n = k then 0 else ixOf ns k + 1
def putN (Ns : List Key) (key : Key) : List Key := if key ∈ Ns then Ns else Ns ++ [key]
def putC (Ns : List Key) (Cs : List (List Ver)) (key : Key) (v : Ver) : List (List Ver) := if key ∈ Ns then Cs.set (ixOf Ns key) (Cs.getD (ixOf Ns key) [] ++ [v]) else Cs ++ [[v]]
theorem own1_set {B n g cap i : Nat} {T : TypeId} {xs : List Value} {W : World} (h : W.ownsRow B T 1 (.slice (some ⟨g, 0, none⟩) n cap) n xs) (hi : i < n) (u : Value) : (W.setCell ⟨g, i, none⟩ u).ownsRow B T 1 (.slice (some ⟨g, 0, none⟩) n cap) n (xs.set i u) := by
  refine ⟨by rw [List.length_set]; exact h.1, ?_⟩
  rcases h.2 with ⟨e, _⟩ | ⟨g', cap', cur, e1, e2, e3, e4, e5, e6, e7⟩
  · cases e
  · injection e1 with f1 f2 f3
    injection f1 with f1
    injection f1 with f1
    subst f1 f3
    refine .inr ⟨g, cap, cur.setIfInBounds i u, rfl, e2, blk_set e3 i u, e4, e5, by simpa using e6, ?_⟩
    rw [Array.toList_setIfInBounds, List.take_set, e7]
theorem own_set_oth {B n c i k : Nat} {T : TypeId} {v u : Value} {xs : List Value} {W : World} (h : W.ownsRow B T k v n xs) (hc : v.ownBlock ≠ some c) : (W.setCell ⟨c, i, none⟩ u).ownsRow B T k v n xs := by
  refine ⟨h.1, ?_⟩
  rcases h.2 with h2 | ⟨g, cap, cur, e1, e2, e3, e4⟩
  · exact .inl h2
  · refine .inr ⟨g, cap, cur, e1, e2, (set_oth W c i u (fun e => hc (by rw [e1, ← e]; rfl))).trans e3, e4⟩
theorem infoR2 : (Try.prog.info? 71).map (fun i => (i.zero, i.size, i.bytes)) = some (some (.slice none 0 0), 1, 24) := by kernel_rfl
theorem infoSt : (Try.prog.info? 9).map (fun i => (i.zero, i.size, i.bytes)) = some (some (.string ⟨#[]⟩), 1, 16) := by kernel_rfl
theorem idx_of : ∀ {Ns : List Key} {key : Key} {i : Nat} (hi : i < Ns.length), Ns[i] = key → (∀ k (hk : k < i), Ns[k]'(Nat.lt_trans hk hi) ≠ key) → ixOf Ns key = i
  | x :: Ns, key, 0, hi, h, hn => if_pos h
  | x :: Ns, key, i + 1, hi, h, hn => by
    have h0 : x ≠ key := hn 0 (by omega)
    have e : ixOf (x :: Ns) key = ixOf Ns key + 1 := if_neg h0
    rw [e, idx_of (i := i) (Nat.lt_of_succ_lt_succ hi) h (fun k hk => hn (k + 1) (by omega))]
/-- what put leaves -/
def PuR (F G : Nat → Prop) (r : Nat) (A : List (List ItT)) (kl vl fl : Int) (Ns : List Key) (Cs : List (List Ver)) (key : Key) (v : Ver) (w w' : World) : Prop :=
  ∃ F', IsR F' (Fx G w.heap.size) r A kl vl fl (putN Ns key) (putC Ns Cs key v) w' ∧ Fr G w w' ∧ ∀ k, F' k → F k ∨ w.heap.size ≤ k
theorem OwV.rdAt {F : Nat → Prop} {T : TypeId} {B g n c : Nat} {l : List Ver} {w : World} (h : OwV T B (.slice (some ⟨g, 0, none⟩) n c) l w) (hF : F g) : RdVF F (.slice (some ⟨g, 0, none⟩) n c) l w := by
  obtain ⟨ao, cap, e, hr⟩ := h.rd
  refine ⟨ao, cap, e, fun h0 => ?_⟩
  obtain ⟨g', off, e2, h1, h2⟩ := hr h0
  injection e with e3 e4 e5
  rw [e2] at e3
  injection e3 with e3
  injection e3 with e3 e6
  subst e3
  exact ⟨g, off, e2, hF, h1, h2⟩
theorem row_store {B1 k1 n1 r : Nat} {T1 : TypeId} {v1 : Value} {x1 : List Value} {W : World} {cs : Array Value} {T2 : TypeId} (h1 : W.ownsRow B1 T1 k1 v1 n1 x1) (h2 : W.heap[r]? = some (.cells cs T2 (0, 0))) (hT : T1 ≠ T2) : v1.ownBlock ≠ some r := fun e1 => by
  rcases h1.2 with ⟨e, _⟩ | ⟨a, _, _, ea, _, ha, _⟩
  · rw [e] at e1; cases e1
  · rw [ea] at e1
    have x1 : a = r := Option.some.inj e1
    rw [x1, h2] at ha
    injection ha with ha
    injection ha with _ ha
    exact hT ha.symm
theorem rows_apart {B1 B2 k1 k2 n1 n2 g : Nat} {T1 T2 : TypeId} {v1 v2 : Value} {x1 x2 : List Value} {W : World} (h1 : W.ownsRow B1 T1 k1 v1 n1 x1) (h2 : W.ownsRow B2 T2 k2 v2 n2 x2) (hT : T1 ≠ T2) (e1 : v1.ownBlock = some g) (e2 : v2.ownBlock = some g) : False := by
  rcases h1.2 with ⟨e, _⟩ | ⟨a, _, _, ea, _, ha, _⟩
  · rw [e] at e1; cases e1
  · rcases h2.2 with ⟨e, _⟩ | ⟨b, _, _, eb, _, hb, _⟩
    · rw [e] at e2; cases e2
    · rw [ea] at e1
      rw [eb] at e2
      have x1 : a = g := Option.some.inj e1
      have x2 : b = g := Option.some.inj e2
      rw [x1] at ha
      rw [x2, ha] at hb
      injection hb with hb
      injection hb with _ hb
      exact hT hb
theorem row_gr {B k n : Nat} {T : TypeId} {v : Value} {xs : List Value} {w W : World} {ob : Option Nat} (h : w.ownsRow B T k v n xs) (hg : w.grownBy W ob) (hE : ∀ g, v.ownBlock = some g → ob ≠ some g) : W.ownsRow B T k v n xs := by
  refine ⟨h.1, ?_⟩
  rcases h.2 with h2 | ⟨g, cap, cur, e1, e2, e3, e4⟩
  · exact .inl h2
  · refine .inr ⟨g, cap, cur, e1, e2, (hg.block g (Array.getElem?_eq_some_iff.1 e3).1 (fun e => hE g (by rw [e1]; rfl) e.symm)).trans e3, e4⟩
theorem fr_gr {w W : World} {ob : Option Nat} (h : w.grownBy W ob) : Fr (fun k => ob = some k) w W := ⟨h.os, h.tape, h.output, h.size, fun k hk hn => h.block k hk (fun e => hn e.symm)⟩
theorem set6 {w : World} {r : Nat} {a0 a1 a2 a3 a4 a5 : Value} {T : TypeId} (h : w.heap[r]? = some (.cells #[a0, a1, a2, a3, a4, a5] T (0, 0))) (u : Value) : (w.setCell ⟨r, 4, none⟩ u).heap[r]? = some (.cells #[a0, a1, a2, a3, u, a5] T (0, 0)) ∧ (w.setCell ⟨r, 5, none⟩ u).heap[r]? = some (.cells #[a0, a1, a2, a3, a4, u] T (0, 0)) :=
  ⟨by have := Cn.blk_set h 4 u; simpa using this, by have := Cn.blk_set h 5 u; simpa using this⟩
theorem own_frz {B n g cap : Nat} {T : TypeId} {xs : List Value} {W : World} (h : W.ownsRow B T 1 (.slice (some ⟨g, 0, none⟩) n cap) n xs) (i : Nat) : W.frozen? ⟨g, i, none⟩ = false := by
  rcases h.2 with ⟨e, _⟩ | ⟨g', c', cur, e1, _, e3, _⟩
  · cases e
  · injection e1 with e1
    injection e1 with e1
    injection e1 with e1
    subst e1
    exact frz e3 i
theorem own_snoc {B g c : Nat} {l : List Ver} {v : Ver} {V : World} (h : V.ownsRow B 89 3 (.slice (some ⟨g, 0, none⟩) (l.length + 1) c) (l.length + 1) (vC l ++ encV v)) : OwV 89 B (.slice (some ⟨g, 0, none⟩) (l.length + 1) c) (l ++ [v]) V := by
  show World.ownsRow _ _ _ _ _ _ _
  rw [vC_snoc, List.length_append]; exact h
theorem RdVF.grow {F : Nat → Prop} {v : Value} {l : List Ver} {w W : World} {g : Nat} (h : RdVF F v l w) (hf : Fr (fun k => k = g) w W) (hg : ¬ F g) : RdVF F v l W := h.fr hf (fun k hk e => hg (by rw [← e]; exact hk))
set_option maxRecDepth 100000 in
set_option maxHeartbeats 8000000 in
theorem put_r {F G : Nat → Prop} {r : Nat} {A : List (List ItT)} {kl vl fl : Int} {Ns : List Key} {Cs : List (List Ver)} {w : World} (h : IsR F G r A kl vl fl Ns Cs w) (hNC : Ns.length = Cs.length) (hC : Cs.length ≤ 1000) (hL : ∀ c ∈ Cs, c.length ≤ 1000) (hFb : ∀ k, F k → k < w.heap.size) (key : ByteArray) (v1 : Int) (v2 : ByteArray) (v3 : Bool) :
    Calls Try.prog 37 #[.pointer (some ⟨r, 0, none⟩), .string key, .agg #[.int .i64 v1, .string v2, .bool v3]] w fun e w' => e = .returned (.tuple #[]) ∧ PuR F G r A kl vl fl Ns Cs key.data.toList (v1, v2, v3) w w' := by
  obtain ⟨W0, hW0, hk0, hb0⟩ := Cn.new3 w (.int .i64 v1) (.string v2) (.bool v3) 89
  have hzW : w.heap.size < W0.heap.size := (Array.getElem?_eq_some_iff.1 hk0).1
  have HW0 := Lib.hid hW0
  have HB0 := Lib.hid hb0
  have HK0 := Lib.hid hk0
  have HI := Lib.hid h
  have H0 := Lib.hid (h.go hb0)
  obtain ⟨vA, vN, vC, cs, h1, h2, h3, h4, h5, h6, h7, h8⟩ := h.ex
  have hrl : r < w.heap.size := (Array.getElem?_eq_some_iff.1 h1).1
  obtain ⟨c0, c1, c2, c3, c4, c5⟩ := cells6 ((hb0.block r hrl).trans h1)
  obtain ⟨aN, capN, hvN⟩ := own_form h3
  subst hvN
  have H1 := Lib.hid h1
  have H2 := Lib.hid h2
  have H3 := Lib.hid h3
  have H4 := Lib.hid h4
  have H5 := Lib.hid h5
  have H6 := Lib.hid h6
  have H7 := Lib.hid h7
  have H8 := Lib.hid h8
  have HNC := Lib.hid hNC
  have HL := Lib.hid hL
  have HFb := Lib.hid hFb
  obtain ⟨n, hn⟩ : ∃ n, n = Ns.length := ⟨_, rfl⟩
  have HN : Hid (Ns.length = n) := hn.symm
  have HCn : Hid (Cs.length = n) := by show _ = _; omega
  have HCS : Hid (cs.length = n) := by show _ = _; omega
  have hnb : n ≤ 1000 := by omega
  rw [← hn] at c4 H3
  clear hW0 hk0 hb0 h h1 h2 h3 h4 h5 h6 h7 h8 hNC hC hL hn hFb
  go_enter Try.func37, Try.ntmps37
  go_upto_region 1 with (fail)
  rw [← HW0.out]
  go_wp2
  go_loopw [13] (fun iv wr => ∃ j : Nat, j ≤ n ∧ iv = .int .i64 (j : Int) ∧ Hid (∀ k (hk : k < j) (hn : k < Ns.length), Ns[k] ≠ key.data.toList) ∧ Hid (wr = W0)) (fun iv _ => n - (intOf iv).toNat)
  case atStart => exact ⟨0, by omega, rfl, Lib.hid (fun k hk => absurd hk (Nat.not_lt_zero _)), Lib.hid rfl⟩
  case round =>
    obtain ⟨j, hj, rfl, HNO, HWW⟩ := hrel
    obtain rfl := HWW.out
    by_cases hlt : j < n
    · have hjN : j < Ns.length := by rw [HN.out]; exact hlt
      obtain ⟨gN, rfl, hnc, _, hgN, hat⟩ := own1_eq (g := 0) H3.out (by rw [List.length_map]; exact HN.out) (by omega)
      have a0 := (HB0.out.cell (p := ⟨gN, j, none⟩) hgN).trans (hat j (by rw [List.length_map]; exact hjN))
      rw [List.getElem_map] at a0
      have hj0 : (0 : Int) ≤ (j : Int) := by omega
      have hjl : (j : Int) < (n : Int) := by omega
      have HJ := Lib.hid hjN
      have HEQ : Hid ((Ns[j]'HJ.out = key.data.toList) ↔ (bk (Ns[j]'HJ.out)).toList == key.toList) := by
        show _ ↔ _
        rw [Lib.toList_data, Lib.toList_data, bk_of (Ns[j]'HJ.out), beq_iff_eq]
      rw [show encStr Ns[j] = .string (bk Ns[j]) from rfl] at a0
      generalize hy : bk (Ns[j]'hjN) = y at a0
      have HY := Lib.hid hy
      clear hat hy
      cases hb : y.toList == key.toList with
      | false =>
        have HNN : Hid (∀ k (hk : k < j + 1) (hn : k < Ns.length), Ns[k] ≠ key.data.toList) := fun k hk hn e => by
          rcases Nat.lt_or_ge k j with g | g
          · exact HNO.out k g hn e
          · have : k = j := by omega
            subst this
            have := HEQ.out.1 e
            rw [HY.out, hb] at this
            cases this
        go_wp2
        go_roundw
        case rel => exact ⟨j + 1, by omega, by go_num, HNN, Lib.hid trivial⟩
        case measure => simp [intOf]; omega
      | true =>
        have HFO : Hid (Ns[j]'HJ.out = key.data.toList) := HEQ.out.2 (by rw [HY.out, hb])
        have hjC : j < Cs.length := by rw [HCn.out]; exact hlt
        have hjs : j < cs.length := by rw [HCS.out]; exact hlt
        have h5n : w.ownsRow 0 71 1 vC n cs := by rw [← HCn.out]; exact H5.out
        obtain ⟨gC, capC, rfl, hC1, hC2, _, hgC, hatC⟩ := own1_at h5n HCS.out (by omega)
        obtain ⟨ao, cap, hce, hrd⟩ := H8.out j hjC hjs
        have b0 := hatC j hjs
        rw [hce] at b0
        have HKV : Hid (∀ V, Below w.heap.size w V → V.cell? ⟨r, 5, none⟩ = some (.slice (some ⟨gC, 0, none⟩) n capC) ∧ V.cell? ⟨gC, j, none⟩ = some (.slice ao Cs[j].length cap)) := fun V hV => ⟨(cells6 ((hV.block r hrl).trans H1.out)).2.2.2.2.2, (hV.cell (p := ⟨gC, j, none⟩) hgC).trans b0⟩
        have HRDW : Hid (∀ V, Below w.heap.size w V → RdV (.slice ao Cs[j].length cap) Cs[j] V) := fun V hV => by
          have := (H8.out j hjC hjs).rd
          rw [hce] at this
          exact this.go hV
        have HLJ := HL.out _ (List.getElem_mem hjC)
        have hgCr : gC ≠ r := fun e => (H6.out gC rfl).2 |> fun _ => by
          have h1 := H1.out
          rw [← e] at h1
          rcases h5n.2 with ⟨e2, _⟩ | ⟨g', c', cur, e1, _, e3, _⟩
          · cases e2
          · injection e1 with e1
            injection e1 with e1
            injection e1 with e1
            rw [← e1, h1] at e3
            injection e3 with e3
            injection e3 with _ e3
            exact absurd e3 (by decide)
        have HGR := Lib.hid hgCr
        have HH5 := Lib.hid h5n
        have hn1 : r ≠ wr.heap.size := by omega
        have hn2 : gC ≠ wr.heap.size := by omega
        have hn3 : w.heap.size ≠ wr.heap.size := by omega
        obtain ⟨_, a5⟩ := HKV.out wr HB0.out
        obtain ⟨d0, d1, d2⟩ := Cn.cells3 HK0.out
        obtain ⟨i0, hi, hz0, hz1, hz2⟩ := info_parts infoR
        obtain ⟨l, hl⟩ : ∃ l, l = Cs[j] := ⟨_, rfl⟩
        have HLL := Lib.hid hl
        rw [← hl] at a5 HKV HRDW HLJ
        have HCJ := Lib.hid hjC
        clear hl hce hrd b0 hatC h5n hjs hgCr
        have D1 : Hid (0 + l.length ≤ maxLen) := by show _ ≤ _; unfold maxLen; omega
        have D2 : Hid ((0 + l.length) * 32 ≤ 140737488355328) := by show _ ≤ _; omega
        have D3 : Hid (l.length + 1 ≤ maxLen) := by show _ ≤ _; unfold maxLen; omega
        have D4 : Hid ((l.length + 1) * 32 ≤ 140737488355328) := by show _ ≤ _; omega
        have HBW := HB0
        have HLE : Hid (w.heap.size ≤ wr.heap.size) := HB0.out.size
        have hltr : w.heap.size < wr.heap.size := hzW
        have hkr := HK0.out
        have HFINI : Hid (∀ (V2 : World) (g2 c2 : Nat), OwV 89 w.heap.size (.slice (some ⟨g2, 0, none⟩) (l.length + 1) c2) (l ++ [(v1, v2, v3)]) V2 → Below w.heap.size w V2 → PuR F G r A kl vl fl Ns Cs key.data.toList (v1, v2, v3) w (V2.setCell ⟨gC, j, none⟩ (.slice (some ⟨g2, 0, none⟩) (l.length + 1) c2))) := fun V2 g2 c2 ho hb => by
          have hjN := HJ.out
          have hmem : key.data.toList ∈ Ns := by rw [← HFO.out]; exact List.getElem_mem hjN
          have hix : ixOf Ns key.data.toList = j := idx_of hjN HFO.out (fun k hk => HNO.out k hk (Nat.lt_trans hk hjN))
          have hPN : putN Ns key.data.toList = Ns := if_pos hmem
          have hPC : putC Ns Cs key.data.toList (v1, v2, v3) = Cs.set j (l ++ [(v1, v2, v3)]) := by
            unfold putC
            rw [if_pos hmem, hix, HLL.out, List.getD_eq_getElem?_getD, List.getElem?_eq_getElem HCJ.out]; rfl
          have hog := ho.lt g2 rfl
          have hFr : Fr (fun k => k = gC) V2 (V2.setCell ⟨gC, j, none⟩ (.slice (some ⟨g2, 0, none⟩) (l.length + 1) c2)) := (Fr.refl _ V2).set _ rfl
          have hf2 : Fr (fun k => k = gC) w (V2.setCell ⟨gC, j, none⟩ (.slice (some ⟨g2, 0, none⟩) (l.length + 1) c2)) := (Fr.below (E := fun k => k = gC) hb).trans hFr (fun k hk => .inl hk)
          have hGC := H6.out gC rfl
          have hup : ∀ k, F k → k < (V2.setCell ⟨gC, j, none⟩ (.slice (some ⟨g2, 0, none⟩) (l.length + 1) c2)).heap.size → F k ∨ k = g2 := fun k hk _ => .inl hk
          have hng : ∀ k, F k → ¬ k = gC := fun k hk e => hGC.2 (by rw [← e]; exact hk)
          have hg2 : w.heap.size ≤ g2 := hog.1
          rw [show V2.setCell ⟨gC, j, none⟩ (.slice (some ⟨g2, 0, none⟩) (l.length + 1) c2) = V2.setCell ⟨gC, j, none⟩ (.slice (some ⟨g2, 0, none⟩) (l.length + 1) c2) from rfl] at *
          refine ⟨fun k => F k ∨ k = g2, ⟨⟨vA, _, _, cs.set j (.slice (some ⟨g2, 0, none⟩) (l.length + 1) c2), (hf2.block r hrl (fun e => HGR.out e.symm)).trans H1.out, (H2.out.fr hf2 hng).up hup, ?_, ?_, ?_, ?_, ?_, ?_⟩, ?_, ?_⟩, hf2.mono (fun k e => by rw [e]; exact hGC.1), ?_⟩
          · rw [hPN]
            have h3 : w.ownsRow 0 9 1 (.slice (some ⟨gN, 0, none⟩) Ns.length capN) Ns.length (Ns.map encStr) := by have := H3.out; rw [← HN.out] at this; exact this
            refine row_fr h3 hf2 (fun g e hg => ?_)
            rw [hg] at e
            rcases h3.2 with ⟨e2, _⟩ | ⟨g', c', cur, e1, _, e3, _⟩
            · rw [e2] at e; cases e
            · rw [e1] at e
              have e : g' = gC := Option.some.inj e
              rcases HH5.out.2 with ⟨e4, _⟩ | ⟨g'', c'', cur', e5, _, e6, _⟩
              · cases e4
              · injection e5 with e5
                injection e5 with e5
                injection e5 with e5
                rw [← e5] at e6
                rw [e] at e3
                rw [e3] at e6
                injection e6 with e6
                injection e6 with _ e6
                exact absurd e6 (by decide)
          · exact fun g e => ⟨.inl (H4.out g e).1, fun hh => hh.elim (H4.out g e).2 (fun e2 => by
              have := (H3.out.lt g e).2
              omega)⟩
          · rw [hPC, List.length_set, HCn.out]
            exact own1_set (own_go HH5.out hb) hlt _
          · exact fun g e => ⟨.inl (H6.out g e).1, fun hh => hh.elim (H6.out g e).2 (fun e2 => by
              injection e with e
              have : gC = g := e
              omega)⟩
          · rw [hPC, List.length_set, List.length_set]; exact H7.out
          · intro i hi hj'
            simp only [hPC]
            by_cases hij : i = j
            · subst hij
              simp only [List.getElem_set_self]
              have ho2 : OwV 89 w.heap.size (.slice (some ⟨g2, 0, none⟩) (l.length + 1) c2) (l ++ [(v1, v2, v3)]) (V2.setCell ⟨gC, i, none⟩ (.slice (some ⟨g2, 0, none⟩) (l.length + 1) c2)) := own_set_oth ho (fun e => by
                injection e with e
                have : g2 = gC := e
                omega)
              exact OwV.rdAt ho2 (.inr rfl)
            · rw [List.getElem_set_ne (fun e => hij e.symm), List.getElem_set_ne (fun e => hij e.symm)]
              refine (RdVF.fr (H8.out i _ _) hf2 hng).up hup
          · exact ⟨.inl HI.out.fr.1, fun hh => hh.elim HI.out.fr.2 (fun e => by omega)⟩
          · exact fun k hk => hk.elim (fun h => .inl (HI.out.sub k h)) (fun e => .inr (by omega))
          · exact fun k hk => hk.elim .inl (fun e => .inr (by omega))
        have frzC : ∀ {V : World}, Below w.heap.size w V → V.frozen? ⟨gC, j, none⟩ = false := fun {V} hV => own_frz (own_go HH5.out hV) _
        go_upto_region 5 with (fail)
        clear a0
        have hdi : decide ((j : Int) < (n : Int)) = true := decide_eq_true hjl
        by_cases hlp : 0 < l.length
        · obtain ⟨g, off, hao, hg, _⟩ := rdv_at (HRDW.out wr HB0.out) hlp
          subst hao
          have SF : Hid (∀ V : World, Below w.heap.size w V → V.heap[w.heap.size]? = some (.cells #[.int .i64 v1, .string v2, .bool v3] 89 (0, 0)) → (fun V : World => V.cell? ⟨r, 5, none⟩ = some (.slice (some ⟨gC, 0, none⟩) n capC) ∧ V.heap[w.heap.size]? = some (.cells #[.int .i64 v1, .string v2, .bool v3] 89 (0, 0))) V) := fun V hV hx => ⟨(HKV.out V hV).1, hx⟩
          have hS0 : (fun V : World => V.cell? ⟨r, 5, none⟩ = some (.slice (some ⟨gC, 0, none⟩) n capC) ∧ V.heap[w.heap.size]? = some (.cells #[.int .i64 v1, .string v2, .bool v3] 89 (0, 0))) wr.drew := SF.out _ (HB0.out.trans ((bdr wr).mono HB0.out.size)) HK0.out
          obtain ⟨V9, hV9⟩ : ∃ V9, V9 = wr.drew := ⟨_, rfl⟩
          have hS9 : (fun V : World => V.cell? ⟨r, 5, none⟩ = some (.slice (some ⟨gC, 0, none⟩) n capC) ∧ V.heap[w.heap.size]? = some (.cells #[.int .i64 v1, .string v2, .bool v3] 89 (0, 0))) V9 := by rw [hV9]; exact hS0
          have B9 : Hid (Below w.heap.size w V9) := by rw [hV9]; exact Lib.hid (HB0.out.trans ((bdr wr).mono HB0.out.size))
          have X9 : Hid (V9.heap[w.heap.size]? = some (.cells #[.int .i64 v1, .string v2, .bool v3] 89 (0, 0))) := by rw [hV9]; exact HK0
          have Z9 : Hid (w.heap.size + 1 ≤ V9.heap.size) := by rw [hV9]; exact hzW
          refine wp_region_held_drew (S := (fun V : World => V.cell? ⟨r, 5, none⟩ = some (.slice (some ⟨gC, 0, none⟩) n capC) ∧ V.heap[w.heap.size]? = some (.cells #[.int .i64 v1, .string v2, .bool v3] 89 (0, 0)))) (by kernel_rfl) hS0 (fun hHeld => ?_)
          rw [← hV9] at hHeld ⊢
          clear hV9 hS0 hHeld c0 c1 c2 c3 c4 c5 a5 d0 d1 d2
          refine wpAnyH_take (i := 0) (oi := ?o0r1) (v := ?v0r1) ?e0r1 ?a0r1 ?b0r1 ?c0r1 ?q0r1 (Or.inl ⟨?w0r1, ?h0r1⟩) ?s0r1 ?r0r1
          case e0r1 => (simp only [List.getElem?_toArray, List.getElem?_cons_zero, List.getElem?_cons_succ]; rfl)
          case a0r1 => kernel_rfl
          case b0r1 => kernel_rfl
          case c0r1 => kernel_rfl
          case q0r1 => exact fun _ _ _ h => h
          case w0r1 => rfl
          case s0r1 => assumption
          case h0r1 => (intro W hSw; obtain ⟨a5, abx⟩ := hSw; obtain ⟨ab0, ab1, ab2⟩ := Cn.cells3 abx; go_simp; try with_reducible rfl)
          try simp only [Act.put, List.setIfInBounds_toArray, List.set_cons_zero, List.set_cons_succ]
          refine wpAnyH_take (i := 1) (oi := ?o1r1) (v := ?v1r1) ?e1r1 ?a1r1 ?b1r1 ?c1r1 ?q1r1 (Or.inl ⟨?w1r1, ?h1r1⟩) ?s1r1 ?r1r1
          case e1r1 => (simp only [List.getElem?_toArray, List.getElem?_cons_zero, List.getElem?_cons_succ]; rfl)
          case a1r1 => kernel_rfl
          case b1r1 => kernel_rfl
          case c1r1 => kernel_rfl
          case q1r1 => exact fun _ _ _ h => h
          case w1r1 => rfl
          case s1r1 => assumption
          case h1r1 => (intro W hSw; obtain ⟨a5, abx⟩ := hSw; obtain ⟨ab0, ab1, ab2⟩ := Cn.cells3 abx; go_simp; try with_reducible rfl)
          try simp only [Act.put, List.setIfInBounds_toArray, List.set_cons_zero, List.set_cons_succ]
          refine wpAnyH_take (i := 2) (oi := ?o2r1) (v := ?v2r1) ?e2r1 ?a2r1 ?b2r1 ?c2r1 ?q2r1 (Or.inl ⟨?w2r1, ?h2r1⟩) ?s2r1 ?r2r1
          case e2r1 => (simp only [List.getElem?_toArray, List.getElem?_cons_zero, List.getElem?_cons_succ]; rfl)
          case a2r1 => kernel_rfl
          case b2r1 => kernel_rfl
          case c2r1 => kernel_rfl
          case q2r1 => exact fun _ _ _ h => h
          case w2r1 => rfl
          case s2r1 => assumption
          case h2r1 => (intro W hSw; obtain ⟨a5, abx⟩ := hSw; obtain ⟨ab0, ab1, ab2⟩ := Cn.cells3 abx; go_simp; try with_reducible rfl)
          try simp only [Act.put, List.setIfInBounds_toArray, List.set_cons_zero, List.set_cons_succ]
          refine wpAnyH_take (i := 3) (oi := ?o3r1) (v := ?v3r1) ?e3r1 ?a3r1 ?b3r1 ?c3r1 ?q3r1 (Or.inl ⟨?w3r1, ?h3r1⟩) ?s3r1 ?r3r1
          case e3r1 => (simp only [List.getElem?_toArray, List.getElem?_cons_zero, List.getElem?_cons_succ]; rfl)
          case a3r1 => kernel_rfl
          case b3r1 => kernel_rfl
          case c3r1 => kernel_rfl
          case q3r1 => exact fun _ _ _ h => h
          case w3r1 => rfl
          case s3r1 => assumption
          case h3r1 => (intro W hSw; obtain ⟨a5, abx⟩ := hSw; obtain ⟨ab0, ab1, ab2⟩ := Cn.cells3 abx; go_simp; try with_reducible rfl)
          try simp only [Act.put, List.setIfInBounds_toArray, List.set_cons_zero, List.set_cons_succ]
          refine wpAnyH_take (i := 4) (oi := ?o4r1) (v := ?v4r1) ?e4r1 ?a4r1 ?b4r1 ?c4r1 ?q4r1 (Or.inl ⟨?w4r1, ?h4r1⟩) ?s4r1 ?r4r1
          case e4r1 => (simp only [List.getElem?_toArray, List.getElem?_cons_zero, List.getElem?_cons_succ]; rfl)
          case a4r1 => kernel_rfl
          case b4r1 => kernel_rfl
          case c4r1 => kernel_rfl
          case q4r1 => exact fun _ _ _ h => h
          case w4r1 => rfl
          case s4r1 => assumption
          case h4r1 => (intro W hSw; obtain ⟨a5, abx⟩ := hSw; obtain ⟨ab0, ab1, ab2⟩ := Cn.cells3 abx; go_simp; try with_reducible rfl)
          try simp only [Act.put, List.setIfInBounds_toArray, List.set_cons_zero, List.set_cons_succ]
          refine wpAnyH_take (i := 6) (oi := ?o6r1) (v := ?v6r1) ?e6r1 ?a6r1 ?b6r1 ?c6r1 ?q6r1 (Or.inl ⟨?w6r1, ?h6r1⟩) ?s6r1 ?r6r1
          case e6r1 => (simp only [List.getElem?_toArray, List.getElem?_cons_zero, List.getElem?_cons_succ]; rfl)
          case a6r1 => kernel_rfl
          case b6r1 => kernel_rfl
          case c6r1 => kernel_rfl
          case q6r1 => exact fun _ _ _ h => h
          case w6r1 => rfl
          case s6r1 => assumption
          case h6r1 => (intro W hSw; obtain ⟨a5, abx⟩ := hSw; obtain ⟨ab0, ab1, ab2⟩ := Cn.cells3 abx; go_simp; try with_reducible rfl)
          try simp only [Act.put, List.setIfInBounds_toArray, List.set_cons_zero, List.set_cons_succ]
          refine wpAnyH_take (i := 7) (oi := ?o7r1) (v := ?v7r1) ?e7r1 ?a7r1 ?b7r1 ?c7r1 ?q7r1 (Or.inl ⟨?w7r1, ?h7r1⟩) ?s7r1 ?r7r1
          case e7r1 => (simp only [List.getElem?_toArray, List.getElem?_cons_zero, List.getElem?_cons_succ]; rfl)
          case a7r1 => kernel_rfl
          case b7r1 => kernel_rfl
          case c7r1 => kernel_rfl
          case q7r1 => exact fun _ _ _ h => h
          case w7r1 => rfl
          case s7r1 => assumption
          case h7r1 => (intro W hSw; obtain ⟨a5, abx⟩ := hSw; obtain ⟨ab0, ab1, ab2⟩ := Cn.cells3 abx; go_simp; try with_reducible rfl)
          try simp only [Act.put, List.setIfInBounds_toArray, List.set_cons_zero, List.set_cons_succ]
          refine wpAnyH_take (i := 8) (oi := ?o8r1) (v := ?v8r1) ?e8r1 ?a8r1 ?b8r1 ?c8r1 ?q8r1 (Or.inl ⟨?w8r1, ?h8r1⟩) ?s8r1 ?r8r1
          case e8r1 => (simp only [List.getElem?_toArray, List.getElem?_cons_zero, List.getElem?_cons_succ]; rfl)
          case a8r1 => kernel_rfl
          case b8r1 => kernel_rfl
          case c8r1 => kernel_rfl
          case q8r1 => exact fun _ _ _ h => h
          case w8r1 => rfl
          case s8r1 => assumption
          case h8r1 => (intro W hSw; obtain ⟨a5, abx⟩ := hSw; obtain ⟨ab0, ab1, ab2⟩ := Cn.cells3 abx; go_simp; try with_reducible rfl)
          try simp only [Act.put, List.setIfInBounds_toArray, List.set_cons_zero, List.set_cons_succ]
          refine wpAnyH_take (i := 9) (oi := ?o9r1) (v := ?v9r1) ?e9r1 ?a9r1 ?b9r1 ?c9r1 ?q9r1 (Or.inl ⟨?w9r1, ?h9r1⟩) ?s9r1 ?r9r1
          case e9r1 => (simp only [List.getElem?_toArray, List.getElem?_cons_zero, List.getElem?_cons_succ]; rfl)
          case a9r1 => kernel_rfl
          case b9r1 => kernel_rfl
          case c9r1 => kernel_rfl
          case q9r1 => exact fun _ _ _ h => h
          case w9r1 => rfl
          case s9r1 => assumption
          case h9r1 => (intro W hSw; obtain ⟨a5, abx⟩ := hSw; obtain ⟨ab0, ab1, ab2⟩ := Cn.cells3 abx; go_simp; try with_reducible rfl)
          try simp only [Act.put, List.setIfInBounds_toArray, List.set_cons_zero, List.set_cons_succ]
          refine wpAnyH_take (i := 10) (oi := ?o10r1) (v := ?v10r1) ?e10r1 ?a10r1 ?b10r1 ?c10r1 ?q10r1 (Or.inl ⟨?w10r1, ?h10r1⟩) ?s10r1 ?r10r1
          case e10r1 => (simp only [List.getElem?_toArray, List.getElem?_cons_zero, List.getElem?_cons_succ]; rfl)
          case a10r1 => kernel_rfl
          case b10r1 => kernel_rfl
          case c10r1 => kernel_rfl
          case q10r1 => exact fun _ _ _ h => h
          case w10r1 => rfl
          case s10r1 => assumption
          case h10r1 => (intro W hSw; obtain ⟨a5, abx⟩ := hSw; obtain ⟨ab0, ab1, ab2⟩ := Cn.cells3 abx; go_simp; try with_reducible rfl)
          try simp only [Act.put, List.setIfInBounds_toArray, List.set_cons_zero, List.set_cons_succ]
          refine wpAnyH_take (i := 11) (oi := ?o11r1) (v := ?v11r1) ?e11r1 ?a11r1 ?b11r1 ?c11r1 ?q11r1 (Or.inl ⟨?w11r1, ?h11r1⟩) ?s11r1 ?r11r1
          case e11r1 => (simp only [List.getElem?_toArray, List.getElem?_cons_zero, List.getElem?_cons_succ]; rfl)
          case a11r1 => kernel_rfl
          case b11r1 => kernel_rfl
          case c11r1 => kernel_rfl
          case q11r1 => exact fun _ _ _ h => h
          case w11r1 => rfl
          case s11r1 => assumption
          case h11r1 => (intro W hSw; obtain ⟨a5, abx⟩ := hSw; obtain ⟨ab0, ab1, ab2⟩ := Cn.cells3 abx; go_simp; try with_reducible rfl)
          try simp only [Act.put, List.setIfInBounds_toArray, List.set_cons_zero, List.set_cons_succ]
          refine wpAnyH_take (i := 14) (oi := ?o14r1) (v := ?v14r1) ?e14r1 ?a14r1 ?b14r1 ?c14r1 ?q14r1 (Or.inl ⟨?w14r1, ?h14r1⟩) ?s14r1 ?r14r1
          case e14r1 => (simp only [List.getElem?_toArray, List.getElem?_cons_zero, List.getElem?_cons_succ]; rfl)
          case a14r1 => kernel_rfl
          case b14r1 => kernel_rfl
          case c14r1 => kernel_rfl
          case q14r1 => exact fun _ _ _ h => h
          case w14r1 => rfl
          case s14r1 => assumption
          case h14r1 => (intro W hSw; obtain ⟨a5, abx⟩ := hSw; obtain ⟨ab0, ab1, ab2⟩ := Cn.cells3 abx; go_simp; try with_reducible rfl)
          try simp only [Act.put, List.setIfInBounds_toArray, List.set_cons_zero, List.set_cons_succ]
          refine wpAnyH_ready (rs := [5, 12, 15]) (by kernel_rfl) (by simp) (AllReadyH.cons (o := ?on2) ?en2 (fun K hK => ?kn2) (AllReadyH.cons (o := ?on3) ?en3 (fun K hK => ?kn3) (AllReadyH.cons (o := ?on4) ?en4 (fun K hK => ?kn4) (AllReadyH.nil))))
          case en2 => (simp only [List.getElem?_toArray, List.getElem?_cons_zero, List.getElem?_cons_succ]; rfl)
          case en3 => (simp only [List.getElem?_toArray, List.getElem?_cons_zero, List.getElem?_cons_succ]; rfl)
          case en4 => (simp only [List.getElem?_toArray, List.getElem?_cons_zero, List.getElem?_cons_succ]; rfl)
          case kn2 =>
            go_simp
            obtain ⟨Vn2, hVn2⟩ : ∃ V', V' = V9.alloc ObE := ⟨_, rfl⟩
            have qVn2 : Below V9.heap.size V9 Vn2 := by rw [hVn2]; exact (Below.refl _ _).alloc (Nat.le_refl _) _
            have BVn2 := Lib.hid (B9.out.trans (qVn2.mono B9.out.size))
            have XVn2 := Lib.hid ((qVn2.block w.heap.size (by have := Z9.out; omega)).trans X9.out)
            have ZVn2 : Hid (w.heap.size + 1 ≤ Vn2.heap.size) := Nat.le_trans Z9.out qVn2.size
            have EVn2 : Hid (OwV 89 (w.heap.size + 1) (.slice (some ⟨V9.heap.size, 0, none⟩) 0 0) [] Vn2) := by rw [hVn2]; exact own_e V9 _ Z9.out
            clear qVn2
            rw [← hVn2]
            clear hVn2
            refine hK.out _ _ (SF.out Vn2 BVn2.out XVn2.out) (fun _ => ?_)
            clear hK K
            try simp only [Act.put, List.setIfInBounds_toArray, List.set_cons_zero, List.set_cons_succ]
            refine wpAnyH_ready (rs := [12, 15]) (by kernel_rfl) (by simp) (AllReadyH.cons (o := ?on5) ?en5 (fun K hK => ?kn5) (AllReadyH.cons (o := ?on6) ?en6 (fun K hK => ?kn6) (AllReadyH.nil)))
            case en5 => (simp only [List.getElem?_toArray, List.getElem?_cons_zero, List.getElem?_cons_succ]; rfl)
            case en6 => (simp only [List.getElem?_toArray, List.getElem?_cons_zero, List.getElem?_cons_succ]; rfl)
            case kn5 =>
              have ec := (HKV.out Vn2 BVn2.out).2
              go_simp
              clear ec
              refine hK.out _ _ (SF.out Vn2 BVn2.out XVn2.out) (fun _ => ?_)
              clear hK K
              try simp only [Act.put, List.setIfInBounds_toArray, List.set_cons_zero, List.set_cons_succ]
              refine wpAnyH_ready (rs := [13, 15]) (by kernel_rfl) (by simp) (AllReadyH.cons (o := ?on7) ?en7 (fun K hK => ?kn7) (AllReadyH.cons (o := ?on8) ?en8 (fun K hK => ?kn8) (AllReadyH.nil)))
              case en7 => (simp only [List.getElem?_toArray, List.getElem?_cons_zero, List.getElem?_cons_succ]; rfl)
              case en8 => (simp only [List.getElem?_toArray, List.getElem?_cons_zero, List.getElem?_cons_succ]; rfl)
              case kn7 =>
                have LCVn7 := Lib.hid (rdv_cells (HRDW.out Vn2 BVn2.out))
                refine step_append_lies _ rfl _ _ 71 rfl (w.heap.size + 1) 89 i0 _ 3 32 Try.underlying71 hi hz0 hz1 hz2 rfl (by decide) _ _ _ rfl EVn2.out ⟨g, off, none⟩ l.length cap (vC l) rfl (vC_len l) LCVn7.out (vC_one l) hlp D1.out D2.out ZVn2.out _ rfl ?_
                intro gVn7 cVn7 Vn7 hown hgrow _ _
                have BVn7 := Lib.hid (BVn2.out.grown hgrow BVn2.out.size (fun k hk => by have := (EVn2.out.lt k hk).1; omega))
                have XVn7 : Hid (Vn7.heap[w.heap.size]? = some (.cells #[.int .i64 v1, .string v2, .bool v3] 89 (0, 0))) := (hgrow.block w.heap.size (by have := ZVn2.out; omega) (fun e => by have := (EVn2.out.lt _ e.symm).1; omega)).trans XVn2.out
                have ZVn7 : Hid (w.heap.size + 1 ≤ Vn7.heap.size) := Nat.le_trans ZVn2.out hgrow.size
                have EVn7 : Hid (OwV 89 (w.heap.size + 1) (.slice (some ⟨gVn7, 0, none⟩) l.length cVn7) l Vn7) := first_ap (g0 := 0) (W := Vn7) hown
                clear hown hgrow
                refine hK.out _ _ (SF.out Vn7 BVn7.out XVn7.out) (fun _ => ?_)
                clear hK K
                try simp only [Act.put, List.setIfInBounds_toArray, List.set_cons_zero, List.set_cons_succ]
                try simp only [List.length_nil, Nat.zero_add]
                refine wpAnyH_ready (rs := [15]) (by kernel_rfl) (by simp) (AllReadyH.cons (o := ?on9) ?en9 (fun K hK => ?kn9) (AllReadyH.nil))
                case en9 => (simp only [List.getElem?_toArray, List.getElem?_cons_zero, List.getElem?_cons_succ]; rfl)
                case kn9 =>
                  go_simp
                  obtain ⟨Vn9, hVn9⟩ : ∃ V', V' = Vn7.alloc (ObV v1 v2 v3) := ⟨_, rfl⟩
                  have qVn9 : Below Vn7.heap.size Vn7 Vn9 := by rw [hVn9]; exact (Below.refl _ _).alloc (Nat.le_refl _) _
                  have BVn9 := Lib.hid (BVn7.out.trans (qVn9.mono BVn7.out.size))
                  have XVn9 := Lib.hid ((qVn9.block w.heap.size (by have := ZVn7.out; omega)).trans XVn7.out)
                  have ZVn9 : Hid (w.heap.size + 1 ≤ Vn9.heap.size) := Nat.le_trans ZVn7.out qVn9.size
                  have OVn9 : Hid (Vn9.heap[Vn7.heap.size]? = some (ObV v1 v2 v3)) := by rw [hVn9]; exact heap_alloc_new Vn7 _
                  have EVn9 := Lib.hid (EVn7.out.go qVn9)
                  have NEVn9 : Hid (Vn7.heap.size ≠ gVn7) := Nat.ne_of_gt (EVn7.out.lt _ rfl).2
                  clear qVn9
                  rw [← hVn9]
                  clear hVn9
                  refine hK.out _ _ (SF.out Vn9 BVn9.out XVn9.out) (fun _ => ?_)
                  clear hK K
                  try simp only [Act.put, List.setIfInBounds_toArray, List.set_cons_zero, List.set_cons_succ]
                  refine wpAnyH_ready (rs := [16]) (by kernel_rfl) (by simp) (AllReadyH.cons (o := ?on10) ?en10 (fun K hK => ?kn10) (AllReadyH.nil))
                  case en10 => (simp only [List.getElem?_toArray, List.getElem?_cons_zero, List.getElem?_cons_succ]; rfl)
                  case kn10 =>
                    refine step_append_lies _ rfl _ _ 71 rfl (w.heap.size + 1) 89 i0 _ 3 32 Try.underlying71 hi hz0 hz1 hz2 rfl (by decide) _ _ _ rfl EVn9.out ⟨Vn7.heap.size, 0, none⟩ 1 1 (encV (v1, v2, v3)) rfl rfl (enc_cell OVn9.out) (enc_ok _) (by decide) D3.out D4.out ZVn9.out _ rfl ?_
                    intro gVn10 cVn10 Vn10 hown hgrow _ _
                    have BVn10 := Lib.hid (BVn9.out.grown hgrow BVn9.out.size (fun k hk => by have := (EVn9.out.lt k hk).1; omega))
                    have XVn10 : Hid (Vn10.heap[w.heap.size]? = some (.cells #[.int .i64 v1, .string v2, .bool v3] 89 (0, 0))) := (hgrow.block w.heap.size (by have := ZVn9.out; omega) (fun e => by have := (EVn9.out.lt _ e.symm).1; omega)).trans XVn9.out
                    have EVn10 : Hid (OwV 89 (w.heap.size + 1) (.slice (some ⟨gVn10, 0, none⟩) (l.length + 1) cVn10) (l ++ [(v1, v2, v3)]) Vn10) := own_snoc (l := l) hown
                    have FIVn10 := Lib.hid (HFINI.out Vn10 gVn10 cVn10 (EVn10.out.mono (Nat.le_succ _)) BVn10.out)
                    clear hown hgrow
                    refine hK.out _ _ (SF.out Vn10 BVn10.out XVn10.out) (fun _ => ?_)
                    clear hK K
                    try simp only [Act.put, List.setIfInBounds_toArray, List.set_cons_zero, List.set_cons_succ]
                    refine wpAnyH_take (i := 17) (oi := ?o17r12) (v := ?v17r12) ?e17r12 ?a17r12 ?b17r12 ?c17r12 ?q17r12 (Or.inl ⟨?w17r12, ?h17r12⟩) ?s17r12 ?r17r12
                    case e17r12 => (simp only [List.getElem?_toArray, List.getElem?_cons_zero, List.getElem?_cons_succ]; rfl)
                    case a17r12 => kernel_rfl
                    case b17r12 => kernel_rfl
                    case c17r12 => kernel_rfl
                    case q17r12 => exact fun _ _ _ h => h
                    case w17r12 => rfl
                    case s17r12 => assumption
                    case h17r12 => (intro W hSw; obtain ⟨a5, abx⟩ := hSw; obtain ⟨ab0, ab1, ab2⟩ := Cn.cells3 abx; go_simp; try with_reducible rfl)
                    try simp only [Act.put, List.setIfInBounds_toArray, List.set_cons_zero, List.set_cons_succ]
                    refine wpAnyH_ready (rs := [18]) (by kernel_rfl) (by simp) (AllReadyH.cons (o := ?on11) ?en11 (fun K hK => ?kn11) (AllReadyH.nil))
                    case en11 => (simp only [List.getElem?_toArray, List.getElem?_cons_zero, List.getElem?_cons_succ]; rfl)
                    case kn11 =>
                      have ec := (HKV.out Vn10 BVn10.out).2
                      have ef := frzC BVn10.out
                      go_simp
                      clear ec ef
                      refine hK.out _ _ ⟨?_, ?_⟩ (fun _ => ?_)
                      · rw [World.cell?_of_block (w := Vn10) (a := ⟨r, 5, none⟩) (set_oth Vn10 gC j _ (fun e => HGR.out e.symm))]; exact (HKV.out Vn10 BVn10.out).1
                      · exact (set_oth Vn10 gC j _ (by omega)).trans XVn10.out
                      clear hK K
                      try simp only [Act.put, List.setIfInBounds_toArray, List.set_cons_zero, List.set_cons_succ]
                      refine wpAnyH_done (by kernel_rfl) ?_ _
                      go_wp2
                      (try simp only [Exit.inBlock, Exit.then])
                      refine bodyPost_ret (results_none rfl _ _ _) rfl ?_
                      exact ⟨rfl, FIVn10.out⟩
              case kn8 =>
                go_simp
                obtain ⟨Vn8, hVn8⟩ : ∃ V', V' = Vn2.alloc (ObV v1 v2 v3) := ⟨_, rfl⟩
                have qVn8 : Below Vn2.heap.size Vn2 Vn8 := by rw [hVn8]; exact (Below.refl _ _).alloc (Nat.le_refl _) _
                have BVn8 := Lib.hid (BVn2.out.trans (qVn8.mono BVn2.out.size))
                have XVn8 := Lib.hid ((qVn8.block w.heap.size (by have := ZVn2.out; omega)).trans XVn2.out)
                have ZVn8 : Hid (w.heap.size + 1 ≤ Vn8.heap.size) := Nat.le_trans ZVn2.out qVn8.size
                have OVn8 : Hid (Vn8.heap[Vn2.heap.size]? = some (ObV v1 v2 v3)) := by rw [hVn8]; exact heap_alloc_new Vn2 _
                have EVn8 := Lib.hid (EVn2.out.go qVn8)
                have NEVn8 : Hid (Vn2.heap.size ≠ V9.heap.size) := Nat.ne_of_gt (EVn2.out.lt _ rfl).2
                clear qVn8
                rw [← hVn8]
                clear hVn8
                refine hK.out _ _ (SF.out Vn8 BVn8.out XVn8.out) (fun _ => ?_)
                clear hK K
                try simp only [Act.put, List.setIfInBounds_toArray, List.set_cons_zero, List.set_cons_succ]
                refine wpAnyH_ready (rs := [13]) (by kernel_rfl) (by simp) (AllReadyH.cons (o := ?on13) ?en13 (fun K hK => ?kn13) (AllReadyH.nil))
                case en13 => (simp only [List.getElem?_toArray, List.getElem?_cons_zero, List.getElem?_cons_succ]; rfl)
                case kn13 =>
                  have LCVn13 := Lib.hid (rdv_cells (HRDW.out Vn8 BVn8.out))
                  refine step_append_lies _ rfl _ _ 71 rfl (w.heap.size + 1) 89 i0 _ 3 32 Try.underlying71 hi hz0 hz1 hz2 rfl (by decide) _ _ _ rfl EVn8.out ⟨g, off, none⟩ l.length cap (vC l) rfl (vC_len l) LCVn13.out (vC_one l) hlp D1.out D2.out ZVn8.out _ rfl ?_
                  intro gVn13 cVn13 Vn13 hown hgrow _ _
                  have BVn13 := Lib.hid (BVn8.out.grown hgrow BVn8.out.size (fun k hk => by have := (EVn8.out.lt k hk).1; omega))
                  have XVn13 : Hid (Vn13.heap[w.heap.size]? = some (.cells #[.int .i64 v1, .string v2, .bool v3] 89 (0, 0))) := (hgrow.block w.heap.size (by have := ZVn8.out; omega) (fun e => by have := (EVn8.out.lt _ e.symm).1; omega)).trans XVn8.out
                  have ZVn13 : Hid (w.heap.size + 1 ≤ Vn13.heap.size) := Nat.le_trans ZVn8.out hgrow.size
                  have EVn13 : Hid (OwV 89 (w.heap.size + 1) (.slice (some ⟨gVn13, 0, none⟩) l.length cVn13) l Vn13) := first_ap (g0 := 0) (W := Vn13) hown
                  have OVn13 : Hid (Vn13.heap[Vn2.heap.size]? = some (ObV v1 v2 v3)) := (hgrow.block _ (Array.getElem?_eq_some_iff.1 OVn8.out).1 (fun e => NEVn8.out (Option.some.inj e))).trans OVn8.out
                  clear hown hgrow
                  refine hK.out _ _ (SF.out Vn13 BVn13.out XVn13.out) (fun _ => ?_)
                  clear hK K
                  try simp only [Act.put, List.setIfInBounds_toArray, List.set_cons_zero, List.set_cons_succ]
                  try simp only [List.length_nil, Nat.zero_add]
                  refine wpAnyH_ready (rs := [16]) (by kernel_rfl) (by simp) (AllReadyH.cons (o := ?on14) ?en14 (fun K hK => ?kn14) (AllReadyH.nil))
                  case en14 => (simp only [List.getElem?_toArray, List.getElem?_cons_zero, List.getElem?_cons_succ]; rfl)
                  case kn14 =>
                    refine step_append_lies _ rfl _ _ 71 rfl (w.heap.size + 1) 89 i0 _ 3 32 Try.underlying71 hi hz0 hz1 hz2 rfl (by decide) _ _ _ rfl EVn13.out ⟨Vn2.heap.size, 0, none⟩ 1 1 (encV (v1, v2, v3)) rfl rfl (enc_cell OVn13.out) (enc_ok _) (by decide) D3.out D4.out ZVn13.out _ rfl ?_
                    intro gVn14 cVn14 Vn14 hown hgrow _ _
                    have BVn14 := Lib.hid (BVn13.out.grown hgrow BVn13.out.size (fun k hk => by have := (EVn13.out.lt k hk).1; omega))
                    have XVn14 : Hid (Vn14.heap[w.heap.size]? = some (.cells #[.int .i64 v1, .string v2, .bool v3] 89 (0, 0))) := (hgrow.block w.heap.size (by have := ZVn13.out; omega) (fun e => by have := (EVn13.out.lt _ e.symm).1; omega)).trans XVn13.out
                    have EVn14 : Hid (OwV 89 (w.heap.size + 1) (.slice (some ⟨gVn14, 0, none⟩) (l.length + 1) cVn14) (l ++ [(v1, v2, v3)]) Vn14) := own_snoc (l := l) hown
                    have FIVn14 := Lib.hid (HFINI.out Vn14 gVn14 cVn14 (EVn14.out.mono (Nat.le_succ _)) BVn14.out)
                    clear hown hgrow
                    refine hK.out _ _ (SF.out Vn14 BVn14.out XVn14.out) (fun _ => ?_)
                    clear hK K
                    try simp only [Act.put, List.setIfInBounds_toArray, List.set_cons_zero, List.set_cons_succ]
                    refine wpAnyH_take (i := 17) (oi := ?o17r16) (v := ?v17r16) ?e17r16 ?a17r16 ?b17r16 ?c17r16 ?q17r16 (Or.inl ⟨?w17r16, ?h17r16⟩) ?s17r16 ?r17r16
                    case e17r16 => (simp only [List.getElem?_toArray, List.getElem?_cons_zero, List.getElem?_cons_succ]; rfl)
                    case a17r16 => kernel_rfl
                    case b17r16 => kernel_rfl
                    case c17r16 => kernel_rfl
                    case q17r16 => exact fun _ _ _ h => h
                    case w17r16 => rfl
                    case s17r16 => assumption
                    case h17r16 => (intro W hSw; obtain ⟨a5, abx⟩ := hSw; obtain ⟨ab0, ab1, ab2⟩ := Cn.cells3 abx; go_simp; try with_reducible rfl)
                    try simp only [Act.put, List.setIfInBounds_toArray, List.set_cons_zero, List.set_cons_succ]
                    refine wpAnyH_ready (rs := [18]) (by kernel_rfl) (by simp) (AllReadyH.cons (o := ?on15) ?en15 (fun K hK => ?kn15) (AllReadyH.nil))
                    case en15 => (simp only [List.getElem?_toArray, List.getElem?_cons_zero, List.getElem?_cons_succ]; rfl)
                    case kn15 =>
                      have ec := (HKV.out Vn14 BVn14.out).2
                      have ef := frzC BVn14.out
                      go_simp
                      clear ec ef
                      refine hK.out _ _ ⟨?_, ?_⟩ (fun _ => ?_)
                      · rw [World.cell?_of_block (w := Vn14) (a := ⟨r, 5, none⟩) (set_oth Vn14 gC j _ (fun e => HGR.out e.symm))]; exact (HKV.out Vn14 BVn14.out).1
                      · exact (set_oth Vn14 gC j _ (by omega)).trans XVn14.out
                      clear hK K
                      try simp only [Act.put, List.setIfInBounds_toArray, List.set_cons_zero, List.set_cons_succ]
                      refine wpAnyH_done (by kernel_rfl) ?_ _
                      go_wp2
                      (try simp only [Exit.inBlock, Exit.then])
                      refine bodyPost_ret (results_none rfl _ _ _) rfl ?_
                      exact ⟨rfl, FIVn14.out⟩
            case kn6 =>
              go_simp
              obtain ⟨Vn6, hVn6⟩ : ∃ V', V' = Vn2.alloc (ObV v1 v2 v3) := ⟨_, rfl⟩
              have qVn6 : Below Vn2.heap.size Vn2 Vn6 := by rw [hVn6]; exact (Below.refl _ _).alloc (Nat.le_refl _) _
              have BVn6 := Lib.hid (BVn2.out.trans (qVn6.mono BVn2.out.size))
              have XVn6 := Lib.hid ((qVn6.block w.heap.size (by have := ZVn2.out; omega)).trans XVn2.out)
              have ZVn6 : Hid (w.heap.size + 1 ≤ Vn6.heap.size) := Nat.le_trans ZVn2.out qVn6.size
              have OVn6 : Hid (Vn6.heap[Vn2.heap.size]? = some (ObV v1 v2 v3)) := by rw [hVn6]; exact heap_alloc_new Vn2 _
              have EVn6 := Lib.hid (EVn2.out.go qVn6)
              have NEVn6 : Hid (Vn2.heap.size ≠ V9.heap.size) := Nat.ne_of_gt (EVn2.out.lt _ rfl).2
              clear qVn6
              rw [← hVn6]
              clear hVn6
              refine hK.out _ _ (SF.out Vn6 BVn6.out XVn6.out) (fun _ => ?_)
              clear hK K
              try simp only [Act.put, List.setIfInBounds_toArray, List.set_cons_zero, List.set_cons_succ]
              refine wpAnyH_ready (rs := [12]) (by kernel_rfl) (by simp) (AllReadyH.cons (o := ?on17) ?en17 (fun K hK => ?kn17) (AllReadyH.nil))
              case en17 => (simp only [List.getElem?_toArray, List.getElem?_cons_zero, List.getElem?_cons_succ]; rfl)
              case kn17 =>
                have ec := (HKV.out Vn6 BVn6.out).2
                go_simp
                clear ec
                refine hK.out _ _ (SF.out Vn6 BVn6.out XVn6.out) (fun _ => ?_)
                clear hK K
                try simp only [Act.put, List.setIfInBounds_toArray, List.set_cons_zero, List.set_cons_succ]
                refine wpAnyH_ready (rs := [13]) (by kernel_rfl) (by simp) (AllReadyH.cons (o := ?on18) ?en18 (fun K hK => ?kn18) (AllReadyH.nil))
                case en18 => (simp only [List.getElem?_toArray, List.getElem?_cons_zero, List.getElem?_cons_succ]; rfl)
                case kn18 =>
                  have LCVn18 := Lib.hid (rdv_cells (HRDW.out Vn6 BVn6.out))
                  refine step_append_lies _ rfl _ _ 71 rfl (w.heap.size + 1) 89 i0 _ 3 32 Try.underlying71 hi hz0 hz1 hz2 rfl (by decide) _ _ _ rfl EVn6.out ⟨g, off, none⟩ l.length cap (vC l) rfl (vC_len l) LCVn18.out (vC_one l) hlp D1.out D2.out ZVn6.out _ rfl ?_
                  intro gVn18 cVn18 Vn18 hown hgrow _ _
                  have BVn18 := Lib.hid (BVn6.out.grown hgrow BVn6.out.size (fun k hk => by have := (EVn6.out.lt k hk).1; omega))
                  have XVn18 : Hid (Vn18.heap[w.heap.size]? = some (.cells #[.int .i64 v1, .string v2, .bool v3] 89 (0, 0))) := (hgrow.block w.heap.size (by have := ZVn6.out; omega) (fun e => by have := (EVn6.out.lt _ e.symm).1; omega)).trans XVn6.out
                  have ZVn18 : Hid (w.heap.size + 1 ≤ Vn18.heap.size) := Nat.le_trans ZVn6.out hgrow.size
                  have EVn18 : Hid (OwV 89 (w.heap.size + 1) (.slice (some ⟨gVn18, 0, none⟩) l.length cVn18) l Vn18) := first_ap (g0 := 0) (W := Vn18) hown
                  have OVn18 : Hid (Vn18.heap[Vn2.heap.size]? = some (ObV v1 v2 v3)) := (hgrow.block _ (Array.getElem?_eq_some_iff.1 OVn6.out).1 (fun e => NEVn6.out (Option.some.inj e))).trans OVn6.out
                  clear hown hgrow
                  refine hK.out _ _ (SF.out Vn18 BVn18.out XVn18.out) (fun _ => ?_)
                  clear hK K
                  try simp only [Act.put, List.setIfInBounds_toArray, List.set_cons_zero, List.set_cons_succ]
                  try simp only [List.length_nil, Nat.zero_add]
                  refine wpAnyH_ready (rs := [16]) (by kernel_rfl) (by simp) (AllReadyH.cons (o := ?on19) ?en19 (fun K hK => ?kn19) (AllReadyH.nil))
                  case en19 => (simp only [List.getElem?_toArray, List.getElem?_cons_zero, List.getElem?_cons_succ]; rfl)
                  case kn19 =>
                    refine step_append_lies _ rfl _ _ 71 rfl (w.heap.size + 1) 89 i0 _ 3 32 Try.underlying71 hi hz0 hz1 hz2 rfl (by decide) _ _ _ rfl EVn18.out ⟨Vn2.heap.size, 0, none⟩ 1 1 (encV (v1, v2, v3)) rfl rfl (enc_cell OVn18.out) (enc_ok _) (by decide) D3.out D4.out ZVn18.out _ rfl ?_
                    intro gVn19 cVn19 Vn19 hown hgrow _ _
                    have BVn19 := Lib.hid (BVn18.out.grown hgrow BVn18.out.size (fun k hk => by have := (EVn18.out.lt k hk).1; omega))
                    have XVn19 : Hid (Vn19.heap[w.heap.size]? = some (.cells #[.int .i64 v1, .string v2, .bool v3] 89 (0, 0))) := (hgrow.block w.heap.size (by have := ZVn18.out; omega) (fun e => by have := (EVn18.out.lt _ e.symm).1; omega)).trans XVn18.out
                    have EVn19 : Hid (OwV 89 (w.heap.size + 1) (.slice (some ⟨gVn19, 0, none⟩) (l.length + 1) cVn19) (l ++ [(v1, v2, v3)]) Vn19) := own_snoc (l := l) hown
                    have FIVn19 := Lib.hid (HFINI.out Vn19 gVn19 cVn19 (EVn19.out.mono (Nat.le_succ _)) BVn19.out)
                    clear hown hgrow
                    refine hK.out _ _ (SF.out Vn19 BVn19.out XVn19.out) (fun _ => ?_)
                    clear hK K
                    try simp only [Act.put, List.setIfInBounds_toArray, List.set_cons_zero, List.set_cons_succ]
                    refine wpAnyH_take (i := 17) (oi := ?o17r21) (v := ?v17r21) ?e17r21 ?a17r21 ?b17r21 ?c17r21 ?q17r21 (Or.inl ⟨?w17r21, ?h17r21⟩) ?s17r21 ?r17r21
                    case e17r21 => (simp only [List.getElem?_toArray, List.getElem?_cons_zero, List.getElem?_cons_succ]; rfl)
                    case a17r21 => kernel_rfl
                    case b17r21 => kernel_rfl
                    case c17r21 => kernel_rfl
                    case q17r21 => exact fun _ _ _ h => h
                    case w17r21 => rfl
                    case s17r21 => assumption
                    case h17r21 => (intro W hSw; obtain ⟨a5, abx⟩ := hSw; obtain ⟨ab0, ab1, ab2⟩ := Cn.cells3 abx; go_simp; try with_reducible rfl)
                    try simp only [Act.put, List.setIfInBounds_toArray, List.set_cons_zero, List.set_cons_succ]
                    refine wpAnyH_ready (rs := [18]) (by kernel_rfl) (by simp) (AllReadyH.cons (o := ?on20) ?en20 (fun K hK => ?kn20) (AllReadyH.nil))
                    case en20 => (simp only [List.getElem?_toArray, List.getElem?_cons_zero, List.getElem?_cons_succ]; rfl)
                    case kn20 =>
                      have ec := (HKV.out Vn19 BVn19.out).2
                      have ef := frzC BVn19.out
                      go_simp
                      clear ec ef
                      refine hK.out _ _ ⟨?_, ?_⟩ (fun _ => ?_)
                      · rw [World.cell?_of_block (w := Vn19) (a := ⟨r, 5, none⟩) (set_oth Vn19 gC j _ (fun e => HGR.out e.symm))]; exact (HKV.out Vn19 BVn19.out).1
                      · exact (set_oth Vn19 gC j _ (by omega)).trans XVn19.out
                      clear hK K
                      try simp only [Act.put, List.setIfInBounds_toArray, List.set_cons_zero, List.set_cons_succ]
                      refine wpAnyH_done (by kernel_rfl) ?_ _
                      go_wp2
                      (try simp only [Exit.inBlock, Exit.then])
                      refine bodyPost_ret (results_none rfl _ _ _) rfl ?_
                      exact ⟨rfl, FIVn19.out⟩
          case kn3 =>
            have ec := (HKV.out V9 B9.out).2
            go_simp
            clear ec
            refine hK.out _ _ (SF.out V9 B9.out X9.out) (fun _ => ?_)
            clear hK K
            try simp only [Act.put, List.setIfInBounds_toArray, List.set_cons_zero, List.set_cons_succ]
            refine wpAnyH_ready (rs := [5, 15]) (by kernel_rfl) (by simp) (AllReadyH.cons (o := ?on22) ?en22 (fun K hK => ?kn22) (AllReadyH.cons (o := ?on23) ?en23 (fun K hK => ?kn23) (AllReadyH.nil)))
            case en22 => (simp only [List.getElem?_toArray, List.getElem?_cons_zero, List.getElem?_cons_succ]; rfl)
            case en23 => (simp only [List.getElem?_toArray, List.getElem?_cons_zero, List.getElem?_cons_succ]; rfl)
            case kn22 =>
              go_simp
              obtain ⟨Vn22, hVn22⟩ : ∃ V', V' = V9.alloc ObE := ⟨_, rfl⟩
              have qVn22 : Below V9.heap.size V9 Vn22 := by rw [hVn22]; exact (Below.refl _ _).alloc (Nat.le_refl _) _
              have BVn22 := Lib.hid (B9.out.trans (qVn22.mono B9.out.size))
              have XVn22 := Lib.hid ((qVn22.block w.heap.size (by have := Z9.out; omega)).trans X9.out)
              have ZVn22 : Hid (w.heap.size + 1 ≤ Vn22.heap.size) := Nat.le_trans Z9.out qVn22.size
              have EVn22 : Hid (OwV 89 (w.heap.size + 1) (.slice (some ⟨V9.heap.size, 0, none⟩) 0 0) [] Vn22) := by rw [hVn22]; exact own_e V9 _ Z9.out
              clear qVn22
              rw [← hVn22]
              clear hVn22
              refine hK.out _ _ (SF.out Vn22 BVn22.out XVn22.out) (fun _ => ?_)
              clear hK K
              try simp only [Act.put, List.setIfInBounds_toArray, List.set_cons_zero, List.set_cons_succ]
              refine wpAnyH_ready (rs := [13, 15]) (by kernel_rfl) (by simp) (AllReadyH.cons (o := ?on24) ?en24 (fun K hK => ?kn24) (AllReadyH.cons (o := ?on25) ?en25 (fun K hK => ?kn25) (AllReadyH.nil)))
              case en24 => (simp only [List.getElem?_toArray, List.getElem?_cons_zero, List.getElem?_cons_succ]; rfl)
              case en25 => (simp only [List.getElem?_toArray, List.getElem?_cons_zero, List.getElem?_cons_succ]; rfl)
              case kn24 =>
                have LCVn24 := Lib.hid (rdv_cells (HRDW.out Vn22 BVn22.out))
                refine step_append_lies _ rfl _ _ 71 rfl (w.heap.size + 1) 89 i0 _ 3 32 Try.underlying71 hi hz0 hz1 hz2 rfl (by decide) _ _ _ rfl EVn22.out ⟨g, off, none⟩ l.length cap (vC l) rfl (vC_len l) LCVn24.out (vC_one l) hlp D1.out D2.out ZVn22.out _ rfl ?_
                intro gVn24 cVn24 Vn24 hown hgrow _ _
                have BVn24 := Lib.hid (BVn22.out.grown hgrow BVn22.out.size (fun k hk => by have := (EVn22.out.lt k hk).1; omega))
                have XVn24 : Hid (Vn24.heap[w.heap.size]? = some (.cells #[.int .i64 v1, .string v2, .bool v3] 89 (0, 0))) := (hgrow.block w.heap.size (by have := ZVn22.out; omega) (fun e => by have := (EVn22.out.lt _ e.symm).1; omega)).trans XVn22.out
                have ZVn24 : Hid (w.heap.size + 1 ≤ Vn24.heap.size) := Nat.le_trans ZVn22.out hgrow.size
                have EVn24 : Hid (OwV 89 (w.heap.size + 1) (.slice (some ⟨gVn24, 0, none⟩) l.length cVn24) l Vn24) := first_ap (g0 := 0) (W := Vn24) hown
                clear hown hgrow
                refine hK.out _ _ (SF.out Vn24 BVn24.out XVn24.out) (fun _ => ?_)
                clear hK K
                try simp only [Act.put, List.setIfInBounds_toArray, List.set_cons_zero, List.set_cons_succ]
                try simp only [List.length_nil, Nat.zero_add]
                refine wpAnyH_ready (rs := [15]) (by kernel_rfl) (by simp) (AllReadyH.cons (o := ?on26) ?en26 (fun K hK => ?kn26) (AllReadyH.nil))
                case en26 => (simp only [List.getElem?_toArray, List.getElem?_cons_zero, List.getElem?_cons_succ]; rfl)
                case kn26 =>
                  go_simp
                  obtain ⟨Vn26, hVn26⟩ : ∃ V', V' = Vn24.alloc (ObV v1 v2 v3) := ⟨_, rfl⟩
                  have qVn26 : Below Vn24.heap.size Vn24 Vn26 := by rw [hVn26]; exact (Below.refl _ _).alloc (Nat.le_refl _) _
                  have BVn26 := Lib.hid (BVn24.out.trans (qVn26.mono BVn24.out.size))
                  have XVn26 := Lib.hid ((qVn26.block w.heap.size (by have := ZVn24.out; omega)).trans XVn24.out)
                  have ZVn26 : Hid (w.heap.size + 1 ≤ Vn26.heap.size) := Nat.le_trans ZVn24.out qVn26.size
                  have OVn26 : Hid (Vn26.heap[Vn24.heap.size]? = some (ObV v1 v2 v3)) := by rw [hVn26]; exact heap_alloc_new Vn24 _
                  have EVn26 := Lib.hid (EVn24.out.go qVn26)
                  have NEVn26 : Hid (Vn24.heap.size ≠ gVn24) := Nat.ne_of_gt (EVn24.out.lt _ rfl).2
                  clear qVn26
                  rw [← hVn26]
                  clear hVn26
                  refine hK.out _ _ (SF.out Vn26 BVn26.out XVn26.out) (fun _ => ?_)
                  clear hK K
                  try simp only [Act.put, List.setIfInBounds_toArray, List.set_cons_zero, List.set_cons_succ]
                  refine wpAnyH_ready (rs := [16]) (by kernel_rfl) (by simp) (AllReadyH.cons (o := ?on27) ?en27 (fun K hK => ?kn27) (AllReadyH.nil))
                  case en27 => (simp only [List.getElem?_toArray, List.getElem?_cons_zero, List.getElem?_cons_succ]; rfl)
                  case kn27 =>
                    refine step_append_lies _ rfl _ _ 71 rfl (w.heap.size + 1) 89 i0 _ 3 32 Try.underlying71 hi hz0 hz1 hz2 rfl (by decide) _ _ _ rfl EVn26.out ⟨Vn24.heap.size, 0, none⟩ 1 1 (encV (v1, v2, v3)) rfl rfl (enc_cell OVn26.out) (enc_ok _) (by decide) D3.out D4.out ZVn26.out _ rfl ?_
                    intro gVn27 cVn27 Vn27 hown hgrow _ _
                    have BVn27 := Lib.hid (BVn26.out.grown hgrow BVn26.out.size (fun k hk => by have := (EVn26.out.lt k hk).1; omega))
                    have XVn27 : Hid (Vn27.heap[w.heap.size]? = some (.cells #[.int .i64 v1, .string v2, .bool v3] 89 (0, 0))) := (hgrow.block w.heap.size (by have := ZVn26.out; omega) (fun e => by have := (EVn26.out.lt _ e.symm).1; omega)).trans XVn26.out
                    have EVn27 : Hid (OwV 89 (w.heap.size + 1) (.slice (some ⟨gVn27, 0, none⟩) (l.length + 1) cVn27) (l ++ [(v1, v2, v3)]) Vn27) := own_snoc (l := l) hown
                    have FIVn27 := Lib.hid (HFINI.out Vn27 gVn27 cVn27 (EVn27.out.mono (Nat.le_succ _)) BVn27.out)
                    clear hown hgrow
                    refine hK.out _ _ (SF.out Vn27 BVn27.out XVn27.out) (fun _ => ?_)
                    clear hK K
                    try simp only [Act.put, List.setIfInBounds_toArray, List.set_cons_zero, List.set_cons_succ]
                    refine wpAnyH_take (i := 17) (oi := ?o17r29) (v := ?v17r29) ?e17r29 ?a17r29 ?b17r29 ?c17r29 ?q17r29 (Or.inl ⟨?w17r29, ?h17r29⟩) ?s17r29 ?r17r29
                    case e17r29 => (simp only [List.getElem?_toArray, List.getElem?_cons_zero, List.getElem?_cons_succ]; rfl)
                    case a17r29 => kernel_rfl
                    case b17r29 => kernel_rfl
                    case c17r29 => kernel_rfl
                    case q17r29 => exact fun _ _ _ h => h
                    case w17r29 => rfl
                    case s17r29 => assumption
                    case h17r29 => (intro W hSw; obtain ⟨a5, abx⟩ := hSw; obtain ⟨ab0, ab1, ab2⟩ := Cn.cells3 abx; go_simp; try with_reducible rfl)
                    try simp only [Act.put, List.setIfInBounds_toArray, List.set_cons_zero, List.set_cons_succ]
                    refine wpAnyH_ready (rs := [18]) (by kernel_rfl) (by simp) (AllReadyH.cons (o := ?on28) ?en28 (fun K hK => ?kn28) (AllReadyH.nil))
                    case en28 => (simp only [List.getElem?_toArray, List.getElem?_cons_zero, List.getElem?_cons_succ]; rfl)
                    case kn28 =>
                      have ec := (HKV.out Vn27 BVn27.out).2
                      have ef := frzC BVn27.out
                      go_simp
                      clear ec ef
                      refine hK.out _ _ ⟨?_, ?_⟩ (fun _ => ?_)
                      · rw [World.cell?_of_block (w := Vn27) (a := ⟨r, 5, none⟩) (set_oth Vn27 gC j _ (fun e => HGR.out e.symm))]; exact (HKV.out Vn27 BVn27.out).1
                      · exact (set_oth Vn27 gC j _ (by omega)).trans XVn27.out
                      clear hK K
                      try simp only [Act.put, List.setIfInBounds_toArray, List.set_cons_zero, List.set_cons_succ]
                      refine wpAnyH_done (by kernel_rfl) ?_ _
                      go_wp2
                      (try simp only [Exit.inBlock, Exit.then])
                      refine bodyPost_ret (results_none rfl _ _ _) rfl ?_
                      exact ⟨rfl, FIVn27.out⟩
              case kn25 =>
                go_simp
                obtain ⟨Vn25, hVn25⟩ : ∃ V', V' = Vn22.alloc (ObV v1 v2 v3) := ⟨_, rfl⟩
                have qVn25 : Below Vn22.heap.size Vn22 Vn25 := by rw [hVn25]; exact (Below.refl _ _).alloc (Nat.le_refl _) _
                have BVn25 := Lib.hid (BVn22.out.trans (qVn25.mono BVn22.out.size))
                have XVn25 := Lib.hid ((qVn25.block w.heap.size (by have := ZVn22.out; omega)).trans XVn22.out)
                have ZVn25 : Hid (w.heap.size + 1 ≤ Vn25.heap.size) := Nat.le_trans ZVn22.out qVn25.size
                have OVn25 : Hid (Vn25.heap[Vn22.heap.size]? = some (ObV v1 v2 v3)) := by rw [hVn25]; exact heap_alloc_new Vn22 _
                have EVn25 := Lib.hid (EVn22.out.go qVn25)
                have NEVn25 : Hid (Vn22.heap.size ≠ V9.heap.size) := Nat.ne_of_gt (EVn22.out.lt _ rfl).2
                clear qVn25
                rw [← hVn25]
                clear hVn25
                refine hK.out _ _ (SF.out Vn25 BVn25.out XVn25.out) (fun _ => ?_)
                clear hK K
                try simp only [Act.put, List.setIfInBounds_toArray, List.set_cons_zero, List.set_cons_succ]
                refine wpAnyH_ready (rs := [13]) (by kernel_rfl) (by simp) (AllReadyH.cons (o := ?on30) ?en30 (fun K hK => ?kn30) (AllReadyH.nil))
                case en30 => (simp only [List.getElem?_toArray, List.getElem?_cons_zero, List.getElem?_cons_succ]; rfl)
                case kn30 =>
                  have LCVn30 := Lib.hid (rdv_cells (HRDW.out Vn25 BVn25.out))
                  refine step_append_lies _ rfl _ _ 71 rfl (w.heap.size + 1) 89 i0 _ 3 32 Try.underlying71 hi hz0 hz1 hz2 rfl (by decide) _ _ _ rfl EVn25.out ⟨g, off, none⟩ l.length cap (vC l) rfl (vC_len l) LCVn30.out (vC_one l) hlp D1.out D2.out ZVn25.out _ rfl ?_
                  intro gVn30 cVn30 Vn30 hown hgrow _ _
                  have BVn30 := Lib.hid (BVn25.out.grown hgrow BVn25.out.size (fun k hk => by have := (EVn25.out.lt k hk).1; omega))
                  have XVn30 : Hid (Vn30.heap[w.heap.size]? = some (.cells #[.int .i64 v1, .string v2, .bool v3] 89 (0, 0))) := (hgrow.block w.heap.size (by have := ZVn25.out; omega) (fun e => by have := (EVn25.out.lt _ e.symm).1; omega)).trans XVn25.out
                  have ZVn30 : Hid (w.heap.size + 1 ≤ Vn30.heap.size) := Nat.le_trans ZVn25.out hgrow.size
                  have EVn30 : Hid (OwV 89 (w.heap.size + 1) (.slice (some ⟨gVn30, 0, none⟩) l.length cVn30) l Vn30) := first_ap (g0 := 0) (W := Vn30) hown
                  have OVn30 : Hid (Vn30.heap[Vn22.heap.size]? = some (ObV v1 v2 v3)) := (hgrow.block _ (Array.getElem?_eq_some_iff.1 OVn25.out).1 (fun e => NEVn25.out (Option.some.inj e))).trans OVn25.out
                  clear hown hgrow
                  refine hK.out _ _ (SF.out Vn30 BVn30.out XVn30.out) (fun _ => ?_)
                  clear hK K
                  try simp only [Act.put, List.setIfInBounds_toArray, List.set_cons_zero, List.set_cons_succ]
                  try simp only [List.length_nil, Nat.zero_add]
                  refine wpAnyH_ready (rs := [16]) (by kernel_rfl) (by simp) (AllReadyH.cons (o := ?on31) ?en31 (fun K hK => ?kn31) (AllReadyH.nil))
                  case en31 => (simp only [List.getElem?_toArray, List.getElem?_cons_zero, List.getElem?_cons_succ]; rfl)
                  case kn31 =>
                    refine step_append_lies _ rfl _ _ 71 rfl (w.heap.size + 1) 89 i0 _ 3 32 Try.underlying71 hi hz0 hz1 hz2 rfl (by decide) _ _ _ rfl EVn30.out ⟨Vn22.heap.size, 0, none⟩ 1 1 (encV (v1, v2, v3)) rfl rfl (enc_cell OVn30.out) (enc_ok _) (by decide) D3.out D4.out ZVn30.out _ rfl ?_
                    intro gVn31 cVn31 Vn31 hown hgrow _ _
                    have BVn31 := Lib.hid (BVn30.out.grown hgrow BVn30.out.size (fun k hk => by have := (EVn30.out.lt k hk).1; omega))
                    have XVn31 : Hid (Vn31.heap[w.heap.size]? = some (.cells #[.int .i64 v1, .string v2, .bool v3] 89 (0, 0))) := (hgrow.block w.heap.size (by have := ZVn30.out; omega) (fun e => by have := (EVn30.out.lt _ e.symm).1; omega)).trans XVn30.out
                    have EVn31 : Hid (OwV 89 (w.heap.size + 1) (.slice (some ⟨gVn31, 0, none⟩) (l.length + 1) cVn31) (l ++ [(v1, v2, v3)]) Vn31) := own_snoc (l := l) hown
                    have FIVn31 := Lib.hid (HFINI.out Vn31 gVn31 cVn31 (EVn31.out.mono (Nat.le_succ _)) BVn31.out)
                    clear hown hgrow
                    refine hK.out _ _ (SF.out Vn31 BVn31.out XVn31.out) (fun _ => ?_)
                    clear hK K
                    try simp only [Act.put, List.setIfInBounds_toArray, List.set_cons_zero, List.set_cons_succ]
                    refine wpAnyH_take (i := 17) (oi := ?o17r33) (v := ?v17r33) ?e17r33 ?a17r33 ?b17r33 ?c17r33 ?q17r33 (Or.inl ⟨?w17r33, ?h17r33⟩) ?s17r33 ?r17r33
                    case e17r33 => (simp only [List.getElem?_toArray, List.getElem?_cons_zero, List.getElem?_cons_succ]; rfl)
                    case a17r33 => kernel_rfl
                    case b17r33 => kernel_rfl
                    case c17r33 => kernel_rfl
                    case q17r33 => exact fun _ _ _ h => h
                    case w17r33 => rfl
                    case s17r33 => assumption
                    case h17r33 => (intro W hSw; obtain ⟨a5, abx⟩ := hSw; obtain ⟨ab0, ab1, ab2⟩ := Cn.cells3 abx; go_simp; try with_reducible rfl)
                    try simp only [Act.put, List.setIfInBounds_toArray, List.set_cons_zero, List.set_cons_succ]
                    refine wpAnyH_ready (rs := [18]) (by kernel_rfl) (by simp) (AllReadyH.cons (o := ?on32) ?en32 (fun K hK => ?kn32) (AllReadyH.nil))
                    case en32 => (simp only [List.getElem?_toArray, List.getElem?_cons_zero, List.getElem?_cons_succ]; rfl)
                    case kn32 =>
                      have ec := (HKV.out Vn31 BVn31.out).2
                      have ef := frzC BVn31.out
                      go_simp
                      clear ec ef
                      refine hK.out _ _ ⟨?_, ?_⟩ (fun _ => ?_)
                      · rw [World.cell?_of_block (w := Vn31) (a := ⟨r, 5, none⟩) (set_oth Vn31 gC j _ (fun e => HGR.out e.symm))]; exact (HKV.out Vn31 BVn31.out).1
                      · exact (set_oth Vn31 gC j _ (by omega)).trans XVn31.out
                      clear hK K
                      try simp only [Act.put, List.setIfInBounds_toArray, List.set_cons_zero, List.set_cons_succ]
                      refine wpAnyH_done (by kernel_rfl) ?_ _
                      go_wp2
                      (try simp only [Exit.inBlock, Exit.then])
                      refine bodyPost_ret (results_none rfl _ _ _) rfl ?_
                      exact ⟨rfl, FIVn31.out⟩
            case kn23 =>
              go_simp
              obtain ⟨Vn23, hVn23⟩ : ∃ V', V' = V9.alloc (ObV v1 v2 v3) := ⟨_, rfl⟩
              have qVn23 : Below V9.heap.size V9 Vn23 := by rw [hVn23]; exact (Below.refl _ _).alloc (Nat.le_refl _) _
              have BVn23 := Lib.hid (B9.out.trans (qVn23.mono B9.out.size))
              have XVn23 := Lib.hid ((qVn23.block w.heap.size (by have := Z9.out; omega)).trans X9.out)
              have ZVn23 : Hid (w.heap.size + 1 ≤ Vn23.heap.size) := Nat.le_trans Z9.out qVn23.size
              have OVn23 : Hid (Vn23.heap[V9.heap.size]? = some (ObV v1 v2 v3)) := by rw [hVn23]; exact heap_alloc_new V9 _
              clear qVn23
              rw [← hVn23]
              clear hVn23
              refine hK.out _ _ (SF.out Vn23 BVn23.out XVn23.out) (fun _ => ?_)
              clear hK K
              try simp only [Act.put, List.setIfInBounds_toArray, List.set_cons_zero, List.set_cons_succ]
              refine wpAnyH_ready (rs := [5]) (by kernel_rfl) (by simp) (AllReadyH.cons (o := ?on34) ?en34 (fun K hK => ?kn34) (AllReadyH.nil))
              case en34 => (simp only [List.getElem?_toArray, List.getElem?_cons_zero, List.getElem?_cons_succ]; rfl)
              case kn34 =>
                go_simp
                obtain ⟨Vn34, hVn34⟩ : ∃ V', V' = Vn23.alloc ObE := ⟨_, rfl⟩
                have qVn34 : Below Vn23.heap.size Vn23 Vn34 := by rw [hVn34]; exact (Below.refl _ _).alloc (Nat.le_refl _) _
                have BVn34 := Lib.hid (BVn23.out.trans (qVn34.mono BVn23.out.size))
                have XVn34 := Lib.hid ((qVn34.block w.heap.size (by have := ZVn23.out; omega)).trans XVn23.out)
                have ZVn34 : Hid (w.heap.size + 1 ≤ Vn34.heap.size) := Nat.le_trans ZVn23.out qVn34.size
                have EVn34 : Hid (OwV 89 (w.heap.size + 1) (.slice (some ⟨Vn23.heap.size, 0, none⟩) 0 0) [] Vn34) := by rw [hVn34]; exact own_e Vn23 _ ZVn23.out
                have OVn34 := Lib.hid ((qVn34.block _ (Array.getElem?_eq_some_iff.1 OVn23.out).1).trans OVn23.out)
                have NEVn34 : Hid (V9.heap.size ≠ Vn23.heap.size) := Nat.ne_of_lt (Array.getElem?_eq_some_iff.1 OVn23.out).1
                clear qVn34
                rw [← hVn34]
                clear hVn34
                refine hK.out _ _ (SF.out Vn34 BVn34.out XVn34.out) (fun _ => ?_)
                clear hK K
                try simp only [Act.put, List.setIfInBounds_toArray, List.set_cons_zero, List.set_cons_succ]
                refine wpAnyH_ready (rs := [13]) (by kernel_rfl) (by simp) (AllReadyH.cons (o := ?on35) ?en35 (fun K hK => ?kn35) (AllReadyH.nil))
                case en35 => (simp only [List.getElem?_toArray, List.getElem?_cons_zero, List.getElem?_cons_succ]; rfl)
                case kn35 =>
                  have LCVn35 := Lib.hid (rdv_cells (HRDW.out Vn34 BVn34.out))
                  refine step_append_lies _ rfl _ _ 71 rfl (w.heap.size + 1) 89 i0 _ 3 32 Try.underlying71 hi hz0 hz1 hz2 rfl (by decide) _ _ _ rfl EVn34.out ⟨g, off, none⟩ l.length cap (vC l) rfl (vC_len l) LCVn35.out (vC_one l) hlp D1.out D2.out ZVn34.out _ rfl ?_
                  intro gVn35 cVn35 Vn35 hown hgrow _ _
                  have BVn35 := Lib.hid (BVn34.out.grown hgrow BVn34.out.size (fun k hk => by have := (EVn34.out.lt k hk).1; omega))
                  have XVn35 : Hid (Vn35.heap[w.heap.size]? = some (.cells #[.int .i64 v1, .string v2, .bool v3] 89 (0, 0))) := (hgrow.block w.heap.size (by have := ZVn34.out; omega) (fun e => by have := (EVn34.out.lt _ e.symm).1; omega)).trans XVn34.out
                  have ZVn35 : Hid (w.heap.size + 1 ≤ Vn35.heap.size) := Nat.le_trans ZVn34.out hgrow.size
                  have EVn35 : Hid (OwV 89 (w.heap.size + 1) (.slice (some ⟨gVn35, 0, none⟩) l.length cVn35) l Vn35) := first_ap (g0 := 0) (W := Vn35) hown
                  have OVn35 : Hid (Vn35.heap[V9.heap.size]? = some (ObV v1 v2 v3)) := (hgrow.block _ (Array.getElem?_eq_some_iff.1 OVn34.out).1 (fun e => NEVn34.out (Option.some.inj e))).trans OVn34.out
                  clear hown hgrow
                  refine hK.out _ _ (SF.out Vn35 BVn35.out XVn35.out) (fun _ => ?_)
                  clear hK K
                  try simp only [Act.put, List.setIfInBounds_toArray, List.set_cons_zero, List.set_cons_succ]
                  try simp only [List.length_nil, Nat.zero_add]
                  refine wpAnyH_ready (rs := [16]) (by kernel_rfl) (by simp) (AllReadyH.cons (o := ?on36) ?en36 (fun K hK => ?kn36) (AllReadyH.nil))
                  case en36 => (simp only [List.getElem?_toArray, List.getElem?_cons_zero, List.getElem?_cons_succ]; rfl)
                  case kn36 =>
                    refine step_append_lies _ rfl _ _ 71 rfl (w.heap.size + 1) 89 i0 _ 3 32 Try.underlying71 hi hz0 hz1 hz2 rfl (by decide) _ _ _ rfl EVn35.out ⟨V9.heap.size, 0, none⟩ 1 1 (encV (v1, v2, v3)) rfl rfl (enc_cell OVn35.out) (enc_ok _) (by decide) D3.out D4.out ZVn35.out _ rfl ?_
                    intro gVn36 cVn36 Vn36 hown hgrow _ _
                    have BVn36 := Lib.hid (BVn35.out.grown hgrow BVn35.out.size (fun k hk => by have := (EVn35.out.lt k hk).1; omega))
                    have XVn36 : Hid (Vn36.heap[w.heap.size]? = some (.cells #[.int .i64 v1, .string v2, .bool v3] 89 (0, 0))) := (hgrow.block w.heap.size (by have := ZVn35.out; omega) (fun e => by have := (EVn35.out.lt _ e.symm).1; omega)).trans XVn35.out
                    have EVn36 : Hid (OwV 89 (w.heap.size + 1) (.slice (some ⟨gVn36, 0, none⟩) (l.length + 1) cVn36) (l ++ [(v1, v2, v3)]) Vn36) := own_snoc (l := l) hown
                    have FIVn36 := Lib.hid (HFINI.out Vn36 gVn36 cVn36 (EVn36.out.mono (Nat.le_succ _)) BVn36.out)
                    clear hown hgrow
                    refine hK.out _ _ (SF.out Vn36 BVn36.out XVn36.out) (fun _ => ?_)
                    clear hK K
                    try simp only [Act.put, List.setIfInBounds_toArray, List.set_cons_zero, List.set_cons_succ]
                    refine wpAnyH_take (i := 17) (oi := ?o17r38) (v := ?v17r38) ?e17r38 ?a17r38 ?b17r38 ?c17r38 ?q17r38 (Or.inl ⟨?w17r38, ?h17r38⟩) ?s17r38 ?r17r38
                    case e17r38 => (simp only [List.getElem?_toArray, List.getElem?_cons_zero, List.getElem?_cons_succ]; rfl)
                    case a17r38 => kernel_rfl
                    case b17r38 => kernel_rfl
                    case c17r38 => kernel_rfl
                    case q17r38 => exact fun _ _ _ h => h
                    case w17r38 => rfl
                    case s17r38 => assumption
                    case h17r38 => (intro W hSw; obtain ⟨a5, abx⟩ := hSw; obtain ⟨ab0, ab1, ab2⟩ := Cn.cells3 abx; go_simp; try with_reducible rfl)
                    try simp only [Act.put, List.setIfInBounds_toArray, List.set_cons_zero, List.set_cons_succ]
                    refine wpAnyH_ready (rs := [18]) (by kernel_rfl) (by simp) (AllReadyH.cons (o := ?on37) ?en37 (fun K hK => ?kn37) (AllReadyH.nil))
                    case en37 => (simp only [List.getElem?_toArray, List.getElem?_cons_zero, List.getElem?_cons_succ]; rfl)
                    case kn37 =>
                      have ec := (HKV.out Vn36 BVn36.out).2
                      have ef := frzC BVn36.out
                      go_simp
                      clear ec ef
                      refine hK.out _ _ ⟨?_, ?_⟩ (fun _ => ?_)
                      · rw [World.cell?_of_block (w := Vn36) (a := ⟨r, 5, none⟩) (set_oth Vn36 gC j _ (fun e => HGR.out e.symm))]; exact (HKV.out Vn36 BVn36.out).1
                      · exact (set_oth Vn36 gC j _ (by omega)).trans XVn36.out
                      clear hK K
                      try simp only [Act.put, List.setIfInBounds_toArray, List.set_cons_zero, List.set_cons_succ]
                      refine wpAnyH_done (by kernel_rfl) ?_ _
                      go_wp2
                      (try simp only [Exit.inBlock, Exit.then])
                      refine bodyPost_ret (results_none rfl _ _ _) rfl ?_
                      exact ⟨rfl, FIVn36.out⟩
          case kn4 =>
            go_simp
            obtain ⟨Vn4, hVn4⟩ : ∃ V', V' = V9.alloc (ObV v1 v2 v3) := ⟨_, rfl⟩
            have qVn4 : Below V9.heap.size V9 Vn4 := by rw [hVn4]; exact (Below.refl _ _).alloc (Nat.le_refl _) _
            have BVn4 := Lib.hid (B9.out.trans (qVn4.mono B9.out.size))
            have XVn4 := Lib.hid ((qVn4.block w.heap.size (by have := Z9.out; omega)).trans X9.out)
            have ZVn4 : Hid (w.heap.size + 1 ≤ Vn4.heap.size) := Nat.le_trans Z9.out qVn4.size
            have OVn4 : Hid (Vn4.heap[V9.heap.size]? = some (ObV v1 v2 v3)) := by rw [hVn4]; exact heap_alloc_new V9 _
            clear qVn4
            rw [← hVn4]
            clear hVn4
            refine hK.out _ _ (SF.out Vn4 BVn4.out XVn4.out) (fun _ => ?_)
            clear hK K
            try simp only [Act.put, List.setIfInBounds_toArray, List.set_cons_zero, List.set_cons_succ]
            refine wpAnyH_ready (rs := [5, 12]) (by kernel_rfl) (by simp) (AllReadyH.cons (o := ?on39) ?en39 (fun K hK => ?kn39) (AllReadyH.cons (o := ?on40) ?en40 (fun K hK => ?kn40) (AllReadyH.nil)))
            case en39 => (simp only [List.getElem?_toArray, List.getElem?_cons_zero, List.getElem?_cons_succ]; rfl)
            case en40 => (simp only [List.getElem?_toArray, List.getElem?_cons_zero, List.getElem?_cons_succ]; rfl)
            case kn39 =>
              go_simp
              obtain ⟨Vn39, hVn39⟩ : ∃ V', V' = Vn4.alloc ObE := ⟨_, rfl⟩
              have qVn39 : Below Vn4.heap.size Vn4 Vn39 := by rw [hVn39]; exact (Below.refl _ _).alloc (Nat.le_refl _) _
              have BVn39 := Lib.hid (BVn4.out.trans (qVn39.mono BVn4.out.size))
              have XVn39 := Lib.hid ((qVn39.block w.heap.size (by have := ZVn4.out; omega)).trans XVn4.out)
              have ZVn39 : Hid (w.heap.size + 1 ≤ Vn39.heap.size) := Nat.le_trans ZVn4.out qVn39.size
              have EVn39 : Hid (OwV 89 (w.heap.size + 1) (.slice (some ⟨Vn4.heap.size, 0, none⟩) 0 0) [] Vn39) := by rw [hVn39]; exact own_e Vn4 _ ZVn4.out
              have OVn39 := Lib.hid ((qVn39.block _ (Array.getElem?_eq_some_iff.1 OVn4.out).1).trans OVn4.out)
              have NEVn39 : Hid (V9.heap.size ≠ Vn4.heap.size) := Nat.ne_of_lt (Array.getElem?_eq_some_iff.1 OVn4.out).1
              clear qVn39
              rw [← hVn39]
              clear hVn39
              refine hK.out _ _ (SF.out Vn39 BVn39.out XVn39.out) (fun _ => ?_)
              clear hK K
              try simp only [Act.put, List.setIfInBounds_toArray, List.set_cons_zero, List.set_cons_succ]
              refine wpAnyH_ready (rs := [12]) (by kernel_rfl) (by simp) (AllReadyH.cons (o := ?on41) ?en41 (fun K hK => ?kn41) (AllReadyH.nil))
              case en41 => (simp only [List.getElem?_toArray, List.getElem?_cons_zero, List.getElem?_cons_succ]; rfl)
              case kn41 =>
                have ec := (HKV.out Vn39 BVn39.out).2
                go_simp
                clear ec
                refine hK.out _ _ (SF.out Vn39 BVn39.out XVn39.out) (fun _ => ?_)
                clear hK K
                try simp only [Act.put, List.setIfInBounds_toArray, List.set_cons_zero, List.set_cons_succ]
                refine wpAnyH_ready (rs := [13]) (by kernel_rfl) (by simp) (AllReadyH.cons (o := ?on42) ?en42 (fun K hK => ?kn42) (AllReadyH.nil))
                case en42 => (simp only [List.getElem?_toArray, List.getElem?_cons_zero, List.getElem?_cons_succ]; rfl)
                case kn42 =>
                  have LCVn42 := Lib.hid (rdv_cells (HRDW.out Vn39 BVn39.out))
                  refine step_append_lies _ rfl _ _ 71 rfl (w.heap.size + 1) 89 i0 _ 3 32 Try.underlying71 hi hz0 hz1 hz2 rfl (by decide) _ _ _ rfl EVn39.out ⟨g, off, none⟩ l.length cap (vC l) rfl (vC_len l) LCVn42.out (vC_one l) hlp D1.out D2.out ZVn39.out _ rfl ?_
                  intro gVn42 cVn42 Vn42 hown hgrow _ _
                  have BVn42 := Lib.hid (BVn39.out.grown hgrow BVn39.out.size (fun k hk => by have := (EVn39.out.lt k hk).1; omega))
                  have XVn42 : Hid (Vn42.heap[w.heap.size]? = some (.cells #[.int .i64 v1, .string v2, .bool v3] 89 (0, 0))) := (hgrow.block w.heap.size (by have := ZVn39.out; omega) (fun e => by have := (EVn39.out.lt _ e.symm).1; omega)).trans XVn39.out
                  have ZVn42 : Hid (w.heap.size + 1 ≤ Vn42.heap.size) := Nat.le_trans ZVn39.out hgrow.size
                  have EVn42 : Hid (OwV 89 (w.heap.size + 1) (.slice (some ⟨gVn42, 0, none⟩) l.length cVn42) l Vn42) := first_ap (g0 := 0) (W := Vn42) hown
                  have OVn42 : Hid (Vn42.heap[V9.heap.size]? = some (ObV v1 v2 v3)) := (hgrow.block _ (Array.getElem?_eq_some_iff.1 OVn39.out).1 (fun e => NEVn39.out (Option.some.inj e))).trans OVn39.out
                  clear hown hgrow
                  refine hK.out _ _ (SF.out Vn42 BVn42.out XVn42.out) (fun _ => ?_)
                  clear hK K
                  try simp only [Act.put, List.setIfInBounds_toArray, List.set_cons_zero, List.set_cons_succ]
                  try simp only [List.length_nil, Nat.zero_add]
                  refine wpAnyH_ready (rs := [16]) (by kernel_rfl) (by simp) (AllReadyH.cons (o := ?on43) ?en43 (fun K hK => ?kn43) (AllReadyH.nil))
                  case en43 => (simp only [List.getElem?_toArray, List.getElem?_cons_zero, List.getElem?_cons_succ]; rfl)
                  case kn43 =>
                    refine step_append_lies _ rfl _ _ 71 rfl (w.heap.size + 1) 89 i0 _ 3 32 Try.underlying71 hi hz0 hz1 hz2 rfl (by decide) _ _ _ rfl EVn42.out ⟨V9.heap.size, 0, none⟩ 1 1 (encV (v1, v2, v3)) rfl rfl (enc_cell OVn42.out) (enc_ok _) (by decide) D3.out D4.out ZVn42.out _ rfl ?_
                    intro gVn43 cVn43 Vn43 hown hgrow _ _
                    have BVn43 := Lib.hid (BVn42.out.grown hgrow BVn42.out.size (fun k hk => by have := (EVn42.out.lt k hk).1; omega))
                    have XVn43 : Hid (Vn43.heap[w.heap.size]? = some (.cells #[.int .i64 v1, .string v2, .bool v3] 89 (0, 0))) := (hgrow.block w.heap.size (by have := ZVn42.out; omega) (fun e => by have := (EVn42.out.lt _ e.symm).1; omega)).trans XVn42.out
                    have EVn43 : Hid (OwV 89 (w.heap.size + 1) (.slice (some ⟨gVn43, 0, none⟩) (l.length + 1) cVn43) (l ++ [(v1, v2, v3)]) Vn43) := own_snoc (l := l) hown
                    have FIVn43 := Lib.hid (HFINI.out Vn43 gVn43 cVn43 (EVn43.out.mono (Nat.le_succ _)) BVn43.out)
                    clear hown hgrow
                    refine hK.out _ _ (SF.out Vn43 BVn43.out XVn43.out) (fun _ => ?_)
                    clear hK K
                    try simp only [Act.put, List.setIfInBounds_toArray, List.set_cons_zero, List.set_cons_succ]
                    refine wpAnyH_take (i := 17) (oi := ?o17r45) (v := ?v17r45) ?e17r45 ?a17r45 ?b17r45 ?c17r45 ?q17r45 (Or.inl ⟨?w17r45, ?h17r45⟩) ?s17r45 ?r17r45
                    case e17r45 => (simp only [List.getElem?_toArray, List.getElem?_cons_zero, List.getElem?_cons_succ]; rfl)
                    case a17r45 => kernel_rfl
                    case b17r45 => kernel_rfl
                    case c17r45 => kernel_rfl
                    case q17r45 => exact fun _ _ _ h => h
                    case w17r45 => rfl
                    case s17r45 => assumption
                    case h17r45 => (intro W hSw; obtain ⟨a5, abx⟩ := hSw; obtain ⟨ab0, ab1, ab2⟩ := Cn.cells3 abx; go_simp; try with_reducible rfl)
                    try simp only [Act.put, List.setIfInBounds_toArray, List.set_cons_zero, List.set_cons_succ]
                    refine wpAnyH_ready (rs := [18]) (by kernel_rfl) (by simp) (AllReadyH.cons (o := ?on44) ?en44 (fun K hK => ?kn44) (AllReadyH.nil))
                    case en44 => (simp only [List.getElem?_toArray, List.getElem?_cons_zero, List.getElem?_cons_succ]; rfl)
                    case kn44 =>
                      have ec := (HKV.out Vn43 BVn43.out).2
                      have ef := frzC BVn43.out
                      go_simp
                      clear ec ef
                      refine hK.out _ _ ⟨?_, ?_⟩ (fun _ => ?_)
                      · rw [World.cell?_of_block (w := Vn43) (a := ⟨r, 5, none⟩) (set_oth Vn43 gC j _ (fun e => HGR.out e.symm))]; exact (HKV.out Vn43 BVn43.out).1
                      · exact (set_oth Vn43 gC j _ (by omega)).trans XVn43.out
                      clear hK K
                      try simp only [Act.put, List.setIfInBounds_toArray, List.set_cons_zero, List.set_cons_succ]
                      refine wpAnyH_done (by kernel_rfl) ?_ _
                      go_wp2
                      (try simp only [Exit.inBlock, Exit.then])
                      refine bodyPost_ret (results_none rfl _ _ _) rfl ?_
                      exact ⟨rfl, FIVn43.out⟩
            case kn40 =>
              have ec := (HKV.out Vn4 BVn4.out).2
              go_simp
              clear ec
              refine hK.out _ _ (SF.out Vn4 BVn4.out XVn4.out) (fun _ => ?_)
              clear hK K
              try simp only [Act.put, List.setIfInBounds_toArray, List.set_cons_zero, List.set_cons_succ]
              refine wpAnyH_ready (rs := [5]) (by kernel_rfl) (by simp) (AllReadyH.cons (o := ?on46) ?en46 (fun K hK => ?kn46) (AllReadyH.nil))
              case en46 => (simp only [List.getElem?_toArray, List.getElem?_cons_zero, List.getElem?_cons_succ]; rfl)
              case kn46 =>
                go_simp
                obtain ⟨Vn46, hVn46⟩ : ∃ V', V' = Vn4.alloc ObE := ⟨_, rfl⟩
                have qVn46 : Below Vn4.heap.size Vn4 Vn46 := by rw [hVn46]; exact (Below.refl _ _).alloc (Nat.le_refl _) _
                have BVn46 := Lib.hid (BVn4.out.trans (qVn46.mono BVn4.out.size))
                have XVn46 := Lib.hid ((qVn46.block w.heap.size (by have := ZVn4.out; omega)).trans XVn4.out)
                have ZVn46 : Hid (w.heap.size + 1 ≤ Vn46.heap.size) := Nat.le_trans ZVn4.out qVn46.size
                have EVn46 : Hid (OwV 89 (w.heap.size + 1) (.slice (some ⟨Vn4.heap.size, 0, none⟩) 0 0) [] Vn46) := by rw [hVn46]; exact own_e Vn4 _ ZVn4.out
                have OVn46 := Lib.hid ((qVn46.block _ (Array.getElem?_eq_some_iff.1 OVn4.out).1).trans OVn4.out)
                have NEVn46 : Hid (V9.heap.size ≠ Vn4.heap.size) := Nat.ne_of_lt (Array.getElem?_eq_some_iff.1 OVn4.out).1
                clear qVn46
                rw [← hVn46]
                clear hVn46
                refine hK.out _ _ (SF.out Vn46 BVn46.out XVn46.out) (fun _ => ?_)
                clear hK K
                try simp only [Act.put, List.setIfInBounds_toArray, List.set_cons_zero, List.set_cons_succ]
                refine wpAnyH_ready (rs := [13]) (by kernel_rfl) (by simp) (AllReadyH.cons (o := ?on47) ?en47 (fun K hK => ?kn47) (AllReadyH.nil))
                case en47 => (simp only [List.getElem?_toArray, List.getElem?_cons_zero, List.getElem?_cons_succ]; rfl)
                case kn47 =>
                  have LCVn47 := Lib.hid (rdv_cells (HRDW.out Vn46 BVn46.out))
                  refine step_append_lies _ rfl _ _ 71 rfl (w.heap.size + 1) 89 i0 _ 3 32 Try.underlying71 hi hz0 hz1 hz2 rfl (by decide) _ _ _ rfl EVn46.out ⟨g, off, none⟩ l.length cap (vC l) rfl (vC_len l) LCVn47.out (vC_one l) hlp D1.out D2.out ZVn46.out _ rfl ?_
                  intro gVn47 cVn47 Vn47 hown hgrow _ _
                  have BVn47 := Lib.hid (BVn46.out.grown hgrow BVn46.out.size (fun k hk => by have := (EVn46.out.lt k hk).1; omega))
                  have XVn47 : Hid (Vn47.heap[w.heap.size]? = some (.cells #[.int .i64 v1, .string v2, .bool v3] 89 (0, 0))) := (hgrow.block w.heap.size (by have := ZVn46.out; omega) (fun e => by have := (EVn46.out.lt _ e.symm).1; omega)).trans XVn46.out
                  have ZVn47 : Hid (w.heap.size + 1 ≤ Vn47.heap.size) := Nat.le_trans ZVn46.out hgrow.size
                  have EVn47 : Hid (OwV 89 (w.heap.size + 1) (.slice (some ⟨gVn47, 0, none⟩) l.length cVn47) l Vn47) := first_ap (g0 := 0) (W := Vn47) hown
                  have OVn47 : Hid (Vn47.heap[V9.heap.size]? = some (ObV v1 v2 v3)) := (hgrow.block _ (Array.getElem?_eq_some_iff.1 OVn46.out).1 (fun e => NEVn46.out (Option.some.inj e))).trans OVn46.out
                  clear hown hgrow
                  refine hK.out _ _ (SF.out Vn47 BVn47.out XVn47.out) (fun _ => ?_)
                  clear hK K
                  try simp only [Act.put, List.setIfInBounds_toArray, List.set_cons_zero, List.set_cons_succ]
                  try simp only [List.length_nil, Nat.zero_add]
                  refine wpAnyH_ready (rs := [16]) (by kernel_rfl) (by simp) (AllReadyH.cons (o := ?on48) ?en48 (fun K hK => ?kn48) (AllReadyH.nil))
                  case en48 => (simp only [List.getElem?_toArray, List.getElem?_cons_zero, List.getElem?_cons_succ]; rfl)
                  case kn48 =>
                    refine step_append_lies _ rfl _ _ 71 rfl (w.heap.size + 1) 89 i0 _ 3 32 Try.underlying71 hi hz0 hz1 hz2 rfl (by decide) _ _ _ rfl EVn47.out ⟨V9.heap.size, 0, none⟩ 1 1 (encV (v1, v2, v3)) rfl rfl (enc_cell OVn47.out) (enc_ok _) (by decide) D3.out D4.out ZVn47.out _ rfl ?_
                    intro gVn48 cVn48 Vn48 hown hgrow _ _
                    have BVn48 := Lib.hid (BVn47.out.grown hgrow BVn47.out.size (fun k hk => by have := (EVn47.out.lt k hk).1; omega))
                    have XVn48 : Hid (Vn48.heap[w.heap.size]? = some (.cells #[.int .i64 v1, .string v2, .bool v3] 89 (0, 0))) := (hgrow.block w.heap.size (by have := ZVn47.out; omega) (fun e => by have := (EVn47.out.lt _ e.symm).1; omega)).trans XVn47.out
                    have EVn48 : Hid (OwV 89 (w.heap.size + 1) (.slice (some ⟨gVn48, 0, none⟩) (l.length + 1) cVn48) (l ++ [(v1, v2, v3)]) Vn48) := own_snoc (l := l) hown
                    have FIVn48 := Lib.hid (HFINI.out Vn48 gVn48 cVn48 (EVn48.out.mono (Nat.le_succ _)) BVn48.out)
                    clear hown hgrow
                    refine hK.out _ _ (SF.out Vn48 BVn48.out XVn48.out) (fun _ => ?_)
                    clear hK K
                    try simp only [Act.put, List.setIfInBounds_toArray, List.set_cons_zero, List.set_cons_succ]
                    refine wpAnyH_take (i := 17) (oi := ?o17r50) (v := ?v17r50) ?e17r50 ?a17r50 ?b17r50 ?c17r50 ?q17r50 (Or.inl ⟨?w17r50, ?h17r50⟩) ?s17r50 ?r17r50
                    case e17r50 => (simp only [List.getElem?_toArray, List.getElem?_cons_zero, List.getElem?_cons_succ]; rfl)
                    case a17r50 => kernel_rfl
                    case b17r50 => kernel_rfl
                    case c17r50 => kernel_rfl
                    case q17r50 => exact fun _ _ _ h => h
                    case w17r50 => rfl
                    case s17r50 => assumption
                    case h17r50 => (intro W hSw; obtain ⟨a5, abx⟩ := hSw; obtain ⟨ab0, ab1, ab2⟩ := Cn.cells3 abx; go_simp; try with_reducible rfl)
                    try simp only [Act.put, List.setIfInBounds_toArray, List.set_cons_zero, List.set_cons_succ]
                    refine wpAnyH_ready (rs := [18]) (by kernel_rfl) (by simp) (AllReadyH.cons (o := ?on49) ?en49 (fun K hK => ?kn49) (AllReadyH.nil))
                    case en49 => (simp only [List.getElem?_toArray, List.getElem?_cons_zero, List.getElem?_cons_succ]; rfl)
                    case kn49 =>
                      have ec := (HKV.out Vn48 BVn48.out).2
                      have ef := frzC BVn48.out
                      go_simp
                      clear ec ef
                      refine hK.out _ _ ⟨?_, ?_⟩ (fun _ => ?_)
                      · rw [World.cell?_of_block (w := Vn48) (a := ⟨r, 5, none⟩) (set_oth Vn48 gC j _ (fun e => HGR.out e.symm))]; exact (HKV.out Vn48 BVn48.out).1
                      · exact (set_oth Vn48 gC j _ (by omega)).trans XVn48.out
                      clear hK K
                      try simp only [Act.put, List.setIfInBounds_toArray, List.set_cons_zero, List.set_cons_succ]
                      refine wpAnyH_done (by kernel_rfl) ?_ _
                      go_wp2
                      (try simp only [Exit.inBlock, Exit.then])
                      refine bodyPost_ret (results_none rfl _ _ _) rfl ?_
                      exact ⟨rfl, FIVn48.out⟩
        · obtain hle : l = [] := List.eq_nil_of_length_eq_zero (by omega)
          subst hle
          have SF : Hid (∀ V : World, Below w.heap.size w V → V.heap[w.heap.size]? = some (.cells #[.int .i64 v1, .string v2, .bool v3] 89 (0, 0)) → (fun V : World => V.cell? ⟨r, 5, none⟩ = some (.slice (some ⟨gC, 0, none⟩) n capC) ∧ V.heap[w.heap.size]? = some (.cells #[.int .i64 v1, .string v2, .bool v3] 89 (0, 0))) V) := fun V hV hx => ⟨(HKV.out V hV).1, hx⟩
          have hS0 : (fun V : World => V.cell? ⟨r, 5, none⟩ = some (.slice (some ⟨gC, 0, none⟩) n capC) ∧ V.heap[w.heap.size]? = some (.cells #[.int .i64 v1, .string v2, .bool v3] 89 (0, 0))) wr.drew := SF.out _ (HB0.out.trans ((bdr wr).mono HB0.out.size)) HK0.out
          obtain ⟨V9, hV9⟩ : ∃ V9, V9 = wr.drew := ⟨_, rfl⟩
          have hS9 : (fun V : World => V.cell? ⟨r, 5, none⟩ = some (.slice (some ⟨gC, 0, none⟩) n capC) ∧ V.heap[w.heap.size]? = some (.cells #[.int .i64 v1, .string v2, .bool v3] 89 (0, 0))) V9 := by rw [hV9]; exact hS0
          have B9 : Hid (Below w.heap.size w V9) := by rw [hV9]; exact Lib.hid (HB0.out.trans ((bdr wr).mono HB0.out.size))
          have X9 : Hid (V9.heap[w.heap.size]? = some (.cells #[.int .i64 v1, .string v2, .bool v3] 89 (0, 0))) := by rw [hV9]; exact HK0
          have Z9 : Hid (w.heap.size + 1 ≤ V9.heap.size) := by rw [hV9]; exact hzW
          refine wp_region_held_drew (S := (fun V : World => V.cell? ⟨r, 5, none⟩ = some (.slice (some ⟨gC, 0, none⟩) n capC) ∧ V.heap[w.heap.size]? = some (.cells #[.int .i64 v1, .string v2, .bool v3] 89 (0, 0)))) (by kernel_rfl) hS0 (fun hHeld => ?_)
          rw [← hV9] at hHeld ⊢
          clear hV9 hS0 hHeld c0 c1 c2 c3 c4 c5 a5 d0 d1 d2
          refine wpAnyH_take (i := 0) (oi := ?o0r51) (v := ?v0r51) ?e0r51 ?a0r51 ?b0r51 ?c0r51 ?q0r51 (Or.inl ⟨?w0r51, ?h0r51⟩) ?s0r51 ?r0r51
          case e0r51 => (simp only [List.getElem?_toArray, List.getElem?_cons_zero, List.getElem?_cons_succ]; rfl)
          case a0r51 => kernel_rfl
          case b0r51 => kernel_rfl
          case c0r51 => kernel_rfl
          case q0r51 => exact fun _ _ _ h => h
          case w0r51 => rfl
          case s0r51 => assumption
          case h0r51 => (intro W hSw; obtain ⟨a5, abx⟩ := hSw; obtain ⟨ab0, ab1, ab2⟩ := Cn.cells3 abx; go_simp; try with_reducible rfl)
          try simp only [Act.put, List.setIfInBounds_toArray, List.set_cons_zero, List.set_cons_succ]
          refine wpAnyH_take (i := 1) (oi := ?o1r51) (v := ?v1r51) ?e1r51 ?a1r51 ?b1r51 ?c1r51 ?q1r51 (Or.inl ⟨?w1r51, ?h1r51⟩) ?s1r51 ?r1r51
          case e1r51 => (simp only [List.getElem?_toArray, List.getElem?_cons_zero, List.getElem?_cons_succ]; rfl)
          case a1r51 => kernel_rfl
          case b1r51 => kernel_rfl
          case c1r51 => kernel_rfl
          case q1r51 => exact fun _ _ _ h => h
          case w1r51 => rfl
          case s1r51 => assumption
          case h1r51 => (intro W hSw; obtain ⟨a5, abx⟩ := hSw; obtain ⟨ab0, ab1, ab2⟩ := Cn.cells3 abx; go_simp; try with_reducible rfl)
          try simp only [Act.put, List.setIfInBounds_toArray, List.set_cons_zero, List.set_cons_succ]
          refine wpAnyH_take (i := 2) (oi := ?o2r51) (v := ?v2r51) ?e2r51 ?a2r51 ?b2r51 ?c2r51 ?q2r51 (Or.inl ⟨?w2r51, ?h2r51⟩) ?s2r51 ?r2r51
          case e2r51 => (simp only [List.getElem?_toArray, List.getElem?_cons_zero, List.getElem?_cons_succ]; rfl)
          case a2r51 => kernel_rfl
          case b2r51 => kernel_rfl
          case c2r51 => kernel_rfl
          case q2r51 => exact fun _ _ _ h => h
          case w2r51 => rfl
          case s2r51 => assumption
          case h2r51 => (intro W hSw; obtain ⟨a5, abx⟩ := hSw; obtain ⟨ab0, ab1, ab2⟩ := Cn.cells3 abx; go_simp; try with_reducible rfl)
          try simp only [Act.put, List.setIfInBounds_toArray, List.set_cons_zero, List.set_cons_succ]
          refine wpAnyH_take (i := 3) (oi := ?o3r51) (v := ?v3r51) ?e3r51 ?a3r51 ?b3r51 ?c3r51 ?q3r51 (Or.inl ⟨?w3r51, ?h3r51⟩) ?s3r51 ?r3r51
          case e3r51 => (simp only [List.getElem?_toArray, List.getElem?_cons_zero, List.getElem?_cons_succ]; rfl)
          case a3r51 => kernel_rfl
          case b3r51 => kernel_rfl
          case c3r51 => kernel_rfl
          case q3r51 => exact fun _ _ _ h => h
          case w3r51 => rfl
          case s3r51 => assumption
          case h3r51 => (intro W hSw; obtain ⟨a5, abx⟩ := hSw; obtain ⟨ab0, ab1, ab2⟩ := Cn.cells3 abx; go_simp; try with_reducible rfl)
          try simp only [Act.put, List.setIfInBounds_toArray, List.set_cons_zero, List.set_cons_succ]
          refine wpAnyH_take (i := 4) (oi := ?o4r51) (v := ?v4r51) ?e4r51 ?a4r51 ?b4r51 ?c4r51 ?q4r51 (Or.inl ⟨?w4r51, ?h4r51⟩) ?s4r51 ?r4r51
          case e4r51 => (simp only [List.getElem?_toArray, List.getElem?_cons_zero, List.getElem?_cons_succ]; rfl)
          case a4r51 => kernel_rfl
          case b4r51 => kernel_rfl
          case c4r51 => kernel_rfl
          case q4r51 => exact fun _ _ _ h => h
          case w4r51 => rfl
          case s4r51 => assumption
          case h4r51 => (intro W hSw; obtain ⟨a5, abx⟩ := hSw; obtain ⟨ab0, ab1, ab2⟩ := Cn.cells3 abx; go_simp; try with_reducible rfl)
          try simp only [Act.put, List.setIfInBounds_toArray, List.set_cons_zero, List.set_cons_succ]
          refine wpAnyH_take (i := 6) (oi := ?o6r51) (v := ?v6r51) ?e6r51 ?a6r51 ?b6r51 ?c6r51 ?q6r51 (Or.inl ⟨?w6r51, ?h6r51⟩) ?s6r51 ?r6r51
          case e6r51 => (simp only [List.getElem?_toArray, List.getElem?_cons_zero, List.getElem?_cons_succ]; rfl)
          case a6r51 => kernel_rfl
          case b6r51 => kernel_rfl
          case c6r51 => kernel_rfl
          case q6r51 => exact fun _ _ _ h => h
          case w6r51 => rfl
          case s6r51 => assumption
          case h6r51 => (intro W hSw; obtain ⟨a5, abx⟩ := hSw; obtain ⟨ab0, ab1, ab2⟩ := Cn.cells3 abx; go_simp; try with_reducible rfl)
          try simp only [Act.put, List.setIfInBounds_toArray, List.set_cons_zero, List.set_cons_succ]
          refine wpAnyH_take (i := 7) (oi := ?o7r51) (v := ?v7r51) ?e7r51 ?a7r51 ?b7r51 ?c7r51 ?q7r51 (Or.inl ⟨?w7r51, ?h7r51⟩) ?s7r51 ?r7r51
          case e7r51 => (simp only [List.getElem?_toArray, List.getElem?_cons_zero, List.getElem?_cons_succ]; rfl)
          case a7r51 => kernel_rfl
          case b7r51 => kernel_rfl
          case c7r51 => kernel_rfl
          case q7r51 => exact fun _ _ _ h => h
          case w7r51 => rfl
          case s7r51 => assumption
          case h7r51 => (intro W hSw; obtain ⟨a5, abx⟩ := hSw; obtain ⟨ab0, ab1, ab2⟩ := Cn.cells3 abx; go_simp; try with_reducible rfl)
          try simp only [Act.put, List.setIfInBounds_toArray, List.set_cons_zero, List.set_cons_succ]
          refine wpAnyH_take (i := 8) (oi := ?o8r51) (v := ?v8r51) ?e8r51 ?a8r51 ?b8r51 ?c8r51 ?q8r51 (Or.inl ⟨?w8r51, ?h8r51⟩) ?s8r51 ?r8r51
          case e8r51 => (simp only [List.getElem?_toArray, List.getElem?_cons_zero, List.getElem?_cons_succ]; rfl)
          case a8r51 => kernel_rfl
          case b8r51 => kernel_rfl
          case c8r51 => kernel_rfl
          case q8r51 => exact fun _ _ _ h => h
          case w8r51 => rfl
          case s8r51 => assumption
          case h8r51 => (intro W hSw; obtain ⟨a5, abx⟩ := hSw; obtain ⟨ab0, ab1, ab2⟩ := Cn.cells3 abx; go_simp; try with_reducible rfl)
          try simp only [Act.put, List.setIfInBounds_toArray, List.set_cons_zero, List.set_cons_succ]
          refine wpAnyH_take (i := 9) (oi := ?o9r51) (v := ?v9r51) ?e9r51 ?a9r51 ?b9r51 ?c9r51 ?q9r51 (Or.inl ⟨?w9r51, ?h9r51⟩) ?s9r51 ?r9r51
          case e9r51 => (simp only [List.getElem?_toArray, List.getElem?_cons_zero, List.getElem?_cons_succ]; rfl)
          case a9r51 => kernel_rfl
          case b9r51 => kernel_rfl
          case c9r51 => kernel_rfl
          case q9r51 => exact fun _ _ _ h => h
          case w9r51 => rfl
          case s9r51 => assumption
          case h9r51 => (intro W hSw; obtain ⟨a5, abx⟩ := hSw; obtain ⟨ab0, ab1, ab2⟩ := Cn.cells3 abx; go_simp; try with_reducible rfl)
          try simp only [Act.put, List.setIfInBounds_toArray, List.set_cons_zero, List.set_cons_succ]
          refine wpAnyH_take (i := 10) (oi := ?o10r51) (v := ?v10r51) ?e10r51 ?a10r51 ?b10r51 ?c10r51 ?q10r51 (Or.inl ⟨?w10r51, ?h10r51⟩) ?s10r51 ?r10r51
          case e10r51 => (simp only [List.getElem?_toArray, List.getElem?_cons_zero, List.getElem?_cons_succ]; rfl)
          case a10r51 => kernel_rfl
          case b10r51 => kernel_rfl
          case c10r51 => kernel_rfl
          case q10r51 => exact fun _ _ _ h => h
          case w10r51 => rfl
          case s10r51 => assumption
          case h10r51 => (intro W hSw; obtain ⟨a5, abx⟩ := hSw; obtain ⟨ab0, ab1, ab2⟩ := Cn.cells3 abx; go_simp; try with_reducible rfl)
          try simp only [Act.put, List.setIfInBounds_toArray, List.set_cons_zero, List.set_cons_succ]
          refine wpAnyH_take (i := 11) (oi := ?o11r51) (v := ?v11r51) ?e11r51 ?a11r51 ?b11r51 ?c11r51 ?q11r51 (Or.inl ⟨?w11r51, ?h11r51⟩) ?s11r51 ?r11r51
          case e11r51 => (simp only [List.getElem?_toArray, List.getElem?_cons_zero, List.getElem?_cons_succ]; rfl)
          case a11r51 => kernel_rfl
          case b11r51 => kernel_rfl
          case c11r51 => kernel_rfl
          case q11r51 => exact fun _ _ _ h => h
          case w11r51 => rfl
          case s11r51 => assumption
          case h11r51 => (intro W hSw; obtain ⟨a5, abx⟩ := hSw; obtain ⟨ab0, ab1, ab2⟩ := Cn.cells3 abx; go_simp; try with_reducible rfl)
          try simp only [Act.put, List.setIfInBounds_toArray, List.set_cons_zero, List.set_cons_succ]
          refine wpAnyH_take (i := 14) (oi := ?o14r51) (v := ?v14r51) ?e14r51 ?a14r51 ?b14r51 ?c14r51 ?q14r51 (Or.inl ⟨?w14r51, ?h14r51⟩) ?s14r51 ?r14r51
          case e14r51 => (simp only [List.getElem?_toArray, List.getElem?_cons_zero, List.getElem?_cons_succ]; rfl)
          case a14r51 => kernel_rfl
          case b14r51 => kernel_rfl
          case c14r51 => kernel_rfl
          case q14r51 => exact fun _ _ _ h => h
          case w14r51 => rfl
          case s14r51 => assumption
          case h14r51 => (intro W hSw; obtain ⟨a5, abx⟩ := hSw; obtain ⟨ab0, ab1, ab2⟩ := Cn.cells3 abx; go_simp; try with_reducible rfl)
          try simp only [Act.put, List.setIfInBounds_toArray, List.set_cons_zero, List.set_cons_succ]
          refine wpAnyH_ready (rs := [5, 12, 15]) (by kernel_rfl) (by simp) (AllReadyH.cons (o := ?on52) ?en52 (fun K hK => ?kn52) (AllReadyH.cons (o := ?on53) ?en53 (fun K hK => ?kn53) (AllReadyH.cons (o := ?on54) ?en54 (fun K hK => ?kn54) (AllReadyH.nil))))
          case en52 => (simp only [List.getElem?_toArray, List.getElem?_cons_zero, List.getElem?_cons_succ]; rfl)
          case en53 => (simp only [List.getElem?_toArray, List.getElem?_cons_zero, List.getElem?_cons_succ]; rfl)
          case en54 => (simp only [List.getElem?_toArray, List.getElem?_cons_zero, List.getElem?_cons_succ]; rfl)
          case kn52 =>
            go_simp
            obtain ⟨Vn52, hVn52⟩ : ∃ V', V' = V9.alloc ObE := ⟨_, rfl⟩
            have qVn52 : Below V9.heap.size V9 Vn52 := by rw [hVn52]; exact (Below.refl _ _).alloc (Nat.le_refl _) _
            have BVn52 := Lib.hid (B9.out.trans (qVn52.mono B9.out.size))
            have XVn52 := Lib.hid ((qVn52.block w.heap.size (by have := Z9.out; omega)).trans X9.out)
            have ZVn52 : Hid (w.heap.size + 1 ≤ Vn52.heap.size) := Nat.le_trans Z9.out qVn52.size
            have EVn52 : Hid (OwV 89 (w.heap.size + 1) (.slice (some ⟨V9.heap.size, 0, none⟩) 0 0) [] Vn52) := by rw [hVn52]; exact own_e V9 _ Z9.out
            clear qVn52
            rw [← hVn52]
            clear hVn52
            refine hK.out _ _ (SF.out Vn52 BVn52.out XVn52.out) (fun _ => ?_)
            clear hK K
            try simp only [Act.put, List.setIfInBounds_toArray, List.set_cons_zero, List.set_cons_succ]
            refine wpAnyH_ready (rs := [12, 15]) (by kernel_rfl) (by simp) (AllReadyH.cons (o := ?on55) ?en55 (fun K hK => ?kn55) (AllReadyH.cons (o := ?on56) ?en56 (fun K hK => ?kn56) (AllReadyH.nil)))
            case en55 => (simp only [List.getElem?_toArray, List.getElem?_cons_zero, List.getElem?_cons_succ]; rfl)
            case en56 => (simp only [List.getElem?_toArray, List.getElem?_cons_zero, List.getElem?_cons_succ]; rfl)
            case kn55 =>
              have ec := (HKV.out Vn52 BVn52.out).2
              go_simp
              clear ec
              refine hK.out _ _ (SF.out Vn52 BVn52.out XVn52.out) (fun _ => ?_)
              clear hK K
              try simp only [Act.put, List.setIfInBounds_toArray, List.set_cons_zero, List.set_cons_succ]
              refine wpAnyH_ready (rs := [13, 15]) (by kernel_rfl) (by simp) (AllReadyH.cons (o := ?on57) ?en57 (fun K hK => ?kn57) (AllReadyH.cons (o := ?on58) ?en58 (fun K hK => ?kn58) (AllReadyH.nil)))
              case en57 => (simp only [List.getElem?_toArray, List.getElem?_cons_zero, List.getElem?_cons_succ]; rfl)
              case en58 => (simp only [List.getElem?_toArray, List.getElem?_cons_zero, List.getElem?_cons_succ]; rfl)
              case kn57 =>
                refine step_app0 rfl _ _ rfl _ _ _ rfl rfl ?_
                refine hK.out _ _ (SF.out Vn52 BVn52.out XVn52.out) (fun _ => ?_)
                clear hK K
                try simp only [Act.put, List.setIfInBounds_toArray, List.set_cons_zero, List.set_cons_succ]
                refine wpAnyH_ready (rs := [15]) (by kernel_rfl) (by simp) (AllReadyH.cons (o := ?on59) ?en59 (fun K hK => ?kn59) (AllReadyH.nil))
                case en59 => (simp only [List.getElem?_toArray, List.getElem?_cons_zero, List.getElem?_cons_succ]; rfl)
                case kn59 =>
                  go_simp
                  obtain ⟨Vn59, hVn59⟩ : ∃ V', V' = Vn52.alloc (ObV v1 v2 v3) := ⟨_, rfl⟩
                  have qVn59 : Below Vn52.heap.size Vn52 Vn59 := by rw [hVn59]; exact (Below.refl _ _).alloc (Nat.le_refl _) _
                  have BVn59 := Lib.hid (BVn52.out.trans (qVn59.mono BVn52.out.size))
                  have XVn59 := Lib.hid ((qVn59.block w.heap.size (by have := ZVn52.out; omega)).trans XVn52.out)
                  have ZVn59 : Hid (w.heap.size + 1 ≤ Vn59.heap.size) := Nat.le_trans ZVn52.out qVn59.size
                  have OVn59 : Hid (Vn59.heap[Vn52.heap.size]? = some (ObV v1 v2 v3)) := by rw [hVn59]; exact heap_alloc_new Vn52 _
                  have EVn59 := Lib.hid (EVn52.out.go qVn59)
                  have NEVn59 : Hid (Vn52.heap.size ≠ V9.heap.size) := Nat.ne_of_gt (EVn52.out.lt _ rfl).2
                  clear qVn59
                  rw [← hVn59]
                  clear hVn59
                  refine hK.out _ _ (SF.out Vn59 BVn59.out XVn59.out) (fun _ => ?_)
                  clear hK K
                  try simp only [Act.put, List.setIfInBounds_toArray, List.set_cons_zero, List.set_cons_succ]
                  refine wpAnyH_ready (rs := [16]) (by kernel_rfl) (by simp) (AllReadyH.cons (o := ?on60) ?en60 (fun K hK => ?kn60) (AllReadyH.nil))
                  case en60 => (simp only [List.getElem?_toArray, List.getElem?_cons_zero, List.getElem?_cons_succ]; rfl)
                  case kn60 =>
                    refine step_append_lies _ rfl _ _ 71 rfl (w.heap.size + 1) 89 i0 _ 3 32 Try.underlying71 hi hz0 hz1 hz2 rfl (by decide) _ _ _ rfl EVn59.out ⟨Vn52.heap.size, 0, none⟩ 1 1 (encV (v1, v2, v3)) rfl rfl (enc_cell OVn59.out) (enc_ok _) (by decide) D3.out D4.out ZVn59.out _ rfl ?_
                    intro gVn60 cVn60 Vn60 hown hgrow _ _
                    have BVn60 := Lib.hid (BVn59.out.grown hgrow BVn59.out.size (fun k hk => by have := (EVn59.out.lt k hk).1; omega))
                    have XVn60 : Hid (Vn60.heap[w.heap.size]? = some (.cells #[.int .i64 v1, .string v2, .bool v3] 89 (0, 0))) := (hgrow.block w.heap.size (by have := ZVn59.out; omega) (fun e => by have := (EVn59.out.lt _ e.symm).1; omega)).trans XVn59.out
                    have EVn60 : Hid (OwV 89 (w.heap.size + 1) (.slice (some ⟨gVn60, 0, none⟩) (0 + 1) cVn60) ([] ++ [(v1, v2, v3)]) Vn60) := own_snoc (l := []) hown
                    have FIVn60 := Lib.hid (HFINI.out Vn60 gVn60 cVn60 (EVn60.out.mono (Nat.le_succ _)) BVn60.out)
                    clear hown hgrow
                    refine hK.out _ _ (SF.out Vn60 BVn60.out XVn60.out) (fun _ => ?_)
                    clear hK K
                    try simp only [Act.put, List.setIfInBounds_toArray, List.set_cons_zero, List.set_cons_succ]
                    refine wpAnyH_take (i := 17) (oi := ?o17r62) (v := ?v17r62) ?e17r62 ?a17r62 ?b17r62 ?c17r62 ?q17r62 (Or.inl ⟨?w17r62, ?h17r62⟩) ?s17r62 ?r17r62
                    case e17r62 => (simp only [List.getElem?_toArray, List.getElem?_cons_zero, List.getElem?_cons_succ]; rfl)
                    case a17r62 => kernel_rfl
                    case b17r62 => kernel_rfl
                    case c17r62 => kernel_rfl
                    case q17r62 => exact fun _ _ _ h => h
                    case w17r62 => rfl
                    case s17r62 => assumption
                    case h17r62 => (intro W hSw; obtain ⟨a5, abx⟩ := hSw; obtain ⟨ab0, ab1, ab2⟩ := Cn.cells3 abx; go_simp; try with_reducible rfl)
                    try simp only [Act.put, List.setIfInBounds_toArray, List.set_cons_zero, List.set_cons_succ]
                    refine wpAnyH_ready (rs := [18]) (by kernel_rfl) (by simp) (AllReadyH.cons (o := ?on61) ?en61 (fun K hK => ?kn61) (AllReadyH.nil))
                    case en61 => (simp only [List.getElem?_toArray, List.getElem?_cons_zero, List.getElem?_cons_succ]; rfl)
                    case kn61 =>
                      have ec := (HKV.out Vn60 BVn60.out).2
                      have ef := frzC BVn60.out
                      go_simp
                      clear ec ef
                      refine hK.out _ _ ⟨?_, ?_⟩ (fun _ => ?_)
                      · rw [World.cell?_of_block (w := Vn60) (a := ⟨r, 5, none⟩) (set_oth Vn60 gC j _ (fun e => HGR.out e.symm))]; exact (HKV.out Vn60 BVn60.out).1
                      · exact (set_oth Vn60 gC j _ (by omega)).trans XVn60.out
                      clear hK K
                      try simp only [Act.put, List.setIfInBounds_toArray, List.set_cons_zero, List.set_cons_succ]
                      refine wpAnyH_done (by kernel_rfl) ?_ _
                      go_wp2
                      (try simp only [Exit.inBlock, Exit.then])
                      refine bodyPost_ret (results_none rfl _ _ _) rfl ?_
                      exact ⟨rfl, FIVn60.out⟩
              case kn58 =>
                go_simp
                obtain ⟨Vn58, hVn58⟩ : ∃ V', V' = Vn52.alloc (ObV v1 v2 v3) := ⟨_, rfl⟩
                have qVn58 : Below Vn52.heap.size Vn52 Vn58 := by rw [hVn58]; exact (Below.refl _ _).alloc (Nat.le_refl _) _
                have BVn58 := Lib.hid (BVn52.out.trans (qVn58.mono BVn52.out.size))
                have XVn58 := Lib.hid ((qVn58.block w.heap.size (by have := ZVn52.out; omega)).trans XVn52.out)
                have ZVn58 : Hid (w.heap.size + 1 ≤ Vn58.heap.size) := Nat.le_trans ZVn52.out qVn58.size
                have OVn58 : Hid (Vn58.heap[Vn52.heap.size]? = some (ObV v1 v2 v3)) := by rw [hVn58]; exact heap_alloc_new Vn52 _
                have EVn58 := Lib.hid (EVn52.out.go qVn58)
                have NEVn58 : Hid (Vn52.heap.size ≠ V9.heap.size) := Nat.ne_of_gt (EVn52.out.lt _ rfl).2
                clear qVn58
                rw [← hVn58]
                clear hVn58
                refine hK.out _ _ (SF.out Vn58 BVn58.out XVn58.out) (fun _ => ?_)
                clear hK K
                try simp only [Act.put, List.setIfInBounds_toArray, List.set_cons_zero, List.set_cons_succ]
                refine wpAnyH_ready (rs := [13]) (by kernel_rfl) (by simp) (AllReadyH.cons (o := ?on63) ?en63 (fun K hK => ?kn63) (AllReadyH.nil))
                case en63 => (simp only [List.getElem?_toArray, List.getElem?_cons_zero, List.getElem?_cons_succ]; rfl)
                case kn63 =>
                  refine step_app0 rfl _ _ rfl _ _ _ rfl rfl ?_
                  refine hK.out _ _ (SF.out Vn58 BVn58.out XVn58.out) (fun _ => ?_)
                  clear hK K
                  try simp only [Act.put, List.setIfInBounds_toArray, List.set_cons_zero, List.set_cons_succ]
                  refine wpAnyH_ready (rs := [16]) (by kernel_rfl) (by simp) (AllReadyH.cons (o := ?on64) ?en64 (fun K hK => ?kn64) (AllReadyH.nil))
                  case en64 => (simp only [List.getElem?_toArray, List.getElem?_cons_zero, List.getElem?_cons_succ]; rfl)
                  case kn64 =>
                    refine step_append_lies _ rfl _ _ 71 rfl (w.heap.size + 1) 89 i0 _ 3 32 Try.underlying71 hi hz0 hz1 hz2 rfl (by decide) _ _ _ rfl EVn58.out ⟨Vn52.heap.size, 0, none⟩ 1 1 (encV (v1, v2, v3)) rfl rfl (enc_cell OVn58.out) (enc_ok _) (by decide) D3.out D4.out ZVn58.out _ rfl ?_
                    intro gVn64 cVn64 Vn64 hown hgrow _ _
                    have BVn64 := Lib.hid (BVn58.out.grown hgrow BVn58.out.size (fun k hk => by have := (EVn58.out.lt k hk).1; omega))
                    have XVn64 : Hid (Vn64.heap[w.heap.size]? = some (.cells #[.int .i64 v1, .string v2, .bool v3] 89 (0, 0))) := (hgrow.block w.heap.size (by have := ZVn58.out; omega) (fun e => by have := (EVn58.out.lt _ e.symm).1; omega)).trans XVn58.out
                    have EVn64 : Hid (OwV 89 (w.heap.size + 1) (.slice (some ⟨gVn64, 0, none⟩) (0 + 1) cVn64) ([] ++ [(v1, v2, v3)]) Vn64) := own_snoc (l := []) hown
                    have FIVn64 := Lib.hid (HFINI.out Vn64 gVn64 cVn64 (EVn64.out.mono (Nat.le_succ _)) BVn64.out)
                    clear hown hgrow
                    refine hK.out _ _ (SF.out Vn64 BVn64.out XVn64.out) (fun _ => ?_)
                    clear hK K
                    try simp only [Act.put, List.setIfInBounds_toArray, List.set_cons_zero, List.set_cons_succ]
                    refine wpAnyH_take (i := 17) (oi := ?o17r66) (v := ?v17r66) ?e17r66 ?a17r66 ?b17r66 ?c17r66 ?q17r66 (Or.inl ⟨?w17r66, ?h17r66⟩) ?s17r66 ?r17r66
                    case e17r66 => (simp only [List.getElem?_toArray, List.getElem?_cons_zero, List.getElem?_cons_succ]; rfl)
                    case a17r66 => kernel_rfl
                    case b17r66 => kernel_rfl
                    case c17r66 => kernel_rfl
                    case q17r66 => exact fun _ _ _ h => h
                    case w17r66 => rfl
                    case s17r66 => assumption
                    case h17r66 => (intro W hSw; obtain ⟨a5, abx⟩ := hSw; obtain ⟨ab0, ab1, ab2⟩ := Cn.cells3 abx; go_simp; try with_reducible rfl)
                    try simp only [Act.put, List.setIfInBounds_toArray, List.set_cons_zero, List.set_cons_succ]
                    refine wpAnyH_ready (rs := [18]) (by kernel_rfl) (by simp) (AllReadyH.cons (o := ?on65) ?en65 (fun K hK => ?kn65) (AllReadyH.nil))
                    case en65 => (simp only [List.getElem?_toArray, List.getElem?_cons_zero, List.getElem?_cons_succ]; rfl)
                    case kn65 =>
                      have ec := (HKV.out Vn64 BVn64.out).2
                      have ef := frzC BVn64.out
                      go_simp
                      clear ec ef
                      refine hK.out _ _ ⟨?_, ?_⟩ (fun _ => ?_)
                      · rw [World.cell?_of_block (w := Vn64) (a := ⟨r, 5, none⟩) (set_oth Vn64 gC j _ (fun e => HGR.out e.symm))]; exact (HKV.out Vn64 BVn64.out).1
                      · exact (set_oth Vn64 gC j _ (by omega)).trans XVn64.out
                      clear hK K
                      try simp only [Act.put, List.setIfInBounds_toArray, List.set_cons_zero, List.set_cons_succ]
                      refine wpAnyH_done (by kernel_rfl) ?_ _
                      go_wp2
                      (try simp only [Exit.inBlock, Exit.then])
                      refine bodyPost_ret (results_none rfl _ _ _) rfl ?_
                      exact ⟨rfl, FIVn64.out⟩
            case kn56 =>
              go_simp
              obtain ⟨Vn56, hVn56⟩ : ∃ V', V' = Vn52.alloc (ObV v1 v2 v3) := ⟨_, rfl⟩
              have qVn56 : Below Vn52.heap.size Vn52 Vn56 := by rw [hVn56]; exact (Below.refl _ _).alloc (Nat.le_refl _) _
              have BVn56 := Lib.hid (BVn52.out.trans (qVn56.mono BVn52.out.size))
              have XVn56 := Lib.hid ((qVn56.block w.heap.size (by have := ZVn52.out; omega)).trans XVn52.out)
              have ZVn56 : Hid (w.heap.size + 1 ≤ Vn56.heap.size) := Nat.le_trans ZVn52.out qVn56.size
              have OVn56 : Hid (Vn56.heap[Vn52.heap.size]? = some (ObV v1 v2 v3)) := by rw [hVn56]; exact heap_alloc_new Vn52 _
              have EVn56 := Lib.hid (EVn52.out.go qVn56)
              have NEVn56 : Hid (Vn52.heap.size ≠ V9.heap.size) := Nat.ne_of_gt (EVn52.out.lt _ rfl).2
              clear qVn56
              rw [← hVn56]
              clear hVn56
              refine hK.out _ _ (SF.out Vn56 BVn56.out XVn56.out) (fun _ => ?_)
              clear hK K
              try simp only [Act.put, List.setIfInBounds_toArray, List.set_cons_zero, List.set_cons_succ]
              refine wpAnyH_ready (rs := [12]) (by kernel_rfl) (by simp) (AllReadyH.cons (o := ?on67) ?en67 (fun K hK => ?kn67) (AllReadyH.nil))
              case en67 => (simp only [List.getElem?_toArray, List.getElem?_cons_zero, List.getElem?_cons_succ]; rfl)
              case kn67 =>
                have ec := (HKV.out Vn56 BVn56.out).2
                go_simp
                clear ec
                refine hK.out _ _ (SF.out Vn56 BVn56.out XVn56.out) (fun _ => ?_)
                clear hK K
                try simp only [Act.put, List.setIfInBounds_toArray, List.set_cons_zero, List.set_cons_succ]
                refine wpAnyH_ready (rs := [13]) (by kernel_rfl) (by simp) (AllReadyH.cons (o := ?on68) ?en68 (fun K hK => ?kn68) (AllReadyH.nil))
                case en68 => (simp only [List.getElem?_toArray, List.getElem?_cons_zero, List.getElem?_cons_succ]; rfl)
                case kn68 =>
                  refine step_app0 rfl _ _ rfl _ _ _ rfl rfl ?_
                  refine hK.out _ _ (SF.out Vn56 BVn56.out XVn56.out) (fun _ => ?_)
                  clear hK K
                  try simp only [Act.put, List.setIfInBounds_toArray, List.set_cons_zero, List.set_cons_succ]
                  refine wpAnyH_ready (rs := [16]) (by kernel_rfl) (by simp) (AllReadyH.cons (o := ?on69) ?en69 (fun K hK => ?kn69) (AllReadyH.nil))
                  case en69 => (simp only [List.getElem?_toArray, List.getElem?_cons_zero, List.getElem?_cons_succ]; rfl)
                  case kn69 =>
                    refine step_append_lies _ rfl _ _ 71 rfl (w.heap.size + 1) 89 i0 _ 3 32 Try.underlying71 hi hz0 hz1 hz2 rfl (by decide) _ _ _ rfl EVn56.out ⟨Vn52.heap.size, 0, none⟩ 1 1 (encV (v1, v2, v3)) rfl rfl (enc_cell OVn56.out) (enc_ok _) (by decide) D3.out D4.out ZVn56.out _ rfl ?_
                    intro gVn69 cVn69 Vn69 hown hgrow _ _
                    have BVn69 := Lib.hid (BVn56.out.grown hgrow BVn56.out.size (fun k hk => by have := (EVn56.out.lt k hk).1; omega))
                    have XVn69 : Hid (Vn69.heap[w.heap.size]? = some (.cells #[.int .i64 v1, .string v2, .bool v3] 89 (0, 0))) := (hgrow.block w.heap.size (by have := ZVn56.out; omega) (fun e => by have := (EVn56.out.lt _ e.symm).1; omega)).trans XVn56.out
                    have EVn69 : Hid (OwV 89 (w.heap.size + 1) (.slice (some ⟨gVn69, 0, none⟩) (0 + 1) cVn69) ([] ++ [(v1, v2, v3)]) Vn69) := own_snoc (l := []) hown
                    have FIVn69 := Lib.hid (HFINI.out Vn69 gVn69 cVn69 (EVn69.out.mono (Nat.le_succ _)) BVn69.out)
                    clear hown hgrow
                    refine hK.out _ _ (SF.out Vn69 BVn69.out XVn69.out) (fun _ => ?_)
                    clear hK K
                    try simp only [Act.put, List.setIfInBounds_toArray, List.set_cons_zero, List.set_cons_succ]
                    refine wpAnyH_take (i := 17) (oi := ?o17r71) (v := ?v17r71) ?e17r71 ?a17r71 ?b17r71 ?c17r71 ?q17r71 (Or.inl ⟨?w17r71, ?h17r71⟩) ?s17r71 ?r17r71
                    case e17r71 => (simp only [List.getElem?_toArray, List.getElem?_cons_zero, List.getElem?_cons_succ]; rfl)
                    case a17r71 => kernel_rfl
                    case b17r71 => kernel_rfl
                    case c17r71 => kernel_rfl
                    case q17r71 => exact fun _ _ _ h => h
                    case w17r71 => rfl
                    case s17r71 => assumption
                    case h17r71 => (intro W hSw; obtain ⟨a5, abx⟩ := hSw; obtain ⟨ab0, ab1, ab2⟩ := Cn.cells3 abx; go_simp; try with_reducible rfl)
                    try simp only [Act.put, List.setIfInBounds_toArray, List.set_cons_zero, List.set_cons_succ]
                    refine wpAnyH_ready (rs := [18]) (by kernel_rfl) (by simp) (AllReadyH.cons (o := ?on70) ?en70 (fun K hK => ?kn70) (AllReadyH.nil))
                    case en70 => (simp only [List.getElem?_toArray, List.getElem?_cons_zero, List.getElem?_cons_succ]; rfl)
                    case kn70 =>
                      have ec := (HKV.out Vn69 BVn69.out).2
                      have ef := frzC BVn69.out
                      go_simp
                      clear ec ef
                      refine hK.out _ _ ⟨?_, ?_⟩ (fun _ => ?_)
                      · rw [World.cell?_of_block (w := Vn69) (a := ⟨r, 5, none⟩) (set_oth Vn69 gC j _ (fun e => HGR.out e.symm))]; exact (HKV.out Vn69 BVn69.out).1
                      · exact (set_oth Vn69 gC j _ (by omega)).trans XVn69.out
                      clear hK K
                      try simp only [Act.put, List.setIfInBounds_toArray, List.set_cons_zero, List.set_cons_succ]
                      refine wpAnyH_done (by kernel_rfl) ?_ _
                      go_wp2
                      (try simp only [Exit.inBlock, Exit.then])
                      refine bodyPost_ret (results_none rfl _ _ _) rfl ?_
                      exact ⟨rfl, FIVn69.out⟩
          case kn53 =>
            have ec := (HKV.out V9 B9.out).2
            go_simp
            clear ec
            refine hK.out _ _ (SF.out V9 B9.out X9.out) (fun _ => ?_)
            clear hK K
            try simp only [Act.put, List.setIfInBounds_toArray, List.set_cons_zero, List.set_cons_succ]
            refine wpAnyH_ready (rs := [5, 15]) (by kernel_rfl) (by simp) (AllReadyH.cons (o := ?on72) ?en72 (fun K hK => ?kn72) (AllReadyH.cons (o := ?on73) ?en73 (fun K hK => ?kn73) (AllReadyH.nil)))
            case en72 => (simp only [List.getElem?_toArray, List.getElem?_cons_zero, List.getElem?_cons_succ]; rfl)
            case en73 => (simp only [List.getElem?_toArray, List.getElem?_cons_zero, List.getElem?_cons_succ]; rfl)
            case kn72 =>
              go_simp
              obtain ⟨Vn72, hVn72⟩ : ∃ V', V' = V9.alloc ObE := ⟨_, rfl⟩
              have qVn72 : Below V9.heap.size V9 Vn72 := by rw [hVn72]; exact (Below.refl _ _).alloc (Nat.le_refl _) _
              have BVn72 := Lib.hid (B9.out.trans (qVn72.mono B9.out.size))
              have XVn72 := Lib.hid ((qVn72.block w.heap.size (by have := Z9.out; omega)).trans X9.out)
              have ZVn72 : Hid (w.heap.size + 1 ≤ Vn72.heap.size) := Nat.le_trans Z9.out qVn72.size
              have EVn72 : Hid (OwV 89 (w.heap.size + 1) (.slice (some ⟨V9.heap.size, 0, none⟩) 0 0) [] Vn72) := by rw [hVn72]; exact own_e V9 _ Z9.out
              clear qVn72
              rw [← hVn72]
              clear hVn72
              refine hK.out _ _ (SF.out Vn72 BVn72.out XVn72.out) (fun _ => ?_)
              clear hK K
              try simp only [Act.put, List.setIfInBounds_toArray, List.set_cons_zero, List.set_cons_succ]
              refine wpAnyH_ready (rs := [13, 15]) (by kernel_rfl) (by simp) (AllReadyH.cons (o := ?on74) ?en74 (fun K hK => ?kn74) (AllReadyH.cons (o := ?on75) ?en75 (fun K hK => ?kn75) (AllReadyH.nil)))
              case en74 => (simp only [List.getElem?_toArray, List.getElem?_cons_zero, List.getElem?_cons_succ]; rfl)
              case en75 => (simp only [List.getElem?_toArray, List.getElem?_cons_zero, List.getElem?_cons_succ]; rfl)
              case kn74 =>
                refine step_app0 rfl _ _ rfl _ _ _ rfl rfl ?_
                refine hK.out _ _ (SF.out Vn72 BVn72.out XVn72.out) (fun _ => ?_)
                clear hK K
                try simp only [Act.put, List.setIfInBounds_toArray, List.set_cons_zero, List.set_cons_succ]
                refine wpAnyH_ready (rs := [15]) (by kernel_rfl) (by simp) (AllReadyH.cons (o := ?on76) ?en76 (fun K hK => ?kn76) (AllReadyH.nil))
                case en76 => (simp only [List.getElem?_toArray, List.getElem?_cons_zero, List.getElem?_cons_succ]; rfl)
                case kn76 =>
                  go_simp
                  obtain ⟨Vn76, hVn76⟩ : ∃ V', V' = Vn72.alloc (ObV v1 v2 v3) := ⟨_, rfl⟩
                  have qVn76 : Below Vn72.heap.size Vn72 Vn76 := by rw [hVn76]; exact (Below.refl _ _).alloc (Nat.le_refl _) _
                  have BVn76 := Lib.hid (BVn72.out.trans (qVn76.mono BVn72.out.size))
                  have XVn76 := Lib.hid ((qVn76.block w.heap.size (by have := ZVn72.out; omega)).trans XVn72.out)
                  have ZVn76 : Hid (w.heap.size + 1 ≤ Vn76.heap.size) := Nat.le_trans ZVn72.out qVn76.size
                  have OVn76 : Hid (Vn76.heap[Vn72.heap.size]? = some (ObV v1 v2 v3)) := by rw [hVn76]; exact heap_alloc_new Vn72 _
                  have EVn76 := Lib.hid (EVn72.out.go qVn76)
                  have NEVn76 : Hid (Vn72.heap.size ≠ V9.heap.size) := Nat.ne_of_gt (EVn72.out.lt _ rfl).2
                  clear qVn76
                  rw [← hVn76]
                  clear hVn76
                  refine hK.out _ _ (SF.out Vn76 BVn76.out XVn76.out) (fun _ => ?_)
                  clear hK K
                  try simp only [Act.put, List.setIfInBounds_toArray, List.set_cons_zero, List.set_cons_succ]
                  refine wpAnyH_ready (rs := [16]) (by kernel_rfl) (by simp) (AllReadyH.cons (o := ?on77) ?en77 (fun K hK => ?kn77) (AllReadyH.nil))
                  case en77 => (simp only [List.getElem?_toArray, List.getElem?_cons_zero, List.getElem?_cons_succ]; rfl)
                  case kn77 =>
                    refine step_append_lies _ rfl _ _ 71 rfl (w.heap.size + 1) 89 i0 _ 3 32 Try.underlying71 hi hz0 hz1 hz2 rfl (by decide) _ _ _ rfl EVn76.out ⟨Vn72.heap.size, 0, none⟩ 1 1 (encV (v1, v2, v3)) rfl rfl (enc_cell OVn76.out) (enc_ok _) (by decide) D3.out D4.out ZVn76.out _ rfl ?_
                    intro gVn77 cVn77 Vn77 hown hgrow _ _
                    have BVn77 := Lib.hid (BVn76.out.grown hgrow BVn76.out.size (fun k hk => by have := (EVn76.out.lt k hk).1; omega))
                    have XVn77 : Hid (Vn77.heap[w.heap.size]? = some (.cells #[.int .i64 v1, .string v2, .bool v3] 89 (0, 0))) := (hgrow.block w.heap.size (by have := ZVn76.out; omega) (fun e => by have := (EVn76.out.lt _ e.symm).1; omega)).trans XVn76.out
                    have EVn77 : Hid (OwV 89 (w.heap.size + 1) (.slice (some ⟨gVn77, 0, none⟩) (0 + 1) cVn77) ([] ++ [(v1, v2, v3)]) Vn77) := own_snoc (l := []) hown
                    have FIVn77 := Lib.hid (HFINI.out Vn77 gVn77 cVn77 (EVn77.out.mono (Nat.le_succ _)) BVn77.out)
                    clear hown hgrow
                    refine hK.out _ _ (SF.out Vn77 BVn77.out XVn77.out) (fun _ => ?_)
                    clear hK K
                    try simp only [Act.put, List.setIfInBounds_toArray, List.set_cons_zero, List.set_cons_succ]
                    refine wpAnyH_take (i := 17) (oi := ?o17r79) (v := ?v17r79) ?e17r79 ?a17r79 ?b17r79 ?c17r79 ?q17r79 (Or.inl ⟨?w17r79, ?h17r79⟩) ?s17r79 ?r17r79
                    case e17r79 => (simp only [List.getElem?_toArray, List.getElem?_cons_zero, List.getElem?_cons_succ]; rfl)
                    case a17r79 => kernel_rfl
                    case b17r79 => kernel_rfl
                    case c17r79 => kernel_rfl
                    case q17r79 => exact fun _ _ _ h => h
                    case w17r79 => rfl
                    case s17r79 => assumption
                    case h17r79 => (intro W hSw; obtain ⟨a5, abx⟩ := hSw; obtain ⟨ab0, ab1, ab2⟩ := Cn.cells3 abx; go_simp; try with_reducible rfl)
                    try simp only [Act.put, List.setIfInBounds_toArray, List.set_cons_zero, List.set_cons_succ]
                    refine wpAnyH_ready (rs := [18]) (by kernel_rfl) (by simp) (AllReadyH.cons (o := ?on78) ?en78 (fun K hK => ?kn78) (AllReadyH.nil))
                    case en78 => (simp only [List.getElem?_toArray, List.getElem?_cons_zero, List.getElem?_cons_succ]; rfl)
                    case kn78 =>
                      have ec := (HKV.out Vn77 BVn77.out).2
                      have ef := frzC BVn77.out
                      go_simp
                      clear ec ef
                      refine hK.out _ _ ⟨?_, ?_⟩ (fun _ => ?_)
                      · rw [World.cell?_of_block (w := Vn77) (a := ⟨r, 5, none⟩) (set_oth Vn77 gC j _ (fun e => HGR.out e.symm))]; exact (HKV.out Vn77 BVn77.out).1
                      · exact (set_oth Vn77 gC j _ (by omega)).trans XVn77.out
                      clear hK K
                      try simp only [Act.put, List.setIfInBounds_toArray, List.set_cons_zero, List.set_cons_succ]
                      refine wpAnyH_done (by kernel_rfl) ?_ _
                      go_wp2
                      (try simp only [Exit.inBlock, Exit.then])
                      refine bodyPost_ret (results_none rfl _ _ _) rfl ?_
                      exact ⟨rfl, FIVn77.out⟩
              case kn75 =>
                go_simp
                obtain ⟨Vn75, hVn75⟩ : ∃ V', V' = Vn72.alloc (ObV v1 v2 v3) := ⟨_, rfl⟩
                have qVn75 : Below Vn72.heap.size Vn72 Vn75 := by rw [hVn75]; exact (Below.refl _ _).alloc (Nat.le_refl _) _
                have BVn75 := Lib.hid (BVn72.out.trans (qVn75.mono BVn72.out.size))
                have XVn75 := Lib.hid ((qVn75.block w.heap.size (by have := ZVn72.out; omega)).trans XVn72.out)
                have ZVn75 : Hid (w.heap.size + 1 ≤ Vn75.heap.size) := Nat.le_trans ZVn72.out qVn75.size
                have OVn75 : Hid (Vn75.heap[Vn72.heap.size]? = some (ObV v1 v2 v3)) := by rw [hVn75]; exact heap_alloc_new Vn72 _
                have EVn75 := Lib.hid (EVn72.out.go qVn75)
                have NEVn75 : Hid (Vn72.heap.size ≠ V9.heap.size) := Nat.ne_of_gt (EVn72.out.lt _ rfl).2
                clear qVn75
                rw [← hVn75]
                clear hVn75
                refine hK.out _ _ (SF.out Vn75 BVn75.out XVn75.out) (fun _ => ?_)
                clear hK K
                try simp only [Act.put, List.setIfInBounds_toArray, List.set_cons_zero, List.set_cons_succ]
                refine wpAnyH_ready (rs := [13]) (by kernel_rfl) (by simp) (AllReadyH.cons (o := ?on80) ?en80 (fun K hK => ?kn80) (AllReadyH.nil))
                case en80 => (simp only [List.getElem?_toArray, List.getElem?_cons_zero, List.getElem?_cons_succ]; rfl)
                case kn80 =>
                  refine step_app0 rfl _ _ rfl _ _ _ rfl rfl ?_
                  refine hK.out _ _ (SF.out Vn75 BVn75.out XVn75.out) (fun _ => ?_)
                  clear hK K
                  try simp only [Act.put, List.setIfInBounds_toArray, List.set_cons_zero, List.set_cons_succ]
                  refine wpAnyH_ready (rs := [16]) (by kernel_rfl) (by simp) (AllReadyH.cons (o := ?on81) ?en81 (fun K hK => ?kn81) (AllReadyH.nil))
                  case en81 => (simp only [List.getElem?_toArray, List.getElem?_cons_zero, List.getElem?_cons_succ]; rfl)
                  case kn81 =>
                    refine step_append_lies _ rfl _ _ 71 rfl (w.heap.size + 1) 89 i0 _ 3 32 Try.underlying71 hi hz0 hz1 hz2 rfl (by decide) _ _ _ rfl EVn75.out ⟨Vn72.heap.size, 0, none⟩ 1 1 (encV (v1, v2, v3)) rfl rfl (enc_cell OVn75.out) (enc_ok _) (by decide) D3.out D4.out ZVn75.out _ rfl ?_
                    intro gVn81 cVn81 Vn81 hown hgrow _ _
                    have BVn81 := Lib.hid (BVn75.out.grown hgrow BVn75.out.size (fun k hk => by have := (EVn75.out.lt k hk).1; omega))
                    have XVn81 : Hid (Vn81.heap[w.heap.size]? = some (.cells #[.int .i64 v1, .string v2, .bool v3] 89 (0, 0))) := (hgrow.block w.heap.size (by have := ZVn75.out; omega) (fun e => by have := (EVn75.out.lt _ e.symm).1; omega)).trans XVn75.out
                    have EVn81 : Hid (OwV 89 (w.heap.size + 1) (.slice (some ⟨gVn81, 0, none⟩) (0 + 1) cVn81) ([] ++ [(v1, v2, v3)]) Vn81) := own_snoc (l := []) hown
                    have FIVn81 := Lib.hid (HFINI.out Vn81 gVn81 cVn81 (EVn81.out.mono (Nat.le_succ _)) BVn81.out)
                    clear hown hgrow
                    refine hK.out _ _ (SF.out Vn81 BVn81.out XVn81.out) (fun _ => ?_)
                    clear hK K
                    try simp only [Act.put, List.setIfInBounds_toArray, List.set_cons_zero, List.set_cons_succ]
                    refine wpAnyH_take (i := 17) (oi := ?o17r83) (v := ?v17r83) ?e17r83 ?a17r83 ?b17r83 ?c17r83 ?q17r83 (Or.inl ⟨?w17r83, ?h17r83⟩) ?s17r83 ?r17r83
                    case e17r83 => (simp only [List.getElem?_toArray, List.getElem?_cons_zero, List.getElem?_cons_succ]; rfl)
                    case a17r83 => kernel_rfl
                    case b17r83 => kernel_rfl
                    case c17r83 => kernel_rfl
                    case q17r83 => exact fun _ _ _ h => h
                    case w17r83 => rfl
                    case s17r83 => assumption
                    case h17r83 => (intro W hSw; obtain ⟨a5, abx⟩ := hSw; obtain ⟨ab0, ab1, ab2⟩ := Cn.cells3 abx; go_simp; try with_reducible rfl)
                    try simp only [Act.put, List.setIfInBounds_toArray, List.set_cons_zero, List.set_cons_succ]
                    refine wpAnyH_ready (rs := [18]) (by kernel_rfl) (by simp) (AllReadyH.cons (o := ?on82) ?en82 (fun K hK => ?kn82) (AllReadyH.nil))
                    case en82 => (simp only [List.getElem?_toArray, List.getElem?_cons_zero, List.getElem?_cons_succ]; rfl)
                    case kn82 =>
                      have ec := (HKV.out Vn81 BVn81.out).2
                      have ef := frzC BVn81.out
                      go_simp
                      clear ec ef
                      refine hK.out _ _ ⟨?_, ?_⟩ (fun _ => ?_)
                      · rw [World.cell?_of_block (w := Vn81) (a := ⟨r, 5, none⟩) (set_oth Vn81 gC j _ (fun e => HGR.out e.symm))]; exact (HKV.out Vn81 BVn81.out).1
                      · exact (set_oth Vn81 gC j _ (by omega)).trans XVn81.out
                      clear hK K
                      try simp only [Act.put, List.setIfInBounds_toArray, List.set_cons_zero, List.set_cons_succ]
                      refine wpAnyH_done (by kernel_rfl) ?_ _
                      go_wp2
                      (try simp only [Exit.inBlock, Exit.then])
                      refine bodyPost_ret (results_none rfl _ _ _) rfl ?_
                      exact ⟨rfl, FIVn81.out⟩
            case kn73 =>
              go_simp
              obtain ⟨Vn73, hVn73⟩ : ∃ V', V' = V9.alloc (ObV v1 v2 v3) := ⟨_, rfl⟩
              have qVn73 : Below V9.heap.size V9 Vn73 := by rw [hVn73]; exact (Below.refl _ _).alloc (Nat.le_refl _) _
              have BVn73 := Lib.hid (B9.out.trans (qVn73.mono B9.out.size))
              have XVn73 := Lib.hid ((qVn73.block w.heap.size (by have := Z9.out; omega)).trans X9.out)
              have ZVn73 : Hid (w.heap.size + 1 ≤ Vn73.heap.size) := Nat.le_trans Z9.out qVn73.size
              have OVn73 : Hid (Vn73.heap[V9.heap.size]? = some (ObV v1 v2 v3)) := by rw [hVn73]; exact heap_alloc_new V9 _
              clear qVn73
              rw [← hVn73]
              clear hVn73
              refine hK.out _ _ (SF.out Vn73 BVn73.out XVn73.out) (fun _ => ?_)
              clear hK K
              try simp only [Act.put, List.setIfInBounds_toArray, List.set_cons_zero, List.set_cons_succ]
              refine wpAnyH_ready (rs := [5]) (by kernel_rfl) (by simp) (AllReadyH.cons (o := ?on84) ?en84 (fun K hK => ?kn84) (AllReadyH.nil))
              case en84 => (simp only [List.getElem?_toArray, List.getElem?_cons_zero, List.getElem?_cons_succ]; rfl)
              case kn84 =>
                go_simp
                obtain ⟨Vn84, hVn84⟩ : ∃ V', V' = Vn73.alloc ObE := ⟨_, rfl⟩
                have qVn84 : Below Vn73.heap.size Vn73 Vn84 := by rw [hVn84]; exact (Below.refl _ _).alloc (Nat.le_refl _) _
                have BVn84 := Lib.hid (BVn73.out.trans (qVn84.mono BVn73.out.size))
                have XVn84 := Lib.hid ((qVn84.block w.heap.size (by have := ZVn73.out; omega)).trans XVn73.out)
                have ZVn84 : Hid (w.heap.size + 1 ≤ Vn84.heap.size) := Nat.le_trans ZVn73.out qVn84.size
                have EVn84 : Hid (OwV 89 (w.heap.size + 1) (.slice (some ⟨Vn73.heap.size, 0, none⟩) 0 0) [] Vn84) := by rw [hVn84]; exact own_e Vn73 _ ZVn73.out
                have OVn84 := Lib.hid ((qVn84.block _ (Array.getElem?_eq_some_iff.1 OVn73.out).1).trans OVn73.out)
                have NEVn84 : Hid (V9.heap.size ≠ Vn73.heap.size) := Nat.ne_of_lt (Array.getElem?_eq_some_iff.1 OVn73.out).1
                clear qVn84
                rw [← hVn84]
                clear hVn84
                refine hK.out _ _ (SF.out Vn84 BVn84.out XVn84.out) (fun _ => ?_)
                clear hK K
                try simp only [Act.put, List.setIfInBounds_toArray, List.set_cons_zero, List.set_cons_succ]
                refine wpAnyH_ready (rs := [13]) (by kernel_rfl) (by simp) (AllReadyH.cons (o := ?on85) ?en85 (fun K hK => ?kn85) (AllReadyH.nil))
                case en85 => (simp only [List.getElem?_toArray, List.getElem?_cons_zero, List.getElem?_cons_succ]; rfl)
                case kn85 =>
                  refine step_app0 rfl _ _ rfl _ _ _ rfl rfl ?_
                  refine hK.out _ _ (SF.out Vn84 BVn84.out XVn84.out) (fun _ => ?_)
                  clear hK K
                  try simp only [Act.put, List.setIfInBounds_toArray, List.set_cons_zero, List.set_cons_succ]
                  refine wpAnyH_ready (rs := [16]) (by kernel_rfl) (by simp) (AllReadyH.cons (o := ?on86) ?en86 (fun K hK => ?kn86) (AllReadyH.nil))
                  case en86 => (simp only [List.getElem?_toArray, List.getElem?_cons_zero, List.getElem?_cons_succ]; rfl)
                  case kn86 =>
                    refine step_append_lies _ rfl _ _ 71 rfl (w.heap.size + 1) 89 i0 _ 3 32 Try.underlying71 hi hz0 hz1 hz2 rfl (by decide) _ _ _ rfl EVn84.out ⟨V9.heap.size, 0, none⟩ 1 1 (encV (v1, v2, v3)) rfl rfl (enc_cell OVn84.out) (enc_ok _) (by decide) D3.out D4.out ZVn84.out _ rfl ?_
                    intro gVn86 cVn86 Vn86 hown hgrow _ _
                    have BVn86 := Lib.hid (BVn84.out.grown hgrow BVn84.out.size (fun k hk => by have := (EVn84.out.lt k hk).1; omega))
                    have XVn86 : Hid (Vn86.heap[w.heap.size]? = some (.cells #[.int .i64 v1, .string v2, .bool v3] 89 (0, 0))) := (hgrow.block w.heap.size (by have := ZVn84.out; omega) (fun e => by have := (EVn84.out.lt _ e.symm).1; omega)).trans XVn84.out
                    have EVn86 : Hid (OwV 89 (w.heap.size + 1) (.slice (some ⟨gVn86, 0, none⟩) (0 + 1) cVn86) ([] ++ [(v1, v2, v3)]) Vn86) := own_snoc (l := []) hown
                    have FIVn86 := Lib.hid (HFINI.out Vn86 gVn86 cVn86 (EVn86.out.mono (Nat.le_succ _)) BVn86.out)
                    clear hown hgrow
                    refine hK.out _ _ (SF.out Vn86 BVn86.out XVn86.out) (fun _ => ?_)
                    clear hK K
                    try simp only [Act.put, List.setIfInBounds_toArray, List.set_cons_zero, List.set_cons_succ]
                    refine wpAnyH_take (i := 17) (oi := ?o17r88) (v := ?v17r88) ?e17r88 ?a17r88 ?b17r88 ?c17r88 ?q17r88 (Or.inl ⟨?w17r88, ?h17r88⟩) ?s17r88 ?r17r88
                    case e17r88 => (simp only [List.getElem?_toArray, List.getElem?_cons_zero, List.getElem?_cons_succ]; rfl)
                    case a17r88 => kernel_rfl
                    case b17r88 => kernel_rfl
                    case c17r88 => kernel_rfl
                    case q17r88 => exact fun _ _ _ h => h
                    case w17r88 => rfl
                    case s17r88 => assumption
                    case h17r88 => (intro W hSw; obtain ⟨a5, abx⟩ := hSw; obtain ⟨ab0, ab1, ab2⟩ := Cn.cells3 abx; go_simp; try with_reducible rfl)
                    try simp only [Act.put, List.setIfInBounds_toArray, List.set_cons_zero, List.set_cons_succ]
                    refine wpAnyH_ready (rs := [18]) (by kernel_rfl) (by simp) (AllReadyH.cons (o := ?on87) ?en87 (fun K hK => ?kn87) (AllReadyH.nil))
                    case en87 => (simp only [List.getElem?_toArray, List.getElem?_cons_zero, List.getElem?_cons_succ]; rfl)
                    case kn87 =>
                      have ec := (HKV.out Vn86 BVn86.out).2
                      have ef := frzC BVn86.out
                      go_simp
                      clear ec ef
                      refine hK.out _ _ ⟨?_, ?_⟩ (fun _ => ?_)
                      · rw [World.cell?_of_block (w := Vn86) (a := ⟨r, 5, none⟩) (set_oth Vn86 gC j _ (fun e => HGR.out e.symm))]; exact (HKV.out Vn86 BVn86.out).1
                      · exact (set_oth Vn86 gC j _ (by omega)).trans XVn86.out
                      clear hK K
                      try simp only [Act.put, List.setIfInBounds_toArray, List.set_cons_zero, List.set_cons_succ]
                      refine wpAnyH_done (by kernel_rfl) ?_ _
                      go_wp2
                      (try simp only [Exit.inBlock, Exit.then])
                      refine bodyPost_ret (results_none rfl _ _ _) rfl ?_
                      exact ⟨rfl, FIVn86.out⟩
          case kn54 =>
            go_simp
            obtain ⟨Vn54, hVn54⟩ : ∃ V', V' = V9.alloc (ObV v1 v2 v3) := ⟨_, rfl⟩
            have qVn54 : Below V9.heap.size V9 Vn54 := by rw [hVn54]; exact (Below.refl _ _).alloc (Nat.le_refl _) _
            have BVn54 := Lib.hid (B9.out.trans (qVn54.mono B9.out.size))
            have XVn54 := Lib.hid ((qVn54.block w.heap.size (by have := Z9.out; omega)).trans X9.out)
            have ZVn54 : Hid (w.heap.size + 1 ≤ Vn54.heap.size) := Nat.le_trans Z9.out qVn54.size
            have OVn54 : Hid (Vn54.heap[V9.heap.size]? = some (ObV v1 v2 v3)) := by rw [hVn54]; exact heap_alloc_new V9 _
            clear qVn54
            rw [← hVn54]
            clear hVn54
            refine hK.out _ _ (SF.out Vn54 BVn54.out XVn54.out) (fun _ => ?_)
            clear hK K
            try simp only [Act.put, List.setIfInBounds_toArray, List.set_cons_zero, List.set_cons_succ]
            refine wpAnyH_ready (rs := [5, 12]) (by kernel_rfl) (by simp) (AllReadyH.cons (o := ?on89) ?en89 (fun K hK => ?kn89) (AllReadyH.cons (o := ?on90) ?en90 (fun K hK => ?kn90) (AllReadyH.nil)))
            case en89 => (simp only [List.getElem?_toArray, List.getElem?_cons_zero, List.getElem?_cons_succ]; rfl)
            case en90 => (simp only [List.getElem?_toArray, List.getElem?_cons_zero, List.getElem?_cons_succ]; rfl)
            case kn89 =>
              go_simp
              obtain ⟨Vn89, hVn89⟩ : ∃ V', V' = Vn54.alloc ObE := ⟨_, rfl⟩
              have qVn89 : Below Vn54.heap.size Vn54 Vn89 := by rw [hVn89]; exact (Below.refl _ _).alloc (Nat.le_refl _) _
              have BVn89 := Lib.hid (BVn54.out.trans (qVn89.mono BVn54.out.size))
              have XVn89 := Lib.hid ((qVn89.block w.heap.size (by have := ZVn54.out; omega)).trans XVn54.out)
              have ZVn89 : Hid (w.heap.size + 1 ≤ Vn89.heap.size) := Nat.le_trans ZVn54.out qVn89.size
              have EVn89 : Hid (OwV 89 (w.heap.size + 1) (.slice (some ⟨Vn54.heap.size, 0, none⟩) 0 0) [] Vn89) := by rw [hVn89]; exact own_e Vn54 _ ZVn54.out
              have OVn89 := Lib.hid ((qVn89.block _ (Array.getElem?_eq_some_iff.1 OVn54.out).1).trans OVn54.out)
              have NEVn89 : Hid (V9.heap.size ≠ Vn54.heap.size) := Nat.ne_of_lt (Array.getElem?_eq_some_iff.1 OVn54.out).1
              clear qVn89
              rw [← hVn89]
              clear hVn89
              refine hK.out _ _ (SF.out Vn89 BVn89.out XVn89.out) (fun _ => ?_)
              clear hK K
              try simp only [Act.put, List.setIfInBounds_toArray, List.set_cons_zero, List.set_cons_succ]
              refine wpAnyH_ready (rs := [12]) (by kernel_rfl) (by simp) (AllReadyH.cons (o := ?on91) ?en91 (fun K hK => ?kn91) (AllReadyH.nil))
              case en91 => (simp only [List.getElem?_toArray, List.getElem?_cons_zero, List.getElem?_cons_succ]; rfl)
              case kn91 =>
                have ec := (HKV.out Vn89 BVn89.out).2
                go_simp
                clear ec
                refine hK.out _ _ (SF.out Vn89 BVn89.out XVn89.out) (fun _ => ?_)
                clear hK K
                try simp only [Act.put, List.setIfInBounds_toArray, List.set_cons_zero, List.set_cons_succ]
                refine wpAnyH_ready (rs := [13]) (by kernel_rfl) (by simp) (AllReadyH.cons (o := ?on92) ?en92 (fun K hK => ?kn92) (AllReadyH.nil))
                case en92 => (simp only [List.getElem?_toArray, List.getElem?_cons_zero, List.getElem?_cons_succ]; rfl)
                case kn92 =>
                  refine step_app0 rfl _ _ rfl _ _ _ rfl rfl ?_
                  refine hK.out _ _ (SF.out Vn89 BVn89.out XVn89.out) (fun _ => ?_)
                  clear hK K
                  try simp only [Act.put, List.setIfInBounds_toArray, List.set_cons_zero, List.set_cons_succ]
                  refine wpAnyH_ready (rs := [16]) (by kernel_rfl) (by simp) (AllReadyH.cons (o := ?on93) ?en93 (fun K hK => ?kn93) (AllReadyH.nil))
                  case en93 => (simp only [List.getElem?_toArray, List.getElem?_cons_zero, List.getElem?_cons_succ]; rfl)
                  case kn93 =>
                    refine step_append_lies _ rfl _ _ 71 rfl (w.heap.size + 1) 89 i0 _ 3 32 Try.underlying71 hi hz0 hz1 hz2 rfl (by decide) _ _ _ rfl EVn89.out ⟨V9.heap.size, 0, none⟩ 1 1 (encV (v1, v2, v3)) rfl rfl (enc_cell OVn89.out) (enc_ok _) (by decide) D3.out D4.out ZVn89.out _ rfl ?_
                    intro gVn93 cVn93 Vn93 hown hgrow _ _
                    have BVn93 := Lib.hid (BVn89.out.grown hgrow BVn89.out.size (fun k hk => by have := (EVn89.out.lt k hk).1; omega))
                    have XVn93 : Hid (Vn93.heap[w.heap.size]? = some (.cells #[.int .i64 v1, .string v2, .bool v3] 89 (0, 0))) := (hgrow.block w.heap.size (by have := ZVn89.out; omega) (fun e => by have := (EVn89.out.lt _ e.symm).1; omega)).trans XVn89.out
                    have EVn93 : Hid (OwV 89 (w.heap.size + 1) (.slice (some ⟨gVn93, 0, none⟩) (0 + 1) cVn93) ([] ++ [(v1, v2, v3)]) Vn93) := own_snoc (l := []) hown
                    have FIVn93 := Lib.hid (HFINI.out Vn93 gVn93 cVn93 (EVn93.out.mono (Nat.le_succ _)) BVn93.out)
                    clear hown hgrow
                    refine hK.out _ _ (SF.out Vn93 BVn93.out XVn93.out) (fun _ => ?_)
                    clear hK K
                    try simp only [Act.put, List.setIfInBounds_toArray, List.set_cons_zero, List.set_cons_succ]
                    refine wpAnyH_take (i := 17) (oi := ?o17r95) (v := ?v17r95) ?e17r95 ?a17r95 ?b17r95 ?c17r95 ?q17r95 (Or.inl ⟨?w17r95, ?h17r95⟩) ?s17r95 ?r17r95
                    case e17r95 => (simp only [List.getElem?_toArray, List.getElem?_cons_zero, List.getElem?_cons_succ]; rfl)
                    case a17r95 => kernel_rfl
                    case b17r95 => kernel_rfl
                    case c17r95 => kernel_rfl
                    case q17r95 => exact fun _ _ _ h => h
                    case w17r95 => rfl
                    case s17r95 => assumption
                    case h17r95 => (intro W hSw; obtain ⟨a5, abx⟩ := hSw; obtain ⟨ab0, ab1, ab2⟩ := Cn.cells3 abx; go_simp; try with_reducible rfl)
                    try simp only [Act.put, List.setIfInBounds_toArray, List.set_cons_zero, List.set_cons_succ]
                    refine wpAnyH_ready (rs := [18]) (by kernel_rfl) (by simp) (AllReadyH.cons (o := ?on94) ?en94 (fun K hK => ?kn94) (AllReadyH.nil))
                    case en94 => (simp only [List.getElem?_toArray, List.getElem?_cons_zero, List.getElem?_cons_succ]; rfl)
                    case kn94 =>
                      have ec := (HKV.out Vn93 BVn93.out).2
                      have ef := frzC BVn93.out
                      go_simp
                      clear ec ef
                      refine hK.out _ _ ⟨?_, ?_⟩ (fun _ => ?_)
                      · rw [World.cell?_of_block (w := Vn93) (a := ⟨r, 5, none⟩) (set_oth Vn93 gC j _ (fun e => HGR.out e.symm))]; exact (HKV.out Vn93 BVn93.out).1
                      · exact (set_oth Vn93 gC j _ (by omega)).trans XVn93.out
                      clear hK K
                      try simp only [Act.put, List.setIfInBounds_toArray, List.set_cons_zero, List.set_cons_succ]
                      refine wpAnyH_done (by kernel_rfl) ?_ _
                      go_wp2
                      (try simp only [Exit.inBlock, Exit.then])
                      refine bodyPost_ret (results_none rfl _ _ _) rfl ?_
                      exact ⟨rfl, FIVn93.out⟩
            case kn90 =>
              have ec := (HKV.out Vn54 BVn54.out).2
              go_simp
              clear ec
              refine hK.out _ _ (SF.out Vn54 BVn54.out XVn54.out) (fun _ => ?_)
              clear hK K
              try simp only [Act.put, List.setIfInBounds_toArray, List.set_cons_zero, List.set_cons_succ]
              refine wpAnyH_ready (rs := [5]) (by kernel_rfl) (by simp) (AllReadyH.cons (o := ?on96) ?en96 (fun K hK => ?kn96) (AllReadyH.nil))
              case en96 => (simp only [List.getElem?_toArray, List.getElem?_cons_zero, List.getElem?_cons_succ]; rfl)
              case kn96 =>
                go_simp
                obtain ⟨Vn96, hVn96⟩ : ∃ V', V' = Vn54.alloc ObE := ⟨_, rfl⟩
                have qVn96 : Below Vn54.heap.size Vn54 Vn96 := by rw [hVn96]; exact (Below.refl _ _).alloc (Nat.le_refl _) _
                have BVn96 := Lib.hid (BVn54.out.trans (qVn96.mono BVn54.out.size))
                have XVn96 := Lib.hid ((qVn96.block w.heap.size (by have := ZVn54.out; omega)).trans XVn54.out)
                have ZVn96 : Hid (w.heap.size + 1 ≤ Vn96.heap.size) := Nat.le_trans ZVn54.out qVn96.size
                have EVn96 : Hid (OwV 89 (w.heap.size + 1) (.slice (some ⟨Vn54.heap.size, 0, none⟩) 0 0) [] Vn96) := by rw [hVn96]; exact own_e Vn54 _ ZVn54.out
                have OVn96 := Lib.hid ((qVn96.block _ (Array.getElem?_eq_some_iff.1 OVn54.out).1).trans OVn54.out)
                have NEVn96 : Hid (V9.heap.size ≠ Vn54.heap.size) := Nat.ne_of_lt (Array.getElem?_eq_some_iff.1 OVn54.out).1
                clear qVn96
                rw [← hVn96]
                clear hVn96
                refine hK.out _ _ (SF.out Vn96 BVn96.out XVn96.out) (fun _ => ?_)
                clear hK K
                try simp only [Act.put, List.setIfInBounds_toArray, List.set_cons_zero, List.set_cons_succ]
                refine wpAnyH_ready (rs := [13]) (by kernel_rfl) (by simp) (AllReadyH.cons (o := ?on97) ?en97 (fun K hK => ?kn97) (AllReadyH.nil))
                case en97 => (simp only [List.getElem?_toArray, List.getElem?_cons_zero, List.getElem?_cons_succ]; rfl)
                case kn97 =>
                  refine step_app0 rfl _ _ rfl _ _ _ rfl rfl ?_
                  refine hK.out _ _ (SF.out Vn96 BVn96.out XVn96.out) (fun _ => ?_)
                  clear hK K
                  try simp only [Act.put, List.setIfInBounds_toArray, List.set_cons_zero, List.set_cons_succ]
                  refine wpAnyH_ready (rs := [16]) (by kernel_rfl) (by simp) (AllReadyH.cons (o := ?on98) ?en98 (fun K hK => ?kn98) (AllReadyH.nil))
                  case en98 => (simp only [List.getElem?_toArray, List.getElem?_cons_zero, List.getElem?_cons_succ]; rfl)
                  case kn98 =>
                    refine step_append_lies _ rfl _ _ 71 rfl (w.heap.size + 1) 89 i0 _ 3 32 Try.underlying71 hi hz0 hz1 hz2 rfl (by decide) _ _ _ rfl EVn96.out ⟨V9.heap.size, 0, none⟩ 1 1 (encV (v1, v2, v3)) rfl rfl (enc_cell OVn96.out) (enc_ok _) (by decide) D3.out D4.out ZVn96.out _ rfl ?_
                    intro gVn98 cVn98 Vn98 hown hgrow _ _
                    have BVn98 := Lib.hid (BVn96.out.grown hgrow BVn96.out.size (fun k hk => by have := (EVn96.out.lt k hk).1; omega))
                    have XVn98 : Hid (Vn98.heap[w.heap.size]? = some (.cells #[.int .i64 v1, .string v2, .bool v3] 89 (0, 0))) := (hgrow.block w.heap.size (by have := ZVn96.out; omega) (fun e => by have := (EVn96.out.lt _ e.symm).1; omega)).trans XVn96.out
                    have EVn98 : Hid (OwV 89 (w.heap.size + 1) (.slice (some ⟨gVn98, 0, none⟩) (0 + 1) cVn98) ([] ++ [(v1, v2, v3)]) Vn98) := own_snoc (l := []) hown
                    have FIVn98 := Lib.hid (HFINI.out Vn98 gVn98 cVn98 (EVn98.out.mono (Nat.le_succ _)) BVn98.out)
                    clear hown hgrow
                    refine hK.out _ _ (SF.out Vn98 BVn98.out XVn98.out) (fun _ => ?_)
                    clear hK K
                    try simp only [Act.put, List.setIfInBounds_toArray, List.set_cons_zero, List.set_cons_succ]
                    refine wpAnyH_take (i := 17) (oi := ?o17r100) (v := ?v17r100) ?e17r100 ?a17r100 ?b17r100 ?c17r100 ?q17r100 (Or.inl ⟨?w17r100, ?h17r100⟩) ?s17r100 ?r17r100
                    case e17r100 => (simp only [List.getElem?_toArray, List.getElem?_cons_zero, List.getElem?_cons_succ]; rfl)
                    case a17r100 => kernel_rfl
                    case b17r100 => kernel_rfl
                    case c17r100 => kernel_rfl
                    case q17r100 => exact fun _ _ _ h => h
                    case w17r100 => rfl
                    case s17r100 => assumption
                    case h17r100 => (intro W hSw; obtain ⟨a5, abx⟩ := hSw; obtain ⟨ab0, ab1, ab2⟩ := Cn.cells3 abx; go_simp; try with_reducible rfl)
                    try simp only [Act.put, List.setIfInBounds_toArray, List.set_cons_zero, List.set_cons_succ]
                    refine wpAnyH_ready (rs := [18]) (by kernel_rfl) (by simp) (AllReadyH.cons (o := ?on99) ?en99 (fun K hK => ?kn99) (AllReadyH.nil))
                    case en99 => (simp only [List.getElem?_toArray, List.getElem?_cons_zero, List.getElem?_cons_succ]; rfl)
                    case kn99 =>
                      have ec := (HKV.out Vn98 BVn98.out).2
                      have ef := frzC BVn98.out
                      go_simp
                      clear ec ef
                      refine hK.out _ _ ⟨?_, ?_⟩ (fun _ => ?_)
                      · rw [World.cell?_of_block (w := Vn98) (a := ⟨r, 5, none⟩) (set_oth Vn98 gC j _ (fun e => HGR.out e.symm))]; exact (HKV.out Vn98 BVn98.out).1
                      · exact (set_oth Vn98 gC j _ (by omega)).trans XVn98.out
                      clear hK K
                      try simp only [Act.put, List.setIfInBounds_toArray, List.set_cons_zero, List.set_cons_succ]
                      refine wpAnyH_done (by kernel_rfl) ?_ _
                      go_wp2
                      (try simp only [Exit.inBlock, Exit.then])
                      refine bodyPost_ret (results_none rfl _ _ _) rfl ?_
                      exact ⟨rfl, FIVn98.out⟩
    · have hjl : ¬ (j : Int) < (n : Int) := by omega
      have hjn : j = n := by omega
      have hkn : key.data.toList ∉ Ns := fun hm => by
        obtain ⟨k, hk, e⟩ := List.mem_iff_getElem.1 hm
        exact HNO.out k (by have := HN.out; omega) hk e
      have HKN := Lib.hid hkn
      obtain ⟨i1, hi0, hi1, hi2, hi3⟩ := info_parts infoSt
      obtain ⟨i2, hj0, hj1, hj2, hj3⟩ := info_parts infoR2
      have h3w : wr.ownsRow 0 9 1 (.slice aN n capN) n (Ns.map encStr) := own_go H3.out HB0.out
      obtain ⟨WB, hWB, hkB, hbB⟩ : ∃ W, W = wr.alloc (.cells #[.string key] 9) ∧ W.heap[wr.heap.size]? = some (.cells #[.string key] 9 (0, 0)) ∧ Below wr.heap.size wr W := ⟨_, rfl, heap_alloc_new wr _, (Below.refl _ _).alloc (Nat.le_refl _) _⟩
      have HWB := Lib.hid hWB
      have HOB := Lib.hid (own_go h3w hbB)
      have HBB := Lib.hid (HB0.out.trans (hbB.mono HB0.out.size))
      have HXB := Lib.hid ((hbB.block w.heap.size hzW).trans HK0.out)
      have HCB : Hid (∀ i u, ([.string key] : List Value)[i]? = some u → WB.cell? ((⟨wr.heap.size, 0, none⟩ : Addr).add i) = some u) := World.news_of_block (cs := #[.string key]) hkB
      have D1 : Hid (n + 1 ≤ maxLen) := by show _ ≤ _; unfold maxLen; omega
      have D2 : Hid ((n + 1) * 16 ≤ 140737488355328) := by show _ ≤ _; omega
      have D3 : Hid (n + 1 ≤ maxLen) := by show _ ≤ _; unfold maxLen; omega
      have D4 : Hid ((n + 1) * 24 ≤ 140737488355328) := by show _ ≤ _; omega
      have hsB := (HBB.out.block r hrl).trans H1.out
      obtain ⟨e0, e1, e2, e3, e4, e5⟩ := cells6 hsB
      have HSB := Lib.hid hsB
      have hbl : w.heap.size < WB.heap.size := (Array.getElem?_eq_some_iff.1 HXB.out).1
      clear hWB hkB hbB hsB h3w hkn
      go_wp2_with (at_builtin; rw [← HWB.out]; refine wpList_append_lies _ rfl _ _ 35 rfl 0 9 i1 _ 1 16 Try.underlying35 hi0 hi1 hi2 hi3 rfl (by decide) _ _ _ rfl HOB.out ⟨wr.heap.size, 0, none⟩ 1 1 [.string key] rfl rfl HCB.out (by simp [Value.oneCell']) (by decide) D1.out D2.out (Nat.zero_le _) _ rfl ?_)
      intro gN2 capN2 wN hown hgrow hat0 _
      have hRN := (hgrow.block r (by have := hbl; omega) (fun e => row_store HOB.out HSB.out (by decide) e.symm)).trans HSB.out
      have hXN := (hgrow.block w.heap.size (by have := hbl; omega) (fun e => row_store HOB.out HXB.out (by decide) e.symm)).trans HXB.out
      have hfz := frz hRN 4
      have HRN := Lib.hid hRN
      have HXN := Lib.hid hXN
      have HON := Lib.hid hown
      have HGN := Lib.hid hgrow
      have HAT0 := Lib.hid hat0
      clear hown hgrow hXN hat0
      obtain ⟨f0, f1, f2, f3, f4, f5⟩ := cells6 hRN
      clear hRN e0 e1 e2 e3 e4 e5
      go_upto_region 8 with (fail)
      clear f0 f1 f2 f3 f4 f5 hfz c0 c1 c2 c3 c4 c5
      obtain ⟨VS, hVS⟩ : ∃ VS, VS = wN.setCell ⟨r, 4, none⟩ (.slice (some ⟨gN2, 0, none⟩) (n + 1) capN2) := ⟨_, rfl⟩
      rw [← hVS]
      have hS7 := (set6 HRN.out (.slice (some ⟨gN2, 0, none⟩) (n + 1) capN2)).1
      rw [← hVS] at hS7
      have hX7 : VS.heap[w.heap.size]? = some (.cells #[.int .i64 v1, .string v2, .bool v3] 89 (0, 0)) := by rw [hVS]; exact (set_oth wN r 4 _ (by omega)).trans HXN.out
      have h5n : w.ownsRow 0 71 1 vC n cs := by rw [← HCn.out]; exact H5.out
      obtain ⟨aC, capC, hvC⟩ := own_form h5n
      subst hvC
      have hNr := row_store HON.out HRN.out (by decide)
      have hONS := own_set_oth (i := 4) (u := .slice (some ⟨gN2, 0, none⟩) (n + 1) capN2) HON.out hNr
      rw [← hVS] at hONS
      have hCB := own_go h5n HBB.out
      have hCN := row_gr hCB HGN.out (fun g e1 e2 => rows_apart HOB.out hCB (by decide) e2 e1)
      have hCr := row_store hCN HRN.out (by decide)
      have hCS := own_set_oth (i := 4) (u := .slice (some ⟨gN2, 0, none⟩) (n + 1) capN2) hCN hCr
      rw [← hVS] at hCS
      have hFS : Fr (fun k => k = r ∨ (Value.slice aN n capN).ownBlock = some k) w VS := by
        rw [hVS]
        exact ((Fr.below (E := fun k => k = r ∨ (Value.slice aN n capN).ownBlock = some k) HBB.out).trans (fr_gr HGN.out) (fun k hk => .inl (.inr hk))).set _ (.inl rfl)
      obtain ⟨V7, hV7⟩ : ∃ V7, V7 = VS.drew := ⟨_, rfl⟩
      have b7 : Below VS.heap.size VS V7 := by rw [hV7]; exact bdr VS
      have hX7' : V7.heap[w.heap.size]? = some (.cells #[.int .i64 v1, .string v2, .bool v3] 89 (0, 0)) := (b7.block _ (Array.getElem?_eq_some_iff.1 hX7).1).trans hX7
      have hS7' := (b7.block r (Array.getElem?_eq_some_iff.1 hS7).1).trans hS7
      have hrl7 : r < V7.heap.size := (Array.getElem?_eq_some_iff.1 hS7').1
      have HX7 := Lib.hid hX7'
      have HRB := Lib.hid (fun (V : World) (hV : Below V7.heap.size V7 V) => (hV.block r hrl7).trans hS7')
      have HR5 := Lib.hid (fun (V : World) (hV : Below V7.heap.size V7 V) => (cells6 (HRB.out V hV)).2.2.2.2.2)
      have HRC := Lib.hid (own_go hCS b7)
      have HONS := Lib.hid (own_go hONS b7)
      have HFS := Lib.hid (hFS.trans (Fr.below (E := fun _ => False) b7) (fun _ h => h.elim))
      have hV7s := HFS.out.size
      have hX7l : w.heap.size < V7.heap.size := (Array.getElem?_eq_some_iff.1 hX7').1
      have HFIN2 : Hid (∀ (V N : World) (ob g c : Nat), Below V7.heap.size V7 V → V7.heap.size ≤ ob → V.heap[ob]? = some (ObV v1 v2 v3) → N.ownsRow 0 71 1 (.slice (some ⟨g, 0, none⟩) (n + 1) c) (n + 1) (cs ++ [.slice (some ⟨ob, 0, none⟩) 1 1]) → V.grownBy N (Value.slice aC n capC).ownBlock → ((Value.slice aC n capC).ownBlock = some g ∨ g = V.heap.size) → PuR F G r A kl vl fl Ns Cs key.data.toList (v1, v2, v3) w (N.setCell ⟨r, 5, none⟩ (.slice (some ⟨g, 0, none⟩) (n + 1) c))) := fun V N ob g c hV hob hO hown hgr hat => by
        have hob2 : ob < V.heap.size := (Array.getElem?_eq_some_iff.1 hO).1
        have hVs := hV.size
        have hrV := HRB.out V hV
        have hCV := own_go HRC.out hV
        have hrN := (hgr.block r (Array.getElem?_eq_some_iff.1 hrV).1 (fun e => row_store hCV hrV (by decide) e.symm)).trans hrV
        have hgr' := row_store hown hrN (by decide)
        have hON' := (hgr.block ob hob2 (fun e => row_store (cs := #[.int .i64 v1, .string v2, .bool v3]) (T2 := 89) hCV hO (by decide) e.symm)).trans hO
        have hgob := row_store (cs := #[.int .i64 v1, .string v2, .bool v3]) (T2 := 89) hown hON' (by decide)
        have hONV := own_go HONS.out hV
        have hONN := row_gr hONV hgr (fun g e1 e2 => rows_apart hCV hONV (by decide) e2 e1)
        have hNrN := row_store hONN hrN (by decide)
        have hf : Fr (fun k => k = r ∨ (Value.slice aN n capN).ownBlock = some k ∨ (Value.slice aC n capC).ownBlock = some k) w (N.setCell ⟨r, 5, none⟩ (.slice (some ⟨g, 0, none⟩) (n + 1) c)) :=
          Fr.set (Fr.trans (E' := fun k => (Value.slice aC n capC).ownBlock = some k) (Fr.trans (HFS.out.mono (fun k hk => hk.elim .inl (fun e => .inr (.inl e)))) (Fr.below (E := fun _ => False) hV) (fun _ h => h.elim)) (fr_gr hgr) (fun k hk => .inl (.inr (.inr hk)))) _ (.inl rfl)
        have h4 : ∀ g, (Value.slice aN n capN).ownBlock = some g → G g ∧ ¬ F g := by
          have := H4.out
          rw [HN.out] at this
          exact this
        have hne : ∀ k, F k → ¬ (k = r ∨ (Value.slice aN n capN).ownBlock = some k ∨ (Value.slice aC n capC).ownBlock = some k) := by
          rintro k hk (e | e | e)
          · exact HI.out.fr.2 (by rw [← e]; exact hk)
          · exact (h4 k e).2 hk
          · exact (H6.out k e).2 hk
        have hkn := HKN.out
        have hPN : putN Ns key.data.toList = Ns ++ [key.data.toList] := if_neg hkn
        have hPC : putC Ns Cs key.data.toList (v1, v2, v3) = Cs ++ [[(v1, v2, v3)]] := if_neg hkn
        have hrF := (set6 hrN (.slice (some ⟨g, 0, none⟩) (n + 1) c)).2
        have hup : ∀ k, F k → k < (N.setCell ⟨r, 5, none⟩ (.slice (some ⟨g, 0, none⟩) (n + 1) c)).heap.size → F k ∨ k = ob := fun k hk _ => .inl hk
        have hgN := (HONS.out.lt gN2 rfl).2
        have hnl := (H3.out.lt · )
        refine ⟨fun k => F k ∨ k = ob, ⟨⟨vA, _, _, cs ++ [.slice (some ⟨ob, 0, none⟩) 1 1], hrF, (H2.out.fr hf hne).up hup, ?_, ?_, ?_, ?_, ?_, ?_⟩, ?_, ?_⟩, hf.mono ?_, ?_⟩
        · rw [hPN, List.length_append, List.map_append, HN.out]
          exact own_set_oth hONN hNrN
        · intro g' e
          injection e with e
          have e : gN2 = g' := e
          subst e
          rcases HAT0.out with e2 | e2
          · exact ⟨.inl (h4 _ e2).1, fun hh => hh.elim (h4 _ e2).2 (fun e3 => by omega)⟩
          · have := HBB.out.size
            exact ⟨.inr (by omega), fun hh => hh.elim (fun h => by have := HFb.out _ h; omega) (fun e3 => by omega)⟩
        · rw [hPC, List.length_append, HCn.out]
          exact own_set_oth hown hgr'
        · intro g' e
          injection e with e
          have e : g = g' := e
          subst e
          have hgo : g ≠ ob := fun e => hgob (by rw [← e]; rfl)
          rcases hat with e2 | e2
          · exact ⟨.inl (H6.out _ e2).1, fun hh => hh.elim (H6.out _ e2).2 (fun e3 => hgo e3)⟩
          · exact ⟨.inr (by omega), fun hh => hh.elim (fun h => by have := HFb.out _ h; omega) (fun e3 => hgo e3)⟩
        · rw [hPC, List.length_append, List.length_append, H7.out]; rfl
        · intro i hi hj'
          simp only [hPC]
          by_cases hij : i < Cs.length
          · rw [List.getElem_append_left hij, List.getElem_append_left (by rw [H7.out]; exact hij)]
            exact (RdVF.fr (H8.out i _ _) hf hne).up hup
          · have hil : i = Cs.length := by
              rw [hPC, List.length_append] at hi
              simp at hi
              omega
            have hil2 : i = cs.length := by rw [H7.out]; exact hil
            subst hil
            rw [List.getElem_append_right (Nat.le_refl _), List.getElem_append_right (by omega)]
            simp only [Nat.sub_self, List.getElem_cons_zero, ← hil2]
            have hoF : (N.setCell ⟨r, 5, none⟩ (.slice (some ⟨g, 0, none⟩) (n + 1) c)).heap[ob]? = some (ObV v1 v2 v3) := (set_oth N r 5 _ (by omega)).trans hON'
            refine ⟨some ⟨ob, 0, none⟩, 1, rfl, fun _ => ⟨ob, 0, rfl, .inr rfl, (Array.getElem?_eq_some_iff.1 hoF).1, fun i hi => ?_⟩⟩
            obtain rfl : i = 0 := by simp at hi; omega
            exact ⟨cell_of_row _ _ 0 _ _ _ hoF, cell_of_row _ _ 1 _ _ _ hoF, cell_of_row _ _ 2 _ _ _ hoF⟩
        · exact ⟨.inl HI.out.fr.1, fun hh => hh.elim HI.out.fr.2 (fun e => by omega)⟩
        · exact fun k hk => hk.elim (fun h => .inl (HI.out.sub k h)) (fun e => .inr (by omega))
        · rintro k (e | e | e)
          · rw [e]; exact HI.out.fr.1
          · exact (h4 k e).1
          · exact (H6.out k e).1
        · exact fun k hk => hk.elim .inl (fun e => .inr (by omega))
      have hS0 : (fun V : World => V.heap[w.heap.size]? = some (.cells #[.int .i64 v1, .string v2, .bool v3] 89 (0, 0))) VS.drew := by rw [← hV7]; exact HX7.out
      have hVr : Below V7.heap.size V7 V7 := Below.refl _ _
      have HVr := Lib.hid hVr
      clear hS7 hX7 h5n hNr hONS hCB hCN hCr hCS hFS b7 hX7' hS7' hVS hVr
      refine wp_region_held_drew (S := (fun V : World => V.heap[w.heap.size]? = some (.cells #[.int .i64 v1, .string v2, .bool v3] 89 (0, 0)))) (by kernel_rfl) hS0 (fun hHeld => ?_)
      rw [← hV7] at hHeld ⊢
      clear hV7 hS0
      refine wpAnyH_take (i := 0) (oi := ?o0r101) (v := ?v0r101) ?e0r101 ?a0r101 ?b0r101 ?c0r101 ?q0r101 (Or.inl ⟨?w0r101, ?h0r101⟩) ?s0r101 ?r0r101
      case e0r101 => (simp only [List.getElem?_toArray, List.getElem?_cons_zero, List.getElem?_cons_succ]; rfl)
      case a0r101 => kernel_rfl
      case b0r101 => kernel_rfl
      case c0r101 => kernel_rfl
      case q0r101 => exact fun _ _ _ h => h
      case w0r101 => rfl
      case s0r101 => assumption
      case h0r101 => (intro W hSw; obtain ⟨ab0, ab1, ab2⟩ := Cn.cells3 hSw; go_simp; try with_reducible rfl)
      try simp only [Act.put, List.setIfInBounds_toArray, List.set_cons_zero, List.set_cons_succ]
      refine wpAnyH_take (i := 1) (oi := ?o1r101) (v := ?v1r101) ?e1r101 ?a1r101 ?b1r101 ?c1r101 ?q1r101 (Or.inl ⟨?w1r101, ?h1r101⟩) ?s1r101 ?r1r101
      case e1r101 => (simp only [List.getElem?_toArray, List.getElem?_cons_zero, List.getElem?_cons_succ]; rfl)
      case a1r101 => kernel_rfl
      case b1r101 => kernel_rfl
      case c1r101 => kernel_rfl
      case q1r101 => exact fun _ _ _ h => h
      case w1r101 => rfl
      case s1r101 => assumption
      case h1r101 => (intro W hSw; obtain ⟨ab0, ab1, ab2⟩ := Cn.cells3 hSw; go_simp; try with_reducible rfl)
      try simp only [Act.put, List.setIfInBounds_toArray, List.set_cons_zero, List.set_cons_succ]
      refine wpAnyH_take (i := 2) (oi := ?o2r101) (v := ?v2r101) ?e2r101 ?a2r101 ?b2r101 ?c2r101 ?q2r101 (Or.inl ⟨?w2r101, ?h2r101⟩) ?s2r101 ?r2r101
      case e2r101 => (simp only [List.getElem?_toArray, List.getElem?_cons_zero, List.getElem?_cons_succ]; rfl)
      case a2r101 => kernel_rfl
      case b2r101 => kernel_rfl
      case c2r101 => kernel_rfl
      case q2r101 => exact fun _ _ _ h => h
      case w2r101 => rfl
      case s2r101 => assumption
      case h2r101 => (intro W hSw; obtain ⟨ab0, ab1, ab2⟩ := Cn.cells3 hSw; go_simp; try with_reducible rfl)
      try simp only [Act.put, List.setIfInBounds_toArray, List.set_cons_zero, List.set_cons_succ]
      refine wpAnyH_take (i := 3) (oi := ?o3r101) (v := ?v3r101) ?e3r101 ?a3r101 ?b3r101 ?c3r101 ?q3r101 (Or.inl ⟨?w3r101, ?h3r101⟩) ?s3r101 ?r3r101
      case e3r101 => (simp only [List.getElem?_toArray, List.getElem?_cons_zero, List.getElem?_cons_succ]; rfl)
      case a3r101 => kernel_rfl
      case b3r101 => kernel_rfl
      case c3r101 => kernel_rfl
      case q3r101 => exact fun _ _ _ h => h
      case w3r101 => rfl
      case s3r101 => assumption
      case h3r101 => (intro W hSw; obtain ⟨ab0, ab1, ab2⟩ := Cn.cells3 hSw; go_simp; try with_reducible rfl)
      try simp only [Act.put, List.setIfInBounds_toArray, List.set_cons_zero, List.set_cons_succ]
      refine wpAnyH_take (i := 5) (oi := ?o5r101) (v := ?v5r101) ?e5r101 ?a5r101 ?b5r101 ?c5r101 ?q5r101 (Or.inl ⟨?w5r101, ?h5r101⟩) ?s5r101 ?r5r101
      case e5r101 => (simp only [List.getElem?_toArray, List.getElem?_cons_zero, List.getElem?_cons_succ]; rfl)
      case a5r101 => kernel_rfl
      case b5r101 => kernel_rfl
      case c5r101 => kernel_rfl
      case q5r101 => exact fun _ _ _ h => h
      case w5r101 => rfl
      case s5r101 => assumption
      case h5r101 => (intro W hSw; obtain ⟨ab0, ab1, ab2⟩ := Cn.cells3 hSw; go_simp; try with_reducible rfl)
      try simp only [Act.put, List.setIfInBounds_toArray, List.set_cons_zero, List.set_cons_succ]
      refine wpAnyH_ready (rs := [4, 6]) (by kernel_rfl) (by simp) (AllReadyH.cons (o := ?on102) ?en102 (fun K hK => ?kn102) (AllReadyH.cons (o := ?on103) ?en103 (fun K hK => ?kn103) (AllReadyH.nil)))
      case en102 => (simp only [List.getElem?_toArray, List.getElem?_cons_zero, List.getElem?_cons_succ]; rfl)
      case en103 => (simp only [List.getElem?_toArray, List.getElem?_cons_zero, List.getElem?_cons_succ]; rfl)
      case kn102 =>
        have ec := (HR5.out V7 HVr.out)
        go_simp
        clear ec
        refine hK.out _ _ HX7.out (fun _ => ?_)
        clear hK K
        try simp only [Act.put, List.setIfInBounds_toArray, List.set_cons_zero, List.set_cons_succ]
        refine wpAnyH_ready (rs := [6]) (by kernel_rfl) (by simp) (AllReadyH.cons (o := ?on104) ?en104 (fun K hK => ?kn104) (AllReadyH.nil))
        case en104 => (simp only [List.getElem?_toArray, List.getElem?_cons_zero, List.getElem?_cons_succ]; rfl)
        case kn104 =>
          go_simp
          obtain ⟨Vn104, hVn104⟩ : ∃ V', V' = V7.alloc (ObV v1 v2 v3) := ⟨_, rfl⟩
          have qVn104 : Below V7.heap.size V7 Vn104 := by rw [hVn104]; exact (Below.refl _ _).alloc (Nat.le_refl _) _
          have BVn104 := Lib.hid (HVr.out.trans (qVn104.mono HVr.out.size))
          have XVn104 := Lib.hid ((qVn104.block w.heap.size (by have := HVr.out.size; omega)).trans HX7.out)
          have OVn104 : Hid (Vn104.heap[V7.heap.size]? = some (ObV v1 v2 v3)) := by rw [hVn104]; exact heap_alloc_new V7 _
          have GEVn104 : Hid (V7.heap.size ≤ V7.heap.size) := HVr.out.size
          clear qVn104
          rw [← hVn104]
          clear hVn104
          refine hK.out _ _ XVn104.out (fun _ => ?_)
          clear hK K
          try simp only [Act.put, List.setIfInBounds_toArray, List.set_cons_zero, List.set_cons_succ]
          refine wpAnyH_ready (rs := [7]) (by kernel_rfl) (by simp) (AllReadyH.cons (o := ?on105) ?en105 (fun K hK => ?kn105) (AllReadyH.nil))
          case en105 => (simp only [List.getElem?_toArray, List.getElem?_cons_zero, List.getElem?_cons_succ]; rfl)
          case kn105 =>
            go_simp
            obtain ⟨Vn105, hVn105⟩ : ∃ V', V' = Vn104.alloc (.cells #[.slice (some ⟨V7.heap.size, 0, none⟩) 1 1] 71) := ⟨_, rfl⟩
            have qVn105 : Below Vn104.heap.size Vn104 Vn105 := by rw [hVn105]; exact (Below.refl _ _).alloc (Nat.le_refl _) _
            have BVn105 := Lib.hid (BVn104.out.trans (qVn105.mono BVn104.out.size))
            have XVn105 := Lib.hid ((qVn105.block w.heap.size (by have := BVn104.out.size; omega)).trans XVn104.out)
            have OVn105 := Lib.hid ((qVn105.block _ (Array.getElem?_eq_some_iff.1 OVn104.out).1).trans OVn104.out)
            have LVn105 : Hid (Vn105.heap[Vn104.heap.size]? = some (.cells #[.slice (some ⟨V7.heap.size, 0, none⟩) 1 1] 71 (0, 0))) := by rw [hVn105]; exact heap_alloc_new Vn104 _
            clear qVn105
            rw [← hVn105]
            clear hVn105
            refine hK.out _ _ XVn105.out (fun _ => ?_)
            clear hK K
            try simp only [Act.put, List.setIfInBounds_toArray, List.set_cons_zero, List.set_cons_succ]
            refine wpAnyH_ready (rs := [8]) (by kernel_rfl) (by simp) (AllReadyH.cons (o := ?on106) ?en106 (fun K hK => ?kn106) (AllReadyH.nil))
            case en106 => (simp only [List.getElem?_toArray, List.getElem?_cons_zero, List.getElem?_cons_succ]; rfl)
            case kn106 =>
              have RWVn106 := Lib.hid (own_go HRC.out BVn105.out)
              have NWVn106 : Hid (∀ j u, ([.slice (some ⟨V7.heap.size, 0, none⟩) 1 1] : List Value)[j]? = some u → Vn105.cell? ((⟨Vn104.heap.size, 0, none⟩ : Addr).add j) = some u) := World.news_of_block (cs := #[.slice (some ⟨V7.heap.size, 0, none⟩) 1 1]) LVn105.out
              refine step_append_lies _ rfl _ _ 36 rfl 0 71 i2 _ 1 24 Try.underlying36 hj0 hj1 hj2 hj3 rfl (by decide) _ _ _ rfl RWVn106.out ⟨Vn104.heap.size, 0, none⟩ 1 1 [.slice (some ⟨V7.heap.size, 0, none⟩) 1 1] rfl rfl NWVn106.out (by simp [Value.oneCell']) (by decide) D3.out D4.out (Nat.zero_le _) _ rfl ?_
              intro gVn106 cVn106 Vn106 hown hgrow hat _
              have XVn106 : Hid (Vn106.heap[w.heap.size]? = some (.cells #[.int .i64 v1, .string v2, .bool v3] 89 (0, 0))) := (hgrow.block w.heap.size (by have := BVn105.out.size; omega) (fun e => row_store RWVn106.out XVn105.out (by decide) e.symm)).trans XVn105.out
              have FIVn106 := Lib.hid (HFIN2.out Vn105 Vn106 V7.heap.size gVn106 cVn106 BVn105.out GEVn104.out OVn105.out hown hgrow hat)
              have R5Vn106 := (hgrow.block r (by have := BVn105.out.size; omega) (fun e => row_store RWVn106.out (HRB.out Vn105 BVn105.out) (by decide) e.symm)).trans (HRB.out Vn105 BVn105.out)
              have RXVn106 := Lib.hid R5Vn106
              clear hown hgrow hat R5Vn106
              refine hK.out _ _ XVn106.out (fun _ => ?_)
              clear hK K
              try simp only [Act.put, List.setIfInBounds_toArray, List.set_cons_zero, List.set_cons_succ]
              refine wpAnyH_take (i := 9) (oi := ?o9r108) (v := ?v9r108) ?e9r108 ?a9r108 ?b9r108 ?c9r108 ?q9r108 (Or.inl ⟨?w9r108, ?h9r108⟩) ?s9r108 ?r9r108
              case e9r108 => (simp only [List.getElem?_toArray, List.getElem?_cons_zero, List.getElem?_cons_succ]; rfl)
              case a9r108 => kernel_rfl
              case b9r108 => kernel_rfl
              case c9r108 => kernel_rfl
              case q9r108 => exact fun _ _ _ h => h
              case w9r108 => rfl
              case s9r108 => assumption
              case h9r108 => (intro W hSw; obtain ⟨ab0, ab1, ab2⟩ := Cn.cells3 hSw; go_simp; try with_reducible rfl)
              try simp only [Act.put, List.setIfInBounds_toArray, List.set_cons_zero, List.set_cons_succ]
              refine wpAnyH_take (i := 10) (oi := ?o10r108) (v := ?v10r108) ?e10r108 ?a10r108 ?b10r108 ?c10r108 ?q10r108 (Or.inl ⟨?w10r108, ?h10r108⟩) ?s10r108 ?r10r108
              case e10r108 => (simp only [List.getElem?_toArray, List.getElem?_cons_zero, List.getElem?_cons_succ]; rfl)
              case a10r108 => kernel_rfl
              case b10r108 => kernel_rfl
              case c10r108 => kernel_rfl
              case q10r108 => exact fun _ _ _ h => h
              case w10r108 => rfl
              case s10r108 => assumption
              case h10r108 => (intro W hSw; obtain ⟨ab0, ab1, ab2⟩ := Cn.cells3 hSw; go_simp; try with_reducible rfl)
              try simp only [Act.put, List.setIfInBounds_toArray, List.set_cons_zero, List.set_cons_succ]
              refine wpAnyH_ready (rs := [11]) (by kernel_rfl) (by simp) (AllReadyH.cons (o := ?on107) ?en107 (fun K hK => ?kn107) (AllReadyH.nil))
              case en107 => (simp only [List.getElem?_toArray, List.getElem?_cons_zero, List.getElem?_cons_succ]; rfl)
              case kn107 =>
                have ec := (cells6 RXVn106.out).2.2.2.2.2
                have ef := frz RXVn106.out 5
                go_simp
                clear ec ef
                refine hK.out _ _ ((set_oth Vn106 r 5 _ (by omega)).trans XVn106.out) (fun _ => ?_)
                clear hK K
                try simp only [Act.put, List.setIfInBounds_toArray, List.set_cons_zero, List.set_cons_succ]
                refine wpAnyH_done (by kernel_rfl) ?_ _
                go_wp2
                go_end0
                exact ⟨rfl, FIVn106.out⟩
      case kn103 =>
        go_simp
        obtain ⟨Vn103, hVn103⟩ : ∃ V', V' = V7.alloc (ObV v1 v2 v3) := ⟨_, rfl⟩
        have qVn103 : Below V7.heap.size V7 Vn103 := by rw [hVn103]; exact (Below.refl _ _).alloc (Nat.le_refl _) _
        have BVn103 := Lib.hid (HVr.out.trans (qVn103.mono HVr.out.size))
        have XVn103 := Lib.hid ((qVn103.block w.heap.size (by have := HVr.out.size; omega)).trans HX7.out)
        have OVn103 : Hid (Vn103.heap[V7.heap.size]? = some (ObV v1 v2 v3)) := by rw [hVn103]; exact heap_alloc_new V7 _
        have GEVn103 : Hid (V7.heap.size ≤ V7.heap.size) := HVr.out.size
        clear qVn103
        rw [← hVn103]
        clear hVn103
        refine hK.out _ _ XVn103.out (fun _ => ?_)
        clear hK K
        try simp only [Act.put, List.setIfInBounds_toArray, List.set_cons_zero, List.set_cons_succ]
        refine wpAnyH_ready (rs := [4, 7]) (by kernel_rfl) (by simp) (AllReadyH.cons (o := ?on109) ?en109 (fun K hK => ?kn109) (AllReadyH.cons (o := ?on110) ?en110 (fun K hK => ?kn110) (AllReadyH.nil)))
        case en109 => (simp only [List.getElem?_toArray, List.getElem?_cons_zero, List.getElem?_cons_succ]; rfl)
        case en110 => (simp only [List.getElem?_toArray, List.getElem?_cons_zero, List.getElem?_cons_succ]; rfl)
        case kn109 =>
          have ec := (HR5.out Vn103 BVn103.out)
          go_simp
          clear ec
          refine hK.out _ _ XVn103.out (fun _ => ?_)
          clear hK K
          try simp only [Act.put, List.setIfInBounds_toArray, List.set_cons_zero, List.set_cons_succ]
          refine wpAnyH_ready (rs := [7]) (by kernel_rfl) (by simp) (AllReadyH.cons (o := ?on111) ?en111 (fun K hK => ?kn111) (AllReadyH.nil))
          case en111 => (simp only [List.getElem?_toArray, List.getElem?_cons_zero, List.getElem?_cons_succ]; rfl)
          case kn111 =>
            go_simp
            obtain ⟨Vn111, hVn111⟩ : ∃ V', V' = Vn103.alloc (.cells #[.slice (some ⟨V7.heap.size, 0, none⟩) 1 1] 71) := ⟨_, rfl⟩
            have qVn111 : Below Vn103.heap.size Vn103 Vn111 := by rw [hVn111]; exact (Below.refl _ _).alloc (Nat.le_refl _) _
            have BVn111 := Lib.hid (BVn103.out.trans (qVn111.mono BVn103.out.size))
            have XVn111 := Lib.hid ((qVn111.block w.heap.size (by have := BVn103.out.size; omega)).trans XVn103.out)
            have OVn111 := Lib.hid ((qVn111.block _ (Array.getElem?_eq_some_iff.1 OVn103.out).1).trans OVn103.out)
            have LVn111 : Hid (Vn111.heap[Vn103.heap.size]? = some (.cells #[.slice (some ⟨V7.heap.size, 0, none⟩) 1 1] 71 (0, 0))) := by rw [hVn111]; exact heap_alloc_new Vn103 _
            clear qVn111
            rw [← hVn111]
            clear hVn111
            refine hK.out _ _ XVn111.out (fun _ => ?_)
            clear hK K
            try simp only [Act.put, List.setIfInBounds_toArray, List.set_cons_zero, List.set_cons_succ]
            refine wpAnyH_ready (rs := [8]) (by kernel_rfl) (by simp) (AllReadyH.cons (o := ?on112) ?en112 (fun K hK => ?kn112) (AllReadyH.nil))
            case en112 => (simp only [List.getElem?_toArray, List.getElem?_cons_zero, List.getElem?_cons_succ]; rfl)
            case kn112 =>
              have RWVn112 := Lib.hid (own_go HRC.out BVn111.out)
              have NWVn112 : Hid (∀ j u, ([.slice (some ⟨V7.heap.size, 0, none⟩) 1 1] : List Value)[j]? = some u → Vn111.cell? ((⟨Vn103.heap.size, 0, none⟩ : Addr).add j) = some u) := World.news_of_block (cs := #[.slice (some ⟨V7.heap.size, 0, none⟩) 1 1]) LVn111.out
              refine step_append_lies _ rfl _ _ 36 rfl 0 71 i2 _ 1 24 Try.underlying36 hj0 hj1 hj2 hj3 rfl (by decide) _ _ _ rfl RWVn112.out ⟨Vn103.heap.size, 0, none⟩ 1 1 [.slice (some ⟨V7.heap.size, 0, none⟩) 1 1] rfl rfl NWVn112.out (by simp [Value.oneCell']) (by decide) D3.out D4.out (Nat.zero_le _) _ rfl ?_
              intro gVn112 cVn112 Vn112 hown hgrow hat _
              have XVn112 : Hid (Vn112.heap[w.heap.size]? = some (.cells #[.int .i64 v1, .string v2, .bool v3] 89 (0, 0))) := (hgrow.block w.heap.size (by have := BVn111.out.size; omega) (fun e => row_store RWVn112.out XVn111.out (by decide) e.symm)).trans XVn111.out
              have FIVn112 := Lib.hid (HFIN2.out Vn111 Vn112 V7.heap.size gVn112 cVn112 BVn111.out GEVn103.out OVn111.out hown hgrow hat)
              have R5Vn112 := (hgrow.block r (by have := BVn111.out.size; omega) (fun e => row_store RWVn112.out (HRB.out Vn111 BVn111.out) (by decide) e.symm)).trans (HRB.out Vn111 BVn111.out)
              have RXVn112 := Lib.hid R5Vn112
              clear hown hgrow hat R5Vn112
              refine hK.out _ _ XVn112.out (fun _ => ?_)
              clear hK K
              try simp only [Act.put, List.setIfInBounds_toArray, List.set_cons_zero, List.set_cons_succ]
              refine wpAnyH_take (i := 9) (oi := ?o9r114) (v := ?v9r114) ?e9r114 ?a9r114 ?b9r114 ?c9r114 ?q9r114 (Or.inl ⟨?w9r114, ?h9r114⟩) ?s9r114 ?r9r114
              case e9r114 => (simp only [List.getElem?_toArray, List.getElem?_cons_zero, List.getElem?_cons_succ]; rfl)
              case a9r114 => kernel_rfl
              case b9r114 => kernel_rfl
              case c9r114 => kernel_rfl
              case q9r114 => exact fun _ _ _ h => h
              case w9r114 => rfl
              case s9r114 => assumption
              case h9r114 => (intro W hSw; obtain ⟨ab0, ab1, ab2⟩ := Cn.cells3 hSw; go_simp; try with_reducible rfl)
              try simp only [Act.put, List.setIfInBounds_toArray, List.set_cons_zero, List.set_cons_succ]
              refine wpAnyH_take (i := 10) (oi := ?o10r114) (v := ?v10r114) ?e10r114 ?a10r114 ?b10r114 ?c10r114 ?q10r114 (Or.inl ⟨?w10r114, ?h10r114⟩) ?s10r114 ?r10r114
              case e10r114 => (simp only [List.getElem?_toArray, List.getElem?_cons_zero, List.getElem?_cons_succ]; rfl)
              case a10r114 => kernel_rfl
              case b10r114 => kernel_rfl
              case c10r114 => kernel_rfl
              case q10r114 => exact fun _ _ _ h => h
              case w10r114 => rfl
              case s10r114 => assumption
              case h10r114 => (intro W hSw; obtain ⟨ab0, ab1, ab2⟩ := Cn.cells3 hSw; go_simp; try with_reducible rfl)
              try simp only [Act.put, List.setIfInBounds_toArray, List.set_cons_zero, List.set_cons_succ]
              refine wpAnyH_ready (rs := [11]) (by kernel_rfl) (by simp) (AllReadyH.cons (o := ?on113) ?en113 (fun K hK => ?kn113) (AllReadyH.nil))
              case en113 => (simp only [List.getElem?_toArray, List.getElem?_cons_zero, List.getElem?_cons_succ]; rfl)
              case kn113 =>
                have ec := (cells6 RXVn112.out).2.2.2.2.2
                have ef := frz RXVn112.out 5
                go_simp
                clear ec ef
                refine hK.out _ _ ((set_oth Vn112 r 5 _ (by omega)).trans XVn112.out) (fun _ => ?_)
                clear hK K
                try simp only [Act.put, List.setIfInBounds_toArray, List.set_cons_zero, List.set_cons_succ]
                refine wpAnyH_done (by kernel_rfl) ?_ _
                go_wp2
                go_end0
                exact ⟨rfl, FIVn112.out⟩
        case kn110 =>
          go_simp
          obtain ⟨Vn110, hVn110⟩ : ∃ V', V' = Vn103.alloc (.cells #[.slice (some ⟨V7.heap.size, 0, none⟩) 1 1] 71) := ⟨_, rfl⟩
          have qVn110 : Below Vn103.heap.size Vn103 Vn110 := by rw [hVn110]; exact (Below.refl _ _).alloc (Nat.le_refl _) _
          have BVn110 := Lib.hid (BVn103.out.trans (qVn110.mono BVn103.out.size))
          have XVn110 := Lib.hid ((qVn110.block w.heap.size (by have := BVn103.out.size; omega)).trans XVn103.out)
          have OVn110 := Lib.hid ((qVn110.block _ (Array.getElem?_eq_some_iff.1 OVn103.out).1).trans OVn103.out)
          have LVn110 : Hid (Vn110.heap[Vn103.heap.size]? = some (.cells #[.slice (some ⟨V7.heap.size, 0, none⟩) 1 1] 71 (0, 0))) := by rw [hVn110]; exact heap_alloc_new Vn103 _
          clear qVn110
          rw [← hVn110]
          clear hVn110
          refine hK.out _ _ XVn110.out (fun _ => ?_)
          clear hK K
          try simp only [Act.put, List.setIfInBounds_toArray, List.set_cons_zero, List.set_cons_succ]
          refine wpAnyH_ready (rs := [4]) (by kernel_rfl) (by simp) (AllReadyH.cons (o := ?on115) ?en115 (fun K hK => ?kn115) (AllReadyH.nil))
          case en115 => (simp only [List.getElem?_toArray, List.getElem?_cons_zero, List.getElem?_cons_succ]; rfl)
          case kn115 =>
            have ec := (HR5.out Vn110 BVn110.out)
            go_simp
            clear ec
            refine hK.out _ _ XVn110.out (fun _ => ?_)
            clear hK K
            try simp only [Act.put, List.setIfInBounds_toArray, List.set_cons_zero, List.set_cons_succ]
            refine wpAnyH_ready (rs := [8]) (by kernel_rfl) (by simp) (AllReadyH.cons (o := ?on116) ?en116 (fun K hK => ?kn116) (AllReadyH.nil))
            case en116 => (simp only [List.getElem?_toArray, List.getElem?_cons_zero, List.getElem?_cons_succ]; rfl)
            case kn116 =>
              have RWVn116 := Lib.hid (own_go HRC.out BVn110.out)
              have NWVn116 : Hid (∀ j u, ([.slice (some ⟨V7.heap.size, 0, none⟩) 1 1] : List Value)[j]? = some u → Vn110.cell? ((⟨Vn103.heap.size, 0, none⟩ : Addr).add j) = some u) := World.news_of_block (cs := #[.slice (some ⟨V7.heap.size, 0, none⟩) 1 1]) LVn110.out
              refine step_append_lies _ rfl _ _ 36 rfl 0 71 i2 _ 1 24 Try.underlying36 hj0 hj1 hj2 hj3 rfl (by decide) _ _ _ rfl RWVn116.out ⟨Vn103.heap.size, 0, none⟩ 1 1 [.slice (some ⟨V7.heap.size, 0, none⟩) 1 1] rfl rfl NWVn116.out (by simp [Value.oneCell']) (by decide) D3.out D4.out (Nat.zero_le _) _ rfl ?_
              intro gVn116 cVn116 Vn116 hown hgrow hat _
              have XVn116 : Hid (Vn116.heap[w.heap.size]? = some (.cells #[.int .i64 v1, .string v2, .bool v3] 89 (0, 0))) := (hgrow.block w.heap.size (by have := BVn110.out.size; omega) (fun e => row_store RWVn116.out XVn110.out (by decide) e.symm)).trans XVn110.out
              have FIVn116 := Lib.hid (HFIN2.out Vn110 Vn116 V7.heap.size gVn116 cVn116 BVn110.out GEVn103.out OVn110.out hown hgrow hat)
              have R5Vn116 := (hgrow.block r (by have := BVn110.out.size; omega) (fun e => row_store RWVn116.out (HRB.out Vn110 BVn110.out) (by decide) e.symm)).trans (HRB.out Vn110 BVn110.out)
              have RXVn116 := Lib.hid R5Vn116
              clear hown hgrow hat R5Vn116
              refine hK.out _ _ XVn116.out (fun _ => ?_)
              clear hK K
              try simp only [Act.put, List.setIfInBounds_toArray, List.set_cons_zero, List.set_cons_succ]
              refine wpAnyH_take (i := 9) (oi := ?o9r118) (v := ?v9r118) ?e9r118 ?a9r118 ?b9r118 ?c9r118 ?q9r118 (Or.inl ⟨?w9r118, ?h9r118⟩) ?s9r118 ?r9r118
              case e9r118 => (simp only [List.getElem?_toArray, List.getElem?_cons_zero, List.getElem?_cons_succ]; rfl)
              case a9r118 => kernel_rfl
              case b9r118 => kernel_rfl
              case c9r118 => kernel_rfl
              case q9r118 => exact fun _ _ _ h => h
              case w9r118 => rfl
              case s9r118 => assumption
              case h9r118 => (intro W hSw; obtain ⟨ab0, ab1, ab2⟩ := Cn.cells3 hSw; go_simp; try with_reducible rfl)
              try simp only [Act.put, List.setIfInBounds_toArray, List.set_cons_zero, List.set_cons_succ]
              refine wpAnyH_take (i := 10) (oi := ?o10r118) (v := ?v10r118) ?e10r118 ?a10r118 ?b10r118 ?c10r118 ?q10r118 (Or.inl ⟨?w10r118, ?h10r118⟩) ?s10r118 ?r10r118
              case e10r118 => (simp only [List.getElem?_toArray, List.getElem?_cons_zero, List.getElem?_cons_succ]; rfl)
              case a10r118 => kernel_rfl
              case b10r118 => kernel_rfl
              case c10r118 => kernel_rfl
              case q10r118 => exact fun _ _ _ h => h
              case w10r118 => rfl
              case s10r118 => assumption
              case h10r118 => (intro W hSw; obtain ⟨ab0, ab1, ab2⟩ := Cn.cells3 hSw; go_simp; try with_reducible rfl)
              try simp only [Act.put, List.setIfInBounds_toArray, List.set_cons_zero, List.set_cons_succ]
              refine wpAnyH_ready (rs := [11]) (by kernel_rfl) (by simp) (AllReadyH.cons (o := ?on117) ?en117 (fun K hK => ?kn117) (AllReadyH.nil))
              case en117 => (simp only [List.getElem?_toArray, List.getElem?_cons_zero, List.getElem?_cons_succ]; rfl)
              case kn117 =>
                have ec := (cells6 RXVn116.out).2.2.2.2.2
                have ef := frz RXVn116.out 5
                go_simp
                clear ec ef
                refine hK.out _ _ ((set_oth Vn116 r 5 _ (by omega)).trans XVn116.out) (fun _ => ?_)
                clear hK K
                try simp only [Act.put, List.setIfInBounds_toArray, List.set_cons_zero, List.set_cons_succ]
                refine wpAnyH_done (by kernel_rfl) ?_ _
                go_wp2
                go_end0
                exact ⟨rfl, FIVn116.out⟩
end Go.Proofs.Ytjceofkcahfhmaa.Mv

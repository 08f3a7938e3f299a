/- The contract of package note's keep: entries behind all others, the first ones go; no other condition. -/
import Derived.Test.YtneogelhdikcaaaNtE
namespace Go.Proofs.Ytneogelhdikcaaa.Nt
open Go.RowKit Go.Lib Go.Maps Go.ChangeMaps Go.MapKept Go.WideMaps
set_option linter.unusedSimpArgs false
set_option linter.unusedVariables false

/-- how many go -/
def keepN (m : Int) (L : List Ent) : Nat := L.length - (max m 1).toNat
/-- the floor behind that -/
def keepF (m fl : Int) (L : List Ent) : Int := if keepN m L = 0 then fl else (L[keepN m L - 1]?.map (·.1)).getD 0
/-- an outbox on the way of a call: as it is now, what changed since w -/
def Oq (B c : Nat) (gb mb : Option Nat) (m : Int) (now : List Tx) (l : List Ent) (fl la : Int) (w W : World) : Prop := ∃ gb', IsOb B c gb' mb m now l fl la W ∧ Ch c gb w W ∧ NewB gb gb' w
theorem Oq.go {B c : Nat} {gb mb : Option Nat} {m : Int} {now : List Tx} {l : List Ent} {fl la : Int} {w W V : World} (h : Oq B c gb mb m now l fl la w W) (hb : Below W.heap.size W V) : Oq B c gb mb m now l fl la w V := by
  obtain ⟨gb', h1, h2, h3⟩ := h
  exact ⟨gb', h1.go hb, h2.chain hb, h3⟩
theorem chs {c : Nat} {v : Value} {w W V : World} (hg : w.grownBy W v.ownBlock) (i : Nat) (u : Value) (hV : V = W.setCell ⟨c, i, none⟩ u) : Ch c v.ownBlock w V := by
  rw [hV]; exact (Ch.grown hg).tr (Ch.set _ _ _)
set_option maxRecDepth 100000 in
set_option maxHeartbeats 4000000 in
theorem keep_c {B c : Nat} {gb mb : Option Nat} {m : Int} {now : List Tx} {E : List Ent} {fl la : Int} {w : World} (h : IsOb B c gb mb m now E fl la w) (hB : B ≤ w.heap.size) (x : Value) (X : List Ent) (hx : RdE x X w) (hE : E.length ≤ 1000000) (hX : X.length ≤ 1000000) (hmi : m ≤ 9223372036854775807) :
    Calls Try.prog 26 #[.pointer (some ⟨c, 0, none⟩), x] w fun e w' => e = .returned (.tuple #[]) ∧ Oq B c gb mb m now ((E ++ X).drop (keepN m (E ++ X))) (keepF m fl (E ++ X)) la w w' := by
  obtain ⟨i0, hi, hz0, hz1, hz2⟩ := info_parts infoE
  obtain ⟨v, hv, ho, hgb⟩ := h.ex
  obtain ⟨v', W1, hr, hO1, hg1, hnb⟩ := ap_run (t := 29) Try.underlying29 hi hz0 hz1 hz2 rfl ho hx (eC_len X) (eC_one X) hB (by unfold maxLen; omega) (by show (E.length + X.length) * 40 ≤ 140737488355328; omega)
  rw [← eC_app] at hO1
  obtain ⟨L, hL⟩ : ∃ L, L = E ++ X := ⟨_, rfl⟩
  have hLl : L.length = E.length + X.length := by rw [hL, List.length_append]
  rw [← hL] at hO1 ⊢
  rw [← hLl] at hO1
  clear hL
  have hcl := h.lt
  have hne : v.ownBlock ≠ some c := by rw [hgb]; exact h.ne
  have hne' : v'.ownBlock ≠ some c := by
    rcases hnb with e | e <;> rw [e]
    · exact hne
    · intro e; injection e with e; omega
  have hk1 : W1.heap[c]? = some (.cells #[.int .i64 m, .map mb, v, .int .i64 fl, .int .i64 la] 54 (0, 0)) := (hg1.block c hcl (Ne.symm hne)).trans hv
  obtain ⟨W2, hW2⟩ : ∃ W2, W2 = W1.setCell ⟨c, 2, none⟩ v' := ⟨_, rfl⟩
  have hk2 : W2.heap[c]? = some (.cells #[.int .i64 m, .map mb, v', .int .i64 fl, .int .i64 la] 54 (0, 0)) := by rw [hW2]; simpa using blk_set hk1 2 v'
  have hs2 : W2.heap.size = W1.heap.size := by rw [hW2, size_set]
  have hO2 : OwL B v' L W2 := hO1.kept (Nat.le_of_eq hs2.symm) (fun g hg => by rw [hW2]; exact set_oth _ _ _ _ (fun e => hne' (by rw [hg, e])))
  have hC2 : Ch c gb w W2 := by rw [← hgb]; exact chs hg1 2 v' hW2
  have hN2 : NewB gb v'.ownBlock w := by
    rcases hnb with e | e
    · exact .inl (e.trans hgb)
    · exact .inr (.inr ⟨_, e, Nat.le_refl _⟩)
  have hap : ∀ g, mb = some g → v'.ownBlock ≠ some g := fun g hg e => by
    rcases hnb with e2 | e2
    · exact h.ap g hg (by rw [← hgb, ← e2, e])
    · rw [e2] at e; injection e with e; have := h.mp.lt g hg; omega
  have hmp : SetO mb now W2 := h.mp.keep (fun g hg => hC2.block g (h.mp.lt g hg) (fun e => h.mne (by rw [hg, e])) (fun e => h.ap g hg e.symm))
  obtain ⟨ao, cap, rfl, hlc, hnone⟩ := hO2.form
  have FIN : Hid (∀ (W : World) (v2 : Value) (l2 : List Ent) (f2 : Int), W.heap[c]? = some (.cells #[.int .i64 m, .map mb, v2, .int .i64 f2, .int .i64 la] 54 (0, 0)) → Ch c ((Value.slice ao L.length cap).ownBlock) W2 W → OwL B v2 l2 W → v2.ownBlock = (Value.slice ao L.length cap).ownBlock → Oq B c gb mb m now l2 f2 la w W) := fun W v2 l2 f2 h1 h2 h3 h4 => by
    have hmW : ∀ g, mb = some g → W.heap[g]? = W2.heap[g]? := fun g hg => h2.block g (hmp.lt g hg) (fun e => h.mne (by rw [hg, e])) (fun e => hap g hg e.symm)
    exact ⟨_, ⟨⟨v2, h1, h3, h4⟩, hne', h.mne, hap, hmp.keep hmW, h.mB⟩, hC2.trans hN2 h2, hN2⟩
  have hM1 : (1 : Int) ≤ max m 1 := by omega
  obtain ⟨c0, c1, c2, c3, c4⟩ := cells5 hv
  obtain ⟨d0, d1, d2, d3, d4⟩ := cells5 hk1
  have fd2 := frzB hk1 2
  obtain ⟨e0, e1, e2, e3, e4⟩ := cells5 hk2
  obtain ⟨av, cv, rfl, _, _⟩ := ho.form
  have HR := Lib.hid hr
  have HW2 := Lib.hid hW2
  have HK2 := Lib.hid hk2
  have HO2 := Lib.hid hO2
  have hLb : L.length ≤ 2000000 := by omega
  clear hr hW2 hO1 hg1 hnb hk1 hs2 hC2 hN2 hap hmp hx ho h hv hLl
  by_cases hn : (L.length : Int) - max m 1 ≤ 0
  · have e1' : keepN m L = 0 := by unfold keepN; omega
    have e2' : keepF m fl L = fl := by unfold keepF; rw [if_pos e1']
    rw [e1', e2', List.drop_zero]
    have FE := Lib.hid (FIN.out W2.drew _ L fl hk2 (Ch.of (bdr W2)) (hO2.go (bdr W2)) rfl)
    clear hO2 hk2 e1' e2' FIN
    by_cases hm1 : m < 1
    · have hn1 : (L.length : Int) - 1 ≤ 0 := by omega
      clear hn
      go_enter Try.func26, Try.ntmps26
      go_wp2_with (at_builtin; refine wpList_append_eq rfl _ _ 29 rfl rfl rfl HR.out ?_)
      rw [← HW2.out]
      clear c0 c1 c2 c3 c4 d0 d1 d2 d3 d4 fd2
      go_upto_region 1 with (fail)
      go_region
      all_goals
        go_wp2
        refine bodyPost_ret (results_none rfl _ _ _) rfl ?_
        exact ⟨rfl, FE.out⟩
    · have hn1 : (L.length : Int) - m ≤ 0 := by omega
      have hm2 : 1 ≤ m := by omega
      clear hn
      go_enter Try.func26, Try.ntmps26
      go_wp2_with (at_builtin; refine wpList_append_eq rfl _ _ 29 rfl rfl rfl HR.out ?_)
      rw [← HW2.out]
      clear c0 c1 c2 c3 c4 d0 d1 d2 d3 d4 fd2
      go_upto_region 1 with (fail)
      go_region
      all_goals
        go_wp2
        refine bodyPost_ret (results_none rfl _ _ _) rfl ?_
        exact ⟨rfl, FE.out⟩
  · obtain ⟨q, hq⟩ : ∃ q, keepN m L = q + 1 := ⟨keepN m L - 1, by unfold keepN; omega⟩
    have hqM : (L.length : Int) - max m 1 = (q : Int) + 1 := by unfold keepN at hq; omega
    have hql : q < L.length := by unfold keepN at hq; omega
    have hq1 : q + 1 < L.length := by omega
    have hF : keepF m fl L = L[q].1 := by unfold keepF; rw [if_neg (by omega), hq, Nat.add_sub_cancel, List.getElem?_eq_getElem hql]; rfl
    rw [hq, hF]
    rcases hO2.2 with ⟨e, e0⟩ | ⟨g, o, cap', e, h1, h2, h3, h4, h5, h6⟩
    · omega
    injection e with a1 a2 a3
    subst a1 a3
    have hgc : g ≠ c := fun e => hne' (by rw [← e]; rfl)
    have hb2 : Below W2.heap.size W2 W2.drew := bdr W2
    obtain ⟨V0, hV0⟩ : ∃ V0, V0 = W2.drew := ⟨_, rfl⟩
    have hkV0 : V0.heap[c]? = some (.cells #[.int .i64 m, .map mb, .slice (some ⟨g, o, none⟩) L.length cap, .int .i64 fl, .int .i64 la] 54 (0, 0)) := by rw [hV0]; exact hk2
    obtain ⟨p0, _, _, _⟩ := cell4 h5 hql
    have p1 : V0.cell? ⟨g, o + q * 4, none⟩ = some (.int .i64 L[q].1) := by rw [hV0]; exact p0
    have hth0 : V0.there g o ((q + 1) * 4) := by rw [hV0]; exact fun j hj => h6 j (by omega)
    have hO0 : OwL B (.slice (some ⟨g, o, none⟩) L.length cap) L V0 := by rw [hV0]; exact hO2
    obtain ⟨f, hf⟩ : ∃ f, f = L[q].1 := ⟨_, rfl⟩
    rw [← hf] at p1 ⊢
    obtain ⟨V1, hV1⟩ : ∃ V1, V1 = V0.setCell ⟨c, 3, none⟩ (.int .i64 f) := ⟨_, rfl⟩
    have hkV1 : V1.heap[c]? = some (.cells #[.int .i64 m, .map mb, .slice (some ⟨g, o, none⟩) L.length cap, .int .i64 f, .int .i64 la] 54 (0, 0)) := by rw [hV1]; simpa using blk_set hkV0 3 (.int .i64 f)
    have hgV1 : V1.heap[g]? = V0.heap[g]? := by rw [hV1]; exact set_oth _ _ _ _ hgc
    have hth1 : V1.there g o ((q + 1) * 4) := fun j hj => by
      rw [World.cell?_of_block (w := V0) (a := ⟨g, o + j, none⟩) hgV1, World.frozen?_of_block (w := V0) (a := ⟨g, o + j, none⟩) hgV1]; exact hth0 j hj
    have hO1 : OwL B (.slice (some ⟨g, o, none⟩) L.length cap) L V1 := hO0.kept (by rw [hV1, size_set]; exact Nat.le_refl _) (fun q hq => by injection hq with hq; have : g = q := hq; rw [← this]; exact hgV1)
    have hclr := fun ty => run_clear V1 ty g o (q + 1) cap (by omega) hth1
    obtain ⟨V2, hV2⟩ : ∃ V2, V2 = V1.setCells g o (zE (q + 1)) := ⟨_, rfl⟩
    rw [← hV2] at hclr
    have hO2' := hO1.dropped (m := q + 1) (zE (q + 1)) (zE_len _) (by omega)
    rw [← eC_drop, ← hV2] at hO2'
    have hcV1 : c < V1.heap.size := (Array.getElem?_eq_some_iff.1 hkV1).1
    have hkV2 : V2.heap[c]? = some (.cells #[.int .i64 m, .map mb, .slice (some ⟨g, o, none⟩) L.length cap, .int .i64 f, .int .i64 la] 54 (0, 0)) := by
      rw [hV2, World.heap_setCells_other _ _ _ _ hcV1 (fun e => hgc e.symm)]; exact hkV1
    have C2 : Ch c (some g) W2 V2 := by
      rw [hV2, hV1, hV0]
      exact ((Ch.of hb2).tr (Ch.set _ _ _)).tr (Ch.sets _ _ _)
    obtain ⟨V3, hV3⟩ : ∃ V3, V3 = V2.setCell ⟨c, 2, none⟩ (.slice (some ⟨g, o + (q + 1) * 4, none⟩) (L.length - (q + 1)) (cap - (q + 1))) := ⟨_, rfl⟩
    have FE := Lib.hid (FIN.out V3 (.slice (some ⟨g, o + (q + 1) * 4, none⟩) (L.length - (q + 1)) (cap - (q + 1))) (L.drop (q + 1)) f (by rw [hV3]; simpa using blk_set hkV2 2 (.slice (some ⟨g, o + (q + 1) * 4, none⟩) (L.length - (q + 1)) (cap - (q + 1)))) (by rw [hV3]; exact C2.tr (Ch.set _ _ _)) (by
      show OwG _ _ _ _ _ _
      rw [show (L.drop (q + 1)).length = L.length - (q + 1) from List.length_drop]
      refine hO2'.kept (by rw [hV3, size_set]; exact Nat.le_refl _) (fun j hj => ?_)
      injection hj with hj
      have : g = j := hj
      rw [hV3, ← this]; exact set_oth _ _ _ _ hgc) rfl)
    obtain ⟨j0, j1, j2, j3, j4⟩ := cells5 hkV0
    have fj := frzB hkV0 3
    obtain ⟨k0, k1, k2, k3, k4⟩ := cells5 hkV1
    obtain ⟨l0, l1, l2, l3, l4⟩ := cells5 hkV2
    have fl2 := frzB hkV2 2
    have i1 : (q : Int) + 1 ≤ (cap : Int) := by omega
    have i2 : (q : Int) + 1 ≤ (L.length : Int) := by omega
    have i3 : ¬ (q : Int) + 1 = (cap : Int) := by omega
    have i4 : (q : Int) < (L.length : Int) := by omega
    have i5 : (0 : Int) ≤ (q : Int) := by omega
    have i6 : ¬ (q : Int) + 1 ≤ 0 := by omega
    have HV0 := Lib.hid hV0
    have HV1 := Lib.hid hV1
    have HV2 := Lib.hid hV2
    have HV3 := Lib.hid hV3
    have hcb : (cap : Int) ≤ 9223372036854775807 := by unfold maxLen at h4; omega
    have HQM := Lib.hid hqM
    clear hn hq hqM hF hO2 hO0 hO1 hO2' h1 h2 h3 h4 h5 h6 hb2 hkV0 hkV1 hkV2 hgV1 hth0 hth1 C2 FIN hV0 hV1 hV2 hV3 p0 hcV1 hf hk2 hnone hne hgb
    by_cases hm1 : m < 1
    · have HQ : Hid ((L.length : Int) - 1 = (q : Int) + 1) := by show _ = _; have := HQM.out; omega
      clear HQM
      go_enter Try.func26, Try.ntmps26
      go_wp2_with (at_builtin; refine wpList_append_eq rfl _ _ 29 rfl rfl rfl HR.out ?_)
      rw [← HW2.out]
      clear c0 c1 c2 c3 c4 d0 d1 d2 d3 d4 fd2
      go_upto_region 1 with (fail)
      go_region
      all_goals
        rw [HQ.out, ← HV0.out]
        clear e0 e1 e2 e3 e4
        go_upto_region 4 with (fail)
        rw [← HV1.out]
        clear j0 j1 j2 j3 j4 fj p1
        go_upto_region 5 with (fail)
        clear hclr k0 k1 k2 k3 k4
        go_wp2_with fail
        rw [← HV3.out]
        go_end0
        exact ⟨rfl, FE.out⟩
    · have HQ : Hid ((L.length : Int) - m = (q : Int) + 1) := by show _ = _; have := HQM.out; omega
      have hm2 : 1 ≤ m := by omega
      have hm3 : m ≤ (L.length : Int) := by have := HQM.out; omega
      clear HQM
      go_enter Try.func26, Try.ntmps26
      go_wp2_with (at_builtin; refine wpList_append_eq rfl _ _ 29 rfl rfl rfl HR.out ?_)
      rw [← HW2.out]
      clear c0 c1 c2 c3 c4 d0 d1 d2 d3 d4 fd2
      go_upto_region 1 with (fail)
      go_region
      all_goals
        rw [HQ.out, ← HV0.out]
        clear e0 e1 e2 e3 e4
        go_upto_region 4 with (fail)
        rw [← HV1.out]
        clear j0 j1 j2 j3 j4 fj p1
        go_upto_region 5 with (fail)
        clear hclr k0 k1 k2 k3 k4
        go_wp2_with fail
        rw [← HV3.out]
        go_end0
        exact ⟨rfl, FE.out⟩
end Go.Proofs.Ytneogelhdikcaaa.Nt

/- The contract of package note's Firing: at every outbox of the call's own; no other condition. -/
import Derived.Test.YtneogelhdikcaaaNtI
import Derived.Sort.OwnSorted
namespace Go.Proofs.Ytneogelhdikcaaa.Nt
open Go.RowKit Go.Lib Go.Maps Go.ChangeMaps Go.MapKept Go.WideMaps Go.Sort Go.Shelf
set_option linter.unusedSimpArgs false
set_option linter.unusedVariables false

theorem sort_eq {ks now : List Tx} (hnd : ks.Nodup) (hm : ∀ x, x ∈ ks ↔ x ∈ now) (ha : Asc now) : ks.mergeSort (fun x y => decide (x ≤ y)) = now := by
  have hp := List.mergeSort_perm ks (fun x y => decide (x ≤ y))
  have hs := List.pairwise_mergeSort (le := fun x y : Tx => decide (x ≤ y)) (fun a b c h1 h2 => decide_eq_true (List.le_trans (of_decide_eq_true h1) (of_decide_eq_true h2))) (fun a b => by
    rcases List.le_total a b with h | h
    · rw [decide_eq_true h]; rfl
    · rw [decide_eq_true h, Bool.or_true]) ks
  have hnd2 := hp.nodup_iff.2 hnd
  rw [List.nodup_iff_pairwise_ne] at hnd2
  have hasc : Asc (ks.mergeSort (fun x y => decide (x ≤ y))) := (hs.and hnd2).imp (fun {a b} h => (tlt_or h.2).resolve_right (List.not_lt.2 (of_decide_eq_true h.1)))
  exact hasc.ext ha (fun x => by rw [hp.mem_iff, hm])
/-- those listed so far -/
structure PartK (a : List Tx) (left : Lit → Bool) (l : List Tx) : Prop where
  nd : l.Nodup
  el : ∀ x, x ∈ l ↔ x ∈ a ∧ left (.string x) = false
theorem PartK.step {a : List Tx} {left : Lit → Bool} {l : List Tx} (h : PartK a left l) {x : Tx} (hl : left (.string x) = true) (ha : x ∈ a) : PartK a (fun k => left k && !k.sameKey (.string x)) (l ++ [x]) := by
  refine ⟨?_, fun y => ?_⟩
  · rw [List.nodup_append]
    refine ⟨h.nd, by simp, fun y hy z hz e => ?_⟩
    simp at hz
    have := (h.el y).1 hy
    rw [e, hz, hl] at this
    exact absurd this.2 (by decide)
  · rw [List.mem_append, h.el, List.mem_singleton]
    by_cases e : y = x
    · subst e
      constructor
      · rintro (⟨_, h2⟩ | _)
        · rw [hl] at h2; cases h2
        · exact ⟨ha, by simp [sk_self]⟩
      · intro _; exact .inr rfl
    · have hs := sk_ne e
      simp only [hs, Bool.not_false, Bool.and_true]
      constructor
      · rintro (h | rfl)
        · exact h
        · exact absurd rfl e
      · exact .inl
theorem PartK.start {a : List Tx} {D : DataW Unit} (h : ∀ k, Maps.has D (.string k) = decide (k ∈ a)) : PartK a (Maps.has D) [] := by
  refine ⟨by simp, fun y => ?_⟩
  rw [h]
  simp
set_option maxHeartbeats 1000000 in
theorem sortS_c (B : Nat) (v : Value) (ks : List Tx) (w : World) (h : w.ownsRow B 9 1 v ks.length (tC ks)) (hm : ks.length ≤ 1000000) :
    Calls Try.prog 28 #[v] w fun e w' => e = .returned (.tuple #[]) ∧ w'.ownsRow B 9 1 v ks.length (tC (ks.mergeSort (fun x y => decide (x ≤ y)))) ∧ w.grownBy w' v.ownBlock := by
  rcases h.2 with ⟨rfl, h0⟩ | ⟨g, cap, cur, rfl, hbase, hb, h1, h2, h3, h4⟩
  · have hk : ks = [] := List.eq_nil_of_length_eq_zero h0
    subst hk
    have hcon := AnyM.slices_Sort_string_none Try.sort28 none 0 w
    change Calls Try.prog 28 _ _ _ at hcon
    refine hcon.mono ?_
    rintro e w' ⟨rfl, rfl⟩
    exact ⟨rfl, by simpa using h, ⟨rfl, rfl, rfl, Nat.le_refl _, fun _ _ _ => rfl⟩⟩
  · have hg := (Array.getElem?_eq_some_iff.1 hb).1
    have hcon := AnyM.slices_Sort_string Try.sort28 g 0 cap ks w (holds_of_block hb (by rw [Nat.mul_one] at h4; exact h4)) hg (by omega)
    change Calls Try.prog 28 _ _ _ at hcon
    refine hcon.mono ?_
    rintro e w' ⟨rfl, n, os, rfl⟩
    exact ⟨rfl, ownsRow_sorted (List.length_mergeSort ks) hbase hb h1 h2 h3, grownBy_sorted _⟩
def FrQ (now : List Tx) (w : World) (e : Ending) (w' : World) : Prop := ∃ v, e = .returned v ∧ RdT v now w' ∧ Below w.heap.size w w'
set_option maxRecDepth 100000 in
set_option maxHeartbeats 1000000 in
theorem Firing_none {B c : Nat} {gb : Option Nat} {m : Int} {E : List Ent} {fl la : Int} {w : World} (h : IsOb B c gb none m [] E fl la w) : Calls Try.prog 16 #[.pointer (some ⟨c, 0, none⟩)] w (FrQ [] w) := by
  obtain ⟨v, hv, _, _⟩ := h.ex
  obtain ⟨c0, c1, c2, c3, c4⟩ := cells5 hv
  have hr := run_range_nilMap (P := Try.prog) w 52 9 65 Try.underlying52
  have hn := fun ty => run_next_nilMap (P := Try.prog) w ty 0 0 #[]
  have hb : Below w.heap.size w (w.alloc (.mapIter none 0 #[] 0)) := (Below.refl _ _).alloc (Nat.le_refl _) _
  have HB := Lib.hid hb
  have HS := Lib.hid (sortS_c 0 (.slice none 0 0) [] (w.alloc (.mapIter none 0 #[] 0)) (World.ownsRow_nil _ _ _ _) (by simp))
  clear hb h hv
  go_enter Try.func16, Try.ntmps16
  go_wp2
  refine wp_loop_rounds 1 ?_
  rw [rounds_succ]
  go_wp2_with fail
  refine HS.out.mono ?_
  rintro e w2 ⟨rfl, hO, hg⟩
  have HF : Hid (Below w.heap.size w w2) := HB.out.trans ⟨hg.os, hg.tape, hg.output, hg.size, fun k hk => hg.block k (Nat.lt_of_lt_of_le hk HB.out.size) (by simp [Value.ownBlock])⟩
  clear hO hg
  go_wp2
  go_ret
  exact ⟨_, rfl, Rd.nil _ _ _ _, HF.out⟩
set_option maxRecDepth 100000 in
set_option maxHeartbeats 4000000 in
theorem Firing_some {B c bb : Nat} {gb : Option Nat} {m : Int} {now : List Tx} {E : List Ent} {fl la : Int} {w : World} (h : IsOb B c gb (some bb) m now E fl la w) (hS : SetF bb now w) (ha : Asc now) : Calls Try.prog 16 #[.pointer (some ⟨c, 0, none⟩)] w (FrQ now w) := by
  obtain ⟨i1, hi0, hi1, hi2, hi3⟩ := info_parts infoT
  obtain ⟨vv, hv, _, _⟩ := h.ex
  obtain ⟨c0, c1, c2, c3, c4⟩ := cells5 hv
  obtain ⟨n, hn, D, hown0, hhas⟩ := hS
  obtain ⟨hown, hDn⟩ := owns_tight hown0
  have H0 : Hid (PartK now (Maps.has D) []) := PartK.start hhas
  have HAS := Lib.hid hhas
  have HA := Lib.hid ha
  have hbl := hown.lt
  obtain ⟨N, hN⟩ : ∃ N, N = Maps.size D := ⟨_, rfl⟩
  rw [← hN] at hown hDn
  have HN := Lib.hid hN
  have HO := Lib.hid hown
  clear hown hown0 hhas hN h hv ha
  go_enter Try.func16, Try.ntmps16
  go_wp2_with (at_range; refine wpList_range_own _ rfl _ _ rfl 9 65 strKeyed Try.underlying52 unitElem bb _ D rfl HO.out ?_; intro w2 hrg hg2 hs2; clear HO c0 c1 c2 c3 c4)
  try go_frame
  rw [← HN.out] at hrg
  obtain ⟨rb, hrb⟩ : ∃ rb, rb = w.heap.size := ⟨_, rfl⟩
  rw [← hrb] at hrg ⊢
  have HG2 : Hid (Below w.heap.size w w2) := ⟨hg2.os, hg2.tape, hg2.output, hg2.size, fun k hk => hg2.block k hk (by simp)⟩
  have HRB := Lib.hid hrb
  have HRG := Lib.hid hrg
  have HS2 : Hid (w.heap.size + 1 ≤ w2.heap.size) := by show _ ≤ _; omega
  clear hrg hg2 hs2 hrb
  go_loopw [3] (fun u wr => ∃ v l left ct, v = u ∧ Hid (PartK now left l) ∧ Hid (wr.ranges Try.prog 9 unitElem bb rb N D left ct) ∧ l.length + ct ≤ N ∧ Hid (wr.ownsRow (w.heap.size + 1) 9 1 v l.length (tC l)) ∧ Hid (Below w.heap.size w wr) ∧ Hid (w.heap.size + 1 ≤ wr.heap.size)) (fun _ wr => wr.rangeLeft bb rb)
  case atStart => exact ⟨_, [], _, _, rfl, H0, HRG, by simp, World.ownsRow_nil _ _ _ _, HG2, HS2⟩
  case round =>
    obtain ⟨v, l, left, ct, rfl, HP, HR, hlct, HOW, HBW, HSZ⟩ := hrel
    clear HRG HG2 H0 HS2
    go_wp2_with (at_next; refine wpList_next_set _ rfl _ rfl bb rb N D left ct rfl HR.out ?_ ?_)
    · intro _ hl0
      have hlm : l.mergeSort (fun x y => decide (x ≤ y)) = now := sort_eq HP.out.nd (fun x => by rw [HP.out.el, hl0]; simp) HA.out
      have HS := Lib.hid (sortS_c _ v l wr HOW.out (by omega))
      rw [hlm] at HS
      have hln : now.length = l.length := by rw [← hlm, List.length_mergeSort]
      have HLN := Lib.hid hln
      have HVL := Lib.hid HOW.out.lt
      clear hlm hln HP HR HOW
      go_wp2_with fail
      refine HS.out.mono ?_
      rintro e w9 ⟨rfl, hO, hg⟩
      have HF : Hid (Below w.heap.size w w9) := HBW.out.trans ⟨hg.os, hg.tape, hg.output, hg.size, fun k hk => hg.block k (Nat.lt_of_lt_of_le hk HBW.out.size) (fun e => by have := (HVL.out k e.symm).1; omega)⟩
      have HRD : Hid (RdT v now w9) := (own_rd hO).len HLN.out.symm
      clear hO hg HS HVL
      go_wp2
      go_ret
      exact ⟨_, rfl, HRD.out, HF.out⟩
    · intro x w3 ct' hwx hlx hhx hrg3 hlt hg3 hs3 hen
      have hxa : x ∈ now := by have := HAS.out x; rw [hhx] at this; simpa using this.symm
      have HB3 : Hid (Below w.heap.size w w3) := ⟨hg3.os.trans HBW.out.os, hg3.tape.trans HBW.out.tape, hg3.output.trans HBW.out.output, by rw [hs3]; exact HBW.out.size, fun k hk => by
        rw [hg3.block k (Nat.lt_of_lt_of_le hk HBW.out.size) (fun e => by injection e with e; have := HRB.out; omega)]
        exact HBW.out.block k hk⟩
      have HO3 : Hid (w3.ownsRow (w.heap.size + 1) 9 1 v l.length (tC l)) := HOW.out.kept hg3 (by
        cases e : v.ownBlock with
        | none => exact .inl rfl
        | some q =>
          refine .inr (fun e2 => ?_)
          injection e2 with e2
          have := (HOW.out.lt q e).1
          have := HRB.out
          omega)
      have hsz3 : w.heap.size + 1 ≤ w3.heap.size := by rw [hs3]; exact HSZ.out
      have HLT : Hid (ct' < wr.rangeLeft bb rb) := by show _ < _; rw [HR.out.left_eq]; exact hlt
      have HP4 := Lib.hid (HP.out.step hlx hxa)
      obtain ⟨WB, hWB, hkB, hbB⟩ := new1 w3 (.string (mkS x)) 9
      have HOB := Lib.hid (own_go HO3.out hbB)
      have HCB : Hid (∀ j u, (encT x)[j]? = some u → WB.cell? ((⟨w3.heap.size, 0, none⟩ : Addr).add j) = some u) := World.news_of_block (cs := #[.string (mkS x)]) hkB
      have HRB4 : Hid (WB.ranges Try.prog 9 unitElem bb rb N D (fun k => left k && !k.sameKey (.string x)) ct') := by rw [hWB]; exact hrg3.alloc _
      have HBB : Hid (Below w.heap.size w WB) := HB3.out.trans (hbB.mono HB3.out.size)
      have HWB := Lib.hid hWB
      have d1 : Hid (l.length + 1 ≤ maxLen) := by show _ ≤ _; unfold maxLen; omega
      have d2 : Hid ((l.length + 1) * 16 ≤ 140737488355328) := by show _ ≤ _; omega
      have d3 : Hid (w.heap.size + 1 ≤ WB.heap.size) := Nat.le_trans hsz3 hbB.size
      clear hrg3 hg3 hs3 hsz3 hwx hlx hhx HP HR HOW HBW HSZ HO3 hWB hkB hbB
      go_upto_region 7 with (fail)
      clear hen
      go_wp2_with (at_builtin; rw [← HWB.out]; refine wpList_append_lies _ rfl _ _ 27 rfl (w.heap.size + 1) 9 i1 _ 1 16 Try.underlying27 hi0 hi1 hi2 hi3 rfl (by decide) _ _ _ rfl HOB.out ⟨w3.heap.size, 0, none⟩ 1 1 (encT x) rfl rfl HCB.out (encT_ok _) (by decide) d1.out d2.out d3.out _ rfl ?_)
      intro g cap w5 hown5 hgr5 hat5 hlt5
      have HO5 : Hid (w5.ownsRow (w.heap.size + 1) 9 1 (.slice (some ⟨g, 0, none⟩) (l.length + 1) cap) (l ++ [x]).length (tC (l ++ [x]))) := by
        show World.ownsRow _ _ _ _ _ _ _
        rw [List.length_append, tC_snoc]; exact hown5
      have hvr : v.ownBlock ≠ some rb ∧ v.ownBlock ≠ some bb ∧ (∀ k, v.ownBlock = some k → w.heap.size ≤ k) := by
        refine ⟨fun e => ?_, fun e => ?_, fun k e => ?_⟩
        · have := (HOB.out.lt _ e).1; have := HRB.out; omega
        · have := (HOB.out.lt _ e).1; omega
        · have := (HOB.out.lt _ e).1; omega
      have HR5 := Lib.hid (HRB4.out.kept hgr5 (Ne.symm hvr.2.1) (Ne.symm hvr.1))
      have HB5 : Hid (Below w.heap.size w w5) := HBB.out.trans ⟨hgr5.os, hgr5.tape, hgr5.output, hgr5.size, fun k hk => hgr5.block k (Nat.lt_of_lt_of_le hk HBB.out.size) (fun e => by have := hvr.2.2 k e.symm; omega)⟩
      have HS5 : Hid (w.heap.size + 1 ≤ w5.heap.size) := Nat.le_trans d3.out hgr5.size
      clear hown5 hgr5 hat5 hlt5 hvr HOB HCB HRB4 HBB
      go_wp2
      go_roundw
      case rel => exact ⟨_, l ++ [x], _, ct', rfl, HP4, HR5, by simp; omega, HO5, HB5, HS5⟩
      case measure => rw [HR5.out.left_eq]; exact HLT.out
theorem Firing_c {B c : Nat} {gb mb : Option Nat} {m : Int} {now : List Tx} {E : List Ent} {fl la : Int} {w : World} (h : IsOb B c gb mb m now E fl la w) (ha : Asc now) : Calls Try.prog 16 #[.pointer (some ⟨c, 0, none⟩)] w (FrQ now w) := by
  rcases h.mp with ⟨rfl, rfl⟩ | ⟨bb, rfl, hS⟩
  · exact Firing_none h
  · exact Firing_some h hS ha
end Go.Proofs.Ytneogelhdikcaaa.Nt

/- The contract of package pct's Query: for every text of at most five hundred bytes. -/
import Derived.Test.YtflhapnanhbcgaaDoorPcPair
import Derived.Deep.Onto
namespace Go.Proofs.YtflhapnanhbcgaaDoor.Pc
open Go.RowKit Jt
set_option linter.unusedSimpArgs false
set_option linter.unusedVariables false

def qryF : List (List UInt8) → Option (List PairL)
  | [] => some []
  | p :: ps => if p = [] then qryF ps else match pairL p with
    | none => none
    | some x => (qryF ps).map (x :: ·)
def qryL (l : List UInt8) : Option (List PairL) := qryF (Ch.cutL 38 l)
def prC (ps : List PairL) : List Value := ps.flatMap fun x => [.string (mkS x.1), .string (mkS x.2)]
theorem prC_snoc (ps : List PairL) (x : PairL) : prC (ps ++ [x]) = prC ps ++ [.string (mkS x.1), .string (mkS x.2)] := by unfold prC; rw [List.flatMap_append, List.flatMap_singleton]
theorem prC_len (ps : List PairL) : (prC ps).length = ps.length * 2 := by
  induction ps with
  | nil => rfl
  | cons x ps ih => show (_ :: _ :: prC ps).length = _; rw [List.length_cons, List.length_cons, ih, List.length_cons]; omega
/-- a slice of pairs of the call's own -/
def OwP (T : TypeId) (B : Nat) (v : Value) (ps : List PairL) (w : World) : Prop := w.ownsRow B T 2 v ps.length (prC ps)
theorem OwP.go {T : TypeId} {B : Nat} {v : Value} {ps : List PairL} {w w' : World} (h : OwP T B v ps w) (hb : Below w.heap.size w w') : OwP T B v ps w' :=
  World.ownsRow.kept h (row := none) ⟨hb.os, hb.tape, hb.output, hb.size, fun k hk _ => hb.block k hk⟩ (by cases hv : v.ownBlock <;> simp)
/-- what is kept behind k parts -/
def QyE (ps : List (List UInt8)) (k : Nat) (acc : List PairL) : Prop := k ≤ ps.length ∧ acc.length ≤ k ∧ qryF ps = (qryF (ps.drop k)).map (acc ++ ·)
theorem qye_start (ps : List (List UInt8)) : QyE ps 0 [] := ⟨by omega, by simp, by simp⟩
theorem qye_end {ps : List (List UInt8)} {k : Nat} {acc : List PairL} (h : QyE ps k acc) (hk : ps.length ≤ k) : qryF ps = some acc := by
  rw [h.2.2, List.drop_eq_nil_of_le hk]; simp [qryF]
theorem qye_skip {ps : List (List UInt8)} {k : Nat} {acc : List PairL} (h : QyE ps k acc) (hk : k < ps.length) (he : ps[k] = []) : QyE ps (k + 1) acc := by
  refine ⟨by omega, by have := h.2.1; omega, ?_⟩
  rw [h.2.2, List.drop_eq_getElem_cons hk, qryF, if_pos he]
theorem qye_step {ps : List (List UInt8)} {k : Nat} {acc : List PairL} {x : PairL} (h : QyE ps k acc) (hk : k < ps.length) (he : ps[k] ≠ []) (hx : pairL ps[k] = some x) : QyE ps (k + 1) (acc ++ [x]) := by
  refine ⟨by omega, by rw [List.length_append]; have := h.2.1; simp; omega, ?_⟩
  rw [h.2.2, List.drop_eq_getElem_cons hk, qryF, if_neg he, hx]
  cases qryF (ps.drop (k + 1)) <;> simp
theorem qye_bad {ps : List (List UInt8)} {k : Nat} {acc : List PairL} (h : QyE ps k acc) (hk : k < ps.length) (he : ps[k] ≠ []) (hx : pairL ps[k] = none) : qryF ps = none := by
  rw [h.2.2, List.drop_eq_getElem_cons hk, qryF, if_neg he, hx]; rfl
def QyQ (q : Option (List PairL)) (w : World) (e : Ending) (w' : World) : Prop :=
  (match q with | none => e = .returned (.tuple #[.slice none 0 0, .int .i64 3]) | some ps => ∃ v, e = .returned (.tuple #[v, .int .i64 0]) ∧ OwP 28 w.heap.size v ps w') ∧ Below w.heap.size w w'
theorem qyq_no {q : Option (List PairL)} {w : World} {e : Ending} {w' : World} (h : q = none) (he : e = .returned (.tuple #[.slice none 0 0, .int .i64 3])) (hb : Below w.heap.size w w') : QyQ q w e w' := by subst h; exact ⟨he, hb⟩
theorem qyq_some {q : Option (List PairL)} {ps : List PairL} {w : World} {e : Ending} {w' : World} {v : Value} (h : q = some ps) (he : e = .returned (.tuple #[v, .int .i64 0])) (ho : OwP 28 w.heap.size v ps w') (hb : Below w.heap.size w w') : QyQ q w e w' := by subst h; exact ⟨⟨v, he, ho⟩, hb⟩
theorem strs_at (ps : List (List UInt8)) (k : Nat) (h : k < ps.length) : (strsC ps)[k]? = some (.string (mkS ps[k])) := by
  unfold strsC
  rw [List.getElem?_toArray, List.getElem?_map, List.getElem?_eq_getElem h]; rfl
theorem infoP : (Tryd.prog.info? 28).map (fun i => (i.zero, i.size, i.bytes)) = some (some (.agg #[.string ⟨#[]⟩, .string ⟨#[]⟩]), 2, 32) := by kernel_rfl
set_option maxRecDepth 100000 in
set_option maxHeartbeats 8000000 in
theorem Query_c (s : ByteArray) (w : World) (hs : s.size ≤ 20000) : Calls Tryd.prog 20 #[.string s] w (QyQ (qryL s.data.toList) w) := by
  have HC := Lib.hid (fun W => split_c s 38 W (by omega))
  obtain ⟨i0, hi, hz0, hz1, hz2⟩ := info_parts infoP
  have hpl : ∀ p ∈ Ch.cutL 38 s.data.toList, p.length ≤ 20000 := fun p hp => by have := Ch.cutL_part 38 s.data.toList p hp; rw [← size_l] at this; omega
  have hcl : (Ch.cutL 38 s.data.toList).length ≤ 20001 := by have := Ch.cutL_len 38 s.data.toList; rw [← size_l] at this; omega
  unfold qryL
  revert HC hpl hcl
  generalize Ch.cutL 38 s.data.toList = ps
  intro HC hpl hcl
  have HPL := Lib.hid hpl
  clear hpl
  have HS0 := Lib.hid (qye_start ps)
  have HBA := Lib.hid ((Below.refl w.heap.size w).alloc (Nat.le_refl _) (.cells (strsC ps) 9))
  have HKA := Lib.hid (heap_alloc_new w (.cells (strsC ps) 9))
  have hsz : (w.alloc (.cells (strsC ps) 9)).heap.size = w.heap.size + 1 := by simp
  go_enter Tryd.func20, Tryd.ntmps20
  go_wp2_with (go_at_call 18; refine (HC.out _).mono ?_; rintro e w' ⟨rfl, rfl⟩)
  clear HC
  revert HBA HKA hsz
  generalize w.alloc (.cells (strsC ps) 9) = wa
  intro HBA HKA hsz
  go_loopw [4, 12] (fun vl v wr => ∃ (k : Nat) (acc : List PairL), v = .int .i64 (k : Int) ∧ QyE ps k acc ∧ OwP 28 wa.heap.size vl acc wr ∧ Below wa.heap.size wa wr) (fun _ v _ => ps.length - (intOf v).toNat)
  case atStart => exact ⟨0, [], rfl, HS0.out, World.ownsRow_nil _ _ _ _, Below.refl _ _⟩
  case round =>
    clear HS0
    obtain ⟨k, acc, rfl, hQ, hown, hB⟩ := hrel
    have hk : k ≤ ps.length := hQ.1
    have hac : acc.length ≤ k := hQ.2.1
    have HQ := Lib.hid hQ
    have HO := Lib.hid hown
    have HB := Lib.hid hB
    have HWR : Hid (Below w.heap.size w wr) := HBA.out.trans (hB.mono (by omega))
    have HKR : Hid (wr.heap[w.heap.size]? = some (.cells (strsC ps) 9 (0, 0))) := (hB.block w.heap.size (by omega)).trans HKA.out
    obtain ⟨ao, n1, cap, rfl⟩ := own_sl hown
    clear hQ hown hB
    by_cases hlt : k < ps.length
    · have hcell : wr.cell? ⟨w.heap.size, k, none⟩ = some (.string (mkS ps[k])) := (cell_of_row _ _ k _ _ _ HKR.out).trans (strs_at ps k hlt)
      have HPC := Lib.hid (fun W => pair_c (mkS ps[k]) W (by rw [size_mkS]; exact HPL.out _ (List.getElem_mem _)))
      rw [data_mkS] at HPC
      by_cases he : ps[k] = []
      · have HQ1 := Lib.hid (qye_skip HQ.out hlt he)
        have hem : (mkS ps[k]).toList.isEmpty = true := by rw [he, Lib.toList_data]; rfl
        clear he HPC
        revert hcell hem
        generalize mkS ps[k] = t
        intro hcell hem
        go_wp2
        go_roundw
        case rel => exact ⟨k + 1, acc, by go_num, HQ1.out, HO.out, HB.out⟩
        case measure => simp [intOf]; omega
      · have hem : (mkS ps[k]).toList.isEmpty = false := by
          rw [Lib.toList_data, data_mkS]
          cases h : ps[k] with
          | nil => exact absurd h he
          | cons => rfl
        cases hx : pairL ps[k] with
        | none =>
          have HQ1 := Lib.hid (qye_bad HQ.out hlt he hx)
          simp only [prV, hx] at HPC
          clear he hx
          revert hcell hem HPC
          generalize mkS ps[k] = t
          intro hcell hem HPC
          go_wp2_with fail
          refine (HPC.out _).mono ?_
          rintro e w2 ⟨rfl, hb2⟩
          have HB2 : Hid (Below w.heap.size w w2) := HWR.out.trans (hb2.mono HWR.out.size)
          clear hb2
          go_wp2
          go_ret2
          exact qyq_no HQ1.out rfl (HB2.out.alloc HB2.out.size _)
        | some x =>
          have HQ1 := Lib.hid (qye_step HQ.out hlt he hx)
          simp only [prV, hx, prA] at HPC
          obtain ⟨xa, xb⟩ := x
          simp only at HPC
          clear he hx
          revert hcell hem HPC
          generalize mkS ps[k] = t
          intro hcell hem HPC
          go_wp2_with fail
          refine (HPC.out _).mono ?_
          rintro e w2 ⟨rfl, hb2⟩
          have HB2 : Hid (Below wa.heap.size wa w2) := HB.out.trans (hb2.mono HB.out.size)
          have HO2 := Lib.hid (HO.out.go hb2)
          clear hb2
          have HD : Hid (∃ W2, W2 = (w2.alloc (.cells #[.string (mkS xa), .string (mkS xb)] 28)).alloc (.cells #[.string (mkS xa), .string (mkS xb)] 28) ∧ W2.heap[w2.heap.size + 1]? = some (.cells #[.string (mkS xa), .string (mkS xb)] 28 (0, 0)) ∧ Below w2.heap.size w2 W2) := by
            refine ⟨_, rfl, ?_, ((Below.refl _ _).alloc (Nat.le_refl _) _).alloc (by simp) _⟩
            have := heap_alloc_new (w2.alloc (.cells #[.string (mkS xa), .string (mkS xb)] 28)) (.cells #[.string (mkS xa), .string (mkS xb)] 28)
            simpa using this
          obtain ⟨W2, hW2, hk3, hbW⟩ := HD.out
          have HK3 := Lib.hid hk3
          have HBW := Lib.hid hbW
          have HOW := Lib.hid (HO2.out.go hbW)
          have HW2 := Lib.hid hW2
          clear HD hk3 hbW hW2
          go_wp2_with (at_builtin; rw [← HW2.out]; refine wpList_append_own _ rfl _ _ 24 rfl wa.heap.size 28 i0 _ 2 32 Tryd.underlying24 hi hz0 hz1 hz2 rfl (by decide) _ _ _ rfl HOW.out ⟨w2.heap.size + 1, 0, none⟩ 1 1 [.string (mkS xa), .string (mkS xb)] rfl rfl ?c1 ?c2 ?c3 ?c4 ?c5 ?_)
          case c1 =>
            intro j u hj
            have hj5 : j < 2 := by
              rcases Nat.lt_or_ge j 2 with h | h
              · exact h
              · rw [List.getElem?_eq_none (by show 2 ≤ j; exact h)] at hj; cases hj
            have ea : (⟨w2.heap.size + 1, 0, none⟩ : Addr).add j = ⟨w2.heap.size + 1, j, none⟩ := by unfold Addr.add; split <;> simp_all
            rw [ea, cell_of_row _ _ j _ _ _ HK3.out]
            match j, hj5 with
            | 0, _ => exact hj
            | 1, _ => exact hj
          case c2 => intro u hu; simp at hu; rcases hu with rfl | rfl <;> rfl
          case c3 => unfold maxLen; omega
          case c4 => omega
          case c5 => have := HB2.out.size; have := HBW.out.size; omega
          intro v' w5 hown' hgrow _
          have HO5 : Hid (OwP 28 wa.heap.size v' (acc ++ [(xa, xb)]) w5) := by
            show OwP 28 wa.heap.size v' (acc ++ [(xa, xb)]) w5
            unfold OwP
            rw [prC_snoc, List.length_append]
            rw [hsz]; exact hown'
          have HB5 : Hid (Below wa.heap.size wa w5) := by
            have hb := HB2.out.trans (HBW.out.mono HB2.out.size)
            exact hb.grown hgrow hb.size (fun k hk => (HOW.out.lt k hk).1)
          clear hown' hgrow
          go_wp2
          go_roundw
          case rel => exact ⟨k + 1, acc ++ [(xa, xb)], by go_num, HQ1.out, HO5.out, HB5.out⟩
          case measure => simp [intOf]; omega
    · have HQ1 := Lib.hid (qye_end HQ.out (by omega))
      go_wp2
      go_ret2
      exact qyq_some HQ1.out rfl (World.ownsRow.mono HO.out (by omega)) HWR.out
end Go.Proofs.YtflhapnanhbcgaaDoor.Pc

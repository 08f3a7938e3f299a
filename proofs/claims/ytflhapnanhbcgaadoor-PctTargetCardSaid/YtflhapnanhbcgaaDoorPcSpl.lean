/- The contract of package pct's Split: for every text of at most five hundred bytes. -/
import Derived.Test.YtflhapnanhbcgaaDoorPcQry
namespace Go.Proofs.YtflhapnanhbcgaaDoor.Pc
open Go.RowKit Jt
set_option linter.unusedSimpArgs false
set_option linter.unusedVariables false

def dcA : List (List UInt8) → Option (List (List UInt8))
  | [] => some []
  | p :: ps => match decL false p with
    | none => none
    | some d => (dcA ps).map (d :: ·)
def spl2 (ps : Option (List (List UInt8))) (q : Option (List PairL)) : Option (List (List UInt8) × List PairL) := match ps, q with
  | some a, some b => some (a, b)
  | _, _ => none
def splR (r : List UInt8) : Option (List (List UInt8) × List PairL) := spl2 (dcA (Ch.cutL 47 (cutP 63 r).1)) (qryL (cutP 63 r).2)
def splL (l : List UInt8) : Option (List (List UInt8) × List PairL) := if l.headD 0 = 47 then splR (l.drop 1) else none
/-- what is kept behind k parts -/
def DaE (ps : List (List UInt8)) (k : Nat) (ds : List (List UInt8)) : Prop := k ≤ ps.length ∧ ds.length = k ∧ dcA ps = (dcA (ps.drop k)).map (ds ++ ·)
theorem dae_start (ps : List (List UInt8)) : DaE ps 0 [] := ⟨by omega, by simp, by simp⟩
theorem dae_end {ps ds : List (List UInt8)} {k : Nat} (h : DaE ps k ds) (hk : ps.length ≤ k) : dcA ps = some ds := by rw [h.2.2, List.drop_eq_nil_of_le hk]; simp [dcA]
theorem dae_step {ps ds : List (List UInt8)} {k : Nat} {d : List UInt8} (h : DaE ps k ds) (hk : k < ps.length) (hx : decL false ps[k] = some d) : DaE ps (k + 1) (ds ++ [d]) := by
  refine ⟨by omega, by rw [List.length_append, h.2.1]; rfl, ?_⟩
  rw [h.2.2, List.drop_eq_getElem_cons hk, dcA, hx]
  cases dcA (ps.drop (k + 1)) <;> simp
theorem dae_bad {ps ds : List (List UInt8)} {k : Nat} (h : DaE ps k ds) (hk : k < ps.length) (hx : decL false ps[k] = none) : dcA ps = none := by
  rw [h.2.2, List.drop_eq_getElem_cons hk, dcA, hx]; rfl
theorem strs_len (ps : List (List UInt8)) : (strsC ps).size = ps.length := by unfold strsC; simp
theorem strs_mid {ps ds : List (List UInt8)} {k : Nat} (hd : ds.length = k) (hk : k < ps.length) : (strsC (ds ++ ps.drop k))[k]? = some (.string (mkS ps[k])) := by
  have hl : k < (ds ++ ps.drop k).length := by rw [List.length_append, List.length_drop]; omega
  rw [strs_at _ k hl]
  congr 3
  rw [List.getElem_append_right (by omega)]
  simp [hd]
theorem strs_set {ps ds : List (List UInt8)} {k : Nat} (hd : ds.length = k) (hk : k < ps.length) (d : List UInt8) : (strsC (ds ++ ps.drop k)).setIfInBounds k (.string (mkS d)) = strsC ((ds ++ [d]) ++ ps.drop (k + 1)) := by
  unfold strsC
  rw [List.drop_eq_getElem_cons hk, List.setIfInBounds_toArray, List.map_append, List.map_cons, List.set_append_right _ _ (by rw [List.length_map]; omega)]
  simp [hd]
def stV (ps : List (List UInt8)) : List Value := ps.map (fun p => Value.string (mkS p))
/-- a slice of texts of the call's own -/
def OwS (B : Nat) (v : Value) (ps : List (List UInt8)) (w : World) : Prop := w.ownsRow B 9 1 v ps.length (stV ps)
theorem OwS.go {B : Nat} {v : Value} {ps : List (List UInt8)} {w w' : World} (h : OwS B v ps w) (hb : Below w.heap.size w w') : OwS B v ps w' :=
  World.ownsRow.kept h (row := none) ⟨hb.os, hb.tape, hb.output, hb.size, fun k hk _ => hb.block k hk⟩ (by cases hv : v.ownBlock <;> simp)
theorem ows_of {B g : Nat} {ps : List (List UInt8)} {w : World} (h : w.heap[g]? = some (.cells (strsC ps) 9 (0, 0))) (hB : B ≤ g) (hm : ps.length ≤ 50000) : OwS B (.slice (some ⟨g, 0, none⟩) ps.length ps.length) ps w := by
  exact ⟨by unfold stV; simp, .inr ⟨g, ps.length, strsC ps, rfl, hB, h, Nat.le_refl _, by unfold maxLen; omega, by rw [strs_len]; omega, by unfold strsC stV; simp; exact List.take_of_length_le (by simp)⟩⟩
def SpQ (q : Option (List (List UInt8) × List PairL)) (w : World) (e : Ending) (w' : World) : Prop :=
  (match q with | none => e = .returned (.tuple #[.slice none 0 0, .slice none 0 0, .int .i64 3]) | some x => ∃ v u, e = .returned (.tuple #[v, u, .int .i64 0]) ∧ OwS w.heap.size v x.1 w' ∧ OwP 28 w.heap.size u x.2 w') ∧ Below w.heap.size w w'
theorem spq_no {q : Option (List (List UInt8) × List PairL)} {w : World} {e : Ending} {w' : World} (h : q = none) (he : e = .returned (.tuple #[.slice none 0 0, .slice none 0 0, .int .i64 3])) (hb : Below w.heap.size w w') : SpQ q w e w' := by subst h; exact ⟨he, hb⟩
theorem spq_some {q : Option (List (List UInt8) × List PairL)} {a : List (List UInt8)} {b : List PairL} {w : World} {e : Ending} {w' : World} {v u : Value} (h : q = some (a, b)) (he : e = .returned (.tuple #[v, u, .int .i64 0])) (ho : OwS w.heap.size v a w') (hp : OwP 28 w.heap.size u b w') (hb : Below w.heap.size w w') : SpQ q w e w' := by subst h; exact ⟨⟨v, u, he, ho, hp⟩, hb⟩
theorem pre_one (l : List UInt8) : Lib.hasPrefix l [47] = decide (l.headD 0 = 47) ∧ (l.headD 0 = 47 → Lib.trimPrefix l [47] = l.drop 1) := by
  cases l with
  | nil => exact ⟨rfl, fun h => by simp at h⟩
  | cons c r =>
    constructor
    · unfold Lib.hasPrefix
      by_cases hc : c = 47
      · subst hc; rfl
      · have h2 : ((47 : UInt8) == c) = false := by simpa using fun e => hc e.symm
        simp [List.isPrefixOf, h2, hc]
    · intro h
      simp at h
      subst h
      rfl
theorem pref_c (s : ByteArray) (w : World) : Calls Tryd.prog 16 #[.string s, .string ⟨#[47]⟩] w fun e w' => e = .returned (.tuple #[.string ⟨(Lib.trimPrefix s.data.toList [47]).toArray⟩, .bool (Lib.hasPrefix s.data.toList [47])]) ∧ w' = w := Any.strings_CutPrefix Tryd.lays103 s ⟨#[47]⟩ w
set_option maxRecDepth 100000 in
set_option maxHeartbeats 8000000 in
theorem Split_c (s : ByteArray) (w : World) (hs : s.size ≤ 20000) : Calls Tryd.prog 7 #[.string s] w (SpQ (splL s.data.toList) w) := by
  have HP := Lib.hid (fun W => pref_c s W)
  by_cases h47 : s.data.toList.headD 0 = 47
  · have e1 : splL s.data.toList = splR (s.data.toList.drop 1) := by unfold splL; rw [if_pos h47]
    rw [e1]
    rw [(pre_one _).2 h47, (pre_one _).1, decide_eq_true h47] at HP
    have hlen : (s.data.toList.drop 1).length ≤ 20000 := by rw [List.length_drop, ← size_l]; omega
    clear e1 h47
    revert HP hlen
    generalize s.data.toList.drop 1 = r
    intro HP hlen
    have HC := Lib.hid (fun W => cut_c (mkS r) 63 W (by rw [size_mkS]; omega))
    rw [data_mkS] at HC
    have hl := cutP_len 63 r
    unfold splR
    unfold cutV at HC
    revert HC hl
    generalize decide (63 ∈ r) = fd
    generalize cutP 63 r = ab
    intro HC hl
    obtain ⟨a, b⟩ := ab
    simp only at HC hl ⊢
    have HS := Lib.hid (fun W => split_c (mkS a) 47 W (by rw [size_mkS]; omega))
    rw [data_mkS] at HS
    have hcl : (Ch.cutL 47 a).length ≤ 20001 := by have := Ch.cutL_len 47 a; omega
    have HPL : Hid (∀ p ∈ Ch.cutL 47 a, p.length ≤ 20000) := fun p hp => by have := Ch.cutL_part 47 a p hp; omega
    revert HS hcl HPL
    generalize Ch.cutL 47 a = ps
    intro HS hcl HPL
    have HQC := Lib.hid (fun W => Query_c (mkS b) W (by rw [size_mkS]; omega))
    rw [data_mkS] at HQC
    revert HQC
    generalize qryL b = qq
    intro HQC
    generalize mkS a = sa at HC HS ⊢
    generalize mkS b = sb at HC HQC ⊢
    clear hl
    have hz : ∀ n, (w.drewN n).heap.size = w.heap.size := fun _ => rfl
    have HBA : Hid (∀ n, Below w.heap.size w ((w.drewN n).alloc (.cells (strsC ps) 9))) := fun n => (bdrw (Below.refl w.heap.size w) n).alloc (Nat.le_refl _) _
    have HKA : Hid (∀ n, ((w.drewN n).alloc (.cells (strsC ps) 9)).heap[w.heap.size]? = some (.cells (strsC ([] ++ ps.drop 0)) 9 (0, 0))) := fun n => heap_alloc_new (w.drewN n) _
    go_enter Tryd.func7, Tryd.ntmps7
    go_wp2_with (first | (go_at_call 16; refine (HP.out _).mono ?_; rintro e w' ⟨rfl, hw⟩; rw [hw]; clear hw) | (go_at_call 17; refine (HC.out _).mono ?_; rintro e w' ⟨rfl, n, hw⟩; rw [hw]; clear hw) | (go_at_call 18; refine (HS.out _).mono ?_; rintro e w' ⟨rfl, hw⟩; rw [hw]; clear hw))
    clear HP HC HS
    have HBB := Lib.hid (HBA.out n)
    have HKB := Lib.hid (HKA.out n)
    clear HBA HKA
    revert HBB HKB
    generalize (w.drewN n).alloc (.cells (strsC ps) 9) = wa
    intro HBB HKB
    have HS0 := Lib.hid (dae_start ps)
    go_loopw [34] (fun v wr => ∃ (k : Nat) (ds : List (List UInt8)), v = .int .i64 (k : Int) ∧ DaE ps k ds ∧ wr.heap[w.heap.size]? = some (.cells (strsC (ds ++ ps.drop k)) 9 (0, 0)) ∧ Below w.heap.size w wr) (fun v _ => ps.length - (intOf v).toNat)
    case atStart => exact ⟨0, [], rfl, HS0.out, HKB.out, HBB.out⟩
    case round =>
      clear HS0 HBB HKB
      obtain ⟨k, ds, rfl, hD, hK, hB⟩ := hrel
      have hk : k ≤ ps.length := hD.1
      have hdl : ds.length = k := hD.2.1
      have HD := Lib.hid hD
      have HK := Lib.hid hK
      have HB := Lib.hid hB
      clear hD hK hB
      by_cases hlt : k < ps.length
      · have hcell : wr.cell? ⟨w.heap.size, k, none⟩ = some (.string (mkS ps[k])) := (cell_of_row _ _ k _ _ _ HK.out).trans (strs_mid hdl hlt)
        have HDC := Lib.hid (fun W => Decode_c (mkS ps[k]) false W (by rw [size_mkS]; exact HPL.out _ (List.getElem_mem _)))
        rw [data_mkS] at HDC
        cases hx : decL false ps[k] with
        | none =>
          have HN := Lib.hid (dae_bad HD.out hlt hx)
          simp only [decV, hx] at HDC
          clear hx
          revert hcell HDC
          generalize mkS ps[k] = t
          intro hcell HDC
          go_wp2_with fail
          refine (HDC.out _).mono ?_
          rintro e w2 ⟨rfl, hb2⟩
          have HB2 : Hid (Below w.heap.size w w2) := HB.out.trans (hb2.mono HB.out.size)
          clear hb2
          go_wp2
          go_ret3
          exact spq_no (by rw [HN.out]; rfl) rfl HB2.out
        | some d =>
          have HD1 := Lib.hid (dae_step HD.out hlt hx)
          simp only [decV, hx] at HDC
          clear hx
          revert hcell HDC
          generalize mkS ps[k] = t
          intro hcell HDC
          go_wp2_with fail
          refine (HDC.out _).mono ?_
          rintro e w2 ⟨rfl, hb2⟩
          have HB2 : Hid (Below w.heap.size w w2) := HB.out.trans (hb2.mono HB.out.size)
          have HK2 : Hid (w2.heap[w.heap.size]? = _) := (hb2.block w.heap.size (Array.getElem?_eq_some_iff.1 HK.out).1).trans HK.out
          clear hb2
          have c0 : w2.cell? ⟨w.heap.size, k, none⟩ = some (.string (mkS ps[k])) := (cell_of_row _ _ k _ _ _ HK2.out).trans (strs_mid hdl hlt)
          have z0 := frz2 HK2.out k
          have HK3 : Hid ((w2.setCell ⟨w.heap.size, k, none⟩ (.string (mkS d))).heap[w.heap.size]? = _) := (blk_set HK2.out k (.string (mkS d))).trans (by rw [strs_set hdl hlt])
          have HB3 : Hid (Below w.heap.size w (w2.setCell ⟨w.heap.size, k, none⟩ (.string (mkS d)))) := HB2.out.setCell (p := ⟨w.heap.size, k, none⟩) (Nat.le_refl _) _
          go_wp2
          go_roundw
          case rel => exact ⟨k + 1, ds ++ [d], by go_num, HD1.out, HK3.out, HB3.out⟩
          case measure => simp [intOf]; omega
      · have HE := Lib.hid (dae_end HD.out (by omega))
        have hkl : k = ps.length := by omega
        have HOW : Hid (OwS w.heap.size (.slice (some ⟨w.heap.size, 0, none⟩) ps.length ps.length) ds wr) := by
          show OwS _ _ _ _
          have h1 : ps.length = ds.length := by omega
          rw [h1]
          have h2 := HK.out
          rw [List.drop_eq_nil_of_le (by omega), List.append_nil] at h2
          exact ows_of h2 (Nat.le_refl _) (by omega)
        go_wp2_with fail
        refine (HQC.out _).mono ?_
        intro e w2 hq
        obtain ⟨hq, hb2⟩ := hq
        have HB2 : Hid (Below w.heap.size w w2) := HB.out.trans (hb2.mono HB.out.size)
        have HO2 := Lib.hid (HOW.out.go hb2)
        have hsz : w.heap.size ≤ wr.heap.size := HB.out.size
        clear hb2
        cases qq with
        | none =>
          simp only at hq
          subst hq
          go_wp2
          go_ret3
          exact spq_no (by rw [HE.out]; rfl) rfl HB2.out
        | some q =>
          simp only at hq
          obtain ⟨u, rfl, hou⟩ := hq
          have HOU : Hid (OwP 28 w.heap.size u q w2) := World.ownsRow.mono hou hsz
          obtain ⟨ao, m, cap, rfl⟩ := own_sl hou
          clear hou
          go_wp2
          go_ret3
          exact spq_some (by rw [HE.out]; rfl) rfl HO2.out HOU.out HB2.out
  · have HN : Hid (splL s.data.toList = none) := by show splL _ = none; unfold splL; rw [if_neg h47]
    rw [(pre_one _).1, decide_eq_false h47] at HP
    clear h47
    revert HP
    generalize (ByteArray.mk (Lib.trimPrefix s.data.toList [47]).toArray) = t
    intro HP
    go_enter Tryd.func7, Tryd.ntmps7
    go_wp2_with (go_at_call 16; refine (HP.out _).mono ?_; rintro e w' ⟨rfl, rfl⟩)
    go_ret3
    exact spq_no HN.out rfl (Below.refl _ _)
end Go.Proofs.YtflhapnanhbcgaaDoor.Pc

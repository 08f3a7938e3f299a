/- The contract of the document's own Split: for every text of at most five hundred bytes. -/
import Derived.Test.YtedflihgdnfgnaaDoorPcQryR
namespace Go.Proofs.YtedflihgdnfgnaaDoor.Pc
open Go.RowKit Jt
set_option linter.unusedSimpArgs false
set_option linter.unusedVariables false

def SpW (q : Option (List (List UInt8) × List PairL)) (w : World) (e : Ending) (w' : World) : Prop :=
  (match q with | none => e = .returned (.tuple #[.slice none 0 0, .slice none 0 0, .bool false]) | some x => ∃ v u, e = .returned (.tuple #[v, u, .bool true]) ∧ OwS w.heap.size v x.1 w' ∧ OwP 44 w.heap.size u x.2 w') ∧ Below w.heap.size w w'
theorem spw_no {q : Option (List (List UInt8) × List PairL)} {w : World} {e : Ending} {w' : World} (h : q = none) (he : e = .returned (.tuple #[.slice none 0 0, .slice none 0 0, .bool false])) (hb : Below w.heap.size w w') : SpW q w e w' := by subst h; exact ⟨he, hb⟩
theorem spw_some {q : Option (List (List UInt8) × List PairL)} {a : List (List UInt8)} {b : List PairL} {w : World} {e : Ending} {w' : World} {v u : Value} (h : q = some (a, b)) (he : e = .returned (.tuple #[v, u, .bool true])) (ho : OwS w.heap.size v a w') (hp : OwP 44 w.heap.size u b w') (hb : Below w.heap.size w w') : SpW q w e w' := by subst h; exact ⟨⟨v, u, he, ho, hp⟩, hb⟩
theorem hd_at (l : List UInt8) (h : 0 < l.length) : l.headD 0 = l[0] := by
  cases l with
  | nil => simp at h
  | cons a r => rfl
theorem stV_snoc (ps : List (List UInt8)) (p : List UInt8) : stV (ps ++ [p]) = stV ps ++ [.string (mkS p)] := by unfold stV; simp
set_option maxRecDepth 100000 in
set_option maxHeartbeats 8000000 in
theorem SplitR_c (s : ByteArray) (w : World) (hs : s.size ≤ 500) : Calls Tryd.prog 14 #[.string s] w (SpW (splL s.data.toList) w) := by
  by_cases hz : s.size = 0
  · have hem := Nu.empty_of hz
    have HN : Hid (splL s.data.toList = none) := by
      have : s.data.toList = [] := List.length_eq_zero_iff.1 (by rw [← size_l]; exact hz)
      show splL _ = none
      rw [this]; rfl
    clear hz
    go_enter Tryd.func14, Tryd.ntmps14
    go_wp2
    go_ret3
    exact spw_no HN.out rfl (Below.refl _ _)
  have h0 : 0 < s.size := by omega
  have hem := Nu.empty_no hz
  have hhd : s.data.toList.headD 0 = s[0] := by
    have hl : 0 < s.data.toList.length := by rw [← size_l]; exact h0
    rw [← data_at h0 hl]
    exact hd_at _ hl
  by_cases h47 : s[0] = 47
  · have hz47 : ((s[0].toNat : Nat) : Int) = 47 := (byte_is _ 47 (by omega)).2 h47
    have e1 : splL s.data.toList = splR (s.data.toList.drop 1) := by unfold splL; rw [hhd, if_pos h47]
    rw [e1]
    have HC := Lib.hid (fun W => cutR_c (s.extract 1 s.size) 63 63 rfl W (by rw [ByteArray.size_extract]; omega))
    have hed : (s.extract 1 s.size).data.toList = s.data.toList.drop 1 := by rw [extN, data_mkS]
    rw [hed] at HC
    have hlen : (s.data.toList.drop 1).length ≤ 500 := by rw [List.length_drop, ← size_l]; omega
    have hl := cutP_len 63 (s.data.toList.drop 1)
    clear e1 h47 hhd hed
    unfold splR
    revert HC hl hlen
    generalize s.data.toList.drop 1 = r
    generalize cutP 63 r = ab
    intro HC hlen hl
    obtain ⟨a, b⟩ := ab
    simp only at HC hl ⊢
    have HS := Lib.hid (fun W => Ch.cut_r (mkS a) 47 W (by rw [size_mkS]; omega) (by omega) (by omega))
    rw [data_mkS, show (47 : Int).toNat.toUInt8 = 47 from rfl] at HS
    have hcl : (Ch.cutL 47 a).length ≤ 501 := by have := Ch.cutL_len 47 a; omega
    have hcp := cutL_pos 47 a
    have HPL : Hid (∀ p ∈ Ch.cutL 47 a, p.length ≤ 500) := fun p hp => by have := Ch.cutL_part 47 a p hp; omega
    revert HS hcl HPL hcp
    generalize Ch.cutL 47 a = ps
    intro HS hcl hcp HPL
    have HQC := Lib.hid (fun W => QueryR_c (mkS b) W (by rw [size_mkS]; omega))
    rw [data_mkS] at HQC
    revert HQC
    generalize qryL b = qq
    intro HQC
    generalize mkS a = sa at HC HS ⊢
    generalize mkS b = sb at HC HQC ⊢
    clear hl hlen
    obtain ⟨i0, hi, hz0, hz1, hz2⟩ := info_parts info9'
    have HS0 := Lib.hid (dae_start ps)
    go_enter Tryd.func14, Tryd.ntmps14
    go_wp2_with (go_at_call 31; refine (HC.out _).mono ?_; rintro e w' ⟨rfl, n, hw⟩; rw [hw]; clear hw)
    refine (HS.out _).mono ?_
    rintro e wa ⟨vp, rfl, hO, hb⟩
    have hb' : Below w.heap.size w wa := (bdrw (Below.refl w.heap.size w) n).trans hb
    clear HC HS hb
    obtain ⟨g, cap0, rfl⟩ := own_form hO hcp
    have hgl : g < wa.heap.size := ((hO.lt g rfl).2)
    have HCL : Hid (∀ k (hk : k < ps.length), wa.cell? ⟨g, k, none⟩ = some (.string (mkS ps[k]))) := fun k hk => Ch.cell_of_owned hO k hk
    have HBA := Lib.hid hb'
    have hsw : w.heap.size ≤ wa.heap.size := hb'.size
    clear hO hb'
    go_wp2
    go_loopw [7, 30] (fun vl v wr => ∃ (k : Nat) (ds : List (List UInt8)), v = .int .i64 (k : Int) ∧ DaE ps k ds ∧ OwS wa.heap.size vl ds wr ∧ Below wa.heap.size wa wr) (fun _ v _ => ps.length - (intOf v).toNat)
    case atStart => exact ⟨0, [], rfl, HS0.out, World.ownsRow_nil _ _ _ _, Below.refl _ _⟩
    case round =>
      clear HS0
      obtain ⟨k, ds, rfl, hD, hown, hB⟩ := hrel
      have hk : k ≤ ps.length := hD.1
      have hdl : ds.length = k := hD.2.1
      have HD := Lib.hid hD
      have HO := Lib.hid hown
      have HB := Lib.hid hB
      have HWR : Hid (Below w.heap.size w wr) := HBA.out.trans (hB.mono hsw)
      obtain ⟨ao, n1, cap, rfl⟩ := own_sl hown
      clear hD hown
      by_cases hlt : k < ps.length
      · have hcell : wr.cell? ⟨g, k, none⟩ = some (.string (mkS ps[k])) := (hB.cell (p := ⟨g, k, none⟩) hgl).trans (HCL.out k hlt)
        clear hB
        have HDC := Lib.hid (fun W => DecodeR_c (mkS ps[k]) false W (by rw [size_mkS]; exact HPL.out _ (List.getElem_mem _)))
        rw [data_mkS] at HDC
        cases hx : decL false ps[k] with
        | none =>
          have HN := Lib.hid (dae_bad HD.out hlt hx)
          simp only [decW, hx] at HDC
          clear hx
          revert hcell HDC
          generalize mkS ps[k] = t
          intro hcell HDC
          go_wp2_with fail
          refine (HDC.out _).mono ?_
          rintro e w2 ⟨rfl, hb2⟩
          have HB2 : Hid (Below w.heap.size w w2) := HWR.out.trans (hb2.mono HWR.out.size)
          clear hb2
          go_wp2
          go_ret3
          exact spw_no (by rw [HN.out]; rfl) rfl HB2.out
        | some d =>
          have HD1 := Lib.hid (dae_step HD.out hlt hx)
          simp only [decW, hx] at HDC
          clear hx
          revert hcell HDC
          generalize mkS ps[k] = t
          intro hcell HDC
          go_wp2_with fail
          refine (HDC.out _).mono ?_
          rintro e w3 ⟨rfl, hb2⟩
          have HB3 : Hid (Below wa.heap.size wa w3) := HB.out.trans (hb2.mono HB.out.size)
          have HO3 := Lib.hid (HO.out.go hb2)
          clear hb2
          go_wp2_with (at_builtin; refine wpList_append_own _ rfl _ _ 30 rfl wa.heap.size 9 i0 (.string ByteArray.empty) 1 16 Tryd.underlying30 hi hz0 hz1 hz2 rfl (by decide) _ _ _ rfl (World.ownsRow.alloc HO3.out _) ⟨w3.heap.size, 0, none⟩ 1 1 [.string (mkS d)] rfl rfl ?c1 ?c2 ?c3 ?c4 ?c5 ?_)
          case c1 =>
            intro j u hj
            match j, hj with
            | 0, hj => simp at hj; subst hj; simp [Addr.add]
          case c2 => intro u hu; simp at hu; subst hu; rfl
          case c3 => unfold maxLen; omega
          case c4 => omega
          case c5 => have := HB3.out.size; simp; omega
          intro v' w5 hown' hgrow _
          have HO5 : Hid (OwS wa.heap.size v' (ds ++ [d]) w5) := by
            show OwS wa.heap.size v' (ds ++ [d]) w5
            unfold OwS
            rw [stV_snoc, List.length_append, hdl]
            exact hown'
          have HB5 : Hid (Below wa.heap.size wa w5) := (HB3.out.alloc HB3.out.size _).grown hgrow (by have := HB3.out.size; simp; omega) (fun k hk => (HO3.out.lt k hk).1)
          clear hown' hgrow
          go_wp2
          go_roundw
          case rel => exact ⟨k + 1, ds ++ [d], by go_num, HD1.out, HO5.out, HB5.out⟩
          case measure => simp [intOf]; omega
      · have HE := Lib.hid (dae_end HD.out (by omega))
        clear hB
        go_wp2_with fail
        refine (HQC.out _).mono ?_
        intro e w2 hq
        obtain ⟨hq, hb2⟩ := hq
        have HB2 : Hid (Below w.heap.size w w2) := HWR.out.trans (hb2.mono HWR.out.size)
        have HO2 : Hid (OwS w.heap.size (.slice ao n1 cap) ds w2) := World.ownsRow.mono (HO.out.go hb2) hsw
        have hsz : w.heap.size ≤ wr.heap.size := HWR.out.size
        clear hb2
        cases qq with
        | none =>
          simp only at hq
          subst hq
          go_wp2
          go_ret3
          exact spw_no (by rw [HE.out]; rfl) rfl HB2.out
        | some q =>
          simp only at hq
          obtain ⟨u, rfl, hou⟩ := hq
          have HOU : Hid (OwP 44 w.heap.size u q w2) := World.ownsRow.mono hou hsz
          obtain ⟨ao2, m, cap2, rfl⟩ := own_sl hou
          clear hou
          go_wp2
          go_ret3
          exact spw_some (by rw [HE.out]; rfl) rfl HO2.out HOU.out HB2.out
  · have hz47 : ¬ ((s[0].toNat : Nat) : Int) = 47 := fun h => h47 ((byte_is _ 47 (by omega)).1 h)
    have hq47 : (((s[0].toNat : Nat) : Int) == 47) = false := by simpa using hz47
    have HN : Hid (splL s.data.toList = none) := by show splL _ = none; unfold splL; rw [hhd, if_neg h47]
    clear hhd h47
    go_enter Tryd.func14, Tryd.ntmps14
    go_wp2
    go_ret3
    exact spw_no HN.out rfl (Below.refl _ _)
end Go.Proofs.YtedflihgdnfgnaaDoor.Pc

/- Contracts of package page's Names and of the document's: for every text of at most nine hundred bytes. -/
import Derived.Test.YtbafjilhopgjmaaDoorPgF
namespace Go.Proofs.YtbafjilhopgjmaaDoor.Pg
open Go.RowKit Ch
set_option linter.unusedSimpArgs false
set_option linter.unusedVariables false

def nmB (l : List UInt8) : Bool := !namB l
set_option maxRecDepth 100000 in
set_option maxHeartbeats 2000000 in
theorem clo_c (s : ByteArray) (w : World) (hs : s.size ≤ 1000) : Calls Tryd.prog 23 #[.string s] w fun e w' => e = .returned (.bool (nmB s.data.toList)) ∧ w = w' := by
  have HN := Lib.hid (fun W => Name_c s W hs)
  unfold nmB
  revert HN
  generalize namB s.data.toList = b
  intro HN
  go_enter Tryd.func23, Tryd.ntmps23
  go_wp2_with (go_at_call 24; (with_reducible refine (HN.out _).mono ?_); rintro e w' ⟨rfl, hw⟩; rw [← hw]; clear hw)
  go_ret
  exact ⟨rfl, rfl⟩
theorem any_take {ps : List (List UInt8)} {j : Nat} (hj : j < ps.length) (h : ∀ k (hk : k < ps.length), k < j → nmB ps[k] = false) (hp : nmB ps[j] = false) : ∀ k (hk : k < ps.length), k < j + 1 → nmB ps[k] = false := fun k hk hlt => by
  rcases Nat.lt_succ_iff_lt_or_eq.1 hlt with g | g
  · exact h k hk g
  · subst g; exact hp
set_option maxRecDepth 100000 in
set_option maxHeartbeats 4000000 in
theorem idxf_c (v : Value) (ps : List (List UInt8)) (w : World) (hR : StR v ps w) (hm : ps.length ≤ 1000000) (hs : ∀ p ∈ ps, p.length ≤ 1000) :
    Calls Tryd.prog 35 #[v, .func (.func 23) #[] #[]] w fun e w' => ∃ r : Int, e = .returned (.int .i64 r) ∧ decide (0 ≤ r) = ps.any nmB ∧ Below w.heap.size w w' := by
  have HR := Lib.hid hR
  have HS := Lib.hid hs
  obtain ⟨ao, cap, rfl, hr⟩ := hR
  clear hr hs
  go_enter Tryd.func35, Tryd.ntmps35
  go_wp2
  go_loopw [8] (fun i wr => ∃ j : Nat, j ≤ ps.length ∧ i = .int .i64 j ∧ Hid (Below w.heap.size w wr) ∧ Hid (∀ k (hk : k < ps.length), k < j → nmB ps[k] = false)) (fun i _ => ps.length - (intOf i).toNat)
  case atStart => exact ⟨0, by omega, rfl, Lib.hid (Below.refl _ _), Lib.hid (fun k hk h => absurd h (Nat.not_lt_zero _))⟩
  case round =>
    obtain ⟨j, hj, rfl, HB, HN⟩ := hrel
    have HRW := Lib.hid (HR.out.go HB.out)
    by_cases hlt : j < ps.length
    · obtain ⟨ao', cap', e, hc⟩ := HRW.out
      injection e with ea eb ec
      subst ea ec
      obtain ⟨g, rfl, hg, hat⟩ := hc (by omega)
      have k0 := hat j hlt
      have hj0 : (0 : Int) ≤ (j : Int) := by omega
      have hjl : (j : Int) < (ps.length : Int) := by omega
      have HC := Lib.hid (fun W => clo_c (mkS ps[j]) W (by rw [size_mkS]; exact HS.out _ (List.getElem_mem hlt)))
      rw [data_mkS] at HC
      clear hat hc
      cases hp : nmB ps[j] with
      | true =>
        rw [hp] at HC
        have HA : Hid (ps.any nmB = true) := by show _ = _; rw [List.any_eq_true]; exact ⟨_, List.getElem_mem hlt, hp⟩
        clear hp
        revert k0 HC
        generalize mkS ps[j] = x
        intro k0 HC
        go_wp2_with fail
        (with_reducible refine (HC.out _).mono ?_)
        rintro e w2 ⟨rfl, hw⟩
        rw [← hw]; clear hw
        go_wp2
        go_ret
        exact ⟨_, rfl, by rw [HA.out]; exact decide_eq_true hj0, HB.out⟩
      | false =>
        rw [hp] at HC
        have HN2 := Lib.hid (any_take hlt HN.out hp)
        clear hp HN
        revert k0 HC
        generalize mkS ps[j] = x
        intro k0 HC
        go_wp2_with fail
        (with_reducible refine (HC.out _).mono ?_)
        rintro e w2 ⟨rfl, hw⟩
        rw [← hw]; clear hw
        go_wp2
        go_roundw
        case rel => exact ⟨j + 1, by omega, by go_num, HB, HN2⟩
        case measure => simp [intOf]; omega
    · have HA : Hid (ps.any nmB = false) := by
        show _ = _
        rw [List.any_eq_false]
        intro f hf
        obtain ⟨k, hk, rfl⟩ := List.mem_iff_getElem.1 hf
        rw [HN.out k hk (by omega)]; simp
      go_wp2
      go_ret
      exact ⟨_, rfl, by rw [HA.out]; rfl, HB.out⟩
set_option maxRecDepth 100000 in
set_option maxHeartbeats 2000000 in
theorem hasf_c (v : Value) (ps : List (List UInt8)) (w : World) (hR : StR v ps w) (hm : ps.length ≤ 1000000) (hs : ∀ p ∈ ps, p.length ≤ 1000) :
    Calls Tryd.prog 22 #[v, .func (.func 23) #[] #[]] w fun e w' => e = .returned (.bool (ps.any nmB)) ∧ Below w.heap.size w w' := by
  have HI := Lib.hid (idxf_c v ps w hR hm hs)
  obtain ⟨ao, cap, rfl, _⟩ := hR
  clear hs
  generalize ps.any nmB = q at HI ⊢
  go_enter Tryd.func22, Tryd.ntmps22
  go_wp2_with fail
  refine HI.out.mono ?_
  rintro e w1 ⟨r, rfl, hr, hb1⟩
  have HQ := Lib.hid hr
  have HB := Lib.hid hb1
  clear hr hb1
  go_wp2
  go_ret
  exact ⟨by rw [← HQ.out]; rfl, HB.out⟩
/-- names with commas between -/
def nmL (l : List UInt8) : Option (List (List UInt8)) := if l = [] then some [] else if (cutL 44 l).any nmB then none else some (cutL 44 l)
def NmQ (q : Option (List (List UInt8))) (w : World) (e : Ending) (w' : World) : Prop := Below w.heap.size w w' ∧ match q with
  | some ps => ∃ v, e = .returned (.tuple #[v, .int .i64 0]) ∧ StR v ps w'
  | none => e = .returned (.tuple #[.slice none 0 0, .int .i64 3])
def NmW (q : Option (List (List UInt8))) (w : World) (e : Ending) (w' : World) : Prop := Below w.heap.size w w' ∧ match q with
  | some ps => ∃ v, e = .returned (.tuple #[v, .bool true]) ∧ StR v ps w'
  | none => e = .returned (.tuple #[.slice none 0 0, .bool false])
theorem str_nil (w : World) : StR (.slice none 0 0) [] w := ⟨none, 0, rfl, fun h => absurd h (by simp)⟩
theorem strsC_len (ps : List (List UInt8)) : (strsC ps).size = ps.length := by simp [strsC]
theorem str_made (ps : List (List UInt8)) (w : World) (cap : Nat) : StR (.slice (some ⟨w.heap.size, 0, none⟩) ps.length cap) ps (w.alloc (.cells (strsC ps) 9)) := by
  refine ⟨_, cap, rfl, fun _ => ⟨w.heap.size, rfl, by rw [World.size_alloc]; exact Nat.lt_succ_self _, fun k hk => ?_⟩⟩
  have hk2 := heap_alloc_new w (.cells (strsC ps) 9)
  have : (strsC ps)[k]? = some (.string (mkS ps[k])) := by simp [strsC, hk]
  unfold World.cell?
  rw [hk2]
  exact this
set_option maxRecDepth 100000 in
set_option maxHeartbeats 4000000 in
theorem Names_c (s : ByteArray) (w : World) (hs : s.size ≤ 900) : Calls Tryd.prog 11 #[.string s] w (NmQ (nmL s.data.toList) w) := by
  have hem := str_empty s.data.toList
  rw [← mkS_of rfl] at hem
  have HQ : Hid (nmL s.data.toList = if s.data.toList = [] then some [] else if (cutL 44 s.data.toList).any nmB then none else some (cutL 44 s.data.toList)) := rfl
  by_cases h : s.data.toList = []
  · have h1 : s.toList.isEmpty = true := by rw [hem, h]; rfl
    rw [if_pos h] at HQ
    clear h hem
    go_enter Tryd.func11, Tryd.ntmps11
    go_wp2
    go_ret2
    exact ⟨Below.refl _ _, by rw [HQ.out]; exact ⟨_, rfl, str_nil _⟩⟩
  · have h1 : s.toList.isEmpty = false := by rw [hem]; simpa using h
    rw [if_neg h] at HQ
    have hlen := cutL_len 44 s.data.toList
    have hpart := cutL_part 44 s.data.toList
    rw [← Lib.size_eq s] at hlen hpart
    have HS := Lib.hid (fun W => split_c s 44 W (by omega))
    clear h hem
    revert HS HQ hlen hpart
    generalize nmL s.data.toList = q
    generalize cutL 44 s.data.toList = ps
    intro HQ hlen hpart HS
    have HH := Lib.hid (fun v W h => hasf_c v ps W h (by omega) (fun p hp => by have := hpart p hp; omega))
    clear hpart
    have HB : Hid (Below w.heap.size w (w.alloc (.cells (strsC ps) 9))) := (Below.refl _ _).alloc (Nat.le_refl _) _
    have HM := Lib.hid (str_made ps w ps.length)
    cases hb : ps.any nmB with
    | true =>
      rw [hb] at HH HQ
      clear hb
      go_enter Tryd.func11, Tryd.ntmps11
      go_wp2_with fail
      (with_reducible refine (HS.out _).mono ?_)
      rintro e w1 ⟨rfl, hw⟩
      rw [hw]; clear hw
      go_wp2_with fail
      (with_reducible refine (HH.out _ _ HM.out).mono ?_)
      rintro e w2 ⟨rfl, hb2⟩
      have HB2 : Hid (Below w.heap.size w w2) := HB.out.trans (hb2.mono HB.out.size)
      clear hb2
      go_wp2
      go_ret2
      exact ⟨HB2.out, by rw [HQ.out]; rfl⟩
    | false =>
      rw [hb] at HH HQ
      clear hb
      go_enter Tryd.func11, Tryd.ntmps11
      go_wp2_with fail
      (with_reducible refine (HS.out _).mono ?_)
      rintro e w1 ⟨rfl, hw⟩
      rw [hw]; clear hw
      go_wp2_with fail
      (with_reducible refine (HH.out _ _ HM.out).mono ?_)
      rintro e w2 ⟨rfl, hb2⟩
      have HB2 : Hid (Below w.heap.size w w2) := HB.out.trans (hb2.mono HB.out.size)
      have HM2 := Lib.hid (HM.out.go hb2)
      clear hb2
      go_wp2
      go_ret2
      exact ⟨HB2.out, by rw [HQ.out]; exact ⟨_, rfl, HM2.out⟩⟩
set_option maxRecDepth 100000 in
set_option maxHeartbeats 4000000 in
theorem NamesR_c (s : ByteArray) (w : World) (hs : s.size ≤ 900) : Calls Tryd.prog 12 #[.string s] w (NmW (nmL s.data.toList) w) := by
  have hem := str_empty s.data.toList
  rw [← mkS_of rfl] at hem
  have HQ : Hid (nmL s.data.toList = if s.data.toList = [] then some [] else if (cutL 44 s.data.toList).any nmB then none else some (cutL 44 s.data.toList)) := rfl
  by_cases h : s.data.toList = []
  · have h1 : s.toList.isEmpty = true := by rw [hem, h]; rfl
    rw [if_pos h] at HQ
    clear h hem
    go_enter Tryd.func12, Tryd.ntmps12
    go_wp2
    go_ret2
    exact ⟨Below.refl _ _, by rw [HQ.out]; exact ⟨_, rfl, str_nil _⟩⟩
  · have h1 : s.toList.isEmpty = false := by rw [hem]; simpa using h
    rw [if_neg h] at HQ
    have hlen := cutL_len 44 s.data.toList
    have hpart := cutL_part 44 s.data.toList
    have h0 : 0 < (cutL 44 s.data.toList).length := by unfold cutL; simp
    rw [← Lib.size_eq s] at hlen hpart
    have HC : Hid (∀ W, Calls Tryd.prog 19 #[.string s, .int .u8 44] W (Owned W.heap.size (cutL 44 s.data.toList) W)) := fun W => cut_r s 44 W (by omega) (by omega) (by omega)
    clear h hem
    revert HC HQ hlen hpart h0
    generalize nmL s.data.toList = q
    generalize cutL 44 s.data.toList = ps
    intro HQ hlen hpart h0 HC
    have HP := Lib.hid hpart
    clear hpart
    go_enter Tryd.func12, Tryd.ntmps12
    go_wp2_with fail
    (with_reducible refine (HC.out _).mono ?_)
    rintro e w1 ⟨v, rfl, hO, hb⟩
    obtain ⟨g, cap, rfl⟩ := Joins.ownsRow_form hO h0
    have HM := Lib.hid (StR.own (ao := none) (cap := 0) hO h0)
    have hg : g < w1.heap.size := (hO.lt g rfl).2
    have HAT : Hid (∀ k (hk : k < ps.length), w1.cell? ⟨g, k, none⟩ = some (.string (mkS ps[k]))) := fun k hk => cell_of_owned hO k hk
    have HB := Lib.hid hb
    clear hO hb
    go_wp2
    go_loopw [13] (fun i wr => ∃ j : Nat, j ≤ ps.length ∧ i = .int .i64 j ∧ Hid (Below w1.heap.size w1 wr) ∧ Hid (∀ k (hk : k < ps.length), k < j → nmB ps[k] = false)) (fun i _ => ps.length - (intOf i).toNat)
    case atStart => exact ⟨0, by omega, rfl, Lib.hid (Below.refl _ _), Lib.hid (fun k hk h => absurd h (Nat.not_lt_zero _))⟩
    case round =>
      obtain ⟨j, hj, rfl, HBR, HN⟩ := hrel
      by_cases hlt : j < ps.length
      · have k0 := (HBR.out.cell (p := ⟨g, j, none⟩) hg).trans (HAT.out j hlt)
        have hj0 : (0 : Int) ≤ (j : Int) := by omega
        have hjl : (j : Int) < (ps.length : Int) := by omega
        have HNR := Lib.hid (fun W => NameR_c (mkS ps[j]) W (by rw [size_mkS]; have := HP.out _ (List.getElem_mem hlt); omega))
        rw [data_mkS] at HNR
        cases hp : namB ps[j] with
        | false =>
          rw [hp] at HNR
          have HA : Hid (ps.any nmB = true) := by show _ = _; rw [List.any_eq_true]; exact ⟨_, List.getElem_mem hlt, by unfold nmB; rw [hp]; rfl⟩
          clear hp
          revert k0 HNR
          generalize mkS ps[j] = x
          intro k0 HNR
          go_wp2_with fail
          (with_reducible refine (HNR.out _).mono ?_)
          rintro e w2 ⟨rfl, hw⟩
          rw [← hw]; clear hw
          go_wp2
          go_ret2
          exact ⟨HB.out.trans (HBR.out.mono HB.out.size), by rw [HQ.out, HA.out]; rfl⟩
        | true =>
          rw [hp] at HNR
          have HN2 := Lib.hid (any_take hlt HN.out (by unfold nmB; rw [hp]; rfl))
          clear hp HN
          revert k0 HNR
          generalize mkS ps[j] = x
          intro k0 HNR
          go_wp2_with fail
          (with_reducible refine (HNR.out _).mono ?_)
          rintro e w2 ⟨rfl, hw⟩
          rw [← hw]; clear hw
          go_wp2
          go_roundw
          case rel => exact ⟨j + 1, by omega, by go_num, HBR, HN2⟩
          case measure => simp [intOf]; omega
      · have HA : Hid (ps.any nmB = false) := by
          show _ = _
          rw [List.any_eq_false]
          intro f hf
          obtain ⟨k, hk, rfl⟩ := List.mem_iff_getElem.1 hf
          rw [HN.out k hk (by omega)]; simp
        have HM2 := Lib.hid (HM.out.go HBR.out)
        go_wp2
        go_ret2
        exact ⟨HB.out.trans (HBR.out.mono HB.out.size), by rw [HQ.out, HA.out]; exact ⟨_, rfl, HM2.out⟩⟩
end Go.Proofs.YtbafjilhopgjmaaDoor.Pg
